/- What is proved here: what the document's Decode of layer 8 tells as its fault, of any bytes. Conditions: few bytes. -/
import Derived.Test.YtfkimpcaokgldaaGreatDoorRde8b
import Derived.Test.YtfkimpcaokgldaaGreatDoorRdg8a
import Derived.Test.YtfkimpcaokgldaaGreatDoorRdg8b
namespace Go.Proofs.YtfkimpcaokgldaaGreatDoor
set_option maxRecDepth 100000
open Go.ChangeShapes Go.WideShapes Go.RowKit Go.Deep Go.Extern.Stop Go.Stop Go.Extern
theorem num1_lt8 (s : ByteArray) (R : RV) : (rNum s 1 R).1 < 256 := by
  have h1 := bv_lt (rTake s 1 R).1.data.toList
  have h2 := take_size s 1 R
  rw [bLen] at h1
  have h3 : 256 ^ (rTake s 1 R).1.size ≤ 256 ^ 1 := Nat.pow_le_pow_right (by omega) h2
  have e : (rNum s 1 R).1 = bv (rTake s 1 R).1.data.toList := rfl
  omega
theorem hdK3_256 (s : ByteArray) (R : RV) : (hdK3 s R).2.1 < 256 := by
  have h := num1_lt8 s R
  unfold hdK3
  generalize rNum s 1 R = q at h
  obtain ⟨n, V⟩ := q
  simp only at h ⊢
  repeat' split
  all_goals first | exact h | exact Nat.zero_lt_succ _
theorem hdK2_256 (s : ByteArray) (R : RV) : (hdK2 s R).2.1 < 256 := by
  unfold hdK2
  by_cases c : (rNum s 1 R).2.no = 0 ∧ (rNum s 1 R).1 ≠ 5
  · rw [if_pos c]; exact Nat.zero_lt_succ _
  · rw [if_neg c]; exact hdK3_256 _ _
theorem hdK_256 (s : ByteArray) : (hdK s).2.1 < 256 := by
  unfold hdK
  by_cases c : (rText s ⟨0, 0, 0⟩).2.no = 0 ∧ (rText s ⟨0, 0, 0⟩).1 ≠ mqtt
  · rw [if_pos c]; exact Nat.zero_lt_succ _
  · rw [if_neg c]; exact hdK2_256 _ _
theorem dcK6_f (s : ByteArray) (p : Pk) (R : RV) : (dcK6 s p R).1 = ⟨(ofR (dnR s R)).1, (ofR (dnR s R)).2.1, (ofR (dnR s R)).2.2⟩ := by
  unfold dcK6 dnR
  by_cases h0 : R.no = 0
  · rw [if_pos h0, if_pos h0]
    by_cases h1 : R.p < s.size
    · rw [if_pos h1, if_pos h1]; rfl
    · rw [if_neg h1, if_neg h1]; rfl
  · rw [if_neg h0, if_neg h0]
    unfold ofR
    rw [if_neg h0]
theorem has128_i {n : Nat} (h : n < 256) : ((n : Int) / 128 == 1) = has128 n := by
  unfold has128
  by_cases c : n / 128 % 2 = 1
  · rw [decide_eq_true c, beq_iff_eq]; omega
  · rw [decide_eq_false c, beq_eq_false_iff_ne]; omega
theorem has64_i (n : Nat) : ((n : Int) / 64 % 2 == 1) = has64 n := by
  unfold has64
  by_cases c : n / 64 % 2 = 1
  · rw [decide_eq_true c, beq_iff_eq]; omega
  · rw [decide_eq_false c, beq_eq_false_iff_ne]; omega
theorem has4_i (n : Nat) : ((n : Int) / 4 % 2 == 1) = has4 n := by
  unfold has4
  by_cases c : n / 4 % 2 = 1
  · rw [decide_eq_true c, beq_iff_eq]; omega
  · rw [decide_eq_false c, beq_eq_false_iff_ne]; omega
theorem us_t {s : ByteArray} {n : Nat} {R : RV} (h : has128 n = true) : usK s n R = rText s R := if_pos h
theorem us_f {s : ByteArray} {n : Nat} {R : RV} (h : has128 n = false) : usK s n R = (⟨#[]⟩, R) := if_neg (by rw [h]; decide)
theorem ps_t {s : ByteArray} {n : Nat} {R : RV} (h : has64 n = true) : psK s n R = rBin s R := if_pos h
theorem ps_f {s : ByteArray} {n : Nat} {R : RV} (h : has64 n = false) : psK s n R = (⟨#[]⟩, R) := if_neg (by rw [h]; decide)
set_option maxHeartbeats 4000000 in
theorem rdec08 {w : World} {s : ByteArray} (hs : s.size ≤ 900000) : Calls Tryz.prog 35 #[.agg #[.int .i64 16, .string s]] w (RDc w (dcK 16 s).1) := by
  have h256 := hdK_256 s
  obtain ⟨⟨e0, n, Rh⟩, hh⟩ : ∃ V, hdK s = V := ⟨_, rfl⟩
  have e1 : dcK 16 s = dcK1 s (e0, n, Rh) := by unfold dcK; rw [if_pos rfl, hh]
  rw [e1]
  unfold dcK1
  rw [hh] at h256
  have hn : n < 256 := h256
  by_cases hx : e0.no = 0
  case neg =>
    rw [if_neg hx]
    exact rdec08_h hs hh hx
  case pos =>
    rw [if_pos hx]
    obtain ⟨⟨kp, Rk⟩, hk⟩ : ∃ V, rNum s 2 Rh = V := ⟨_, rfl⟩
    obtain ⟨⟨⟨rn, rr, ra, rL⟩, Rp⟩, hF⟩ : ∃ V, readF 1 s Rk = V := ⟨_, rfl⟩
    unfold dcK2 dcK3
    simp only
    rw [hk]
    simp only
    rw [hF]
    simp only
    have b128 := has128_i hn
    have b64 := has64_i n
    have b4 := has4_i n
    by_cases hy : rn = 0
    case neg =>
      rw [if_neg hy]
      exact rdec08_p hs hh hn hx hk hF b128 b64 hy
    case pos =>
      rw [if_pos hy]
      obtain ⟨⟨cl, Rc⟩, hc⟩ : ∃ V, rText s Rp = V := ⟨_, rfl⟩
      rw [hc]
      simp only
      unfold dcK4
      rcases h4 : has4 n with _ | _
      · rw [if_neg (by decide)]
        unfold dcK5
        rw [dcK6_f]
        obtain ⟨⟨us, Ru⟩, hus⟩ : ∃ V, usK s n Rc = V := ⟨_, rfl⟩
        rw [hus]
        simp only
        obtain ⟨⟨ps, Rx⟩, hps⟩ : ∃ V, psK s n Ru = V := ⟨_, rfl⟩
        rw [hps]
        simp only
        obtain ⟨⟨on, og, oa⟩, ho⟩ : ∃ V, ofR (dnR s Rx) = V := ⟨_, rfl⟩
        rw [ho]
        exact rdec08_g0 hs hh hn hx hk hF b128 b64 hy hc (b4.trans h4) hus hps ho
      · rw [if_pos rfl]
        obtain ⟨⟨⟨wn, wr, wa, wL⟩, Rw⟩, hG⟩ : ∃ V, readF 16 s Rc = V := ⟨_, rfl⟩
        rw [hG]
        simp only
        by_cases hw : wn = 0
        case neg =>
          rw [if_neg hw]
          exact rdec08_w hs hh hn hx hk hF b128 b64 hy hc (b4.trans h4) hG hw
        case pos =>
          rw [if_pos hw]
          obtain ⟨⟨wt, Rt⟩, hwt⟩ : ∃ V, rText s Rw = V := ⟨_, rfl⟩
          rw [hwt]
          simp only
          obtain ⟨⟨wp, Rv⟩, hwp⟩ : ∃ V, rBin s Rt = V := ⟨_, rfl⟩
          rw [hwp]
          simp only
          unfold dcK5
          rw [dcK6_f]
          obtain ⟨⟨us, Ru⟩, hus⟩ : ∃ V, usK s n Rv = V := ⟨_, rfl⟩
          rw [hus]
          simp only
          obtain ⟨⟨ps, Rx⟩, hps⟩ : ∃ V, psK s n Ru = V := ⟨_, rfl⟩
          rw [hps]
          simp only
          obtain ⟨⟨on, og, oa⟩, ho⟩ : ∃ V, ofR (dnR s Rx) = V := ⟨_, rfl⟩
          rw [ho]
          exact rdec08_g1 hs hh hn hx hk hF b128 b64 hy hc (b4.trans h4) hG hw hwt hwp hus hps ho
end Go.Proofs.YtfkimpcaokgldaaGreatDoor

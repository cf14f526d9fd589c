/- What is proved here: head and malformed of package connect tell what plain functions say. Conditions: few bytes; what the rows list of the package's variables. -/
import Derived.Test.YtbfbmdjnobdjpaaGreatDoorFlg08
namespace Go.Proofs.YtbfbmdjnobdjpaaGreatDoor
set_option maxRecDepth 100000
open Go.ChangeShapes Go.WideShapes Go.RowKit Go.Deep Go.Extern.Stop Go.Stop Go.Extern
theorem bk_1 : ∀ f : Nat, f < 256 → bits BinOp.and IntKind.i64 (f : Int) 1 = ((f % 2 : Nat) : Int) := by decide +kernel
theorem bk_q : ∀ f : Nat, f < 256 → bits BinOp.and IntKind.i64 ((f : Int) / 8) 3 = ((qosK f : Nat) : Int) := by decide +kernel
theorem bk_2 : ∀ f : Nat, f < 256 → bits BinOp.and IntKind.i64 (f : Int) 2 = if has2 f then 2 else 0 := by decide +kernel
theorem bk_4 : ∀ f : Nat, f < 256 → bits BinOp.and IntKind.i64 (f : Int) 4 = if has4 f then 4 else 0 := by decide +kernel
theorem bk_32 : ∀ f : Nat, f < 256 → bits BinOp.and IntKind.i64 (f : Int) 32 = if has32 f then 32 else 0 := by decide +kernel
theorem bk_64 : ∀ f : Nat, f < 256 → bits BinOp.and IntKind.i64 (f : Int) 64 = if has64 f then 64 else 0 := by decide +kernel
theorem bk_128 : ∀ f : Nat, f < 256 → bits BinOp.and IntKind.i64 (f : Int) 128 = if has128 f then 128 else 0 := by decide +kernel
theorem num1_lt (s : ByteArray) (R : RV) : (rNum s 1 R).1 < 256 := by
  have h := bv_lt (rTake s 1 R).1.data.toList
  have h2 := take_size s 1 R
  rw [bLen] at h
  have h3 : 256 ^ (rTake s 1 R).1.size ≤ 256 ^ 1 := Nat.pow_le_pow_right (by decide) h2
  exact Nat.lt_of_lt_of_le h h3
section
variable {w w' z' W : World} {S : Nat → Addr} {s : ByteArray} {g : Nat}
def MkSays (w : World) (S : Nat → Addr) (a : Nat) (x : Ending) (w' : World) : Prop := ∃ e, x = .returned e ∧ ErrOf w' S 129 2 a e ∧ Below w.heap.size w w'
theorem mal08 (hE : Env w S) (a : Nat) : Calls Tryz.prog 51 #[.int .i64 a] w (MkSays w S a) := by
  have kM := hE.kMalformed
  have HN := Lib.hid (new_err (w := w) S 1 129 a)
  clear hE
  go_enter Tryz.func51, Tryz.ntmps51
  go_wp2_with fail
  refine HN.out.mono ?_
  rintro x w1 ⟨e, rfl, he, hb⟩
  have HX := Lib.hid (show MkSays w S a (.returned e) w1 from ⟨e, rfl, ErrOf.some (no := 2) (by decide) (by decide) he, hb⟩)
  clear he hb HN kM
  go_wp2_with fail
  go_ret
  exact HX.out
set_option maxHeartbeats 16000000 in
theorem head08 (hE : Env z' S) (hz : Below z'.heap.size z' W) (hg : z'.heap.size ≤ g) (h : RObj W S g s ⟨0, 0, 0⟩) (hs : s.size ≤ 900000) : Calls Tryz.prog 67 #[.pointer (some ⟨g, 0, none⟩)] W (IdSays W S g s (hdK s)) := by
  obtain ⟨q, hq⟩ : ∃ q, q = hdK s := ⟨_, rfl⟩
  rw [← hq]
  unfold hdK hdK2 hdK3 at hq
  have htx := rdtext_any (env_cl hE hz hg) h hs
  obtain ⟨⟨nm, R1⟩, h1⟩ : ∃ V, V = rText s ⟨0, 0, 0⟩ := ⟨_, rfl⟩
  rw [← h1] at htx hq
  simp only at hq
  have HTX := Lib.hid htx
  have HQ := Lib.hid hq
  have HE := Lib.hid hE
  have HZ := Lib.hid hz
  have HSZ := Lib.hid hs
  have HG := Lib.hid hg
  clear htx hq hE hz h hs h1 hg
  go_enter Tryz.func67, Tryz.ntmps67
  go_wp2_with fail
  refine HTX.out.mono ?_
  rintro x w2 ⟨rfl, hn2⟩
  have HN2 := Lib.hid hn2
  have HZ2 := Lib.hid (hn2.later HG.out HZ.out.size HZ.out)
  have HRE := Lib.hid (rerr_any hn2.obj)
  clear hn2 HTX
  go_wp2_with fail
  refine HRE.out.mono ?_
  rintro x w3 ⟨e, rfl, he, rfl⟩
  clear HRE
  by_cases hA : R1.no = 0 ∧ nm ≠ mqtt
  · have hq := HQ.out
    rw [if_pos hA] at hq
    unfold ErrOf at he
    rw [if_pos hA.1] at he
    subst he
    have hne : (nm.toList == [77, 81, 84, 84]) = false := by
      rw [show ([77, 81, 84, 84] : List UInt8) = mqtt.toList from by decide +kernel, eq_text]
      exact decide_eq_false hA.2
    have kP := (HE.out.later HZ2.out).kProtocol
    have HN := Lib.hid (new_err (w := w2) S 2 132 0)
    have HQ2 := Lib.hid hq
    clear hq HQ hA
    go_wp2_with fail
    refine HN.out.mono ?_
    rintro x w4 ⟨e, rfl, he, hb⟩
    have HX := Lib.hid (show IdSays W S g s q (.returned (.tuple #[.int .i64 0, e])) w4 from by
      rw [HQ2.out]
      exact ⟨e, rfl, ErrOf.some (no := 3) (by decide) (by decide) he, HN2.out.below hb⟩)
    clear he hb HN kP
    go_wp2_with fail
    exact bodyPost_ret (v := .tuple #[.int .i64 0, e]) (by simp [results, Tryz.results67, go_sem]) rfl HX.out
  · have hq := HQ.out
    rw [if_neg hA] at hq
    have hu := ru8_any (HE.out.later HZ2.out) HN2.out.obj (by have := HSZ.out; omega)
    obtain ⟨⟨ver, R2⟩, h2⟩ : ∃ V, V = rNum s 1 R1 := ⟨_, rfl⟩
    rw [← h2] at hu hq
    simp only at hq
    have HU := Lib.hid hu
    have HQ2 := Lib.hid hq
    clear hu hq HQ h2
    by_cases h0 : R1.no = 0
    case' pos =>
      obtain rfl : nm = mqtt := by
        by_cases hh : nm = mqtt
        · exact hh
        · exact absurd ⟨h0, hh⟩ hA
      unfold ErrOf at he
      rw [if_pos h0] at he
      subst he
      have heq : (mqtt.toList == [77, 81, 84, 84]) = true := by decide +kernel
      clear hA h0
      go_wp2_with fail
    case' neg =>
      obtain ⟨te, ue, rfl⟩ := err_iface he h0
      clear hA h0 he
      go_wp2_with fail
    all_goals
      refine HU.out.mono ?_
      rintro x w4 ⟨rfl, hn4⟩
      have HN4 := Lib.hid (HN2.out.trans hn4)
      have HZ4 := Lib.hid (hn4.later HG.out HZ2.out.size HZ2.out)
      have HRE := Lib.hid (rerr_any hn4.obj)
      clear hn4 HU HN2 HZ2
      go_wp2_with fail
      refine HRE.out.mono ?_
      rintro x w5 ⟨e, rfl, he, rfl⟩
      clear HRE
      by_cases hA : R2.no = 0 ∧ ver ≠ 5
      · have hq := HQ2.out
        rw [if_pos hA] at hq
        unfold ErrOf at he
        rw [if_pos hA.1] at he
        subst he
        have hne : ¬ (ver : Int) = 5 := by have := hA.2; omega
        have kP := (HE.out.later HZ4.out).kProtocol
        have HN := Lib.hid (new_err (w := w4) S 2 132 6)
        have HQ3 := Lib.hid hq
        clear hq HQ2 hA
        go_wp2_with fail
        refine HN.out.mono ?_
        rintro x w6 ⟨e, rfl, he, hb⟩
        have HX := Lib.hid (show IdSays W S g s q (.returned (.tuple #[.int .i64 0, e])) w6 from by
          rw [HQ3.out]
          exact ⟨e, rfl, ErrOf.some (no := 3) (by decide) (by decide) he, HN4.out.below hb⟩)
        clear he hb HN kP
        go_wp2_with fail
        exact bodyPost_ret (v := .tuple #[.int .i64 0, e]) (by simp [results, Tryz.results67, go_sem]) rfl HX.out
      · have hq := HQ2.out
        rw [if_neg hA] at hq
        have hu := ru8_any (HE.out.later HZ4.out) HN4.out.obj (by have := HSZ.out; omega)
        have hlt := num1_lt s R2
        obtain ⟨⟨n, R3⟩, h3⟩ : ∃ V, V = rNum s 1 R2 := ⟨_, rfl⟩
        rw [← h3] at hu hq hlt
        simp only at hq hlt
        have HU := Lib.hid hu
        have HQ3 := Lib.hid hq
        have HLT := Lib.hid hlt
        clear hu hq HQ2 h3 hlt
        by_cases h0 : R2.no = 0
        case' pos =>
          obtain rfl : ver = 5 := by
            by_cases hh : ver = 5
            · exact hh
            · exact absurd ⟨h0, hh⟩ hA
          unfold ErrOf at he
          rw [if_pos h0] at he
          subst he
          clear hA h0
          go_wp2_with fail
        case' neg =>
          obtain ⟨te, ue, rfl⟩ := err_iface he h0
          clear hA h0 he
          go_wp2_with fail
        all_goals
          refine HU.out.mono ?_
          rintro x w6 ⟨rfl, hn6⟩
          have HN6 := Lib.hid (HN4.out.trans hn6)
          have HZ6 := Lib.hid (hn6.later HG.out HZ4.out.size HZ4.out)
          clear hn6 HU HN4 HZ4
          have hn256 : n < 256 := HLT.out
          have b1 := bk_1 n HLT.out
          have bq := bk_q n HLT.out
          have b4 := bk_4 n HLT.out
          have b32 := bk_32 n HLT.out
          obtain ⟨qk, hqk⟩ : ∃ k, k = qosK n := ⟨_, rfl⟩
          have hmk : mayK n = (!decide (n % 2 = 1) && !decide (qk = 3) && (has4 n || (decide (qk = 0) && !has32 n))) := by rw [hqk]; rfl
          rw [← hqk] at bq
          have hq := HQ3.out
          rw [hmk] at hq
          have HK := Lib.hid (show qk < 4 by rw [hqk]; exact Nat.mod_lt _ (by decide))
          clear hqk hmk HQ3
          by_cases hm : (!decide (n % 2 = 1) && !decide (qk = 3) && (has4 n || (decide (qk = 0) && !has32 n))) = true
          · rw [if_pos hm] at hq
            have HQ4 := Lib.hid hq
            simp only [Bool.and_eq_true, Bool.or_eq_true, decide_eq_true_eq, Bool.not_eq_true', decide_eq_false_iff_not] at hm
            obtain ⟨⟨m1, m2⟩, m3⟩ := hm
            have b1' : bits BinOp.and IntKind.i64 (n : Int) 1 = 0 := by rw [b1]; omega
            have HRE := Lib.hid (rerr_any HN6.out.obj)
            have bq3 : ¬ (qk : Int) = 3 := by omega
            have bq3' : ((qk : Int) == 3) = false := beq_eq_false_iff_ne.2 bq3
            clear hq b1 m1 m2
            by_cases h4 : has4 n = true
            case' pos =>
              rw [if_pos h4] at b4
              clear m3 b32 h4
              go_wp2_with fail
            case' neg =>
              rw [if_neg h4] at b4
              have m5 := m3.resolve_left h4
              obtain ⟨m6, m7⟩ := m5
              subst m6
              rw [m7, if_neg (by decide)] at b32
              replace bq : bits BinOp.and IntKind.i64 ((n : Int) / 8) 3 = 0 := bq
              clear m3 m7 h4 bq3 bq3'
              go_wp2_with fail
            all_goals
              refine HRE.out.mono ?_
              rintro x w7 ⟨e, rfl, he, rfl⟩
              have HX := Lib.hid (show IdSays W S g s q (.returned (.tuple #[.int .i64 n, e])) w6 from by
                rw [HQ4.out]
                by_cases h3 : R3.no = 0
                · rw [if_pos h3]
                  unfold ErrOf at he
                  rw [if_pos h3] at he
                  exact ⟨e, rfl, by rw [he]; exact ErrOf.none, HN6.out⟩
                · rw [if_neg h3]
                  exact ⟨e, rfl, he, HN6.out⟩)
              clear he HRE b4 bq b1'
              go_wp2_with fail
              exact bodyPost_ret (v := .tuple #[.int .i64 n, e]) (by simp [results, Tryz.results67, go_sem]) rfl HX.out
          · rw [if_neg hm] at hq
            have HQ4 := Lib.hid hq
            have HML := Lib.hid (mal08 (HE.out.later HZ6.out) 7)
            have hc : n % 2 = 1 ∨ (n % 2 = 0 ∧ qk = 3) ∨ (n % 2 = 0 ∧ qk ≠ 3 ∧ qk ≠ 0 ∧ has4 n = false) ∨ (n % 2 = 0 ∧ qk = 0 ∧ has4 n = false ∧ has32 n = true) := by
              by_cases c1 : n % 2 = 1
              · exact .inl c1
              · have c1' : n % 2 = 0 := by omega
                by_cases c2 : qk = 3
                · exact .inr (.inl ⟨c1', c2⟩)
                · have c4 : has4 n = false := by
                    rcases hh : has4 n with _ | _
                    · rfl
                    · exfalso; apply hm; rw [hh, decide_eq_false c1, decide_eq_false c2]; rfl
                  by_cases c3 : qk = 0
                  · refine .inr (.inr (.inr ⟨c1', c3, c4, ?_⟩))
                    rcases hh : has32 n with _ | _
                    · exfalso; apply hm; rw [hh, c4, decide_eq_false c1, decide_eq_false c2, decide_eq_true c3]; rfl
                    · rfl
                  · exact .inr (.inr (.inl ⟨c1', c2, c3, c4⟩))
            clear hq hm
            rcases hc with c | ⟨c, rfl⟩ | ⟨c, c2, c3, c4⟩ | ⟨c, rfl, c4, c5⟩
            case' inl =>
              have b1' : bits BinOp.and IntKind.i64 (n : Int) 1 = 1 := by rw [b1]; omega
              clear b1 bq b4 b32 c
              go_wp2_with fail
            case' inr.inl =>
              have b1' : bits BinOp.and IntKind.i64 (n : Int) 1 = 0 := by rw [b1]; omega
              replace bq : bits BinOp.and IntKind.i64 ((n : Int) / 8) 3 = 3 := bq
              clear b1 b4 b32 c
              go_wp2_with fail
            case' inr.inr.inl =>
              have b1' : bits BinOp.and IntKind.i64 (n : Int) 1 = 0 := by rw [b1]; omega
              have bq3 : ¬ (qk : Int) = 3 := by omega
              have bq3' : ((qk : Int) == 3) = false := beq_eq_false_iff_ne.2 bq3
              have bq0 : ¬ (qk : Int) = 0 := by omega
              have bq0' : ((qk : Int) == 0) = false := beq_eq_false_iff_ne.2 bq0
              rw [c4, if_neg (by decide)] at b4
              clear b1 b32 c c2 c3 c4
              go_wp2_with fail
            case' inr.inr.inr =>
              have b1' : bits BinOp.and IntKind.i64 (n : Int) 1 = 0 := by rw [b1]; omega
              replace bq : bits BinOp.and IntKind.i64 ((n : Int) / 8) 3 = 0 := bq
              rw [c4, if_neg (by decide)] at b4
              rw [c5, if_pos rfl] at b32
              clear b1 c c4 c5
              go_wp2_with fail
            all_goals
              refine HML.out.mono ?_
              rintro x w7 ⟨e, rfl, he, hb7⟩
              have HX := Lib.hid (show IdSays W S g s q (.returned (.tuple #[.int .i64 0, e])) w7 from by
                rw [HQ4.out]
                exact ⟨e, rfl, he, HN6.out.below hb7⟩)
              clear he hb7 HML
              go_wp2_with fail
              exact bodyPost_ret (v := .tuple #[.int .i64 0, e]) (by simp [results, Tryz.results67, go_sem]) rfl HX.out
end
end Go.Proofs.YtbfbmdjnobdjpaaGreatDoor

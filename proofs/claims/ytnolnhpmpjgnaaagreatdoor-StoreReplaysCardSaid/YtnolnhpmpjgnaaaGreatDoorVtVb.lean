/- What is proved here: the number that bytes begin with, or why there is none, by the document's own answer, is what a plain function on the bytes says. No conditions beyond the text's length. What is proved here, on plain lists: a number's bytes are read as the number, whatever stands behind; and the bytes of no number begin those of another. Condition: the numbers are below 2 to the 28th. -/
import Derived.Test.YtnolnhpmpjgnaaaGreatDoorRef02
namespace Go.Proofs.YtnolnhpmpjgnaaaGreatDoor
open Go.RowKit Go.Extern.Stop Go.Stop Go.Extern

/-- The number, how many bytes, the error's number, and where it is: from byte i on, n being the number so far, b the next digit's weight. -/
def vt (s : ByteArray) : Nat → Nat → Nat → Nat → Nat × Nat × Nat × Nat
  | 0, _, _, _ => (0, 0, 2, 3)
  | f + 1, i, n, b => if h : i < s.size then
      if s[i].toNat < 128 then if s[i].toNat = 0 ∧ 0 < i then (0, 0, 2, i) else (n + s[i].toNat % 128 * b, i + 1, 0, 0)
      else vt s f (i + 1) (n + s[i].toNat % 128 * b) (b * 128)
    else (0, 0, 1, s.size)
theorem vt_short {s : ByteArray} {f i n b : Nat} (h : ¬ i < s.size) : vt s (f + 1) i n b = (0, 0, 1, s.size) := by rw [vt, dif_neg h]
theorem vt_zero {s : ByteArray} {f i n b : Nat} (h : i < s.size) (h0 : s[i].toNat = 0) (hi : 0 < i) : vt s (f + 1) i n b = (0, 0, 2, i) := by
  rw [vt, dif_pos h, if_pos (by omega), if_pos ⟨h0, hi⟩]
theorem vt_last {s : ByteArray} {f i n b : Nat} (h : i < s.size) (hc : s[i].toNat < 128) (h0 : ¬ (s[i].toNat = 0 ∧ 0 < i)) : vt s (f + 1) i n b = (n + s[i].toNat % 128 * b, i + 1, 0, 0) := by
  rw [vt, dif_pos h, if_pos hc, if_neg h0]
theorem vt_more {s : ByteArray} {f i n b : Nat} (h : i < s.size) (hc : ¬ s[i].toNat < 128) : vt s (f + 1) i n b = vt s f (i + 1) (n + s[i].toNat % 128 * b) (b * 128) := by
  rw [vt, dif_pos h, if_neg hc]
def four (x : Nat × Nat × Nat × Nat) : Value := .tuple #[.int .i64 (x.1 : Int), .int .i64 (x.2.1 : Int), .int .i64 (x.2.2.1 : Int), .int .i64 (x.2.2.2 : Int)]
def Weight (i n b : Nat) : Prop := (i = 0 ∧ b = 1 ∨ i = 1 ∧ b = 128 ∨ i = 2 ∧ b = 16384 ∨ i = 3 ∧ b = 2097152 ∨ i = 4 ∧ b = 268435456) ∧ n < b

set_option maxRecDepth 100000 in
set_option maxHeartbeats 4000000 in
theorem ref_take (s : ByteArray) (hs : s.size ≤ 9223372036854775807) (w : World) :
    Calls Tryz.prog 76 #[.string s] w fun x w' => x = .returned (four (vt s 4 0 0 1)) ∧ w = w' := by
  generalize hfin : vt s 4 0 0 1 = fin
  have HF := Lib.hid hfin
  clear hfin
  go_enter Tryz.func76, Tryz.ntmps76
  go_wp2
  go_loopg [6, 7, 8] 5 (fun f x y z wr => w = wr ∧ ∃ i n b : Nat, f = 5 - i ∧ x = .int .i64 n ∧ y = .int .i64 b ∧ z = .int .i64 i ∧ i ≤ s.size ∧ Weight i n b ∧ vt s (4 - i) i n b = fin)
  case atStart => exact ⟨rfl, 0, 0, 1, rfl, rfl, rfl, rfl, Nat.zero_le _, ⟨.inl ⟨rfl, rfl⟩, by omega⟩, HF.out⟩
  case round =>
    obtain ⟨rfl, i, n, b, rfl, rfl, rfl, rfl, hi, ⟨hw, hn⟩, hv⟩ := hrel
    clear HF
    have HV := Lib.hid hv
    clear hv
    rcases hw with ⟨rfl, rfl⟩ | ⟨rfl, rfl⟩ | ⟨rfl, rfl⟩ | ⟨rfl, rfl⟩ | ⟨rfl, rfl⟩
    · by_cases hlt : 0 < s.size
      · have hne : ((0 : Int) == (s.size : Int)) = false := beq_eq_false_iff_ne.2 (by omega)
        by_cases hc : s[0].toNat < 128
        · by_cases h0 : s[0].toNat = 0
          · have hz : ((s[0].toNat : Int) == 0) = true := beq_iff_eq.2 (by omega)
            have hv := (vt_last (f := 3) (n := n) (b := 1) hlt hc (by omega)).symm.trans HV.out
            have HV2 := Lib.hid hv
            have H0 := Lib.hid h0
            clear hv h0
            go_wp2
            refine bodyPost_ret (v := four fin) ?_ rfl ⟨rfl, rfl⟩
            have h0 := H0.out
            rw [← HV2.out]
            simp [results, Tryz.results76, go_sem, four]
          · have hz : ((s[0].toNat : Int) == 0) = false := beq_eq_false_iff_ne.2 (by omega)
            have hv := (vt_last (f := 3) (n := n) (b := 1) hlt hc (by omega)).symm.trans HV.out
            have HV2 := Lib.hid hv
            clear hv h0
            go_wp2
            refine bodyPost_ret (v := four fin) ?_ rfl ⟨rfl, rfl⟩
            rw [← HV2.out]
            simp [results, Tryz.results76, go_sem, four]
        · have hv := (vt_more (f := 3) (n := n) (b := 1) hlt hc).symm.trans HV.out
          have HV2 := Lib.hid hv
          clear hv
          have hb := s[0].toNat_lt
          go_wp2
          go_roundg (4 - 0)
          case rel => exact ⟨rfl, 1, n + s[0].toNat % 128 * 1, 128, rfl, by go_num, rfl, rfl, hlt, ⟨by omega, by omega⟩, HV2.out⟩
          case measure => omega
      · have hne : ((0 : Int) == (s.size : Int)) = true := beq_iff_eq.2 (by omega)
        have hv := (vt_short (f := 3) (n := n) (b := 1) hlt).symm.trans HV.out
        have HV2 := Lib.hid hv
        clear hv
        go_wp2
        refine bodyPost_ret (v := four fin) ?_ rfl ⟨rfl, rfl⟩
        rw [← HV2.out]
        simp [results, Tryz.results76, go_sem, four]
    · by_cases hlt : 1 < s.size
      · have hne : ((1 : Int) == (s.size : Int)) = false := beq_eq_false_iff_ne.2 (by omega)
        by_cases hc : s[1].toNat < 128
        · by_cases h0 : s[1].toNat = 0
          · have hz : ((s[1].toNat : Int) == 0) = true := beq_iff_eq.2 (by omega)
            have hv := (vt_zero (f := 2) (n := n) (b := 128) hlt h0 (by omega)).symm.trans HV.out
            have HV2 := Lib.hid hv
            have H0 := Lib.hid h0
            clear hv h0
            go_wp2
            refine bodyPost_ret (v := four fin) ?_ rfl ⟨rfl, rfl⟩
            have h0 := H0.out
            rw [← HV2.out]
            simp [results, Tryz.results76, go_sem, four]
          · have hz : ((s[1].toNat : Int) == 0) = false := beq_eq_false_iff_ne.2 (by omega)
            have hv := (vt_last (f := 2) (n := n) (b := 128) hlt hc (by omega)).symm.trans HV.out
            have HV2 := Lib.hid hv
            clear hv h0
            go_wp2
            refine bodyPost_ret (v := four fin) ?_ rfl ⟨rfl, rfl⟩
            rw [← HV2.out]
            simp [results, Tryz.results76, go_sem, four]
        · have hv := (vt_more (f := 2) (n := n) (b := 128) hlt hc).symm.trans HV.out
          have HV2 := Lib.hid hv
          clear hv
          have hb := s[1].toNat_lt
          go_wp2
          go_roundg (4 - 1)
          case rel => exact ⟨rfl, 2, n + s[1].toNat % 128 * 128, 16384, rfl, by go_num, rfl, rfl, hlt, ⟨by omega, by omega⟩, HV2.out⟩
          case measure => omega
      · have hne : ((1 : Int) == (s.size : Int)) = true := beq_iff_eq.2 (by omega)
        have hv := (vt_short (f := 2) (n := n) (b := 128) hlt).symm.trans HV.out
        have HV2 := Lib.hid hv
        clear hv
        go_wp2
        refine bodyPost_ret (v := four fin) ?_ rfl ⟨rfl, rfl⟩
        rw [← HV2.out]
        simp [results, Tryz.results76, go_sem, four]
    · by_cases hlt : 2 < s.size
      · have hne : ((2 : Int) == (s.size : Int)) = false := beq_eq_false_iff_ne.2 (by omega)
        by_cases hc : s[2].toNat < 128
        · by_cases h0 : s[2].toNat = 0
          · have hz : ((s[2].toNat : Int) == 0) = true := beq_iff_eq.2 (by omega)
            have hv := (vt_zero (f := 1) (n := n) (b := 16384) hlt h0 (by omega)).symm.trans HV.out
            have HV2 := Lib.hid hv
            have H0 := Lib.hid h0
            clear hv h0
            go_wp2
            refine bodyPost_ret (v := four fin) ?_ rfl ⟨rfl, rfl⟩
            have h0 := H0.out
            rw [← HV2.out]
            simp [results, Tryz.results76, go_sem, four]
          · have hz : ((s[2].toNat : Int) == 0) = false := beq_eq_false_iff_ne.2 (by omega)
            have hv := (vt_last (f := 1) (n := n) (b := 16384) hlt hc (by omega)).symm.trans HV.out
            have HV2 := Lib.hid hv
            clear hv h0
            go_wp2
            refine bodyPost_ret (v := four fin) ?_ rfl ⟨rfl, rfl⟩
            rw [← HV2.out]
            simp [results, Tryz.results76, go_sem, four]
        · have hv := (vt_more (f := 1) (n := n) (b := 16384) hlt hc).symm.trans HV.out
          have HV2 := Lib.hid hv
          clear hv
          have hb := s[2].toNat_lt
          go_wp2
          go_roundg (4 - 2)
          case rel => exact ⟨rfl, 3, n + s[2].toNat % 128 * 16384, 2097152, rfl, by go_num, rfl, rfl, hlt, ⟨by omega, by omega⟩, HV2.out⟩
          case measure => omega
      · have hne : ((2 : Int) == (s.size : Int)) = true := beq_iff_eq.2 (by omega)
        have hv := (vt_short (f := 1) (n := n) (b := 16384) hlt).symm.trans HV.out
        have HV2 := Lib.hid hv
        clear hv
        go_wp2
        refine bodyPost_ret (v := four fin) ?_ rfl ⟨rfl, rfl⟩
        rw [← HV2.out]
        simp [results, Tryz.results76, go_sem, four]
    · by_cases hlt : 3 < s.size
      · have hne : ((3 : Int) == (s.size : Int)) = false := beq_eq_false_iff_ne.2 (by omega)
        by_cases hc : s[3].toNat < 128
        · by_cases h0 : s[3].toNat = 0
          · have hz : ((s[3].toNat : Int) == 0) = true := beq_iff_eq.2 (by omega)
            have hv := (vt_zero (f := 0) (n := n) (b := 2097152) hlt h0 (by omega)).symm.trans HV.out
            have HV2 := Lib.hid hv
            have H0 := Lib.hid h0
            clear hv h0
            go_wp2
            refine bodyPost_ret (v := four fin) ?_ rfl ⟨rfl, rfl⟩
            have h0 := H0.out
            rw [← HV2.out]
            simp [results, Tryz.results76, go_sem, four]
          · have hz : ((s[3].toNat : Int) == 0) = false := beq_eq_false_iff_ne.2 (by omega)
            have hv := (vt_last (f := 0) (n := n) (b := 2097152) hlt hc (by omega)).symm.trans HV.out
            have HV2 := Lib.hid hv
            clear hv h0
            go_wp2
            refine bodyPost_ret (v := four fin) ?_ rfl ⟨rfl, rfl⟩
            rw [← HV2.out]
            simp [results, Tryz.results76, go_sem, four]
        · have hv := (vt_more (f := 0) (n := n) (b := 2097152) hlt hc).symm.trans HV.out
          have HV2 := Lib.hid hv
          clear hv
          have hb := s[3].toNat_lt
          go_wp2
          go_roundg (4 - 3)
          case rel => exact ⟨rfl, 4, n + s[3].toNat % 128 * 2097152, 268435456, rfl, by go_num, rfl, rfl, hlt, ⟨by omega, by omega⟩, HV2.out⟩
          case measure => omega
      · have hne : ((3 : Int) == (s.size : Int)) = true := beq_iff_eq.2 (by omega)
        have hv := (vt_short (f := 0) (n := n) (b := 2097152) hlt).symm.trans HV.out
        have HV2 := Lib.hid hv
        clear hv
        go_wp2
        refine bodyPost_ret (v := four fin) ?_ rfl ⟨rfl, rfl⟩
        rw [← HV2.out]
        simp [results, Tryz.results76, go_sem, four]
    · have hv : (0, 0, 2, 3) = fin := HV.out
      have HV2 := Lib.hid hv
      clear hv
      go_wp2
      refine bodyPost_ret (v := four fin) ?_ rfl ⟨rfl, rfl⟩
      rw [← HV2.out]
      simp [results, Tryz.results76, go_sem, four]
end Go.Proofs.YtnolnhpmpjgnaaaGreatDoor
namespace Go.Proofs.YtnolnhpmpjgnaaaGreatDoor

theorem at_pre (pre l : List UInt8) (c : UInt8) (h : pre.length < (⟨(pre ++ c :: l).toArray⟩ : ByteArray).size) : (⟨(pre ++ c :: l).toArray⟩ : ByteArray)[pre.length] = c := by
  show (pre ++ c :: l).toArray[pre.length] = c
  simp

theorem vt_vb_at (f : Nat) : ∀ (pre rest : List UInt8) (m acc b : Nat), 0 < f → m < 128 ^ f → (0 < pre.length → 1 ≤ m) →
    vt ⟨(pre ++ (vb m ++ rest)).toArray⟩ f pre.length acc b = (acc + m * b, pre.length + (vb m).length, 0, 0) := by
  induction f with
  | zero => exact fun _ _ _ _ _ h => absurd h (by omega)
  | succ f ih =>
    intro pre rest m acc b _ h hp
    by_cases hs : m < 128
    · rw [vb_small hs]
      have hlt : pre.length < (⟨(pre ++ ([UInt8.ofNat m] ++ rest)).toArray⟩ : ByteArray).size := by simp [ByteArray.size]
      have hc : (⟨(pre ++ ([UInt8.ofNat m] ++ rest)).toArray⟩ : ByteArray)[pre.length] = UInt8.ofNat m := at_pre pre rest _ hlt
      have hn : (UInt8.ofNat m).toNat = m := by simp [UInt8.toNat_ofNat', Nat.mod_eq_of_lt (show m < 256 by omega)]
      rw [vt_last hlt (by rw [hc, hn]; exact hs) (by rw [hc, hn]; omega), hc, hn, Nat.mod_eq_of_lt hs]
      simp
    · rw [vb_big hs]
      have hlt : pre.length < (⟨(pre ++ ((UInt8.ofNat (m % 128 + 128) :: vb (m / 128)) ++ rest)).toArray⟩ : ByteArray).size := by simp [ByteArray.size]
      have hc : (⟨(pre ++ ((UInt8.ofNat (m % 128 + 128) :: vb (m / 128)) ++ rest)).toArray⟩ : ByteArray)[pre.length] = UInt8.ofNat (m % 128 + 128) := at_pre pre (vb (m / 128) ++ rest) _ hlt
      have hn : (UInt8.ofNat (m % 128 + 128)).toNat = m % 128 + 128 := by simp [UInt8.toNat_ofNat']; omega
      rw [vt_more hlt (by rw [hc, hn]; omega), hc, hn]
      have e : pre ++ ((UInt8.ofNat (m % 128 + 128) :: vb (m / 128)) ++ rest) = (pre ++ [UInt8.ofNat (m % 128 + 128)]) ++ (vb (m / 128) ++ rest) := by simp
      have e2 : pre.length + 1 = (pre ++ [UInt8.ofNat (m % 128 + 128)]).length := by simp
      have hf : 0 < f := by
        rcases Nat.eq_zero_or_pos f with h0 | h0
        · subst h0; simp at h; omega
        · exact h0
      rw [e, e2, ih _ rest (m / 128) _ _ hf (by rw [Nat.pow_succ] at h; omega) (fun _ => by omega)]
      have e3 : (m % 128 + 128) % 128 = m % 128 := by omega
      have e4 : m % 128 * b + m / 128 * (b * 128) = m * b := by
        rw [Nat.mul_comm b 128, ← Nat.mul_assoc, ← Nat.add_mul]
        congr 1
        omega
      rw [e3, Nat.add_assoc, e4]
      simp
      omega

theorem vt_vb (n : Nat) (h : n ≤ 268435455) (rest : List UInt8) : vt ⟨(vb n ++ rest).toArray⟩ 4 0 0 1 = (n, (vb n).length, 0, 0) := by
  have := vt_vb_at 4 [] rest n 0 1 (by omega) (by omega) (fun h => absurd h (by simp))
  simpa using this

theorem vb_pre {n m : Nat} (hn : n ≤ 268435455) (hm : m ≤ 268435455) (h : (vb m).take (vb n).length = vb n) : n = m := by
  have h1 := vt_vb n hn ((vb m).drop (vb n).length)
  have e : vb n ++ (vb m).drop (vb n).length = vb m := by
    have := List.take_append_drop (vb n).length (vb m)
    rw [h] at this
    exact this
  rw [e] at h1
  have h2 := vt_vb m hm []
  rw [List.append_nil] at h2
  have := h1.symm.trans h2
  simpa using (congrArg (·.1) this)
theorem vb_len (n : Nat) (h : n ≤ 268435455) : 1 ≤ (vb n).length ∧ (vb n).length ≤ 4 := by
  by_cases h1 : n < 128
  · rw [vb_small h1]; simp
  · rw [vb_big h1]
    by_cases h2 : n / 128 < 128
    · rw [vb_small h2]; simp
    · rw [vb_big h2]
      by_cases h3 : n / 128 / 128 < 128
      · rw [vb_small h3]; simp
      · rw [vb_big h3, vb_small (by omega)]; simp
end Go.Proofs.YtnolnhpmpjgnaaaGreatDoor

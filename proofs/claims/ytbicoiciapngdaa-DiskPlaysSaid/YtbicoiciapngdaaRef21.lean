/- What is proved here: what an act does to the document's disk. Conditions: few bytes. -/
import Derived.Test.YtbicoiciapngdaaActs21
namespace Go.Proofs.Ytbicoiciapngdaa
open Go.RowKit Go.Extern.Stop Go.Stop Go.Extern

/-- Block g is the document's disk. -/
def IsRef (w : World) (g : Nat) (R : Int) (s t : ByteArray) : Prop := Blk w g 37 #[.int .i64 R, .string s, .string t]
def RefThen (w : World) (g : Nat) (R : Int) (s t : ByteArray) (v : Value) (e : Ending) (w' : World) : Prop := e = .returned v ∧ Fr [g] w w' ∧ IsRef w' g R s t
theorem ret_i64 {a b : Int} (h : a = b) : Ending.returned (.int .i64 a) = .returned (.int .i64 b) := by rw [h]
section
variable {w : World} {g : Nat} {R : Int} {s t : ByteArray}
theorem left_any (h : IsRef w g R s t) (hR : -9223372036854775808 ≤ R ∧ R ≤ 9223372036854775807) (hs : s.size ≤ 1000000) (ht : t.size ≤ 1000000) :
    Calls Try.prog 28 #[.pointer (some ⟨g, 0, none⟩)] w fun e w' => e = .returned (.int .i64 (((R.toNat : Nat) : Int) - (s.size : Int) - (t.size : Int))) ∧ Fr [] w w' := by
  have c0 := h.cell 0
  have c1 := h.cell 1
  have c2 := h.cell 2
  clear h
  by_cases hr : R < 0
  · have e : R.toNat = 0 := by omega
    rw [e]
    clear e
    have hd : decide (R < 0) = true := by simp; omega
    go_enter Try.func28, Try.ntmps28
    go_wp2
    go_quiet (fail)
    go_wp2
    all_goals
      go_ret
      exact ⟨ret_i64 (by omega), (Fr.refl _ _).drewN _⟩
  · obtain ⟨r, rfl⟩ := Int.eq_ofNat_of_zero_le (show 0 ≤ R by omega)
    rw [Int.toNat_natCast]
    go_enter Try.func28, Try.ntmps28
    go_wp2
    go_quiet (fail)
    go_wp2
    all_goals
      go_ret
      exact ⟨rfl, (Fr.refl _ _).drewN _⟩
theorem ref_append (h : IsRef w g R s t) (hR : -9223372036854775808 ≤ R ∧ R ≤ 9223372036854775807) (hs : s.size ≤ 1000000) (ht : t.size ≤ 1000000) (a : ByteArray) (ha : a.size ≤ 1000000) (k : Int)
    (hr : s.size + t.size + a.size ≤ R.toNat) : Calls Try.prog 24 #[.pointer (some ⟨g, 0, none⟩), .agg #[.int .i64 1, .string a, .int .i64 k]] w (RefThen w g R s (t ++ a) (.bool true)) := by
  have hg := Blk.lt h
  have h0 := Blk.alloc h (.cells #[.int .i64 1, .string a, .int .i64 k] 42)
  have c0 := h0.cell 0
  have c1 := h0.cell 1
  have c2 := h0.cell 2
  have f1 := h0.frozen 1
  have f2 := h0.frozen 2
  have H0 := Lib.hid h0
  clear h h0
  by_cases hr0 : R < 0
  · have hd : decide (R < 0) = true := by simp; omega
    go_enter Try.func24, Try.ntmps24
    go_wp2
    go_quiet (fail)
    go_wp2
    all_goals
      go_region
      go_wp2
      go_ret
      exact ⟨rfl, (((Fr.refl _ _).alloc _).drewN _).setCell (.inl (by simp)) _, (H0.out.drewN _).store 2 _⟩
  · obtain ⟨r, rfl⟩ := Int.eq_ofNat_of_zero_le (show 0 ≤ R by omega)
    rw [Int.toNat_natCast] at hr
    go_enter Try.func24, Try.ntmps24
    go_wp2
    go_quiet (fail)
    go_wp2
    all_goals
      go_region
      go_wp2
      go_ret
      exact ⟨rfl, (((Fr.refl _ _).alloc _).drewN _).setCell (.inl (by simp)) _, (H0.out.drewN _).store 2 _⟩
theorem ref_append_no (h : IsRef w g R s t) (hR : -9223372036854775808 ≤ R ∧ R ≤ 9223372036854775807) (hs : s.size ≤ 1000000) (ht : t.size ≤ 1000000) (a : ByteArray) (ha : a.size ≤ 1000000) (k : Int)
    (hr : R.toNat < s.size + t.size + a.size) : Calls Try.prog 24 #[.pointer (some ⟨g, 0, none⟩), .agg #[.int .i64 1, .string a, .int .i64 k]] w (RefThen w g R s t (.bool false)) := by
  have hg := Blk.lt h
  have h0 := Blk.alloc h (.cells #[.int .i64 1, .string a, .int .i64 k] 42)
  have c0 := h0.cell 0
  have c1 := h0.cell 1
  have c2 := h0.cell 2
  have f1 := h0.frozen 1
  have f2 := h0.frozen 2
  have H0 := Lib.hid h0
  clear h h0
  by_cases hr0 : R < 0
  · have hd : decide (R < 0) = true := by simp; omega
    go_enter Try.func24, Try.ntmps24
    go_wp2
    go_quiet (fail)
    go_wp2
    all_goals
      go_ret
      exact ⟨rfl, ((Fr.refl _ _).alloc _).drewN _, H0.out.drewN _⟩
  · obtain ⟨r, rfl⟩ := Int.eq_ofNat_of_zero_le (show 0 ≤ R by omega)
    rw [Int.toNat_natCast] at hr
    go_enter Try.func24, Try.ntmps24
    go_wp2
    go_quiet (fail)
    go_wp2
    all_goals
      go_ret
      exact ⟨rfl, ((Fr.refl _ _).alloc _).drewN _, H0.out.drewN _⟩
theorem ref_sync (h : IsRef w g R s t) (hR : -9223372036854775808 ≤ R ∧ R ≤ 9223372036854775807) (hs : s.size ≤ 1000000) (ht : t.size ≤ 1000000) (a : ByteArray) (ha : a.size ≤ 1000000) (k : Int) :
    Calls Try.prog 24 #[.pointer (some ⟨g, 0, none⟩), .agg #[.int .i64 2, .string a, .int .i64 k]] w (RefThen w g R (s ++ t) ⟨#[]⟩ (.bool false)) := by
  have hg := Blk.lt h
  have h0 := Blk.alloc h (.cells #[.int .i64 2, .string a, .int .i64 k] 42)
  have c0 := h0.cell 0
  have c1 := h0.cell 1
  have c2 := h0.cell 2
  have f1 := h0.frozen 1
  have f2 := h0.frozen 2
  have d1 := h.cell 1
  have d2 := h.cell 2
  have e1 := h.frozen 1
  have e2 := h.frozen 2
  have H := Lib.hid h
  clear h h0
  go_enter Try.func24, Try.ntmps24
  go_wp2
  go_region
  all_goals
    go_wp2
    go_ret
    exact ⟨rfl, ((((Fr.refl _ _).setCell (.inl (by simp)) _).setCell (.inl (by simp)) _).alloc _).drew, (((Blk.store H.out 1 _).store 2 _).alloc _).drew⟩
theorem ref_swap (h : IsRef w g R s t) (hR : -9223372036854775808 ≤ R ∧ R ≤ 9223372036854775807) (hs : s.size ≤ 1000000) (ht : t.size ≤ 1000000) (a : ByteArray) (ha : a.size ≤ 1000000) (k : Int)
    (hr : a.size ≤ R.toNat) : Calls Try.prog 24 #[.pointer (some ⟨g, 0, none⟩), .agg #[.int .i64 4, .string a, .int .i64 k]] w (RefThen w g R a ⟨#[]⟩ (.bool true)) := by
  have hg := Blk.lt h
  have h0 := Blk.alloc h (.cells #[.int .i64 4, .string a, .int .i64 k] 42)
  have c0 := h0.cell 0
  have c1 := h0.cell 1
  have c2 := h0.cell 2
  have f1 := h0.frozen 1
  have f2 := h0.frozen 2
  have H0 := Lib.hid h0
  clear h h0
  by_cases hr0 : R < 0
  · have hd : decide (R < 0) = true := by simp; omega
    go_enter Try.func24, Try.ntmps24
    go_wp2
    go_quiet (fail)
    go_wp2
    all_goals
      go_ret
      exact ⟨rfl, ((((Fr.refl _ _).alloc _).drewN _).setCell (.inl (by simp)) _).setCell (.inl (by simp)) _, ((H0.out.drewN _).store 1 _).store 2 _⟩
  · obtain ⟨r, rfl⟩ := Int.eq_ofNat_of_zero_le (show 0 ≤ R by omega)
    rw [Int.toNat_natCast] at hr
    go_enter Try.func24, Try.ntmps24
    go_wp2
    go_quiet (fail)
    go_wp2
    all_goals
      go_ret
      exact ⟨rfl, ((((Fr.refl _ _).alloc _).drewN _).setCell (.inl (by simp)) _).setCell (.inl (by simp)) _, ((H0.out.drewN _).store 1 _).store 2 _⟩
theorem ref_swap_no (h : IsRef w g R s t) (hR : -9223372036854775808 ≤ R ∧ R ≤ 9223372036854775807) (hs : s.size ≤ 1000000) (ht : t.size ≤ 1000000) (a : ByteArray) (ha : a.size ≤ 1000000) (k : Int)
    (hr : R.toNat < a.size) : Calls Try.prog 24 #[.pointer (some ⟨g, 0, none⟩), .agg #[.int .i64 4, .string a, .int .i64 k]] w (RefThen w g R s t (.bool false)) := by
  have hg := Blk.lt h
  have h0 := Blk.alloc h (.cells #[.int .i64 4, .string a, .int .i64 k] 42)
  have c0 := h0.cell 0
  have c1 := h0.cell 1
  have c2 := h0.cell 2
  have f1 := h0.frozen 1
  have f2 := h0.frozen 2
  have H0 := Lib.hid h0
  clear h h0
  by_cases hr0 : R < 0
  · have hd : decide (R < 0) = true := by simp; omega
    go_enter Try.func24, Try.ntmps24
    go_wp2
    go_quiet (fail)
    go_wp2
    all_goals
      go_ret
      exact ⟨rfl, ((Fr.refl _ _).alloc _).drewN _, H0.out.drewN _⟩
  · obtain ⟨r, rfl⟩ := Int.eq_ofNat_of_zero_le (show 0 ≤ R by omega)
    rw [Int.toNat_natCast] at hr
    go_enter Try.func24, Try.ntmps24
    go_wp2
    go_quiet (fail)
    go_wp2
    all_goals
      go_ret
      exact ⟨rfl, ((Fr.refl _ _).alloc _).drewN _, H0.out.drewN _⟩
theorem ref_else (h : IsRef w g R s t) (hR : -9223372036854775808 ≤ R ∧ R ≤ 9223372036854775807) (hs : s.size ≤ 1000000) (ht : t.size ≤ 1000000) (a : ByteArray) (ha : a.size ≤ 1000000) (k : Int) (kind : Int) (n1 : kind ≠ 1) (n2 : kind ≠ 2) (n3 : kind ≠ 3) (n4 : kind ≠ 4) :
    Calls Try.prog 24 #[.pointer (some ⟨g, 0, none⟩), .agg #[.int .i64 kind, .string a, .int .i64 k]] w (RefThen w g R s t (.bool false)) := by
  have n1' : ((kind : Int) == 1) = false := beq_eq_false_iff_ne.2 n1
  have n2' : ((kind : Int) == 2) = false := beq_eq_false_iff_ne.2 n2
  have n3' : ((kind : Int) == 3) = false := beq_eq_false_iff_ne.2 n3
  have n4' : ((kind : Int) == 4) = false := beq_eq_false_iff_ne.2 n4
  have hg := Blk.lt h
  have h0 := Blk.alloc h (.cells #[.int .i64 kind, .string a, .int .i64 k] 42)
  have c0 := h0.cell 0
  have c1 := h0.cell 1
  have c2 := h0.cell 2
  have f1 := h0.frozen 1
  have f2 := h0.frozen 2
  have H0 := Lib.hid h0
  clear h h0
  clear n1 n2 n3 n4
  go_enter Try.func24, Try.ntmps24
  go_wp2
  go_ret
  exact ⟨rfl, (Fr.refl _ _).alloc _, H0.out⟩
def RefLists (w : World) (g : Nat) (R : Int) (sl tl : List UInt8) (v : Value) (e : Ending) (w' : World) : Prop := e = .returned v ∧ Fr [g] w w' ∧ ∃ s t : ByteArray, IsRef w' g R s t ∧ s.data.toList = sl ∧ t.data.toList = tl
theorem RefThen.lists {v : Value} {e : Ending} {w' : World} (h : RefThen w g R s t v e w') {sl tl : List UInt8} (hs : s.data.toList = sl) (ht : t.data.toList = tl) : RefLists w g R sl tl v e w' := ⟨h.1, h.2.1, s, t, h.2.2, hs, ht⟩
theorem list_append (s t : ByteArray) : (s ++ t).data.toList = s.data.toList ++ t.data.toList := by rw [ByteArray.data_append, Array.toList_append]
theorem list_extract (t : ByteArray) (k : Nat) : (t.extract 0 k).data.toList = t.data.toList.take k := by simp [ByteArray.data_extract]
theorem ext_all {j : Nat} (h : t.size ≤ j) : (s ++ t.extract 0 j).data.toList = (s ++ t).data.toList := by
  rw [list_append, list_append, list_extract, List.take_of_length_le (by rw [size_bytes]; exact h)]
theorem ref_crash (h : IsRef w g R s t) (_hR : -9223372036854775808 ≤ R ∧ R ≤ 9223372036854775807) (hs : s.size ≤ 1000000) (ht : t.size ≤ 1000000) (a : ByteArray) (_ha : a.size ≤ 1000000) (k : Int) (_hk : -9223372036854775808 ≤ k ∧ k ≤ 9223372036854775807) :
    Calls Try.prog 24 #[.pointer (some ⟨g, 0, none⟩), .agg #[.int .i64 3, .string a, .int .i64 k]] w (RefLists w g R (s.data.toList ++ t.data.toList.take (min k.toNat t.size)) [] (.bool false)) := by
  have hg := Blk.lt h
  have h0 := Blk.alloc h (.cells #[.int .i64 3, .string a, .int .i64 k] 42)
  have c0 := h0.cell 0
  have c1 := h0.cell 1
  have c2 := h0.cell 2
  have f1 := h0.frozen 1
  have f2 := h0.frozen 2
  have H0 := Lib.hid h0
  clear h h0
  have hts : t.data.toList.length = t.size := size_bytes t
  rcases (show k < 0 ∨ (0 ≤ k ∧ t.size = 0) ∨ (k = 0 ∧ 0 < t.size) ∨ (0 < k ∧ k < t.size) ∨ (0 < t.size ∧ t.size ≤ k) by omega) with hc | ⟨hc, hc2⟩ | ⟨hc, hc2⟩ | ⟨hc, hc2⟩ | ⟨hc, hc2⟩
  · have e : s.data.toList ++ t.data.toList.take (min k.toNat t.size) = s.data.toList := by rw [show min k.toNat t.size = 0 by omega]; simp
    rw [e]
    clear e hts
    have hd : decide (k < 0) = true := by simp; omega
    go_enter Try.func24, Try.ntmps24
    go_wp2
    go_quiet (fail)
    go_wp2
    all_goals
      go_region
    all_goals
      go_wp2
      go_ret
      exact ⟨rfl, ((((Fr.refl _ _).alloc _).drewN _).setCell (.inl (by simp)) _).setCell (.inl (by simp)) _, _, _, ((H0.out.drewN _).store 1 _).store 2 _, rfl, rfl⟩
  · have e : s.data.toList ++ t.data.toList.take (min k.toNat t.size) = s.data.toList := by rw [show min k.toNat t.size = 0 by omega]; simp
    rw [e]
    clear e hts
    obtain ⟨j, rfl⟩ := Int.eq_ofNat_of_zero_le hc
    have HZ := Lib.hid hc2
    have hz : t.size ≤ 0 := by omega
    clear hc2
    go_enter Try.func24, Try.ntmps24
    go_wp2
    go_quiet (fail)
    go_wp2
    all_goals
      go_region
    all_goals
      go_wp2
      go_ret
      exact ⟨rfl, ((((Fr.refl _ _).alloc _).drewN _).setCell (.inl (by simp)) _).setCell (.inl (by simp)) _, _, _, ((H0.out.drewN _).store 1 _).store 2 _, rfl, rfl⟩
  · subst hc
    have e : s.data.toList ++ t.data.toList.take (min (0 : Int).toNat t.size) = s.data.toList := by rw [show min (0 : Int).toNat t.size = 0 by omega]; simp
    rw [e]
    clear e hts
    go_enter Try.func24, Try.ntmps24
    go_wp2
    go_quiet (fail)
    go_wp2
    all_goals
      go_region
    all_goals
      go_wp2
      go_ret
      exact ⟨rfl, ((((Fr.refl _ _).alloc _).drewN _).setCell (.inl (by simp)) _).setCell (.inl (by simp)) _, _, _, ((H0.out.drewN _).store 1 _).store 2 _, rfl, rfl⟩
  · have e : s.data.toList ++ t.data.toList.take (min k.toNat t.size) = (s ++ t.extract 0 k.toNat).data.toList := by rw [list_append, list_extract, show min k.toNat t.size = k.toNat by omega]
    rw [e]
    clear e hts
    obtain ⟨j, rfl⟩ := Int.eq_ofNat_of_zero_le (show 0 ≤ k by omega)
    go_enter Try.func24, Try.ntmps24
    go_wp2
    go_quiet (fail)
    go_wp2
    all_goals
      go_region
    all_goals
      go_wp2
      go_ret
      exact ⟨rfl, ((((Fr.refl _ _).alloc _).drewN _).setCell (.inl (by simp)) _).setCell (.inl (by simp)) _, _, _, ((H0.out.drewN _).store 1 _).store 2 _, by simp, rfl⟩
  · have e : s.data.toList ++ t.data.toList.take (min k.toNat t.size) = (s ++ t).data.toList := by rw [list_append, show min k.toNat t.size = t.size by omega, ← hts, List.take_length]
    rw [e]
    clear e hts
    obtain ⟨j, rfl⟩ := Int.eq_ofNat_of_zero_le (show 0 ≤ k by omega)
    go_enter Try.func24, Try.ntmps24
    go_wp2
    go_quiet (fail)
    go_wp2
    all_goals
      go_region
    all_goals
      go_wp2
      go_ret
      exact ⟨rfl, ((((Fr.refl _ _).alloc _).drewN _).setCell (.inl (by simp)) _).setCell (.inl (by simp)) _, _, _, ((H0.out.drewN _).store 1 _).store 2 _, (by first | rfl | exact ext_all (by omega)), rfl⟩
/-- An act on the document's disk: what it answers, and the bytes and how many are sure behind it, are those of a disk. -/
def RefStep (w : World) (g : Nat) (R : Int) (p : Bool × List UInt8 × Nat) (e : Ending) (w' : World) : Prop :=
  e = .returned (.bool p.1) ∧ Fr [g] w w' ∧ ∃ s t : ByteArray, IsRef w' g R s t ∧ s.data.toList ++ t.data.toList = p.2.1 ∧ s.size = p.2.2
theorem RefThen.step {e : Ending} {w' : World} {b : Bool} {p : Bool × List UInt8 × Nat} (h : RefThen w g R s t (.bool b) e w') (h1 : b = p.1) (h2 : s.data.toList ++ t.data.toList = p.2.1) (h3 : s.size = p.2.2) : RefStep w g R p e w' :=
  ⟨h1 ▸ h.1, h.2.1, s, t, h.2.2, h2, h3⟩
theorem ref_any (h : IsRef w g R s t) (hR : -9223372036854775808 ≤ R ∧ R ≤ 9223372036854775807) (hs : s.size ≤ 1000000) (ht : t.size ≤ 1000000) (a : ByteArray) (ha : a.size ≤ 1000000) (kind k : Int) (hk : -9223372036854775808 ≤ k ∧ k ≤ 9223372036854775807) :
    Calls Try.prog 24 #[.pointer (some ⟨g, 0, none⟩), .agg #[.int .i64 kind, .string a, .int .i64 k]] w (RefStep w g R (dstep R.toNat kind a.data.toList k (s.data.toList ++ t.data.toList) s.size)) := by
  have e0 : (⟨#[]⟩ : ByteArray).data.toList = [] := rfl
  have hl : (s.data.toList ++ t.data.toList).length = s.size + t.size := by rw [List.length_append, size_bytes, size_bytes]
  have hla : a.data.toList.length = a.size := size_bytes a
  by_cases h1 : kind = 1
  · subst h1
    by_cases hr : s.size + t.size + a.size ≤ R.toNat
    · have e : dstep R.toNat 1 a.data.toList k (s.data.toList ++ t.data.toList) s.size = (true, s.data.toList ++ t.data.toList ++ a.data.toList, s.size) := by unfold dstep; rw [if_pos rfl, if_pos (by omega)]
      rw [e]
      exact (ref_append h hR hs ht a ha k hr).mono fun _ _ hh => hh.step rfl (by rw [list_append, List.append_assoc]) rfl
    · have e : dstep R.toNat 1 a.data.toList k (s.data.toList ++ t.data.toList) s.size = (false, s.data.toList ++ t.data.toList, s.size) := by unfold dstep; rw [if_pos rfl, if_neg (by omega)]
      rw [e]
      exact (ref_append_no h hR hs ht a ha k (by omega)).mono fun _ _ hh => hh.step rfl rfl rfl
  · by_cases h2 : kind = 2
    · subst h2
      have e : dstep R.toNat 2 a.data.toList k (s.data.toList ++ t.data.toList) s.size = (false, s.data.toList ++ t.data.toList, s.size + t.size) := by unfold dstep; rw [if_neg (by decide), if_pos rfl, hl]
      rw [e]
      exact (ref_sync h hR hs ht a ha k).mono fun _ _ hh => hh.step rfl (by rw [e0, List.append_nil, list_append]) (by rw [ByteArray.size_append])
    · by_cases h3 : kind = 3
      · subst h3
        have e : dstep R.toNat 3 a.data.toList k (s.data.toList ++ t.data.toList) s.size = (false, s.data.toList ++ t.data.toList.take (min k.toNat t.size), s.size + min k.toNat t.size) := by
          unfold dstep; rw [if_neg (by decide), if_neg (by decide), if_pos rfl, hl, show s.size + t.size - s.size = t.size by omega, ← size_bytes s, List.take_length_add_append, size_bytes]
        rw [e]
        refine (ref_crash h hR hs ht a ha k hk).mono fun _ _ ⟨q1, q2, s', t', q3, q4, q5⟩ => ⟨q1, q2, s', t', q3, by rw [q4, q5, List.append_nil], ?_⟩
        show s'.size = s.size + min k.toNat t.size
        rw [← size_bytes s', q4, List.length_append, List.length_take, size_bytes, size_bytes]
        omega
      · by_cases h4 : kind = 4
        · subst h4
          by_cases hr : a.size ≤ R.toNat
          · have e : dstep R.toNat 4 a.data.toList k (s.data.toList ++ t.data.toList) s.size = (true, a.data.toList, a.size) := by unfold dstep; rw [if_neg (by decide), if_neg (by decide), if_neg (by decide), if_pos rfl, if_pos (by omega), hla]
            rw [e]
            exact (ref_swap h hR hs ht a ha k hr).mono fun _ _ hh => hh.step rfl (by rw [e0, List.append_nil]) rfl
          · have e : dstep R.toNat 4 a.data.toList k (s.data.toList ++ t.data.toList) s.size = (false, s.data.toList ++ t.data.toList, s.size) := by unfold dstep; rw [if_neg (by decide), if_neg (by decide), if_neg (by decide), if_pos rfl, if_neg (by omega)]
            rw [e]
            exact (ref_swap_no h hR hs ht a ha k (by omega)).mono fun _ _ hh => hh.step rfl rfl rfl
        · have e : dstep R.toNat kind a.data.toList k (s.data.toList ++ t.data.toList) s.size = (false, s.data.toList ++ t.data.toList, s.size) := by unfold dstep; rw [if_neg h1, if_neg h2, if_neg h3, if_neg h4]
          rw [e]
          exact (ref_else h hR hs ht a ha k kind h1 h2 h3 h4).mono fun _ _ hh => hh.step rfl rfl rfl
end
end Go.Proofs.Ytbicoiciapngdaa

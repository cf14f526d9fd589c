/- What is proved here, on plain bytes: a text between two slashes of a text is one. No conditions. -/
import Derived.Test.YtibjnaccdhcbcaaDoorJoin16
import Derived.Test.YtibjnaccdhcbcaaDoorMath03
namespace Go.Proofs.YtibjnaccdhcbcaaDoor

/-- From a place on there are letters up to the end. -/
inductive Good (s : ByteArray) : Nat → Prop
  | done : Good s s.size
  | more {a : Nat} (h : a < s.size) (hz : szAt s a ≠ 0) (g : Good s (a + szAt s a)) : Good s a
theorem good_of_walk {s : ByteArray} : ∀ f a n, s.size ≤ a + f → a ≤ s.size → (walkF s f a n).1 = s.size → Good s a := by
  intro f
  induction f with
  | zero =>
    intro a n h1 h2 h3
    obtain rfl : a = s.size := h3
    exact .done
  | succ f ih =>
    intro a n h1 h2 h3
    by_cases h : a < s.size ∧ szAt s a ≠ 0
    · rw [walk_more h.1 h.2] at h3
      have := (sz_bd s a).2 h.2
      exact .more h.1 h.2 (ih _ _ (by have := h.2; omega) this h3)
    · rw [walk_end h] at h3
      obtain rfl : a = s.size := h3
      exact .done
theorem walk_of_good {s : ByteArray} {a : Nat} (hg : Good s a) : ∀ f n, s.size ≤ a + f → (walkF s f a n).1 = s.size := by
  induction hg with
  | done => intro f n _; rw [walk_end (by omega)]
  | more h hz g ih =>
    intro f n hf
    obtain ⟨f', rfl⟩ : ∃ f', f = f' + 1 := ⟨f - 1, by omega⟩
    rw [walk_more h hz]
    exact ih _ _ (by omega)
theorem good_cut {s : ByteArray} : cutOf s = s.size ↔ Good s 0 :=
  ⟨fun h => good_of_walk s.size 0 0 (by omega) (Nat.zero_le _) h, fun h => walk_of_good h s.size 0 (by omega)⟩
theorem letter_hi {s : ByteArray} {a j : Nat} (hz : szAt s a ≠ 0) (h1 : a < j) (h2 : j < a + szAt s a) : 128 ≤ bAt s j := by
  rcases sz_or s a with h0 | ⟨e, _, _, hc, _⟩
  · exact absurd h0 hz
  · rw [e] at h2
    have hk := class_bd (bAt s a)
    unfold contB at hc
    simp only [Bool.and_eq_true, Bool.or_eq_true, decide_eq_true_eq] at hc
    obtain ⟨⟨c1, c2⟩, c3⟩ := hc
    rcases (show j = a + 1 ∨ j = a + 2 ∨ j = a + 3 by omega) with rfl | rfl | rfl
    · exact (isC_iff.1 (c1.resolve_left (by omega))).1
    · exact (isC_iff.1 (c2.resolve_left (by omega))).1
    · exact (isC_iff.1 (c3.resolve_left (by omega))).1
theorem good_jump {s : ByteArray} {a : Nat} (hg : Good s a) : ∀ q, a ≤ q → q ≤ s.size → (q = s.size ∨ bAt s q < 128) → Good s q := by
  induction hg with
  | done => intro q h1 h2 _; obtain rfl : q = s.size := by omega
            exact .done
  | @more a h hz g ih =>
    intro q h1 h2 hb
    by_cases he : q = a
    · subst he; exact .more h hz g
    · have hbd := (sz_bd s a).2 hz
      by_cases hlt : q < a + szAt s a
      · have := letter_hi hz (by omega) hlt
        rcases hb with hb | hb <;> omega
      · exact ih q (by omega) h2 hb
theorem ext_size {s : ByteArray} {p q : Nat} (hq : q ≤ s.size) : (s.extract p q).size = q - p := by
  rw [← ls_size, ls_ext, List.length_take, List.length_drop, ls_size]; omega
theorem bAt_ext {s : ByteArray} {p q i : Nat} (h : p + i < q) : bAt (s.extract p q) i = bAt s (p + i) := by
  rw [bAt_ls, bAt_ls, ls_ext, List.getD_eq_getElem?_getD, List.getD_eq_getElem?_getD, List.getElem?_take, if_pos (by omega), List.getElem?_drop]
theorem good_piece {s : ByteArray} {a : Nat} (hg : Good s a) : ∀ p q, p ≤ a → a ≤ q → q ≤ s.size → (q = s.size ∨ bAt s q < 128) → Good (s.extract p q) (a - p) := by
  induction hg with
  | done =>
    intro p q h1 h2 h3 _
    obtain rfl : q = s.size := by omega
    have := Good.done (s := s.extract p s.size)
    rw [ext_size (Nat.le_refl _)] at this
    exact this
  | @more a h hz g ih =>
    intro p q h1 h2 h3 hb
    by_cases he : a = q
    · subst he
      have := Good.done (s := s.extract p a)
      rw [ext_size h3] at this
      exact this
    · have hbd := (sz_bd s a).2 hz
      have hle : a + szAt s a ≤ q := by
        by_cases hlt : q < a + szAt s a
        · have := letter_hi hz (by omega) hlt
          rcases hb with hb | hb <;> omega
        · omega
      have hs : szAt (s.extract p q) (a - p) = szAt s a := sz_same hz (fun i hi => by rw [bAt_ext (by omega)]; congr 1; omega) (by rw [ext_size h3]; omega)
      have h4 := ih p q (by omega) hle h3 hb
      refine .more (by rw [ext_size h3]; omega) (by rw [hs]; exact hz) ?_
      rw [hs, show a - p + szAt s a = a + szAt s a - p by omega]
      exact h4
theorem good_parts : ∀ (n : Nat) (s : ByteArray), s.size ≤ n → Good s 0 → ∀ x ∈ spl (ls s), Good (bs x) 0 := by
  intro n
  induction n with
  | zero =>
    intro s hs hg x hx
    have h0 : ls s = [] := List.eq_nil_of_length_eq_zero (by rw [ls_size]; omega)
    rw [h0] at hx
    simp [spl] at hx
    subst hx
    exact .done
  | succ n ih =>
    intro s hs hg x hx
    rcases index_or (ls s) with ⟨_, hno⟩ | ⟨i, hi, hil, hno, hcut⟩
    · rw [spl_no hno] at hx
      simp at hx
      subst hx
      rw [bs_ls]
      exact hg
    · have hir : i < s.size := by rw [← ls_size]; exact hil
      have hb : bAt s i = 47 := by
        rw [bAt_ls, List.getD_eq_getElem?_getD]
        conv => lhs; rw [hcut]
        rw [List.getElem?_append_right (by rw [List.length_take]; omega), List.length_take, show i - min i (ls s).length = 0 by omega]
        rfl
      have hsp : spl (ls s) = (ls s).take i :: spl ((ls s).drop (i + 1)) := by
        conv => lhs; rw [hcut]
        exact spl_at hno
      rw [hsp] at hx
      have hgi := good_jump hg i (Nat.zero_le _) (by omega) (.inr (by omega))
      rcases List.mem_cons.1 hx with rfl | hx
      · have := good_piece hg 0 i (Nat.le_refl _) (Nat.zero_le _) (by omega) (.inr (by omega))
        rw [ext_head] at this
        exact this
      · have hg1 : Good s (i + 1) := by
          cases hgi with
          | done => omega
          | more h hz g =>
            have : szAt s i = 1 := by
              rcases sz_or s i with h0 | ⟨e, _⟩
              · exact absurd h0 hz
              · rw [e, hb]; rfl
            rw [this] at g
            exact g
        have h5 := good_piece hg1 (i + 1) s.size (Nat.le_refl _) (by omega) (Nat.le_refl _) (.inl rfl)
        rw [Nat.sub_self] at h5
        refine ih (s.extract (i + 1) s.size) (by rw [ext_size (Nat.le_refl _)]; omega) h5 x ?_
        rw [ext_tail, ls_bs]
        exact hx
theorem isB_iff {s : ByteArray} : isB s = true ↔ s.size ≤ 65535 ∧ cutOf s = s.size := by
  have hc := cut_le s
  unfold isB checkOf
  by_cases h1 : 65535 < s.size
  · rw [if_pos h1]
    constructor
    · intro h; cases h
    · intro h; omega
  · rw [if_neg h1]
    by_cases h2 : cutOf s < s.size
    · rw [if_pos h2]
      constructor
      · intro h; cases h
      · intro h; omega
    · rw [if_neg h2]
      exact ⟨fun _ => ⟨by omega, by omega⟩, fun _ => rfl⟩
theorem spl_sub {l : BL} : ∀ {x : BL}, x ∈ spl l → ∀ c ∈ x, c ∈ l := by
  induction l with
  | nil => intro x hx; simp [spl] at hx; subst hx; simp
  | cons b l ih =>
    intro x hx c hc
    rw [spl] at hx
    by_cases hb : b = 47
    · rw [if_pos hb] at hx
      rcases List.mem_cons.1 hx with rfl | hx
      · cases hc
      · exact List.mem_cons_of_mem _ (ih hx c hc)
    · rw [if_neg hb] at hx
      cases hs : spl l with
      | nil => exact absurd hs (spl_ne l)
      | cons h t =>
        rw [hs] at hx ih
        rcases List.mem_cons.1 hx with rfl | hx
        · rcases List.mem_cons.1 hc with rfl | hc
          · exact List.mem_cons_self ..
          · exact List.mem_cons_of_mem _ (ih (List.mem_cons_self ..) c hc)
        · exact List.mem_cons_of_mem _ (ih (List.mem_cons_of_mem _ hx) c hc)
theorem sign_sub {x l : BL} (h : ∀ c ∈ x, c ∈ l) (hs : signB l = false) : signB x = false := by
  unfold signB hasB at hs ⊢
  rw [Bool.or_eq_false_iff] at hs ⊢
  refine ⟨?_, ?_⟩
  · rw [← Bool.not_eq_true, List.contains_iff_mem]
    intro hm
    have := hs.1
    rw [← Bool.not_eq_true, List.contains_iff_mem] at this
    exact this (h _ hm)
  · rw [← Bool.not_eq_true, List.contains_iff_mem]
    intro hm
    have := hs.2
    rw [← Bool.not_eq_true, List.contains_iff_mem] at this
    exact this (h _ hm)
/-- A level of a name is a name, if it is not empty. -/
theorem name_part {s : ByteArray} (h : nameB s = true) {x : BL} (hx : x ∈ spl (ls s)) (hne : x ≠ []) : nameB (bs x) = true := by
  unfold nameB topB at h ⊢
  simp only [Bool.and_eq_true, Bool.not_eq_true', decide_eq_true_eq] at h ⊢
  obtain ⟨⟨⟨_, hb⟩, _⟩, hsg⟩ := h
  have hb' := isB_iff.1 hb
  rw [ls_bs]
  refine ⟨⟨⟨?_, isB_iff.2 ⟨?_, ?_⟩⟩, ?_⟩, sign_sub (spl_sub hx) hsg⟩
  · cases x with
    | nil => exact absurd rfl hne
    | cons _ _ => rfl
  · rw [bs_size]
    have := spl_le hx
    rw [ls_size] at this
    omega
  · exact good_cut.2 (good_parts s.size s (Nat.le_refl _) (good_cut.1 hb'.2) x hx)
  · rw [List.count_eq_zero.2 (spl_mem hx)]
    omega
end Go.Proofs.YtibjnaccdhcbcaaDoor

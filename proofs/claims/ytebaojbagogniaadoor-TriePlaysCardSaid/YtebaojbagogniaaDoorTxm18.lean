/- What is proved here, on plain lists: the places that a topic's levels visit are those whose filters take it. Conditions: those that each theorem names. -/
import Derived.Test.YtebaojbagogniaaDoorTwk18
import Derived.Test.YtebaojbagogniaaDoorSme18
namespace Go.Proofs.YtebaojbagogniaaDoor
set_option maxRecDepth 100000
def hashOk : List BL → Prop
  | [] => True
  | x :: F => (x = [35] → F = []) ∧ hashOk F
theorem hash_of : ∀ {F : List BL}, (∀ i, i < F.length → F.getD i [] = [35] → i + 1 = F.length) → hashOk F
  | [], _ => trivial
  | x :: F, h => ⟨fun hx => by
      have := h 0 (by simp) hx
      rw [List.length_cons] at this
      exact List.eq_nil_of_length_eq_zero (by omega), hash_of fun i hi hx => by
      have := h (i + 1) (by rw [List.length_cons]; omega) hx
      rw [List.length_cons] at this
      omega⟩
theorem hash_filt {f : ByteArray} (h : filtB f = true) : hashOk (spl (ls f)) := by
  unfold filtB at h
  rw [Bool.and_eq_true] at h
  have h2 := h.2
  unfold levelsOk at h2
  rw [List.all_eq_true] at h2
  refine hash_of fun i hi hx => ?_
  have h3 := h2 i (List.mem_range.2 hi)
  rw [hx, Bool.not_eq_true'] at h3
  refine Classical.byContradiction fun hne => ?_
  have h4 : (i + 1 == (spl (ls f)).length) = false := beq_eq_false_iff_ne.2 hne
  rw [h4] at h3
  exact absurd h3 (by decide)
theorem rev_split (x : BL) (F p : List BL) : (x :: F).reverse ++ p = F.reverse ++ (x :: p) := by
  rw [List.reverse_cons, List.append_assoc]
  rfl
theorem no_self {F p : List BL} {x : BL} : ¬ F.reverse ++ (x :: p) = p := fun h => by
  have := congrArg List.length h
  rw [List.length_append, List.length_cons] at this
  omega
theorem no_one {F p : List BL} {x : BL} (hx : ¬ x = [35]) : ¬ F.reverse ++ (x :: p) = [35] :: p := fun h => by
  have h1 : (x :: p) <:+ [35] :: p := ⟨_, h⟩
  exact hx (two_suf h1 (List.suffix_refl _))
theorem vis_true : ∀ (L F p : List BL), hashOk F → [35] ∉ L → [43] ∉ L → ((F.reverse ++ p ∈ visP p L true) ↔ matchL F L = true)
  | [], [], p, _, _, _ => by
    rw [visP]
    simp [match_nil]
  | [], x :: F, p, hF, _, _ => by
    rw [visP, rev_split]
    by_cases hx : x = [35]
    · rw [match_hash hx, hF.1 hx, hx]
      simp
    · rw [match_none hx]
      simp [no_self, no_one hx]
  | y :: L, [], p, _, _, _ => by
    rw [match_nil, visP]
    have h1 : ∀ (l : BL), p ∉ visP (l :: p) L true := fun l h => suf_self (vis_suf L _ true _ h)
    simp [h1]
  | y :: L, x :: F, p, hF, h1, h2 => by
    have i1 := fun q => vis_true L F q hF.2 (fun h => h1 (List.mem_cons_of_mem _ h)) (fun h => h2 (List.mem_cons_of_mem _ h))
    have hy1 : y ≠ [35] := fun e => h1 (by rw [e]; exact List.mem_cons_self ..)
    have hy2 : y ≠ [43] := fun e => h2 (by rw [e]; exact List.mem_cons_self ..)
    rw [visP, rev_split, if_pos rfl, if_pos rfl, List.mem_append, List.mem_append, List.mem_singleton]
    by_cases hx : x = [35]
    · rw [match_hash hx, hF.1 hx, hx]
      simp
    · rw [match_step hx, Bool.and_eq_true, Bool.or_eq_true, beq_iff_eq, beq_iff_eq]
      have hno : ∀ (l : BL), l ≠ x → F.reverse ++ (x :: p) ∉ visP (l :: p) L true := fun l hl hm => hl (two_suf (vis_suf L _ true _ hm) ⟨_, rfl⟩)
      constructor
      · rintro (h | h | h)
        · exact absurd h (no_one hx)
        · have hxe : [43] = x := Classical.byContradiction fun hne => hno _ hne h
          rw [← hxe] at h ⊢
          exact ⟨.inl rfl, (i1 _).1 h⟩
        · have hxe : y = x := Classical.byContradiction fun hne => hno _ hne h
          rw [← hxe] at h ⊢
          exact ⟨.inr rfl, (i1 _).1 h⟩
      · rintro ⟨rfl | rfl, hm⟩
        · exact .inr (.inl ((i1 _).2 hm))
        · exact .inr (.inr ((i1 _).2 hm))
theorem vis_false {y : BL} {L F : List BL} {x : BL} (hF : hashOk (x :: F)) (h1 : [35] ∉ y :: L) (h2 : [43] ∉ y :: L) : ((x :: F).reverse ∈ visP [] (y :: L) false) ↔ (x = y ∧ matchL F L = true) := by
  have i1 := fun q => vis_true L F q hF.2 (fun h => h1 (List.mem_cons_of_mem _ h)) (fun h => h2 (List.mem_cons_of_mem _ h))
  have e : (x :: F).reverse = F.reverse ++ [x] := List.reverse_cons ..
  rw [visP, e, if_neg Bool.false_ne_true, if_neg Bool.false_ne_true, List.nil_append, List.nil_append]
  constructor
  · intro h
    have hxe : y = x := two_suf (vis_suf L _ true _ h) ⟨_, rfl⟩
    subst hxe
    exact ⟨rfl, (i1 _).1 h⟩
  · rintro ⟨rfl, hm⟩
    exact (i1 _).2 hm
theorem hash_is : filtB ⟨#[35]⟩ = true := by kernel_rfl
theorem sg_is {s : ByteArray} (hn : nameB s = true) : matchB ⟨#[35]⟩ s = !(bAt s 0 == 36) := by
  unfold matchB
  rw [hash_is, hn, show spl (ls ⟨#[35]⟩) = [[35]] from by kernel_rfl, match_hash rfl]
  unfold ownB
  rw [show bAt ⟨#[35]⟩ 0 = 35 from by kernel_rfl]
  simp
/-- The first byte of a text with levels. -/
theorem first_byte {f : ByteArray} {b : UInt8} {x : BL} {F : List BL} (h : spl (ls f) = (b :: x) :: F) : bAt f 0 = b.toNat := by
  have h1 := join_spl (ls f)
  rw [h] at h1
  rw [bAt_ls, ← h1]
  cases F with
  | nil => rfl
  | cons y F => rfl
theorem first_none {f : ByteArray} {F : List BL} (h : spl (ls f) = [] :: F) : bAt f 0 = 0 ∨ bAt f 0 = 47 := by
  have h1 := join_spl (ls f)
  rw [h] at h1
  rw [bAt_ls, ← h1]
  cases F with
  | nil => exact .inl rfl
  | cons y F => exact .inr rfl
theorem take_match {e : EV} {s : ByteArray} (hf : filtB e.2 = true) (hn : nameB s = true) : decide (lv e ∈ visP [] (spl (ls s)) (matchB ⟨#[35]⟩ s)) = matchB e.2 s := by
  obtain ⟨h35, h43⟩ := name_levels hn
  have hF := hash_filt hf
  have hM : matchB e.2 s = (!ownB e.2 s && matchL (spl (ls e.2)) (spl (ls s))) := by
    unfold matchB
    rw [hf, hn]
    rfl
  rw [hM, sg_is hn, Bool.eq_iff_iff, decide_eq_true_iff]
  unfold lv
  cases hd : (bAt s 0 == 36) with
  | false =>
    have ho : ownB e.2 s = false := by
      unfold ownB
      rw [hd]
      rfl
    rw [ho]
    have := vis_true (spl (ls s)) (spl (ls e.2)) [] hF h35 h43
    rw [List.append_nil] at this
    simpa using this
  | true =>
    obtain ⟨y, L, hL⟩ := List.exists_cons_of_ne_nil (spl_ne (ls s))
    obtain ⟨x, F, hE⟩ := List.exists_cons_of_ne_nil (spl_ne (ls e.2))
    rw [hL] at h35 h43 ⊢
    rw [hE] at hF ⊢
    rw [Bool.not_true, vis_false hF h35 h43]
    have hsy : hasB y 43 = false ∧ hasB y 35 = false := by
      have hmem : y ∈ spl (ls s) := by rw [hL]; exact List.mem_cons_self ..
      have h2 := hn
      unfold nameB at h2
      rw [Bool.and_eq_true, Bool.not_eq_true'] at h2
      have h3 := h2.2
      unfold signB at h3
      rw [Bool.or_eq_false_iff] at h3
      refine ⟨Bool.eq_false_iff.2 fun hh => ?_, Bool.eq_false_iff.2 fun hh => ?_⟩
      · have := spl_bytes hmem 43 (List.contains_iff_mem.1 hh)
        have h4 : hasB (ls s) 43 = true := List.contains_iff_mem.2 this
        rw [h4] at h3
        cases h3.1
      · have := spl_bytes hmem 35 (List.contains_iff_mem.1 hh)
        have h4 : hasB (ls s) 35 = true := List.contains_iff_mem.2 this
        rw [h4] at h3
        cases h3.2
    have ho : ownB e.2 s = (bAt e.2 0 == 43 || bAt e.2 0 == 35) := by
      unfold ownB
      rw [hd]
      rfl
    rw [ho]
    rcases x with _ | ⟨b, x⟩
    · have hb := first_none hE
      have hz : (bAt e.2 0 == 43 || bAt e.2 0 == 35) = false := by
        rcases hb with hb | hb <;> rw [hb] <;> rfl
      rw [hz, match_step (by simp), Bool.not_false, Bool.true_and, Bool.and_eq_true, Bool.or_eq_true, beq_iff_eq, beq_iff_eq]
      constructor
      · rintro ⟨h1, h2⟩
        exact ⟨.inr h1, h2⟩
      · rintro ⟨h1 | h1, h2⟩
        · cases h1
        · exact ⟨h1, h2⟩
    · have hb := first_byte hE
      cases hz : (bAt e.2 0 == 43 || bAt e.2 0 == 35) with
      | true =>
        rw [Bool.not_true, Bool.false_and]
        constructor
        · rintro ⟨rfl, _⟩
          exfalso
          rw [hb, Bool.or_eq_true, beq_iff_eq, beq_iff_eq] at hz
          rcases hz with hz | hz
          · have hb2 : b = 43 := UInt8.toNat_inj.1 hz
            rw [hb2] at hsy
            exact absurd hsy.1 (by simp [hasB])
          · have hb2 : b = 35 := UInt8.toNat_inj.1 hz
            rw [hb2] at hsy
            exact absurd hsy.2 (by simp [hasB])
        · intro h
          cases h
      | false =>
        rw [Bool.or_eq_false_iff, hb] at hz
        have hx1 : ¬ (b :: x) = [35] := fun e => by
          injection e with e1 _
          rw [e1] at hz
          exact absurd hz.2 (by decide)
        have hx2 : ¬ (b :: x) = [43] := fun e => by
          injection e with e1 _
          rw [e1] at hz
          exact absurd hz.1 (by decide)
        rw [match_step hx1, Bool.not_false, Bool.true_and, Bool.and_eq_true, Bool.or_eq_true, beq_iff_eq, beq_iff_eq]
        constructor
        · rintro ⟨h1, h2⟩
          exact ⟨.inr h1, h2⟩
        · rintro ⟨h1 | h1, h2⟩
          · exact absurd h1 hx2
          · exact ⟨h1, h2⟩
/-- Of a list without doubles, what Match takes is what the document takes. -/
theorem takeE_doc {D : List EV} {s : ByteArray} (hd : D.Nodup) (hf : ∀ e ∈ D, filtB e.2 = true) : (takeE D s).Perm (D.filter (mtE s)) := by
  unfold takeE
  cases hn : nameB s with
  | false =>
    rw [if_neg Bool.false_ne_true, List.filter_eq_nil_iff.2 fun e _ => by unfold mtE matchB; rw [hn]; simp]
  | true =>
    rw [if_pos rfl]
    have h1 : (dd D).Perm D := nodup_perm (dd_nodup D) hd fun e => mem_dd
    refine (h1.filter _).trans ?_
    rw [List.filter_congr fun e he => take_match (hf e he) hn]
    exact List.Perm.refl _
end Go.Proofs.YtebaojbagogniaaDoor

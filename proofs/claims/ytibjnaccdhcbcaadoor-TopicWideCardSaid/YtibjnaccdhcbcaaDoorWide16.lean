/- What is proved here, on plain bytes: a filter that is a name with + for a level, or # for all from one on, or # behind it, is a filter, and takes the name but where that begins with $. No conditions. -/
import Derived.Test.YtibjnaccdhcbcaaDoorRMat16
import Derived.Test.YtibjnaccdhcbcaaDoorPiec16
namespace Go.Proofs.YtibjnaccdhcbcaaDoor

theorem cut_plain {l : BL} (h : l.length = 1) (hb : ∀ c ∈ l, 0 < c.toNat ∧ c.toNat < 128) : cutOf (bs l) = (bs l).size := by
  obtain ⟨c, rfl⟩ := List.length_eq_one_iff.1 h
  obtain ⟨h0, h1⟩ := hb c (List.mem_singleton_self c)
  have hz : szAt (bs [c]) 0 = 1 := by
    have hb0 : bAt (bs [c]) 0 = c.toNat := rfl
    have hs : (bs [c]).size = 1 := rfl
    have hc : classOf c.toNat = 1 := by unfold classOf; rw [if_pos h1]
    unfold szAt
    rw [hb0, hc, hs, if_neg (by omega), if_pos]
    simp [contB, okNum, numAt, leastOf, hb0]
    omega
  rw [good_cut]
  refine .more (by show 0 < 1; omega) (by rw [hz]; decide) ?_
  rw [hz]
  exact .done
theorem bs_app (a b : BL) : bs (a ++ b) = bs a ++ bs b := by rw [← bs_ls (bs a ++ bs b), ls_app, ls_bs, ls_bs]
theorem cut_app {a b : BL} (ha : cutOf (bs a) = (bs a).size) (hb : cutOf (bs b) = (bs b).size) : cutOf (bs (a ++ b)) = (bs (a ++ b)).size := by
  rw [bs_app]; exact (walk_both ha hb).1
theorem cut_join {L : List BL} (h : ∀ x ∈ L, cutOf (bs x) = (bs x).size) : cutOf (bs (joinL L)) = (bs (joinL L)).size := by
  induction L with
  | nil => rfl
  | cons x r ih =>
    have h1 := h x (List.mem_cons_self ..)
    have h2 := ih fun y hy => h y (List.mem_cons_of_mem _ hy)
    by_cases hr : r = []
    · subst hr; exact h1
    · rw [join_cons x hr]
      have h3 : cutOf (bs [47]) = (bs [47]).size := cut_plain rfl (by simp)
      have := cut_app h1 (cut_app h3 h2)
      exact this
theorem join_len {L : List BL} : ∀ {n : Nat}, (∀ x ∈ L, x.length ≤ n) → (joinL L).length ≤ L.length * (n + 1) := by
  induction L with
  | nil => intro n _; exact Nat.zero_le _
  | cons x r ih =>
    intro n h
    have h1 := h x (List.mem_cons_self ..)
    have h2 := ih fun y hy => h y (List.mem_cons_of_mem _ hy)
    by_cases hr : r = []
    · subst hr
      show x.length ≤ _
      simp; omega
    · rw [join_cons x hr]
      simp only [List.length_append, List.length_cons, Nat.add_mul]
      omega
theorem join_empty {L : List BL} (hL : L ≠ []) : joinL L = [] ↔ L = [[]] := by
  cases L with
  | nil => exact absurd rfl hL
  | cons x r =>
    by_cases hr : r = []
    · subst hr; show x = [] ↔ [x] = [[]]; simp
    · rw [join_cons x hr]
      constructor
      · intro h; simp at h
      · intro h; injection h with _ h2; exact absurd h2 hr
/-- Levels that are texts, not too many, good as a filter's, are a filter together. -/
theorem filt_join {L : List BL} (hL : L ≠ []) (h0 : L ≠ [[]]) (hc : ∀ x ∈ L, cutOf (bs x) = (bs x).size) (hn : ∀ x ∈ L, ¬ 47 ∈ x) (hz : ∀ x ∈ L, x.length ≤ 300) (h32 : L.length ≤ 32) (hok : levelsOk L = true) :
    filtB (bs (joinL L)) = true ∧ spl (ls (bs (joinL L))) = L := by
  have hs := spl_join hL hn
  rw [ls_bs]
  refine ⟨?_, hs⟩
  have hl := join_len hz
  unfold filtB topB
  rw [ls_bs, hs, hok]
  have h1 : (joinL L).isEmpty = false := by
    cases hj : joinL L with
    | nil => exact absurd ((join_empty hL).1 hj) h0
    | cons _ _ => rfl
  have hb : isB (bs (joinL L)) = true := isB_iff.2 ⟨by rw [bs_size]; omega, cut_join hc⟩
  have h3 : (joinL L).count 47 < 32 := by
    have := spl_len (joinL L)
    rw [hs] at this
    omega
  rw [h1, hb, decide_eq_true h3]
  rfl
theorem match_front {A F N : List BL} (h : ∀ x ∈ A, ¬ x = [35]) : matchL (A ++ F) (A ++ N) = matchL F N := by
  induction A with
  | nil => rfl
  | cons x r ih =>
    have h1 := h x (List.mem_cons_self ..)
    have h2 := ih fun y hy => h y (List.mem_cons_of_mem _ hy)
    rw [List.cons_append, List.cons_append, match_step h1, h2]
    simp
theorem match_self {A : List BL} (h : ∀ x ∈ A, ¬ x = [35]) : matchL A A = true := by
  have := match_front (F := []) (N := []) h
  rw [List.append_nil] at this
  rw [this]; rfl
theorem match_only {F : List BL} (h : ∀ x ∈ F, signB x = false) : ∀ N, matchL F N = decide (F = N) := by
  induction F with
  | nil => intro N; cases N <;> simp [matchL]
  | cons x r ih =>
    intro N
    have h1 := h x (List.mem_cons_self ..)
    have h2 := ih fun y hy => h y (List.mem_cons_of_mem _ hy)
    have n35 : ¬ x = [35] := by rintro rfl; cases h1
    have n43 : (x == [43]) = false := beq_eq_false_iff_ne.2 (by rintro rfl; cases h1)
    cases N with
    | nil => rw [match_none n35]; simp
    | cons y m =>
      rw [match_step n35, n43, h2 m, Bool.false_or]
      by_cases e : x = y
      · subst e; simp
      · simp [e]
def plusL (L : List BL) (k : Nat) : List BL := L.take k ++ [43] :: L.drop (k + 1)
def hashL (L : List BL) (k : Nat) : List BL := L.take k ++ [[35]]
def longL (L : List BL) : List BL := L ++ [[35]]
/-- Levels of a name. -/
structure Levs (L : List BL) : Prop where
  ne : L ≠ []
  ne0 : L ≠ [[]]
  cut : ∀ x ∈ L, cutOf (bs x) = (bs x).size
  no : ∀ x ∈ L, ¬ 47 ∈ x
  size : ∀ x ∈ L, x.length ≤ 300
  few : L.length ≤ 32
  sign : ∀ x ∈ L, signB x = false
theorem levs_name {n : ByteArray} (h : nameB n = true) (hm : n.size ≤ 300) : Levs (spl (ls n)) := by
  unfold nameB topB at h
  simp only [Bool.and_eq_true, Bool.not_eq_true', decide_eq_true_eq] at h
  obtain ⟨⟨⟨he, hb⟩, h32⟩, hsg⟩ := h
  refine ⟨spl_ne _, ?_, ?_, fun x hx => spl_mem hx, ?_, by rw [spl_len]; omega, fun x hx => sign_sub (spl_sub hx) hsg⟩
  · intro h
    have := join_spl (ls n)
    rw [h] at this
    rw [← this] at he
    cases he
  · intro x hx
    exact good_cut.2 (good_parts n.size n (Nat.le_refl _) (good_cut.1 (isB_iff.1 hb).2) x hx)
  · intro x hx
    have := spl_le hx
    rw [ls_size] at this
    omega
theorem plus_in {L : List BL} {k : Nat} {x : BL} (hx : x ∈ plusL L k) : x ∈ L ∨ x = [43] := by
  unfold plusL at hx
  rcases List.mem_append.1 hx with h | h
  · exact .inl (List.mem_of_mem_take h)
  · rcases List.mem_cons.1 h with h | h
    · exact .inr h
    · exact .inl (List.mem_of_mem_drop h)
theorem cut_sign {x : BL} (h : x = [43] ∨ x = [35]) : cutOf (bs x) = (bs x).size := by
  rcases h with rfl | rfl
  · exact cut_plain rfl (by simp)
  · exact cut_plain rfl (by simp)
theorem getD_in {L : List BL} {i : Nat} (h : i < L.length) : L.getD i [] ∈ L := by
  rw [List.getD_eq_getElem?_getD, List.getElem?_eq_getElem h]
  exact List.getElem_mem h
theorem plus_filt {L : List BL} (h : Levs L) {k : Nat} (hk : k < L.length) : filtB (bs (joinL (plusL L k))) = true ∧ spl (ls (bs (joinL (plusL L k)))) = plusL L k := by
  refine filt_join (by unfold plusL; simp) ?_ ?_ ?_ ?_ ?_ ?_
  · intro e
    have : ([43] : BL) ∈ plusL L k := by unfold plusL; simp
    rw [e] at this
    simp at this
  · intro x hx
    rcases plus_in hx with h' | h'
    · exact h.cut x h'
    · exact cut_sign (.inl h')
  · intro x hx
    rcases plus_in hx with h' | rfl
    · exact h.no x h'
    · decide
  · intro x hx
    rcases plus_in hx with h' | rfl
    · exact h.size x h'
    · decide
  · unfold plusL
    have := h.few
    simp only [List.length_append, List.length_take, List.length_cons, List.length_drop]
    omega
  · refine levels_good fun i hi => ?_
    rcases plus_in (getD_in hi) with h' | h'
    · exact bad_sign (h.sign _ h')
    · rw [h']; exact bad_plus rfl
theorem hash_last {A : List BL} (hs : ∀ x ∈ A, signB x = false) : levelsOk (A ++ [[35]]) = true := by
  refine levels_good fun i hi => ?_
  rw [List.length_append, List.length_singleton] at hi
  by_cases hl : i < A.length
  · have : (A ++ [[35]]).getD i [] = A.getD i [] := by
      rw [List.getD_eq_getElem?_getD, List.getD_eq_getElem?_getD, List.getElem?_append_left hl]
    rw [this]
    exact bad_sign (hs _ (getD_in hl))
  · obtain rfl : i = A.length := by omega
    have : (A ++ [[35]]).getD A.length [] = [35] := by
      rw [List.getD_eq_getElem?_getD, List.getElem?_append_right (Nat.le_refl _), Nat.sub_self]; rfl
    rw [this, List.length_append, List.length_singleton]
    exact bad_hash (by simp)
theorem hash_filt {A : List BL} (hc : ∀ x ∈ A, cutOf (bs x) = (bs x).size) (hn : ∀ x ∈ A, ¬ 47 ∈ x) (hz : ∀ x ∈ A, x.length ≤ 300) (h31 : A.length ≤ 31) (hs : ∀ x ∈ A, signB x = false) :
    filtB (bs (joinL (A ++ [[35]]))) = true ∧ spl (ls (bs (joinL (A ++ [[35]])))) = A ++ [[35]] := by
  have hin : ∀ x ∈ A ++ [[35]], x ∈ A ∨ x = [35] := fun x hx => by
    rcases List.mem_append.1 hx with h | h
    · exact .inl h
    · exact .inr (List.mem_singleton.1 h)
  refine filt_join (by simp) ?_ ?_ ?_ ?_ (by simp; omega) (hash_last hs)
  · intro e
    have : ([35] : BL) ∈ A ++ [[35]] := by simp
    rw [e] at this
    simp at this
  · intro x hx
    rcases hin x hx with h' | h'
    · exact hc x h'
    · exact cut_sign (.inr h')
  · intro x hx
    rcases hin x hx with h' | rfl
    · exact hn x h'
    · decide
  · intro x hx
    rcases hin x hx with h' | rfl
    · exact hz x h'
    · decide
/-- What levels begin with that have no sign. -/
theorem first_plain {x : BL} {r : List BL} (hs : signB x = false) : (bAt (bs (joinL (x :: r))) 0 == 43) = false ∧ (bAt (bs (joinL (x :: r))) 0 == 35) = false := by
  have key : ∀ n : Nat, n ≠ 43 → n ≠ 35 → (n == 43) = false ∧ (n == 35) = false := fun n h1 h2 => ⟨beq_eq_false_iff_ne.2 h1, beq_eq_false_iff_ne.2 h2⟩
  cases x with
  | nil =>
    by_cases hr : r = []
    · subst hr; exact key _ (by decide) (by decide)
    · rw [join_cons _ hr]; exact key _ (by show (47 : UInt8).toNat ≠ 43; decide) (by show (47 : UInt8).toNat ≠ 35; decide)
  | cons c t =>
    have e : bAt (bs (joinL ((c :: t) :: r))) 0 = c.toNat := by
      by_cases hr : r = []
      · subst hr; rfl
      · rw [join_cons _ hr]; rfl
    rw [e]
    unfold signB hasB at hs
    rw [Bool.or_eq_false_iff] at hs
    refine key _ (fun h => ?_) (fun h => ?_)
    · obtain rfl : c = 43 := UInt8.toNat.inj h
      have := hs.1
      simp at this
    · obtain rfl : c = 35 := UInt8.toNat.inj h
      have := hs.2
      simp at this
/-- A name is taken by itself, and no other name takes it. -/
theorem name_takes {o n : ByteArray} (ho : nameB o = true) (hn : nameB n = true) (hm : o.size ≤ 300) : matchB o n = (o.toList == n.toList) := by
  have hl := levs_name ho hm
  have hf : filtB o = true := by
    unfold filtB
    have h1 : topB o = true := by unfold nameB at ho; rw [Bool.and_eq_true] at ho; exact ho.1
    rw [h1, levels_good fun i hi => bad_sign (hl.sign _ (getD_in hi))]; rfl
  have hown : ownB o n = false := by
    unfold ownB
    cases hs : spl (ls o) with
    | nil => exact absurd hs (spl_ne _)
    | cons x r =>
      have h := first_plain (x := x) (r := r) (hl.sign x (by rw [hs]; exact List.mem_cons_self ..))
      rw [← hs, join_spl, bs_ls] at h
      rw [h.1, h.2]
      simp
  unfold matchB
  rw [hf, hn, hown, match_only hl.sign, toList_ls, toList_ls]
  have e : (spl (ls o) = spl (ls n)) = (ls o = ls n) := propext ⟨fun h => by rw [← join_spl (ls o), h, join_spl], fun h => by rw [h]⟩
  simp only [e, Bool.true_and, Bool.not_false]
  by_cases h : ls o = ls n
  · simp [h]
  · simp [h]
theorem mid_split {L : List BL} {k : Nat} (hk : k < L.length) : L = L.take k ++ L[k] :: L.drop (k + 1) := by rw [← List.drop_eq_getElem_cons hk, List.take_append_drop]
/-- What a filter with a sign begins with. -/
theorem own_of {L : List BL} (hl : Levs L) {c : UInt8} (hc : c = 43 ∨ c = 35) {k : Nat} (hk : k < L.length) {D : List BL} {n : ByteArray} :
    (!ownB (bs (joinL (L.take k ++ [c] :: D))) n) = (decide (0 < k) || !(bAt n 0 == 36)) := by
  unfold ownB
  cases k with
  | zero =>
    have e : bAt (bs (joinL (L.take 0 ++ [c] :: D))) 0 = c.toNat := by
      show bAt (bs (joinL ([c] :: D))) 0 = _
      by_cases hr : D = []
      · subst hr; rfl
      · rw [join_cons _ hr]; rfl
    rw [e]
    rcases hc with rfl | rfl
    · cases (bAt n 0 == 36) <;> rfl
    · cases (bAt n 0 == 36) <;> rfl
  | succ k =>
    cases L with
    | nil => cases hk
    | cons x r =>
      have h := first_plain (x := x) (r := r.take k ++ [c] :: D) (hl.sign x (List.mem_cons_self ..))
      rw [List.take_succ_cons, List.cons_append, h.1, h.2]
      simp
theorem plus_takes {n : ByteArray} (hn : nameB n = true) (hm : n.size ≤ 300) {k : Nat} (hk : k < (spl (ls n)).length) : matchB (bs (joinL (plusL (spl (ls n)) k))) n = (decide (0 < k) || !(bAt n 0 == 36)) := by
  have hl := levs_name hn hm
  obtain ⟨hf, hs⟩ := plus_filt hl hk
  have n35 : ∀ x ∈ spl (ls n), ¬ x = [35] := fun x hx e => by have := hl.sign x hx; rw [e] at this; cases this
  have hmt : matchL (plusL (spl (ls n)) k) (spl (ls n)) = true := by
    have e := mid_split hk
    generalize hy : (spl (ls n))[k] = y at e
    have e2 : matchL (plusL (spl (ls n)) k) (spl (ls n)) = matchL ((spl (ls n)).take k ++ [43] :: (spl (ls n)).drop (k + 1)) ((spl (ls n)).take k ++ y :: (spl (ls n)).drop (k + 1)) := by rw [← e]; rfl
    rw [e2, match_front (fun x hx => n35 x (List.mem_of_mem_take hx)), match_step (by decide), match_self (fun x hx => n35 x (List.mem_of_mem_drop hx))]
    rfl
  unfold matchB
  rw [hf, hn, hs, hmt]
  have := own_of (n := n) (D := (spl (ls n)).drop (k + 1)) hl (.inl rfl : (43 : UInt8) = 43 ∨ _) hk
  unfold plusL
  rw [this]
  simp
theorem hash_takes {n : ByteArray} (hn : nameB n = true) (hm : n.size ≤ 300) {k : Nat} (hk : k < (spl (ls n)).length) : matchB (bs (joinL (hashL (spl (ls n)) k))) n = (decide (0 < k) || !(bAt n 0 == 36)) := by
  have hl := levs_name hn hm
  have hin : ∀ x ∈ (spl (ls n)).take k, x ∈ spl (ls n) := fun x hx => List.mem_of_mem_take hx
  obtain ⟨hf, hs⟩ := hash_filt (A := (spl (ls n)).take k) (fun x hx => hl.cut x (hin x hx)) (fun x hx => hl.no x (hin x hx)) (fun x hx => hl.size x (hin x hx)) (by have := hl.few; rw [List.length_take]; omega) (fun x hx => hl.sign x (hin x hx))
  have n35 : ∀ x ∈ spl (ls n), ¬ x = [35] := fun x hx e => by have := hl.sign x hx; rw [e] at this; cases this
  have hmt : matchL ((spl (ls n)).take k ++ [[35]]) (spl (ls n)) = true := by
    have e := mid_split hk
    generalize hy : (spl (ls n))[k] = y at e
    have e2 : matchL ((spl (ls n)).take k ++ [[35]]) (spl (ls n)) = matchL ((spl (ls n)).take k ++ [[35]]) ((spl (ls n)).take k ++ y :: (spl (ls n)).drop (k + 1)) := by rw [← e]
    rw [e2, match_front (fun x hx => n35 x (hin x hx)), match_hash rfl]
  unfold matchB hashL
  rw [hf, hn, hs, hmt]
  have := own_of (n := n) (D := []) hl (.inr rfl : (35 : UInt8) = 43 ∨ _) hk
  rw [this]
  simp
theorem long_takes {n : ByteArray} (hn : nameB n = true) (hm : n.size ≤ 300) (h31 : (spl (ls n)).length ≤ 31) : matchB (bs (joinL (longL (spl (ls n))))) n = true := by
  have hl := levs_name hn hm
  obtain ⟨hf, hs⟩ := hash_filt hl.cut hl.no hl.size h31 hl.sign
  have n35 : ∀ x ∈ spl (ls n), ¬ x = [35] := fun x hx e => by have := hl.sign x hx; rw [e] at this; cases this
  have hmt : matchL (spl (ls n) ++ [[35]]) (spl (ls n)) = true := by
    have := match_front (F := [[35]]) (N := []) n35
    rw [List.append_nil] at this
    rw [this, match_hash rfl]
  have hown : ownB (bs (joinL (spl (ls n) ++ [[35]]))) n = false := by
    unfold ownB
    have hne := hl.ne
    have hsg := hl.sign
    generalize spl (ls n) = L at *
    cases L with
    | nil => exact absurd rfl hne
    | cons x r =>
      have h := first_plain (x := x) (r := r ++ [[35]]) (hsg x (List.mem_cons_self ..))
      rw [List.cons_append, h.1, h.2]
      simp
  unfold matchB longL
  rw [hf, hn, hs, hmt, hown]
  rfl
/-- What is no name is taken by nothing. -/
theorem none_takes {f n : ByteArray} (hn : nameB n = false) : matchB f n = false := by
  unfold matchB
  rw [hn]
  simp
end Go.Proofs.YtibjnaccdhcbcaaDoor

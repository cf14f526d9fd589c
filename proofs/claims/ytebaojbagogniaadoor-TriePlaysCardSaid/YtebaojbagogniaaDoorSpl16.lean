/- What is proved here, on plain bytes: the levels of a text: between slashes; where the first slash stands; which signs there are; what a filter's levels take. No conditions. -/
import Derived.Test.YtebaojbagogniaaDoorCut03
import Derived.Lib.Bytealg
namespace Go.Proofs.YtebaojbagogniaaDoor

abbrev BL := List UInt8
def bs (l : BL) : ByteArray := ⟨l.toArray⟩
def ls (s : ByteArray) : BL := s.data.toList
theorem ls_bs (l : BL) : ls (bs l) = l := rfl
theorem bs_ls (s : ByteArray) : bs (ls s) = s := by cases s; rfl
theorem ls_size (s : ByteArray) : (ls s).length = s.size := by unfold ls; rw [Array.length_toList]; rfl
theorem bs_size (l : BL) : (bs l).size = l.length := by rw [← ls_size, ls_bs]
theorem bs_inj {a b : BL} : bs a = bs b ↔ a = b := ⟨fun h => by rw [← ls_bs a, h, ls_bs], fun h => by rw [h]⟩
theorem ls_ext (s : ByteArray) (a b : Nat) : ls (s.extract a b) = ((ls s).drop a).take (b - a) := by
  unfold ls
  rw [ByteArray.data_extract, Array.toList_extract, List.extract_eq_take_drop]
theorem ext_bs (s : ByteArray) (a b : Nat) : s.extract a b = bs (((ls s).drop a).take (b - a)) := by rw [← ls_ext, bs_ls]
theorem ext_tail (s : ByteArray) (a : Nat) : s.extract a s.size = bs ((ls s).drop a) := by
  rw [ext_bs, List.take_of_length_le (by rw [List.length_drop, ls_size]; exact Nat.le_refl _)]
theorem ext_head (s : ByteArray) (b : Nat) : s.extract 0 b = bs ((ls s).take b) := by rw [ext_bs]; rfl

def spl : BL → List BL
  | [] => [[]]
  | c :: l => if c = 47 then [] :: spl l else match spl l with | [] => [[c]] | h :: t => (c :: h) :: t
theorem spl_ne (l : BL) : spl l ≠ [] := by
  cases l with
  | nil => simp [spl]
  | cons c l =>
    rw [spl]
    split
    · simp
    · split <;> simp
theorem spl_cons {c : UInt8} (hc : c ≠ 47) {l h : BL} {t : List BL} (e : spl l = h :: t) : spl (c :: l) = (c :: h) :: t := by
  rw [spl, if_neg hc, e]
theorem spl_no {a : BL} (h : ¬ 47 ∈ a) : spl a = [a] := by
  induction a with
  | nil => rfl
  | cons c a ih =>
    simp only [List.mem_cons, not_or] at h
    exact spl_cons (fun e => h.1 e.symm) (ih h.2)
theorem spl_at {a b : BL} (h : ¬ 47 ∈ a) : spl (a ++ 47 :: b) = a :: spl b := by
  induction a with
  | nil => show spl (47 :: b) = _; rw [spl, if_pos rfl]
  | cons c a ih =>
    simp only [List.mem_cons, not_or] at h
    exact spl_cons (fun e => h.1 e.symm) (ih h.2)
theorem spl_len (l : BL) : (spl l).length = l.count 47 + 1 := by
  induction l with
  | nil => rfl
  | cons c l ih =>
    rw [spl]
    by_cases hc : c = 47
    · rw [if_pos hc, List.length_cons, ih, hc, List.count_cons_self]
    · rw [if_neg hc, List.count_cons_of_ne hc]
      cases hs : spl l with
      | nil => exact absurd hs (spl_ne l)
      | cons h t => rw [← ih, hs]; rfl
theorem spl_mem {l : BL} : ∀ {x : BL}, x ∈ spl l → ¬ 47 ∈ x := by
  induction l with
  | nil => intro x hx; simp [spl] at hx; subst hx; simp
  | cons c l ih =>
    intro x hx
    rw [spl] at hx
    by_cases hc : c = 47
    · rw [if_pos hc] at hx
      rcases List.mem_cons.1 hx with rfl | hx
      · simp
      · exact ih hx
    · rw [if_neg hc] at hx
      cases hs : spl l with
      | nil => exact absurd hs (spl_ne l)
      | cons h t =>
        rw [hs] at hx ih
        rcases List.mem_cons.1 hx with rfl | hx
        · have := ih (List.mem_cons_self ..)
          simp only [List.mem_cons, not_or]
          exact ⟨fun e => hc e.symm, this⟩
        · exact ih (List.mem_cons_of_mem _ hx)
def joinL : List BL → BL
  | [] => []
  | [x] => x
  | x :: y :: r => x ++ 47 :: joinL (y :: r)
theorem join_cons (x : BL) {r : List BL} (h : r ≠ []) : joinL (x :: r) = x ++ 47 :: joinL r := by
  cases r with
  | nil => exact absurd rfl h
  | cons y r => rfl
theorem join_spl (l : BL) : joinL (spl l) = l := by
  induction l with
  | nil => rfl
  | cons c l ih =>
    rw [spl]
    by_cases hc : c = 47
    · rw [if_pos hc, join_cons _ (spl_ne l), ih, hc]; rfl
    · rw [if_neg hc]
      cases hs : spl l with
      | nil => exact absurd hs (spl_ne l)
      | cons h t =>
        rw [hs] at ih
        cases t with
        | nil => show c :: h = c :: l; rw [← ih]; rfl
        | cons y r => show c :: h ++ 47 :: joinL (y :: r) = c :: l; rw [← ih]; rfl
/-- The parts of a text, if none has a slash and there is one. -/
theorem spl_join {L : List BL} (hL : L ≠ []) (h : ∀ x ∈ L, ¬ 47 ∈ x) : spl (joinL L) = L := by
  induction L with
  | nil => exact absurd rfl hL
  | cons x r ih =>
    cases r with
    | nil => exact spl_no (h x (List.mem_cons_self ..))
    | cons y r =>
      show spl (x ++ 47 :: joinL (y :: r)) = _
      rw [spl_at (h x (List.mem_cons_self ..)), ih (by simp) (fun z hz => h z (List.mem_cons_of_mem _ hz))]
/-- Where the first slash stands. -/
theorem index_or (l : BL) : (Lib.indexByte l 47 = -1 ∧ ¬ 47 ∈ l) ∨ ∃ i : Nat, Lib.indexByte l 47 = (i : Int) ∧ i < l.length ∧ ¬ 47 ∈ l.take i ∧ l = l.take i ++ 47 :: l.drop (i + 1) := by
  induction l with
  | nil => exact .inl ⟨rfl, by simp⟩
  | cons c l ih =>
    by_cases hc : c = 47
    · subst hc
      exact .inr ⟨0, by rw [Lib.indexByte]; simp, by simp, by simp, by simp⟩
    · have hb : (c == (47 : UInt8)) = false := beq_eq_false_iff_ne.2 hc
      rcases ih with ⟨h1, h2⟩ | ⟨i, h1, h2, h3, h4⟩
      · refine .inl ⟨?_, by simp only [List.mem_cons, not_or]; exact ⟨fun e => hc e.symm, h2⟩⟩
        rw [Lib.indexByte, hb, h1]
        rfl
      · refine .inr ⟨i + 1, ?_, by simpa using h2, ?_, ?_⟩
        · have hne : ((i : Int) == -1) = false := beq_eq_false_iff_ne.2 (by omega)
          rw [Lib.indexByte, hb, h1, hne]
          simp
        · rw [List.take_succ_cons]
          simp only [List.mem_cons, not_or]
          exact ⟨fun e => hc e.symm, h3⟩
        · rw [List.take_succ_cons, List.drop_succ_cons, List.cons_append, ← h4]
/-- Has a text a byte? -/
def hasB (l : BL) (c : UInt8) : Bool := l.contains c
/-- Has it one of the two signs? -/
def signB (l : BL) : Bool := hasB l 43 || hasB l 35
/-- A level that may not stand at its place. -/
def badB (x : BL) (last : Bool) : Bool := signB x && !(x == [43]) && !(x == [35] && last)
theorem bad_same (x : BL) (last : Bool) : (hasB x 43 && !(x == [43]) || hasB x 35 && (!(x == [35]) || !last)) = badB x last := by
  unfold badB signB
  by_cases h1 : x = [43]
  · subst h1; cases last <;> decide
  · by_cases h2 : x = [35]
    · subst h2; cases last <;> decide
    · have e1 : (x == [43]) = false := beq_eq_false_iff_ne.2 h1
      have e2 : (x == [35]) = false := beq_eq_false_iff_ne.2 h2
      rw [e1, e2]
      cases hasB x 43 <;> cases hasB x 35 <;> rfl
def levelsOk (L : List BL) : Bool := (List.range L.length).all fun i => !badB (L.getD i []) (i + 1 == L.length)
theorem levels_bad {L : List BL} {i : Nat} (hi : i < L.length) (h : badB (L.getD i []) (i + 1 == L.length) = true) : levelsOk L = false := by
  unfold levelsOk
  rw [List.all_eq_false]
  exact ⟨i, List.mem_range.2 hi, by rw [h]; simp⟩
theorem levels_good {L : List BL} (h : ∀ i, i < L.length → badB (L.getD i []) (i + 1 == L.length) = false) : levelsOk L = true := by
  unfold levelsOk
  rw [List.all_eq_true]
  intro i hi
  rw [h i (List.mem_range.1 hi)]
  rfl
/-- What a filter's levels take. -/
def matchL : List BL → List BL → Bool
  | [], n => n.isEmpty
  | x :: f, n => x == [35] || match n with | [] => false | y :: m => (x == [43] || x == y) && matchL f m
theorem match_nil (n : List BL) : matchL [] n = decide (n.length = 0) := by cases n <;> rfl
theorem match_hash {x : BL} (h : x = [35]) (f n : List BL) : matchL (x :: f) n = true := by cases n <;> (rw [matchL]; simp [h])
theorem match_none {x : BL} (h : ¬ x = [35]) (f : List BL) : matchL (x :: f) [] = false := by
  have e : (x == [35]) = false := beq_eq_false_iff_ne.2 h
  rw [matchL, e]; rfl
theorem match_step {x y : BL} (h : ¬ x = [35]) (f m : List BL) : matchL (x :: f) (y :: m) = ((x == [43] || x == y) && matchL f m) := by
  have e : (x == [35]) = false := beq_eq_false_iff_ne.2 h
  rw [matchL, e]; rfl
end Go.Proofs.YtebaojbagogniaaDoor

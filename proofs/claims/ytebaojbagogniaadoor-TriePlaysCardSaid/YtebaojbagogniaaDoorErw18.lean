/- What is proved here, of whatever program: a row of one's own of elements of several cells, sorted by the library's contract: it owns the sorted list. No conditions but those that each theorem names. What is proved here: texts in the order of their bytes; messages sorted by their topics. Conditions: those that each theorem names. What is proved here: the order of entries (whose, then the filter), and that what is sorted is so in one way alone. No condition. What is proved here: rows of messages of one's own, and their sort by topics. Conditions: those that each theorem names. What is proved here: rows of entries of one's own. Conditions: those that each theorem names. -/
import Derived.Test.YtebaojbagogniaaDoorObj
import Derived.Shelf.SlSortCmp.WholeK
import Derived.Shelf.SlSortCmp.NoneTotal
import Derived.Test.YtebaojbagogniaaDoorPuu19
import Derived.Test.YtebaojbagogniaaDoorLay19
import Derived.Test.YtebaojbagogniaaDoorAMapIn
import Derived.Great.BuildSlice
namespace Go.Proofs.YtebaojbagogniaaDoor
open Go.RowKit Go.Shelf Go.Lib Go.Sort Go.Proofs
section
variable {α : Type} [Inhabited α] {enc : α → List Value} {k : Nat}
omit [Inhabited α] in
theorem srt_len (hk : ∀ x, (enc x).length = k) (L : List α) : (L.flatMap enc).length = L.length * k := by
  induction L with
  | nil => simp
  | cons x L ih => rw [List.flatMap_cons, List.length_append, hk, ih, List.length_cons, Nat.add_mul, Nat.one_mul, Nat.add_comm]
theorem srt_get (hk : ∀ x, (enc x).length = k) : ∀ (L : List α) (t : Nat), t < L.length * k → (L.flatMap enc)[t]? = (enc (L.getD (t / k) default))[t % k]?
  | [], t, h => by simp at h
  | x :: L, t, h => by
    rw [List.flatMap_cons]
    have k0 : 0 < k := by
      rcases Nat.eq_zero_or_pos k with e | e
      · subst e; simp at h
      · exact e
    by_cases ht : t < k
    · rw [List.getElem?_append_left (by rw [hk]; exact ht), Nat.div_eq_of_lt ht, Nat.mod_eq_of_lt ht]
      rfl
    · have h2 : t - k < L.length * k := by
        rw [List.length_cons, Nat.add_mul, Nat.one_mul] at h
        omega
      rw [List.getElem?_append_right (by rw [hk]; omega), hk, srt_get hk L (t - k) h2]
      have e1 : t / k = (t - k) / k + 1 := by
        rw [← Nat.add_div_right (t - k) k0]
        congr 1
        omega
      have e2 : t % k = (t - k) % k := Nat.mod_eq_sub_mod (by omega)
      rw [e1, e2, List.getD_cons_succ]
theorem flatK_eq (hk : ∀ x, (enc x).length = k) (L : List α) : flatK enc k L.toArray = (L.flatMap enc).toArray := by
  refine ext_get! (by simp [srt_len hk]) fun t ht => ?_
  have ht' : t < L.length * k := by simpa using ht
  rw [get_flatK _ _ _ t (by simpa using ht')]
  have h1 := srt_get hk L t ht'
  have k0 : 0 < k := by
    rcases Nat.eq_zero_or_pos k with e | e
    · subst e; simp at ht'
    · exact e
  have hd : t / k < L.length := by
    rw [Nat.div_lt_iff_lt_mul k0]
    exact ht'
  have e1 : L.toArray[t / k]! = L.getD (t / k) default := by
    rw [getElem!_pos L.toArray (t / k) (by simpa using hd)]
    simp [List.getElem?_eq_getElem hd]
  have htl : t < (L.flatMap enc).length := by rw [srt_len hk]; exact ht'
  have e2 : ((L.flatMap enc).toArray)[t]! = ((L.flatMap enc)[t]?).getD default := by
    rw [getElem!_pos _ t (by simpa using htl), List.getElem?_eq_getElem htl]
    rfl
  rw [e1, e2, h1]
  simp [List.getElem!_eq_getElem?_getD]
variable {w : World} {B g cap n : Nat} {e : TypeId} {os : Array Obj} {L M : List α}
theorem row_holds (hk : ∀ x, (enc x).length = k) (h : w.ownsRow B e k (.slice (some ⟨g, 0, none⟩) L.length cap) L.length (L.flatMap enc)) : HoldsK enc k w g 0 L.toArray := by
  intro j hj
  rw [flatK_eq hk] at hj ⊢
  have hj' : j < (L.flatMap enc).length := by simpa using hj
  rcases h.2 with ⟨h0, _⟩ | ⟨g', cap', cur, hv, hg, hh, hn, hcap, hcs, htk⟩
  · cases h0
  · injection hv with hv1 hv2 hv3
    injection hv1 with hv1
    injection hv1 with hv1
    subst hv1
    have hc := World.ownsRow.cellAt h j (by rw [← srt_len hk]; exact hj')
    refine ⟨?_, ?_⟩
    · rw [Nat.zero_add, hc, List.getElem?_eq_getElem hj', getElem!_pos _ j hj]
      rfl
    · simp [World.frozen?, hh]
omit [Inhabited α] in
theorem row_lt (h : w.ownsRow B e k (.slice (some ⟨g, 0, none⟩) L.length cap) L.length (L.flatMap enc)) : g < w.heap.size := (h.lt g rfl).2
theorem row_sorted (hk : ∀ x, (enc x).length = k) (hl : M.length = L.length) (h : w.ownsRow B e k (.slice (some ⟨g, 0, none⟩) L.length cap) L.length (L.flatMap enc)) :
    (sortWorldK enc k w g 0 n M.toArray os).ownsRow B e k (.slice (some ⟨g, 0, none⟩) M.length cap) M.length (M.flatMap enc) ∧ w.grownBy (sortWorldK enc k w g 0 n M.toArray os) (some g) := by
  have hF := flatK_eq hk M
  rcases h.2 with ⟨h0, _⟩ | ⟨g', cap', cur, hv, hg, hh, hn, hcap, hcs, htk⟩
  · cases h0
  · injection hv with hv1 hv2 hv3
    injection hv1 with hv1
    injection hv1 with hv1
    subst hv1 hv3
    have hgl : g < w.heap.size := (Array.getElem?_eq_some_iff.1 hh).1
    have hfl := srt_len hk M
    refine ⟨⟨hfl, .inr ⟨g, cap, putCells id 0 (M.flatMap enc).toArray cur, rfl, hg, ?_, by omega, hcap, by simp [putCells, hcs], ?_⟩⟩, rfl, rfl, rfl, ?_, fun j hj hne => ?_⟩
    · unfold sortWorldK putRowK
      rw [heap_grow_old _ _ (by simpa [putRow, mapBlock, Sort.ahead] using hgl), hF]
      simp [putRow, mapBlock, Sort.ahead, Array.getElem?_modify, hh, onCells]
    · apply List.ext_getElem?
      intro j
      by_cases hj : j < M.length * k
      · have hjc : j < cur.size := by
          rw [hcs]
          exact Nat.lt_of_lt_of_le hj (Nat.mul_le_mul_right k (by omega))
        rw [List.getElem?_take_of_lt hj, Array.getElem?_toList]
        simp [putCells, hfl, hj, hjc]
      · rw [List.getElem?_take_eq_none (by omega), List.getElem?_eq_none (by omega)]
    · unfold sortWorldK
      simp [grow, putRowK, putRow, mapBlock, Sort.ahead]
    · unfold sortWorldK putRowK
      rw [heap_grow_old _ _ (by simpa [putRow, mapBlock, Sort.ahead] using hj)]
      have : g ≠ j := fun e => hne (by rw [e])
      simp [putRow, mapBlock, Sort.ahead, Array.getElem?_modify, this]
theorem perm_of_in {d d' : Array α} (h : PermIn 0 d.size d d') : d'.toList.Perm d.toList := by
  obtain ⟨h1, h2, h3⟩ := h
  have e1 : d.extract 0 d.size = d := by simp
  have e2 : d'.extract 0 d.size = d' := by rw [← h1]; simp
  rw [e1, e2] at h3
  exact h3
theorem pair_of_in {lt : α → α → Bool} {d d' : Array α} (hp : PermIn 0 d.size d d') (h : SortedIn lt 0 d.size d') : d'.toList.Pairwise (fun a b => lt b a = false) := by
  rw [List.pairwise_iff_getElem]
  intro i j hi hj hij
  have h1 := h i j (Nat.zero_le _) hij (by rw [← hp.1]; simpa using hj)
  have e1 : d'[i]! = d'.toList[i] := by
    rw [getElem!_pos d' i (by simpa using hi)]
    simp
  have e2 : d'[j]! = d'.toList[j] := by
    rw [getElem!_pos d' j (by simpa using hj)]
    simp
  rw [e1, e2] at h1
  exact h1
end
/-- What is sorted by a whole number of one's own, in one way alone. -/
theorem one_sorted {α : Type} (f : α → Int) : ∀ (L M : List α), L.Pairwise (fun a b => f a < f b) → M.Perm L → M.Pairwise (fun a b => f a ≤ f b) → M = L
  | [], M, _, hp, _ => List.Perm.eq_nil hp
  | a :: L, [], _, hp, _ => by have := hp.length_eq; simp at this
  | a :: L, b :: M, hL, hp, hM => by
    obtain ⟨h1, h2⟩ := List.pairwise_cons.1 hL
    obtain ⟨h3, h4⟩ := List.pairwise_cons.1 hM
    have hab : a = b := by
      have ha : a ∈ b :: M := hp.mem_iff.2 (List.mem_cons_self ..)
      have hb : b ∈ a :: L := hp.mem_iff.1 (List.mem_cons_self ..)
      rcases List.mem_cons.1 hb with e | hb
      · exact e.symm
      · rcases List.mem_cons.1 ha with e | ha
        · exact e
        · have := h1 b hb
          have := h3 a ha
          omega
    subst hab
    rw [one_sorted f L M h2 (hp.cons_inv) h4]
end Go.Proofs.YtebaojbagogniaaDoor
namespace Go.Proofs.YtebaojbagogniaaDoor
open Go.RowKit Go.Extern.Stop Go.Stop Go.Extern Go.Maps Go.Shelf Go.Lib Go.Sort
set_option maxRecDepth 100000
theorem less_irr : ∀ a : List UInt8, Op.bytesLess a a = false
  | [] => rfl
  | a :: x => by simp [Op.bytesLess, less_irr x]
theorem less_trans : ∀ {a b c : List UInt8}, Op.bytesLess a b = true → Op.bytesLess b c = true → Op.bytesLess a c = true
  | _, [], _, h, _ => by simp [Op.bytesLess] at h
  | _, _ :: _, [], _, h => by simp [Op.bytesLess] at h
  | [], _ :: _, _ :: _, _, _ => by simp [Op.bytesLess]
  | a :: x, b :: y, c :: z, h1, h2 => by
    simp only [Op.bytesLess, Bool.or_eq_true, Bool.and_eq_true, decide_eq_true_eq, beq_iff_eq] at *
    rcases h1 with h1 | ⟨rfl, h1⟩
    · rcases h2 with h2 | ⟨rfl, h2⟩
      · exact .inl (UInt8.lt_trans h1 h2)
      · exact .inl h1
    · rcases h2 with h2 | ⟨rfl, h2⟩
      · exact .inl h2
      · exact .inr ⟨rfl, less_trans h1 h2⟩
theorem less_tot : ∀ {a b : List UInt8}, Op.bytesLess a b = false → Op.bytesLess b a = false → a = b
  | [], [], _, _ => rfl
  | [], _ :: _, h, _ => by simp [Op.bytesLess] at h
  | _ :: _, [], _, h => by simp [Op.bytesLess] at h
  | a :: x, b :: y, h1, h2 => by
    simp only [Op.bytesLess, Bool.or_eq_false_iff, Bool.and_eq_false_iff, decide_eq_false_iff_not] at *
    have hab : a = b := by
      rcases UInt8.lt_or_lt_of_ne (a := a) (b := b) |> fun _ => Classical.em (a = b) with e | e
      · exact e
      · rcases UInt8.lt_or_lt_of_ne e with h | h
        · exact absurd h h1.1
        · exact absurd h h2.1
    subst hab
    have e1 := h1.2.resolve_left (by simp)
    have e2 := h2.2.resolve_left (by simp)
    rw [less_tot e1 e2]
/-- One text stands ahead of the other. -/
def lessT (a b : ByteArray) : Bool := Op.bytesLess a.toList b.toList
theorem toList_inj {a b : ByteArray} (h : a.toList = b.toList) : a = b := ByteArray.ext (Array.toList_inj.mp (by rw [← ByteArray.toList_eq, ← ByteArray.toList_eq, h]))
def cmpT (a b : ByteArray) : Int := if lessT a b then -1 else if lessT a b || a.toList == b.toList then 0 else 1
def cmpQ (x y : QV) : Int := cmpT x.m.topic y.m.topic
theorem ltT (a b : ByteArray) : decide (cmpT a b < 0) = lessT a b := by
  unfold cmpT
  cases lessT a b with
  | true => simp
  | false => cases a.toList == b.toList <;> simp
theorem ltQ (x y : QV) : ltOf cmpQ x y = lessT x.m.topic y.m.topic := by
  unfold ltOf cmpQ
  exact ltT _ _
theorem swoQ : SWO (ltOf cmpQ) where
  irrefl x := by rw [ltQ]; exact less_irr _
  trans x y z h1 h2 := by rw [ltQ] at *; exact less_trans h1 h2
  ntrans x y z h1 h2 := by
    rw [ltQ] at *
    unfold lessT at *
    cases h : Op.bytesLess x.m.topic.toList z.m.topic.toList with
    | false => rfl
    | true =>
      exfalso
      cases hyx : Op.bytesLess y.m.topic.toList x.m.topic.toList with
      | true =>
        have h3 := less_trans hyx h
        rw [h2] at h3
        cases h3
      | false =>
        have e := less_tot h1 hyx
        rw [e] at h
        rw [h2] at h
        cases h
theorem isNaN_any (a : ByteArray) (W : World) : Calls Tryd.prog 53 #[.string a] W fun e w' => e = .returned (.bool false) ∧ W = w' := by
  go_enter Tryd.func53, Tryd.ntmps53
  go_wp2
  go_ret
  exact ⟨rfl, rfl⟩
theorem compareT_any (a b : ByteArray) (W : World) : Calls Tryd.prog 44 #[.string a, .string b] W fun e w' => e = .returned (.int .i64 (cmpT a b)) ∧ w' = W := by
  have HN := Lib.hid (fun s => isNaN_any s W)
  have hc : (if lessT a b then (-1 : Int) else if lessT a b || a.toList == b.toList then 0 else 1) = cmpT a b := rfl
  rw [← hc]
  clear hc
  unfold lessT
  generalize hl : Op.bytesLess a.toList b.toList = l
  generalize he : (a.toList == b.toList) = q
  go_enter Tryd.func44, Tryd.ntmps44
  cases l <;> cases q
  all_goals
    go_wp2_with (go_at_call 53; refine (HN.out _).mono ?_; rintro e w' ⟨rfl, rfl⟩)
    go_ret
    exact ⟨rfl, rfl⟩
end Go.Proofs.YtebaojbagogniaaDoor
namespace Go.Proofs.YtebaojbagogniaaDoor
open Go.RowKit Go.Extern.Stop Go.Stop Go.Extern
set_option maxRecDepth 100000
/-- An entry: whose it is, and its filter. -/
abbrev EV := ByteArray × ByteArray
def lessE (a b : EV) : Bool := lessT a.1 b.1 || (decide (a.1 = b.1) && lessT a.2 b.2)
theorem lessT_irr (a : ByteArray) : lessT a a = false := less_irr _
theorem lessT_trans {a b c : ByteArray} (h1 : lessT a b = true) (h2 : lessT b c = true) : lessT a c = true := less_trans h1 h2
theorem lessE_iff {a b : EV} : lessE a b = true ↔ lessT a.1 b.1 = true ∨ (a.1 = b.1 ∧ lessT a.2 b.2 = true) := by
  unfold lessE
  rw [Bool.or_eq_true, Bool.and_eq_true, decide_eq_true_iff]
theorem lessE_irr (a : EV) : lessE a a = false := by
  unfold lessE
  rw [lessT_irr, lessT_irr]
  simp
theorem lessE_trans {a b c : EV} (h1 : lessE a b = true) (h2 : lessE b c = true) : lessE a c = true := by
  rw [lessE_iff] at h1 h2 ⊢
  rcases h1 with h1 | ⟨e1, h1⟩
  · rcases h2 with h2 | ⟨e2, h2⟩
    · exact .inl (lessT_trans h1 h2)
    · exact .inl (e2 ▸ h1)
  · rcases h2 with h2 | ⟨e2, h2⟩
    · exact .inl (e1 ▸ h2)
    · exact .inr ⟨e1.trans e2, lessT_trans h1 h2⟩
theorem lessE_asym {a b : EV} (h : lessE a b = true) : lessE b a = false := by
  cases hb : lessE b a with
  | false => rfl
  | true =>
    have := lessE_trans h hb
    rw [lessE_irr] at this
    cases this
theorem lessT_tot {a b : ByteArray} (h1 : lessT a b = false) (h2 : lessT b a = false) : a = b := toList_inj (less_tot h1 h2)
theorem lessE_tot {a b : EV} (h1 : lessE a b = false) (h2 : lessE b a = false) : a = b := by
  have n1 : ¬ (lessT a.1 b.1 = true ∨ (a.1 = b.1 ∧ lessT a.2 b.2 = true)) := fun h => by
    rw [lessE_iff.2 h] at h1
    cases h1
  have n2 : ¬ (lessT b.1 a.1 = true ∨ (b.1 = a.1 ∧ lessT b.2 a.2 = true)) := fun h => by
    rw [lessE_iff.2 h] at h2
    cases h2
  have e1 : a.1 = b.1 := lessT_tot (Bool.eq_false_iff.2 fun h => n1 (.inl h)) (Bool.eq_false_iff.2 fun h => n2 (.inl h))
  have e2 : a.2 = b.2 := lessT_tot (Bool.eq_false_iff.2 fun h => n1 (.inr ⟨e1, h⟩)) (Bool.eq_false_iff.2 fun h => n2 (.inr ⟨e1.symm, h⟩))
  exact Prod.ext e1 e2
/-- What is sorted in one way alone. -/
theorem one_srtG {α : Type} {r : α → α → Bool} : ∀ {L M : List α}, L.Pairwise (fun a b => r a b = true) → M.Perm L → M.Pairwise (fun a b => r b a = false) → M = L
  | [], _, _, hp, _ => List.Perm.eq_nil hp
  | a :: L, [], _, hp, _ => by have := hp.length_eq; simp at this
  | a :: L, b :: M, hL, hp, hM => by
    obtain ⟨h1, h2⟩ := List.pairwise_cons.1 hL
    obtain ⟨h3, h4⟩ := List.pairwise_cons.1 hM
    have hab : a = b := by
      have ha : a ∈ b :: M := hp.mem_iff.2 (List.mem_cons_self ..)
      have hb : b ∈ a :: L := hp.mem_iff.1 (List.mem_cons_self ..)
      rcases List.mem_cons.1 hb with e | hb
      · exact e.symm
      · rcases List.mem_cons.1 ha with e | ha
        · exact e
        · have e1 := h1 b hb
          have e2 := h3 a ha
          rw [e1] at e2
          cases e2
    subst hab
    rw [one_srtG h2 (hp.cons_inv) h4]
/-- Where one is put among sorted ones. -/
def aheadE (x : EV) : List EV → Nat
  | [] => 0
  | y :: L => if lessE y x then aheadE x L + 1 else 0
theorem aheadE_le (x : EV) : ∀ L : List EV, aheadE x L ≤ L.length
  | [] => Nat.le_refl _
  | y :: L => by
    unfold aheadE
    split
    · have := aheadE_le x L
      rw [List.length_cons]
      omega
    · exact Nat.zero_le _
def SrtE (L : List EV) : Prop := L.Pairwise (fun a b => lessE a b = true)
theorem aheadE_split {x : EV} : ∀ {L : List EV}, SrtE L → (∀ y ∈ L.take (aheadE x L), lessE y x = true) ∧ ∀ y ∈ L.drop (aheadE x L), lessE y x = false
  | [], _ => ⟨fun y hy => by simp [aheadE] at hy, fun y hy => by simp [aheadE] at hy⟩
  | z :: L, h => by
    obtain ⟨h1, h2⟩ := List.pairwise_cons.1 h
    unfold aheadE
    cases hz : lessE z x with
    | true =>
      rw [if_pos rfl, List.take_succ_cons, List.drop_succ_cons]
      obtain ⟨i1, i2⟩ := aheadE_split (x := x) h2
      refine ⟨fun y hy => ?_, i2⟩
      rcases List.mem_cons.1 hy with rfl | hy
      · exact hz
      · exact i1 y hy
    | false =>
      rw [if_neg Bool.false_ne_true]
      refine ⟨fun y hy => by simp at hy, fun y hy => ?_⟩
      rcases List.mem_cons.1 (show y ∈ z :: L from hy) with rfl | hy
      · exact hz
      · cases hy2 : lessE y x with
        | false => rfl
        | true =>
          have := lessE_trans (h1 y hy) hy2
          rw [hz] at this
          cases this
end Go.Proofs.YtebaojbagogniaaDoor
namespace Go.Proofs.YtebaojbagogniaaDoor
open Go.RowKit Go.Extern.Stop Go.Stop Go.Extern Go.Maps Go.Shelf Go.Lib Go.Sort
set_option maxRecDepth 100000
theorem own_listM {v : Value} {k : Nat} : k ∈ v.ownBlock.toList ↔ v.ownBlock = some k := by simp
section
variable {w w' : World} {B : Nat} {v : Value} {L : QL}
end
instance : Inhabited QV := ⟨q0⟩
theorem qv_one (q : QV) : ∀ u ∈ q.cells, u.oneCell' = true := fun u hu => qcs_ones [q] u (by simpa [qcs] using hu)
end Go.Proofs.YtebaojbagogniaaDoor
namespace Go.Proofs.YtebaojbagogniaaDoor
open Go.RowKit Go.Extern.Stop Go.Stop Go.Extern Go.Maps Go.Shelf Go.Lib Go.Sort
set_option maxRecDepth 100000
def ecell (x : EV) : List Value := [.string x.1, .string x.2]
def ecs (L : List EV) : List Value := L.flatMap ecell
theorem ecs_len (L : List EV) : (ecs L).length = L.length * 2 := by
  induction L with
  | nil => rfl
  | cons x L ih =>
    show (ecell x ++ ecs L).length = _
    rw [List.length_append, ih, List.length_cons]
    show 2 + _ = _
    omega
theorem ecs_app (L M : List EV) : ecs (L ++ M) = ecs L ++ ecs M := by simp [ecs]
theorem ecs_ones (L : List EV) : ∀ u ∈ ecs L, u.oneCell' = true := by
  intro u hu
  obtain ⟨x, _, hx⟩ := List.mem_flatMap.1 hu
  simp [ecell] at hx
  rcases hx with rfl | rfl <;> rfl
theorem Tryd.entInfo18 : (Tryd.prog.info? 46).map (fun i => (i.zero, i.size, i.bytes)) = some (some (.agg #[.string ⟨#[]⟩, .string ⟨#[]⟩]), 2, 32) := by kernel_rfl
theorem own_listE {v : Value} {k : Nat} : k ∈ v.ownBlock.toList ↔ v.ownBlock = some k := by simp
/-- A row of entries from its block's beginning. -/
abbrev ERow18 (w : World) (B : Nat) (v : Value) (L : List EV) : Prop := w.ownsRow B 46 2 v L.length (ecs L)
theorem ERow18.form {w : World} {B : Nat} {v : Value} {L : List EV} (h : ERow18 w B v L) : ∃ a c, v = .slice a L.length c := by
  rcases h.2 with ⟨rfl, h0⟩ | ⟨gr, cap, cur, rfl, _⟩
  · exact ⟨none, 0, by rw [h0]⟩
  · exact ⟨_, _, rfl⟩
theorem ERow18.lt {w : World} {B : Nat} {v : Value} {L : List EV} (h : ERow18 w B v L) : ∀ k, v.ownBlock = some k → B ≤ k ∧ k < w.heap.size ∧ ∃ cs, w.heap[k]? = some (.cells cs 46 (0, 0)) := by
  intro k hk
  rcases h.2 with ⟨rfl, h0⟩ | ⟨gr, cap, cur, rfl, hB, hh, _⟩
  · cases hk
  · injection hk with hk
    subst hk
    exact ⟨hB, lt_of_block hh, _, hh⟩
section
variable {w w' : World} {B : Nat} {v : Value} {L : List EV}
theorem ERow18.fr {X : List Nat} (h : ERow18 w B v L) (hf : Fr X w w') (hX : ∀ k, v.ownBlock = some k → k ∉ X) : ERow18 w' B v L := by
  obtain ⟨h1, h2⟩ := h
  refine ⟨h1, ?_⟩
  rcases h2 with h2 | ⟨gr, cap, cur, rfl, hB, hh, h3⟩
  · exact .inl h2
  · exact .inr ⟨gr, cap, cur, rfl, hB, (hf.block gr (lt_of_block hh) (hX gr rfl)).trans hh, h3⟩
theorem ERow18.below (h : ERow18 w B v L) (hb : Below w.heap.size w w') : ERow18 w' B v L := own_below h hb
theorem ERow18.push {t ty : TypeId} (ht : Tryd.prog.underlying t = some (.slice 46)) (h : ERow18 w B v L) (hB : B ≤ w.heap.size) (hl : L.length ≤ 1000) (x : EV) {ad : Addr} (hq : ∀ i, i < 2 → w.cell? (ad.add i) = (ecell x)[i]?) (c : Nat) :
    ∃ v' w', (Builtin.append_ #[t, t] ty #[v, .slice (some ad) 1 c]).run Tryd.prog w = .ok v' w' ∧ ERow18 w' B v' (L ++ [x]) ∧ w.grownBy w' v.ownBlock := by
  obtain ⟨i0, hi0, hz0, hz1, hz2⟩ := info_parts Tryd.entInfo18
  have hlen : (L ++ [x]).length = L.length + 1 := by simp
  have hn : ∀ j u, ((ecell x))[j]? = some u → w.cell? (ad.add j) = some u := fun j u hj => by
    rw [hq j (by have := (List.getElem?_eq_some_iff.1 hj).1; exact this)]; exact hj
  have h1 : ∀ u ∈ (ecell x), u.oneCell' = true := fun u hu => ecs_ones [x] u (by simpa [ecs] using hu)
  have hL9 : (L.length + 1) * 32 ≤ 140737488355328 := by omega
  obtain ⟨v', w', hr, ho, hg, _, _⟩ := run_append_own_at (P := Tryd.prog) w B t ty _ i0 _ 2 32 ht hi0 hz0 hz1 hz2 rfl (by decide) v L.length (ecs L) h ad 1 c (ecell x) rfl hn h1 (Nat.le_trans (show L.length + 1 ≤ 1001 by omega) (by unfold maxLen; decide)) (by omega) hB
  refine ⟨v', w', hr, ?_, hg⟩
  show World.ownsRow w' B 46 2 v' (L ++ [x]).length (ecs (L ++ [x]))
  rw [ecs_app, show ecs [x] = (ecell x) by simp [ecs], hlen]
  exact ho
theorem append_e18 {ops : Array Oper} {rest : List Oper} {o : Oper} {a : Act} {Q : Exit → Act → World → Prop} {w0 w : World} (hgd : o.guard = none) (s y : Operand) (ho : o.op = .call { callee := .builtin .append, args := #[s, y], argTypes := #[28, 28] })
    {v : Value} {L : List EV} (x : EV) (hb : Below w0.heap.size w0 w) (h : ERow18 w w0.heap.size v L) (hs : a.eval s = v) (hl : L.length ≤ 1000) (ad : Addr) (c : Nat) (hx : a.eval y = .slice (some ad) 1 c) (hq : ∀ i, i < 2 → w.cell? (ad.add i) = (ecell x)[i]?)
    (hk : ∀ a' c' w', ERow18 w' w0.heap.size (.slice a' (L.length + 1) c') (L ++ [x]) → Below w0.heap.size w0 w' → Fr v.ownBlock.toList w w' → wpList Tryd.prog ops Q rest (a.put o.dst (.slice a' (L.length + 1) c')) w') : wpList Tryd.prog ops Q (o :: rest) a w := by
  obtain ⟨v', w', hr, hrow, hg⟩ := h.push (ty := o.type) Tryd.underlying28 hb.size hl x hq c
  obtain ⟨a', c', rfl⟩ := hrow.form
  have hlen : (L ++ [x]).length = L.length + 1 := by simp
  rw [hlen] at hr hrow
  have hf : Fr v.ownBlock.toList w w' := (Fr.refl _ w).grown hg (fun k hk => .inl (own_listE.2 hk))
  refine Lib.wpList_append_run w hgd s y 28 28 ho v _ hs hx _ w' hr (hk a' c' w' ?_ (hf.later hb (fun k hm => (h.lt k (own_listE.1 hm)).1) hb.size) hf)
  exact hrow
theorem wpe_slice18 {ops : Array Oper} {rest : List Oper} {o : Oper} {a : Act} {Q : Exit → Act → World → Prop} {pc : Array Value} (hs : pc.size = 2) (hgd : o.guard = none) (x : Operand) (ho : o.op = .buildSlice 28 1 #[(0, x)]) (hx : a.eval x = .agg pc)
    (h : wpList Tryd.prog ops Q rest (a.put o.dst (.slice (some ⟨w.heap.size, 0, none⟩) 1 1)) (w.alloc (.cells pc 46))) : wpList Tryd.prog ops Q (o :: rest) a w := by
  obtain ⟨i0, hi0, hz0, hz1, hz2⟩ := info_parts Tryd.entInfo18
  refine wpList_buildSlice hgd _ _ 1 _ ho pc i0 _ Tryd.underlying28 hi0 hz0 (by rw [hz1]; decide) (by rw [hz1]; decide) ?_ h
  have e : ((#[(0, x)] : Array (Nat × Operand)).map fun (i, x) => (i, a.eval x)).toList = (([Value.agg pc] : List Value).zipIdx 0).map fun x => (x.2, x.1) := by
    simp [hx]
  rw [e, hz1, Great.fill_whole (s := 2) (by decide) [.agg pc] _ (fun v hv => by rw [List.mem_singleton] at hv; subst hv; exact hs) (by simp)]
  simp [Value.cells]
theorem news_e18 (W : World) (pc : Array Value) : ∀ i, i < 2 → (W.alloc (.cells pc 46)).cell? ((⟨W.heap.size, 0, none⟩ : Addr).add i) = pc[i]? := by
  intro i hi
  rw [Addr.add_lit, Nat.zero_add, (Blk.made W 46 pc).cell i]
end
end Go.Proofs.YtebaojbagogniaaDoor

/- What is proved here: how a topic is told by the aliases that were given; nobody's aliases. Conditions: the aliases stand there; few of them, of short topics. -/
import Derived.Test.YtldpdhliigkboaaDoorTexts
import Derived.Test.YtldpdhliigkboaaDoorSMapN
import Derived.WalkArith
namespace Go.Proofs.YtldpdhliigkboaaDoor
open Go.RowKit Go.Extern.Stop Go.Stop Go.Extern Go.Maps
def limI (most : Int) : Int := min (max most 0) 65535
theorem limI_bd (n : Int) : 0 ≤ limI n ∧ limI n ≤ 65535 := by unfold limI; omega
/-- The alias of each topic: its place among them, from 1 on. -/
def outM (L : List ByteArray) (t : ByteArray) : Option Int := if idxI L t = -1 then none else some (idxI L t + 1)
theorem idx_app (L : List ByteArray) (t y : ByteArray) (hno : idxI L t = -1) : outM (L ++ [t]) = fun y => if y = t then some ((L.length : Int) + 1) else outM L y := by
  funext y
  have hn : ∀ x, idxI L x = -1 ↔ x ∉ L := fun x => by
    have h := idx_bd L x
    constructor
    · intro e hm
      have := h.2.2.2 hm
      omega
    · intro hx
      by_cases h0 : 0 ≤ idxI L x
      · exact absurd (h.2.2.1 h0) hx
      · omega
  unfold outM
  by_cases hy : y = t
  · subst hy
    have e : idxI (L ++ [y]) y = (L.length : Int) := by
      refine idx_at (e := e0) (k := L.length) (by simp) (by simp) fun j hj e => ?_
      rw [List.getD_eq_getElem?_getD, List.getElem?_append_left hj, List.getElem?_eq_getElem hj] at e
      exact (hn y).1 hno (e ▸ List.getElem_mem hj)
    rw [e, if_neg (by omega), if_pos rfl]
  · rw [if_neg hy]
    have e : idxI (L ++ [t]) y = idxI L y := by
      unfold idxI
      rw [List.findIdx?_append]
      cases hf : L.findIdx? (fun x => decide (x = y)) with
      | some i => rfl
      | none =>
        have : List.findIdx? (fun x => decide (x = y)) [t] = none := by
          rw [List.findIdx?_eq_none_iff]
          intro x hx
          rw [List.mem_singleton] at hx
          subst hx
          exact decide_eq_false fun e => hy e.symm
        rw [this]
        rfl
    rw [e]
/-- Aliases that are given: a block with the greatest one and the map, and the map. -/
structure OutObj (w : World) (B g b : Nat) (most : Int) (L : List ByteArray) : Prop where
  low : B ≤ g
  lowb : B ≤ b
  blk : Blk w g 54 #[.int .i64 most, .map (some b)]
  mp : StrMapN Tryd.prog 9 3 w b (outM L) L.length
def nameO (most : Int) (L : List ByteArray) (t : ByteArray) : ByteArray × Int × List ByteArray :=
  if t = e0 then (t, 0, L) else if idxI L t = -1 then (if most < (L.length : Int) + 1 then (t, 0, L) else (t, (L.length : Int) + 1, L ++ [t])) else (e0, idxI L t + 1, L)
def NameSays (w : World) (B g b : Nat) (most : Int) (r : ByteArray × Int × List ByteArray) (x : Ending) (w' : World) : Prop := x = .returned (.tuple #[.string r.1, .int .i64 r.2.1]) ∧ OutObj w' B g b most r.2.2 ∧ Fr [b] w w'
theorem z3o (w : World) : (zeroValue 3).run Tryd.prog w = .ok (.int .i64 0) w := by kernel_rfl
theorem empty_iff (t : ByteArray) : t.toList.isEmpty = decide (t = e0) := by
  rw [ByteArray.toList_eq]
  cases h : t.data.toList with
  | nil =>
    have : t = e0 := ByteArray.ext (Array.toList_inj.mp (by rw [h]; rfl))
    rw [decide_eq_true this]; rfl
  | cons x l =>
    have : t ≠ e0 := fun e => by rw [e] at h; cases h
    rw [decide_eq_false this]; rfl
section
variable {w w' : World} {B g b : Nat} {most : Int} {L : List ByteArray}
theorem limit_any (n : Int) (w : World) : Calls Tryd.prog 17 #[.int .i64 n] w fun x w' => x = .returned (.int .i64 (limI n)) ∧ w = w' := by
  go_enter Tryd.func17, Tryd.ntmps17
  go_wp2_with fail
  all_goals
    go_ret
    exact ⟨congrArg (fun z => Ending.returned (.int .i64 z)) (by unfold limI; omega), rfl⟩
theorem name_any (h : OutObj w B g b most L) (hm : L.length ≤ 1000) (t : ByteArray) (ht : t.size ≤ 1000) : Calls Tryd.prog 15 #[.pointer (some ⟨g, 0, none⟩), .string t] w (NameSays w B g b most (nameO most L t)) := by
  have he := empty_iff t
  have hb0 := h.blk.cell 0
  have hb1 := h.blk.cell 1
  have hl := (h.mp.plain.look Tryd.underlying9 Tryd.underlying52 Tryd.underlying3 z3o (by unfold maxLen; omega : t.size ≤ maxLen)).1
  have hlen := h.mp.len Tryd.underlying52 3
  have HO := Lib.hid h
  unfold nameO
  by_cases h0 : t = e0
  · rw [decide_eq_true h0] at he
    rw [if_pos h0]
    clear h h0 hl hlen
    go_enter Tryd.func15, Tryd.ntmps15
    go_wp2_with fail
    go_ret2
    exact ⟨rfl, HO.out, Fr.refl _ _⟩
  · rw [decide_eq_false h0] at he
    rw [if_neg h0]
    by_cases h1 : idxI L t = -1
    · have hn : outM L t = none := by unfold outM; rw [if_pos h1]
      rw [if_pos h1]
      rw [hn] at hl
      simp only [Option.isSome_none, Option.getD_none] at hl
      by_cases h2 : most < (L.length : Int) + 1
      · rw [if_pos h2]
        have h2b : decide (most < (L.length : Int) + 1) = true := decide_eq_true h2
        clear h h0 h1 hn h2
        go_enter Tryd.func15, Tryd.ntmps15
        go_wp2_with fail
        go_ret2
        exact ⟨rfl, HO.out, Fr.refl _ _⟩
      · rw [if_neg h2]
        have h2b : decide (most < (L.length : Int) + 1) = false := decide_eq_false h2
        obtain ⟨w1, hrun, hm1, hg1⟩ := h.mp.put Tryd.underlying9 Tryd.underlying52 Tryd.underlying3 (by unfold maxLen; omega) (by unfold maxLen; omega : t.size ≤ maxLen) (v := (L.length : Int) + 1) (WalkArith.wf_i64 (by omega)) hn
        rw [← idx_app L t t h1] at hm1
        have HE := Lib.hid (show NameSays w B g b most (t, (L.length : Int) + 1, L ++ [t]) (.returned (.tuple #[.string t, .int .i64 ((L.length : Int) + 1)])) w1 from ⟨rfl, ⟨h.low, h.lowb, h.blk.grown hg1 (fun e => h.mp.ne h.blk (Option.some.inj e)), by rw [List.length_append]; exact hm1⟩, (Fr.refl _ w).grown hg1 (fun k hk => .inl (by rw [← Option.some.inj hk]; exact List.mem_singleton_self _))⟩)
        clear h h0 h1 hn h2 hm1 hg1
        go_enter Tryd.func15, Tryd.ntmps15
        go_wp2_with fail
        go_ret2
        exact HE.out
    · have hn : outM L t = some (idxI L t + 1) := by unfold outM; rw [if_neg h1]
      rw [if_neg h1]
      rw [hn] at hl
      simp only [Option.isSome_some, Option.getD_some] at hl
      generalize idxI L t + 1 = q at *
      clear h h0 h1 hn hlen
      go_enter Tryd.func15, Tryd.ntmps15
      go_wp2_with fail
      go_ret2
      exact ⟨rfl, HO.out, Fr.refl _ _⟩
/-- A pointer to aliases that nobody made. -/
def NoOut (w : World) (pv : Value) : Prop := pv = .pointer none ∨ ∃ g, pv = .pointer (some ⟨g, 0, none⟩) ∧ Blk w g 54 #[.int .i64 0, .map none]
theorem no_name {pv : Value} (h : NoOut w pv) (t : ByteArray) (ht : t.size ≤ 1000) : Calls Tryd.prog 15 #[pv, .string t] w fun x w' => x = .returned (.tuple #[.string t, .int .i64 0]) ∧ w = w' := by
  rcases h with rfl | ⟨g, rfl, hb⟩
  · go_enter Tryd.func15, Tryd.ntmps15
    go_wp2_with fail
    go_ret2
    exact ⟨rfl, rfl⟩
  · have he := empty_iff t
    have hb0 := hb.cell 0
    have hb1 := hb.cell 1
    have hl := look_nil (w := w) true (string_keyed (P := Tryd.prog) Tryd.underlying9) Tryd.underlying52 (z3o w) (Go.WideMaps.keyOf_string_mk Tryd.underlying9 (by unfold maxLen; omega : t.size ≤ maxLen))
    have hlen := len_nil (w := w) (P := Tryd.prog) Tryd.underlying52 3
    by_cases h0 : t = e0
    · rw [decide_eq_true h0] at he
      clear h0 hl hlen
      go_enter Tryd.func15, Tryd.ntmps15
      go_wp2_with fail
      go_ret2
      exact ⟨rfl, rfl⟩
    · rw [decide_eq_false h0] at he
      clear h0
      go_enter Tryd.func15, Tryd.ntmps15
      go_wp2_with fail
      go_ret2
      exact ⟨rfl, rfl⟩
end
end Go.Proofs.YtldpdhliigkboaaDoor

/- What is proved here: members as a list, the cells of their rows, and where one stands. No conditions. -/
import Derived.Test.YtkjghlmlfanafaaOwn32
import Derived.Deep.Cut
import Derived.Deep.CutRange
import Derived.Deep.CutBlock
import Derived.Deep.DeepMust
namespace Go.Proofs.Ytkjghlmlfanafaa
open Go.RowKit Go.Extern.Stop Go.Stop Go.Extern
/-- A member. -/
structure MV where
  client : ByteArray
  since : Int
  qos : Int
  on : Bool
def m0 : MV := ⟨e0, 0, 0, false⟩
def MV.cells (m : MV) : List Value := [.string m.client, .int .i64 m.since, .int .i64 m.qos, .bool m.on]
def MV.agg (m : MV) : Value := .agg #[.string m.client, .int .i64 m.since, .int .i64 m.qos, .bool m.on]
abbrev ML := List MV
def mcs (L : ML) : List Value := L.flatMap MV.cells
theorem mcs_cons (m : MV) (L : ML) : mcs (m :: L) = .string m.client :: .int .i64 m.since :: .int .i64 m.qos :: .bool m.on :: mcs L := rfl
theorem mcs_len (L : ML) : (mcs L).length = L.length * 4 := by
  induction L with
  | nil => rfl
  | cons p L ih =>
    rw [mcs_cons]
    simp only [List.length_cons]
    omega
theorem mcs_app (L M : ML) : mcs (L ++ M) = mcs L ++ mcs M := by simp [mcs]
theorem mcs_get (L : ML) : ∀ k, k < L.length → (mcs L)[k * 4]? = some (.string (L.getD k m0).client) ∧ (mcs L)[k * 4 + 1]? = some (.int .i64 (L.getD k m0).since) ∧ (mcs L)[k * 4 + 2]? = some (.int .i64 (L.getD k m0).qos) ∧ (mcs L)[k * 4 + 3]? = some (.bool (L.getD k m0).on) := by
  induction L with
  | nil => intro k hk; cases hk
  | cons p L ih =>
    intro k hk
    rw [mcs_cons]
    rcases k with _ | k
    · exact ⟨rfl, rfl, rfl, rfl⟩
    · rw [show (k + 1) * 4 = k * 4 + 1 + 1 + 1 + 1 by omega]
      simpa using ih k (by simpa using hk)
theorem mcs_ones (L : ML) : ∀ u ∈ mcs L, u.oneCell' = true := by
  intro u hu
  obtain ⟨p, _, hp⟩ := List.mem_flatMap.1 hu
  unfold MV.cells at hp
  simp only [List.mem_cons, List.not_mem_nil, or_false] at hp
  rcases hp with rfl | rfl | rfl | rfl <;> rfl
/-- These members stand at an address, if there are any. -/
def MRd (w : World) (A : Option Addr) (L : ML) : Prop := 0 < L.length → ∃ g off, A = some ⟨g, off, none⟩ ∧ ∀ k, k < L.length →
  w.cell? ⟨g, off + k * 4, none⟩ = some (.string (L.getD k m0).client) ∧ w.cell? ⟨g, off + k * 4 + 1, none⟩ = some (.int .i64 (L.getD k m0).since) ∧
  w.cell? ⟨g, off + k * 4 + 2, none⟩ = some (.int .i64 (L.getD k m0).qos) ∧ w.cell? ⟨g, off + k * 4 + 3, none⟩ = some (.bool (L.getD k m0).on)
section
variable {w w' : World} {A : Option Addr} {L : ML}
theorem MRd.below (h : MRd w A L) (hb : Below w.heap.size w w') : MRd w' A L := by
  intro hp
  obtain ⟨g, off, e, hc⟩ := h hp
  refine ⟨g, off, e, fun k hk => ?_⟩
  obtain ⟨h1, h2, h3, h4⟩ := hc k hk
  have hg := hb.block g (lt_of_cell h1)
  exact ⟨(World.cell?_of_block (w := w) hg).trans h1, (World.cell?_of_block (w := w) hg).trans h2, (World.cell?_of_block (w := w) hg).trans h3, (World.cell?_of_block (w := w) hg).trans h4⟩
theorem MRd.alloc (h : MRd w A L) (o : Obj) : MRd (w.alloc o) A L := h.below ((Below.refl _ w).alloc (Nat.le_refl _) o)
def clientsOf (L : ML) : List ByteArray := L.map MV.client
theorem clients_get (L : ML) (k : Nat) (h : k < L.length) : (clientsOf L).getD k e0 = (L.getD k m0).client := by
  unfold clientsOf
  rw [List.getD_eq_getElem?_getD, List.getD_eq_getElem?_getD, List.getElem?_map, List.getElem?_eq_getElem h]
  rfl
/-- Where a client's member stands; -1: nowhere. -/
def idxM (L : ML) (c : ByteArray) : Int := idxI (clientsOf L) c
theorem idxM_at {c : ByteArray} {k : Nat} (hk : k < L.length) (hx : (L.getD k m0).client = c) (hno : ∀ j, j < k → (L.getD j m0).client ≠ c) : idxM L c = k :=
  idx_at (e := e0) (by unfold clientsOf; rw [List.length_map]; exact hk) (by rw [clients_get L k hk]; exact hx) fun j hj => by rw [clients_get L j (by omega)]; exact hno j hj
theorem idxM_no {c : ByteArray} (hno : ∀ j, j < L.length → (L.getD j m0).client ≠ c) : idxM L c = -1 :=
  idx_no (e := e0) fun j hj => by
    have hj' : j < L.length := by unfold clientsOf at hj; rwa [List.length_map] at hj
    rw [clients_get L j hj']; exact hno j hj'
theorem f67_any (m : MV) (c : ByteArray) (g : Nat) (w : World) (hc : w.cell? ⟨g, 0, none⟩ = some (.string c)) :
    Calls Try.prog 67 #[m.agg, .pointer (some ⟨g, 0, none⟩)] w fun x w' => x = .returned (.bool (decide (m.client = c))) ∧ Below w.heap.size w w' := by
  have he := eq_text m.client c
  have HE := Lib.hid he
  clear he
  have hc2 : (w.alloc (.cells #[.string m.client, .int .i64 m.since, .int .i64 m.qos, .bool m.on] 37)).cell? ⟨g, 0, none⟩ = some (.string c) :=
    (World.cell?_of_block (w := w) (Below.heap_alloc w _ g (lt_of_cell hc))).trans hc
  have HB := Lib.hid ((Below.refl w.heap.size w).alloc (Nat.le_refl _) (.cells #[.string m.client, .int .i64 m.since, .int .i64 m.qos, .bool m.on] 37))
  clear hc
  unfold MV.agg
  go_enter Try.func67, Try.ntmps67
  go_wp2_with fail
  go_ret
  exact ⟨ret_bool HE.out, HB.out⟩
theorem idxf_any (h : MRd w A L) (n cp : Nat) (hn : n = L.length) (hm : n ≤ 1000) (c : ByteArray) (g : Nat) (hc : w.cell? ⟨g, 0, none⟩ = some (.string c)) :
    Calls Try.prog 66 #[.slice A n cp, .func (.func 67) #[] #[.pointer (some ⟨g, 0, none⟩)]] w fun x w' => x = .returned (.int .i64 (idxM L c)) ∧ Below w.heap.size w w' := by
  by_cases hp : 0 < n
  · obtain ⟨g1, off, rfl, hcc⟩ := h (by omega)
    have HC := Lib.hid hcc
    have HCC := Lib.hid hc
    clear h hcc hc
    have HL := Lib.hid hn
    clear hn
    go_enter Try.func66, Try.ntmps66
    go_wp2_with fail
    go_loopw [8] (fun i wr => ∃ k : Nat, k ≤ n ∧ i = .int .i64 k ∧ Below w.heap.size w wr ∧ Hid (∀ j, j < k → (L.getD j m0).client ≠ c)) (fun i _ => n - (intOf i).toNat)
    case atStart => exact ⟨0, by omega, rfl, Below.refl _ _, Lib.hid fun j hj => absurd hj (by omega)⟩
    case round =>
      obtain ⟨k, hk, rfl, hb, HP⟩ := hrel
      have HB := Lib.hid hb
      by_cases hlt : k < n
      · obtain ⟨c1, c2, c3, c4⟩ := HC.out k (by rw [← HL.out]; exact hlt)
        have hgb := hb.block g1 (lt_of_cell c1)
        have c1' := (World.cell?_of_block (w := w) (w' := wr) hgb).trans c1
        have c2' := (World.cell?_of_block (w := w) (w' := wr) hgb).trans c2
        have c3' := (World.cell?_of_block (w := w) (w' := wr) hgb).trans c3
        have c4' := (World.cell?_of_block (w := w) (w' := wr) hgb).trans c4
        have HF := Lib.hid (f67_any (L.getD k m0) c g wr ((World.cell?_of_block (w := w) (w' := wr) (hb.block g (lt_of_cell HCC.out))).trans HCC.out))
        clear c1 c2 c3 c4 hgb hb
        by_cases hv : (L.getD k m0).client = c
        · rw [decide_eq_true hv] at HF
          have HE := Lib.hid (idxM_at (by rw [← HL.out]; exact hlt) hv HP.out)
          clear hv
          generalize L.getD k m0 = m at *
          go_wp2_with fail
          refine HF.out.mono ?_
          rintro x w1 ⟨rfl, hb1⟩
          have HB1 := Lib.hid (HB.out.trans (hb1.mono HB.out.size))
          clear hb1
          go_wp2_with fail
          go_ret
          exact ⟨by rw [HE.out]; rfl, HB1.out⟩
        · rw [decide_eq_false hv] at HF
          have HE := Lib.hid (show ∀ j, j < k + 1 → (L.getD j m0).client ≠ c from fun j hj => by
            by_cases hjk : j = k
            · subst hjk; exact hv
            · exact HP.out j (by omega))
          clear hv
          generalize L.getD k m0 = m at *
          go_wp2_with fail
          refine HF.out.mono ?_
          rintro x w1 ⟨rfl, hb1⟩
          have HB1 := Lib.hid (HB.out.trans (hb1.mono HB.out.size))
          clear hb1
          go_wp2_with fail
          go_roundw
          case rel => exact ⟨k + 1, by omega, by go_num, HB1.out, HE⟩
          case measure => simp [intOf]; omega
      · clear hb
        have HE := Lib.hid (idxM_no (L := L) (c := c) fun j hj => HP.out j (by have := HL.out; omega))
        go_wp2_with fail
        go_ret
        exact ⟨by rw [HE.out]; rfl, HB.out⟩
  · have hl0 : L = [] := List.eq_nil_of_length_eq_zero (by omega)
    obtain rfl : n = 0 := by omega
    subst hl0
    clear h hn hm hp hc
    go_enter Try.func66, Try.ntmps66
    go_wp2_with fail
    go_loop [8] (fun i => i = .int .i64 0) (fun _ => 0)
    case atStart => rfl
    case round =>
      subst hrel
      go_wp2_with fail
      go_ret
      exact ⟨rfl, Below.refl _ _⟩
end
/-- The members' own: a block with the row and the generation, and the row. -/
structure MObj (w : World) (B g : Nat) (v : Value) (L : ML) (gen : Nat) : Prop where
  low : B ≤ g
  blk : Blk w g 28 #[v, .int .i64 gen]
  row : w.ownsRow B 37 4 v L.length (mcs L)
section
variable {w w' : World} {B g : Nat} {v : Value} {L : ML} {gen : Nat}
theorem MObj.form (h : MObj w B g v L gen) : ∃ a c, v = .slice a L.length c := by
  rcases h.row.2 with ⟨rfl, h0⟩ | ⟨gr, cap, cur, rfl, _⟩
  · exact ⟨none, 0, by rw [h0]⟩
  · exact ⟨_, _, rfl⟩
theorem row_mrd {a : Option Addr} {n c : Nat} (h : w.ownsRow B 37 4 (.slice a n c) L.length (mcs L)) : MRd w a L := by
  intro hl
  rcases h.2 with ⟨_, h0⟩ | ⟨gr, cap, cur, e, hB, hh, h3⟩
  · omega
  · have e' := e
    injection e' with ha hn hc
    subst ha hn hc
    refine ⟨gr, 0, rfl, fun k hk => ?_⟩
    obtain ⟨q1, q2, q3, q4⟩ := mcs_get L k hk
    simp only [Nat.zero_add]
    exact ⟨(World.ownsRow.cellAt h (k * 4) (by omega)).trans q1, (World.ownsRow.cellAt h (k * 4 + 1) (by omega)).trans q2, (World.ownsRow.cellAt h (k * 4 + 2) (by omega)).trans q3, (World.ownsRow.cellAt h (k * 4 + 3) (by omega)).trans q4⟩
theorem MObj.below (h : MObj w B g v L gen) (hb : Below w.heap.size w w') : MObj w' B g v L gen :=
  ⟨h.low, h.blk.below hb h.blk.lt, own_below h.row hb⟩
theorem find_any (h : MObj w B g v L gen) (hl : L.length ≤ 1000) (c : ByteArray) : Calls Try.prog 57 #[.pointer (some ⟨g, 0, none⟩), .string c] w fun x w' => x = .returned (.int .i64 (idxM L c)) ∧ Below w.heap.size w w' := by
  obtain ⟨a, cp, rfl⟩ := h.form
  have hb0 : Below w.heap.size w (w.alloc (.cells #[.string c] 9)) := (Below.refl _ _).alloc (Nat.le_refl _) _
  have h2 := h.below hb0
  have HI := Lib.hid (idxf_any (row_mrd h2.row) L.length cp rfl hl c w.heap.size ((Blk.made w 9 #[.string c]).cell 0))
  have c0 : (w.alloc (.cells #[.string c] 9)).cell? ⟨g, 0, none⟩ = some (.slice a L.length cp) := h2.blk.cell 0
  have HB := Lib.hid hb0
  clear h h2 hb0
  go_enter Try.func57, Try.ntmps57
  go_wp2_with fail
  refine HI.out.mono ?_
  rintro x w1 ⟨rfl, hb1⟩
  have HB1 := Lib.hid (HB.out.trans (hb1.mono HB.out.size))
  clear hb1
  go_wp2_with fail
  go_ret
  exact ⟨rfl, HB1.out⟩
end
end Go.Proofs.Ytkjghlmlfanafaa

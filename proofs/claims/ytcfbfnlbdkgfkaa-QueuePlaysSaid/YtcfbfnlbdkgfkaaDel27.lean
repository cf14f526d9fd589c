/- What is proved here: messages whose time has come are deleted from a row of one's own. Conditions: the row is there; few messages. -/
import Derived.Test.YtcfbfnlbdkgfkaaLawA27
namespace Go.Proofs.Ytcfbfnlbdkgfkaa
open Go.RowKit Go.Extern.Stop Go.Stop Go.Extern
set_option maxRecDepth 100000
/-- Where the first one stands whose time has come; -1: nowhere. -/
def ixQ (now : Int) (L : QL) : Int := idxI (L.map (exQ now)) true
theorem exs_get (now : Int) (L : QL) (k : Nat) (h : k < L.length) : (L.map (exQ now)).getD k false = exQ now (L.getD k q0) := by
  rw [List.getD_eq_getElem?_getD, List.getD_eq_getElem?_getD, List.getElem?_map, List.getElem?_eq_getElem h]
  rfl
theorem ixQ_at {now : Int} {L : QL} {k : Nat} (hk : k < L.length) (hx : exQ now (L.getD k q0) = true) (hno : ∀ j, j < k → exQ now (L.getD j q0) = false) : ixQ now L = k :=
  idx_at (e := false) (by rw [List.length_map]; exact hk) (by rw [exs_get now L k hk]; exact hx) fun j hj => by rw [exs_get now L j (by omega), hno j hj]; decide
theorem ixQ_no {now : Int} {L : QL} (hno : ∀ j, j < L.length → exQ now (L.getD j q0) = false) : ixQ now L = -1 :=
  idx_no (e := false) fun j hj => by
    rw [List.length_map] at hj
    rw [exs_get now L j hj, hno j hj]; decide
/-- Those whose time has not come. -/
def keepQ (now : Int) (L : QL) : QL := L.filter fun q => !exQ now q
theorem keep_take {now : Int} {L : QL} {k : Nat} (h : k < L.length) : keepQ now (L.take (k + 1)) = keepQ now (L.take k) ++ (if exQ now (L.getD k q0) = true then [] else [L.getD k q0]) := by
  unfold keepQ
  rw [List.take_succ_eq_append_getElem h, List.filter_append, List.getD_eq_getElem?_getD, List.getElem?_eq_getElem h]
  congr 1
  show List.filter _ [L[k]] = if exQ now L[k] = true then [] else [L[k]]
  cases he : exQ now L[k] <;> simp [he]
section
variable {X : List Nat} {w w' : World} {B : Nat} {v : Value} {L R : QL} {q : QV}
theorem f72_any (q : QV) (now : Int) (g : Nat) (w : World) (hc : w.cell? ⟨g, 0, none⟩ = some (.int .i64 now)) :
    Calls Try.prog 72 #[q.agg, .pointer (some ⟨g, 0, none⟩)] w fun x w' => x = .returned (.bool (exQ now q)) ∧ Below w.heap.size w w' := by
  have hb0 : Below w.heap.size w (w.alloc (.cells q.cells.toArray 36)) := (Below.refl _ _).alloc (Nat.le_refl _) _
  have hc2 : (w.alloc (.cells q.cells.toArray 36)).cell? ⟨g, 0, none⟩ = some (.int .i64 now) :=
    (World.cell?_of_block (w := w) (Below.heap_alloc w _ g (lt_of_cell' hc))).trans hc
  have HE := Lib.hid (fun W => expired_any q now W)
  have HB := Lib.hid hb0
  clear hc hb0
  unfold exQ
  unfold QV.cells at hc2 HB
  unfold QV.agg at *
  go_enter Try.func72, Try.ntmps72
  go_wp2_with fail
  refine (HE.out _).mono ?_
  rintro x w1 ⟨rfl, hb⟩
  have HB1 := Lib.hid (HB.out.trans (hb.mono HB.out.size))
  clear hb
  go_wp2_with fail
  go_ret
  exact ⟨rfl, HB1.out⟩
set_option maxHeartbeats 1000000 in
theorem idxf_any {A : Option Addr} (h : MRd w A L) (n cp : Nat) (hn : n = L.length) (hm : n ≤ 1000) (now : Int) (g : Nat) (hc : w.cell? ⟨g, 0, none⟩ = some (.int .i64 now)) :
    Calls Try.prog 86 #[.slice A n cp, .func (.func 72) #[] #[.pointer (some ⟨g, 0, none⟩)]] w fun x w' => x = .returned (.int .i64 (ixQ now L)) ∧ Below w.heap.size w w' := by
  by_cases hp : 0 < n
  · obtain ⟨g1, off, rfl, hcc⟩ := h (by omega)
    have HC := Lib.hid hcc
    have HCC := Lib.hid hc
    clear h hcc hc
    have HL := Lib.hid hn
    clear hn
    go_enter Try.func86, Try.ntmps86
    go_wp2_with fail
    go_loopw [8] (fun i wr => ∃ k : Nat, k ≤ n ∧ i = .int .i64 k ∧ Below w.heap.size w wr ∧ Hid (∀ j, j < k → exQ now (L.getD j q0) = false)) (fun i _ => n - (intOf i).toNat)
    case atStart => exact ⟨0, by omega, rfl, Below.refl _ _, Lib.hid fun j hj => absurd hj (by omega)⟩
    case round =>
      obtain ⟨k, hk, rfl, hb, HP⟩ := hrel
      have HB := Lib.hid hb
      by_cases hlt : k < n
      · have hkL : k < L.length := by have := HL.out; omega
        obtain ⟨d0, d1, d2, d3, d4, d5, d6, d7, d8⟩ := (HC.out k hkL).at (w' := wr) (hb.block g1 (lt_of_cell' (HC.out k hkL).c0))
        have HF := Lib.hid (f72_any (L.getD k q0) now g wr ((World.cell?_of_block (w := w) (w' := wr) (hb.block g (lt_of_cell' HCC.out))).trans HCC.out))
        have HAT := Lib.hid (fun hx => ixQ_at (now := now) hkL hx HP.out)
        have HNX := Lib.hid (fun (hx : exQ now (L.getD k q0) = false) => show ∀ j, j < k + 1 → exQ now (L.getD j q0) = false from fun j hj => by
          by_cases hjk : j = k
          · subst hjk; exact hx
          · exact HP.out j (by omega))
        obtain ⟨q, hq⟩ : ∃ q, q = L.getD k q0 := ⟨_, rfl⟩
        rw [← hq] at d0 d1 d2 d3 d4 d5 d6 d7 d8 HF HAT HNX
        clear hb hkL hq
        unfold QV.agg at HF
        cases hv : exQ now q with
        | true =>
          rw [hv] at HF
          have HE := Lib.hid (HAT.out hv)
          clear hv HNX
          go_wp2_with fail
          refine HF.out.mono ?_
          rintro x w1 ⟨rfl, hb1⟩
          have HB1 := Lib.hid (HB.out.trans (hb1.mono HB.out.size))
          clear hb1
          go_wp2_with fail
          go_ret
          exact ⟨by rw [HE.out]; rfl, HB1.out⟩
        | false =>
          rw [hv] at HF
          have HE := Lib.hid (HNX.out hv)
          clear hv HAT
          go_wp2_with fail
          refine HF.out.mono ?_
          rintro x w1 ⟨rfl, hb1⟩
          have HB1 := Lib.hid (HB.out.trans (hb1.mono HB.out.size))
          clear hb1
          go_wp2_with fail
          go_roundw
          case rel => exact ⟨k + 1, by omega, by go_num, HB1.out, HE⟩
          case measure => simp [intOf]; omega
      · clear hb
        have HE := Lib.hid (ixQ_no (now := now) (L := L) fun j hj => HP.out j (by have := HL.out; omega))
        go_wp2_with fail
        go_ret
        exact ⟨by rw [HE.out]; rfl, HB.out⟩
  · have hl0 : L = [] := List.eq_nil_of_length_eq_zero (by omega)
    obtain rfl : n = 0 := by omega
    subst hl0
    clear h hn hm hp hc
    go_enter Try.func86, Try.ntmps86
    go_wp2_with fail
    go_loop [8] (fun i => i = .int .i64 0) (fun _ => 0)
    case atStart => rfl
    case round =>
      subst hrel
      go_wp2_with fail
      go_ret
      exact ⟨rfl, Below.refl _ _⟩
end
end Go.Proofs.Ytcfbfnlbdkgfkaa

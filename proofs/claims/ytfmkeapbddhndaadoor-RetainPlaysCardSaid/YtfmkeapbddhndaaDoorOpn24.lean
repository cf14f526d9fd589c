/- What is proved here: an argument that is a message holds a message with its properties; one of type [2]int is two numbers. No conditions. -/
import Derived.Test.YtfmkeapbddhndaaDoorMsg
import Derived.WideKeyArr2
import Derived.ChangeSame
namespace Go.Proofs.YtfmkeapbddhndaaDoor
open Go.ChangeShapes Go.WideShapes Go.RowKit Go.Deep
set_option maxRecDepth 100000
theorem list9 (cs : List Value) (h : cs.length = 9) : ∃ u0 u1 u2 u3 u4 u5 u6 u7 u8, cs = [u0, u1, u2, u3, u4, u5, u6, u7, u8] := by
  rcases cs with _ | ⟨u0, _ | ⟨u1, _ | ⟨u2, _ | ⟨u3, _ | ⟨u4, _ | ⟨u5, _ | ⟨u6, _ | ⟨u7, _ | ⟨u8, _ | ⟨u9, cs⟩⟩⟩⟩⟩⟩⟩⟩⟩⟩ <;> simp at h
  exact ⟨u0, u1, u2, u3, u4, u5, u6, u7, u8, rfl⟩
theorem list4 (cs : List Value) (h : cs.length = 4) : ∃ u0 u1 u2 u3, cs = [u0, u1, u2, u3] := by
  rcases cs with _ | ⟨u0, _ | ⟨u1, _ | ⟨u2, _ | ⟨u3, _ | ⟨u4, cs⟩⟩⟩⟩⟩ <;> simp at h
  exact ⟨u0, u1, u2, u3, rfl⟩
/-- A message that came in. -/
def MsgOf (w : World) (q : QV) : Prop := PIn w w.heap.size q.pa q.m.props ∧ q.m.props.length ≤ 9223372036854775807 ∧ q.m.til ≤ 9223372036854775807
section
variable {H : Type} {enc : TypeId × Value → H} {w : World}
theorem cz36 : Tryd.prog.cellsOf 57 = 9 := by kernel_rfl
theorem cz114 : Tryd.prog.cellsOf 109 = 4 := by kernel_rfl
theorem cz9 : Tryd.prog.cellsOf 9 = 1 := by kernel_rfl
theorem cz3 : Tryd.prog.cellsOf 3 = 1 := by kernel_rfl
theorem cz4 : Tryd.prog.cellsOf 4 = 1 := by kernel_rfl
theorem cz34 : Tryd.prog.cellsOf 55 = 1 := by kernel_rfl
theorem trod_props {b1 n : Nat} {sp : Nat → Bool} {held : Bool} {u : Value} {y : DataW H × List MemPlace} (h : DataW.trod enc Tryd.prog w b1 sp held n 55 [u] = some y) : ∃ a cap, ∃ L : PL, u = .slice a L.length cap ∧ PIn w w.heap.size a L ∧ L.length ≤ 9223372036854775807 := by
  rcases open_slice Tryd.underlying55 h with ⟨hcs, _⟩ | ⟨a, len, cap, m, n', D, Pl, hcs, hb, hl, hm, hmm, hx, hi⟩
  · obtain rfl := (List.cons.inj hcs).1
    exact ⟨none, 0, [], rfl, PIn.nil _ _ _, by simp⟩
  · obtain rfl := (List.cons.inj hcs).1
    have hlm : len ≤ m := by rw [hmm]; split <;> omega
    have key : ∀ i, ∃ p : PV, i < len → ∀ j, j < 4 → w.cell? (a.add (i * 4 + j)) = p.cells[j]? := by
      intro i
      by_cases hil : i < len
      · obtain ⟨cs', hc, ht'⟩ := hi i (by omega)
        rw [cz114] at hc
        obtain ⟨_, hcl, hat⟩ := World.cells?_some hc
        obtain ⟨u0, u1, u2, u3, rfl⟩ := list4 cs' hcl
        obtain ⟨ys, n2, _, _, _, hyl, hfl⟩ := DataW.trod_struct Tryd.underlying109 ht'
        have hy : ∀ j, j < 4 → ∃ z, ys[j]? = some z := fun j hj => ⟨_, List.getElem?_eq_getElem (by rw [hyl]; exact hj)⟩
        obtain ⟨t0, x0⟩ := hy 0 (by omega)
        have g0 := (hfl 0 _ rfl).trans x0
        obtain ⟨t1, x1⟩ := hy 1 (by omega)
        have g1 := (hfl 1 _ rfl).trans x1
        obtain ⟨t2, x2⟩ := hy 2 (by omega)
        have g2 := (hfl 2 _ rfl).trans x2
        obtain ⟨t3, x3⟩ := hy 3 (by omega)
        have g3 := (hfl 3 _ rfl).trans x3
        obtain ⟨v0, e0, _⟩ := DataW.trod_int Tryd.underlying3 (cs := [u0]) g0
        obtain ⟨v1, e1, _⟩ := DataW.trod_int Tryd.underlying3 (cs := [u1]) g1
        obtain ⟨v2, e2, _⟩ := DataW.trod_string Tryd.underlying9 (cs := [u2]) g2
        obtain ⟨v3, e3, _⟩ := DataW.trod_string Tryd.underlying9 (cs := [u3]) g3
        obtain rfl := (List.cons.inj e0).1
        obtain rfl := (List.cons.inj e1).1
        obtain rfl := (List.cons.inj e2).1
        obtain rfl := (List.cons.inj e3).1
        exact ⟨⟨v0, v1, v2, v3⟩, fun _ j hj => by rw [← Go.Deep.add_add]; exact hat j hj⟩
      · exact ⟨p0, fun h => absurd h hil⟩
    obtain ⟨xs, hxs⟩ := Classical.axiomOfChoice key
    have hlen : ((List.range len).map xs).length = len := by rw [List.length_map, List.length_range]
    have hget : ∀ k, k < len → ((List.range len).map xs).getD k p0 = xs k := fun k hk => by
      rw [List.getD_eq_getElem?_getD, List.getElem?_map, List.getElem?_range hk]
      rfl
    refine ⟨some a, cap, (List.range len).map xs, by rw [hlen], fun hp => ?_, by rw [hlen]; unfold maxLen at hm; omega⟩
    rw [hlen] at hp
    have hc0 : w.cell? (a.add (0 * 4 + 0)) = some (.int .i64 (xs 0).id) := hxs 0 hp 0 (by omega)
    obtain ⟨b, off, spot⟩ := a
    have hspot : spot = none := by simpa [Addr.add] using World.cell?_spot hc0
    subst hspot
    have hq : ∀ k, k < len → ∀ j, j < 4 → w.cell? ⟨b, off + k * 4 + j, none⟩ = (xs k).cells[j]? := fun k hk j hj => by
      have := hxs k hk j hj
      rw [add_plain, ← Nat.add_assoc] at this
      exact this
    refine ⟨b, off, rfl, fun k hk => ?_, .inl (lt_of_cell' (hq 0 hp 0 (by omega)))⟩
    rw [hlen] at hk
    rw [hget k hk]
    exact ⟨hq k hk 0 (by omega), hq k hk 1 (by omega), hq k hk 2 (by omega), hq k hk 3 (by omega)⟩
theorem trod_msg {b1 n : Nat} {sp : Nat → Bool} {held : Bool} {cs : List Value} {y : DataW H × List MemPlace} (hl : cs.length = 9) (h : DataW.trod enc Tryd.prog w b1 sp held n 57 cs = some y) : ∃ q : QV, cs = q.cells ∧ MsgOf w q := by
  obtain ⟨u0, u1, u2, u3, u4, u5, u6, u7, u8, rfl⟩ := list9 cs hl
  obtain ⟨xs, n3, _, _, _, hxl, hgl⟩ := DataW.trod_struct Tryd.underlying57 h
  have hx : ∀ j, j < 9 → ∃ z, xs[j]? = some z := fun j hj => ⟨_, List.getElem?_eq_getElem (by rw [hxl]; exact hj)⟩
  obtain ⟨t0, x0⟩ := hx 0 (by omega)
  have g0 := (hgl 0 _ rfl).trans x0
  obtain ⟨t1, x1⟩ := hx 1 (by omega)
  have g1 := (hgl 1 _ rfl).trans x1
  obtain ⟨t2, x2⟩ := hx 2 (by omega)
  have g2 := (hgl 2 _ rfl).trans x2
  obtain ⟨t3, x3⟩ := hx 3 (by omega)
  have g3 := (hgl 3 _ rfl).trans x3
  obtain ⟨t4, x4⟩ := hx 4 (by omega)
  have g4 := (hgl 4 _ rfl).trans x4
  obtain ⟨t5, x5⟩ := hx 5 (by omega)
  have g5 := (hgl 5 _ rfl).trans x5
  obtain ⟨t6, x6⟩ := hx 6 (by omega)
  have g6 := (hgl 6 _ rfl).trans x6
  obtain ⟨t7, x7⟩ := hx 7 (by omega)
  have g7 := (hgl 7 _ rfl).trans x7
  obtain ⟨t8, x8⟩ := hx 8 (by omega)
  have g8 := (hgl 8 _ rfl).trans x8
  obtain ⟨v0, e0, _⟩ := DataW.trod_string Tryd.underlying9 (cs := [u0]) g0
  obtain ⟨v1, e1, _⟩ := DataW.trod_string Tryd.underlying9 (cs := [u1]) g1
  obtain ⟨v2, e2, _⟩ := DataW.trod_int Tryd.underlying3 (cs := [u2]) g2
  obtain ⟨v3, e3, _⟩ := DataW.trod_bool Tryd.underlying4 (cs := [u3]) g3
  obtain ⟨pa, pc, pl, rfl, hp1, hp2⟩ := trod_props (u := u4) g4
  obtain ⟨v5, e5, _⟩ := DataW.trod_string Tryd.underlying9 (cs := [u5]) g5
  obtain ⟨v6, e6, _, wf6⟩ := DataW.trod_int Tryd.underlying3 (cs := [u6]) g6
  obtain ⟨v7, e7, _⟩ := DataW.trod_int Tryd.underlying3 (cs := [u7]) g7
  obtain ⟨v8, e8, _⟩ := DataW.trod_string Tryd.underlying9 (cs := [u8]) g8
  obtain rfl := (List.cons.inj e0).1
  obtain rfl := (List.cons.inj e1).1
  obtain rfl := (List.cons.inj e2).1
  obtain rfl := (List.cons.inj e3).1
  obtain rfl := (List.cons.inj e5).1
  obtain rfl := (List.cons.inj e6).1
  obtain rfl := (List.cons.inj e7).1
  obtain rfl := (List.cons.inj e8).1
  exact ⟨⟨⟨v0, v1, v2, v3, pl, v5, v6, v7, v8⟩, pa, pc⟩, rfl, hp1, hp2, (i64_range wf6).2⟩
/-- A message as an argument. -/
theorem msg_open27 {r : Reach} {b0 b1 : Nat} {sp : Nat → Bool} {held : Bool} {v : Value} {d : DataW H} {ps : List MemPlace} (hval : Value.okWide Tryd.prog w r b0 57 v) (hd : DataW.Trod enc Tryd.prog w b1 sp held 57 v d ps) : ∃ q : QV, v = q.agg ∧ MsgOf w q := by
  obtain ⟨cs, rfl, hsz⟩ := okWide_struct Tryd.underlying57 hval
  obtain ⟨fuel, hf⟩ := hd
  obtain ⟨q, hq, h⟩ := trod_msg (cs := cs.toList) (by rw [Array.length_toList, hsz]; exact cz36) hf
  refine ⟨q, ?_, h⟩
  unfold QV.agg
  rw [show cs = cs.toList.toArray from (Array.toArray_toList).symm, hq]
  rfl
end
end Go.Proofs.YtfmkeapbddhndaaDoor

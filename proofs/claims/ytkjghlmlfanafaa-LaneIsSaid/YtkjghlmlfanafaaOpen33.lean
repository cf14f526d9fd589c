/- What is proved here: an argument that is a slice of items holds items. No conditions. -/
import Derived.Test.YtkjghlmlfanafaaLawA33
namespace Go.Proofs.Ytkjghlmlfanafaa
open Go.ChangeShapes Go.WideShapes Go.RowKit Go.Deep
theorem list12 (cs : List Value) (h : cs.length = 12) : ∃ u0 u1 u2 u3 u4 u5 u6 u7 u8 u9 u10 u11, cs = [u0, u1, u2, u3, u4, u5, u6, u7, u8, u9, u10, u11] := by
  rcases cs with _ | ⟨u0, _ | ⟨u1, _ | ⟨u2, _ | ⟨u3, _ | ⟨u4, _ | ⟨u5, _ | ⟨u6, _ | ⟨u7, _ | ⟨u8, _ | ⟨u9, _ | ⟨u10, _ | ⟨u11, _ | ⟨u12, cs⟩⟩⟩⟩⟩⟩⟩⟩⟩⟩⟩⟩⟩ <;> simp at h
  exact ⟨u0, u1, u2, u3, u4, u5, u6, u7, u8, u9, u10, u11, rfl⟩
theorem list4 (cs : List Value) (h : cs.length = 4) : ∃ u0 u1 u2 u3, cs = [u0, u1, u2, u3] := by
  rcases cs with _ | ⟨u0, _ | ⟨u1, _ | ⟨u2, _ | ⟨u3, _ | ⟨u4, cs⟩⟩⟩⟩⟩ <;> simp at h
  exact ⟨u0, u1, u2, u3, rfl⟩
section
variable {H : Type} {enc : TypeId × Value → H} {w : World}
theorem cz67 : Try.prog.cellsOf 67 = 9 := by kernel_rfl
theorem cz69 : Try.prog.cellsOf 69 = 12 := by kernel_rfl
theorem cz91 : Try.prog.cellsOf 91 = 4 := by kernel_rfl
theorem cz9 : Try.prog.cellsOf 9 = 1 := by kernel_rfl
theorem cz3 : Try.prog.cellsOf 3 = 1 := by kernel_rfl
theorem cz4 : Try.prog.cellsOf 4 = 1 := by kernel_rfl
theorem cz65 : Try.prog.cellsOf 65 = 1 := by kernel_rfl
theorem cz43 : Try.prog.cellsOf 43 = 1 := by kernel_rfl
theorem trod_props {b1 n : Nat} {sp : Nat → Bool} {held : Bool} {u : Value} {y : DataW H × List MemPlace} (h : DataW.trod enc Try.prog w b1 sp held n 65 [u] = some y) : ∃ a len cap, u = .slice a len cap ∧ PRd w a len ∧ len ≤ 9223372036854775807 := by
  rcases open_slice Try.underlying65 h with ⟨hcs, _⟩ | ⟨a, len, cap, m, n', D, Pl, hcs, hb, hl, hm, hmm, hx, hi⟩
  · obtain rfl := (List.cons.inj hcs).1
    exact ⟨none, 0, 0, rfl, fun h => absurd h (by omega), by omega⟩
  · obtain rfl := (List.cons.inj hcs).1
    refine ⟨some a, len, cap, rfl, fun hp => ?_, by unfold maxLen at hm; omega⟩
    have hlm : len ≤ m := by rw [hmm]; split <;> omega
    have key : ∀ i, i < len → (∃ z, w.cell? (a.add (i * 4)) = some z) ∧ (∃ s, w.cell? (a.add (i * 4 + 2)) = some (.string s)) ∧ ∃ v, w.cell? (a.add (i * 4 + 3)) = some (.string v) := by
      intro i hil
      obtain ⟨cs', hc, ht'⟩ := hi i (by omega)
      rw [cz91] at hc
      obtain ⟨_, hcl, hat⟩ := World.cells?_some hc
      obtain ⟨u0, u1, u2, u3, rfl⟩ := list4 cs' hcl
      obtain ⟨ys, n2, _, _, _, hyl, hfl⟩ := DataW.trod_struct Try.underlying91 ht'
      have h2 := hfl 2 _ rfl
      have h3 := hfl 3 _ rfl
      have hys2 : ys[2]? = some (ys[2]'(by rw [hyl]; decide)) := List.getElem?_eq_getElem _
      have hys3 : ys[3]? = some (ys[3]'(by rw [hyl]; decide)) := List.getElem?_eq_getElem _
      obtain ⟨s2, e2, _⟩ := DataW.trod_string Try.underlying9 (cs := [u2]) (h2.trans hys2)
      obtain ⟨s3, e3, _⟩ := DataW.trod_string Try.underlying9 (cs := [u3]) (h3.trans hys3)
      obtain rfl := (List.cons.inj e2).1
      obtain rfl := (List.cons.inj e3).1
      refine ⟨⟨u0, ?_⟩, ⟨s2, ?_⟩, s3, ?_⟩
      · have := hat 0 (by omega)
        rw [Go.Deep.add_add] at this
        exact this
      · rw [← Go.Deep.add_add, hat 2 (by omega)]; rfl
      · rw [← Go.Deep.add_add, hat 3 (by omega)]; rfl
    obtain ⟨⟨s, hc0⟩, _⟩ := key 0 hp
    rw [Nat.zero_mul] at hc0
    obtain ⟨b, off, spot⟩ := a
    have hspot : spot = none := by simpa [Addr.add] using World.cell?_spot hc0
    subst hspot
    refine ⟨b, off, rfl, fun j hj => ?_⟩
    obtain ⟨_, ⟨s, h1⟩, v, h2⟩ := key j hj
    rw [add_plain] at h1 h2
    exact ⟨⟨s, h1⟩, v, h2⟩
theorem trod_behind {b1 n : Nat} {sp : Nat → Bool} {held : Bool} {u : Value} {y : DataW H × List MemPlace} (h : DataW.trod enc Try.prog w b1 sp held n 43 [u] = some y) : ∃ a len cap, u = .slice a len cap := by
  rcases open_slice Try.underlying43 h with ⟨hcs, _⟩ | ⟨a, len, cap, m, n', D, Pl, hcs, _⟩
  · obtain rfl := (List.cons.inj hcs).1
    exact ⟨none, 0, 0, rfl⟩
  · obtain rfl := (List.cons.inj hcs).1
    exact ⟨some a, len, cap, rfl⟩
theorem trod_item {b1 n : Nat} {sp : Nat → Bool} {held : Bool} {cs : List Value} {y : DataW H × List MemPlace} (hl : cs.length = 12) (h : DataW.trod enc Try.prog w b1 sp held n 69 cs = some y) : ∃ m : IV, cs = m.cells ∧ PRd w m.pa m.pn ∧ m.pn ≤ 9223372036854775807 := by
  obtain ⟨u0, u1, u2, u3, u4, u5, u6, u7, u8, u9, u10, u11, rfl⟩ := list12 cs hl
  obtain ⟨ys, n2, _, _, _, hyl, hfl⟩ := DataW.trod_struct Try.underlying69 h
  have hy : ∀ j, j < 4 → ∃ z, ys[j]? = some z := fun j hj => ⟨_, List.getElem?_eq_getElem (by rw [hyl]; exact hj)⟩
  obtain ⟨z0, y0⟩ := hy 0 (by omega)
  obtain ⟨z1, y1⟩ := hy 1 (by omega)
  obtain ⟨z2, y2⟩ := hy 2 (by omega)
  obtain ⟨z3, y3⟩ := hy 3 (by omega)
  have h0 := (hfl 0 _ rfl).trans y0
  have h1 := (hfl 1 _ rfl).trans y1
  have h2 := (hfl 2 _ rfl).trans y2
  have h3 := (hfl 3 _ rfl).trans y3
  have h0' : DataW.trod enc Try.prog w b1 sp held n2 67 [u0, u1, u2, u3, u4, u5, u6, u7, u8] = some z0 := h0
  obtain ⟨xs, n3, _, _, _, hxl, hgl⟩ := DataW.trod_struct Try.underlying67 h0'
  have hx : ∀ j, j < 9 → ∃ z, xs[j]? = some z := fun j hj => ⟨_, List.getElem?_eq_getElem (by rw [hxl]; exact hj)⟩
  obtain ⟨t0, x0⟩ := hx 0 (by omega)
  have g0 := (hgl 0 _ rfl).trans x0
  obtain ⟨t1, x1⟩ := hx 1 (by omega)
  have g1 := (hgl 1 _ rfl).trans x1
  obtain ⟨t2, x2⟩ := hx 2 (by omega)
  have g2 := (hgl 2 _ rfl).trans x2
  obtain ⟨t3, x3⟩ := hx 3 (by omega)
  have g3 := (hgl 3 _ rfl).trans x3
  obtain ⟨t4, x4⟩ := hx 4 (by omega)
  have g4 := (hgl 4 _ rfl).trans x4
  obtain ⟨t5, x5⟩ := hx 5 (by omega)
  have g5 := (hgl 5 _ rfl).trans x5
  obtain ⟨t6, x6⟩ := hx 6 (by omega)
  have g6 := (hgl 6 _ rfl).trans x6
  obtain ⟨t7, x7⟩ := hx 7 (by omega)
  have g7 := (hgl 7 _ rfl).trans x7
  obtain ⟨t8, x8⟩ := hx 8 (by omega)
  have g8 := (hgl 8 _ rfl).trans x8
  obtain ⟨v0, e0, _⟩ := DataW.trod_string Try.underlying9 (cs := [u0]) g0
  obtain ⟨v1, e1, _⟩ := DataW.trod_string Try.underlying9 (cs := [u1]) g1
  obtain ⟨v2, e2, _⟩ := DataW.trod_int Try.underlying3 (cs := [u2]) g2
  obtain ⟨v3, e3, _⟩ := DataW.trod_bool Try.underlying4 (cs := [u3]) g3
  obtain ⟨pa, pn, pc, rfl, hp1, hp2⟩ := trod_props (u := u4) g4
  obtain ⟨v5, e5, _⟩ := DataW.trod_string Try.underlying9 (cs := [u5]) g5
  obtain ⟨v6, e6, _⟩ := DataW.trod_int Try.underlying3 (cs := [u6]) g6
  obtain ⟨v7, e7, _⟩ := DataW.trod_int Try.underlying3 (cs := [u7]) g7
  obtain ⟨v8, e8, _⟩ := DataW.trod_string Try.underlying9 (cs := [u8]) g8
  obtain ⟨v9, e9, _⟩ := DataW.trod_string Try.underlying9 (cs := [u9]) h1
  obtain ⟨ba, bn, bc, rfl⟩ := trod_behind (u := u10) h2
  obtain ⟨v11, e11, _⟩ := DataW.trod_bool Try.underlying4 (cs := [u11]) h3
  obtain rfl := (List.cons.inj e0).1
  obtain rfl := (List.cons.inj e1).1
  obtain rfl := (List.cons.inj e2).1
  obtain rfl := (List.cons.inj e3).1
  obtain rfl := (List.cons.inj e5).1
  obtain rfl := (List.cons.inj e6).1
  obtain rfl := (List.cons.inj e7).1
  obtain rfl := (List.cons.inj e8).1
  obtain rfl := (List.cons.inj e9).1
  obtain rfl := (List.cons.inj e11).1
  exact ⟨⟨v0, v1, v2, v3, pa, pn, pc, v5, v6, v7, v8, v9, ba, bn, bc, v11⟩, rfl, hp1, hp2⟩
/-- A slice of items that came in. -/
def ItemsN (w : World) (A : Option Addr) (n : Nat) (L : IL) : Prop := n = L.length ∧ ItemsOf w A L
theorem items_open33 {r : Reach} {b0 b1 : Nat} {sp : Nat → Bool} {held : Bool} {v : Value} {d : DataW H} {ps : List MemPlace} (hval : Value.okWide Try.prog w r b0 61 v) (hd : DataW.Trod enc Try.prog w b1 sp held 61 v d ps) :
    ∃ a len cap xs, v = .slice a len cap ∧ len ≤ maxLen ∧ ItemsN w a len xs := by
  obtain ⟨a0, len, cap, rfl⟩ := okWide_slice Try.underlying61 hval
  obtain ⟨fuel, hf⟩ := hd
  rcases open_slice Try.underlying61 hf with ⟨hcs, hx⟩ | ⟨a, len', cap', m, n, D, Pl, hcs, hb, hl, hm, hmm, hx, hi⟩
  · simp [Value.cells] at hcs
    obtain ⟨rfl, rfl, rfl⟩ := hcs
    exact ⟨none, 0, 0, [], rfl, Nat.zero_le _, rfl, fun h => absurd h (by simp), fun k hk => absurd hk (by simp)⟩
  · simp [Value.cells] at hcs
    obtain ⟨rfl, rfl, rfl⟩ := hcs
    have hlm : len ≤ m := by rw [hmm]; split <;> omega
    have hex : ∀ i, ∃ x : IV, i < len → (∀ j, j < 12 → w.cell? (a.add (i * 12 + j)) = x.cells[j]?) ∧ PRd w x.pa x.pn ∧ x.pn ≤ 9223372036854775807 := by
      intro i
      by_cases hil : i < len
      · obtain ⟨cs', hc, ht'⟩ := hi i (by omega)
        rw [cz69] at hc
        obtain ⟨_, hcl, hat⟩ := World.cells?_some hc
        obtain ⟨x, rfl, h1, h2⟩ := trod_item hcl ht'
        exact ⟨x, fun _ => ⟨fun j hj => by rw [← Go.Deep.add_add]; exact hat j hj, h1, h2⟩⟩
      · exact ⟨i0, fun h => absurd h hil⟩
    obtain ⟨xs, hxs⟩ := Classical.axiomOfChoice hex
    have hlen : ((List.range len).map xs).length = len := by rw [List.length_map, List.length_range]
    have hget : ∀ k, k < len → ((List.range len).map xs).getD k i0 = xs k := fun k hk => by
      rw [List.getD_eq_getElem?_getD, List.getElem?_map, List.getElem?_range hk]
      rfl
    refine ⟨some a, len, cap, (List.range len).map xs, rfl, Nat.le_trans hl hm, hlen.symm, fun hp => ?_, fun k hk => ?_⟩
    · rw [hlen] at hp
      have hc0 := (hxs 0 hp).1 0 (by omega)
      obtain ⟨b, off, spot⟩ := a
      have hspot : spot = none := by simpa [Addr.add] using World.cell?_spot (show w.cell? _ = some _ from hc0)
      subst hspot
      refine ⟨b, off, rfl, fun k hk => ?_⟩
      rw [hlen] at hk
      rw [hget k hk]
      have hq : ∀ j, j < 12 → w.cell? ⟨b, off + k * 12 + j, none⟩ = (xs k).cells[j]? := fun j hj => by
        have := (hxs k hk).1 j hj
        rw [add_plain, ← Nat.add_assoc] at this
        exact this
      exact ⟨hq 0 (by omega), hq 1 (by omega), hq 2 (by omega), hq 3 (by omega), hq 4 (by omega), hq 5 (by omega), hq 6 (by omega), hq 7 (by omega), hq 8 (by omega), hq 9 (by omega), hq 10 (by omega), hq 11 (by omega)⟩
    · rw [hlen] at hk
      rw [hget k hk]
      exact (hxs k hk).2
theorem laneMoves_walk (A : Option Addr) (n c : Nat) (L : IL) (at_ : Int) (client : ByteArray) (w : World) (hnz : n ≤ maxLen) (ha : ItemsN w A n L) (_ : -9223372036854775808 ≤ at_ ∧ at_ ≤ 9223372036854775807) (_ : client.size ≤ maxLen) : Calls Try.prog 12 #[.slice A n c, .int .i64 at_, .string client] w fun x w' => x = .returned (.bool true) ∧ Below w.heap.size w w' := laneMoves_core A n c L at_ client w ha.1 hnz ha.2
end
end Go.Proofs.Ytkjghlmlfanafaa

/- What is proved here: an argument that is a row of messages holds messages with their properties. No conditions. What is proved here: whether a message has few parts, and what then fits. Conditions: its properties stand where the slice says. What is proved here: whether rows of texts are the same, are few, or begin others, as the document's functions say. Conditions: the rows stand where they do. -/
import Derived.Test.YtnolnhpmpjgnaaaGreatDoorMsgF
import Derived.Test.YtnolnhpmpjgnaaaGreatDoorLib
import Derived.WideKeyArr2
import Derived.ChangeSame
import Derived.Test.YtnolnhpmpjgnaaaGreatDoorPup34
import Derived.Test.YtnolnhpmpjgnaaaGreatDoorPrp
import Derived.Deep.QuietTactic
import Derived.BigQuiet
namespace Go.Proofs.YtnolnhpmpjgnaaaGreatDoor
open Go.ChangeShapes Go.WideShapes Go.RowKit Go.Deep
set_option maxRecDepth 100000
theorem list9 (cs : List Value) (h : cs.length = 9) : ∃ u0 u1 u2 u3 u4 u5 u6 u7 u8, cs = [u0, u1, u2, u3, u4, u5, u6, u7, u8] := by
  rcases cs with _ | ⟨u0, _ | ⟨u1, _ | ⟨u2, _ | ⟨u3, _ | ⟨u4, _ | ⟨u5, _ | ⟨u6, _ | ⟨u7, _ | ⟨u8, _ | ⟨u9, cs⟩⟩⟩⟩⟩⟩⟩⟩⟩⟩ <;> simp at h
  exact ⟨u0, u1, u2, u3, u4, u5, u6, u7, u8, rfl⟩
theorem list4 (cs : List Value) (h : cs.length = 4) : ∃ u0 u1 u2 u3, cs = [u0, u1, u2, u3] := by
  rcases cs with _ | ⟨u0, _ | ⟨u1, _ | ⟨u2, _ | ⟨u3, _ | ⟨u4, cs⟩⟩⟩⟩⟩ <;> simp at h
  exact ⟨u0, u1, u2, u3, rfl⟩
/-- A message that came in. -/
def MsgOf (w : World) (q : QV) : Prop := PIn w w.heap.size q.pa q.m.props ∧ q.m.props.length ≤ 9223372036854775807 ∧ q.m.props.length ≤ q.pc
section
variable {H : Type} {enc : TypeId × Value → H} {w : World}
theorem cz36 : Tryz.prog.cellsOf 25 = 9 := by kernel_rfl
theorem cz114 : Tryz.prog.cellsOf 98 = 4 := by kernel_rfl
theorem trod_props {b1 n : Nat} {sp : Nat → Bool} {held : Bool} {u : Value} {y : DataW H × List MemPlace} (h : DataW.trod enc Tryz.prog w b1 sp held n 23 [u] = some y) : ∃ a cap, ∃ L : PL, u = .slice a L.length cap ∧ PIn w w.heap.size a L ∧ L.length ≤ 9223372036854775807 ∧ L.length ≤ cap := by
  rcases open_slice Tryz.underlying23 h with ⟨hcs, _⟩ | ⟨a, len, cap, m, n', D, Pl, hcs, hb, hl, hm, hmm, hx, hi⟩
  · obtain rfl := (List.cons.inj hcs).1
    exact ⟨none, 0, [], rfl, PIn.nil _ _ _, by simp, Nat.le_refl _⟩
  · obtain rfl := (List.cons.inj hcs).1
    have hlm : len ≤ m := by rw [hmm]; split <;> omega
    have key : ∀ i, ∃ p : PV, i < len → ∀ j, j < 4 → w.cell? (a.add (i * 4 + j)) = p.cells[j]? := by
      intro i
      by_cases hil : i < len
      · obtain ⟨cs', hc, ht'⟩ := hi i (by omega)
        rw [cz114] at hc
        obtain ⟨_, hcl, hat⟩ := World.cells?_some hc
        obtain ⟨u0, u1, u2, u3, rfl⟩ := list4 cs' hcl
        obtain ⟨ys, n2, _, _, _, hyl, hfl⟩ := DataW.trod_struct Tryz.underlying98 ht'
        have hy : ∀ j, j < 4 → ∃ z, ys[j]? = some z := fun j hj => ⟨_, List.getElem?_eq_getElem (by rw [hyl]; exact hj)⟩
        obtain ⟨t0, x0⟩ := hy 0 (by omega)
        have g0 := (hfl 0 _ rfl).trans x0
        obtain ⟨t1, x1⟩ := hy 1 (by omega)
        have g1 := (hfl 1 _ rfl).trans x1
        obtain ⟨t2, x2⟩ := hy 2 (by omega)
        have g2 := (hfl 2 _ rfl).trans x2
        obtain ⟨t3, x3⟩ := hy 3 (by omega)
        have g3 := (hfl 3 _ rfl).trans x3
        obtain ⟨v0, e0, _⟩ := DataW.trod_int Tryz.underlying3 (cs := [u0]) g0
        obtain ⟨v1, e1, _⟩ := DataW.trod_int Tryz.underlying3 (cs := [u1]) g1
        obtain ⟨v2, e2, _⟩ := DataW.trod_string Tryz.underlying9 (cs := [u2]) g2
        obtain ⟨v3, e3, _⟩ := DataW.trod_string Tryz.underlying9 (cs := [u3]) g3
        obtain rfl := (List.cons.inj e0).1
        obtain rfl := (List.cons.inj e1).1
        obtain rfl := (List.cons.inj e2).1
        obtain rfl := (List.cons.inj e3).1
        exact ⟨⟨v0, v1, v2, v3⟩, fun _ j hj => by rw [← Go.Deep.add_add]; exact hat j hj⟩
      · exact ⟨p0, fun h => absurd h hil⟩
    obtain ⟨xs, hxs⟩ := Classical.axiomOfChoice key
    have hlen : ((List.range len).map xs).length = len := by rw [List.length_map, List.length_range]
    have hget : ∀ k, k < len → ((List.range len).map xs).getD k p0 = xs k := fun k hk => by
      rw [List.getD_eq_getElem?_getD, List.getElem?_map, List.getElem?_range hk]
      rfl
    refine ⟨some a, cap, (List.range len).map xs, by rw [hlen], fun hp => ?_, by rw [hlen]; unfold maxLen at hm; omega, by rw [hlen]; exact hl⟩
    rw [hlen] at hp
    have hc0 : w.cell? (a.add (0 * 4 + 0)) = some (.int .i64 (xs 0).id) := hxs 0 hp 0 (by omega)
    obtain ⟨b, off, spot⟩ := a
    have hspot : spot = none := by simpa [Addr.add] using World.cell?_spot hc0
    subst hspot
    have hq : ∀ k, k < len → ∀ j, j < 4 → w.cell? ⟨b, off + k * 4 + j, none⟩ = (xs k).cells[j]? := fun k hk j hj => by
      have := hxs k hk j hj
      rw [add_plain, ← Nat.add_assoc] at this
      exact this
    refine ⟨b, off, rfl, fun k hk => ?_, .inl (lt_of_cell' (hq 0 hp 0 (by omega)))⟩
    rw [hlen] at hk
    rw [hget k hk]
    exact ⟨hq k hk 0 (by omega), hq k hk 1 (by omega), hq k hk 2 (by omega), hq k hk 3 (by omega)⟩
theorem trod_msg {b1 n : Nat} {sp : Nat → Bool} {held : Bool} {cs : List Value} {y : DataW H × List MemPlace} (hl : cs.length = 9) (h : DataW.trod enc Tryz.prog w b1 sp held n 25 cs = some y) : ∃ q : QV, cs = q.cells ∧ MsgOf w q := by
  obtain ⟨u0, u1, u2, u3, u4, u5, u6, u7, u8, rfl⟩ := list9 cs hl
  obtain ⟨xs, n3, _, _, _, hxl, hgl⟩ := DataW.trod_struct Tryz.underlying25 h
  have hx : ∀ j, j < 9 → ∃ z, xs[j]? = some z := fun j hj => ⟨_, List.getElem?_eq_getElem (by rw [hxl]; exact hj)⟩
  obtain ⟨t0, x0⟩ := hx 0 (by omega)
  have g0 := (hgl 0 _ rfl).trans x0
  obtain ⟨t1, x1⟩ := hx 1 (by omega)
  have g1 := (hgl 1 _ rfl).trans x1
  obtain ⟨t2, x2⟩ := hx 2 (by omega)
  have g2 := (hgl 2 _ rfl).trans x2
  obtain ⟨t3, x3⟩ := hx 3 (by omega)
  have g3 := (hgl 3 _ rfl).trans x3
  obtain ⟨t4, x4⟩ := hx 4 (by omega)
  have g4 := (hgl 4 _ rfl).trans x4
  obtain ⟨t5, x5⟩ := hx 5 (by omega)
  have g5 := (hgl 5 _ rfl).trans x5
  obtain ⟨t6, x6⟩ := hx 6 (by omega)
  have g6 := (hgl 6 _ rfl).trans x6
  obtain ⟨t7, x7⟩ := hx 7 (by omega)
  have g7 := (hgl 7 _ rfl).trans x7
  obtain ⟨t8, x8⟩ := hx 8 (by omega)
  have g8 := (hgl 8 _ rfl).trans x8
  obtain ⟨v0, e0, _⟩ := DataW.trod_string Tryz.underlying9 (cs := [u0]) g0
  obtain ⟨v1, e1, _⟩ := DataW.trod_string Tryz.underlying9 (cs := [u1]) g1
  obtain ⟨v2, e2, _⟩ := DataW.trod_int Tryz.underlying3 (cs := [u2]) g2
  obtain ⟨v3, e3, _⟩ := DataW.trod_bool Tryz.underlying4 (cs := [u3]) g3
  obtain ⟨pa, pc, pl, rfl, hp1, hp2, hp3⟩ := trod_props (u := u4) g4
  obtain ⟨v5, e5, _⟩ := DataW.trod_string Tryz.underlying9 (cs := [u5]) g5
  obtain ⟨v6, e6, _⟩ := DataW.trod_int Tryz.underlying3 (cs := [u6]) g6
  obtain ⟨v7, e7, _⟩ := DataW.trod_int Tryz.underlying3 (cs := [u7]) g7
  obtain ⟨v8, e8, _⟩ := DataW.trod_string Tryz.underlying9 (cs := [u8]) g8
  obtain rfl := (List.cons.inj e0).1
  obtain rfl := (List.cons.inj e1).1
  obtain rfl := (List.cons.inj e2).1
  obtain rfl := (List.cons.inj e3).1
  obtain rfl := (List.cons.inj e5).1
  obtain rfl := (List.cons.inj e6).1
  obtain rfl := (List.cons.inj e7).1
  obtain rfl := (List.cons.inj e8).1
  exact ⟨⟨⟨v0, v1, v2, v3, pl, v5, v6, v7, v8⟩, pa, pc⟩, rfl, hp1, hp2, hp3⟩
/-- A slice of messages that came in. -/
def MsgsN (w : World) (A : Option Addr) (n : Nat) (L : QL) : Prop := n = L.length ∧ MRd w A L ∧ ∀ k, k < L.length → MsgOf w (L.getD k q0)
theorem msgs_open34 {r : Reach} {b0 b1 : Nat} {sp : Nat → Bool} {held : Bool} {v : Value} {d : DataW H} {ps : List MemPlace} (hval : Value.okWide Tryz.prog w r b0 41 v) (hd : DataW.Trod enc Tryz.prog w b1 sp held 41 v d ps) :
    ∃ a len cap xs, v = .slice a len cap ∧ len ≤ maxLen ∧ MsgsN w a len xs := by
  obtain ⟨a9, len, cap, rfl⟩ := okWide_slice Tryz.underlying41 hval
  obtain ⟨fuel, hf⟩ := hd
  rcases open_slice Tryz.underlying41 hf with ⟨hcs, hx⟩ | ⟨a, len', cap', m, n, D, Pl, hcs, hb, hl, hm, hmm, hx, hi⟩
  · simp [Value.cells] at hcs
    obtain ⟨rfl, rfl, rfl⟩ := hcs
    exact ⟨none, 0, 0, [], rfl, Nat.zero_le _, rfl, fun h => absurd h (by simp), fun k hk => absurd hk (by simp)⟩
  · simp [Value.cells] at hcs
    obtain ⟨rfl, rfl, rfl⟩ := hcs
    have hlm : len ≤ m := by rw [hmm]; split <;> omega
    have hex : ∀ i, ∃ x : QV, i < len → (∀ j, j < 9 → w.cell? (a.add (i * 9 + j)) = x.cells[j]?) ∧ MsgOf w x := by
      intro i
      by_cases hil : i < len
      · obtain ⟨cs', hc, ht'⟩ := hi i (by omega)
        rw [cz36] at hc
        obtain ⟨_, hcl, hat⟩ := World.cells?_some hc
        obtain ⟨x, rfl, h1⟩ := trod_msg hcl ht'
        exact ⟨x, fun _ => ⟨fun j hj => by rw [← Go.Deep.add_add]; exact hat j hj, h1⟩⟩
      · exact ⟨q0, fun h => absurd h hil⟩
    obtain ⟨xs, hxs⟩ := Classical.axiomOfChoice hex
    have hlen : ((List.range len).map xs).length = len := by rw [List.length_map, List.length_range]
    have hget : ∀ k, k < len → ((List.range len).map xs).getD k q0 = xs k := fun k hk => by
      rw [List.getD_eq_getElem?_getD, List.getElem?_map, List.getElem?_range hk]
      rfl
    refine ⟨some a, len, cap, (List.range len).map xs, rfl, Nat.le_trans hl hm, hlen.symm, fun hp => ?_, fun k hk => ?_⟩
    · rw [hlen] at hp
      have hc0 := (hxs 0 hp).1 0 (by omega)
      obtain ⟨b, off, spot⟩ := a
      have hspot : spot = none := by simpa [Addr.add] using World.cell?_spot (show w.cell? _ = some _ from hc0)
      subst hspot
      refine ⟨b, off, rfl, fun k hk => ?_⟩
      rw [hlen] at hk
      rw [hget k hk]
      exact QCells.of fun j hj => by
        have := (hxs k hk).1 j hj
        rw [add_plain, ← Nat.add_assoc] at this
        exact this
    · rw [hlen] at hk
      rw [hget k hk]
      exact (hxs k hk).2
end
end Go.Proofs.YtnolnhpmpjgnaaaGreatDoor
namespace Go.Proofs.YtnolnhpmpjgnaaaGreatDoor
open Go.RowKit Go.Extern.Stop Go.Stop Go.Extern
set_option maxRecDepth 100000
def Small34 (q : QV) (w : World) (x : Ending) (w' : World) : Prop := ∃ b : Bool, x = .returned (.bool b) ∧ (b = true → q.m.topic.size ≤ 200 ∧ q.m.payload.size ≤ 200 ∧ q.m.frm.size ≤ 100 ∧ q.m.grp.size ≤ 200 ∧ SmallP q.m.props) ∧ Below w.heap.size w w'
section
variable {w w' : World} {B : Nat}
set_option maxHeartbeats 4000000 in
theorem small34_any (q : QV) (h : PIn w B q.pa q.m.props) (hm : q.m.props.length ≤ 9223372036854775807) : Calls Tryz.prog 11 #[q.agg] w (Small34 q w) := by
  have HB0 := Lib.hid ((Below.refl w.heap.size w).alloc (Nat.le_refl _) (.cells q.cells.toArray 25))
  have HP := Lib.hid (few06_any _ q.pc (h.below ((Below.refl w.heap.size w).alloc (Nat.le_refl _) (.cells q.cells.toArray 25))) rfl hm)
  have HF := Lib.hid (show ∀ w' : World, Below w.heap.size w w' → Small34 q w (.returned (.bool false)) w' from fun _ hb => ⟨false, rfl, (fun h => by cases h), hb⟩)
  have HS := Lib.hid (show ∀ (b : Bool) (w' : World), q.m.topic.size ≤ 200 → q.m.payload.size ≤ 200 → q.m.frm.size ≤ 100 → q.m.grp.size ≤ 200 → (b = true → q.m.props.length ≤ 70 ∧ ∀ k, k < q.m.props.length → (q.m.props.getD k p0).s.size ≤ 200 ∧ (q.m.props.getD k p0).v.size ≤ 200) → Below w.heap.size w w' → Small34 q w (.returned (.bool b)) w' from fun b _ h1 h2 h3 h4 h hb => ⟨b, rfl, fun hb2 => ⟨h1, h2, h3, h4, smallP_of (h hb2).1 (fun k hk => ⟨Nat.le_trans ((h hb2).2 k hk).1 (by decide), Nat.le_trans ((h hb2).2 k hk).2 (by decide)⟩)⟩, hb⟩)
  clear h hm
  unfold QV.agg
  unfold QV.cells at *
  obtain ⟨⟨m1, m2, m3, m4, ml, m6, m7, m8, m9⟩, pa, pc⟩ := q
  dsimp only at *
  generalize ml.length = n at *
  by_cases h1 : m1.size ≤ 200
  · by_cases h2 : m2.size ≤ 200
    · by_cases h3 : m6.size ≤ 100
      · by_cases h4 : m9.size ≤ 200
        · go_enter Tryz.func11, Tryz.ntmps11
          go_wp2_with fail
          refine HP.out.mono ?_
          rintro x w1 ⟨⟨b, rfl, hb⟩, rfl⟩
          have HBB := Lib.hid hb
          clear hb
          go_wp2_with fail
          go_ret
          exact HS.out _ _ h1 h2 h3 h4 HBB.out HB0.out
        · go_enter Tryz.func11, Tryz.ntmps11
          go_wp2_with fail
          go_ret
          exact HF.out _ HB0.out
      · go_enter Tryz.func11, Tryz.ntmps11
        go_wp2_with fail
        go_ret
        exact HF.out _ HB0.out
    · go_enter Tryz.func11, Tryz.ntmps11
      go_wp2_with fail
      go_ret
      exact HF.out _ HB0.out
  · go_enter Tryz.func11, Tryz.ntmps11
    go_wp2_with fail
    go_ret
    exact HF.out _ HB0.out
end
end Go.Proofs.YtnolnhpmpjgnaaaGreatDoor
namespace Go.Proofs.YtnolnhpmpjgnaaaGreatDoor
set_option maxRecDepth 100000
open Go.RowKit Go.Extern.Stop Go.Stop Go.Extern
section
variable {w w' : World} {A A2 : Option Addr} {L M : List ByteArray}
theorem tsame22 (h : SRd w A L) (h2 : SRd w A2 L) (n c c2 : Nat) (hn : n = L.length) (hm : n ≤ 10000) : Calls Tryz.prog 15 #[.slice A n c, .slice A2 n c2] w fun x w' => x = .returned (.bool true) ∧ ∃ d, w' = w.drewN d := by
  by_cases hp : n = 0
  · subst hp
    clear h h2 hm hn
    go_enter Tryz.func15, Tryz.ntmps15
    go_wp2_with fail
    go_loop [5] (fun i => i = .int .i64 0) (fun _ => 0)
    case atStart => rfl
    case round =>
      subst hrel
      go_wp2_with fail
      go_ret
      exact ⟨rfl, 0, rfl⟩
  · obtain ⟨g, off, rfl, hc⟩ := h (by omega)
    obtain ⟨g2, off2, rfl, hc2⟩ := h2 (by omega)
    have HC := Lib.hid (fun k (hk : k < n) => hc k (by omega))
    have HC2 := Lib.hid (fun k (hk : k < n) => hc2 k (by omega))
    clear hc hc2 h h2 hn
    go_enter Tryz.func15, Tryz.ntmps15
    go_wp2_with fail
    go_loopw [5] (fun i wr => ∃ k d : Nat, k ≤ n ∧ i = .int .i64 k ∧ wr = w.drewN d) (fun i _ => n - (intOf i).toNat)
    case atStart => exact ⟨0, 0, by omega, rfl, rfl⟩
    case round =>
      obtain ⟨k, d, hk, rfl, hwr⟩ := hrel
      have HW := Lib.hid hwr
      by_cases hlt : k < n
      · have e1 := (World.cell?_of_block (w := w) (w' := wr) (a := ⟨g, off + k, none⟩) (by rw [hwr]; rfl)).trans (HC.out k hlt)
        have e2 := (World.cell?_of_block (w := w) (w' := wr) (a := ⟨g2, off2 + k, none⟩) (by rw [hwr]; rfl)).trans (HC2.out k hlt)
        generalize L.getD k e0 = x at e1 e2
        clear hwr
        go_wp2_with fail
        go_quiet (fail)
        go_wp2_with fail
        go_roundw
        case rel => exact ⟨k + 1, _, by omega, by go_num, drew_on HW.out _⟩
        case measure => simp [intOf]; omega
      · clear hwr
        go_wp2_with fail
        go_ret
        exact ⟨rfl, d, HW.out⟩
/-- Texts that begin others. -/
theorem begins22 (n c m c2 : Nat) (h : SRd w A (L.take n)) (h2 : SRd w A2 L) (hnl : n ≤ L.length) (hm : m = L.length) (hmx : m ≤ 10000) : Calls Tryz.prog 18 #[.slice A n c, .slice A2 m c2] w fun x w' => x = .returned (.bool true) ∧ ∃ d, w' = w.drewN d := by
  have hn : (L.take n).length = n := by rw [List.length_take]; omega
  have hnm : n ≤ m := by omega
  by_cases hp : n = 0
  · subst hp
    clear h h2 hm hn hnl
    go_enter Tryz.func18, Tryz.ntmps18
    go_wp2_with fail
    go_loop [5] (fun i => i = .int .i64 0) (fun _ => 0)
    case atStart => rfl
    case round =>
      subst hrel
      go_wp2_with fail
      go_ret
      exact ⟨rfl, 0, rfl⟩
  · obtain ⟨g, off, rfl, hc⟩ := h (by omega)
    obtain ⟨g2, off2, rfl, hc2⟩ := h2 (by omega)
    have HC := Lib.hid (fun k (hk : k < n) => show w.cell? ⟨g, off + k, none⟩ = some (.string (L.getD k e0)) from by
      have := hc k (by omega)
      rw [List.getD_eq_getElem?_getD, List.getElem?_take, if_pos hk, ← List.getD_eq_getElem?_getD] at this
      exact this)
    have HC2 := Lib.hid (fun k (hk : k < n) => hc2 k (by omega))
    clear hc hc2 h h2 hn hm hnl
    go_enter Tryz.func18, Tryz.ntmps18
    go_wp2_with fail
    go_loopw [5] (fun i wr => ∃ k d : Nat, k ≤ n ∧ i = .int .i64 k ∧ wr = w.drewN d) (fun i _ => n - (intOf i).toNat)
    case atStart => exact ⟨0, 0, by omega, rfl, rfl⟩
    case round =>
      obtain ⟨k, d, hk, rfl, hwr⟩ := hrel
      have HW := Lib.hid hwr
      by_cases hlt : k < n
      · have e1 := (World.cell?_of_block (w := w) (w' := wr) (a := ⟨g, off + k, none⟩) (by rw [hwr]; rfl)).trans (HC.out k hlt)
        have e2 := (World.cell?_of_block (w := w) (w' := wr) (a := ⟨g2, off2 + k, none⟩) (by rw [hwr]; rfl)).trans (HC2.out k hlt)
        generalize L.getD k e0 = x at e1 e2
        have hkm : k < m := by omega
        clear hwr
        go_wp2_with fail
        go_quiet (fail)
        go_wp2_with fail
        go_roundw
        case rel => exact ⟨k + 1, _, by omega, by go_num, drew_on HW.out _⟩
        case measure => simp [intOf]; omega
      · clear hwr
        go_wp2_with fail
        go_ret
        exact ⟨rfl, d, HW.out⟩
/-- Few texts, of few bytes. -/
def few22 (L : List ByteArray) : Bool := decide (L.length ≤ 20) && L.all fun b => decide (b.size ≤ 200)
theorem few22_ok {L : List ByteArray} (h : few22 L = true) : L.length ≤ 20 ∧ ∀ b ∈ L, b.size ≤ 200 := by
  unfold few22 at h
  simp only [Bool.and_eq_true, decide_eq_true_eq, List.all_eq_true] at h
  exact h
theorem few22_no {L : List ByteArray} (h : ¬ (L.length ≤ 20 ∧ ∀ k, k < L.length → (L.getD k e0).size ≤ 200)) : few22 L = false := by
  rcases hh : few22 L with _ | _
  · rfl
  · exfalso
    obtain ⟨h1, h2⟩ := few22_ok hh
    refine h ⟨h1, fun k hk => ?_⟩
    rw [List.getD_eq_getElem?_getD, List.getElem?_eq_getElem hk]
    exact h2 _ (List.getElem_mem hk)
theorem few22_yes {L : List ByteArray} (h1 : L.length ≤ 20) (h2 : ∀ k, k < L.length → (L.getD k e0).size ≤ 200) : few22 L = true := by
  unfold few22
  simp only [Bool.and_eq_true, decide_eq_true_eq, List.all_eq_true]
  refine ⟨h1, fun b hb => ?_⟩
  obtain ⟨k, hk, rfl⟩ := List.mem_iff_getElem.1 hb
  have := h2 k hk
  rw [List.getD_eq_getElem?_getD, List.getElem?_eq_getElem hk] at this
  exact this
end
end Go.Proofs.YtnolnhpmpjgnaaaGreatDoor

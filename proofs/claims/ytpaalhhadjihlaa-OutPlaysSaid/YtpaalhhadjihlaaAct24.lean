/- What is proved here: acts on messages under way as an argument, and whether they are few. Conditions: the acts are some that came in. -/
import Derived.Test.YtpaalhhadjihlaaMsgF
import Derived.Test.YtpaalhhadjihlaaOpn24
import Derived.Test.YtpaalhhadjihlaaAga24
namespace Go.Proofs.Ytpaalhhadjihlaa
open Go.RowKit Go.Extern.Stop Go.Stop Go.Extern
set_option maxRecDepth 100000
/-- An act. -/
structure AV where
  kind : Int
  q : QV
  qos : Int
  of : Int
  id : Int
  rs : Int
def a0 : AV := ⟨0, q0, 0, 0, 0, 0⟩
def AV.cells (a : AV) : List Value := [.int .i64 a.kind, .string a.q.m.topic, .string a.q.m.payload, .int .i64 a.q.m.qos, .bool a.q.m.retain, .slice a.q.pa a.q.m.props.length a.q.pc, .string a.q.m.frm, .int .i64 a.q.m.til, .int .i64 a.q.m.seq, .string a.q.m.grp, .int .i64 a.qos, .int .i64 a.of, .int .i64 a.id, .int .i64 a.rs]
abbrev AL := List AV
/-- The cells of an act. -/
structure ACells (w : World) (g o : Nat) (a : AV) : Prop where
  c0 : w.cell? ⟨g, o, none⟩ = some (.int .i64 a.kind)
  c1 : w.cell? ⟨g, o + 1, none⟩ = some (.string a.q.m.topic)
  c2 : w.cell? ⟨g, o + 2, none⟩ = some (.string a.q.m.payload)
  c3 : w.cell? ⟨g, o + 3, none⟩ = some (.int .i64 a.q.m.qos)
  c4 : w.cell? ⟨g, o + 4, none⟩ = some (.bool a.q.m.retain)
  c5 : w.cell? ⟨g, o + 5, none⟩ = some (.slice a.q.pa a.q.m.props.length a.q.pc)
  c6 : w.cell? ⟨g, o + 6, none⟩ = some (.string a.q.m.frm)
  c7 : w.cell? ⟨g, o + 7, none⟩ = some (.int .i64 a.q.m.til)
  c8 : w.cell? ⟨g, o + 8, none⟩ = some (.int .i64 a.q.m.seq)
  c9 : w.cell? ⟨g, o + 9, none⟩ = some (.string a.q.m.grp)
  c10 : w.cell? ⟨g, o + 10, none⟩ = some (.int .i64 a.qos)
  c11 : w.cell? ⟨g, o + 11, none⟩ = some (.int .i64 a.of)
  c12 : w.cell? ⟨g, o + 12, none⟩ = some (.int .i64 a.id)
  c13 : w.cell? ⟨g, o + 13, none⟩ = some (.int .i64 a.rs)
theorem ACells.at {w w' : World} {g o : Nat} {a : AV} (h : ACells w g o a) (hb : w'.heap[g]? = w.heap[g]?) : ACells w' g o a :=
  ⟨(World.cell?_of_block (w := w) hb).trans h.c0, (World.cell?_of_block (w := w) hb).trans h.c1, (World.cell?_of_block (w := w) hb).trans h.c2, (World.cell?_of_block (w := w) hb).trans h.c3, (World.cell?_of_block (w := w) hb).trans h.c4, (World.cell?_of_block (w := w) hb).trans h.c5, (World.cell?_of_block (w := w) hb).trans h.c6, (World.cell?_of_block (w := w) hb).trans h.c7, (World.cell?_of_block (w := w) hb).trans h.c8, (World.cell?_of_block (w := w) hb).trans h.c9, (World.cell?_of_block (w := w) hb).trans h.c10, (World.cell?_of_block (w := w) hb).trans h.c11, (World.cell?_of_block (w := w) hb).trans h.c12, (World.cell?_of_block (w := w) hb).trans h.c13⟩
theorem ACells.of {w : World} {g o : Nat} {a : AV} (h : ∀ i, i < 14 → w.cell? ⟨g, o + i, none⟩ = a.cells[i]?) : ACells w g o a :=
  ⟨h 0 (by omega), h 1 (by omega), h 2 (by omega), h 3 (by omega), h 4 (by omega), h 5 (by omega), h 6 (by omega), h 7 (by omega), h 8 (by omega), h 9 (by omega), h 10 (by omega), h 11 (by omega), h 12 (by omega), h 13 (by omega)⟩
/-- These acts stand at an address, if there are any. -/
def ARd (w : World) (A : Option Addr) (L : AL) : Prop := 0 < L.length → ∃ g off, A = some ⟨g, off, none⟩ ∧ ∀ k, k < L.length → ACells w g (off + k * 14) (L.getD k a0)
/-- A slice of acts that came in. -/
def ActsN (w : World) (A : Option Addr) (n : Nat) (L : AL) : Prop := n = L.length ∧ ARd w A L ∧ ∀ k, k < L.length → MsgOf w (L.getD k a0).q ∧ (Lit.int .i64 (L.getD k a0).id).wf = true
section
open Go.ChangeShapes Go.WideShapes Go.RowKit Go.Deep
variable {H : Type} {enc : TypeId × Value → H} {w : World}
theorem czAct : Try.prog.cellsOf 38 = 14 := by kernel_rfl
theorem list14 (cs : List Value) (h : cs.length = 14) : ∃ k u0 u1 u2 u3 u4 u5 u6 u7 u8 n0 n1 n2 n3, cs = [k, u0, u1, u2, u3, u4, u5, u6, u7, u8, n0, n1, n2, n3] := by
  rcases cs with _ | ⟨k, cs⟩
  · simp at h
  have h1 : (cs.take 9).length = 9 := by simp at h ⊢; omega
  have h2 : (cs.drop 9).length = 4 := by simp at h ⊢; omega
  obtain ⟨u0, u1, u2, u3, u4, u5, u6, u7, u8, e1⟩ := list9 _ h1
  obtain ⟨n0, n1, n2, n3, e2⟩ := list4 _ h2
  have e := List.take_append_drop 9 cs
  rw [e1, e2] at e
  exact ⟨k, u0, u1, u2, u3, u4, u5, u6, u7, u8, n0, n1, n2, n3, by rw [← e]; rfl⟩
theorem trod_act {b1 n : Nat} {sp : Nat → Bool} {held : Bool} {cs : List Value} {y : DataW H × List MemPlace} (hl : cs.length = 14) (h : DataW.trod enc Try.prog w b1 sp held n 38 cs = some y) : ∃ a : AV, cs = a.cells ∧ MsgOf w a.q ∧ (Lit.int .i64 a.id).wf = true := by
  obtain ⟨k, u0, u1, u2, u3, u4, u5, u6, u7, u8, n0, n1, n2, n3, rfl⟩ := list14 cs hl
  obtain ⟨xs, m3, _, _, _, hxl, hgl⟩ := DataW.trod_struct Try.underlying38 h
  have hx : ∀ j, j < 6 → ∃ z, xs[j]? = some z := fun j hj => ⟨_, List.getElem?_eq_getElem (by rw [hxl]; exact hj)⟩
  obtain ⟨t0, x0⟩ := hx 0 (by omega)
  have g0 := (hgl 0 _ rfl).trans x0
  obtain ⟨t1, x1⟩ := hx 1 (by omega)
  have g1 := (hgl 1 _ rfl).trans x1
  obtain ⟨t2, x2⟩ := hx 2 (by omega)
  have g2 := (hgl 2 _ rfl).trans x2
  obtain ⟨t3, x3⟩ := hx 3 (by omega)
  have g3 := (hgl 3 _ rfl).trans x3
  obtain ⟨t4, x4⟩ := hx 4 (by omega)
  have g4 := (hgl 4 _ rfl).trans x4
  obtain ⟨t5, x5⟩ := hx 5 (by omega)
  have g5 := (hgl 5 _ rfl).trans x5
  obtain ⟨v0, e0, _⟩ := DataW.trod_int Try.underlying3 (cs := [k]) g0
  obtain ⟨v2, e2, _⟩ := DataW.trod_int Try.underlying3 (cs := [n0]) g2
  obtain ⟨v3, e3, _⟩ := DataW.trod_int Try.underlying3 (cs := [n1]) g3
  obtain ⟨v4, e4, _, wf4⟩ := DataW.trod_int Try.underlying3 (cs := [n2]) g4
  obtain ⟨v5, e5, _⟩ := DataW.trod_int Try.underlying3 (cs := [n3]) g5
  obtain ⟨q, hq, hmo⟩ := trod_msg (cs := [u0, u1, u2, u3, u4, u5, u6, u7, u8]) rfl g1
  obtain rfl := (List.cons.inj e0).1
  obtain rfl := (List.cons.inj e2).1
  obtain rfl := (List.cons.inj e3).1
  obtain rfl := (List.cons.inj e4).1
  obtain rfl := (List.cons.inj e5).1
  refine ⟨⟨v0, q, v2, v3, v4, v5⟩, ?_, hmo, wf4⟩
  show _ :: ([u0, u1, u2, u3, u4, u5, u6, u7, u8] ++ [_, _, _, _]) = _
  rw [hq]
  rfl
theorem acts_open24 {r : Reach} {b0 b1 : Nat} {sp : Nat → Bool} {held : Bool} {v : Value} {d : DataW H} {ps : List MemPlace} (hval : Value.okWide Try.prog w r b0 22 v) (hd : DataW.Trod enc Try.prog w b1 sp held 22 v d ps) :
    ∃ a len cap xs, v = .slice a len cap ∧ len ≤ maxLen ∧ ActsN w a len xs := by
  obtain ⟨a9, len, cap, rfl⟩ := okWide_slice Try.underlying22 hval
  obtain ⟨fuel, hf⟩ := hd
  rcases open_slice Try.underlying22 hf with ⟨hcs, hx⟩ | ⟨a, len', cap', m, n, D, Pl, hcs, hb, hl, hm, hmm, hx, hi⟩
  · simp [Value.cells] at hcs
    obtain ⟨rfl, rfl, rfl⟩ := hcs
    exact ⟨none, 0, 0, [], rfl, Nat.zero_le _, rfl, fun h => absurd h (by simp), fun k hk => absurd hk (by simp)⟩
  · simp [Value.cells] at hcs
    obtain ⟨rfl, rfl, rfl⟩ := hcs
    have hlm : len ≤ m := by rw [hmm]; split <;> omega
    have hex : ∀ i, ∃ x : AV, i < len → (∀ j, j < 14 → w.cell? (a.add (i * 14 + j)) = x.cells[j]?) ∧ MsgOf w x.q ∧ (Lit.int .i64 x.id).wf = true := by
      intro i
      by_cases hil : i < len
      · obtain ⟨cs', hc, ht'⟩ := hi i (by omega)
        rw [czAct] at hc
        obtain ⟨_, hcl, hat⟩ := World.cells?_some hc
        obtain ⟨x, rfl, h1⟩ := trod_act hcl ht'
        exact ⟨x, fun _ => ⟨fun j hj => by rw [← Go.Deep.add_add]; exact hat j hj, h1⟩⟩
      · exact ⟨a0, fun h => absurd h hil⟩
    obtain ⟨xs, hxs⟩ := Classical.axiomOfChoice hex
    have hlen : ((List.range len).map xs).length = len := by rw [List.length_map, List.length_range]
    have hget : ∀ k, k < len → ((List.range len).map xs).getD k a0 = xs k := fun k hk => by
      rw [List.getD_eq_getElem?_getD, List.getElem?_map, List.getElem?_range hk]
      rfl
    refine ⟨some a, len, cap, (List.range len).map xs, rfl, Nat.le_trans hl hm, hlen.symm, fun hp => ?_, fun k hk => ?_⟩
    · rw [hlen] at hp
      have hc0 := (hxs 0 hp).1 0 (by omega)
      obtain ⟨b, off, spot⟩ := a
      have hspot : spot = none := by simpa [Addr.add] using World.cell?_spot (show w.cell? _ = some _ from hc0)
      subst hspot
      refine ⟨b, off, rfl, fun k hk => ?_⟩
      rw [hlen] at hk
      rw [hget k hk]
      exact ACells.of fun j hj => by
        have := (hxs k hk).1 j hj
        rw [add_plain, ← Nat.add_assoc] at this
        exact this
    · rw [hlen] at hk
      rw [hget k hk]
      exact (hxs k hk).2
end
/-- Few acts of few properties. -/
def Few24 (L : AL) : Prop := L.length ≤ 40 ∧ ∀ k, k < L.length → (L.getD k a0).q.m.props.length ≤ 70
def FewSays (w : World) (L : AL) (x : Ending) (w' : World) : Prop := ∃ b : Bool, x = .returned (.bool b) ∧ (b = true → Few24 L) ∧ Below w.heap.size w w'
set_option maxHeartbeats 4000000 in
theorem few24_any {w : World} {A : Option Addr} {n c : Nat} {L : AL} (ha : ActsN w A n L) (hnz : n ≤ maxLen) : Calls Try.prog 4 #[.slice A n c] w (FewSays w L) := by
  unfold maxLen at hnz
  obtain ⟨hn, hrd, hms⟩ := ha
  have HN := Lib.hid hn
  have HRD := Lib.hid (fun (hp : 0 < n) => hrd (by omega))
  have HMS := Lib.hid hms
  have HF := Lib.hid (fun (W : World) (hb : Below w.heap.size w W) => show FewSays w L (.returned (.bool false)) W from ⟨false, rfl, (fun h => by cases h), hb⟩)
  have HT := Lib.hid (fun (b : Bool) (W : World) (h : b = true → Few24 L) (hb : Below w.heap.size w W) => show FewSays w L (.returned (.bool b)) W from ⟨b, rfl, h, hb⟩)
  clear hn hrd hms
  go_enter Try.func4, Try.ntmps4
  go_wp2_with fail
  go_loopw [3] (fun i wr => ∃ k : Nat, k ≤ n ∧ k ≤ 40 ∧ i = .int .i64 k ∧ Hid (∀ j, j < k → (L.getD j a0).q.m.props.length ≤ 70) ∧ Below w.heap.size w wr) (fun i _ => n - (intOf i).toNat)
  case atStart => exact ⟨0, by omega, by omega, rfl, Lib.hid (fun j hj => by omega), Below.refl _ _⟩
  case round =>
    obtain ⟨k, hk, hk40, rfl, HP, hbe⟩ := hrel
    have HBE := Lib.hid hbe
    by_cases hlt : k < n
    · by_cases hlt2 : k < 40
      · have hkL : k < L.length := by have := HN.out; omega
        obtain ⟨g1, off, rfl, hcc⟩ := HRD.out (by omega)
        have HCC := Lib.hid (fun W (hb : Below w.heap.size w W) => (hcc k hkL).at (hb.block g1 (lt_of_cell' (hcc k hkL).c0)))
        have hmk := (HMS.out k hkL).1
        obtain ⟨a, ha⟩ : ∃ a, a = L.getD k a0 := ⟨_, rfl⟩
        rw [← ha] at HCC hmk
        have HA := Lib.hid ha
        have HSM := Lib.hid (small_any a.q (hmk.1.below hbe) hmk.2.1)
        obtain ⟨d0, d1, d2, d3, d4, d5, d6, d7, d8, d9, d10, _, _, _⟩ := HCC.out _ hbe
        clear hcc hkL hmk ha hbe
        unfold QV.agg at HSM
        go_wp2_with fail
        refine HSM.out.mono ?_
        rintro x w2 ⟨b, rfl, hb, hb2⟩
        have HB2 := Lib.hid (HBE.out.trans (hb2.mono HBE.out.size))
        clear d0 d1 d2 d3 d4 d5 d6 d7 d8 d9 d10 hb2 HSM
        cases b with
        | false =>
          clear hb
          go_wp2_with fail
          go_ret
          exact HF.out _ HB2.out
        | true =>
          have HM := Lib.hid (hb rfl)
          clear hb
          go_wp2_with fail
          go_roundw
          case rel => exact ⟨k + 1, by omega, by omega, by go_num, Lib.hid (fun j hj => by
            rcases Nat.lt_succ_iff_lt_or_eq.1 hj with h | rfl
            · exact HP.out j h
            · rw [← HA.out]; exact HM.out), HB2.out⟩
          case measure => simp [intOf]; omega
      · obtain rfl : k = 40 := by omega
        clear hbe
        go_wp2_with fail
        go_ret
        exact HT.out _ _ (fun h => by have := of_decide_eq_true h; omega) HBE.out
    · clear hbe
      have HK := Lib.hid (show Few24 L from ⟨by have := HN.out; omega, fun j hj => HP.out j (by have := HN.out; omega)⟩)
      have hn40 : n ≤ 40 := by omega
      go_wp2_with fail
      go_ret
      exact HT.out _ _ (fun _ => HK.out) HBE.out
end Go.Proofs.Ytpaalhhadjihlaa

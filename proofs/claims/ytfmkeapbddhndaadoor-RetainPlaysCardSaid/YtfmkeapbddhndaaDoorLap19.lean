/- What is proved here: a store's acts as an argument, and whether they are few. Conditions: the acts are some that came in. What is proved here: RetainPlays answers true for every room and every list of acts. Conditions: the acts are some that came in; the two errors that a check names. -/
import Derived.Test.YtfmkeapbddhndaaDoorMsgF
import Derived.Test.YtfmkeapbddhndaaDoorOpn24
import Derived.Test.YtfmkeapbddhndaaDoorSml19
import Derived.Test.YtfmkeapbddhndaaDoorRpm19
namespace Go.Proofs.YtfmkeapbddhndaaDoor
open Go.RowKit Go.Extern.Stop Go.Stop Go.Extern
set_option maxRecDepth 100000
/-- An act. -/
structure AV where
  kind : Int
  q : QV
  text : ByteArray
  n : Int
def a0 : AV := ⟨0, q0, ⟨#[]⟩, 0⟩
def AV.cells (a : AV) : List Value := [.int .i64 a.kind, .string a.q.m.topic, .string a.q.m.payload, .int .i64 a.q.m.qos, .bool a.q.m.retain, .slice a.q.pa a.q.m.props.length a.q.pc, .string a.q.m.frm, .int .i64 a.q.m.til, .int .i64 a.q.m.seq, .string a.q.m.grp, .string a.text, .int .i64 a.n]
abbrev AL := List AV
/-- The cells of an act. -/
structure ACells (w : World) (g o : Nat) (a : AV) : Prop where
  c0 : w.cell? ⟨g, o, none⟩ = some (.int .i64 a.kind)
  c1 : w.cell? ⟨g, o + 1, none⟩ = some (.string a.q.m.topic)
  c2 : w.cell? ⟨g, o + 2, none⟩ = some (.string a.q.m.payload)
  c3 : w.cell? ⟨g, o + 3, none⟩ = some (.int .i64 a.q.m.qos)
  c4 : w.cell? ⟨g, o + 4, none⟩ = some (.bool a.q.m.retain)
  c5 : w.cell? ⟨g, o + 5, none⟩ = some (.slice a.q.pa a.q.m.props.length a.q.pc)
  c6 : w.cell? ⟨g, o + 6, none⟩ = some (.string a.q.m.frm)
  c7 : w.cell? ⟨g, o + 7, none⟩ = some (.int .i64 a.q.m.til)
  c8 : w.cell? ⟨g, o + 8, none⟩ = some (.int .i64 a.q.m.seq)
  c9 : w.cell? ⟨g, o + 9, none⟩ = some (.string a.q.m.grp)
  c10 : w.cell? ⟨g, o + 10, none⟩ = some (.string a.text)
  c11 : w.cell? ⟨g, o + 11, none⟩ = some (.int .i64 a.n)
theorem ACells.at {w w' : World} {g o : Nat} {a : AV} (h : ACells w g o a) (hb : w'.heap[g]? = w.heap[g]?) : ACells w' g o a :=
  ⟨(World.cell?_of_block (w := w) hb).trans h.c0, (World.cell?_of_block (w := w) hb).trans h.c1, (World.cell?_of_block (w := w) hb).trans h.c2, (World.cell?_of_block (w := w) hb).trans h.c3, (World.cell?_of_block (w := w) hb).trans h.c4, (World.cell?_of_block (w := w) hb).trans h.c5, (World.cell?_of_block (w := w) hb).trans h.c6, (World.cell?_of_block (w := w) hb).trans h.c7, (World.cell?_of_block (w := w) hb).trans h.c8, (World.cell?_of_block (w := w) hb).trans h.c9, (World.cell?_of_block (w := w) hb).trans h.c10, (World.cell?_of_block (w := w) hb).trans h.c11⟩
theorem ACells.of {w : World} {g o : Nat} {a : AV} (h : ∀ i, i < 12 → w.cell? ⟨g, o + i, none⟩ = a.cells[i]?) : ACells w g o a :=
  ⟨h 0 (by omega), h 1 (by omega), h 2 (by omega), h 3 (by omega), h 4 (by omega), h 5 (by omega), h 6 (by omega), h 7 (by omega), h 8 (by omega), h 9 (by omega), h 10 (by omega), h 11 (by omega)⟩
/-- These acts stand at an address, if there are any. -/
def ARd (w : World) (A : Option Addr) (L : AL) : Prop := 0 < L.length → ∃ g off, A = some ⟨g, off, none⟩ ∧ ∀ k, k < L.length → ACells w g (off + k * 12) (L.getD k a0)
/-- A slice of acts that came in. -/
def ActsN (w : World) (A : Option Addr) (n : Nat) (L : AL) : Prop := n = L.length ∧ ARd w A L ∧ ∀ k, k < L.length → MsgOf w (L.getD k a0).q
section
open Go.ChangeShapes Go.WideShapes Go.RowKit Go.Deep
variable {H : Type} {enc : TypeId × Value → H} {w : World}
theorem czAct19 : Tryd.prog.cellsOf 59 = 12 := by kernel_rfl
theorem list2x (cs : List Value) (h : cs.length = 2) : ∃ n0 n1, cs = [n0, n1] := by
  rcases cs with _ | ⟨a, _ | ⟨b, _ | ⟨c, cs⟩⟩⟩
  · simp at h
  · simp at h
  · exact ⟨a, b, rfl⟩
  · simp at h
theorem list12 (cs : List Value) (h : cs.length = 12) : ∃ k u0 u1 u2 u3 u4 u5 u6 u7 u8 n0 n1, cs = [k, u0, u1, u2, u3, u4, u5, u6, u7, u8, n0, n1] := by
  rcases cs with _ | ⟨k, cs⟩
  · simp at h
  have h1 : (cs.take 9).length = 9 := by simp at h ⊢; omega
  have h2 : (cs.drop 9).length = 2 := by simp at h ⊢; omega
  obtain ⟨u0, u1, u2, u3, u4, u5, u6, u7, u8, e1⟩ := list9 _ h1
  obtain ⟨n0, n1, e2⟩ := list2x _ h2
  have e := List.take_append_drop 9 cs
  rw [e1, e2] at e
  exact ⟨k, u0, u1, u2, u3, u4, u5, u6, u7, u8, n0, n1, by rw [← e]; rfl⟩
theorem trod_act {b1 n : Nat} {sp : Nat → Bool} {held : Bool} {cs : List Value} {y : DataW H × List MemPlace} (hl : cs.length = 12) (h : DataW.trod enc Tryd.prog w b1 sp held n 59 cs = some y) : ∃ a : AV, cs = a.cells ∧ MsgOf w a.q := by
  obtain ⟨k, u0, u1, u2, u3, u4, u5, u6, u7, u8, n0, n1, rfl⟩ := list12 cs hl
  obtain ⟨xs, m3, _, _, _, hxl, hgl⟩ := DataW.trod_struct Tryd.underlying59 h
  have hx : ∀ j, j < 4 → ∃ z, xs[j]? = some z := fun j hj => ⟨_, List.getElem?_eq_getElem (by rw [hxl]; exact hj)⟩
  obtain ⟨t0, x0⟩ := hx 0 (by omega)
  have g0 := (hgl 0 _ rfl).trans x0
  obtain ⟨t1, x1⟩ := hx 1 (by omega)
  have g1 := (hgl 1 _ rfl).trans x1
  obtain ⟨t2, x2⟩ := hx 2 (by omega)
  have g2 := (hgl 2 _ rfl).trans x2
  obtain ⟨t3, x3⟩ := hx 3 (by omega)
  have g3 := (hgl 3 _ rfl).trans x3
  obtain ⟨v0, e0, _⟩ := DataW.trod_int Tryd.underlying3 (cs := [k]) g0
  obtain ⟨v2, e2, _⟩ := DataW.trod_string Tryd.underlying9 (cs := [n0]) g2
  obtain ⟨v3, e3, _⟩ := DataW.trod_int Tryd.underlying3 (cs := [n1]) g3
  obtain ⟨q, hq, hmo⟩ := trod_msg (cs := [u0, u1, u2, u3, u4, u5, u6, u7, u8]) rfl g1
  obtain rfl := (List.cons.inj e0).1
  obtain rfl := (List.cons.inj e2).1
  obtain rfl := (List.cons.inj e3).1
  refine ⟨⟨v0, q, v2, v3⟩, ?_, hmo⟩
  show _ :: ([u0, u1, u2, u3, u4, u5, u6, u7, u8] ++ [_, _]) = _
  rw [hq]
  rfl
theorem acts_open19 {r : Reach} {b0 b1 : Nat} {sp : Nat → Bool} {held : Bool} {v : Value} {d : DataW H} {ps : List MemPlace} (hval : Value.okWide Tryd.prog w r b0 47 v) (hd : DataW.Trod enc Tryd.prog w b1 sp held 47 v d ps) :
    ∃ a len cap xs, v = .slice a len cap ∧ len ≤ maxLen ∧ ActsN w a len xs := by
  obtain ⟨a9, len, cap, rfl⟩ := okWide_slice Tryd.underlying47 hval
  obtain ⟨fuel, hf⟩ := hd
  rcases open_slice Tryd.underlying47 hf with ⟨hcs, hx⟩ | ⟨a, len', cap', m, n, D, Pl, hcs, hb, hl, hm, hmm, hx, hi⟩
  · simp [Value.cells] at hcs
    obtain ⟨rfl, rfl, rfl⟩ := hcs
    exact ⟨none, 0, 0, [], rfl, Nat.zero_le _, rfl, fun h => absurd h (by simp), fun k hk => absurd hk (by simp)⟩
  · simp [Value.cells] at hcs
    obtain ⟨rfl, rfl, rfl⟩ := hcs
    have hlm : len ≤ m := by rw [hmm]; split <;> omega
    have hex : ∀ i, ∃ x : AV, i < len → (∀ j, j < 12 → w.cell? (a.add (i * 12 + j)) = x.cells[j]?) ∧ MsgOf w x.q := by
      intro i
      by_cases hil : i < len
      · obtain ⟨cs', hc, ht'⟩ := hi i (by omega)
        rw [czAct19] at hc
        obtain ⟨_, hcl, hat⟩ := World.cells?_some hc
        obtain ⟨x, rfl, h1⟩ := trod_act hcl ht'
        exact ⟨x, fun _ => ⟨fun j hj => by rw [← Go.Deep.add_add]; exact hat j hj, h1⟩⟩
      · exact ⟨a0, fun h => absurd h hil⟩
    obtain ⟨xs, hxs⟩ := Classical.axiomOfChoice hex
    have hlen : ((List.range len).map xs).length = len := by rw [List.length_map, List.length_range]
    have hget : ∀ k, k < len → ((List.range len).map xs).getD k a0 = xs k := fun k hk => by
      rw [List.getD_eq_getElem?_getD, List.getElem?_map, List.getElem?_range hk]
      rfl
    refine ⟨some a, len, cap, (List.range len).map xs, rfl, Nat.le_trans hl hm, hlen.symm, fun hp => ?_, fun k hk => ?_⟩
    · rw [hlen] at hp
      have hc0 := (hxs 0 hp).1 0 (by omega)
      obtain ⟨b, off, spot⟩ := a
      have hspot : spot = none := by simpa [Addr.add] using World.cell?_spot (show w.cell? _ = some _ from hc0)
      subst hspot
      refine ⟨b, off, rfl, fun k hk => ?_⟩
      rw [hlen] at hk
      rw [hget k hk]
      exact ACells.of fun j hj => by
        have := (hxs k hk).1 j hj
        rw [add_plain, ← Nat.add_assoc] at this
        exact this
    · rw [hlen] at hk
      rw [hget k hk]
      exact (hxs k hk).2
end
/-- Few acts of few properties. -/
def Few19 (L : AL) : Prop := L.length ≤ 30 ∧ ∀ k, k < L.length → (L.getD k a0).q.m.props.length ≤ 70 ∧ (L.getD k a0).q.m.topic.size ≤ 200 ∧ (L.getD k a0).text.size ≤ 200
def FewSays19 (w : World) (L : AL) (x : Ending) (w' : World) : Prop := ∃ b : Bool, x = .returned (.bool b) ∧ (b = true → Few19 L) ∧ Below w.heap.size w w'
set_option maxHeartbeats 4000000 in
theorem few19_any {w : World} {A : Option Addr} {n c : Nat} {L : AL} (ha : ActsN w A n L) (hnz : n ≤ maxLen) : Calls Tryd.prog 23 #[.slice A n c] w (FewSays19 w L) := by
  unfold maxLen at hnz
  obtain ⟨hn, hrd, hms⟩ := ha
  have HN := Lib.hid hn
  have HRD := Lib.hid (fun (hp : 0 < n) => hrd (by omega))
  have HMS := Lib.hid hms
  have HF := Lib.hid (fun (W : World) (hb : Below w.heap.size w W) => show FewSays19 w L (.returned (.bool false)) W from ⟨false, rfl, (fun h => by cases h), hb⟩)
  have HT := Lib.hid (fun (b : Bool) (W : World) (h : b = true → Few19 L) (hb : Below w.heap.size w W) => show FewSays19 w L (.returned (.bool b)) W from ⟨b, rfl, h, hb⟩)
  clear hn hrd hms
  go_enter Tryd.func23, Tryd.ntmps23
  go_wp2_with fail
  go_loopw [3] (fun i wr => ∃ k : Nat, k ≤ n ∧ k ≤ 30 ∧ i = .int .i64 k ∧ Hid (∀ j, j < k → (L.getD j a0).q.m.props.length ≤ 70 ∧ (L.getD j a0).q.m.topic.size ≤ 200 ∧ (L.getD j a0).text.size ≤ 200) ∧ Below w.heap.size w wr) (fun i _ => n - (intOf i).toNat)
  case atStart => exact ⟨0, by omega, by omega, rfl, Lib.hid (fun j hj => by omega), Below.refl _ _⟩
  case round =>
    obtain ⟨k, hk, hk30, rfl, HP, hbe⟩ := hrel
    have HBE := Lib.hid hbe
    by_cases hlt : k < n
    · by_cases hlt2 : k < 30
      · have hkL : k < L.length := by have := HN.out; omega
        obtain ⟨g1, off, rfl, hcc⟩ := HRD.out (by omega)
        have HCC := Lib.hid (fun W (hb : Below w.heap.size w W) => (hcc k hkL).at (hb.block g1 (lt_of_cell' (hcc k hkL).c0)))
        have hmk := HMS.out k hkL
        obtain ⟨a, ha⟩ : ∃ a, a = L.getD k a0 := ⟨_, rfl⟩
        rw [← ha] at HCC hmk
        have HA := Lib.hid ha
        have HSM := Lib.hid (small19_any a.q (hmk.1.below hbe) hmk.2.1)
        obtain ⟨d0, d1, d2, d3, d4, d5, d6, d7, d8, d9, d10, _⟩ := HCC.out _ hbe
        clear hcc hkL hmk ha hbe
        unfold QV.agg at HSM
        go_wp2_with fail
        refine HSM.out.mono ?_
        rintro x w2 ⟨b, rfl, hb, hb2⟩
        have HB2 := Lib.hid (HBE.out.trans (hb2.mono HBE.out.size))
        clear d0 d1 d2 d3 d4 d5 d6 d7 d8 d9 d10 hb2 HSM
        cases b with
        | false =>
          clear hb
          go_wp2_with fail
          go_ret
          exact HF.out _ HB2.out
        | true =>
          have HM := Lib.hid (hb rfl)
          have e10 := (HCC.out _ HB2.out).c10
          clear hb
          by_cases hts : a.text.size ≤ 200
          · have HTS := Lib.hid hts
            have e3 : decide ((a.text.size : Int) > 200) = false := decide_eq_false (by omega)
            go_wp2_with fail
            go_roundw
            case rel => exact ⟨k + 1, by omega, by omega, by go_num, Lib.hid (fun j hj => by
              rcases Nat.lt_succ_iff_lt_or_eq.1 hj with h | rfl
              · exact HP.out j h
              · rw [← HA.out]; exact ⟨HM.out.1, HM.out.2, HTS.out⟩), HB2.out⟩
            case measure => simp [intOf]; omega
          · have e3 : decide ((a.text.size : Int) > 200) = true := decide_eq_true (by omega)
            go_wp2_with fail
            go_ret
            exact HF.out _ HB2.out
      · obtain rfl : k = 30 := by omega
        clear hbe
        go_wp2_with fail
        go_ret
        exact HT.out _ _ (fun h => by have := of_decide_eq_true h; omega) HBE.out
    · clear hbe
      have HK := Lib.hid (show Few19 L from ⟨by have := HN.out; omega, fun j hj => HP.out j (by have := HN.out; omega)⟩)
      have hn30 : n ≤ 30 := by omega
      go_wp2_with fail
      go_ret
      exact HT.out _ _ (fun _ => HK.out) HBE.out
end Go.Proofs.YtfmkeapbddhndaaDoor
namespace Go.Proofs.YtfmkeapbddhndaaDoor
open Go.RowKit Go.Extern.Stop Go.Stop Go.Extern Go.Maps Go.Deep
set_option maxRecDepth 100000
theorem ARd.pos {w : World} {A : Option Addr} {L : AL} (h : ARd w A L) (hp : 0 < L.length) : ∃ g off, A = some ⟨g, off, none⟩ ∧ ∀ k, k < L.length → ACells w g (off + k * 12) (L.getD k a0) := h hp
theorem tyAc : Ty Tryd.prog 59 a0.cells.toArray := ty_mk (n := 12) (by kernel_rfl) rfl Tryd.underlying59 rfl (by kernel_rfl) rfl
theorem aq_at (y : AV) : ∀ j u, y.q.cells[j]? = some u → y.cells.toArray[1 + j]? = some u := by
  intro j u h
  have hj : j < 9 := (List.getElem?_eq_some_iff.1 h).1
  rw [List.getElem?_toArray, Nat.add_comm]
  show ((y.q.cells ++ [.string y.text, .int .i64 y.n]))[j]? = some u
  rw [List.getElem?_append_left (by exact hj)]
  exact h
section
variable {ops : Array Oper} {rest : List Oper} {op : Oper} {a : Act} {w : World} {Q : Exit → Act → World → Prop}
theorem wpb_ldq {k of : Nat} {ty : TypeId} {c : Array Value} (hB : Blk w k ty c) (q : QV) (hq : ∀ j u, q.cells[j]? = some u → c[of + j]? = some u) (x : Operand) (hgd : op.guard = none) (ho : op.op = .load 57 x) (hx : a.eval x = .pointer (some ⟨k, of, none⟩))
    (H : wpList Tryd.prog ops Q rest (a.put op.dst q.agg) w) : wpList Tryd.prog ops Q (op :: rest) a w :=
  wpList_plain hgd fun _ hK => by
    obtain ⟨d, hu, hd⟩ := tyMs.un
    have hl := run_loadVar_mid (P := Tryd.prog) w k of 57 q.cells d (fun j v hv => by
      rw [hB.cell (of + j)]
      exact hq j v hv) hu hd tyMs.ip
    unfold Oper.wp execOp
    simp only [ho, hx, Instr.loadAt, Instr.sureAddr, Sem.run_bind, Sem.run_pure, Result.andThen_ok, hl]
    exact hK _ _ H
end
/-- What stands between two acts. -/
def RtX (w W : World) (g bm : Nat) (most : Int) (x : Nat) (K : OL) (k : Nat) : Prop := ∃ L v D, RtP w W g bm most L x v D K ∧ RtE L D ∧ L.length ≤ k
set_option maxRecDepth 1000000 in
set_option maxHeartbeats 16000000 in
theorem retainPlays_walk (S : Nat → Addr) (most : Int) (A : Option Addr) (n c : Nat) (xs : AL) (w : World) (he : EnvT w S) (_ : (Lit.int .i64 most).wf = true) (hn : n ≤ maxLen) (h : ActsN w A n xs) :
    Calls Tryd.prog 6 #[.int .i64 most, .slice A n c] w fun x w' => x = .returned (.bool true) ∧ Below w.heap.size w w' := by
  have HAW := Lib.hid (fun W (hb : Below w.heap.size w W) => (awake19 W (he.later hb)).mono fun x w' hx => show x = .returned (.bool true) ∧ Below w.heap.size w w' from ⟨hx.1, hb.trans (hx.2.mono hb.size)⟩)
  have HE := Lib.hid he
  have HX := Lib.hid h
  have HFW := Lib.hid (few19_any (c := c) h hn)
  have hnm : n ≤ 9223372036854775807 := by unfold maxLen at hn; omega
  clear h he hn
  go_enter Tryd.func6, Tryd.ntmps6
  go_wp2_with fail
  refine HFW.out.mono ?_
  rintro x w1 ⟨b, rfl, hb, hb1⟩
  have HB1 := Lib.hid hb1
  clear hb1 HFW
  cases b with
  | false =>
    have HA := Lib.hid (HAW.out _ HB1.out)
    clear hb
    go_wp2_with fail
    refine HA.out.mono ?_
    rintro x w2 ⟨rfl, hb2⟩
    have HB2 := Lib.hid hb2
    clear hb2
    go_wp2_with fail
    go_ret
    exact ⟨rfl, HB2.out⟩
  | true =>
    have HF := Lib.hid (hb rfl)
    have hn30 : n ≤ 30 := by have := HF.out.1; have := HX.out.1; omega
    have HNW := Lib.hid (snew_any most w1)
    clear hb
    go_wp2_with fail
    refine HNW.out.mono ?_
    rintro x w2 ⟨g, bm, rfl, hs, hg, hb, hbel⟩
    have HST := Lib.hid (RtP.start (w := w1) ⟨hs, hbel, hg, hb⟩)
    clear hs hg hb hbel HNW
    go_wp2_with fail
    generalize HWZ : w2.alloc (.cells #[.int .i64 most, .slice none 0 0] 54) = W0 at *
    clear HWZ
    generalize w2.heap.size = xb at *
    go_loopw [7] (fun i wr => ∃ k : Nat, k ≤ n ∧ i = .int .i64 k ∧ Hid (RtX w1 wr g bm most xb [] k)) (fun i _ => n - (intOf i).toNat)
    case atStart => exact ⟨0, Nat.zero_le _, rfl, Lib.hid ⟨[], _, [], HST.out, ⟨.nil, .nil⟩, Nat.le_refl _⟩⟩
    case round =>
      obtain ⟨k, hk, rfl, HP⟩ := hrel
      by_cases hlt : k < n
      · have HKL := Lib.hid (show k < xs.length by have := HX.out.1; omega)
        obtain ⟨ga, off, rfl, hac⟩ := HX.out.2.1.pos (by have := HKL.out; omega)
        obtain ⟨L0, v0, D0, hP0, hE0, hL0⟩ := HP.out
        have hbe : Below w.heap.size w wr := HB1.out.trans (hP0.aw.bel.mono HB1.out.size)
        have hcc := (hac k HKL.out).at (hbe.block ga (lt_of_cell' (hac k HKL.out).c0))
        have hms := HX.out.2.2 k HKL.out
        have hfp := HF.out.2 k HKL.out
        obtain ⟨y, hy⟩ : ∃ y, y = xs.getD k a0 := ⟨_, rfl⟩
        rw [← hy] at hcc hms hfp
        have HM := Lib.hid (show PIn w1 w1.heap.size y.q.pa y.q.m.props from (hms.1.below HB1.out).mono HB1.out.size)
        have HFP := Lib.hid hfp
        have HSO := Lib.hid (show y.cells.toArray.toList.all (·.oneCell') = true by simp [AV.cells, Value.oneCell'])
        have HO := Lib.hid (Own.start [] wr)
        have HP0 := Lib.hid hP0
        have HE0 := Lib.hid hE0
        obtain ⟨c0, c1, c2, c3, c4, c5, c6, c7, c8, c9, c10, c11⟩ := hcc
        clear hms hfp hac hy hbe hP0 hE0 HP
        go_upto_region 8 with (first
          | (refine wpo_alloc tyAc HO.out rfl rfl ?_; clear HO; rintro k8 W2 hO; have HO := Lib.hid hO; clear hO; simp only [Act.put, List.setIfInBounds_toArray, List.set_cons_zero, List.set_cons_succ])
          | (refine wpo_store (k := k8) (c := y.cells.toArray) HO.out 0 tyAc rfl _ _ rfl rfl rfl rfl rfl rfl HSO.out ?_; clear HO; rintro W3 hO; have HO := Lib.hid hO; clear hO; simp only [Act.put]))
        clear c0 c1 c2 c3 c4 c5 c6 c7 c8 c9 c10 c11
        have HP3 := Lib.hid ((HP0.out.below HO.out.bel).add (HO.out.get 0 rfl) (by decide))
        clear HO HP0
        have d0 : W3.cell? ⟨k8, 0, none⟩ = some (.int .i64 y.kind) := (HP3.out.ks _ (List.mem_cons_self ..)).1.cell 0
        have KN := Lib.hid (fun W L v D (hp : RtP w1 W g bm most L xb v D ((k8, 59, y.cells.toArray) :: [])) => show W.cell? ⟨k8, 1, none⟩ = some (.string y.q.m.topic) ∧ W.cell? ⟨k8, 2, none⟩ = some (.string y.q.m.payload) ∧ W.cell? ⟨k8, 3, none⟩ = some (.int .i64 y.q.m.qos) ∧ W.cell? ⟨k8, 4, none⟩ = some (.bool y.q.m.retain) ∧ W.cell? ⟨k8, 5, none⟩ = some (.slice y.q.pa y.q.m.props.length y.q.pc) ∧ W.cell? ⟨k8, 6, none⟩ = some (.string y.q.m.frm) ∧ W.cell? ⟨k8, 7, none⟩ = some (.int .i64 y.q.m.til) ∧ W.cell? ⟨k8, 8, none⟩ = some (.int .i64 y.q.m.seq) ∧ W.cell? ⟨k8, 9, none⟩ = some (.string y.q.m.grp) from by
          have hb := (hp.ks _ (List.mem_cons_self ..)).1
          exact ⟨hb.cell 1, hb.cell 2, hb.cell 3, hb.cell 4, hb.cell 5, hb.cell 6, hb.cell 7, hb.cell 8, hb.cell 9⟩)
        have KE := Lib.hid (fun W L v D (hp : RtP w1 W g bm most L xb v D ((k8, 59, y.cells.toArray) :: [])) => show W.cell? ⟨k8, 11, none⟩ = some (.int .i64 y.n) from (hp.ks _ (List.mem_cons_self ..)).1.cell 11)
        have D26 := Lib.hid (fun W (hp : RtP w1 W g bm most L0 xb v0 D0 ((k8, 59, y.cells.toArray) :: [])) => rt_put hp HE0.out (HE.out.later HB1.out) y.q HM.out HFP.out.1 HFP.out.2.1 (by omega))
        have D28 := Lib.hid (fun W (hp : RtP w1 W g bm most L0 xb v0 D0 ((k8, 59, y.cells.toArray) :: [])) => rt_exp hp HE0.out y.n)
        go_upto_block 2 with fail
        clear d0
        go_cut [34] from 35 to 55 (fun _ wx => Hid (RtX w1 wx g bm most xb ((k8, 59, y.cells.toArray) :: []) (k + 1)))
        case first =>
          have hp3 := HP3.out
          by_cases k1 : y.kind = 1
          · have b1 : ((y.kind : Int) == 1) = true := beq_iff_eq.2 k1
            clear D28 KE k1
            unfold QV.agg at D26
            go_upto_region 10 with fail
            obtain ⟨t0, t1, t2, t3, t4, t5, t6, t7, t8⟩ := KN.out _ _ _ _ hp3
            go_region_held3 (fun W => W.cell? ⟨k8, 1, none⟩ = some (.string y.q.m.topic) ∧ W.cell? ⟨k8, 2, none⟩ = some (.string y.q.m.payload) ∧ W.cell? ⟨k8, 3, none⟩ = some (.int .i64 y.q.m.qos) ∧ W.cell? ⟨k8, 4, none⟩ = some (.bool y.q.m.retain) ∧ W.cell? ⟨k8, 5, none⟩ = some (.slice y.q.pa y.q.m.props.length y.q.pc) ∧ W.cell? ⟨k8, 6, none⟩ = some (.string y.q.m.frm) ∧ W.cell? ⟨k8, 7, none⟩ = some (.int .i64 y.q.m.til) ∧ W.cell? ⟨k8, 8, none⟩ = some (.int .i64 y.q.m.seq) ∧ W.cell? ⟨k8, 9, none⟩ = some (.string y.q.m.grp))
              (first | with_reducible assumption | exact KN.out _ _ _ _ (by assumption) | exact KN.out _ _ _ _ (RtP.below (by assumption) (bvn (Below.refl _ _) 1)))
              (first
                | (go_at_call 26; (with_reducible refine (D26.out _ ?_).mono ?_); (first | with_reducible assumption | exact RtP.below (by assumption) (bvn (Below.refl _ _) 1)); rintro x w4 ⟨b, L1, rfl, hp4, hl4, S4⟩)
                | (go_at_call 27; (with_reducible refine (S4.out _ ?_).mono ?_); (first | with_reducible assumption | exact RtP.below (by assumption) (bvn (Below.refl _ _) 1)); rintro x w5 ⟨rfl, v5, D5, hp5, he5⟩))
            have HR := Lib.hid (show RtX w1 w5 g bm most xb ((k8, 59, y.cells.toArray) :: []) (k + 1) from ⟨L1, v5, D5, hp5, he5, by omega⟩)
            go_wp2_with fail
            go_meet
            case rel => exact HR
          · have n1 : ((y.kind : Int) == 1) = false := beq_eq_false_iff_ne.2 k1
            by_cases k2 : y.kind = 2
            · have b2 : ((y.kind : Int) == 2) = true := beq_iff_eq.2 k2
              clear D26 KN k1 k2
              go_upto_region 13 with fail
              have t0 := KE.out _ _ _ _ hp3
              go_region_held3 (fun W => W.cell? ⟨k8, 11, none⟩ = some (.int .i64 y.n))
                (first | with_reducible assumption | exact KE.out _ _ _ _ (by assumption) | exact KE.out _ _ _ _ (RtP.below (by assumption) (bvn (Below.refl _ _) 1)))
                (first
                  | (go_at_call 28; (with_reducible refine (D28.out _ ?_).mono ?_); (first | with_reducible assumption | exact RtP.below (by assumption) (bvn (Below.refl _ _) 1)); rintro x w4 ⟨z, L1, rfl, hp4, hl4, S4⟩)
                  | (go_at_call 29; (with_reducible refine (S4.out _ ?_).mono ?_); (first | with_reducible assumption | exact RtP.below (by assumption) (bvn (Below.refl _ _) 1)); rintro x w5 ⟨rfl, v5, D5, hp5, he5⟩))
              have HR := Lib.hid (show RtX w1 w5 g bm most xb ((k8, 59, y.cells.toArray) :: []) (k + 1) from ⟨L1, v5, D5, hp5, he5, by omega⟩)
              go_wp2_with fail
              go_meet
              case rel => exact HR
            · have n2 : ((y.kind : Int) == 2) = false := beq_eq_false_iff_ne.2 k2
              have HR := Lib.hid (show RtX w1 W3 g bm most xb ((k8, 59, y.cells.toArray) :: []) (k + 1) from ⟨L0, v0, D0, hp3, HE0.out, by omega⟩)
              clear k1 k2
              go_wp2_with fail
              go_meet
              case rel => exact HR
        case rest =>
          obtain ⟨L, v, D, hp, hE, hl⟩ := hcut.out
          have HFT := Lib.hid HFP.out.2.2
          have HP := Lib.hid hp
          have HE1 := Lib.hid hE
          have d10 : wc.cell? ⟨k8, 10, none⟩ = some (.string y.text) := (hp.ks _ (List.mem_cons_self ..)).1.cell 10
          have D30 := Lib.hid (rt_get hp hE y.text HFT.out)
          clear hp hE hcut D26 D28 KN KE HP3 HE0 HSO HM HFP
          go_wp2_with fail
          refine D30.out.mono ?_
          rintro x w6 ⟨q6, b6, rfl, hp6, _, S6⟩
          have HP6 := Lib.hid hp6
          have HO := Lib.hid (Own.start [] w6)
          have HQ6 := Lib.hid (hone19 q6)
          clear hp6 d10 D30 HP
          go_upto_region 16 with (first
            | (refine wpo_alloc tyMs HO.out rfl rfl ?_; clear HO; rintro k9 W7 hO; have HO := Lib.hid hO; clear hO; simp only [Act.put, List.setIfInBounds_toArray, List.set_cons_zero, List.set_cons_succ])
            | (refine wpo_store (k := k9) (c := q6.cells.toArray) HO.out 0 tyMs rfl _ _ rfl rfl rfl rfl rfl HQ6.out.1 HQ6.out.2 ?_; clear HO; rintro W8 hO; have HO := Lib.hid hO; clear hO; simp only [Act.put]))
          have HP8 := Lib.hid ((HP6.out.below HO.out.bel).add (HO.out.get 0 rfl) (by decide))
          have D31 := Lib.hid (S6.out W8 HO.out.bel)
          have d10 : W8.cell? ⟨k8, 10, none⟩ = some (.string y.text) := (HP8.out.ks _ (List.mem_cons_of_mem _ (List.mem_cons_self ..))).1.cell 10
          clear HO HP6 HQ6 S6
          go_wp2_with fail
          refine D31.out.mono ?_
          rintro x w9 ⟨q9, rfl, hb9, S9⟩
          have HP9 := Lib.hid (HP8.out.below hb9)
          have HO := Lib.hid (Own.start [] w9)
          have HQ9 := Lib.hid (hone19 q9)
          clear hb9 d10 D31 HP8
          go_upto_region 17 with (first
            | (refine wpo_alloc tyMs HO.out rfl rfl ?_; clear HO; rintro k11 W10 hO; have HO := Lib.hid hO; clear hO; simp only [Act.put, List.setIfInBounds_toArray, List.set_cons_zero, List.set_cons_succ])
            | (refine wpo_store (k := k11) (c := q9.cells.toArray) HO.out 0 tyMs rfl _ _ rfl rfl rfl rfl rfl HQ9.out.1 HQ9.out.2 ?_; clear HO; rintro W11 hO; have HO := Lib.hid hO; clear hO; simp only [Act.put]))
          have HPE := Lib.hid ((HP9.out.below HO.out.bel).add (HO.out.get 0 rfl) (by decide))
          have D32 := Lib.hid (fun W (hb : Below W11.heap.size W11 W) => (S9.out W (HO.out.bel.trans (hb.mono HO.out.bel.size))).mono fun e w' hx => show e = Ending.returned (.bool true) ∧ Below W11.heap.size W11 w' from ⟨hx.1, hb.trans (hx.2.mono hb.size)⟩)
          clear HO HP9 HQ9 S9
          have D33 := Lib.hid (fun W (hb : Below W11.heap.size W11 W) => (rt_match (HPE.out.below hb) HE1.out (HE.out.later HB1.out) y.text HFT.out).mono fun e w' ⟨A, n, c, hx, hb2, hS⟩ => show ∃ (A : Option Addr) (n c : Nat), e = Ending.returned (.slice A n c) ∧ Below W11.heap.size W11 w' ∧ Hid (∀ W2, Below w'.heap.size w' W2 → Calls Tryd.prog 35 #[.pointer (some ⟨xb, 0, none⟩), .string y.text] W2 fun e W3 => ∃ (A2 : Option Addr) (c2 : Nat), e = Ending.returned (.slice A2 n c2) ∧ Below W11.heap.size W11 W3 ∧ Hid (∀ W4, Below W3.heap.size W3 W4 → Calls Tryd.prog 33 #[.slice A n c, .slice A2 n c2] W4 fun e W5 => e = Ending.returned (.bool true) ∧ Below W11.heap.size W11 W5)) from
            ⟨A, n, c, hx, hb.trans (hb2.mono hb.size), Lib.hid fun W2 h2 => (hS.out W2 h2).mono fun e w3 ⟨A2, c2, hx2, hb3, hS2⟩ =>
              have h02 := (hb.trans (hb2.mono hb.size)).trans (h2.mono (hb.trans (hb2.mono hb.size)).size)
              have h03 := h02.trans (hb3.mono h02.size)
              ⟨A2, c2, hx2, h03, Lib.hid fun W4 h4 => (hS2.out W4 h4).mono fun e w5 hx5 =>
                have h04 := h03.trans (h4.mono h03.size)
                ⟨hx5.1, h04.trans (hx5.2.mono h04.size)⟩⟩⟩)
          have D34 := Lib.hid (fun W (hb : Below W11.heap.size W11 W) => (slen_any (HPE.out.below hb).aw.st).mono fun e w' hx => show e = Ending.returned (.int .i64 L.length) ∧ Below W11.heap.size W11 w' from ⟨hx.1, hx.2 ▸ hb⟩)
          obtain ⟨Ax, cx, hv⟩ := HPE.out.rf.form
          rw [HE1.out.len] at hv
          have KS := Lib.hid (fun W (hb : Below W11.heap.size W11 W) => show W.cell? ⟨k8, 10, none⟩ = some (.string y.text) ∧ W.cell? ⟨xb, 1, none⟩ = some (.slice Ax L.length cx) ∧ W.cell? ⟨k9, 0, none⟩ = some (.string q6.m.topic) ∧ W.cell? ⟨k9, 1, none⟩ = some (.string q6.m.payload) ∧ W.cell? ⟨k9, 2, none⟩ = some (.int .i64 q6.m.qos) ∧ W.cell? ⟨k9, 3, none⟩ = some (.bool q6.m.retain) ∧ W.cell? ⟨k9, 4, none⟩ = some (.slice q6.pa q6.m.props.length q6.pc) ∧ W.cell? ⟨k9, 5, none⟩ = some (.string q6.m.frm) ∧ W.cell? ⟨k9, 6, none⟩ = some (.int .i64 q6.m.til) ∧ W.cell? ⟨k9, 7, none⟩ = some (.int .i64 q6.m.seq) ∧ W.cell? ⟨k9, 8, none⟩ = some (.string q6.m.grp) ∧ W.cell? ⟨k11, 0, none⟩ = some (.string q9.m.topic) ∧ W.cell? ⟨k11, 1, none⟩ = some (.string q9.m.payload) ∧ W.cell? ⟨k11, 2, none⟩ = some (.int .i64 q9.m.qos) ∧ W.cell? ⟨k11, 3, none⟩ = some (.bool q9.m.retain) ∧ W.cell? ⟨k11, 4, none⟩ = some (.slice q9.pa q9.m.props.length q9.pc) ∧ W.cell? ⟨k11, 5, none⟩ = some (.string q9.m.frm) ∧ W.cell? ⟨k11, 6, none⟩ = some (.int .i64 q9.m.til) ∧ W.cell? ⟨k11, 7, none⟩ = some (.int .i64 q9.m.seq) ∧ W.cell? ⟨k11, 8, none⟩ = some (.string q9.m.grp) from by
            have hp := HPE.out.below hb
            have h1 := (hp.ks _ (List.mem_cons_self ..)).1
            have h2 := (hp.ks _ (List.mem_cons_of_mem _ (List.mem_cons_self ..))).1
            have h3 := (hp.ks _ (List.mem_cons_of_mem _ (List.mem_cons_of_mem _ (List.mem_cons_self ..)))).1
            have hx := hp.rf.blk
            rw [hv] at hx
            exact ⟨h3.cell 10, hx.cell 1, h2.cell 0, h2.cell 1, h2.cell 2, h2.cell 3, h2.cell 4, h2.cell 5, h2.cell 6, h2.cell 7, h2.cell 8, h1.cell 0, h1.cell 1, h1.cell 2, h1.cell 3, h1.cell 4, h1.cell 5, h1.cell 6, h1.cell 7, h1.cell 8⟩)
          have HRX := Lib.hid (fun W (hb : Below W11.heap.size W11 W) => show RtX w1 W g bm most xb [] (k + 1) from ⟨L, v, D, (HPE.out.below hb).nil, HE1.out, hl⟩)
          generalize L.length = nl at *
          have hb0 : Below W11.heap.size W11 W11 := Below.refl _ _
          obtain ⟨z0, z1, t0, t1, t2, t3, t4, t5, t6, t7, t8, s0, s1, s2, s3, s4, s5, s6, s7, s8⟩ := KS.out _ hb0
          clear hv
          unfold QV.agg at D32
          go_region_held3 (fun W => W.cell? ⟨k8, 10, none⟩ = some (.string y.text) ∧ W.cell? ⟨xb, 1, none⟩ = some (.slice Ax nl cx) ∧ W.cell? ⟨k9, 0, none⟩ = some (.string q6.m.topic) ∧ W.cell? ⟨k9, 1, none⟩ = some (.string q6.m.payload) ∧ W.cell? ⟨k9, 2, none⟩ = some (.int .i64 q6.m.qos) ∧ W.cell? ⟨k9, 3, none⟩ = some (.bool q6.m.retain) ∧ W.cell? ⟨k9, 4, none⟩ = some (.slice q6.pa q6.m.props.length q6.pc) ∧ W.cell? ⟨k9, 5, none⟩ = some (.string q6.m.frm) ∧ W.cell? ⟨k9, 6, none⟩ = some (.int .i64 q6.m.til) ∧ W.cell? ⟨k9, 7, none⟩ = some (.int .i64 q6.m.seq) ∧ W.cell? ⟨k9, 8, none⟩ = some (.string q6.m.grp) ∧ W.cell? ⟨k11, 0, none⟩ = some (.string q9.m.topic) ∧ W.cell? ⟨k11, 1, none⟩ = some (.string q9.m.payload) ∧ W.cell? ⟨k11, 2, none⟩ = some (.int .i64 q9.m.qos) ∧ W.cell? ⟨k11, 3, none⟩ = some (.bool q9.m.retain) ∧ W.cell? ⟨k11, 4, none⟩ = some (.slice q9.pa q9.m.props.length q9.pc) ∧ W.cell? ⟨k11, 5, none⟩ = some (.string q9.m.frm) ∧ W.cell? ⟨k11, 6, none⟩ = some (.int .i64 q9.m.til) ∧ W.cell? ⟨k11, 7, none⟩ = some (.int .i64 q9.m.seq) ∧ W.cell? ⟨k11, 8, none⟩ = some (.string q9.m.grp))
            (first | with_reducible assumption | exact KS.out _ (by assumption) | exact KS.out _ (bvn (by assumption) 1))
            (first
              | (go_at_call 32; (with_reducible refine (D32.out _ ?_).mono ?_); (first | with_reducible assumption | exact bvn (by assumption) 1); rintro x w6 ⟨rfl, hb6⟩)
              | (go_at_call 34; (with_reducible refine (D33.out _ ?_).mono ?_); (first | with_reducible assumption | exact bvn (by assumption) 1); rintro x w7 ⟨A7, n7, c7, rfl, hb7, S7⟩)
              | (go_at_call 35; (with_reducible refine (S7.out _ ?_).mono ?_); (first | exact Below.refl _ _ | exact bvn (Below.refl _ _) 1); rintro x w8 ⟨A8, c8, rfl, hb8, S8⟩)
              | (go_at_call 33; (with_reducible refine (S8.out _ ?_).mono ?_); (first | exact Below.refl _ _ | exact bvn (Below.refl _ _) 1); rintro x w9 ⟨rfl, hb9⟩)
              | (go_at_call 36; (with_reducible refine (D34.out _ ?_).mono ?_); (first | with_reducible assumption | exact bvn (by assumption) 1); rintro x w10 ⟨rfl, hb10⟩))
          have HRF := Lib.hid (HRX.out _ hb10)
          clear z0 z1 t0 t1 t2 t3 t4 t5 t6 t7 t8 s0 s1 s2 s3 s4 s5 s6 s7 s8 hb0 hb6 hb7 hb8 hb9 hb10 S7 S8 D32 D33 D34 KS HRX
          go_wp2_with fail
          go_roundw
          case rel => exact ⟨k + 1, by omega, by go_num, HRF⟩
          case measure => simp [intOf]; omega
      · have HA := Lib.hid (by
          obtain ⟨L0, v0, D0, hP0, _, _⟩ := HP.out
          exact HAW.out wr (HB1.out.trans (hP0.aw.bel.mono HB1.out.size)))
        clear HP
        go_wp2_with fail
        refine HA.out.mono ?_
        rintro x w4 ⟨rfl, hb4⟩
        have HB4 := Lib.hid hb4
        clear hb4
        go_wp2_with fail
        go_ret
        exact ⟨rfl, HB4.out⟩
end Go.Proofs.YtfmkeapbddhndaaDoor

/- What is proved here: OutPlays answers true for every list of acts. Conditions: the acts are some that came in. -/
import Derived.Test.YtpaalhhadjihlaaPlc24
import Derived.Deep.CutRange
namespace Go.Proofs.Ytpaalhhadjihlaa
open Go.RowKit Go.Extern.Stop Go.Stop Go.Extern Go.Maps Go.Deep
set_option maxRecDepth 100000
theorem ARd.pos {w : World} {A : Option Addr} {L : AL} (h : ARd w A L) (hp : 0 < L.length) : ∃ g off, A = some ⟨g, off, none⟩ ∧ ∀ k, k < L.length → ACells w g (off + k * 14) (L.getD k a0) := h hp
theorem aq_at (y : AV) : ∀ j u, y.q.cells[j]? = some u → y.cells.toArray[1 + j]? = some u := by
  intro j u h
  have hj : j < 9 := (List.getElem?_eq_some_iff.1 h).1
  rw [List.getElem?_toArray, Nat.add_comm]
  show ((y.q.cells ++ [.int .i64 y.qos, .int .i64 y.of, .int .i64 y.id, .int .i64 y.rs]))[j]? = some u
  rw [List.getElem?_append_left (by exact hj)]
  exact h
/-- Who nobody's are. -/
def nobP (z k : Nat) : Option Addr := if k = 0 then none else some ⟨z, 0, none⟩
def zcells : Array Value := #[.pointer none, .int .i64 0, .map none]
def ncells (z : Nat) : Array Value := #[.pointer none, .pointer (some ⟨z, 0, none⟩)]
def KZ (z nb : Nat) : OL := [(nb, 25, ncells z), (z, 32, zcells)]
theorem nb_cell {W : World} {nb z k : Nat} (h : Blk W nb 25 (ncells z)) (hk : k < 2) : W.cell? ⟨nb, k, none⟩ = some (.pointer (nobP z k)) := by
  rcases k with _ | _ | k
  · exact Blk.cell h 0
  · exact Blk.cell h 1
  · omega
theorem nob_no {W : World} {z : Nat} (h : Blk W z 32 zcells) (k : Nat) : NoO W (.pointer (nobP z k)) := by
  unfold nobP
  split
  · exact .inl rfl
  · exact .inr ⟨z, rfl, h⟩
theorem act14 {W : World} {b : Nat} {y : AV} (h : Blk W b 38 y.cells.toArray) : W.cell? ⟨b, 0, none⟩ = some (.int .i64 y.kind) ∧ W.cell? ⟨b, 1, none⟩ = some (.string y.q.m.topic) ∧ W.cell? ⟨b, 2, none⟩ = some (.string y.q.m.payload) ∧ W.cell? ⟨b, 3, none⟩ = some (.int .i64 y.q.m.qos) ∧ W.cell? ⟨b, 4, none⟩ = some (.bool y.q.m.retain) ∧ W.cell? ⟨b, 5, none⟩ = some (.slice y.q.pa y.q.m.props.length y.q.pc) ∧ W.cell? ⟨b, 6, none⟩ = some (.string y.q.m.frm) ∧ W.cell? ⟨b, 7, none⟩ = some (.int .i64 y.q.m.til) ∧ W.cell? ⟨b, 8, none⟩ = some (.int .i64 y.q.m.seq) ∧ W.cell? ⟨b, 9, none⟩ = some (.string y.q.m.grp) ∧ W.cell? ⟨b, 10, none⟩ = some (.int .i64 y.qos) ∧ W.cell? ⟨b, 11, none⟩ = some (.int .i64 y.of) ∧ W.cell? ⟨b, 12, none⟩ = some (.int .i64 y.id) ∧ W.cell? ⟨b, 13, none⟩ = some (.int .i64 y.rs) :=
  ⟨h.cell 0, h.cell 1, h.cell 2, h.cell 3, h.cell 4, h.cell 5, h.cell 6, h.cell 7, h.cell 8, h.cell 9, h.cell 10, h.cell 11, h.cell 12, h.cell 13⟩
/-- How a world that has grown grows on. -/
theorem bva {V W : World} (h : Below V.heap.size V W) (o : Obj) : Below V.heap.size V (W.alloc o) := h.alloc h.size o
theorem bvd {V W : World} (h : Below V.heap.size V W) : Below V.heap.size V W.drew := h.drew
theorem bvn {V W : World} (h : Below V.heap.size V W) (d : Nat) : Below V.heap.size V (W.drewN d) := ⟨h.os, h.tape, h.output, h.size, h.block⟩
theorem bvs {V W : World} (h : Below V.heap.size V W) {p : Addr} (hp : V.heap.size ≤ p.block) (u : Value) : Below V.heap.size V (W.setCell p u) := h.setCell hp u
/-- What stands at the beginning. -/
theorem pl_start {w W : World} {g gp bp bm x xp : Nat} {v : Value} (ha : AwI w W g gp bp bm [] 0 0) (hr : RfI W w.heap.size x xp v [] 0 []) :
    PlX w ((W.alloc (.cells zcells 32)).alloc (.cells (ncells W.heap.size) 25)) g gp bp bm x xp 0 (KZ W.heap.size (W.heap.size + 1)) := by
  have h0 : PlX w W g gp bp bm x xp 0 [] := ⟨[], 0, v, [], [], ⟨ha, hr, fun y hy => by cases hy⟩, rfl, fun f hf => by cases hf⟩
  have hb1 := (Below.refl W.heap.size W).alloc (Nat.le_refl _) (.cells zcells 32)
  have h1 := (h0.below hb1).add (y := (W.heap.size, 32, zcells)) (Blk.made _ _ _) (h0.none (Nat.le_refl _)) rfl
  have hb2 := (Below.refl (W.alloc (.cells zcells 32)).heap.size (W.alloc (.cells zcells 32))).alloc (Nat.le_refl _) (.cells (ncells W.heap.size) 25)
  have hm := Blk.made (W.alloc (.cells zcells 32)) 25 (ncells W.heap.size)
  have hs : (W.alloc (.cells zcells 32)).heap.size = W.heap.size + 1 := World.size_alloc _ _
  have h2 := (h1.below hb2).add (y := (W.heap.size + 1, 25, ncells W.heap.size)) (by rw [hs] at hm; exact hm) (h1.none (by rw [hs]; exact Nat.le_refl _)) rfl
  exact h2
section
variable {ops : Array Oper} {rest : List Oper} {op : Oper} {a : Act} {w : World} {Q : Exit → Act → World → Prop}
/-- A whole block is loaded; a message within a block. -/
theorem wpb_load {k : Nat} {t : TypeId} {z c : Array Value} (hB : Blk w k t c) (hT : Ty Try.prog t z) (hc : c.size = z.size) (x : Operand) (hgd : op.guard = none) (ho : op.op = .load t x)
    (hx : a.eval x = .pointer (some ⟨k, 0, none⟩)) (h : wpList Try.prog ops Q rest (a.put op.dst (.agg c)) w) : wpList Try.prog ops Q (op :: rest) a w :=
  wpList_plain hgd fun _ hK => by
    unfold Oper.wp execOp
    simp only [ho, hx, Instr.loadAt, Instr.sureAddr, Sem.run_bind, Sem.run_pure, Result.andThen_ok, run_load_own hT hB hc]
    exact hK _ _ h
theorem wpb_ldq {k of : Nat} {ty : TypeId} {c : Array Value} (hB : Blk w k ty c) (q : QV) (hq : ∀ j u, q.cells[j]? = some u → c[of + j]? = some u) (x : Operand) (hgd : op.guard = none) (ho : op.op = .load 36 x) (hx : a.eval x = .pointer (some ⟨k, of, none⟩))
    (H : wpList Try.prog ops Q rest (a.put op.dst q.agg) w) : wpList Try.prog ops Q (op :: rest) a w :=
  wpList_plain hgd fun _ hK => by
    obtain ⟨d, hu, hd⟩ := tyMs.un
    have hl := run_loadVar_mid (P := Try.prog) w k of 36 q.cells d (fun j v hv => by
      rw [hB.cell (of + j)]
      exact hq j v hv) hu hd tyMs.ip
    unfold Oper.wp execOp
    simp only [ho, hx, Instr.loadAt, Instr.sureAddr, Sem.run_bind, Sem.run_pure, Result.andThen_ok, hl]
    exact hK _ _ H
end
/-- As pl_ack, messages by their cells. -/
theorem pl_ack2 {w W : World} {g gp bp bm x xp sent : Nat} {K : OL} (h : PlX w W g gp bp bm x xp sent K) (k i r : Int) (hi : (Lit.int .i64 i).wf = true) :
    Calls Try.prog 10 #[.pointer (some ⟨g, 0, none⟩), .agg ((ackQ k i r).cells pa0)] W fun e W1 => ∃ (n : Int) (qc : Array Value) (P : PL) (pa : Option Addr) (L : FL) (last : Nat) (v : Value) (D : FL) (ld : Nat) (LP : List Int),
      e = .returned (.tuple #[.int .i64 n, .agg qc]) ∧ (qc.size = 9 ∧ qc.toList.all (·.oneCell') = true) ∧ PlM w W1 g gp bp bm L last sent x xp v D ld LP K ∧ PIn W1 0 pa P ∧
      Hid (∀ W2 K2, PlM w W2 g gp bp bm L last sent x xp v D ld LP K2 → PIn W2 0 pa P →
        Calls Try.prog 12 #[.pointer (some ⟨x, 0, none⟩), .agg ((ackQ k i r).cells pa0)] W2 fun e W3 => ∃ qd : Array Value, e = .returned (.tuple #[.int .i64 n, .agg qd]) ∧ (qd.size = 9 ∧ qd.toList.all (·.oneCell') = true) ∧ PlX w W3 g gp bp bm x xp sent K2 ∧
          Hid (∀ W4, Below W3.heap.size W3 W4 → Calls Try.prog 13 #[.agg qc, .agg qd] W4 fun e W5 => e = .returned (.bool true) ∧ Below W4.heap.size W4 W5)) := by
  have hone : ∀ q : QV, q.cells.toArray.size = 9 ∧ q.cells.toArray.toList.all (·.oneCell') = true := fun q => ⟨rfl, by simp [QV.cells, Value.oneCell']⟩
  refine (pl_ack h k i r hi).mono ?_
  rintro e W1 ⟨n, q, L, last, v, D, ld, LP, rfl, hM, hp, hX⟩
  refine ⟨n, q.cells.toArray, _, _, L, last, v, D, ld, LP, rfl, hone q, hM, hp, Lib.hid fun W2 K2 h2 hp2 => ?_⟩
  refine (hX.out W2 K2 h2 hp2).mono ?_
  rintro e W3 ⟨q2, rfl, hX3, hS⟩
  exact ⟨q2.cells.toArray, rfl, hone q2, hX3, hS⟩
theorem arr9 {c : Array Value} (h : c.size = 9) : ∃ s0 s1 s2 s3 s4 s5 s6 s7 s8, c = #[s0, s1, s2, s3, s4, s5, s6, s7, s8] := by
  obtain ⟨l⟩ := c
  obtain ⟨s0, s1, s2, s3, s4, s5, s6, s7, s8, e⟩ := list9 l h
  exact ⟨s0, s1, s2, s3, s4, s5, s6, s7, s8, by rw [e]⟩
theorem cells9 {W : World} {b : Nat} {t : TypeId} {s0 s1 s2 s3 s4 s5 s6 s7 s8 : Value} (h : Blk W b t #[s0, s1, s2, s3, s4, s5, s6, s7, s8]) : W.cell? ⟨b, 0, none⟩ = some s0 ∧ W.cell? ⟨b, 1, none⟩ = some s1 ∧ W.cell? ⟨b, 2, none⟩ = some s2 ∧ W.cell? ⟨b, 3, none⟩ = some s3 ∧ W.cell? ⟨b, 4, none⟩ = some s4 ∧ W.cell? ⟨b, 5, none⟩ = some s5 ∧ W.cell? ⟨b, 6, none⟩ = some s6 ∧ W.cell? ⟨b, 7, none⟩ = some s7 ∧ W.cell? ⟨b, 8, none⟩ = some s8 :=
  ⟨h.cell 0, h.cell 1, h.cell 2, h.cell 3, h.cell 4, h.cell 5, h.cell 6, h.cell 7, h.cell 8⟩
theorem packet13_wr (y : AV) {V W : World} (hb : Below V.heap.size V W) : Calls Try.prog 11 #[.agg y.cells.toArray] W fun x w' => x = .returned (.agg ((ackQ y.of y.id y.rs).cells pa0)) ∧ Below V.heap.size V w' :=
  (packet13_any y W).mono fun _ _ ⟨he, h2⟩ => ⟨he, hb.trans (h2.mono hb.size)⟩
theorem no_ack2 {V W : World} {o : Value} (h : NoO V o) (k i r : Int) (hb : Below V.heap.size V W) : Calls Try.prog 10 #[o, .agg ((ackQ k i r).cells pa0)] W fun e W' => ∃ (n : Int) (pa : Option Addr) (pc : Nat), e = .returned (.tuple #[.int .i64 n, .agg #[.string ⟨#[]⟩, .string ⟨#[]⟩, .int .i64 0, .bool false, .slice pa 0 pc, .string ⟨#[]⟩, .int .i64 0, .int .i64 0, .string ⟨#[]⟩]]) ∧ (n = 0 ∨ n = 5) ∧ Below V.heap.size V W' :=
  (no_ack h k i r hb).mono fun _ _ ⟨pa, pc, he, h2⟩ => ⟨_, pa, pc, he, ans_none _ _ _, h2⟩
/-- The same, with a new message of the call's own standing by. -/
theorem packet13_wz (y : AV) {V W : World} {r : Nat} (hb : Below V.heap.size V W) (hz : Blk W r 36 zq) : Calls Try.prog 11 #[.agg y.cells.toArray] W fun x w' => x = .returned (.agg ((ackQ y.of y.id y.rs).cells pa0)) ∧ Below V.heap.size V w' ∧ Blk w' r 36 zq :=
  (packet13_any y W).mono fun _ _ ⟨he, h2⟩ => ⟨he, hb.trans (h2.mono hb.size), hz.below h2 hz.lt⟩
theorem NoO.below {V W : World} {o : Value} (h : NoO V o) (hb : Below V.heap.size V W) : NoO W o := by
  rcases h with h | ⟨z, h1, h2⟩
  · exact .inl h
  · exact .inr ⟨z, h1, h2.below hb⟩
theorem no_ackz {V W : World} {o : Value} {r : Nat} (h : NoO V o) (k i rs : Int) (hb : Below V.heap.size V W) (hz : Blk W r 36 zq) : Calls Try.prog 10 #[o, .agg ((ackQ k i rs).cells pa0)] W fun e W' => ∃ (n : Int) (pa : Option Addr) (pc : Nat), e = .returned (.tuple #[.int .i64 n, .agg #[.string ⟨#[]⟩, .string ⟨#[]⟩, .int .i64 0, .bool false, .slice pa 0 pc, .string ⟨#[]⟩, .int .i64 0, .int .i64 0, .string ⟨#[]⟩]]) ∧ (n = 0 ∨ n = 5) ∧ Below V.heap.size V W' ∧ Blk W' r 36 zq :=
  (no_ack2 (h.below hb) k i rs (Below.refl _ W)).mono fun _ _ ⟨n, pa, pc, he, hn, h2⟩ => ⟨n, pa, pc, he, hn, hb.trans (h2.mono hb.size), hz.below h2 hz.lt⟩
theorem rnew_low {B : Nat} (w : World) (hB : B ≤ w.heap.size) : Calls Try.prog 7 #[] w fun e w' => ∃ x xp v, e = .returned (.pointer (some ⟨x, 0, none⟩)) ∧ RfI w' B x xp v [] 0 [] ∧ Below w.heap.size w w' := by
  have HN := Lib.hid (refp_new w 65535 65535 (.inr (.inl ⟨rfl, Nat.le_refl _⟩)))
  have hb := Blk.made w 90 #[.int .i64 65535, .int .i64 0, .slice none 0 0]
  have hr : IsRefP (w.alloc (.cells #[.int .i64 65535, .int .i64 0, .slice none 0 0] 90)) B w.heap.size 65535 0 [] := ⟨⟨_, hb, World.ownsRow_nil _ _ _ _⟩, hB⟩
  have hb1 := (Below.refl w.heap.size w).alloc (Nat.le_refl _) (.cells #[.int .i64 65535, .int .i64 0, .slice none 0 0] 90)
  have HR := Lib.hid (And.intro (RfI.new _ hr (Nat.le_trans hB hb1.size)) (hb1.alloc hb1.size (.cells #[.pointer (some ⟨w.heap.size, 0, none⟩), .slice none 0 0] 60)))
  rw [World.size_alloc] at HR
  clear hb hr hb1
  go_enter Try.func7, Try.ntmps7
  go_wp2_with fail
  refine HN.out.mono ?_
  rintro e w1 ⟨rfl, rfl⟩
  go_wp2_with fail
  go_ret
  exact ⟨_, _, _, rfl, HR.out.1, HR.out.2⟩
end Go.Proofs.Ytpaalhhadjihlaa

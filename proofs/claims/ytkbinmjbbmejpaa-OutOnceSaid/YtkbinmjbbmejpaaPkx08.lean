/- What is proved here: more laws on whole packets for a walk. No conditions but those that each law names. -/
import Derived.Test.YtkbinmjbbmejpaaPkw08
namespace Go.Proofs.Ytkbinmjbbmejpaa
set_option maxRecDepth 100000
open Go.ChangeShapes Go.WideShapes Go.RowKit Go.Deep Go.Extern.Stop Go.Stop Go.Extern
section
variable {ops : Array Oper} {rest : List Oper} {op : Oper} {a : Act} {w : World} {Q : Exit → Act → World → Prop} {z c old : Array Value} {k : Nat}
theorem wpk_built {parts : Array (Nat × Operand)} {l : List (Nat × Value)} (hb : Try.prog.built 49 l = some z) (hgd : op.guard = none) (ho : op.op = .build 49 parts) (hl : (parts.map fun (i, x) => (i, a.eval x)).toList = l)
    (h : wpList Try.prog ops Q rest (a.put op.dst (.agg z)) w) : wpList Try.prog ops Q (op :: rest) a w :=
  wpList_build hgd _ _ ho (by rw [hl, hb]; rfl) (by rw [hl, hb]; exact h)
/-- A packet is loaded, behind a guard that holds. -/
theorem wpk_load_g (hb : Blk w k 49 c) (hs : c.size = 26) (x : Operand) (ho : op.op = .load 49 x) (hw : Region.wanted op (yielded ops a.tmps) = true)
    (hx : a.eval x = .pointer (some ⟨k, 0, none⟩)) (h : wpList Try.prog ops Q rest (a.put op.dst (.agg c)) w) : wpList Try.prog ops Q (op :: rest) a w :=
  wpList_step fun K hK => by
    rw [if_pos hw]
    have hl := wp_load_mid (P := Try.prog) (op := op) (a := a) (w := w) (K := K) (Q := Q) 49 x ho k 0 hx c.toList _ (fun j v hv => by
      rw [Nat.zero_add, hb.cell j]
      simpa using hv) Try.underlying49 rfl (by rw [Array.length_toList, hs]; exact ip_pkt)
    refine hl ?_
    refine hK _ _ ?_
    simpa using h
theorem yk_load {S : World → Prop} (hw : Region.wanted op (yielded ops a.tmps) = true) (x : Operand) (ho : op.op = .load 49 x) (hx : a.eval x = .pointer (some ⟨k, 0, none⟩)) (hS : ∀ w, S w → Blk w k 49 c) (hs : c.size = 26) : YieldsIf Try.prog ops S op (.agg c) a := by
  have h := yieldsIf_load_mid (P := Try.prog) (S := S) (a := a) hw 49 x ho k 0 hx c.toList _ (fun w hw' j v hv => by
    rw [Nat.zero_add, (hS w hw').cell j]
    simpa using hv) Try.underlying49 rfl (by rw [Array.length_toList, hs]; exact ip_pkt)
  simpa using h
end
theorem built1 (kd : Int) : Try.prog.built 49 [(0, .int .i64 kd)] = some ((pk0.cells pa0).setIfInBounds 0 (.int .i64 kd)) := by rfl
theorem built3 (kd rs : Int) (a : Option Addr) (n c : Nat) : Try.prog.built 49 [(0, .int .i64 kd), (2, .int .i64 rs), (3, .slice a n c)] = some ((((pk0.cells pa0).setIfInBounds 0 (.int .i64 kd)).setIfInBounds 2 (.int .i64 rs)).setIfInBounds 3 (.slice a n c)) := by rfl
end Go.Proofs.Ytkbinmjbbmejpaa

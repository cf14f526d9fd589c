/- What is proved here: the document's reader among the blocks of a call's own, and a packet that is built. No conditions but those that each theorem names. -/
import Derived.Test.YtinhecggmakbnaaGreatDoorMad08
import Derived.Test.YtinhecggmakbnaaGreatDoorRre06
import Derived.Test.YtinhecggmakbnaaGreatDoorRsa05
namespace Go.Proofs.YtinhecggmakbnaaGreatDoor
set_option maxRecDepth 100000
open Go.RowKit Go.Extern.Stop Go.Stop Go.Extern
section
variable {X : List Nat} {w0 w w' : World} {L : OL} {g : Nat} {s : ByteArray} {R R' : RV} {c : Array Value}
theorem Own.rd (h : Own X w0 w L) (i : Nat) (hi : L[i]? = some (g, 136, #[.string s, .int .i64 R.p, .int .i64 R.no, .int .i64 R.ea])) (hle : R.p ≤ s.size) : RRObj w g s R := ⟨h.get i hi, hle⟩
theorem Own.rstep (h : Own X w0 w L) (i : Nat) (hi : L[i]? = some (g, 136, c)) (hn : RRNext w w' g s R') : Own X w0 w' (L.set i (g, 136, #[.string s, .int .i64 R'.p, .int .i64 R'.no, .int .i64 R'.ea])) := h.put i hi hn.fr hn.obj.blk
theorem rbuilt1 {z y : Array Value} (hz : z = pk0.cells pa0) {kd : Int} (hy : y = z.setIfInBounds 0 (.int .i64 kd)) : Tryz.prog.built 29 [(0, .int .i64 kd)] = some y := by rw [hy, hz]; exact built1 kd
theorem one_put {c : Array Value} (h : c.toList.all (·.oneCell') = true) (i : Nat) (u : Value) (hu : u.oneCell' = true) : (c.setIfInBounds i u).toList.all (·.oneCell') = true := by
  rw [List.all_eq_true] at *
  intro v hv
  rw [Array.toList_setIfInBounds] at hv
  rcases List.mem_or_eq_of_mem_set hv with h1 | h1
  · exact h v h1
  · rw [h1]; exact hu
end
theorem tkR_e {k : Int} {s : ByteArray} {R : RV} (h : (tkR k s R).e.no = 0) : (tkR k s R).e = e00 := by
  unfold tkR at h ⊢
  (repeat' split) <;> first | rfl | (exfalso; simp_all)
end Go.Proofs.YtinhecggmakbnaaGreatDoor

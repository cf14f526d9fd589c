/- What is proved here: the three statements of layer 2 answer true at every argument. Condition: what the rows list of the package's variables. -/
import Derived.Test.YtfaldlamjbiciaaDoorBack02
import Derived.Test.YtfaldlamjbiciaaDoorSays02
namespace Go.Proofs.YtfaldlamjbiciaaDoor
open Go.RowKit
theorem varintPuts_walk (S : Nat → Addr) (n : Int) (w : World) (h : Env w S) (_hn : (Lit.int .i64 n).wf = true) :
    Calls Tryd.prog 3 #[.int .i64 n] w fun x w' => x = .returned (.bool true) ∧ Below w.heap.size w w' := by
  by_cases ho : n < 0 ∨ 268435455 < n
  · exact puts_out varint_says S n w h ho
  · obtain ⟨u, rfl⟩ : ∃ u : Nat, n = (u : Int) := ⟨n.toNat, by omega⟩
    exact puts_in varint_says S u w h (by omega)
theorem varintTakes_walk (S : Nat → Addr) (s : ByteArray) (w : World) (h : Env w S) (hm : s.size ≤ maxLen) :
    Calls Tryd.prog 4 #[.string s] w fun x w' => x = .returned (.bool true) ∧ Below w.heap.size w w' := by
  by_cases hs : 100 < s.size
  · exact takes_long varint_says S s w h hs (by unfold maxLen at hm; omega)
  · exact takes_short varint_says S s w h (by omega)
theorem varintBack_walk (S : Nat → Addr) (n m : Int) (s : ByteArray) (w : World) (h : Env w S) (_hn : (Lit.int .i64 n).wf = true) (_hm : (Lit.int .i64 m).wf = true) (hz : s.size ≤ maxLen) :
    Calls Tryd.prog 5 #[.int .i64 n, .int .i64 m, .string s] w fun x w' => x = .returned (.bool true) ∧ Below w.heap.size w w' := by
  by_cases ho : 100 < s.size ∨ n < 0 ∨ 268435455 < n ∨ m < 0 ∨ 268435455 < m
  · exact back_out varint_says S n m s w h (by unfold maxLen at hz; omega) ho
  · obtain ⟨u, rfl⟩ : ∃ u : Nat, n = (u : Int) := ⟨n.toNat, by omega⟩
    obtain ⟨v, rfl⟩ : ∃ v : Nat, m = (v : Int) := ⟨m.toNat, by omega⟩
    exact back_in varint_says S u v s w h (by omega) (by omega) (by omega)
end Go.Proofs.YtfaldlamjbiciaaDoor

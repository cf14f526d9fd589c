/- What is proved here: what the package's functions Put, Size and Take answer, of the landed code. Conditions: what the rows list of the package's variables; the text's length. What is proved here: what the package's function Take answers, of the landed code. Conditions: what the rows list of the package's variables; the text's length. -/
import Derived.Test.YtaoaoobabjepnaaDoorVtVb
namespace Go.Proofs.YtaoaoobabjepnaaDoor
open Go.RowKit Go.Extern.Stop Go.Stop Go.Extern

theorem ret_i64 {a b : Int} (h : a = b) : Ending.returned (.int .i64 a) = .returned (.int .i64 b) := by rw [h]

end Go.Proofs.YtaoaoobabjepnaaDoor
namespace Go.Proofs.YtaoaoobabjepnaaDoor
open Go.RowKit Go.Extern.Stop Go.Stop Go.Extern

def TookSays (w : World) (S : Nat → Addr) (fin : Nat × Nat × Nat × Nat) (x : Ending) (w' : World) : Prop :=
  ∃ e, x = .returned (.tuple #[.int .i64 (fin.1 : Int), .int .i64 (fin.2.1 : Int), e]) ∧ ErrOf w' S 129 fin.2.2.1 fin.2.2.2 e ∧ Below w.heap.size w w'

end Go.Proofs.YtaoaoobabjepnaaDoor

/- What is proved here: what the package's functions Put, Size and Take answer, of the landed code. Conditions: what the rows list of the package's variables; the text's length. -/

import Derived.Test.YthplhdepllloaaaDoorVtVb
namespace Go.Proofs.YthplhdepllloaaaDoor
open Go.RowKit Go.Extern.Stop Go.Stop Go.Extern

theorem ret_i64 {a b : Int} (h : a = b) : Ending.returned (.int .i64 a) = .returned (.int .i64 b) := by rw [h]

end Go.Proofs.YthplhdepllloaaaDoor

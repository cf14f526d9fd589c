/- What is proved here: Raw of package field's Reader reads so many bytes, or none. Conditions: few bytes; what the rows list of the package's variables. -/
import Derived.Test.YtaoaoobabjepnaaDoorRtx04
namespace Go.Proofs.YtaoaoobabjepnaaDoor
set_option maxRecDepth 100000
open Go.RowKit Go.Extern.Stop Go.Stop Go.Extern
section
variable {w w' : World} {S : Nat → Addr} {g : Nat} {s : ByteArray} {R : RV}
theorem rraw04_any (hE : Env w S) (h : RObj w S g s R) (hs : s.size ≤ 1000000) (n : Nat) :
    Calls Tryd.prog 41 #[.pointer (some ⟨g, 0, none⟩), .int .i64 n] w (TSays w S g s (.string (rTake s n R).1) (rTake s n R).2) := by
  have HN := Lib.hid (rtake_any hE h hs n)
  have hn : ¬ ((n : Int) < 0) := by omega
  clear h hE hs
  generalize rTake s n R = q at *
  go_enter Tryd.func41, Tryd.ntmps41
  go_wp2_with fail
  refine HN.out.mono ?_
  rintro x w1 ⟨rfl, hN⟩
  have HX := Lib.hid hN
  clear hN HN
  go_wp2_with fail
  go_ret
  exact ⟨rfl, HX.out⟩
end
end Go.Proofs.YtaoaoobabjepnaaDoor

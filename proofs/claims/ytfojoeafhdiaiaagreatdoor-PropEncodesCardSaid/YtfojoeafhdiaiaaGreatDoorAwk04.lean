/- What is proved here: what the statements of layer 4 hold awake. Condition: what the rows list of the package's variables. -/
import Derived.Test.YtfojoeafhdiaiaaGreatDoorRtx04
namespace Go.Proofs.YtfojoeafhdiaiaaGreatDoor
set_option maxRecDepth 100000
open Go.RowKit Go.Extern.Stop Go.Stop Go.Extern
theorem aw_check : checkOf ⟨#[97]⟩ = (0, 0) := by
  have e : (⟨#[97]⟩ : ByteArray) = rep 1 := rfl
  rw [e]
  exact check_ok (by decide) (by rw [rep_cut, rep_size])
theorem aw_w1 : stepW w0 (numE 2 258) = ⟨0, 0, [1, 2]⟩ := by rfl
theorem aw_w2 : stepW ⟨0, 0, [1, 2]⟩ (textE ⟨#[97]⟩) = ⟨0, 0, [1, 2, 0, 1, 97]⟩ := by
  unfold textE
  rw [aw_check]
  rfl
def awS : ByteArray := ⟨#[1, 2, 0, 1, 97, 120]⟩
theorem aw_r1 : rNum awS 2 ⟨0, 0, 0⟩ = (258, ⟨2, 0, 0⟩) := rNum_ok (pre := []) (k := 2) (n := 258) (post := [0, 1, 97, 120]) (by decide) (by rfl) 0
theorem aw_r2 : rText awS ⟨2, 0, 0⟩ = (⟨#[97]⟩, ⟨5, 0, 0⟩) := rText_ok (pre := [1, 2]) (x := ⟨#[97]⟩) (post := [120]) (by rw [aw_check]) (by rfl) 0
theorem aw_r3 : rNum awS 4 ⟨5, 0, 0⟩ = (0, ⟨5, 1, 6⟩) := rNum_short (pre := [1, 2, 0, 1, 97]) (x := [120]) (by rfl) (by decide) 0
theorem env_cl {w W : World} {S : Nat → Addr} {g : Nat} (hE : Env w S) (hb : Below w.heap.size w W) (hg : w.heap.size ≤ g) : ∀ w1, Fr [g] W w1 → Env w1 S :=
  fun _ hf => hE.later (hf.later hb (fun b hx => by rw [List.mem_singleton] at hx; omega) hb.size)
section
variable {w w' : World} {S : Nat → Addr}
end
end Go.Proofs.YtfojoeafhdiaiaaGreatDoor

/- What is proved here: equal properties are the same to the document's function; whether properties have nothing but what their types have. Conditions: the properties stand where the slices say, few of them. -/
import Derived.Test.YtnolnhpmpjgnaaaGreatDoorRea06
import Derived.Deep.QuietTactic
import Derived.BigQuiet
namespace Go.Proofs.YtnolnhpmpjgnaaaGreatDoor
set_option maxRecDepth 100000
open Go.RowKit Go.Extern.Stop Go.Stop Go.Extern
section
variable {w w' : World} {B B2 : Nat} {A A2 : Option Addr} {L : PL}
theorem self_text6 (s : ByteArray) : (s.toList == s.toList) = true := by rw [eq_text]; exact decide_eq_true rfl
theorem psame_any (h : PIn w B A L) (h2 : PIn w B2 A2 L) (n c c2 : Nat) (hn : n = L.length) (hm : n ≤ 1000) : Calls Tryz.prog 42 #[.slice A n c, .slice A2 n c2] w fun x w' => x = .returned (.bool true) ∧ ∃ d : Nat, w' = w.drewN d := by
  by_cases hp : n = 0
  · subst hp
    clear h h2 hm hn
    go_enter Tryz.func42, Tryz.ntmps42
    go_wp2_with fail
    go_loop [5] (fun i => i = .int .i64 0) (fun _ => 0)
    case atStart => rfl
    case round =>
      subst hrel
      go_wp2_with fail
      go_ret
      exact ⟨rfl, 0, rfl⟩
  · obtain ⟨g, off, rfl, hc, hgB⟩ := h (by omega)
    obtain ⟨g2, off2, rfl, hc2, hgB2⟩ := h2 (by omega)
    have HC := Lib.hid hc
    have HC2 := Lib.hid hc2
    have HN := Lib.hid hn
    clear hc hc2 hgB hgB2 h h2 hn
    go_enter Tryz.func42, Tryz.ntmps42
    go_wp2_with fail
    go_loopw [5] (fun i wr => ∃ k d : Nat, k ≤ n ∧ i = .int .i64 k ∧ wr = w.drewN d) (fun i _ => n - (intOf i).toNat)
    case atStart => exact ⟨0, 0, by omega, rfl, rfl⟩
    case round =>
      obtain ⟨k, d, hk, rfl, hwr⟩ := hrel
      have HW := Lib.hid hwr
      by_cases hlt : k < n
      · have e1 := (HC.out k (by have := HN.out; omega)).at (w' := wr) (by rw [hwr]; rfl)
        have e2 := (HC2.out k (by have := HN.out; omega)).at (w' := wr) (by rw [hwr]; rfl)
        obtain ⟨p, hp'⟩ : ∃ p, p = L.getD k p0 := ⟨_, rfl⟩
        rw [← hp'] at e1 e2
        clear hp' hwr
        obtain ⟨a0, a1, a2, a3⟩ := e1
        obtain ⟨b0, b1, b2, b3⟩ := e2
        go_wp2_with fail
        go_quiet (fail)
        go_wp2_with fail
        go_roundw
        case rel => exact ⟨k + 1, _, by omega, by go_num, drew_on HW.out _⟩
        case measure => simp [intOf]; omega
      · clear hwr
        go_wp2_with fail
        go_ret
        exact ⟨rfl, d, HW.out⟩
/-- A property has nothing but what its type has. -/
def PlainP (p : PV) : Prop := (typeI p.id < 6 → p.s = ⟨#[]⟩ ∧ p.v = ⟨#[]⟩) ∧ (5 < typeI p.id → p.n = 0) ∧ ((typeI p.id = 6 ∨ typeI p.id = 7) → p.v = ⟨#[]⟩)
def Plain06 (n : Nat) (L : PL) (w : World) (x : Ending) (w' : World) : Prop := (∃ b : Bool, x = .returned (.bool b) ∧ (b = true → ∀ k, k < n → PlainP (L.getD k p0))) ∧ w = w'
theorem text_ne {s : ByteArray} (h : ¬ s = ⟨#[]⟩) : s.toList.isEmpty = false ∧ ¬ s.toList = [] := by
  have h1 : ¬ s.toList = [] := fun e => h (ba_eq (by rw [← ByteArray.toList_eq, e]))
  exact ⟨by rw [List.isEmpty_eq_false_iff]; exact h1, h1⟩
end
end Go.Proofs.YtnolnhpmpjgnaaaGreatDoor

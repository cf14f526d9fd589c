/- What is proved here: whether rows of texts are the same, are few, or begin others, as the document's functions say. Conditions: the rows stand where they do. -/
import Derived.Test.YtnolnhpmpjgnaaaGreatDoorPrp
import Derived.Deep.QuietTactic
import Derived.BigQuiet
namespace Go.Proofs.YtnolnhpmpjgnaaaGreatDoor
set_option maxRecDepth 100000
open Go.RowKit Go.Extern.Stop Go.Stop Go.Extern
section
variable {w w' : World} {A A2 : Option Addr} {L M : List ByteArray}
theorem tsame22 (h : SRd w A L) (h2 : SRd w A2 L) (n c c2 : Nat) (hn : n = L.length) (hm : n ≤ 10000) : Calls Tryz.prog 15 #[.slice A n c, .slice A2 n c2] w fun x w' => x = .returned (.bool true) ∧ ∃ d, w' = w.drewN d := by
  by_cases hp : n = 0
  · subst hp
    clear h h2 hm hn
    go_enter Tryz.func15, Tryz.ntmps15
    go_wp2_with fail
    go_loop [5] (fun i => i = .int .i64 0) (fun _ => 0)
    case atStart => rfl
    case round =>
      subst hrel
      go_wp2_with fail
      go_ret
      exact ⟨rfl, 0, rfl⟩
  · obtain ⟨g, off, rfl, hc⟩ := h (by omega)
    obtain ⟨g2, off2, rfl, hc2⟩ := h2 (by omega)
    have HC := Lib.hid (fun k (hk : k < n) => hc k (by omega))
    have HC2 := Lib.hid (fun k (hk : k < n) => hc2 k (by omega))
    clear hc hc2 h h2 hn
    go_enter Tryz.func15, Tryz.ntmps15
    go_wp2_with fail
    go_loopw [5] (fun i wr => ∃ k d : Nat, k ≤ n ∧ i = .int .i64 k ∧ wr = w.drewN d) (fun i _ => n - (intOf i).toNat)
    case atStart => exact ⟨0, 0, by omega, rfl, rfl⟩
    case round =>
      obtain ⟨k, d, hk, rfl, hwr⟩ := hrel
      have HW := Lib.hid hwr
      by_cases hlt : k < n
      · have e1 := (World.cell?_of_block (w := w) (w' := wr) (a := ⟨g, off + k, none⟩) (by rw [hwr]; rfl)).trans (HC.out k hlt)
        have e2 := (World.cell?_of_block (w := w) (w' := wr) (a := ⟨g2, off2 + k, none⟩) (by rw [hwr]; rfl)).trans (HC2.out k hlt)
        generalize L.getD k e0 = x at e1 e2
        clear hwr
        go_wp2_with fail
        go_quiet (fail)
        go_wp2_with fail
        go_roundw
        case rel => exact ⟨k + 1, _, by omega, by go_num, drew_on HW.out _⟩
        case measure => simp [intOf]; omega
      · clear hwr
        go_wp2_with fail
        go_ret
        exact ⟨rfl, d, HW.out⟩
/-- Texts that begin others. -/
theorem begins22 (n c m c2 : Nat) (h : SRd w A (L.take n)) (h2 : SRd w A2 L) (hnl : n ≤ L.length) (hm : m = L.length) (hmx : m ≤ 10000) : Calls Tryz.prog 18 #[.slice A n c, .slice A2 m c2] w fun x w' => x = .returned (.bool true) ∧ ∃ d, w' = w.drewN d := by
  have hn : (L.take n).length = n := by rw [List.length_take]; omega
  have hnm : n ≤ m := by omega
  by_cases hp : n = 0
  · subst hp
    clear h h2 hm hn hnl
    go_enter Tryz.func18, Tryz.ntmps18
    go_wp2_with fail
    go_loop [5] (fun i => i = .int .i64 0) (fun _ => 0)
    case atStart => rfl
    case round =>
      subst hrel
      go_wp2_with fail
      go_ret
      exact ⟨rfl, 0, rfl⟩
  · obtain ⟨g, off, rfl, hc⟩ := h (by omega)
    obtain ⟨g2, off2, rfl, hc2⟩ := h2 (by omega)
    have HC := Lib.hid (fun k (hk : k < n) => show w.cell? ⟨g, off + k, none⟩ = some (.string (L.getD k e0)) from by
      have := hc k (by omega)
      rw [List.getD_eq_getElem?_getD, List.getElem?_take, if_pos hk, ← List.getD_eq_getElem?_getD] at this
      exact this)
    have HC2 := Lib.hid (fun k (hk : k < n) => hc2 k (by omega))
    clear hc hc2 h h2 hn hm hnl
    go_enter Tryz.func18, Tryz.ntmps18
    go_wp2_with fail
    go_loopw [5] (fun i wr => ∃ k d : Nat, k ≤ n ∧ i = .int .i64 k ∧ wr = w.drewN d) (fun i _ => n - (intOf i).toNat)
    case atStart => exact ⟨0, 0, by omega, rfl, rfl⟩
    case round =>
      obtain ⟨k, d, hk, rfl, hwr⟩ := hrel
      have HW := Lib.hid hwr
      by_cases hlt : k < n
      · have e1 := (World.cell?_of_block (w := w) (w' := wr) (a := ⟨g, off + k, none⟩) (by rw [hwr]; rfl)).trans (HC.out k hlt)
        have e2 := (World.cell?_of_block (w := w) (w' := wr) (a := ⟨g2, off2 + k, none⟩) (by rw [hwr]; rfl)).trans (HC2.out k hlt)
        generalize L.getD k e0 = x at e1 e2
        have hkm : k < m := by omega
        clear hwr
        go_wp2_with fail
        go_quiet (fail)
        go_wp2_with fail
        go_roundw
        case rel => exact ⟨k + 1, _, by omega, by go_num, drew_on HW.out _⟩
        case measure => simp [intOf]; omega
      · clear hwr
        go_wp2_with fail
        go_ret
        exact ⟨rfl, d, HW.out⟩
/-- Few texts, of few bytes. -/
def few22 (L : List ByteArray) : Bool := decide (L.length ≤ 20) && L.all fun b => decide (b.size ≤ 200)
theorem few22_ok {L : List ByteArray} (h : few22 L = true) : L.length ≤ 20 ∧ ∀ b ∈ L, b.size ≤ 200 := by
  unfold few22 at h
  simp only [Bool.and_eq_true, decide_eq_true_eq, List.all_eq_true] at h
  exact h
theorem few22_no {L : List ByteArray} (h : ¬ (L.length ≤ 20 ∧ ∀ k, k < L.length → (L.getD k e0).size ≤ 200)) : few22 L = false := by
  rcases hh : few22 L with _ | _
  · rfl
  · exfalso
    obtain ⟨h1, h2⟩ := few22_ok hh
    refine h ⟨h1, fun k hk => ?_⟩
    rw [List.getD_eq_getElem?_getD, List.getElem?_eq_getElem hk]
    exact h2 _ (List.getElem_mem hk)
theorem few22_yes {L : List ByteArray} (h1 : L.length ≤ 20) (h2 : ∀ k, k < L.length → (L.getD k e0).size ≤ 200) : few22 L = true := by
  unfold few22
  simp only [Bool.and_eq_true, decide_eq_true_eq, List.all_eq_true]
  refine ⟨h1, fun b hb => ?_⟩
  obtain ⟨k, hk, rfl⟩ := List.mem_iff_getElem.1 hb
  have := h2 k hk
  rw [List.getD_eq_getElem?_getD, List.getElem?_eq_getElem hk] at this
  exact this
end
end Go.Proofs.YtnolnhpmpjgnaaaGreatDoor

/- What is proved here: what the document's numbers that came in answer, and what becomes of them. Condition: there are few. -/
import Derived.Test.YtbicoiciapngdaaPairs25
import Derived.Test.YtbicoiciapngdaaRef23
import Derived.OwnWalk
import Derived.Outline
namespace Go.Proofs.Ytbicoiciapngdaa
open Go.RowKit Go.Extern.Stop Go.Stop Go.Extern Go.Maps

theorem Try.pairInfo : (Try.prog.info? 92).map (fun i => (i.zero, i.size, i.bytes)) = some (some (.agg #[.int .i64 0, .int .i64 0]), 2, 16) := by kernel_rfl
/-- Block g holds the document's numbers that came in. -/
structure IsRefI (w : World) (B g : Nat) (most : Int) (L : PL) : Prop where
  is : ∃ v, Blk w g 77 #[.int .i64 most, v] ∧ w.ownsRow B 92 2 v L.length (pcells L)
  at_ : B ≤ g
/-- What a method may change: its own block, and rows of pairs. -/
def NearI (B g : Nat) (w w' : World) : Prop := ∃ X, Fr X w w' ∧ ∀ b ∈ X, B ≤ b ∧ (b = g ∨ ∃ cur f, w.heap[b]? = some (.cells cur 92 f))
section
variable {w : World} {B g : Nat} {most : Int} {L : PL}
theorem IsRefI.then (h : IsRefI w B g most L) {w' : World} (hf : Fr [] w w') : IsRefI w' B g most L := by
  obtain ⟨⟨v, b1, r1⟩, hB⟩ := h
  exact ⟨⟨v, b1.fr hf (by simp), row_fr r1 hf (by simp)⟩, hB⟩
theorem refi_find_no (h : IsRefI w B g most L) (hl : L.length ≤ 100000) (x : Int) (hn : No25 L x) :
    Calls Try.prog 57 #[.pointer (some ⟨g, 0, none⟩), .int .i64 x] w fun e w' => e = .returned (.int .i64 (-1)) ∧ w = w' := by
  obtain ⟨⟨v, h1, h2⟩, _⟩ := h
  have c2 := h1.cell 1
  rcases h2.2 with ⟨rfl, h0⟩ | ⟨gr, cap, cur, rfl, hB, hh, hlc, hcm, hcs, htk⟩
  · have hL : L = [] := List.eq_nil_of_length_eq_zero h0
    subst hL
    clear hn
    go_enter Try.func57, Try.ntmps57
    go_wp2
    go_loop [5] (fun i => i = .int .i64 0) (fun _ => 0)
    case atStart => exact rfl
    case round =>
      subst hrel
      go_wp2
      go_ret
      exact ⟨rfl, rfl⟩
  · have hcell : ∀ j, j < L.length → w.cell? ⟨gr, j * 2, none⟩ = some (.int .i64 (L.getD j (0, 0)).1) := fun j hj => by
      rw [h2.cellAt (j * 2) (by omega)]
      exact (pcells_get L j hj).1
    have HC := Lib.hid hcell
    have HN := Lib.hid hn
    clear hcell h1 h2 hn
    go_enter Try.func57, Try.ntmps57
    go_wp2
    go_loop [5] (fun i => ∃ k : Nat, k ≤ L.length ∧ i = .int .i64 k) (fun i => L.length - (intOf i).toNat)
    case atStart => exact ⟨0, Nat.zero_le _, rfl⟩
    case round =>
      obtain ⟨k, hk, rfl⟩ := hrel
      by_cases hlt : k < L.length
      · have c := HC.out k hlt
        have hb := beq_eq_false_iff_ne.2 (HN.out k hlt)
        generalize (L.getD k (0, 0)).1 = y at *
        go_wp2
        go_round
        case rel => exact ⟨k + 1, by omega, by go_num⟩
        case measure => simp [intOf]; omega
      · obtain rfl : k = L.length := by omega
        go_wp2
        go_ret
        exact ⟨rfl, rfl⟩
theorem refi_find (h : IsRefI w B g most L) (hl : L.length ≤ 100000) (x : Int) {n : Nat} (hn : At25 L x n) :
    Calls Try.prog 57 #[.pointer (some ⟨g, 0, none⟩), .int .i64 x] w fun e w' => e = .returned (.int .i64 n) ∧ w = w' := by
  obtain ⟨⟨v, h1, h2⟩, _⟩ := h
  obtain ⟨n1, n2, n3⟩ := hn
  have c2 := h1.cell 1
  rcases h2.2 with ⟨rfl, h0⟩ | ⟨gr, cap, cur, rfl, hB, hh, hlc, hcm, hcs, htk⟩
  · omega
  · have hcell : ∀ j, j < L.length → w.cell? ⟨gr, j * 2, none⟩ = some (.int .i64 (L.getD j (0, 0)).1) := fun j hj => by
      rw [h2.cellAt (j * 2) (by omega)]
      exact (pcells_get L j hj).1
    have HC := Lib.hid hcell
    have HN := Lib.hid n3
    have HE := Lib.hid n2
    clear hcell h1 h2 n2 n3
    go_enter Try.func57, Try.ntmps57
    go_wp2
    go_loop [5] (fun i => ∃ k : Nat, k ≤ n ∧ i = .int .i64 k) (fun i => n - (intOf i).toNat)
    case atStart => exact ⟨0, Nat.zero_le _, rfl⟩
    case round =>
      obtain ⟨k, hk, rfl⟩ := hrel
      by_cases hlt : k < n
      · have hkl : k < L.length := by omega
        have c := HC.out k hkl
        have hb := beq_eq_false_iff_ne.2 (HN.out k hlt)
        generalize (L.getD k (0, 0)).1 = y at *
        go_wp2
        go_round
        case rel => exact ⟨k + 1, by omega, by go_num⟩
        case measure => simp [intOf]; omega
      · obtain rfl : k = n := by omega
        have c := HC.out k n1
        have hb := beq_iff_eq.2 HE.out
        generalize (L.getD k (0, 0)).1 = y at *
        go_wp2
        go_ret
        exact ⟨rfl, rfl⟩
end
end Go.Proofs.Ytbicoiciapngdaa

/- What is proved here: who has the least number: as the package and the document have it. Conditions: the texts and numbers stand where the slices say; few of them. -/
import Derived.Test.YtkjghlmlfanafaaRRob32
import Derived.Lib.Hide
namespace Go.Proofs.Ytkjghlmlfanafaa
open Go.RowKit Go.Extern.Stop Go.Stop Go.Extern
/-- These numbers stand at an address, if there are any. -/
def IRd (w : World) (A : Option Addr) (q : Nat) (Z : Nat → Int) : Prop := 0 < q → ∃ g off, A = some ⟨g, off, none⟩ ∧ ∀ k, k < q → w.cell? ⟨g, off + k, none⟩ = some (.int .i64 (Z k))
/-- The number of the one at a place. -/
def cntOf (q : Nat) (Z : Nat → Int) (k : Nat) : Int := if k < q then Z k else 0
/-- Who has the least number of the first k, and that number. -/
def leastTo (F : List ByteArray) (c : Nat → Int) : Nat → ByteArray × Int
  | 0 => (e0, 0)
  | k + 1 => if k = 0 ∨ c k < (leastTo F c k).2 then (F.getD k e0, c k) else leastTo F c k
def leastF (F : List ByteArray) (q : Nat) (Z : Nat → Int) : ByteArray := (leastTo F (cntOf q Z) F.length).1
section
variable {w w' : World} {A C : Option Addr} {F : List ByteArray}
theorem least_one (F : List ByteArray) (c : Nat → Int) : leastTo F c 1 = (F.getD 0 e0, c 0) := if_pos (.inl rfl)
theorem least_in (F : List ByteArray) (c : Nat → Int) {k : Nat} (h : c (k + 1) < (leastTo F c (k + 1)).2) : leastTo F c (k + 2) = (F.getD (k + 1) e0, c (k + 1)) := if_pos (.inr h)
theorem least_out (F : List ByteArray) (c : Nat → Int) {k : Nat} (h : ¬ c (k + 1) < (leastTo F c (k + 1)).2) : leastTo F c (k + 2) = leastTo F c (k + 1) := if_neg (by rintro (h' | h'); omega; exact h h')
theorem least_any (h : SRd w A F) (n c : Nat) (hn : n = F.length) (hm : n ≤ 1000) (q d : Nat) (Z : Nat → Int) (hz : IRd w C q Z) (hq : q ≤ 1000) :
    Calls Try.prog 38 #[.slice A n c, .slice C q d] w fun x w' => x = .returned (.string (leastF F q Z)) ∧ w = w' := by
  by_cases hp : 0 < n
  · obtain ⟨g, off, rfl, HC⟩ := h.cells (by omega)
    have HL := Lib.hid hn
    have HF := Lib.hid (show leastF F q Z = (leastTo F (cntOf q Z) n).1 by rw [hn]; rfl)
    have HZ := Lib.hid hz
    clear h hn hz
    obtain ⟨cn, hcn⟩ : ∃ f, f = cntOf q Z := ⟨_, rfl⟩
    rw [← hcn] at HF
    have HCN := Lib.hid hcn
    clear hcn
    go_enter Try.func38, Try.ntmps38
    go_wp2_with fail
    go_loop [5, 6, 12] (fun b m i => ∃ k : Nat, k ≤ n ∧ i = .int .i64 k ∧ b = .string (leastTo F cn k).1 ∧ m = .int .i64 (leastTo F cn k).2) (fun _ _ i => n - (intOf i).toNat)
    case atStart => exact ⟨0, by omega, rfl, rfl, rfl⟩
    case round =>
      obtain ⟨k, hk, rfl, rfl, rfl⟩ := hrel
      by_cases hlt : k < n
      · have c0 := HC.out k (by rw [← HL.out]; exact hlt)
        by_cases hkq : k < q
        · obtain ⟨g2, off2, rfl, hc2⟩ := HZ.out (by omega)
          have c1 := hc2 k hkq
          have hck : Z k = cn k := by rw [HCN.out]; unfold cntOf; rw [if_pos hkq]
          rw [hck] at c1
          clear hc2 hck
          rcases Nat.eq_zero_or_pos k with rfl | hk0
          · have HE := Lib.hid (least_one F cn)
            have c0' : w.cell? ⟨g, off, none⟩ = some (.string (F.getD 0 e0)) := c0
            have c1' : w.cell? ⟨g2, off2, none⟩ = some (.int .i64 (cn 0)) := c1
            clear c0 c1
            generalize leastTo F cn 0 = st at *
            generalize F.getD 0 e0 = y at *
            generalize cn 0 = z at *
            go_wp2_with fail
            go_round
            case rel => exact ⟨1, by omega, by go_num, by rw [HE.out], by rw [HE.out]⟩
            case measure => simp [intOf]; omega
          · obtain ⟨k, rfl⟩ : ∃ j, k = j + 1 := ⟨k - 1, by omega⟩
            by_cases hlt2 : cn (k + 1) < (leastTo F cn (k + 1)).2
            · have HE := Lib.hid (least_in F cn hlt2)
              generalize leastTo F cn (k + 1) = st at *
              generalize F.getD (k + 1) e0 = y at *
              generalize cn (k + 1) = z at *
              go_wp2_with fail
              go_round
              case rel => exact ⟨k + 2, by omega, by go_num, by rw [HE.out], by rw [HE.out]⟩
              case measure => simp [intOf]; omega
            · have HE := Lib.hid (least_out F cn hlt2)
              generalize leastTo F cn (k + 1) = st at *
              generalize F.getD (k + 1) e0 = y at *
              generalize cn (k + 1) = z at *
              go_wp2_with fail
              go_round
              case rel => exact ⟨k + 2, by omega, by go_num, by rw [HE.out], by rw [HE.out]⟩
              case measure => simp [intOf]; omega
        · have hck : cn k = 0 := by rw [HCN.out]; unfold cntOf; rw [if_neg hkq]
          rcases Nat.eq_zero_or_pos k with rfl | hk0
          · have HE := Lib.hid ((least_one F cn).trans (by rw [hck]))
            have c0' : w.cell? ⟨g, off, none⟩ = some (.string (F.getD 0 e0)) := c0
            clear hck c0
            generalize leastTo F cn 0 = st at *
            generalize F.getD 0 e0 = y at *
            go_wp2_with fail
            go_round
            case rel => exact ⟨1, by omega, by go_num, by rw [HE.out], by rw [HE.out]⟩
            case measure => simp [intOf]; omega
          · obtain ⟨k, rfl⟩ : ∃ j, k = j + 1 := ⟨k - 1, by omega⟩
            by_cases hlt2 : cn (k + 1) < (leastTo F cn (k + 1)).2
            · have HE := Lib.hid ((least_in F cn hlt2).trans (by rw [hck]))
              rw [hck] at hlt2
              clear hck
              generalize leastTo F cn (k + 1) = st at *
              generalize F.getD (k + 1) e0 = y at *
              go_wp2_with fail
              go_round
              case rel => exact ⟨k + 2, by omega, by go_num, by rw [HE.out], by rw [HE.out]⟩
              case measure => simp [intOf]; omega
            · have HE := Lib.hid (least_out F cn hlt2)
              rw [hck] at hlt2
              clear hck
              generalize leastTo F cn (k + 1) = st at *
              generalize F.getD (k + 1) e0 = y at *
              go_wp2_with fail
              go_round
              case rel => exact ⟨k + 2, by omega, by go_num, by rw [HE.out], by rw [HE.out]⟩
              case measure => simp [intOf]; omega
      · obtain rfl : k = n := by omega
        generalize leastTo F cn k = st at *
        go_wp2_with fail
        go_ret
        exact ⟨ret_str HF.out.symm, rfl⟩
  · obtain ⟨rfl, rfl⟩ := nil_of hn hp
    have HF := Lib.hid (show leastF [] q Z = e0 from rfl)
    clear h hn hm hp hz
    go_enter Try.func38, Try.ntmps38
    go_wp2_with fail
    go_loop [5, 6, 12] (fun b m i => b = .string ⟨#[]⟩ ∧ m = .int .i64 0 ∧ i = .int .i64 0) (fun _ _ _ => 0)
    case atStart => exact ⟨rfl, rfl, rfl⟩
    case round =>
      obtain ⟨rfl, rfl, rfl⟩ := hrel
      go_wp2_with fail
      go_ret
      exact ⟨ret_str HF.out.symm, rfl⟩
end
end Go.Proofs.Ytkjghlmlfanafaa

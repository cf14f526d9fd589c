/- What is proved here: who has the least number, as the document has it. Conditions: the texts and numbers stand where the slices say; few of them. -/
import Derived.Test.YtkjghlmlfanafaaLeast32
namespace Go.Proofs.Ytkjghlmlfanafaa
open Go.RowKit Go.Extern.Stop Go.Stop Go.Extern
section
variable {w w' : World} {A C : Option Addr} {F : List ByteArray}
theorem rleast_any (h : SRd w A F) (n c : Nat) (hn : n = F.length) (hm : n ≤ 1000) (q d : Nat) (Z : Nat → Int) (hz : IRd w C q Z) (hq : q ≤ 1000) :
    Calls Try.prog 39 #[.slice A n c, .slice C q d] w fun x w' => x = .returned (.string (leastF F q Z)) ∧ w = w' := by
  by_cases hp : 0 < n
  · obtain ⟨g, off, rfl, HC⟩ := h.cells (by omega)
    have HL := Lib.hid hn
    have HF := Lib.hid (show leastF F q Z = (leastTo F (cntOf q Z) n).1 by rw [hn]; rfl)
    have HZ := Lib.hid hz
    clear h hn hz
    obtain ⟨cn, hcn⟩ : ∃ f, f = cntOf q Z := ⟨_, rfl⟩
    rw [← hcn] at HF
    have HCN := Lib.hid hcn
    clear hcn
    go_enter Try.func39, Try.ntmps39
    go_wp2_with fail
    go_loop [5, 6, 7] (fun b m i => ∃ k : Nat, k ≤ n ∧ i = .int .i64 k ∧ ((k = 0 ∧ b = .int .i64 (-1) ∧ m = .int .i64 0) ∨ ∃ (j : Nat) (z : Int), j < k ∧ b = .int .i64 j ∧ m = .int .i64 z ∧ Hid (leastTo F cn k = (F.getD j e0, z)))) (fun _ _ i => n - (intOf i).toNat)
    case atStart => exact ⟨0, by omega, rfl, .inl ⟨rfl, rfl, rfl⟩⟩
    case round =>
      obtain ⟨k, hk, rfl, hst⟩ := hrel
      by_cases hlt : k < n
      · obtain ⟨ck, hck⟩ : ∃ z, z = cn k := ⟨_, rfl⟩
        have HCK := Lib.hid hck
        rcases hst with ⟨rfl, rfl, rfl⟩ | ⟨j, z, hjk, rfl, rfl, HS⟩
        · have HE := Lib.hid (show leastTo F cn 1 = (F.getD 0 e0, ck) by rw [hck]; exact least_one F cn)
          by_cases hkq : 0 < q
          · obtain ⟨g2, off2, rfl, hc2⟩ := HZ.out (by omega)
            have c1 : w.cell? ⟨g2, off2, none⟩ = some (.int .i64 ck) := (hc2 0 hkq).trans (by rw [hck, HCN.out]; unfold cntOf; rw [if_pos hkq])
            clear hc2 hck
            go_wp2_with fail
            go_round
            case rel => exact ⟨1, by omega, by go_num, .inr ⟨0, ck, by omega, rfl, rfl, HE⟩⟩
            case measure => simp [intOf]; omega
          · obtain rfl : ck = 0 := by rw [hck, HCN.out]; unfold cntOf; rw [if_neg hkq]
            clear hck
            go_wp2_with fail
            go_round
            case rel => exact ⟨1, by omega, by go_num, .inr ⟨0, 0, by omega, rfl, rfl, HE⟩⟩
            case measure => simp [intOf]; omega
        · obtain ⟨k, rfl⟩ : ∃ j, k = j + 1 := ⟨k - 1, by omega⟩
          by_cases hlt2 : ck < z
          · have HE := Lib.hid (show leastTo F cn (k + 2) = (F.getD (k + 1) e0, ck) by rw [hck]; exact least_in F cn (by rw [HS.out, ← hck]; exact hlt2))
            by_cases hkq : k + 1 < q
            · obtain ⟨g2, off2, rfl, hc2⟩ := HZ.out (by omega)
              have c1 : w.cell? ⟨g2, off2 + (k + 1), none⟩ = some (.int .i64 ck) := (hc2 (k + 1) hkq).trans (by rw [hck, HCN.out]; unfold cntOf; rw [if_pos hkq])
              clear hc2 hck
              go_wp2_with fail
              go_round
              case rel => exact ⟨k + 2, by omega, by go_num, .inr ⟨k + 1, ck, by omega, by go_num, rfl, HE⟩⟩
              case measure => simp [intOf]; omega
            · obtain rfl : ck = 0 := by rw [hck, HCN.out]; unfold cntOf; rw [if_neg hkq]
              clear hck
              go_wp2_with fail
              go_round
              case rel => exact ⟨k + 2, by omega, by go_num, .inr ⟨k + 1, 0, by omega, by go_num, rfl, HE⟩⟩
              case measure => simp [intOf]; omega
          · have HE := Lib.hid (show leastTo F cn (k + 2) = (F.getD j e0, z) from (least_out F cn (by rw [HS.out, ← hck]; exact hlt2)).trans HS.out)
            by_cases hkq : k + 1 < q
            · obtain ⟨g2, off2, rfl, hc2⟩ := HZ.out (by omega)
              have c1 : w.cell? ⟨g2, off2 + (k + 1), none⟩ = some (.int .i64 ck) := (hc2 (k + 1) hkq).trans (by rw [hck, HCN.out]; unfold cntOf; rw [if_pos hkq])
              clear hc2 hck
              go_wp2_with fail
              go_round
              case rel => exact ⟨k + 2, by omega, by go_num, .inr ⟨j, z, by omega, rfl, rfl, HE⟩⟩
              case measure => simp [intOf]; omega
            · obtain rfl : ck = 0 := by rw [hck, HCN.out]; unfold cntOf; rw [if_neg hkq]
              clear hck
              go_wp2_with fail
              go_round
              case rel => exact ⟨k + 2, by omega, by go_num, .inr ⟨j, z, by omega, rfl, rfl, HE⟩⟩
              case measure => simp [intOf]; omega
      · obtain rfl : k = n := by omega
        rcases hst with ⟨h0, _⟩ | ⟨j, z, hjk, rfl, rfl, HS⟩
        · omega
        · have c1 := HC.out j (by rw [← HL.out]; exact hjk)
          have HA := Lib.hid (show F.getD j e0 = leastF F q Z by rw [HF.out, HS.out])
          clear HS
          generalize F.getD j e0 = y at *
          go_wp2_with fail
          go_ret
          exact ⟨ret_str HA.out, rfl⟩
  · obtain ⟨rfl, rfl⟩ := nil_of hn hp
    have HF := Lib.hid (show leastF [] q Z = e0 from rfl)
    clear h hn hm hp hz
    go_enter Try.func39, Try.ntmps39
    go_wp2_with fail
    go_loop [5, 6, 7] (fun b m i => b = .int .i64 (-1) ∧ m = .int .i64 0 ∧ i = .int .i64 0) (fun _ _ _ => 0)
    case atStart => exact ⟨rfl, rfl, rfl⟩
    case round =>
      obtain ⟨rfl, rfl, rfl⟩ := hrel
      go_wp2_with fail
      go_ret
      exact ⟨ret_str HF.out.symm, rfl⟩
end
end Go.Proofs.Ytkjghlmlfanafaa

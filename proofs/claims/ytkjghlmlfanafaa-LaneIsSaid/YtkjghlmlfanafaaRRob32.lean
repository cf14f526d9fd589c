/- What is proved here: who is next of those that are free, as the document has it. Conditions: the texts stand where the slices say; few of them. -/
import Derived.Test.YtkjghlmlfanafaaRob32
import Derived.Deep.Cut
import Derived.Deep.CutRange
import Derived.Deep.CutBlock
namespace Go.Proofs.Ytkjghlmlfanafaa
open Go.RowKit Go.Extern.Stop Go.Stop Go.Extern
section
variable {w w' : World} {A B : Option Addr} {L F : List ByteArray}
theorem behind_hit {k : Nat} {v : ByteArray} (hk : k < L.length) (hx : L.getD k e0 = v) (hno : ∀ j, j < k → L.getD j e0 ≠ v) : behind L v = k + 1 := by
  have := idx_at hk hx hno
  have := behind_int L v
  omega
theorem behind_none {v : ByteArray} (hno : ∀ j, j < L.length → L.getD j e0 ≠ v) : behind L v = 0 := by
  have := idx_no (e := e0) hno
  have := behind_int L v
  omega
theorem rrobin_any (h : SRd w A L) (n c : Nat) (hn : n = L.length) (hm : n ≤ 1000) (hf : SRd w B F) (m d : Nat) (hmF : m = F.length) (hm2 : m ≤ 1000) (v : ByteArray) :
    Calls Try.prog 35 #[.slice A n c, .slice B m d, .string v] w fun x w' => x = .returned (.string (robF L F v)) ∧ w = w' := by
  have HK := Lib.hid (fun s => in_any hf m d hmF hm2 s)
  have hbl := behind_le L v
  have BA := Lib.hid (fun k hk hx hno => behind_hit (L := L) (k := k) (v := v) hk hx hno)
  have BN := Lib.hid (fun hno => behind_none (L := L) (v := v) hno)
  have RA := Lib.hid (fun k hk hx hno => rob_at (L := L) (F := F) (k := k) (last := v) hk hx hno)
  have RN := Lib.hid (fun hno => rob_no (L := L) (F := F) (last := v) hno)
  generalize behind L v = f at *
  by_cases hp : 0 < n
  · obtain ⟨g, off, rfl, HC⟩ := h.cells (by omega)
    have HL := Lib.hid hn
    rw [← hn] at hbl
    clear h hf hn hmF
    go_enter Try.func35, Try.ntmps35
    go_upto_block 0 with fail
    go_cut [7] from 8 to 24 (fun s7 wx => s7 = .int .i64 f ∧ wx = w)
    case first =>
      go_wp2_with fail
      go_loop [7, 8] (fun z i => z = .int .i64 0 ∧ ∃ k : Nat, k ≤ n ∧ i = .int .i64 k ∧ Hid (∀ j, j < k → L.getD j e0 ≠ v)) (fun _ i => n - (intOf i).toNat)
      case atStart => exact ⟨rfl, 0, by omega, rfl, Lib.hid fun j hj => absurd hj (by omega)⟩
      case round =>
        obtain ⟨rfl, k, hk, rfl, HP⟩ := hrel
        by_cases hlt : k < n
        · have c0 := HC.out k (by rw [← HL.out]; exact hlt)
          have he := eq_text (L.getD k e0) v
          by_cases hv : L.getD k e0 = v
          · rw [decide_eq_true hv] at he
            have HE := Lib.hid (BA.out k (by rw [← HL.out]; exact hlt) hv HP.out)
            clear hv
            generalize L.getD k e0 = y at *
            go_wp2_with fail
            go_meet
            exact ⟨by rw [HE.out]; rfl, rfl⟩
          · rw [decide_eq_false hv] at he
            have HE := Lib.hid (show ∀ j, j < k + 1 → L.getD j e0 ≠ v from fun j hj => by
              by_cases hjk : j = k
              · subst hjk; exact hv
              · exact HP.out j (by omega))
            clear hv
            generalize L.getD k e0 = y at *
            go_wp2_with fail
            go_round
            case rel => exact ⟨rfl, k + 1, by omega, by go_num, HE⟩
            case measure => simp [intOf]; omega
        · have HE := Lib.hid (BN.out fun j hj => HP.out j (by rw [← HL.out] at hj; omega))
          go_wp2_with fail
          go_meet
          exact ⟨by rw [HE.out]; rfl, rfl⟩
    case rest =>
      obtain ⟨rfl, rfl⟩ := hcut
      clear BA BN
      go_wp2_with fail
      go_loop [9] (fun i => ∃ k : Nat, k ≤ n ∧ i = .int .i64 k ∧ Hid (∀ j, j < k → inB F (L.getD ((f + j) % L.length) e0) = false)) (fun i => n - (intOf i).toNat)
      case atStart => exact ⟨0, by omega, rfl, Lib.hid fun j hj => absurd hj (by omega)⟩
      case round =>
        obtain ⟨k, hk, rfl, HP⟩ := hrel
        by_cases hlt : k < n
        · obtain ⟨p, hpd⟩ : ∃ p, p = (f + k) % n := ⟨_, rfl⟩
          have hpn : p < n := by rw [hpd]; exact Nat.mod_lt _ hp
          have hq1 : ((f : Int) + (k : Int)) % (n : Int) = (p : Int) := by rw [hpd]; rfl
          have c0 := HC.out p (by rw [← HL.out]; exact hpn)
          have hw : L.getD ((f + k) % L.length) e0 = L.getD p e0 := by rw [← HL.out, hpd]
          have HW := Lib.hid hw
          have HKK := Lib.hid (HK.out (L.getD p e0))
          clear hpd hw
          cases hin : inB F (L.getD p e0) with
          | true =>
            have HE := Lib.hid (RA.out k (by rw [← HL.out]; exact hlt) (by rw [HW.out]; exact hin) HP.out)
            rw [HW.out] at HE
            rw [hin] at HKK
            clear hin HW
            generalize L.getD p e0 = y at *
            go_wp2_with fail
            refine HKK.out.mono ?_
            rintro x w1 ⟨rfl, rfl⟩
            go_wp2_with fail
            go_ret
            exact ⟨ret_str HE.out.symm, rfl⟩
          | false =>
            have HE := Lib.hid (show ∀ j, j < k + 1 → inB F (L.getD ((f + j) % L.length) e0) = false from fun j hj => by
              by_cases hjk : j = k
              · subst hjk; rw [HW.out]; exact hin
              · exact HP.out j (by omega))
            rw [hin] at HKK
            clear hin HW
            generalize L.getD p e0 = y at *
            go_wp2_with fail
            refine HKK.out.mono ?_
            rintro x w1 ⟨rfl, rfl⟩
            go_wp2_with fail
            go_round
            case rel => exact ⟨k + 1, by omega, by go_num, HE⟩
            case measure => simp [intOf]; omega
        · have HE := Lib.hid (RN.out fun j hj => HP.out j (by rw [← HL.out] at hj; omega))
          go_wp2_with fail
          go_ret
          exact ⟨ret_str HE.out.symm, rfl⟩
  · obtain ⟨rfl, rfl⟩ := nil_of hn hp
    have HE := Lib.hid (RN.out fun j hj => absurd hj (by simp))
    clear h hn hm hp hf RA RN BA BN hbl hmF HK
    go_enter Try.func35, Try.ntmps35
    go_wp2_with fail
    go_loop [7, 8] (fun z i => z = .int .i64 0 ∧ i = .int .i64 0) (fun _ _ => 0)
    case atStart => exact ⟨rfl, rfl⟩
    case round =>
      obtain ⟨rfl, rfl⟩ := hrel
      go_wp2_with fail
      go_loop [9] (fun i => i = .int .i64 0) (fun _ => 0)
      case atStart => rfl
      case round =>
        subst hrel
        go_wp2_with fail
        go_ret
        exact ⟨ret_str HE.out.symm, rfl⟩
end
end Go.Proofs.Ytkjghlmlfanafaa

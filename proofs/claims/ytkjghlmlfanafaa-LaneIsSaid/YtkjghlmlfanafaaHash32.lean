/- What is proved here: whom a key ranks highest, and who has the least number: as the package and the document have it. Conditions: the texts and numbers stand where the slices say; few of them. -/
import Derived.Test.YtkjghlmlfanafaaRRob32
import Derived.Lib.Hide
import Derived.Deep.QuietTactic
import Derived.BigQuiet
namespace Go.Proofs.Ytkjghlmlfanafaa
open Go.RowKit Go.Extern.Stop Go.Stop Go.Extern
theorem best_take (r : ByteArray → Nat) {L : List ByteArray} {k : Nat} (h : k < L.length) : bestOf r e0 (L.take (k + 1)) = bestStep r (bestOf r e0 (L.take k)) (L.getD k e0) := by
  rw [List.take_succ_eq_append_getElem h, List.getD_eq_getElem?_getD, List.getElem?_eq_getElem h]
  unfold bestOf
  rw [List.foldl_append]
  rfl
theorem best_all (r : ByteArray → Nat) {L : List ByteArray} {k : Nat} (h : L.length ≤ k) : bestOf r e0 (L.take k) = bestOf r e0 L := by rw [List.take_of_length_le h]
/-- The best of the first k: its place, and that it is there. -/
theorem best_there (r : ByteArray → Nat) {L : List ByteArray} {k : Nat} (h0 : 0 < k) (h : k ≤ L.length) : ∃ b, b < k ∧ bestOf r e0 (L.take k) = (L.getD b e0, (r (L.getD b e0) : Int)) := by
  have hne : L.take k ≠ [] := by
    intro e
    have := congrArg List.length e
    rw [List.length_take, List.length_nil] at this
    omega
  obtain ⟨h1, h2, _⟩ := best_in r e0 hne
  obtain ⟨b, hb, e⟩ := List.mem_iff_getElem.1 h1
  rw [List.length_take] at hb
  rw [List.getElem_take] at e
  refine ⟨b, by omega, ?_⟩
  have e2 : L.getD b e0 = (bestOf r e0 (L.take k)).1 := by
    rw [List.getD_eq_getElem?_getD, List.getElem?_eq_getElem (by omega)]
    exact e
  rw [e2, ← h2]
theorem rankF_lt (k t : ByteArray) : rankF k t < 4294967296 := mixL_lt _
section
variable {w w' : World} {A B : Option Addr} {L F : List ByteArray}
def hashF (L : List ByteArray) (key : ByteArray) : ByteArray := (bestOf (rankF key) e0 L).1
theorem best_rng (key : ByteArray) (L : List ByteArray) : -1 ≤ (bestOf (rankF key) e0 L).2 ∧ (bestOf (rankF key) e0 L).2 < 4294967296 := by
  by_cases h : L = []
  · subst h; exact ⟨Int.le_refl _, by show (-1 : Int) < 4294967296; omega⟩
  · obtain ⟨_, h2, _⟩ := best_in (rankF key) e0 h
    have := rankF_lt key (bestOf (rankF key) e0 L).1
    rw [h2]
    omega
theorem hash_any (h : SRd w A L) (n c : Nat) (hn : n = L.length) (hm : n ≤ 1000) (hz : ∀ s ∈ L, s.size ≤ 1000) (key : ByteArray) (hk : key.size ≤ 1000) :
    Calls Try.prog 36 #[.slice A n c, .string key] w fun x w' => x = .returned (.string (hashF L key)) ∧ w = w' := by
  have HR := Lib.hid (fun t (ht : t.size ≤ 1000) => rank_any key t w hk ht)
  have BT := Lib.hid (fun k hk => best_take (rankF key) (L := L) (k := k) hk)
  have BA := Lib.hid (fun k hk => congrArg Prod.fst (best_all (rankF key) (L := L) (k := k) hk))
  have BR := Lib.hid (fun k => best_rng key (L.take k))
  have hf : hashF L key = (bestOf (rankF key) e0 L).1 := rfl
  have HF := Lib.hid hf
  clear hf
  by_cases hp : 0 < n
  · obtain ⟨g, off, rfl, HC⟩ := h.cells (by omega)
    have HL := Lib.hid hn
    have HZ := Lib.hid hz
    clear h hn hz
    go_enter Try.func36, Try.ntmps36
    go_wp2_with fail
    go_loop [5, 6, 12] (fun b m i => ∃ k : Nat, k ≤ n ∧ i = .int .i64 k ∧ b = .string (bestOf (rankF key) e0 (L.take k)).1 ∧ m = .int .i64 (bestOf (rankF key) e0 (L.take k)).2) (fun _ _ i => n - (intOf i).toNat)
    case atStart => exact ⟨0, by omega, rfl, rfl, rfl⟩
    case round =>
      obtain ⟨k, hk, rfl, rfl, rfl⟩ := hrel
      have hr1 := (BR.out k).1
      have hr2 := (BR.out k).2
      by_cases hlt : k < n
      · have hlt' : k < L.length := by rw [← HL.out]; exact hlt
        have c0 := HC.out k hlt'
        have hB := BT.out k hlt'
        have hzs : (L.getD k e0).size ≤ 1000 := HZ.out _ (by
          rw [List.getD_eq_getElem?_getD, List.getElem?_eq_getElem hlt']
          exact List.getElem_mem _)
        have HRR := Lib.hid (HR.out _ hzs)
        have hrk := rankF_lt key (L.getD k e0)
        unfold bestStep at hB
        clear hlt'
        by_cases hgt : ((rankF key (L.getD k e0) : Nat) : Int) > (bestOf (rankF key) e0 (L.take k)).2
        · rw [if_pos hgt] at hB
          have HB := Lib.hid hB
          clear hB
          generalize bestOf (rankF key) e0 (L.take k) = st at *
          generalize rankF key (L.getD k e0) = rk at *
          generalize L.getD k e0 = y at *
          go_wp2_with fail
          refine HRR.out.mono ?_
          rintro x w1 ⟨rfl, rfl⟩
          go_wp2_with fail
          go_round
          case rel => exact ⟨k + 1, by omega, by go_num, by rw [HB.out], by rw [HB.out]⟩
          case measure => simp [intOf]; omega
        · rw [if_neg hgt] at hB
          have HB := Lib.hid hB
          clear hB
          generalize bestOf (rankF key) e0 (L.take k) = st at *
          generalize rankF key (L.getD k e0) = rk at *
          generalize L.getD k e0 = y at *
          go_wp2_with fail
          refine HRR.out.mono ?_
          rintro x w1 ⟨rfl, rfl⟩
          go_wp2_with fail
          go_round
          case rel => exact ⟨k + 1, by omega, by go_num, by rw [HB.out], by rw [HB.out]⟩
          case measure => simp [intOf]; omega
      · have HE := Lib.hid ((BA.out k (by rw [← HL.out]; omega)).trans HF.out.symm)
        generalize bestOf (rankF key) e0 (L.take k) = st at *
        go_wp2_with fail
        go_ret
        exact ⟨ret_str HE.out, rfl⟩
  · obtain ⟨rfl, rfl⟩ := nil_of hn hp
    clear h hn hm hp BT BA BR
    go_enter Try.func36, Try.ntmps36
    go_wp2_with fail
    go_loop [5, 6, 12] (fun b m i => b = .string ⟨#[]⟩ ∧ m = .int .i64 (-1) ∧ i = .int .i64 0) (fun _ _ _ => 0)
    case atStart => exact ⟨rfl, rfl, rfl⟩
    case round =>
      obtain ⟨rfl, rfl, rfl⟩ := hrel
      go_wp2_with fail
      go_ret
      exact ⟨ret_str HF.out.symm, rfl⟩
theorem best_next (r : ByteArray → Nat) {L : List ByteArray} {k b : Nat} (hk : k < L.length) (hb : bestOf r e0 (L.take k) = (L.getD b e0, (r (L.getD b e0) : Int))) :
    bestOf r e0 (L.take (k + 1)) = if r (L.getD k e0) > r (L.getD b e0) then (L.getD k e0, (r (L.getD k e0) : Int)) else (L.getD b e0, (r (L.getD b e0) : Int)) := by
  rw [best_take r hk, hb]
  unfold bestStep
  by_cases h : r (L.getD k e0) > r (L.getD b e0)
  · rw [if_pos (by show ((r (L.getD k e0) : Nat) : Int) > (r (L.getD b e0) : Int); omega), if_pos h]
  · rw [if_neg (by show ¬ ((r (L.getD k e0) : Nat) : Int) > (r (L.getD b e0) : Int); omega), if_neg h]
theorem best_one (r : ByteArray → Nat) {L : List ByteArray} (h : 0 < L.length) : bestOf r e0 (L.take 1) = (L.getD 0 e0, (r (L.getD 0 e0) : Int)) := by
  obtain ⟨b, hb, e⟩ := best_there r (k := 1) (by omega) h
  obtain rfl : b = 0 := by omega
  exact e
theorem drew_on {w w1 : World} {j : Nat} (h : w1 = w.drewN j) (k : Nat) : w1.drewN k = w.drewN (j + k) := by rw [h, World.drewN_drewN]
set_option maxHeartbeats 4000000 in
theorem rhash_any (h : SRd w A L) (n c : Nat) (hn : n = L.length) (hm : n ≤ 1000) (hz : ∀ s ∈ L, s.size ≤ 1000) (key : ByteArray) (hk : key.size ≤ 1000) :
    Calls Try.prog 37 #[.slice A n c, .string key] w fun x w' => x = .returned (.string (hashF L key)) ∧ ∃ j, w' = w.drewN j := by
  have HR := Lib.hid (fun t (ht : t.size ≤ 1000) (W : World) => rrank_any key t W hk ht)
  have BN := Lib.hid (fun k b hk hb => best_next (rankF key) (L := L) (k := k) (b := b) hk hb)
  have B1 := Lib.hid (fun h => best_one (rankF key) (L := L) h)
  have BA := Lib.hid (fun k hk => congrArg Prod.fst (best_all (rankF key) (L := L) (k := k) hk))
  have hf : hashF L key = (bestOf (rankF key) e0 L).1 := rfl
  have HF := Lib.hid hf
  clear hf
  by_cases hp : 0 < n
  · obtain ⟨g, off, rfl, HC⟩ := h.cells (by omega)
    have HL := Lib.hid hn
    have HZ := Lib.hid (show ∀ k, k < L.length → (L.getD k e0).size ≤ 1000 from fun k hk => hz _ (by
      rw [List.getD_eq_getElem?_getD, List.getElem?_eq_getElem hk]
      exact List.getElem_mem _))
    clear h hn hz
    go_enter Try.func37, Try.ntmps37
    go_wp2_with fail
    go_loopw [5, 6] (fun bv i wr => ∃ k j : Nat, k ≤ n ∧ i = .int .i64 k ∧ wr = w.drewN j ∧ ((k = 0 ∧ bv = .int .i64 (-1)) ∨ ∃ b : Nat, b < k ∧ bv = .int .i64 b ∧ Hid (bestOf (rankF key) e0 (L.take k) = (L.getD b e0, (rankF key (L.getD b e0) : Int))))) (fun _ i _ => n - (intOf i).toNat)
    case atStart => exact ⟨0, 0, by omega, rfl, rfl, .inl ⟨rfl, rfl⟩⟩
    case round =>
      obtain ⟨k, j0, hk, rfl, hwr, hst⟩ := hrel
      have HW := Lib.hid hwr
      have c00 : ∀ b, b < L.length → wr.cell? ⟨g, off + b, none⟩ = some (.string (L.getD b e0)) := fun b hb => by rw [hwr]; exact HC.out b hb
      clear hwr
      by_cases hlt : k < n
      · have hlt' : k < L.length := by rw [← HL.out]; exact hlt
        have c0 := c00 k hlt'
        rcases hst with ⟨rfl, rfl⟩ | ⟨b, hbk, rfl, HS⟩
        · have HE := Lib.hid (B1.out hlt')
          clear hlt' c00
          go_wp2_with fail
          go_quiet (fail)
          go_wp2_with fail
          go_roundw
          case rel => exact ⟨1, _, by omega, by go_num, drew_on HW.out _, .inr ⟨0, by omega, rfl, HE⟩⟩
          case measure => simp [intOf]; omega
        · have hb' : b < L.length := by omega
          have c1 := c00 b hb'
          clear c00
          have HN := Lib.hid (BN.out k b hlt' HS.out)
          have R1 := Lib.hid (HR.out _ (HZ.out k hlt'))
          have R2 := Lib.hid (HR.out _ (HZ.out b hb'))
          have hr1 := rankF_lt key (L.getD k e0)
          have hr2 := rankF_lt key (L.getD b e0)
          clear hlt' hb' HS
          have hbn : b < n := by omega
          have HQ1 := Lib.hid (fun j => Calls.quiet_of_same (((R1.out (wr.drewN j))).mono fun _ _ ⟨e, h⟩ => And.intro e h.symm))
          have HQ2 := Lib.hid (fun j => Calls.quiet_of_same (((R2.out (wr.drewN j))).mono fun _ _ ⟨e, h⟩ => And.intro e h.symm))
          by_cases hgt : rankF key (L.getD k e0) > rankF key (L.getD b e0)
          · have HE := Lib.hid (show ∃ b' : Nat, b' = k ∧ bestOf (rankF key) e0 (L.take (k + 1)) = (L.getD b' e0, (rankF key (L.getD b' e0) : Int)) from ⟨_, rfl, HN.out.trans (if_pos hgt)⟩)
            have hgi : decide (((rankF key (L.getD b e0) : Nat) : Int) < (rankF key (L.getD k e0) : Nat)) = true := decide_eq_true (by omega)
            clear HN R1 R2
            generalize rankF key (L.getD k e0) = r1 at *
            generalize rankF key (L.getD b e0) = r2 at *
            generalize L.getD k e0 = y1 at *
            generalize L.getD b e0 = y2 at *
            go_wp2_with fail
            go_quiet ((go_at_call 32; first | exact HQ1.out _ | exact HQ2.out _))
            go_wp2_with fail
            go_roundw
            case rel =>
              obtain ⟨b', hb', he⟩ := HE.out
              exact ⟨k + 1, _, by omega, by go_num, drew_on HW.out _, .inr ⟨b', by omega, by rw [hb'], Lib.hid he⟩⟩
            case measure => simp [intOf]; omega
          · have HE := Lib.hid (show ∃ b' : Nat, b' = b ∧ bestOf (rankF key) e0 (L.take (k + 1)) = (L.getD b' e0, (rankF key (L.getD b' e0) : Int)) from ⟨_, rfl, HN.out.trans (if_neg hgt)⟩)
            have hgi : decide (((rankF key (L.getD b e0) : Nat) : Int) < (rankF key (L.getD k e0) : Nat)) = false := decide_eq_false (by omega)
            clear HN R1 R2
            generalize rankF key (L.getD k e0) = r1 at *
            generalize rankF key (L.getD b e0) = r2 at *
            generalize L.getD k e0 = y1 at *
            generalize L.getD b e0 = y2 at *
            go_wp2_with fail
            go_quiet ((go_at_call 32; first | exact HQ1.out _ | exact HQ2.out _))
            go_wp2_with fail
            go_roundw
            case rel =>
              obtain ⟨b', hb', he⟩ := HE.out
              exact ⟨k + 1, _, by omega, by go_num, drew_on HW.out _, .inr ⟨b', by omega, by rw [hb'], Lib.hid he⟩⟩
            case measure => simp [intOf]; omega
      · obtain rfl : k = n := by omega
        have HA := Lib.hid ((BA.out k (by rw [← HL.out]; omega)).trans HF.out.symm)
        rcases hst with ⟨h0, _⟩ | ⟨b, hbk, rfl, HS⟩
        · omega
        · have c1 := c00 b (by rw [← HL.out]; exact hbk)
          rw [HS.out] at HA
          have HA := Lib.hid (show L.getD b e0 = hashF L key from HA.out)
          clear c00 HS
          generalize L.getD b e0 = y2 at *
          go_wp2_with fail
          go_ret
          exact ⟨ret_str HA.out, _, HW.out⟩
  · obtain ⟨rfl, rfl⟩ := nil_of hn hp
    clear h hn hm hp B1 BA BN
    go_enter Try.func37, Try.ntmps37
    go_wp2_with fail
    go_loop [5, 6] (fun b i => b = .int .i64 (-1) ∧ i = .int .i64 0) (fun _ _ => 0)
    case atStart => exact ⟨rfl, rfl⟩
    case round =>
      obtain ⟨rfl, rfl⟩ := hrel
      go_wp2_with fail
      go_ret
      exact ⟨ret_str HF.out.symm, 0, rfl⟩
end
end Go.Proofs.Ytkjghlmlfanafaa

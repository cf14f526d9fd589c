/- What is proved here: whether texts are few, and who is next of those that are free: as the package and the document have it. Conditions: the texts stand where the slices say; few of them. -/
import Derived.Test.YtkjghlmlfanafaaStrs32
namespace Go.Proofs.Ytkjghlmlfanafaa
open Go.RowKit Go.Extern.Stop Go.Stop Go.Extern
/-- Few texts, of few bytes. -/
def fewB (L : List ByteArray) : Bool := (L.take 20).all (fun s => decide (s.size ≤ 100)) && decide (L.length ≤ 20)
theorem few_sizes {L : List ByteArray} (h : fewB L = true) : L.length ≤ 20 ∧ ∀ s ∈ L, s.size ≤ 100 := by
  unfold fewB at h
  rw [Bool.and_eq_true, decide_eq_true_eq] at h
  refine ⟨h.2, fun s hs => ?_⟩
  have h1 := h.1
  rw [List.take_of_length_le h.2, List.all_eq_true] at h1
  exact of_decide_eq_true (h1 s hs)
theorem few_bad {L : List ByteArray} {k : Nat} (hk : k < L.length) (h20 : k < 20) (hz : 100 < (L.getD k e0).size) : fewB L = false := by
  unfold fewB
  rw [Bool.and_eq_false_iff]
  refine .inl (Bool.eq_false_iff.2 fun h => ?_)
  rw [List.all_eq_true] at h
  have hm : L.getD k e0 ∈ L.take 20 := by
    rw [List.getD_eq_getElem?_getD, List.getElem?_eq_getElem hk]
    have : (L.take 20)[k]'(by rw [List.length_take]; omega) = L[k] := List.getElem_take ..
    show L[k] ∈ _
    rw [← this]
    exact List.getElem_mem _
  have := of_decide_eq_true (h _ hm)
  omega
theorem few_good {L : List ByteArray} {k : Nat} (hk : L.length ≤ k ∨ 20 ≤ k) (hz : ∀ j, j < k → (L.getD j e0).size ≤ 100) : decide (L.length ≤ 20) = fewB L := by
  unfold fewB
  have h : (L.take 20).all (fun s => decide (s.size ≤ 100)) = true := by
    rw [List.all_eq_true]
    intro s hs
    obtain ⟨j, hj, rfl⟩ := List.mem_iff_getElem.1 hs
    rw [List.length_take] at hj
    have := hz j (by omega)
    rw [List.getD_eq_getElem?_getD, List.getElem?_eq_getElem (by omega)] at this
    rw [List.getElem_take]
    exact decide_eq_true this
  rw [h, Bool.true_and]
section
variable {w w' : World} {A B : Option Addr} {L F : List ByteArray}
theorem few_any (h : SRd w A L) (n c : Nat) (hn : n = L.length) (hm : n ≤ 9223372036854775807) : Calls Try.prog 33 #[.slice A n c] w fun x w' => x = .returned (.bool (fewB L)) ∧ w = w' := by
  by_cases hp : 0 < n
  · obtain ⟨g, off, rfl, HC⟩ := h.cells (by omega)
    have HL := Lib.hid hn
    clear h hn
    go_enter Try.func33, Try.ntmps33
    go_wp2
    go_loop [3] (fun i => ∃ k : Nat, k ≤ n ∧ k ≤ 20 ∧ i = .int .i64 k ∧ Hid (∀ j, j < k → (L.getD j e0).size ≤ 100)) (fun i => 20 - (intOf i).toNat)
    case atStart => exact ⟨0, by omega, by omega, rfl, Lib.hid fun j hj => absurd hj (by omega)⟩
    case round =>
      obtain ⟨k, hk, hk2, rfl, HP⟩ := hrel
      by_cases hlt : k < n ∧ k < 20
      · obtain ⟨hlt, hlt2⟩ := hlt
        have c0 := HC.out k (by rw [← HL.out]; exact hlt)
        by_cases hz : 100 < (L.getD k e0).size
        · have HE := Lib.hid (few_bad (by rw [← HL.out]; exact hlt) hlt2 hz)
          generalize L.getD k e0 = y at *
          go_wp2
          go_ret
          exact ⟨ret_bool HE.out.symm, rfl⟩
        · have HE := Lib.hid (show ∀ j, j < k + 1 → (L.getD j e0).size ≤ 100 from fun j hj => by
            by_cases hjk : j = k
            · subst hjk; omega
            · exact HP.out j (by omega))
          have hz' : (L.getD k e0).size ≤ 100 := by omega
          clear hz
          generalize L.getD k e0 = y at *
          go_wp2
          go_round
          case rel => exact ⟨k + 1, by omega, by omega, by go_num, HE⟩
          case measure => simp [intOf]; omega
      · have HE := Lib.hid (few_good (L := L) (k := k) (by rw [← HL.out]; omega) HP.out)
        have HE := Lib.hid (show decide ((n : Int) ≤ 20) = fewB L by rw [← HE.out, ← HL.out]; exact decide_eq_decide.2 (by omega))
        by_cases hkn : k < n
        · obtain rfl : k = 20 := by omega
          go_wp2
          go_ret
          exact ⟨ret_bool HE.out, rfl⟩
        · go_wp2
          go_ret
          exact ⟨ret_bool HE.out, rfl⟩
  · obtain ⟨rfl, rfl⟩ := nil_of hn hp
    clear h hn hm hp
    go_enter Try.func33, Try.ntmps33
    go_wp2
    go_loop [3] (fun i => i = .int .i64 0) (fun _ => 0)
    case atStart => rfl
    case round =>
      subst hrel
      go_wp2
      go_ret
      exact ⟨ret_bool rfl, rfl⟩
/-- The one behind the last one of those that are free. -/
def robF (L F : List ByteArray) (last : ByteArray) : ByteArray := robinF e0 L (inB F) last
theorem rob_at {k : Nat} {last : ByteArray} (hk : k < L.length) (hx : inB F (L.getD ((behind L last + k) % L.length) e0) = true) (hno : ∀ j, j < k → inB F (L.getD ((behind L last + j) % L.length) e0) = false) :
    robF L F last = L.getD ((behind L last + k) % L.length) e0 := by
  unfold robF robinF
  rw [find_at (e := e0) (k := k) (by rw [rot_len]; exact hk) (by rw [rot_getD _ _ _ _ hk]; exact hx) (fun j hj => by rw [rot_getD _ _ _ _ (by omega)]; exact hno j hj), rot_getD _ _ _ _ hk]
  rfl
theorem rob_no {last : ByteArray} (hno : ∀ j, j < L.length → inB F (L.getD ((behind L last + j) % L.length) e0) = false) : robF L F last = e0 := by
  unfold robF robinF
  rw [find_no (e := e0) (fun j hj => by rw [rot_len] at hj; rw [rot_getD _ _ _ _ hj]; exact hno j hj)]
  rfl
theorem robin_any (h : SRd w A L) (n c : Nat) (hn : n = L.length) (hm : n ≤ 1000) (hf : SRd w B F) (m d : Nat) (hmF : m = F.length) (hm2 : m ≤ 1000) (v : ByteArray) :
    Calls Try.prog 34 #[.slice A n c, .slice B m d, .string v] w fun x w' => x = .returned (.string (robF L F v)) ∧ w = w' := by
  have HI := Lib.hid (index_any h n c hn hm v)
  have HK := Lib.hid (fun s => contains_any hf m d hmF hm2 s)
  have hbi := behind_int L v
  have hbl := behind_le L v
  have h1 := (idx_bd L v).1
  have RA := Lib.hid (fun k hk hx hno => rob_at (L := L) (F := F) (k := k) (last := v) hk hx hno)
  have RN := Lib.hid (fun hno => rob_no (L := L) (F := F) (last := v) hno)
  generalize idxI L v = i at *
  generalize behind L v = f at *
  by_cases hp : 0 < n
  · obtain ⟨g, off, rfl, HC⟩ := h.cells (by omega)
    have HL := Lib.hid hn
    rw [← hn] at hbl
    clear h hf hn hmF
    go_enter Try.func34, Try.ntmps34
    go_wp2_with fail
    refine HI.out.mono ?_
    rintro x w1 ⟨rfl, rfl⟩
    clear HI
    go_wp2_with fail
    clear hbi h1
    go_loop [16] (fun i => ∃ k : Nat, k ≤ n ∧ i = .int .i64 k ∧ Hid (∀ j, j < k → inB F (L.getD ((f + j) % L.length) e0) = false)) (fun i => n - (intOf i).toNat)
    case atStart => exact ⟨0, by omega, rfl, Lib.hid fun j hj => absurd hj (by omega)⟩
    case round =>
      obtain ⟨k, hk, rfl, HP⟩ := hrel
      by_cases hlt : k < n
      · obtain ⟨p, hpd⟩ : ∃ p, p = (f + k) % n := ⟨_, rfl⟩
        have hpn : p < n := by rw [hpd]; exact Nat.mod_lt _ hp
        have hq1 : ((f : Int) + (k : Int)) % (n : Int) = (p : Int) := by rw [hpd]; rfl
        have c0 := HC.out p (by rw [← HL.out]; exact hpn)
        have hw : L.getD ((f + k) % L.length) e0 = L.getD p e0 := by rw [← HL.out, hpd]
        have HW := Lib.hid hw
        have HKK := Lib.hid (HK.out (L.getD p e0))
        clear hpd hw
        cases hin : inB F (L.getD p e0) with
        | true =>
          have HE := Lib.hid (RA.out k (by rw [← HL.out]; exact hlt) (by rw [HW.out]; exact hin) HP.out)
          rw [HW.out] at HE
          rw [hin] at HKK
          clear hin HW
          generalize L.getD p e0 = y at *
          go_wp2_with fail
          refine HKK.out.mono ?_
          rintro x w1 ⟨rfl, rfl⟩
          go_wp2_with fail
          go_ret
          exact ⟨ret_str HE.out.symm, rfl⟩
        | false =>
          have HE := Lib.hid (show ∀ j, j < k + 1 → inB F (L.getD ((f + j) % L.length) e0) = false from fun j hj => by
            by_cases hjk : j = k
            · subst hjk; rw [HW.out]; exact hin
            · exact HP.out j (by omega))
          rw [hin] at HKK
          clear hin HW
          generalize L.getD p e0 = y at *
          go_wp2_with fail
          refine HKK.out.mono ?_
          rintro x w1 ⟨rfl, rfl⟩
          go_wp2_with fail
          go_round
          case rel => exact ⟨k + 1, by omega, by go_num, HE⟩
          case measure => simp [intOf]; omega
      · have HE := Lib.hid (RN.out fun j hj => HP.out j (by rw [← HL.out] at hj; omega))
        go_wp2_with fail
        go_ret
        exact ⟨ret_str HE.out.symm, rfl⟩
  · obtain ⟨rfl, rfl⟩ := nil_of hn hp
    have HE := Lib.hid (RN.out fun j hj => absurd hj (by simp))
    have hbl0 : f ≤ 0 := hbl
    clear h hn hm hp hf RA RN hbl hmF
    go_enter Try.func34, Try.ntmps34
    go_wp2_with fail
    refine HI.out.mono ?_
    rintro x w1 ⟨rfl, rfl⟩
    clear HI
    go_wp2_with fail
    go_loop [16] (fun i => i = .int .i64 0) (fun _ => 0)
    case atStart => rfl
    case round =>
      subst hrel
      go_wp2_with fail
      go_ret
      exact ⟨ret_str HE.out.symm, rfl⟩
end
end Go.Proofs.Ytkjghlmlfanafaa

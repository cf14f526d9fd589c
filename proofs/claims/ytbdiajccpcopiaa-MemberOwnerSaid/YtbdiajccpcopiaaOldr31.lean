/- What is proved here: members stand in the order in which they joined; who owns; and whether one that is connected is an elder. Conditions: the members are there; few of them. -/
import Derived.Test.YtbdiajccpcopiaaLawA31
namespace Go.Proofs.Ytbdiajccpcopiaa
open Go.RowKit Go.Extern.Stop Go.Stop Go.Extern
/-- Members in their order. -/
def Sorted31 (L : ML) (gen : Nat) : Prop := (L.map MV.since).Pairwise (· < ·) ∧ ∀ s ∈ L.map MV.since, s ≤ (gen : Int)
theorem sinces_setq (L : ML) (i : Nat) (q : Int) : (L.set i (setQ (L.getD i m0) q)).map MV.since = L.map MV.since := by
  rw [List.map_set]
  by_cases h : i < L.length
  · refine List.ext_getElem? fun j => ?_
    rw [List.getElem?_set]
    by_cases e : i = j
    · subst e
      rw [if_pos rfl, if_pos (by rw [List.length_map]; exact h), List.getElem?_map, List.getElem?_eq_getElem h, List.getD_eq_getElem?_getD, List.getElem?_eq_getElem h]
      rfl
    · rw [if_neg e]
  · rw [List.set_eq_of_length_le (by rw [List.length_map]; omega)]
theorem sinces_seton (L : ML) (i : Nat) (b : Bool) : (L.set i (setOn (L.getD i m0) b)).map MV.since = L.map MV.since := by
  rw [List.map_set]
  by_cases h : i < L.length
  · refine List.ext_getElem? fun j => ?_
    rw [List.getElem?_set]
    by_cases e : i = j
    · subst e
      rw [if_pos rfl, if_pos (by rw [List.length_map]; exact h), List.getElem?_map, List.getElem?_eq_getElem h, List.getD_eq_getElem?_getD, List.getElem?_eq_getElem h]
      rfl
    · rw [if_neg e]
  · rw [List.set_eq_of_length_le (by rw [List.length_map]; omega)]
theorem Sorted31.more {L : ML} {gen : Nat} (h : Sorted31 L gen) : Sorted31 L (gen + 1) := ⟨h.1, fun s hs => by have := h.2 s hs; omega⟩
theorem actM_sorted (k : Int) (c : ByteArray) (q : Int) (L : ML) (gen : Nat) (h : Sorted31 L gen) : Sorted31 (actM k c q L gen).2.1 (actM k c q L gen).2.2 := by
  unfold actM
  by_cases k1 : k = 1
  · rw [if_pos k1]
    unfold joinM
    by_cases hi : idxM L c = -1
    · rw [if_pos hi]
      refine ⟨?_, fun s hs => ?_⟩
      · show ((L ++ [MV.mk c ((gen : Int) + 1) q true]).map MV.since).Pairwise (· < ·)
        rw [List.map_append, List.pairwise_append]
        refine ⟨h.1, by simp, fun a ha b hb => ?_⟩
        have h1 := h.2 a ha
        obtain rfl : b = (gen : Int) + 1 := by simpa using hb
        omega
      · have hs' : s ∈ (L ++ [MV.mk c ((gen : Int) + 1) q true]).map MV.since := hs
        rw [List.map_append] at hs'
        show s ≤ ((gen + 1 : Nat) : Int)
        rcases List.mem_append.1 hs' with h' | h'
        · have := h.2 s h'; omega
        · obtain rfl : s = (gen : Int) + 1 := by simpa using h'
          omega
    · rw [if_neg hi]
      unfold Sorted31
      rw [sinces_setq]
      exact h
  · rw [if_neg k1]
    by_cases k2 : k = 2
    · rw [if_pos k2]
      unfold leaveM
      by_cases hi : idxM L c = -1
      · rw [if_pos hi]; exact h
      · rw [if_neg hi]
        have hsub : ((L.eraseIdx (idxM L c).toNat).map MV.since).Sublist (L.map MV.since) := (List.eraseIdx_sublist _ _).map _
        exact ⟨h.1.sublist hsub, fun s hs => by have := h.2 s (hsub.subset hs); show s ≤ ((gen + 1 : Nat) : Int); omega⟩
    · rw [if_neg k2]
      by_cases k3 : k = 3 ∨ k = 4
      · rw [if_pos k3]
        unfold onlineM
        by_cases hi : idxM L c = -1
        · rw [if_pos hi]; exact h
        · rw [if_neg hi]
          split
          · exact h
          · have h2 := h.more
            unfold Sorted31 at h2 ⊢
            rw [sinces_seton]
            exact h2
      · rw [if_neg k3]; exact h
theorem since_lt {L : ML} {gen : Nat} (h : Sorted31 L gen) {j k : Nat} (hjk : j < k) (hk : k < L.length) : (L.getD j m0).since < (L.getD k m0).since := by
  have := List.pairwise_iff_getElem.1 h.1 j k (by rw [List.length_map]; omega) (by rw [List.length_map]; omega) hjk
  rw [List.getElem_map, List.getElem_map] at this
  rw [List.getD_eq_getElem?_getD, List.getD_eq_getElem?_getD, List.getElem?_eq_getElem (by omega), List.getElem?_eq_getElem hk]
  exact this
/-- Who owns. -/
def ownerOf (L : ML) : ByteArray := (hereOf L).getD 0 e0
theorem own_first (L : ML) : (∀ j, j < L.length → (L.getD j m0).on = false) ∨ ∃ f, f < L.length ∧ (L.getD f m0).on = true ∧ (∀ j, j < f → (L.getD j m0).on = false) ∧ ownerOf L = (L.getD f m0).client := by
  induction L with
  | nil => exact .inl fun j hj => by cases hj
  | cons p L ih =>
    cases hp : p.on with
    | true =>
      refine .inr ⟨0, by simp, hp, fun j hj => by omega, ?_⟩
      unfold ownerOf hereOf
      rw [List.filter_cons_of_pos hp]
      rfl
    | false =>
      have e : ownerOf (p :: L) = ownerOf L := by
        unfold ownerOf hereOf
        rw [List.filter_cons_of_neg (by rw [hp]; decide)]
      rcases ih with h | ⟨f, h1, h2, h3, h4⟩
      · refine .inl fun j hj => ?_
        rcases j with _ | j
        · exact hp
        · exact h j (by simpa using hj)
      · refine .inr ⟨f + 1, by simpa using h1, h2, fun j hj => ?_, by rw [e]; exact h4⟩
        rcases j with _ | j
        · exact hp
        · exact h3 j (by omega)
/-- Is one that is connected an elder of a client? -/
def olderM (L : ML) (c : ByteArray) (s : Int) : Bool := L.any fun m => !decide (m.client = c) && m.on && decide (m.since < s)
/-- One that is connected, and of whom there is no elder, owns. -/
theorem own_stays {L : ML} {gen : Nat} (hs : Sorted31 L gen) (hnd : (clientsOf L).Nodup) {c : ByteArray} {i : Nat} (hi : idxM L c = i) (hil : i < L.length) (hon : (L.getD i m0).on = true) (hno : olderM L c (L.getD i m0).since = false) : ownerOf L = c := by
  have hci : (L.getD i m0).client = c := by
    have hm : c ∈ clientsOf L := by
      by_cases h : c ∈ clientsOf L
      · exact h
      · have := (idxM_mem L c).2 h; omega
    obtain ⟨j, hj, e⟩ := List.mem_iff_getElem.1 hm
    have hl : (clientsOf L).length = L.length := by unfold clientsOf; rw [List.length_map]
    have hcj : (L.getD j m0).client = c := by
      rw [← clients_get L j (by omega), List.getD_eq_getElem?_getD, List.getElem?_eq_getElem hj]
      exact e
    have := idxM_at (by omega) hcj fun t ht e2 => client_ne hnd ht (by omega) (e2.trans hcj.symm)
    have e3 : i = j := by omega
    rw [e3]; exact hcj
  rcases own_first L with h | ⟨f, h1, h2, h3, h4⟩
  · rw [h i hil] at hon; cases hon
  · rw [h4]
    by_cases hfi : f < i
    · exfalso
      have hlt := since_lt hs hfi hil
      have hne : (L.getD f m0).client ≠ c := fun e => client_ne hnd hfi hil (e.trans hci.symm)
      unfold olderM at hno
      rw [List.any_eq_false] at hno
      have hm : L.getD f m0 ∈ L := by
        rw [List.getD_eq_getElem?_getD, List.getElem?_eq_getElem h1]
        exact List.getElem_mem _
      have := hno _ hm
      rw [decide_eq_false hne, h2, decide_eq_true hlt] at this
      exact this rfl
    · by_cases hif : i < f
      · rw [h3 i hif] at hon; cases hon
      · obtain rfl : f = i := by omega
        exact hci
/-- Who owns is connected, and no one that is connected is an elder. -/
theorem own_eldest {L : ML} {gen : Nat} (hs : Sorted31 L gen) (hnd : (clientsOf L).Nodup) {k : Nat} (hk : k < L.length) (hon : (L.getD k m0).on = true) : ∃ f : Nat, idxM L (ownerOf L) = f ∧ f < L.length ∧ (L.getD f m0).on = true ∧ (L.getD f m0).since ≤ (L.getD k m0).since := by
  rcases own_first L with h | ⟨f, h1, h2, h3, h4⟩
  · rw [h k hk] at hon; cases hon
  · refine ⟨f, idxM_at h1 h4.symm (fun j hj e => client_ne hnd hj h1 (e.trans h4)), h1, h2, ?_⟩
    by_cases hkf : k < f
    · rw [h3 k hkf] at hon; cases hon
    · by_cases e : f = k
      · subst e; exact Int.le_refl _
      · exact Int.le_of_lt (since_lt hs (by omega) hk)
section
variable {w w' : World} {B g : Nat} {v : Value} {L : ML} {gen : Nat}
theorem older_at {c : ByteArray} {s : Int} {k : Nat} (hk : k < L.length) (h : (!decide ((L.getD k m0).client = c) && (L.getD k m0).on && decide ((L.getD k m0).since < s)) = true) : olderM L c s = true := by
  unfold olderM
  rw [List.any_eq_true]
  refine ⟨L.getD k m0, ?_, h⟩
  rw [List.getD_eq_getElem?_getD, List.getElem?_eq_getElem hk]
  exact List.getElem_mem _
theorem older_no {c : ByteArray} {s : Int} (h : ∀ k, k < L.length → (!decide ((L.getD k m0).client = c) && (L.getD k m0).on && decide ((L.getD k m0).since < s)) = false) : olderM L c s = false := by
  unfold olderM
  rw [List.any_eq_false]
  intro m hm
  obtain ⟨k, hk, rfl⟩ := List.mem_iff_getElem.1 hm
  have := h k hk
  rw [List.getD_eq_getElem?_getD, List.getElem?_eq_getElem hk] at this
  exact Bool.eq_false_iff.1 this
set_option maxHeartbeats 1000000 in
theorem older_any (h : MObj w B g v L gen) (hm : L.length ≤ 900) (c : ByteArray) (s : Int) : Calls Try.prog 27 #[.pointer (some ⟨g, 0, none⟩), .string c, .int .i64 s] w fun x w' => x = .returned (.bool (olderM L c s)) ∧ Below w.heap.size w w' := by
  have HAL := Lib.hid (all_any h (by omega))
  have HA := Lib.hid (fun k hk h => older_at (L := L) (c := c) (s := s) (k := k) hk h)
  have HN := Lib.hid (fun h => older_no (L := L) (c := c) (s := s) h)
  clear h
  obtain ⟨n, hn⟩ : ∃ n, n = L.length := ⟨_, rfl⟩
  have HL := Lib.hid hn
  go_enter Try.func27, Try.ntmps27
  go_wp2_with fail
  refine HAL.out.mono ?_
  rintro x w1 ⟨va, rfl, ho, hb⟩
  obtain ⟨aa, ac, rfl⟩ : ∃ a c, va = .slice a n c := by
    rw [hn]
    rcases ho.2 with ⟨rfl, h0⟩ | ⟨gr, cap, cur, rfl, _⟩
    · exact ⟨none, 0, by rw [h0]⟩
    · exact ⟨_, _, rfl⟩
  have HR := Lib.hid (row_mrd (show w1.ownsRow w.heap.size 37 4 (.slice aa n ac) L.length (mcs L) from ho))
  have HB := Lib.hid hb
  have hn9 : n ≤ 900 := by omega
  clear ho hb HAL hn hm
  go_wp2_with fail
  go_loop [8] (fun i => ∃ k : Nat, k ≤ n ∧ i = .int .i64 k ∧ Hid (∀ j, j < k → (!decide ((L.getD j m0).client = c) && (L.getD j m0).on && decide ((L.getD j m0).since < s)) = false)) (fun i => n - (intOf i).toNat)
  case atStart => exact ⟨0, by omega, rfl, Lib.hid fun j hj => absurd hj (by omega)⟩
  case round =>
    obtain ⟨k, hk, rfl, HP⟩ := hrel
    by_cases hlt : k < n
    · obtain ⟨g1, off, rfl, hcc⟩ := HR.out (by have := HL.out; omega)
      obtain ⟨c1, c2, c3, c4⟩ := hcc k (by have := HL.out; omega)
      have he := eq_text (L.getD k m0).client c
      obtain ⟨m, hm⟩ : ∃ m, m = L.getD k m0 := ⟨_, rfl⟩
      have HHA := Lib.hid (HA.out k (by have := HL.out; omega))
      have HP2 := Lib.hid (show (!decide ((L.getD k m0).client = c) && (L.getD k m0).on && decide ((L.getD k m0).since < s)) = false → ∀ j, j < k + 1 → (!decide ((L.getD j m0).client = c) && (L.getD j m0).on && decide ((L.getD j m0).since < s)) = false from fun h j hj => by
        by_cases e : j = k
        · subst e; exact h
        · exact HP.out j (by omega))
      rw [← hm] at c1 c2 c3 c4 he HHA HP2
      clear hcc hm
      by_cases hcl : m.client = c
      · rw [decide_eq_true hcl] at he
        have HH := Lib.hid (HP2.out (by rw [decide_eq_true hcl]; rfl))
        clear hcl HP2 HHA
        go_wp2_with fail
        go_round
        case rel => exact ⟨k + 1, by omega, by go_num, HH⟩
        case measure => simp [intOf]; omega
      · rw [decide_eq_false hcl] at he
        cases hon : m.on with
        | false =>
          rw [hon] at c4
          have HH := Lib.hid (HP2.out (by rw [hon]; simp))
          clear hcl HP2 HHA hon
          go_wp2_with fail
          go_round
          case rel => exact ⟨k + 1, by omega, by go_num, HH⟩
          case measure => simp [intOf]; omega
        | true =>
          rw [hon] at c4
          by_cases hsn : m.since < s
          · have HE := Lib.hid (HHA.out (by rw [decide_eq_false hcl, hon, decide_eq_true hsn]; rfl))
            clear hcl HP2 HHA hon
            go_wp2_with fail
            go_ret
            exact ⟨ret_bool HE.out.symm, HB.out⟩
          · have HH := Lib.hid (HP2.out (by rw [decide_eq_false hsn]; simp))
            clear hcl HP2 HHA hon
            go_wp2_with fail
            go_round
            case rel => exact ⟨k + 1, by omega, by go_num, HH⟩
            case measure => simp [intOf]; omega
    · have HE := Lib.hid (HN.out fun j hj => HP.out j (by have := HL.out; omega))
      go_wp2_with fail
      go_ret
      exact ⟨ret_bool HE.out.symm, HB.out⟩
end
end Go.Proofs.Ytbdiajccpcopiaa

/- What is proved here: texts with slashes between them, as the document joins them. Condition: few bytes. -/
import Derived.Test.YtibjnaccdhcbcaaDoorLawA16
namespace Go.Proofs.YtibjnaccdhcbcaaDoor
open Go.RowKit Go.Extern.Stop Go.Stop Go.Extern

theorem ret_str {a b : ByteArray} (h : a = b) : Ending.returned (.string a) = .returned (.string b) := by rw [h]
theorem ls_app (a b : ByteArray) : ls (a ++ b) = ls a ++ ls b := by
  unfold ls
  rw [ByteArray.data_append, Array.toList_append]
theorem join_snoc {L : List BL} (hL : L ≠ []) (x : BL) : joinL (L ++ [x]) = joinL L ++ 47 :: x := by
  induction L with
  | nil => exact absurd rfl hL
  | cons y r ih =>
    cases r with
    | nil => rfl
    | cons z r =>
      show y ++ 47 :: joinL (z :: r ++ [x]) = (y ++ 47 :: joinL (z :: r)) ++ 47 :: x
      rw [ih (by simp), List.append_assoc]
      rfl
theorem join_take {L : List BL} {k : Nat} (h : k < L.length) : joinL (L.take (k + 1)) = if k = 0 then L.getD k [] else joinL (L.take k) ++ 47 :: L.getD k [] := by
  rw [List.take_succ_eq_append_getElem h, List.getD_eq_getElem?_getD, List.getElem?_eq_getElem h]
  rcases k with _ | k
  · rfl
  · rw [if_neg (by omega), join_snoc (by intro e; have := congrArg List.length e; rw [List.length_take, List.length_nil] at this; omega)]
    rfl
theorem join_grow (L : List BL) : ∀ k, (joinL (L.take k)).length ≤ (joinL L).length := by
  intro k
  induction L generalizing k with
  | nil => simp
  | cons x r ih =>
    rcases k with _ | k
    · simp [joinL]
    · rw [List.take_succ_cons]
      cases r with
      | nil => simp
      | cons y r =>
        have := ih k
        rcases k with _ | k
        · show (joinL [x]).length ≤ (x ++ 47 :: joinL (y :: r)).length
          rw [List.length_append]
          exact Nat.le_add_right _ _
        · rw [List.take_succ_cons] at this ⊢
          rw [join_cons x (by simp), join_cons x (by simp)]
          simpa using this
section
variable {w : World}
set_option maxHeartbeats 1000000 in
theorem join_any {A : Option Addr} {c : Nat} {L : List BL} (h : Rd w A L) (hm : (joinL L).length ≤ 1000000) (hl : L.length ≤ 1000000) :
    Calls Tryd.prog 36 #[.slice A L.length c] w fun x w' => x = .returned (.string (bs (joinL L))) ∧ w = w' := by
  rcases Nat.eq_zero_or_pos L.length with h0 | hp
  · have hL : L = [] := List.eq_nil_of_length_eq_zero h0
    subst hL
    clear h hm h0 hl
    simp only [List.length_nil]
    go_enter Tryd.func36, Tryd.ntmps36
    go_wp2_with fail
    go_loop [3, 4] (fun sv iv => sv = .string ⟨#[]⟩ ∧ iv = .int .i64 0) (fun _ _ => 0)
    case atStart => exact ⟨rfl, rfl⟩
    case round =>
      obtain ⟨rfl, rfl⟩ := hrel
      go_wp2_with fail
      go_ret
      exact ⟨rfl, rfl⟩
  · obtain ⟨g, off, rfl, hc⟩ := h hp
    have HC := Lib.hid hc
    clear h hc
    go_enter Tryd.func36, Tryd.ntmps36
    go_wp2_with fail
    go_loop [3, 4] (fun sv iv => ∃ (t : ByteArray) (k : Nat), k ≤ L.length ∧ sv = .string t ∧ iv = .int .i64 k ∧ ls t = joinL (L.take k)) (fun _ iv => L.length - (intOf iv).toNat)
    case atStart => exact ⟨⟨#[]⟩, 0, Nat.zero_le _, rfl, rfl, rfl⟩
    case round =>
      obtain ⟨t, k, hk, rfl, rfl, ht⟩ := hrel
      have HT := Lib.hid ht
      clear ht
      by_cases hlt : k < L.length
      · have c0 := HC.out k hlt
        have HJ := Lib.hid (join_take hlt)
        have hg := join_grow L (k + 1)
        have hts : t.size ≤ 1000000 := by rw [← ls_size, HT.out]; have := join_grow L k; omega
        rcases Nat.eq_zero_or_pos k with h0 | hk0
        · subst h0
          have HJ' := Lib.hid HJ.out
          rw [if_pos rfl] at HJ'
          have hxs : (bs (L.getD 0 [])).size ≤ 1000000 := by rw [bs_size, ← HJ'.out]; omega
          have HE := Lib.hid (show ls (t ++ bs (L.getD 0 [])) = joinL (L.take (0 + 1)) by rw [ls_app, HT.out, ls_bs, HJ'.out]; rfl)
          have c1 : w.cell? ⟨g, off, none⟩ = some (.string (bs (L.getD 0 []))) := c0
          clear hg c0
          generalize bs (L.getD 0 []) = xs at *
          go_wp2_with fail
          go_round
          case rel => exact ⟨_, 0 + 1, by omega, rfl, by go_num, HE.out⟩
          case measure => simp [intOf]; omega
        · have HJ' := Lib.hid HJ.out
          rw [if_neg (by omega)] at HJ'
          have hxs : (bs (L.getD k [])).size ≤ 1000000 := by
            have e := congrArg List.length HJ'.out
            rw [List.length_append, List.length_cons] at e
            rw [bs_size]; omega
          have HE := Lib.hid (show ls (t ++ ⟨#[47]⟩ ++ bs (L.getD k [])) = joinL (L.take (k + 1)) by rw [ls_app, ls_app, HT.out, ls_bs, HJ'.out, List.append_assoc]; rfl)
          have hk1 : (0 : Int) < (k : Int) := by omega
          clear hg
          generalize bs (L.getD k []) = xs at *
          go_wp2_with fail
          go_round
          case rel => exact ⟨_, k + 1, by omega, rfl, by go_num, HE.out⟩
          case measure => simp [intOf]; omega
      · obtain rfl : k = L.length := by omega
        have HE := Lib.hid (show t = bs (joinL L) by rw [← bs_ls t, HT.out, List.take_length])
        go_wp2_with fail
        go_ret
        exact ⟨ret_str HE.out, rfl⟩
end
end Go.Proofs.YtibjnaccdhcbcaaDoor

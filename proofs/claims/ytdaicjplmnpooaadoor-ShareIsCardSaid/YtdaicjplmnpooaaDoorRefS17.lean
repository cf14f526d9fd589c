/- What is proved here: what the document's Text, Few and Strategy answer. Conditions: fewer than a million bytes. -/
import Derived.Test.YtdaicjplmnpooaaDoorLawT17
import Derived.Test.YtdaicjplmnpooaaDoorJoin16
namespace Go.Proofs.YtdaicjplmnpooaaDoor
open Go.RowKit Go.Extern.Stop Go.Stop Go.Extern
theorem strat_pq (p q : UInt8) (r : BL) : strat (p :: q :: r) = if q = 45 then (if p = 115 then 2 else if p = 104 then 3 else if p = 108 then 4 else if p = 120 then 5 else 1) else 1 := by
  have e : ∀ x : UInt8, Lib.hasPrefix (p :: q :: r) [x, 45] = (decide (p = x) && decide (q = 45)) := fun x => by
    unfold Lib.hasPrefix
    simp [List.isPrefixOf, Bool.beq_eq_decide_eq, eq_comm]
  unfold strat
  rw [e, e, e, e]
  by_cases hq : q = 45
  · simp [hq]
  · simp [hq]
theorem byte_at {s : ByteArray} {i : Nat} (h : i < s.size) {p : UInt8} (hp : (ls s)[i]? = some p) : s[i] = p := by
  have e : s[i] = (ls s)[i]'(by rw [ls_size]; exact h) := rfl
  rw [e]
  exact (List.getElem?_eq_some_iff.1 hp).2
section
variable {w : World}
theorem rtext_any (b : Bool) (g f : ByteArray) (hg : g.size ≤ 1000000) (hf : f.size ≤ 1000000) : Calls Tryd.prog 42 #[.agg #[.bool b, .string g, .string f]] w fun x w' => x = .returned (.string (textOf b g f)) ∧ Below w.heap.size w w' := by
  cases b with
  | false =>
    go_enter Tryd.func42, Tryd.ntmps42
    go_wp2_with fail
    go_ret
    exact ⟨rfl, (Below.refl _ _).alloc (Nat.le_refl _) _⟩
  | true =>
    have e : (⟨#[36, 115, 104, 97, 114, 101, 47]⟩ : ByteArray) ++ g ++ ⟨#[47]⟩ ++ f = textOf true g f := by
      show _ = sShare ++ (g ++ ⟨#[47]⟩ ++ f)
      rw [← bs_ls (_ ++ f), ← bs_ls (sShare ++ _)]
      congr 1
    have E := Lib.hid e
    clear e
    go_enter Tryd.func42, Tryd.ntmps42
    go_wp2_with fail
    go_ret
    exact ⟨ret_str E.out, (Below.refl _ _).alloc (Nat.le_refl _) _⟩
theorem few_any (b : Bool) (g f : ByteArray) (hg : g.size ≤ 2 ^ 63 - 1) (hf : f.size ≤ 2 ^ 63 - 1) : Calls Tryd.prog 37 #[.agg #[.bool b, .string g, .string f]] w fun x w' => x = .returned (.bool (decide (g.size ≤ 200) && decide (f.size ≤ 200))) ∧ Below w.heap.size w w' := by
  obtain ⟨v, hv⟩ : ∃ v, v = (decide (g.size ≤ 200) && decide (f.size ≤ 200)) := ⟨_, rfl⟩
  rw [← hv]
  by_cases h1 : 200 < g.size
  · have hv' : v = false := by rw [hv]; simp; omega
    subst hv'
    clear hv
    go_enter Tryd.func37, Tryd.ntmps37
    go_wp2_with fail
    go_ret
    exact ⟨rfl, (Below.refl _ _).alloc (Nat.le_refl _) _⟩
  · have h1' : g.size ≤ 200 := by omega
    clear h1
    by_cases h2 : 200 < f.size
    · have hv' : v = false := by rw [hv]; simp; omega
      subst hv'
      clear hv
      go_enter Tryd.func37, Tryd.ntmps37
      go_wp2_with fail
      go_ret
      exact ⟨ret_bool (decide_eq_false (by omega)), (Below.refl _ _).alloc (Nat.le_refl _) _⟩
    · have h2' : f.size ≤ 200 := by omega
      have hv' : v = true := by rw [hv]; simp; omega
      subst hv'
      clear hv h2
      go_enter Tryd.func37, Tryd.ntmps37
      go_wp2_with fail
      go_ret
      exact ⟨ret_bool (decide_eq_true (by omega)), (Below.refl _ _).alloc (Nat.le_refl _) _⟩
theorem rstrategy_any (s : ByteArray) (hm : s.size ≤ 1000000) : Calls Tryd.prog 46 #[.string s] w fun x w' => x = .returned (.int .i64 (strat (ls s))) ∧ w = w' := by
  by_cases h2 : 2 ≤ s.size
  · obtain ⟨p, q, r, hl⟩ : ∃ p q r, ls s = p :: q :: r := by
      have h := ls_size s
      rcases hs : ls s with _ | ⟨p, _ | ⟨q, r⟩⟩
      · rw [hs] at h; simp at h; omega
      · rw [hs] at h; simp at h; omega
      · exact ⟨p, q, r, rfl⟩
    have e0 : s[0]'(by omega) = p := byte_at _ (by rw [hl]; rfl)
    have e1 : s[1]'(by omega) = q := byte_at _ (by rw [hl]; rfl)
    have ne : ∀ (x : UInt8) (y : UInt8) (n : Int), n = (y.toNat : Int) → x ≠ y → ((x.toNat : Int) == n) = false := by
      rintro x y _ rfl h
      rw [beq_eq_false_iff_ne]
      exact fun h' => h (UInt8.toNat.inj (by omega))
    have ne' : ∀ (x : UInt8) (y : UInt8) (n : Int), n = (y.toNat : Int) → x ≠ y → ((x.toNat : Int) != n) = true := by
      rintro x y _ rfl h
      unfold bne
      rw [ne x y _ rfl h]
      rfl
    rw [hl, strat_pq]
    by_cases hq : q = 45
    · rw [if_pos hq]
      have t1 : (((s[1]'(by omega)).toNat : Int) != 45) = false := by rw [e1, hq]; rfl
      by_cases c1 : p = 115
      · rw [if_pos c1]
        have t2 : (((s[0]'(by omega)).toNat : Int) == 115) = true := by rw [e0, c1]; rfl
        clear ne ne' e0 e1 hl
        go_enter Tryd.func46, Tryd.ntmps46
        go_wp2_with fail
        go_ret
        exact ⟨rfl, rfl⟩
      · rw [if_neg c1]
        have t2 : (((s[0]'(by omega)).toNat : Int) == 115) = false := by rw [e0]; exact ne _ 115 _ rfl c1
        by_cases c2 : p = 104
        · rw [if_pos c2]
          have t3 : (((s[0]'(by omega)).toNat : Int) == 104) = true := by rw [e0, c2]; rfl
          clear ne ne' e0 e1 hl
          go_enter Tryd.func46, Tryd.ntmps46
          go_wp2_with fail
          go_ret
          exact ⟨rfl, rfl⟩
        · rw [if_neg c2]
          have t3 : (((s[0]'(by omega)).toNat : Int) == 104) = false := by rw [e0]; exact ne _ 104 _ rfl c2
          by_cases c3 : p = 108
          · rw [if_pos c3]
            have t4 : (((s[0]'(by omega)).toNat : Int) == 108) = true := by rw [e0, c3]; rfl
            clear ne ne' e0 e1 hl
            go_enter Tryd.func46, Tryd.ntmps46
            go_wp2_with fail
            go_ret
            exact ⟨rfl, rfl⟩
          · rw [if_neg c3]
            have t4 : (((s[0]'(by omega)).toNat : Int) == 108) = false := by rw [e0]; exact ne _ 108 _ rfl c3
            by_cases c4 : p = 120
            · rw [if_pos c4]
              have t5 : (((s[0]'(by omega)).toNat : Int) == 120) = true := by rw [e0, c4]; rfl
              clear ne ne' e0 e1 hl
              go_enter Tryd.func46, Tryd.ntmps46
              go_wp2_with fail
              go_ret
              exact ⟨rfl, rfl⟩
            · rw [if_neg c4]
              have t5 : (((s[0]'(by omega)).toNat : Int) == 120) = false := by rw [e0]; exact ne _ 120 _ rfl c4
              clear ne ne' e0 e1 hl
              go_enter Tryd.func46, Tryd.ntmps46
              go_wp2_with fail
              go_ret
              exact ⟨rfl, rfl⟩
    · rw [if_neg hq]
      have t1 : (((s[1]'(by omega)).toNat : Int) != 45) = true := by rw [e1]; exact ne' _ 45 _ rfl hq
      clear ne ne' e0 e1 hl
      go_enter Tryd.func46, Tryd.ntmps46
      go_wp2_with fail
      go_ret
      exact ⟨rfl, rfl⟩
  · rw [strat_one (by rw [ls_size]; omega)]
    have h1 : s.size < 2 := by omega
    clear h2
    go_enter Tryd.func46, Tryd.ntmps46
    go_wp2_with fail
    go_ret
    exact ⟨rfl, rfl⟩
end
end Go.Proofs.YtdaicjplmnpooaaDoor

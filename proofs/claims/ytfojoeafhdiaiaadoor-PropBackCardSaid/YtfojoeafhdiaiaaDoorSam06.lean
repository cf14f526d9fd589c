/- What is proved here: equal properties are the same to the document's function; whether properties have nothing but what their types have. Conditions: the properties stand where the slices say, few of them. -/
import Derived.Test.YtfojoeafhdiaiaaDoorWit06
import Derived.Deep.QuietTactic
import Derived.BigQuiet
namespace Go.Proofs.YtfojoeafhdiaiaaDoor
set_option maxRecDepth 100000
open Go.RowKit Go.Extern.Stop Go.Stop Go.Extern
section
variable {w w' : World} {B B2 : Nat} {A A2 : Option Addr} {L : PL}
theorem self_text6 (s : ByteArray) : (s.toList == s.toList) = true := by rw [eq_text]; exact decide_eq_true rfl
theorem psame_any (h : PIn w B A L) (h2 : PIn w B2 A2 L) (n c c2 : Nat) (hn : n = L.length) (hm : n ≤ 1000) : Calls Tryd.prog 28 #[.slice A n c, .slice A2 n c2] w fun x w' => x = .returned (.bool true) ∧ ∃ d : Nat, w' = w.drewN d := by
  by_cases hp : n = 0
  · subst hp
    clear h h2 hm hn
    go_enter Tryd.func28, Tryd.ntmps28
    go_wp2_with fail
    go_loop [5] (fun i => i = .int .i64 0) (fun _ => 0)
    case atStart => rfl
    case round =>
      subst hrel
      go_wp2_with fail
      go_ret
      exact ⟨rfl, 0, rfl⟩
  · obtain ⟨g, off, rfl, hc, hgB⟩ := h (by omega)
    obtain ⟨g2, off2, rfl, hc2, hgB2⟩ := h2 (by omega)
    have HC := Lib.hid hc
    have HC2 := Lib.hid hc2
    have HN := Lib.hid hn
    clear hc hc2 hgB hgB2 h h2 hn
    go_enter Tryd.func28, Tryd.ntmps28
    go_wp2_with fail
    go_loopw [5] (fun i wr => ∃ k d : Nat, k ≤ n ∧ i = .int .i64 k ∧ wr = w.drewN d) (fun i _ => n - (intOf i).toNat)
    case atStart => exact ⟨0, 0, by omega, rfl, rfl⟩
    case round =>
      obtain ⟨k, d, hk, rfl, hwr⟩ := hrel
      have HW := Lib.hid hwr
      by_cases hlt : k < n
      · have e1 := (HC.out k (by have := HN.out; omega)).at (w' := wr) (by rw [hwr]; rfl)
        have e2 := (HC2.out k (by have := HN.out; omega)).at (w' := wr) (by rw [hwr]; rfl)
        obtain ⟨p, hp'⟩ : ∃ p, p = L.getD k p0 := ⟨_, rfl⟩
        rw [← hp'] at e1 e2
        clear hp' hwr
        obtain ⟨a0, a1, a2, a3⟩ := e1
        obtain ⟨b0, b1, b2, b3⟩ := e2
        go_wp2_with fail
        go_quiet (fail)
        go_wp2_with fail
        go_roundw
        case rel => exact ⟨k + 1, _, by omega, by go_num, drew_on HW.out _⟩
        case measure => simp [intOf]; omega
      · clear hwr
        go_wp2_with fail
        go_ret
        exact ⟨rfl, d, HW.out⟩
/-- A property has nothing but what its type has. -/
def PlainP (p : PV) : Prop := (typeI p.id < 6 → p.s = ⟨#[]⟩ ∧ p.v = ⟨#[]⟩) ∧ (5 < typeI p.id → p.n = 0) ∧ ((typeI p.id = 6 ∨ typeI p.id = 7) → p.v = ⟨#[]⟩)
def Plain06 (n : Nat) (L : PL) (w : World) (x : Ending) (w' : World) : Prop := (∃ b : Bool, x = .returned (.bool b) ∧ (b = true → ∀ k, k < n → PlainP (L.getD k p0))) ∧ w = w'
theorem text_ne {s : ByteArray} (h : ¬ s = ⟨#[]⟩) : s.toList.isEmpty = false ∧ ¬ s.toList = [] := by
  have h1 : ¬ s.toList = [] := fun e => h (ba_eq (by rw [← ByteArray.toList_eq, e]))
  exact ⟨by rw [List.isEmpty_eq_false_iff]; exact h1, h1⟩
set_option maxHeartbeats 4000000 in
theorem plain06_any (n c : Nat) (h : PIn w B A L) (hn : n = L.length) (hm : n ≤ 1000) : Calls Tryd.prog 27 #[.slice A n c] w (Plain06 n L w) := by
  have HN := Lib.hid hn
  have HA := Lib.hid h
  clear h hn
  go_enter Tryd.func27, Tryd.ntmps27
  go_wp2_with fail
  go_loop [3] (fun i => ∃ k : Nat, k ≤ n ∧ i = .int .i64 k ∧ Hid (∀ j, j < k → PlainP (L.getD j p0))) (fun i => n - (intOf i).toNat)
  case atStart => exact ⟨0, by omega, rfl, Lib.hid fun j hj => absurd hj (by omega)⟩
  case round =>
    obtain ⟨k, hk, rfl, HJ⟩ := hrel
    by_cases hlt : k < n
    · obtain ⟨g, off, rfl, hc, _⟩ := HA.out (by have := HN.out; omega)
      have hcc := hc k (by have := HN.out; omega)
      obtain ⟨p, hp⟩ : ∃ p, p = L.getD k p0 := ⟨_, rfl⟩
      rw [← hp] at hcc
      have HP := Lib.hid (fun (h : PlainP p) => show ∀ j, j < k + 1 → PlainP (L.getD j p0) from fun j hj => by
        rcases Nat.lt_or_eq_of_le (Nat.le_of_lt_succ hj) with h2 | h2
        · exact HJ.out j h2
        · rw [h2, ← hp]; exact h)
      clear hp hc
      obtain ⟨pi, pn, ps, pv⟩ := p
      obtain ⟨c0, c1, c2, c3⟩ := hcc
      have HTY := Lib.hid (fun W : World => rtype06_any pi W)
      have HF := Lib.hid (show Plain06 n L w (.returned (.bool false)) w from ⟨⟨false, rfl, fun h => by cases h⟩, rfl⟩)
      have hv := typeI_vals pi
      obtain ⟨t, ht⟩ : ∃ t, t = typeI pi := ⟨_, rfl⟩
      unfold PlainP at HP
      simp only at HP
      rw [← ht] at HTY HP hv
      clear ht
      by_cases hs : ps = ⟨#[]⟩
      · by_cases hvv : pv = ⟨#[]⟩
        · by_cases hnn : pn = 0
          · subst hs hvv hnn
            rcases hv with rfl | rfl | rfl | rfl | rfl | rfl | rfl | rfl
            all_goals
              try have HP2 := Lib.hid (HP.out ⟨by first | (intro h; exact absurd h (by omega)) | exact fun _ => ⟨rfl, rfl⟩, by first | (intro h; exact absurd h (by omega)) | exact fun _ => rfl, by first | (intro h; exact absurd h (by omega)) | exact fun _ => rfl⟩)
              clear HP
              go_wp2_with fail
              refine (HTY.out _).mono ?_
              rintro x w1 ⟨rfl, rfl⟩
              go_wp2_with fail
              first
              | (go_ret; exact HF.out)
              | (go_round
                 case rel => exact ⟨k + 1, by omega, by go_num, HP2⟩
                 case measure => simp [intOf]; omega)
          · have hnb : (pn == 0) = false := beq_eq_false_iff_ne.2 hnn
            subst hs hvv
            rcases hv with rfl | rfl | rfl | rfl | rfl | rfl | rfl | rfl
            all_goals
              try have HP2 := Lib.hid (HP.out ⟨by first | (intro h; exact absurd h (by omega)) | exact fun _ => ⟨rfl, rfl⟩, by first | (intro h; exact absurd h (by omega)) | exact fun _ => rfl, by first | (intro h; exact absurd h (by omega)) | exact fun _ => rfl⟩)
              clear HP
              go_wp2_with fail
              refine (HTY.out _).mono ?_
              rintro x w1 ⟨rfl, rfl⟩
              go_wp2_with fail
              first
              | (go_ret; exact HF.out)
              | (go_round
                 case rel => exact ⟨k + 1, by omega, by go_num, HP2⟩
                 case measure => simp [intOf]; omega)
        · obtain ⟨v1, v2⟩ := text_ne hvv
          by_cases hnn : pn = 0
          · subst hs hnn
            rcases hv with rfl | rfl | rfl | rfl | rfl | rfl | rfl | rfl
            all_goals
              try have HP2 := Lib.hid (HP.out ⟨by first | (intro h; exact absurd h (by omega)) | exact fun _ => ⟨rfl, rfl⟩, by first | (intro h; exact absurd h (by omega)) | exact fun _ => rfl, by first | (intro h; exact absurd h (by omega)) | exact fun _ => rfl⟩)
              clear HP hvv
              go_wp2_with fail
              refine (HTY.out _).mono ?_
              rintro x w1 ⟨rfl, rfl⟩
              go_wp2_with fail
              first
              | (go_ret; exact HF.out)
              | (go_round
                 case rel => exact ⟨k + 1, by omega, by go_num, HP2⟩
                 case measure => simp [intOf]; omega)
          · have hnb : (pn == 0) = false := beq_eq_false_iff_ne.2 hnn
            subst hs
            rcases hv with rfl | rfl | rfl | rfl | rfl | rfl | rfl | rfl
            all_goals
              try have HP2 := Lib.hid (HP.out ⟨by first | (intro h; exact absurd h (by omega)) | exact fun _ => ⟨rfl, rfl⟩, by first | (intro h; exact absurd h (by omega)) | exact fun _ => rfl, by first | (intro h; exact absurd h (by omega)) | exact fun _ => rfl⟩)
              clear HP hvv
              go_wp2_with fail
              refine (HTY.out _).mono ?_
              rintro x w1 ⟨rfl, rfl⟩
              go_wp2_with fail
              first
              | (go_ret; exact HF.out)
              | (go_round
                 case rel => exact ⟨k + 1, by omega, by go_num, HP2⟩
                 case measure => simp [intOf]; omega)
      · obtain ⟨s1, s2⟩ := text_ne hs
        by_cases hvv : pv = ⟨#[]⟩
        · by_cases hnn : pn = 0
          · subst hvv hnn
            rcases hv with rfl | rfl | rfl | rfl | rfl | rfl | rfl | rfl
            all_goals
              try have HP2 := Lib.hid (HP.out ⟨by first | (intro h; exact absurd h (by omega)) | exact fun _ => ⟨rfl, rfl⟩, by first | (intro h; exact absurd h (by omega)) | exact fun _ => rfl, by first | (intro h; exact absurd h (by omega)) | exact fun _ => rfl⟩)
              clear HP hs
              go_wp2_with fail
              refine (HTY.out _).mono ?_
              rintro x w1 ⟨rfl, rfl⟩
              go_wp2_with fail
              first
              | (go_ret; exact HF.out)
              | (go_round
                 case rel => exact ⟨k + 1, by omega, by go_num, HP2⟩
                 case measure => simp [intOf]; omega)
          · have hnb : (pn == 0) = false := beq_eq_false_iff_ne.2 hnn
            subst hvv
            rcases hv with rfl | rfl | rfl | rfl | rfl | rfl | rfl | rfl
            all_goals
              try have HP2 := Lib.hid (HP.out ⟨by first | (intro h; exact absurd h (by omega)) | exact fun _ => ⟨rfl, rfl⟩, by first | (intro h; exact absurd h (by omega)) | exact fun _ => rfl, by first | (intro h; exact absurd h (by omega)) | exact fun _ => rfl⟩)
              clear HP hs
              go_wp2_with fail
              refine (HTY.out _).mono ?_
              rintro x w1 ⟨rfl, rfl⟩
              go_wp2_with fail
              first
              | (go_ret; exact HF.out)
              | (go_round
                 case rel => exact ⟨k + 1, by omega, by go_num, HP2⟩
                 case measure => simp [intOf]; omega)
        · obtain ⟨v1, v2⟩ := text_ne hvv
          by_cases hnn : pn = 0
          · subst hnn
            rcases hv with rfl | rfl | rfl | rfl | rfl | rfl | rfl | rfl
            all_goals
              try have HP2 := Lib.hid (HP.out ⟨by first | (intro h; exact absurd h (by omega)) | exact fun _ => ⟨rfl, rfl⟩, by first | (intro h; exact absurd h (by omega)) | exact fun _ => rfl, by first | (intro h; exact absurd h (by omega)) | exact fun _ => rfl⟩)
              clear HP hvv hs
              go_wp2_with fail
              refine (HTY.out _).mono ?_
              rintro x w1 ⟨rfl, rfl⟩
              go_wp2_with fail
              first
              | (go_ret; exact HF.out)
              | (go_round
                 case rel => exact ⟨k + 1, by omega, by go_num, HP2⟩
                 case measure => simp [intOf]; omega)
          · have hnb : (pn == 0) = false := beq_eq_false_iff_ne.2 hnn
            rcases hv with rfl | rfl | rfl | rfl | rfl | rfl | rfl | rfl
            all_goals
              try have HP2 := Lib.hid (HP.out ⟨by first | (intro h; exact absurd h (by omega)) | exact fun _ => ⟨rfl, rfl⟩, by first | (intro h; exact absurd h (by omega)) | exact fun _ => rfl, by first | (intro h; exact absurd h (by omega)) | exact fun _ => rfl⟩)
              clear HP hvv hs
              go_wp2_with fail
              refine (HTY.out _).mono ?_
              rintro x w1 ⟨rfl, rfl⟩
              go_wp2_with fail
              first
              | (go_ret; exact HF.out)
              | (go_round
                 case rel => exact ⟨k + 1, by omega, by go_num, HP2⟩
                 case measure => simp [intOf]; omega)
    · have HX := Lib.hid (show Plain06 n L w (.returned (.bool true)) w from ⟨⟨true, rfl, fun _ j hj => HJ.out j (by omega)⟩, rfl⟩)
      go_wp2_with fail
      go_ret
      exact HX.out
end
end Go.Proofs.YtfojoeafhdiaiaaDoor

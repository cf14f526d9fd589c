/- What is proved here: what the document's levels of a filter take. Condition: few levels. -/
import Derived.Test.YtebaojbagogniaaDoorRFil16
namespace Go.Proofs.YtebaojbagogniaaDoor
open Go.RowKit Go.Extern.Stop Go.Stop Go.Extern

/-- An address at which these texts stand, if there are any. -/
def Rd (w : World) (A : Option Addr) (L : List BL) : Prop := 0 < L.length → ∃ g off, A = some ⟨g, off, none⟩ ∧ ∀ k, k < L.length → w.cell? ⟨g, off + k, none⟩ = some (.string (bs (L.getD k [])))
section
variable {w w' : World}
theorem Rd.drewN {A : Option Addr} {L : List BL} (h : Rd w A L) (n : Nat) : Rd (w.drewN n) A L := h
theorem Rd.nil (w : World) (A : Option Addr) : Rd w A [] := fun h => absurd h (by simp)
theorem Texts.rd {B : Nat} {a : Option Addr} {n c : Nat} {L : List BL} (h : Texts w B (.slice a n c) L) : Rd w a L ∧ L.length ≤ c ∧ c ≤ maxLen := by
  refine ⟨fun hl => ?_, ?_⟩
  · obtain ⟨g, e, _, _, hc⟩ := h.at_ hl
    exact ⟨g, 0, e, fun k hk => by rw [Nat.zero_add]; exact hc k hk⟩
  · rcases h.2 with ⟨e, h0⟩ | ⟨gr, cap, cur, e, hB, hh, h3, h4, _⟩
    · injection e with _ _ hc
      subst hc
      exact ⟨by omega, Nat.zero_le _⟩
    · injection e with _ _ hc
      subst hc
      exact ⟨h3, h4⟩
theorem Texts.below {B : Nat} {v : Value} {L : List BL} (h : Texts w B v L) (hb : Below w.heap.size w w') : Texts w' B v L := h.then (Fr.of_below hb)
theorem beq_bs (x y : BL) : ((bs x).toList == (bs y).toList) = (x == y) := by rw [toList_ls, toList_ls, ls_bs, ls_bs]
def TakesSays (F N : List BL) (w : World) (x : Ending) (w' : World) : Prop := x = .returned (.bool (matchL F N)) ∧ ∃ n, w' = w.drewN n
theorem takes_end {p e r : Bool} {w : World} {x : BL} {f N : List BL} {y : BL} (hh : ¬ x = [35]) (hp : (x == [43]) = p) (he : (x == y) = e) (hr : matchL f N = r) (k : Nat) : TakesSays (x :: f) (y :: N) w (.returned (.bool ((p || e) && r))) (w.drewN k) := by
  refine ⟨?_, k, rfl⟩
  rw [match_step hh, hp, he, hr]
set_option maxHeartbeats 4000000 in
theorem takes_all : ∀ (F N : List BL) (n1 n2 : Nat) (A1 A2 : Option Addr) (c1 c2 : Nat) (w : World), n1 = F.length → n2 = N.length → n1 ≤ c1 → c1 ≤ maxLen → n2 ≤ c2 → c2 ≤ maxLen → Rd w A1 F → Rd w A2 N →
    Calls Tryd.prog 40 #[.slice A1 n1 c1, .slice A2 n2 c2] w (TakesSays F N w) := by
  intro F
  induction F with
  | nil =>
    intro N n1 n2 A1 A2 c1 c2 w g1 g2 h1 h2 h3 h4 r1 r2
    obtain rfl : n1 = 0 := g1
    have HE := Lib.hid (show ∀ b : Bool, b = ((n2 : Int) == 0) → TakesSays [] N w (.returned (.bool b)) w from fun b hb => ⟨by rw [match_nil, hb]; exact ret_bool (by rw [Bool.eq_iff_iff, beq_iff_eq, decide_eq_true_iff]; omega), 0, rfl⟩)
    clear r1 r2 g2
    unfold maxLen at h2 h4
    go_enter Tryd.func40, Tryd.ntmps40
    go_wp2_with fail
    go_ret
    exact HE.out _ rfl
  | cons x f ih =>
    intro N n1 n2 A1 A2 c1 c2 w g1 g2 h1 h2 h3 h4 r1 r2
    have IH := Lib.hid ih
    clear ih
    obtain ⟨g, off, rfl, hc⟩ := r1 (by simp)
    have e0 : w.cell? ⟨g, off, none⟩ = some (.string (bs x)) := hc 0 (by simp)
    have HC := Lib.hid (show Rd w (some ⟨g, off + 1, none⟩) f from fun _ => ⟨g, off + 1, rfl, fun k hk => by
      have := hc (k + 1) (by simpa using hk)
      rw [show off + 1 + k = off + (k + 1) by omega]
      simpa using this⟩)
    obtain ⟨k1, hk1⟩ : ∃ k, k = f.length := ⟨_, rfl⟩
    obtain rfl : n1 = k1 + 1 := by rw [g1, hk1]; rfl
    have HK1 := Lib.hid hk1
    clear r1 hc g1 hk1
    unfold maxLen at h2 h4
    by_cases hh : x = [35]
    · have HE := Lib.hid (show TakesSays (x :: f) N w (.returned (.bool true)) w from ⟨by rw [match_hash hh], 0, rfl⟩)
      have t1 : ((bs x).toList == [35]) = true := by rw [toList_ls, ls_bs, hh]; rfl
      clear hh r2 g2
      generalize bs x = xs at *
      go_enter Tryd.func40, Tryd.ntmps40
      go_wp2_with fail
      go_ret
      exact HE.out
    · have t1 : ((bs x).toList == [35]) = false := by rw [toList_ls, ls_bs]; exact beq_eq_false_iff_ne.2 hh
      cases N with
      | nil =>
        obtain rfl : n2 = 0 := g2
        have HE := Lib.hid (show ∀ n, TakesSays (x :: f) [] w (.returned (.bool false)) (w.drewN n) from fun n => ⟨by rw [match_none hh], n, rfl⟩)
        clear hh r2
        generalize bs x = xs at *
        go_enter Tryd.func40, Tryd.ntmps40
        go_wp2_with fail
        go_quiet (fail)
        go_wp2_with fail
        go_ret
        exact HE.out _
      | cons y m =>
        obtain ⟨g', off2, rfl, hd⟩ := r2 (by simp)
        have d0 : w.cell? ⟨g', off2, none⟩ = some (.string (bs y)) := hd 0 (by simp)
        have HD := Lib.hid (show Rd w (some ⟨g', off2 + 1, none⟩) m from fun _ => ⟨g', off2 + 1, rfl, fun k hk => by
          have := hd (k + 1) (by simpa using hk)
          rw [show off2 + 1 + k = off2 + (k + 1) by omega]
          simpa using this⟩)
        obtain ⟨k2, hk2⟩ : ∃ k, k = m.length := ⟨_, rfl⟩
        obtain rfl : n2 = k2 + 1 := by rw [g2, hk2]; rfl
        have HK2 := Lib.hid hk2
        clear r2 hd g2 hk2
        have t2 : ((bs x).toList == [43]) = (x == [43]) := by rw [toList_ls, ls_bs]
        have t3 : ((bs x).toList == (bs y).toList) = (x == y) := beq_bs x y
        obtain ⟨p, hp⟩ : ∃ p, (x == [43]) = p := ⟨_, rfl⟩
        obtain ⟨e, he⟩ : ∃ e, (x == y) = e := ⟨_, rfl⟩
        obtain ⟨r, hr⟩ : ∃ r, matchL f m = r := ⟨_, rfl⟩
        have HE := Lib.hid (fun k => takes_end (w := w) hh hp he hr k)
        have HQ := Lib.hid (show ∀ (A1 A2 : Option Addr) (c1 c2 n : Nat), k1 ≤ c1 → c1 ≤ maxLen → k2 ≤ c2 → c2 ≤ maxLen → Rd w A1 f → Rd w A2 m → Calls Tryd.prog 40 #[.slice A1 k1 c1, .slice A2 k2 c2] (w.drewN n) (fun z w' => z = .returned (.bool r) ∧ ∃ j, w' = (w.drewN n).drewN j) from fun A1 A2 c1 c2 n q1 q2 q3 q4 q5 q6 => by
          have := IH.out m k1 k2 A1 A2 c1 c2 (w.drewN n) HK1.out HK2.out q1 q2 q3 q4 (q5.drewN n) (q6.drewN n)
          unfold TakesSays at this
          rw [hr] at this
          exact this)
        rw [hp] at t2
        rw [he] at t3
        clear IH hh hp he hr
        generalize bs x = xs at *
        generalize bs y = ys at *
        have HN1 := Lib.hid (show k1 = 0 → Rd w (some ⟨g, off, none⟩) f from fun h0 hl => by have := HK1.out; omega)
        have HN2 := Lib.hid (show k2 = 0 → Rd w (some ⟨g', off2, none⟩) m from fun h0 hl => by have := HK2.out; omega)
        cases p with
        | true =>
          by_cases z1 : c1 = 1
          · subst z1
            obtain rfl : k1 = 0 := by omega
            by_cases z2 : c2 = 1
            · subst z2
              obtain rfl : k2 = 0 := by omega
              have HQ2 := Lib.hid (fun n => HQ.out (some ⟨g, off, none⟩) (some ⟨g', off2, none⟩) 0 0 n (Nat.le_refl _) (Nat.zero_le _) (Nat.le_refl _) (Nat.zero_le _) (HN1.out rfl) (HN2.out rfl))
              clear HQ
              go_enter Tryd.func40, Tryd.ntmps40
              go_wp2_with fail
              go_quiet ((go_at_call 40; exact Calls.quiet_of (HQ2.out _)))
              go_wp2_with fail
              go_ret
              exact HE.out _
            · have hc2 : 1 < c2 := by omega
              have HQ2 := Lib.hid (fun n => HQ.out (some ⟨g, off, none⟩) (some ⟨g', off2 + 1, none⟩) 0 (c2 - 1) n (Nat.le_refl _) (Nat.zero_le _) (by omega) (by unfold maxLen; omega) (HN1.out rfl) HD.out)
              clear HQ z2
              go_enter Tryd.func40, Tryd.ntmps40
              go_wp2_with fail
              go_quiet ((go_at_call 40; exact Calls.quiet_of (HQ2.out _)))
              go_wp2_with fail
              go_ret
              exact HE.out _
          · have hc1 : 1 < c1 := by omega
            by_cases z2 : c2 = 1
            · subst z2
              obtain rfl : k2 = 0 := by omega
              have HQ2 := Lib.hid (fun n => HQ.out (some ⟨g, off + 1, none⟩) (some ⟨g', off2, none⟩) (c1 - 1) 0 n (by omega) (by unfold maxLen; omega) (Nat.le_refl _) (Nat.zero_le _) HC.out (HN2.out rfl))
              clear HQ z1
              go_enter Tryd.func40, Tryd.ntmps40
              go_wp2_with fail
              go_quiet ((go_at_call 40; exact Calls.quiet_of (HQ2.out _)))
              go_wp2_with fail
              go_ret
              exact HE.out _
            · have hc2 : 1 < c2 := by omega
              have HQ2 := Lib.hid (fun n => HQ.out (some ⟨g, off + 1, none⟩) (some ⟨g', off2 + 1, none⟩) (c1 - 1) (c2 - 1) n (by omega) (by unfold maxLen; omega) (by omega) (by unfold maxLen; omega) HC.out HD.out)
              clear HQ z1 z2
              go_enter Tryd.func40, Tryd.ntmps40
              go_wp2_with fail
              go_quiet ((go_at_call 40; exact Calls.quiet_of (HQ2.out _)))
              go_wp2_with fail
              go_ret
              exact HE.out _
        | false =>
          cases e with
          | true =>
            by_cases z1 : c1 = 1
            · subst z1
              obtain rfl : k1 = 0 := by omega
              by_cases z2 : c2 = 1
              · subst z2
                obtain rfl : k2 = 0 := by omega
                have HQ2 := Lib.hid (fun n => HQ.out (some ⟨g, off, none⟩) (some ⟨g', off2, none⟩) 0 0 n (Nat.le_refl _) (Nat.zero_le _) (Nat.le_refl _) (Nat.zero_le _) (HN1.out rfl) (HN2.out rfl))
                clear HQ
                go_enter Tryd.func40, Tryd.ntmps40
                go_wp2_with fail
                go_quiet ((go_at_call 40; exact Calls.quiet_of (HQ2.out _)))
                go_wp2_with fail
                go_ret
                exact HE.out _
              · have hc2 : 1 < c2 := by omega
                have HQ2 := Lib.hid (fun n => HQ.out (some ⟨g, off, none⟩) (some ⟨g', off2 + 1, none⟩) 0 (c2 - 1) n (Nat.le_refl _) (Nat.zero_le _) (by omega) (by unfold maxLen; omega) (HN1.out rfl) HD.out)
                clear HQ z2
                go_enter Tryd.func40, Tryd.ntmps40
                go_wp2_with fail
                go_quiet ((go_at_call 40; exact Calls.quiet_of (HQ2.out _)))
                go_wp2_with fail
                go_ret
                exact HE.out _
            · have hc1 : 1 < c1 := by omega
              by_cases z2 : c2 = 1
              · subst z2
                obtain rfl : k2 = 0 := by omega
                have HQ2 := Lib.hid (fun n => HQ.out (some ⟨g, off + 1, none⟩) (some ⟨g', off2, none⟩) (c1 - 1) 0 n (by omega) (by unfold maxLen; omega) (Nat.le_refl _) (Nat.zero_le _) HC.out (HN2.out rfl))
                clear HQ z1
                go_enter Tryd.func40, Tryd.ntmps40
                go_wp2_with fail
                go_quiet ((go_at_call 40; exact Calls.quiet_of (HQ2.out _)))
                go_wp2_with fail
                go_ret
                exact HE.out _
              · have hc2 : 1 < c2 := by omega
                have HQ2 := Lib.hid (fun n => HQ.out (some ⟨g, off + 1, none⟩) (some ⟨g', off2 + 1, none⟩) (c1 - 1) (c2 - 1) n (by omega) (by unfold maxLen; omega) (by omega) (by unfold maxLen; omega) HC.out HD.out)
                clear HQ z1 z2
                go_enter Tryd.func40, Tryd.ntmps40
                go_wp2_with fail
                go_quiet ((go_at_call 40; exact Calls.quiet_of (HQ2.out _)))
                go_wp2_with fail
                go_ret
                exact HE.out _
          | false =>
            go_enter Tryd.func40, Tryd.ntmps40
            go_wp2_with fail
            go_quiet (fail)
            go_wp2_with fail
            go_ret
            exact HE.out _
end
end Go.Proofs.YtebaojbagogniaaDoor

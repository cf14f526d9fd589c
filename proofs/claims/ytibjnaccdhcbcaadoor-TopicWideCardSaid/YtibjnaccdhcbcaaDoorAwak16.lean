/- What is proved here: what must come, whatever the arguments are (layer 16's awake); that two lists of texts that read the same are the same. Conditions: the two errors that utf.Check names are errors. -/
import Derived.Test.YtibjnaccdhcbcaaDoorMat16
import Derived.Deep.RegionHeld3
namespace Go.Proofs.YtibjnaccdhcbcaaDoor
open Go.RowKit Go.Extern.Stop Go.Stop Go.Extern

def tA : ByteArray := ⟨#[97, 47, 98]⟩
def tB : ByteArray := ⟨#[97, 47, 43]⟩
def tC : ByteArray := ⟨#[97, 47, 43, 47, 35]⟩
def tD : ByteArray := ⟨#[97, 35]⟩
def tE : ByteArray := ⟨#[97, 47, 35]⟩
def tF : ByteArray := ⟨#[97]⟩
def tG : ByteArray := ⟨#[43, 47, 98]⟩
def tH : ByteArray := ⟨#[35]⟩
def tI : ByteArray := ⟨#[36, 83, 89, 83, 47, 120]⟩
def tJ : ByteArray := ⟨#[97, 47, 98, 47]⟩
theorem kA : nameB tA = true := by decide +kernel
theorem kB : nameB tB = false := by decide +kernel
theorem kC : filtB tC = true := by decide +kernel
theorem kD : filtB tD = false := by decide +kernel
theorem kE : matchB tE tF = true := by decide +kernel
theorem kG : matchB tG tA = true := by decide +kernel
theorem kH : matchB tH tI = false := by decide +kernel
theorem kJ : (spl (ls tJ)).length = 3 := by decide +kernel
section
variable {S : Nat → Addr} {w : World}
set_option maxHeartbeats 1000000 in
theorem awake16 (he : EnvT w S) : Calls Tryd.prog 26 #[] w fun x w' => x = .returned (.bool true) ∧ Below w.heap.size w w' := by
  have E := Lib.hid (fun w' (hb : Below w.heap.size w w') => he.later hb)
  have cA : ∀ w', Below w.heap.size w w' → Calls Tryd.prog 27 #[.string ⟨#[97, 47, 98]⟩] w' fun x w2 => x = .returned (.bool true) ∧ Below w'.heap.size w' w2 := fun w' hb => by have := isName_any tA (by decide) (E.out w' hb); rw [kA] at this; exact this
  have cB : ∀ w', Below w.heap.size w w' → Calls Tryd.prog 27 #[.string ⟨#[97, 47, 43]⟩] w' fun x w2 => x = .returned (.bool false) ∧ Below w'.heap.size w' w2 := fun w' hb => by have := isName_any tB (by decide) (E.out w' hb); rw [kB] at this; exact this
  have cC : ∀ w', Below w.heap.size w w' → Calls Tryd.prog 29 #[.string ⟨#[97, 47, 43, 47, 35]⟩] w' fun x w2 => x = .returned (.bool true) ∧ Below w'.heap.size w' w2 := fun w' hb => by have := isFilter_any tC (by decide) (E.out w' hb); rw [kC] at this; exact this
  have cD : ∀ w', Below w.heap.size w w' → Calls Tryd.prog 29 #[.string ⟨#[97, 35]⟩] w' fun x w2 => x = .returned (.bool false) ∧ Below w'.heap.size w' w2 := fun w' hb => by have := isFilter_any tD (by decide) (E.out w' hb); rw [kD] at this; exact this
  have cE : ∀ w', Below w.heap.size w w' → Calls Tryd.prog 34 #[.string ⟨#[97, 47, 35]⟩, .string ⟨#[97]⟩] w' fun x w2 => x = .returned (.bool true) ∧ Below w'.heap.size w' w2 := fun w' hb => by have := match_any tE tF (by decide) (by decide) (E.out w' hb); rw [kE] at this; exact this
  have cG : ∀ w', Below w.heap.size w w' → Calls Tryd.prog 34 #[.string ⟨#[43, 47, 98]⟩, .string ⟨#[97, 47, 98]⟩] w' fun x w2 => x = .returned (.bool true) ∧ Below w'.heap.size w' w2 := fun w' hb => by have := match_any tG tA (by decide) (by decide) (E.out w' hb); rw [kG] at this; exact this
  have cH : ∀ w', Below w.heap.size w w' → Calls Tryd.prog 34 #[.string ⟨#[35]⟩, .string ⟨#[36, 83, 89, 83, 47, 120]⟩] w' fun x w2 => x = .returned (.bool false) ∧ Below w'.heap.size w' w2 := fun w' hb => by have := match_any tH tI (by decide) (by decide) (E.out w' hb); rw [kH] at this; exact this
  have cJ : ∀ w', Calls Tryd.prog 32 #[.string ⟨#[97, 47, 98, 47]⟩] w' fun x w2 => (∃ a c, x = .returned (.slice a 3 c)) ∧ Below w'.heap.size w' w2 := fun w' => (levels_any (w := w') tJ (by decide)).mono fun x w2 ⟨v, hx, ht, hb⟩ => by
    obtain ⟨a, c, rfl⟩ := ht.form
    rw [kJ] at hx
    exact ⟨⟨a, c, hx⟩, hb⟩
  have CA := Lib.hid cA
  have CB := Lib.hid cB
  have CC := Lib.hid cC
  have CD := Lib.hid cD
  have CE := Lib.hid cE
  have CG := Lib.hid cG
  have CH := Lib.hid cH
  have CJ := Lib.hid cJ
  clear cA cB cC cD cE cG cH cJ he
  go_enter Tryd.func26, Tryd.ntmps26
  go_wp2_with fail
  refine (CA.out _ (Below.refl _ _)).mono ?_
  rintro x w1 ⟨rfl, hb⟩
  have B1 := Lib.hid hb
  clear hb
  go_wp2_with fail
  refine (CB.out _ B1.out).mono ?_
  rintro x w2 ⟨rfl, hb⟩
  have B2 := Lib.hid (B1.out.trans (hb.mono B1.out.size))
  clear hb
  go_wp2_with fail
  refine (CC.out _ B2.out).mono ?_
  rintro x w3 ⟨rfl, hb⟩
  have B3 := Lib.hid (B2.out.trans (hb.mono B2.out.size))
  clear hb
  go_wp2_with fail
  refine (CD.out _ B3.out).mono ?_
  rintro x w4 ⟨rfl, hb⟩
  have B4 := Lib.hid (B3.out.trans (hb.mono B3.out.size))
  clear hb
  go_wp2_with fail
  refine (CE.out _ B4.out).mono ?_
  rintro x w5 ⟨rfl, hb⟩
  have B5 := Lib.hid (B4.out.trans (hb.mono B4.out.size))
  clear hb
  go_wp2_with fail
  refine (CG.out _ B5.out).mono ?_
  rintro x w6 ⟨rfl, hb⟩
  have B6 := Lib.hid (B5.out.trans (hb.mono B5.out.size))
  clear hb
  go_wp2_with fail
  refine (CH.out _ B6.out).mono ?_
  rintro x w7 ⟨rfl, hb⟩
  have B7 := Lib.hid (B6.out.trans (hb.mono B6.out.size))
  clear hb
  go_wp2_with fail
  refine (CJ.out _).mono ?_
  rintro x w8 ⟨⟨a, c, rfl⟩, hb⟩
  have B8 := Lib.hid (B7.out.trans (hb.mono B7.out.size))
  clear hb
  go_wp2_with fail
  go_ret
  exact ⟨rfl, B8.out⟩
set_option maxHeartbeats 1000000 in
theorem same_any {L : List BL} {B1 B2 : Nat} {a1 a2 : Option Addr} {n1 n2 c1 c2 : Nat} (h1 : Texts w B1 (.slice a1 n1 c1) L) (h2 : Texts w B2 (.slice a2 n2 c2) L) (hL : L.length ≤ 1000000) :
    Calls Tryd.prog 31 #[.slice a1 n1 c1, .slice a2 n2 c2] w fun x w' => x = .returned (.bool true) ∧ Fr [] w w' := by
  obtain rfl : n1 = L.length := by obtain ⟨_, _, e⟩ := h1.form; injection e
  obtain rfl : n2 = L.length := by obtain ⟨_, _, e⟩ := h2.form; injection e
  rcases Nat.eq_zero_or_pos L.length with h0 | hp
  · rw [h0]
    clear h1 h2
    go_enter Tryd.func31, Tryd.ntmps31
    go_wp2_with fail
    go_loop [5] (fun iv => iv = .int .i64 0) (fun _ => 0)
    case atStart => exact rfl
    case round =>
      subst hrel
      go_wp2_with fail
      go_ret
      exact ⟨rfl, Fr.refl _ _⟩
  · obtain ⟨g1, rfl, _, hg1, k1⟩ := h1.at_ hp
    obtain ⟨g2, rfl, _, hg2, k2⟩ := h2.at_ hp
    have H1 := Lib.hid k1
    have H2 := Lib.hid k2
    clear h1 h2 k1 k2
    go_enter Tryd.func31, Tryd.ntmps31
    go_wp2_with fail
    go_loopw [5] (fun iv wr => ∃ k : Nat, k ≤ L.length ∧ iv = .int .i64 k ∧ Fr [] w wr) (fun iv _ => L.length - (intOf iv).toNat)
    case atStart => exact ⟨0, Nat.zero_le _, rfl, Fr.refl _ _⟩
    case round =>
      obtain ⟨k, hk, rfl, hf⟩ := hrel
      have HF := Lib.hid hf
      by_cases hlt : k < L.length
      · have e1 := (hf.cell (b := g1) (o := k) hg1 (by simp)).trans (H1.out k hlt)
        have e2 := (hf.cell (b := g2) (o := k) hg2 (by simp)).trans (H2.out k hlt)
        generalize bs (L.getD k []) = xs at *
        clear hf
        go_wp2_with fail
        go_quiet (fail)
        have HF2 := Lib.hid (HF.out.drewN nq)
        clear e1 e2
        go_wp2_with fail
        go_roundw
        case rel => exact ⟨k + 1, by omega, by go_num, HF2.out⟩
        case measure => simp [intOf]; omega
      · obtain rfl : k = L.length := by omega
        clear hf
        go_wp2_with fail
        go_ret
        exact ⟨rfl, HF.out⟩
end
end Go.Proofs.YtibjnaccdhcbcaaDoor

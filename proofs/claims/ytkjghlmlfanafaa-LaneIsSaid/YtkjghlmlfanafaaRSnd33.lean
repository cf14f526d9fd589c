/- What is proved here: whether lanes are sound, as the document has it. Conditions: the items stand where the slice says; few of them. -/
import Derived.Test.YtkjghlmlfanafaaAwk33
namespace Go.Proofs.Ytkjghlmlfanafaa
open Go.RowKit Go.Extern.Stop Go.Stop Go.Extern Go.Maps
/-- Two items do not stand against each other. -/
def rsI (L : IL) (i k : Nat) : Bool := !(decide ((L.getD i i0).topic = (L.getD k i0).topic) && !(L.getD i i0).w && !(L.getD k i0).w && !decide ((L.getD i i0).who = (L.getD k i0).who))
theorem rs_sound {L : IL} : sndB L = true ↔ ∀ i, i < L.length → ∀ k, k < i → rsI L i k = true := by
  have hs : ∀ i, i < L.length → (L.getD i i0).w = false → ∃ f : Nat, fstI IV.s L (L.getD i i0).topic = some (f : Int) ∧ f ≤ i ∧ (L.getD f i0).topic = (L.getD i i0).topic ∧ (L.getD f i0).w = false := by
    intro i hi hw
    have hsi : (L.getD i i0).s = true := by unfold IV.s; rw [hw]; rfl
    cases hf : fstI IV.s L (L.getD i i0).topic with
    | none => exact absurd ((fstI_none hf i hi rfl).symm.trans hsi) (by decide)
    | some j =>
      obtain ⟨f, rfl, hfl, ht, hsf, hno⟩ := fstI_some hf
      refine ⟨f, rfl, ?_, ht, ?_⟩
      · by_cases h : f ≤ i
        · exact h
        · exact absurd ((hno i (by omega) rfl).symm.trans hsi) (by decide)
      · unfold IV.s at hsf; simpa using hsf
  have hg : ∀ i, goodI L i = true ↔ ((L.getD i i0).w = false → (L.getD i i0).who = (L.getD ((fstI IV.s L (L.getD i i0).topic).getD 0).toNat i0).who) := by
    intro i
    unfold goodI IV.s
    cases hw : (L.getD i i0).w <;> simp
  have hr : ∀ i k, rsI L i k = true ↔ ((L.getD i i0).topic = (L.getD k i0).topic → (L.getD i i0).w = false → (L.getD k i0).w = false → (L.getD i i0).who = (L.getD k i0).who) := by
    intro i k
    unfold rsI
    cases hw : (L.getD i i0).w <;> cases hw2 : (L.getD k i0).w <;> simp <;> exact Decidable.imp_iff_not_or.symm
  constructor
  · intro h i hi k hk
    unfold sndB at h
    rw [List.all_eq_true] at h
    rw [hr]
    intro ht hwi hwk
    have h1 := (hg i).1 (h i (List.mem_range.2 hi)) hwi
    have h2 := (hg k).1 (h k (List.mem_range.2 (by omega))) hwk
    rw [h1, h2, ht]
  · intro h
    refine sndB_true fun i hi => ?_
    rw [hg]
    intro hwi
    obtain ⟨f, hf, hfi, ht, hwf⟩ := hs i hi hwi
    rw [hf]
    show _ = (L.getD ((f : Int)).toNat i0).who
    rw [Int.toNat_natCast]
    rcases Nat.lt_or_ge f i with h1 | h1
    · exact (hr i f).1 (h i hi f h1) ht.symm hwi hwf
    · obtain rfl : f = i := by omega
      rfl
section
variable {w w' : World} {A : Option Addr} {L : IL}
set_option maxHeartbeats 1000000 in
theorem rsound_lane (h : ItRd w A L) (n c : Nat) (hn : n = L.length) (hm : n ≤ 100) : Calls Try.prog 52 #[.slice A n c] w fun x w' => x = .returned (.bool (sndB L)) ∧ ∃ d : Nat, w' = w.drewN d := by
  have HR := Lib.hid h
  have HN := Lib.hid hn
  have HYES := Lib.hid (fun (hh : ∀ i, i < L.length → ∀ k, k < i → rsI L i k = true) => rs_sound.2 hh)
  have HNO := Lib.hid (fun i k (hi : i < L.length) (hk : k < i) (hh : rsI L i k = false) => show sndB L = false from by
    cases hs : sndB L with
    | false => rfl
    | true => exact absurd ((rs_sound.1 hs i hi k hk).symm.trans hh) (by decide))
  clear h hn
  go_enter Try.func52, Try.ntmps52
  go_wp2_with fail
  go_loopw [3] (fun i wr => ∃ k d : Nat, k ≤ n ∧ i = .int .i64 k ∧ wr = w.drewN d ∧ Hid (∀ i, i < k → ∀ j, j < i → rsI L i j = true)) (fun i _ => n - (intOf i).toNat)
  case atStart => exact ⟨0, 0, by omega, rfl, rfl, Lib.hid fun i hi => absurd hi (by omega)⟩
  case round =>
    obtain ⟨k, d, hk, rfl, hwr, HG⟩ := hrel
    have HW := Lib.hid hwr
    by_cases hlt : k < n
    · have hkL : k < L.length := by have := HN.out; omega
      obtain ⟨g1, off, rfl, hcc⟩ := HR.out (by omega)
      have HCC := Lib.hid hcc
      have HKL := Lib.hid hkL
      clear hcc hkL hwr
      go_wp2_with fail
      go_loopw [4] (fun i wr' => ∃ j d : Nat, j ≤ k ∧ i = .int .i64 j ∧ wr' = wr.drewN d ∧ Hid (∀ q, q < j → rsI L k q = true)) (fun i _ => k - (intOf i).toNat)
      case atStart => exact ⟨0, 0, by omega, rfl, rfl, Lib.hid fun q hq => absurd hq (by omega)⟩
      case round =>
        obtain ⟨j, d2, hj, rfl, hwr2, HG2⟩ := hrel
        have HW2 := Lib.hid hwr2
        by_cases hjk : j < k
        · have hjn : j < n := by omega
          have hw0 : wr.heap = w.heap := by rw [hwr2, HW.out]; rfl
          have hck := (HCC.out k HKL.out).at (w' := wr) (by rw [hw0])
          have hcj := (HCC.out j (by have := HN.out; omega)).at (w' := wr) (by rw [hw0])
          have hrs : rsI L k j = rsI L k j := rfl
          conv at hrs => rhs; unfold rsI
          obtain ⟨mk, hmk⟩ : ∃ m, m = L.getD k i0 := ⟨_, rfl⟩
          obtain ⟨mj, hmj⟩ : ∃ m, m = L.getD j i0 := ⟨_, rfl⟩
          rw [← hmk] at hck hrs
          rw [← hmj] at hcj hrs
          have k0 := hck.c0
          have k9 := hck.c9
          have j0 := hcj.c0
          have j9 := hcj.c9
          have he := eq_text mk.topic mj.topic
          have he2 := eq_text mk.who mj.who
          unfold IV.w at hrs
          have HRS := Lib.hid hrs
          clear hmk hmj hck hcj hrs hwr2 hw0
          have HNX := Lib.hid (fun (hh : rsI L k j = true) => show ∀ q, q < j + 1 → rsI L k q = true from fun q hq => by
            by_cases e : q = j
            · rw [e]; exact hh
            · exact HG2.out q (by omega))
          by_cases ht : mk.topic = mj.topic
          · rw [decide_eq_true ht] at he HRS
            clear ht
            cases hwk : mk.who.toList.isEmpty
            · rw [hwk] at HRS
              cases hwj : mj.who.toList.isEmpty
              · rw [hwj] at HRS
                by_cases hq : mk.who = mj.who
                · rw [decide_eq_true hq] at he2 HRS
                  clear hq
                  have HT := Lib.hid (HNX.out (by rw [HRS.out]; rfl))
                  go_wp2_with fail
                  go_quiet (fail)
                  go_wp2_with fail
                  go_roundw
                  case rel => exact ⟨j + 1, _, by omega, by go_num, drew_on HW2.out _, HT⟩
                  case measure => simp [intOf]; omega
                · rw [decide_eq_false hq] at he2 HRS
                  clear hq
                  have HT := Lib.hid (HNO.out k j HKL.out hjk (by rw [HRS.out]; rfl))
                  go_wp2_with fail
                  go_quiet (fail)
                  go_wp2_with fail
                  go_ret
                  exact ⟨by rw [HT.out]; rfl, _, drew_on (by rw [HW2.out]; exact drew_on HW.out _) _⟩
              · rw [hwj] at HRS
                have HT := Lib.hid (HNX.out (by rw [HRS.out]; rfl))
                go_wp2_with fail
                go_quiet (fail)
                go_wp2_with fail
                go_roundw
                case rel => exact ⟨j + 1, _, by omega, by go_num, drew_on HW2.out _, HT⟩
                case measure => simp [intOf]; omega
            · rw [hwk] at HRS
              have HT := Lib.hid (HNX.out (by rw [HRS.out]; rfl))
              go_wp2_with fail
              go_quiet (fail)
              go_wp2_with fail
              go_roundw
              case rel => exact ⟨j + 1, _, by omega, by go_num, drew_on HW2.out _, HT⟩
              case measure => simp [intOf]; omega
          · rw [decide_eq_false ht] at he HRS
            clear ht
            have HT := Lib.hid (HNX.out (by rw [HRS.out]; rfl))
            go_wp2_with fail
            go_quiet (fail)
            go_wp2_with fail
            go_roundw
            case rel => exact ⟨j + 1, _, by omega, by go_num, drew_on HW2.out _, HT⟩
            case measure => simp [intOf]; omega
        · clear hwr2
          have HGN := Lib.hid (show ∀ i, i < k + 1 → ∀ j, j < i → rsI L i j = true from fun i hi q hq => by
            by_cases e : i = k
            · subst e; exact HG2.out q (by omega)
            · exact HG.out i (by omega) q hq)
          go_wp2_with fail
          go_roundw
          case rel => exact ⟨k + 1, _, by omega, by go_num, by rw [HW2.out]; exact drew_on HW.out _, HGN⟩
          case measure => simp [intOf]; omega
    · have HT := Lib.hid (HYES.out fun i hi => HG.out i (by have := HN.out; omega))
      clear hwr
      go_wp2_with fail
      go_ret
      exact ⟨by rw [HT.out]; rfl, _, HW.out⟩
end
end Go.Proofs.Ytkjghlmlfanafaa

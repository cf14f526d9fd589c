/- What is proved here: the document's own Owner, May and Head of lanes. Conditions: the items stand where the slice says; few of them. -/
import Derived.Test.YtkjghlmlfanafaaOrd33
import Derived.Deep.QuietTactic
import Derived.BigQuiet
namespace Go.Proofs.Ytkjghlmlfanafaa
open Go.RowKit Go.Extern.Stop Go.Stop Go.Extern Go.Maps
theorem fstI_at {p : IV → Bool} {L : IL} {key : ByteArray} {k : Nat} (hk : k < L.length) (ht : (L.getD k i0).topic = key) (hp : p (L.getD k i0) = true) (hno : ∀ j, j < k → (L.getD j i0).topic = key → p (L.getD j i0) = false) : fstI p L key = some (k : Int) := by
  cases hf : fstI p L key with
  | none => exact absurd ((fstI_none hf k hk ht).symm.trans hp) (by decide)
  | some j =>
    obtain ⟨i, rfl, hi, hti, hpi, hn⟩ := fstI_some hf
    rcases Nat.lt_trichotomy i k with h | rfl | h
    · exact absurd ((hno i h hti).symm.trans hpi) (by decide)
    · rfl
    · exact absurd ((hn k h ht).symm.trans hp) (by decide)
theorem fstI_nil {p : IV → Bool} {L : IL} {key : ByteArray} (hno : ∀ j, j < L.length → (L.getD j i0).topic = key → p (L.getD j i0) = false) : fstI p L key = none := by
  cases hf : fstI p L key with
  | none => rfl
  | some j =>
    obtain ⟨i, rfl, hi, hti, hpi, hn⟩ := fstI_some hf
    exact absurd ((hno i hi hti).symm.trans hpi) (by decide)
def rh (L : IL) (i j : Nat) : Bool := (L.getD i i0).w && (List.range j).all fun k => !(L.getD k i0).w || !decide ((L.getD k i0).topic = (L.getD i i0).topic)
theorem rh_succ (L : IL) (i j : Nat) : rh L i (j + 1) = (rh L i j && (!(L.getD j i0).w || !decide ((L.getD j i0).topic = (L.getD i i0).topic))) := by
  unfold rh
  rw [List.range_succ, List.all_append, Bool.and_assoc]
  simp only [List.all_cons, List.all_nil, Bool.and_true]
theorem rh_head {L : IL} {i : Nat} (hi : i < L.length) : headI L i = rh L i i := by
  unfold headI rh
  cases hw : (L.getD i i0).w with
  | false => rfl
  | true =>
    rw [Bool.true_and, Bool.true_and]
    cases hf : fstI IV.w L (L.getD i i0).topic with
    | none => exact absurd ((fstI_none hf i hi rfl).symm.trans hw) (by decide)
    | some j =>
      obtain ⟨f, rfl, hfl, ht, hwf, hno⟩ := fstI_some hf
      show decide ((f : Int) = (i : Int)) = _
      by_cases hfi : f = i
      · subst hfi
        rw [decide_eq_true rfl]
        symm
        rw [List.all_eq_true]
        intro k hk
        have hkf := List.mem_range.1 hk
        by_cases htk : (L.getD k i0).topic = (L.getD f i0).topic
        · rw [hno k hkf htk]; rfl
        · rw [decide_eq_false htk, Bool.not_false, Bool.or_true]
      · rw [decide_eq_false (by omega)]
        have hlt : f < i := by
          rcases Nat.lt_trichotomy f i with h | h | h
          · exact h
          · exact absurd h hfi
          · exact absurd ((hno i h rfl).symm.trans hw) (by decide)
        symm
        rw [Bool.eq_false_iff]
        intro hall
        rw [List.all_eq_true] at hall
        have := hall f (List.mem_range.2 hlt)
        rw [hwf, decide_eq_true ht] at this
        cases this
section
variable {w w' : World} {A : Option Addr} {L : IL}
theorem rowner_lane (h : ItRd w A L) (n c : Nat) (hn : n = L.length) (hm : n ≤ 100) (key : ByteArray) : Calls Try.prog 44 #[.slice A n c, .string key] w fun x w' => x = .returned (.tuple #[.string (ownS L key).1, .bool (ownS L key).2]) ∧ ∃ d : Nat, w' = w.drewN d := by
  have HR := Lib.hid h
  have HN := Lib.hid hn
  clear h hn
  go_enter Try.func44, Try.ntmps44
  go_wp2_with fail
  go_loopw [6] (fun i wr => ∃ k d : Nat, k ≤ n ∧ i = .int .i64 k ∧ wr = w.drewN d ∧ Hid (∀ j, j < k → (L.getD j i0).topic = key → IV.s (L.getD j i0) = false)) (fun i _ => n - (intOf i).toNat)
  case atStart => exact ⟨0, 0, by omega, rfl, rfl, Lib.hid fun i hi => absurd hi (by omega)⟩
  case round =>
    obtain ⟨k, d, hk, rfl, hwr, HG⟩ := hrel
    have HW := Lib.hid hwr
    by_cases hlt : k < n
    · have hkL : k < L.length := by have := HN.out; omega
      obtain ⟨g1, off, rfl, hcc⟩ := HR.out (by omega)
      have hc := (hcc k hkL).at (w' := wr) (by rw [hwr]; rfl)
      have HAT := Lib.hid (fun ht hp => fstI_at (p := IV.s) (key := key) hkL ht hp HG.out)
      obtain ⟨m, hm'⟩ : ∃ m, m = L.getD k i0 := ⟨_, rfl⟩
      rw [← hm'] at hc HAT
      have HMM := Lib.hid hm'
      have c0 := hc.c0
      have c9 := hc.c9
      have he := eq_text m.topic key
      clear hc hcc hwr hm' hkL
      by_cases ht : m.topic = key
      · rw [decide_eq_true ht] at he
        cases hw : m.who.toList.isEmpty with
        | true =>
          have HGN := Lib.hid (show ∀ j, j < k + 1 → (L.getD j i0).topic = key → IV.s (L.getD j i0) = false from fun j hj htj => by
            by_cases e : j = k
            · rw [e, ← HMM.out]; unfold IV.s IV.w; rw [hw]; rfl
            · exact HG.out j (by omega) htj)
          clear ht
          go_wp2_with fail
          go_roundw
          case rel => exact ⟨k + 1, _, by omega, by go_num, HW.out, HGN⟩
          case measure => simp [intOf]; omega
        | false =>
          have HO := Lib.hid (show ownS L key = (m.who, true) by
            unfold ownS
            rw [HAT.out ht (by unfold IV.s IV.w; rw [hw]; rfl)]
            show ((L.getD ((k : Int)).toNat i0).who, true) = _
            rw [Int.toNat_natCast, ← HMM.out])
          clear ht
          go_wp2_with fail
          go_ret2
          exact ⟨by rw [HO.out]; rfl, _, HW.out⟩
      · rw [decide_eq_false ht] at he
        have HGN := Lib.hid (show ∀ j, j < k + 1 → (L.getD j i0).topic = key → IV.s (L.getD j i0) = false from fun j hj htj => by
          by_cases e : j = k
          · rw [e, ← HMM.out] at htj; exact absurd htj ht
          · exact HG.out j (by omega) htj)
        clear ht
        go_wp2_with fail
        go_roundw
        case rel => exact ⟨k + 1, _, by omega, by go_num, HW.out, HGN⟩
        case measure => simp [intOf]; omega
    · have HO := Lib.hid (show ownS L key = (e0, false) by
        unfold ownS
        rw [fstI_nil fun j hj => HG.out j (by have := HN.out; omega)])
      clear hwr
      go_wp2_with fail
      go_ret2
      exact ⟨by rw [HO.out]; rfl, _, HW.out⟩
set_option maxHeartbeats 1000000 in
theorem rmay_lane (h : ItRd w A L) (n c : Nat) (hn : n = L.length) (hm : n ≤ 100) (at_ : Int) (client : ByteArray) : Calls Try.prog 50 #[.slice A n c, .int .i64 at_, .string client] w fun x w' => x = .returned (.bool (mayB L at_ client)) ∧ ∃ d : Nat, w' = w.drewN d := by
  by_cases h0 : at_ < 0
  · have HO := Lib.hid (mayB_out (L := L) (client := client) (.inl h0))
    clear h hn
    go_enter Try.func50, Try.ntmps50
    go_wp2_with fail
    go_ret
    exact ⟨by rw [HO.out]; rfl, 0, rfl⟩
  obtain ⟨a, rfl⟩ : ∃ a : Nat, at_ = (a : Int) := ⟨at_.toNat, by omega⟩
  by_cases h1 : n ≤ a
  · have HO := Lib.hid (mayB_out (L := L) (at_ := (a : Int)) (client := client) (.inr (by omega)))
    clear h hn
    go_enter Try.func50, Try.ntmps50
    go_wp2_with fail
    go_ret
    exact ⟨by rw [HO.out]; rfl, 0, rfl⟩
  have haL : a < L.length := by omega
  have han : a < n := by omega
  obtain ⟨g1, off, rfl, hcc⟩ := h (by omega)
  have hca := hcc a haL
  have HBAD := Lib.hid (fun k hk hb => mayB_bad (L := L) (a := a) (k := k) (client := client) haL hk hb)
  have HGOOD := Lib.hid (mayB_good (L := L) (a := a) (client := client) haL)
  have HIN := Lib.hid (mayB_in (L := L) (a := a) (client := client) haL)
  have HN := Lib.hid hn
  have HCC := Lib.hid hcc
  have HAL := Lib.hid haL
  obtain ⟨pm, hp⟩ : ∃ p, p = L.getD a i0 := ⟨_, rfl⟩
  rw [← hp] at hca HBAD HGOOD HIN
  have a9 := hca.c9
  have a0 := hca.c0
  have HPP := Lib.hid hp
  clear hca hcc haL hp h hn h0 h1
  cases hpw : pm.who.toList.isEmpty with
  | false =>
    have HO := Lib.hid (show mayB L (a : Int) client = false from HIN.out.trans (by unfold IV.w; rw [hpw]; rfl))
    go_enter Try.func50, Try.ntmps50
    go_wp2_with fail
    go_ret
    exact ⟨by rw [HO.out]; rfl, 0, rfl⟩
  | true =>
    have HG2 := Lib.hid (HGOOD.out (by unfold IV.w; exact hpw))
    obtain ⟨key, hkey⟩ : ∃ key, key = pm.topic := ⟨_, rfl⟩
    rw [← hkey] at HBAD HG2 a0
    clear hkey HGOOD HIN
    go_enter Try.func50, Try.ntmps50
    go_wp2_with fail
    clear a9 hpw
    go_loopw [7] (fun i wr => ∃ k d : Nat, k ≤ n ∧ i = .int .i64 k ∧ wr = w.drewN d ∧ Hid (∀ j, j < k → badI L key a client j = false)) (fun i _ => n - (intOf i).toNat)
    case atStart => exact ⟨0, 0, by omega, rfl, rfl, Lib.hid fun i hi => absurd hi (by omega)⟩
    case round =>
      obtain ⟨k, d, hk, rfl, hwr, HG⟩ := hrel
      have HW := Lib.hid hwr
      by_cases hlt : k < n
      · have hkL : k < L.length := by have := HN.out; omega
        have hc := (HCC.out k hkL).at (w' := wr) (by rw [hwr]; rfl)
        have ac : wr.cell? ⟨g1, off + a * 12, none⟩ = some (.string key) := by rw [hwr]; exact a0
        have hbd : badI L key a client k = badI L key a client k := rfl
        conv at hbd => rhs; unfold badI
        obtain ⟨m, hm'⟩ : ∃ m, m = L.getD k i0 := ⟨_, rfl⟩
        rw [← hm'] at hc hbd
        have c0 := hc.c0
        have c9 := hc.c9
        have he := eq_text m.topic key
        have he2 := eq_text m.who client
        unfold IV.w at hbd
        have HBD := Lib.hid hbd
        have HKL := Lib.hid hkL
        clear hc hwr hm' hbd hkL
        have HNX := Lib.hid (fun (hh : badI L key a client k = false) => show ∀ j, j < k + 1 → badI L key a client j = false from fun j hj => by
          by_cases e : j = k
          · rw [e]; exact hh
          · exact HG.out j (by omega))
        by_cases ht : m.topic = key
        · rw [decide_eq_true ht] at he HBD
          clear ht
          cases hw : m.who.toList.isEmpty with
          | true =>
            rw [hw] at HBD
            by_cases hka : k < a
            · rw [decide_eq_true (by omega : (k : Int) < (a : Int))] at HBD
              have HT := Lib.hid (HBAD.out k HKL.out (by rw [HBD.out]; rfl))
              go_wp2_with fail
              go_quiet (fail)
              go_wp2_with fail
              go_ret
              exact ⟨by rw [HT.out]; rfl, _, drew_on HW.out _⟩
            · rw [decide_eq_false (by omega : ¬ (k : Int) < (a : Int))] at HBD
              have HT := Lib.hid (HNX.out (by rw [HBD.out]; rfl))
              go_wp2_with fail
              go_quiet (fail)
              go_wp2_with fail
              go_roundw
              case rel => exact ⟨k + 1, _, by omega, by go_num, drew_on HW.out _, HT⟩
              case measure => simp [intOf]; omega
          | false =>
            rw [hw] at HBD
            by_cases hq : m.who = client
            · rw [decide_eq_true hq] at he2 HBD
              clear hq
              by_cases hka : k < a
              · skip
                have HT := Lib.hid (HNX.out (by rw [HBD.out]; rfl))
                go_wp2_with fail
                go_quiet (fail)
                go_wp2_with fail
                go_roundw
                case rel => exact ⟨k + 1, _, by omega, by go_num, drew_on HW.out _, HT⟩
                case measure => simp [intOf]; omega
              · skip
                have HT := Lib.hid (HNX.out (by rw [HBD.out]; rfl))
                go_wp2_with fail
                go_quiet (fail)
                go_wp2_with fail
                go_roundw
                case rel => exact ⟨k + 1, _, by omega, by go_num, drew_on HW.out _, HT⟩
                case measure => simp [intOf]; omega
            · rw [decide_eq_false hq] at he2 HBD
              clear hq
              by_cases hka : k < a
              · skip
                have HT := Lib.hid (HBAD.out k HKL.out (by rw [HBD.out]; rfl))
                go_wp2_with fail
                go_quiet (fail)
                go_wp2_with fail
                go_ret
                exact ⟨by rw [HT.out]; rfl, _, drew_on HW.out _⟩
              · skip
                have HT := Lib.hid (HBAD.out k HKL.out (by rw [HBD.out]; rfl))
                go_wp2_with fail
                go_quiet (fail)
                go_wp2_with fail
                go_ret
                exact ⟨by rw [HT.out]; rfl, _, drew_on HW.out _⟩
        · rw [decide_eq_false ht] at he HBD
          clear ht
          have HT := Lib.hid (HNX.out (by rw [HBD.out]; rfl))
          go_wp2_with fail
          go_quiet (fail)
          go_wp2_with fail
          go_roundw
          case rel => exact ⟨k + 1, _, by omega, by go_num, drew_on HW.out _, HT⟩
          case measure => simp [intOf]; omega
      · have HT := Lib.hid (HG2.out fun j hj => HG.out j (by have := HN.out; omega))
        clear hwr
        go_wp2_with fail
        go_ret
        exact ⟨by rw [HT.out]; rfl, _, HW.out⟩
set_option maxHeartbeats 1000000 in
theorem rhead_lane (h : ItRd w A L) (n c : Nat) (hn : n = L.length) (hm : n ≤ 100) : Calls Try.prog 48 #[.slice A n c] w (HeadSays w L) := by
  have HR := Lib.hid h
  have HN := Lib.hid hn
  clear h hn
  go_enter Try.func48, Try.ntmps48
  go_wp2_with fail
  go_loopw [3, 4] (fun v i wr => ∃ k : Nat, k ≤ n ∧ i = .int .i64 k ∧ KRow wr w.heap.size v (headN L k) ∧ Below w.heap.size w wr) (fun _ i _ => n - (intOf i).toNat)
  case atStart => exact ⟨0, by omega, rfl, KRow.nil _ _, Below.refl _ _⟩
  case round =>
    obtain ⟨k, hk, rfl, hrow, hbe⟩ := hrel
    obtain ⟨va, vc, rfl⟩ := hrow.form
    have hll := headN_len L k
    by_cases hlt : k < n
    · have hkL : k < L.length := by have := HN.out; omega
      obtain ⟨g1, off, rfl, hcc⟩ := HR.out (by omega)
      have HCC := Lib.hid (fun i (hi : i < L.length) => (hcc i hi).at (hbe.block g1 (lt_of_cell (hcc i hi).c0)))
      have hck := HCC.out k hkL
      have hsu := headN_succ L k
      rw [rh_head hkL] at hsu
      have hr0 : rh L k 0 = (L.getD k i0).w := by unfold rh; simp
      obtain ⟨mk, hmk⟩ : ∃ m, m = L.getD k i0 := ⟨_, rfl⟩
      have HRS := Lib.hid (fun j => rh_succ L k j)
      rw [← hmk] at hck hr0 HRS
      have k0 := hck.c0
      have k9 := hck.c9
      unfold IV.w at hr0
      have HR0 := Lib.hid hr0
      have HSU := Lib.hid hsu
      have HROW := Lib.hid hrow
      have HB := Lib.hid hbe
      clear hcc hck hsu hr0 hmk hrow hbe hkL
      generalize headN L k = T at *
      go_wp2_with fail
      go_loopw [5, 6] (fun fv i wr' => ∃ j d : Nat, j ≤ k ∧ i = .int .i64 j ∧ fv = .bool (rh L k j) ∧ wr' = wr.drewN d) (fun _ i _ => k - (intOf i).toNat)
      case atStart => exact ⟨0, 0, by omega, rfl, by rw [HR0.out], rfl⟩
      case round =>
        obtain ⟨j, d2, hj, rfl, rfl, hwr2⟩ := hrel
        have HW2 := Lib.hid hwr2
        by_cases hjk : j < k
        · have hjL : j < L.length := by have := HN.out; omega
          have hjn : j < n := by omega
          have hcj := (HCC.out j hjL).at (w' := wr) (by rw [hwr2]; rfl)
          have kk0 : wr.cell? ⟨g1, off + k * 12, none⟩ = some (.string mk.topic) := by rw [hwr2]; exact k0
          have hrs := HRS.out j
          obtain ⟨mj, hmj⟩ : ∃ m, m = L.getD j i0 := ⟨_, rfl⟩
          rw [← hmj] at hcj hrs
          have j0 := hcj.c0
          have j9 := hcj.c9
          have he := eq_text mj.topic mk.topic
          unfold IV.w at hrs
          have HS := Lib.hid hrs
          clear hcj hwr2 hmj hrs k0 k9 hjL
          generalize rh L k j = fb at *
          cases fb
          · skip
            go_wp2_with fail
            go_quiet (fail)
            go_wp2_with fail
            go_roundw
            case rel => exact ⟨j + 1, _, by omega, by go_num, by rw [HS.out]; rfl, drew_on HW2.out _⟩
            case measure => simp [intOf]; omega
          · cases hw : mj.who.toList.isEmpty with
            | false =>
              rw [hw] at HS
              go_wp2_with fail
              go_quiet (fail)
              go_wp2_with fail
              go_roundw
              case rel => exact ⟨j + 1, _, by omega, by go_num, by rw [HS.out]; rfl, drew_on HW2.out _⟩
              case measure => simp [intOf]; omega
            | true =>
              rw [hw] at HS
              by_cases ht : mj.topic = mk.topic
              · rw [decide_eq_true ht] at he HS
                clear ht
                go_wp2_with fail
                go_quiet (fail)
                go_wp2_with fail
                go_roundw
                case rel => exact ⟨j + 1, _, by omega, by go_num, by rw [HS.out]; rfl, drew_on HW2.out _⟩
                case measure => simp [intOf]; omega
              · rw [decide_eq_false ht] at he HS
                clear ht
                go_wp2_with fail
                go_quiet (fail)
                go_wp2_with fail
                go_roundw
                case rel => exact ⟨j + 1, _, by omega, by go_num, by rw [HS.out]; rfl, drew_on HW2.out _⟩
                case measure => simp [intOf]; omega
        · obtain rfl : j = k := by omega
          have hdr : Below w.heap.size w wr := by rw [hwr2]; exact below_drewN HB.out d2
          have hrw : KRow wr w.heap.size (.slice va T.length vc) T := by rw [hwr2]; exact HROW.out
          have HB2 := Lib.hid hdr
          have HROW2 := Lib.hid hrw
          clear hwr2 hdr hrw k0 k9
          cases hfb : rh L j j with
          | false =>
            have HT := Lib.hid (show headN L (j + 1) = T from HSU.out.trans (by rw [hfb]; simp))
            clear hfb
            go_wp2_with fail
            go_roundw
            case rel => exact ⟨j + 1, by omega, by go_num, by rw [HT.out]; exact HROW2.out, HB2.out⟩
            case measure => simp [intOf]; omega
          | true =>
            have HT := Lib.hid (show headN L (j + 1) = T ++ [j] from HSU.out.trans (by rw [hfb]; rfl))
            clear hfb
            go_wp2_with (at_builtin; go_must (refine append_int rfl _ _ rfl (HB2.out.alloc HB2.out.size _) (HROW2.out.alloc _) rfl ⟨wr.heap.size, 0, none⟩ 1 rfl j (by simp) (by omega) ?_))
            intro v7 w7 h7 hb7
            have H7 := Lib.hid h7
            have HB7 := Lib.hid hb7
            clear h7 hb7
            go_wp2_with fail
            go_roundw
            case rel => exact ⟨j + 1, by omega, by go_num, by rw [HT.out]; exact H7.out, HB7.out⟩
            case measure => simp [intOf]; omega
    · have HE := Lib.hid (show HeadSays w L (.returned (.slice va (headN L k).length vc)) wr from by
        have e : k = L.length := by have := HN.out; omega
        rw [e] at hrow ⊢
        exact ⟨_, rfl, hrow, hbe⟩)
      clear hrow hbe
      go_wp2_with fail
      go_ret
      exact HE.out
end
end Go.Proofs.Ytkjghlmlfanafaa

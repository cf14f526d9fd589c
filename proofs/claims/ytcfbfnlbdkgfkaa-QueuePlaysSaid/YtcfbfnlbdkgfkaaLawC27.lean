/- What is proved here: QueueRoom answers true for every room, messages and time. Conditions: the messages are some that came in. -/
import Derived.Test.YtcfbfnlbdkgfkaaAll27
import Derived.Test.YtcfbfnlbdkgfkaaLawB27
namespace Go.Proofs.Ytcfbfnlbdkgfkaa
open Go.RowKit Go.Extern.Stop Go.Stop Go.Extern
set_option maxRecDepth 100000
/-- Few properties each, and times that are ints. -/
def FewT (L : QL) : Prop := ∀ q ∈ L, q.m.props.length ≤ 70 ∧ q.m.til ≤ 9223372036854775807
theorem keep_keep (now : Int) (L : QL) : keepQ now (keepQ now L) = keepQ now L := by
  unfold keepQ
  rw [List.filter_filter]
  simp
theorem keep_false {now : Int} {L : QL} {q : QV} (h : q ∈ keepQ now L) : exB q.m.til now = false := by
  unfold keepQ at h
  have := (List.mem_filter.1 h).2
  unfold exQ at this
  simpa using this
/-- All copies: none of them has come, and they are few. -/
theorem copy_facts {now : Int} {L L3 : QL} (hm : L3.map QV.m = (keepQ now L).map QV.m) (hf : FewT L) {q : QV} (hq : q ∈ L3) : exB q.m.til now = false ∧ q.m.props.length ≤ 70 ∧ q.m.til ≤ 9223372036854775807 := by
  have : q.m ∈ (keepQ now L).map QV.m := by rw [← hm]; exact List.mem_map_of_mem hq
  obtain ⟨y, hy, e⟩ := List.mem_map.1 this
  have h1 := keep_false hy
  have h2 := hf y (keep_sub now L y hy)
  rw [← e]
  exact ⟨h1, h2⟩
set_option maxHeartbeats 4000000 in
theorem queueRoom_walk (most : Int) (A : Option Addr) (n c : Nat) (L : QL) (now : Int) (w : World) (hmo : -9223372036854775808 ≤ most ∧ most ≤ 9223372036854775807) (hnz : n ≤ maxLen) (ha : MsgsN w A n L) (_ : -9223372036854775808 ≤ now ∧ now ≤ 9223372036854775807) : Calls Try.prog 9 #[.int .i64 most, .slice A n c, .int .i64 now] w fun x w' => x = .returned (.bool true) ∧ Below w.heap.size w w' := by
  unfold maxLen at hnz
  obtain ⟨hmo1, hmo2⟩ := hmo
  obtain ⟨hn, hrd, hms⟩ := ha
  have HAW := Lib.hid (fun W (hb : Below w.heap.size w W) => (awake27 W).mono fun x w' hx => show x = .returned (.bool true) ∧ Below w.heap.size w w' from ⟨hx.1, hb.trans (hx.2.mono hb.size)⟩)
  have HN := Lib.hid hn
  have HRD := Lib.hid (fun (hp : 0 < n) => hrd (by omega))
  have HMS := Lib.hid hms
  have HNEW := Lib.hid (qnew_any most w)
  clear hn hrd hms
  by_cases h40 : 40 < n
  · go_enter Try.func9, Try.ntmps9
    go_wp2_with fail
    refine (HAW.out _ (Below.refl _ _)).mono ?_
    rintro x w1 ⟨rfl, hb⟩
    have HB := Lib.hid hb
    clear hb
    go_wp2_with fail
    go_ret
    exact ⟨rfl, HB.out⟩
  have h40' : n ≤ 40 := by omega
  clear h40
  go_enter Try.func9, Try.ntmps9
  go_wp2_with fail
  refine HNEW.out.mono ?_
  rintro x w1 ⟨rfl, rfl⟩
  have HQ0 := Lib.hid (QObj.made (B := w.heap.size) w most (Nat.le_refl _))
  have HB0 := Lib.hid ((Below.refl w.heap.size w).alloc (Nat.le_refl _) (.cells #[.int .i64 most, .slice none 0 0] 80))
  clear HNEW
  go_wp2_with fail
  generalize w.alloc (.cells #[.int .i64 most, .slice none 0 0] 80) = w1 at *
  obtain ⟨g, hg⟩ : ∃ g, g = w.heap.size := ⟨_, rfl⟩
  have HQ0' := Lib.hid (show QObj w1 w.heap.size g most (.slice none 0 0) [] from by rw [hg]; exact HQ0.out)
  rw [← hg]
  clear hg HQ0
  go_loopw [8] (fun i wr => ∃ (k : Nat) (v : Value) (L' : QL), k ≤ n ∧ i = .int .i64 k ∧ QObj wr w.heap.size g most v L' ∧ Hid (FewT L') ∧ L'.length ≤ k ∧ (L'.length : Int) ≤ max most 0 ∧ Below w.heap.size w wr) (fun i _ => n - (intOf i).toNat)
  case atStart => exact ⟨0, _, [], by omega, rfl, HQ0'.out, Lib.hid (fun q hq => by cases hq), by simp, by simp; omega, HB0.out⟩
  case round =>
    obtain ⟨k, v, L', hk, rfl, hq, HF, hlk, hlm, hbe⟩ := hrel
    have HQ := Lib.hid hq
    have HBE := Lib.hid hbe
    obtain ⟨nl, hnl⟩ : ∃ nl, nl = L'.length := ⟨_, rfl⟩
    have HNL := Lib.hid hnl
    rw [← hnl] at hlk hlm
    by_cases hlt : k < n
    · have hkL : k < L.length := by have := HN.out; omega
      obtain ⟨g1, off, rfl, hcc⟩ := HRD.out (by omega)
      have HCC := Lib.hid (fun W (hb : Below w.heap.size w W) => (hcc k hkL).at (hb.block g1 (lt_of_cell' (hcc k hkL).c0)))
      have hmk := HMS.out k hkL
      obtain ⟨q, hq'⟩ : ∃ q, q = L.getD k q0 := ⟨_, rfl⟩
      rw [← hq'] at HCC hmk
      have HSM := Lib.hid (small_any q (hmk.1.below hbe) hmk.2.1)
      have HMK := Lib.hid hmk
      obtain ⟨d0, d1, d2, d3, d4, d5, d6, d7, d8⟩ := HCC.out _ hbe
      clear hq hbe hcc hkL hmk hq' hnl
      unfold QV.agg at HSM
      go_wp2_with fail
      refine HSM.out.mono ?_
      rintro x w2 ⟨b, rfl, hb, hb2⟩
      have HB2 := Lib.hid (HBE.out.trans (hb2.mono HBE.out.size))
      have HQ2 := Lib.hid (HQ.out.below hb2)
      clear d0 d1 d2 d3 d4 d5 d6 d7 d8 hb2 HSM
      cases b with
      | false =>
        clear hb
        go_wp2_with fail
        refine (HAW.out _ HB2.out).mono ?_
        rintro x w3 ⟨rfl, hb3⟩
        have HB3 := Lib.hid hb3
        clear hb3
        go_wp2_with fail
        go_ret
        exact ⟨rfl, HB3.out⟩
      | true =>
        have hm := hb rfl
        have HLE := Lib.hid (qlen_any HQ2.out)
        rw [← HNL.out] at HLE
        clear hb
        go_wp2_with fail
        refine HLE.out.mono ?_
        rintro x w2' ⟨rfl, rfl⟩
        clear HLE
        obtain ⟨d0, d1, d2, d3, d4, d5, d6, d7, d8⟩ := HCC.out _ HB2.out
        by_cases hroom : (nl : Int) < most
        · have HPU := Lib.hid (push_room HQ2.out q (HMK.out.1.below HB2.out) (by omega) (by have := HNL.out; omega) (by rw [← HNL.out]; exact hroom))
          unfold QV.agg at HPU
          go_wp2_with fail
          refine HPU.out.mono ?_
          rintro x w3 ⟨rfl, pa, pc, v3, hn3⟩
          have HLE := Lib.hid (qlen_any hn3.obj)
          rw [List.length_append, ← HNL.out, show [QV.mk q.m pa pc].length = 1 from rfl] at HLE
          have HN3 := Lib.hid hn3.obj
          have HB3 := Lib.hid (hn3.later rfl (fun j hj => (HQ2.out.row.lt j hj).1) HB2.out)
          have HF3 := Lib.hid (show FewT (L' ++ [QV.mk q.m pa pc]) from fun y hy => by
            rcases List.mem_append.1 hy with e | e
            · exact HF.out y e
            · rw [List.mem_singleton] at e
              subst e
              exact ⟨hm, HMK.out.2.2⟩)
          clear hn3 d0 d1 d2 d3 d4 d5 d6 d7 d8 HPU
          have hmp : 0 < most := by omega
          have hlm2 : (((nl + 1 : Nat) : Int)) ≤ most := by omega
          go_wp2_with fail
          refine HLE.out.mono ?_
          rintro x w4 ⟨rfl, rfl⟩
          go_wp2_with fail
          go_roundw
          case rel => exact ⟨k + 1, v3, _, by omega, by go_num, HN3.out, HF3, by rw [List.length_append, ← HNL.out]; simp; omega, by rw [List.length_append, ← HNL.out]; simp; omega, HB3.out⟩
          case measure => simp [intOf]; omega
        · have HPU := Lib.hid (push_full HQ2.out q (by rw [← HNL.out]; omega))
          have hroom' : most ≤ (nl : Int) := by omega
          unfold QV.agg at HPU
          go_wp2_with fail
          refine HPU.out.mono ?_
          rintro x w3 ⟨rfl, hb3⟩
          have hq3 := HQ2.out.below hb3
          have HLE := Lib.hid (qlen_any hq3)
          rw [← HNL.out] at HLE
          have HN3 := Lib.hid hq3
          have HB3 := Lib.hid (HB2.out.trans (hb3.mono HB2.out.size))
          clear hb3 hq3 d0 d1 d2 d3 d4 d5 d6 d7 d8 HPU
          rcases (show (most < 0 ∧ nl = 0) ∨ (0 ≤ most ∧ (nl : Int) ≤ most) by omega) with ⟨hx1, hx2⟩ | ⟨hx1, hx2⟩
          all_goals
            go_wp2_with fail
            refine HLE.out.mono ?_
            rintro x w4 ⟨rfl, rfl⟩
            go_wp2_with fail
            go_roundw
            case rel => exact ⟨k + 1, v, L', by omega, by go_num, HN3.out, HF, by rw [← HNL.out]; omega, by rw [← HNL.out]; omega, HB3.out⟩
            case measure => simp [intOf]; omega
    · have hnl9 : nl ≤ 40 := by omega
      have HLE := Lib.hid (qlen_any hq)
      have HEX := Lib.hid (expire_any hq (by omega) now)
      rw [← hnl] at HLE
      have hkl := keep_len now L'
      rw [← hnl] at hkl
      have HKK := Lib.hid (keep_keep now L')
      have HFK := Lib.hid (show ∀ y ∈ keepQ now L', y.m.props.length ≤ 1000 from fun y hy => Nat.le_trans (HF.out y (keep_sub now L' y hy)).1 (by omega))
      clear hq hbe hnl
      go_wp2_with fail
      refine HLE.out.mono ?_
      rintro x w2 ⟨rfl, rfl⟩
      go_wp2_with fail
      refine HEX.out.mono ?_
      rintro x w3 ⟨rfl, v3, hn3⟩
      rw [← HNL.out]
      have HQ3 := Lib.hid hn3.obj
      have HB3 := Lib.hid (hn3.later rfl (fun j hj => (HQ.out.row.lt j hj).1) HBE.out)
      have HAL := Lib.hid (qall_any hn3.obj (by omega) HFK.out)
      clear hn3 HEX HLE
      go_wp2_with fail
      refine HAL.out.mono ?_
      rintro x w4 ⟨v4, L4, rfl, hr4, hm4, hp4, hb4⟩
      obtain ⟨a4, c4, rfl⟩ := hr4.form
      have hl4 : L4.length = (keepQ now L').length := by
        have := congrArg List.length hm4
        rwa [List.length_map, List.length_map] at this
      have HQ4 := Lib.hid (HQ3.out.below hb4)
      have HB4 := Lib.hid (HB3.out.trans (hb4.mono HB3.out.size))
      have HMR := Lib.hid (fun W (hb : Below w4.heap.size w4 W) => (hr4.below hb).mrd)
      have HP4 := Lib.hid (fun W (hb : Below w4.heap.size w4 W) y hy => (hp4 y hy).below hb)
      have HCF := Lib.hid (fun y (hy : y ∈ L4) => copy_facts hm4 HF.out hy)
      rw [hl4]
      have HL4 := Lib.hid hl4
      obtain ⟨kl, hkl'⟩ : ∃ kl, kl = (keepQ now L').length := ⟨_, rfl⟩
      rw [← hkl'] at hkl HL4 ⊢
      have HKL := Lib.hid hkl'
      clear hr4 hm4 hp4 hb4 hl4 hkl' HAL
      go_wp2_with fail
      obtain ⟨wz, rfl⟩ : ∃ wz : World, wz = w4 := ⟨_, rfl⟩
      go_loopw [13] (fun i wr => ∃ j : Nat, j ≤ kl ∧ i = .int .i64 j ∧ Below wz.heap.size wz wr) (fun i _ => kl - (intOf i).toNat)
      case atStart => exact ⟨0, by omega, rfl, Below.refl _ _⟩
      case round =>
        obtain ⟨j, hj, rfl, hbj⟩ := hrel
        have HBJ := Lib.hid hbj
        by_cases hlt : j < kl
        · have hjL : j < L4.length := by have := HL4.out; omega
          obtain ⟨g1, off, rfl, hcc⟩ := HMR.out _ hbj (by omega)
          obtain ⟨d0, d1, d2, d3, d4, d5, d6, d7, d8⟩ := hcc j hjL
          have hmem : L4.getD j q0 ∈ L4 := by rw [List.getD_eq_getElem?_getD, List.getElem?_eq_getElem hjL]; exact List.getElem_mem hjL
          have hcf := HCF.out _ hmem
          have hpj := HP4.out _ hbj _ hmem
          obtain ⟨q, hq'⟩ : ∃ q, q = L4.getD j q0 := ⟨_, rfl⟩
          rw [← hq'] at d0 d1 d2 d3 d4 d5 d6 d7 d8 hcf hpj
          have HLF := Lib.hid ((left_any (B2 := 0) q now hpj (by omega) hcf.2.2).mono fun x w' hx => left_form hx)
          rw [show (fun x w' => LeftForm wr 0 q now x w') = LeftForm wr 0 q now from rfl] at HLF
          have HEXF := Lib.hid hcf.1
          clear hcc hjL hmem hq' hpj hcf hbj
          unfold QV.agg at HLF
          go_wp2_with fail
          refine HLF.out.mono ?_
          rintro x w5 ⟨y, rfl, hym, hyp, hb5⟩
          clear hym hyp
          rw [HEXF.out]
          have HB5 := Lib.hid ((HBJ.out.trans (hb5.mono HBJ.out.size)).alloc (Nat.le_trans HBJ.out.size hb5.size) (.cells y.cells.toArray 36))
          unfold QV.cells at HB5
          clear hb5 d0 d1 d2 d3 d4 d5 d6 d7 d8 HLF
          unfold QV.agg
          go_wp2_with fail
          go_roundw
          case rel => exact ⟨j + 1, by omega, by go_num, HB5.out⟩
          case measure => simp [intOf]; omega
        · obtain rfl : j = kl := by omega
          have HEX2 := Lib.hid (expire_any (HQ4.out.below hbj) (by rw [← HKL.out]; omega) now)
          rw [HKK.out] at HEX2
          have HBW := Lib.hid (HB4.out.trans (hbj.mono HB4.out.size))
          have hsub : ((j : Int) == (nl : Int) - ((nl : Int) - (j : Int))) = true := by simp; omega
          clear hbj
          go_wp2_with fail
          refine HEX2.out.mono ?_
          rintro x w6 ⟨rfl, v6, hn6⟩
          rw [← HKL.out]
          have HB6 := Lib.hid (hn6.later rfl (fun i hi => (HQ4.out.row.lt i hi).1) HBW.out)
          have hz0 : ((j : Int) - (j : Int)) = 0 := by omega
          rw [hz0]
          clear hn6 HEX2
          go_wp2_with fail
          refine (HAW.out _ HB6.out).mono ?_
          rintro x w7 ⟨rfl, hb7⟩
          have HB7 := Lib.hid hb7
          clear hb7
          go_wp2_with fail
          go_ret
          exact ⟨rfl, HB7.out⟩
end Go.Proofs.Ytcfbfnlbdkgfkaa

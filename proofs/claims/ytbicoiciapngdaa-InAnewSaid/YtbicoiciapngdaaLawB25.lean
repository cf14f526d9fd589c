/- What is proved here: behind Done, and of QoS 2 behind Release, a number is new again (InAnew answers true). No conditions but those of the values themselves. -/
import Derived.Test.YtbicoiciapngdaaLawA25
namespace Go.Proofs.Ytbicoiciapngdaa
open Go.RowKit Go.Extern.Stop Go.Stop Go.Extern Go.Maps

theorem done_zero (s : Q25) (id : Int) : (done25 s id).2.1 id = 0 := by
  unfold done25
  split
  · simp
  · rename_i h; simpa using h
theorem take_full {most : Int} {s : Q25} {id qos : Int} (hq : qos = 1 ∨ qos = 2) (h0 : s.1 id = 0) (hf : most ≤ s.2) : take25 most s id qos = (3, s) := by
  unfold take25; rw [if_neg (by omega), if_neg (by simp [h0]), if_pos hf]
theorem take_new {most : Int} {s : Q25} {id qos : Int} (hq : qos = 1 ∨ qos = 2) (h0 : s.1 id = 0) (hf : ¬ most ≤ s.2) : take25 most s id qos = (1, (fun y => if y = id then qos else s.1 y), s.2 + 1) := by
  unfold take25; rw [if_neg (by omega), if_neg (by simp [h0]), if_neg hf]
theorem release_one {s : Q25} {id : Int} (h : s.1 id = 1) : release25 s id = (false, s) := by unfold release25; rw [if_neg (by omega)]
theorem release_two {s : Q25} {id : Int} (h : s.1 id = 2) : release25 s id = (true, (fun y => if y = id then 0 else s.1 y), s.2 - 1) := by
  unfold release25 done25; rw [if_pos h, if_pos (by omega)]
theorem done_none {s : Q25} {id : Int} (h : s.1 id = 0) : done25 s id = (false, s) := by unfold done25; rw [if_neg (by simp [h])]
theorem done_some {s : Q25} {id : Int} (h : s.1 id ≠ 0) : done25 s id = (true, (fun y => if y = id then 0 else s.1 y), s.2 - 1) := by unfold done25; rw [if_pos h]
set_option maxHeartbeats 4000000 in
set_option maxRecDepth 100000 in
theorem inAnew_walk (n : Int) (a : Option Addr) (len cap : Nat) (xs : Nat → Act25) (id : Int) (w : World) (_hn : -9223372036854775808 ≤ n ∧ n ≤ 9223372036854775807) (hl : len ≤ maxLen) (h : ActsOf5 w a len xs) (hid : -9223372036854775808 ≤ id ∧ id ≤ 9223372036854775807) :
    Calls Try.prog 14 #[.int .i64 n, .slice a len cap, .int .i64 id] w fun x w' => x = .returned (.bool true) ∧ Below w.heap.size w w' := by
  have HA := Lib.hid h
  have hidw : (Lit.int .i64 id).wf = true := WalkArith.wf_i64 hid
  unfold maxLen at hl
  clear h
  by_cases hl6 : 60 < len
  · go_enter Try.func14, Try.ntmps14
    go_wp2_with fail
    refine (in_awake _).mono ?_
    rintro e w' ⟨rfl, hb⟩
    go_wp2
    go_ret
    exact ⟨rfl, hb⟩
  · go_enter Try.func14, Try.ntmps14
    go_wp2_with fail
    refine (own_in_new n (Below.refl _ _)).mono ?_
    rintro e w1 ⟨g, rfl, hd⟩
    have HD := Lib.hid hd
    clear hd
    go_wp2
    go_loopw [8] (fun i wr => ∃ (k : Nat) (s : Q25), k ≤ len ∧ i = .int .i64 k ∧ OwnIn w wr g n s ∧ s.2 ≤ k ∧ s.2 ≤ n.toNat) (fun i _ => len - (intOf i).toNat)
    case atStart => exact ⟨0, _, Nat.zero_le _, rfl, HD.out, Nat.le_refl _, Nat.zero_le _⟩
    case round =>
      obtain ⟨k, s, hk, rfl, hd, hs1, hs2⟩ := hrel
      by_cases hlt : k < len
      · obtain ⟨b, off, rfl, hac⟩ : ∃ b off, a = some ⟨b, off, none⟩ ∧ Acts5 w b off len xs := HA.out.resolve_left (by omega)
        obtain ⟨c0, c1, c2, hw⟩ := (hac.below hd.below) k hlt
        have hlen := len25 n s (xs k).kind (xs k).id (xs k).qos hs2
        have HC := Lib.hid (own_do25 hd (by omega) (xs k).kind (xs k).id (xs k).qos hw)
        clear hac hd hw
        go_wp2_with fail
        refine (HC.out).mono ?_
        rintro e w2 ⟨rfl, hd, _⟩
        have HD3 := Lib.hid hd
        clear hd
        go_wp2_with fail
        go_roundw
        case rel => exact ⟨k + 1, _, by omega, by go_num, HD3.out, by omega, by omega⟩
        case measure => simp [intOf]; omega
      · have hz := done_zero s id
        have hle := (done_ok hd.ok id).2
        have HC := Lib.hid (own_done hd id hidw)
        generalize done25 s id = q at *
        obtain ⟨bb, s'⟩ := q
        clear hd
        go_wp2_with fail
        refine (HC.out).mono ?_
        rintro e w2 ⟨rfl, hd, _⟩
        have HL := Lib.hid (own_len hd)
        have HD3 := Lib.hid hd
        clear hd
        go_wp2_with fail
        refine (HL.out).mono ?_
        rintro e w' ⟨rfl, rfl⟩
        go_wp2
        have hle2 : s'.2 ≤ 60 := by have : s'.2 ≤ s.2 := hle; omega
        have HZ := Lib.hid hz
        clear hz hle hs1 hs2
        generalize hN : s'.2 = N at *
        have HN := Lib.hid hN
        clear hN
        go_loopw [10] (fun i wr => ∃ (q : Nat) (t : Q25), 1 ≤ q ∧ q ≤ 3 ∧ i = .int .i64 q ∧ OwnIn w wr g n t ∧ t.1 id = 0 ∧ t.2 = N) (fun i _ => 4 - (intOf i).toNat)
        case atStart => exact ⟨1, s', by omega, by omega, rfl, HD3.out, HZ.out, HN.out⟩
        case round =>
          obtain ⟨q, t, hq1, hq3, rfl, hd, ht0, htN⟩ := hrel
          by_cases hq : q < 3
          · by_cases hf : n ≤ N
            · have he := take_full (most := n) (s := t) (id := id) (qos := q) (by omega) ht0 (by omega)
              have hc := own_take hd (by omega) id q hidw
              rw [he] at hc
              have HC2 := Lib.hid hc
              have HT0 := Lib.hid ht0
              have HTN := Lib.hid htN
              clear hc he hd ht0 htN
              go_wp2_with fail
              refine (HC2.out).mono ?_
              rintro e w4 ⟨rfl, hd, _⟩
              have hl4 := own_len hd
              rw [HTN.out] at hl4
              have HL4 := Lib.hid hl4
              have HD4 := Lib.hid hd
              clear hd hl4
              go_wp2_with fail
              refine (HL4.out).mono ?_
              rintro e w' ⟨rfl, rfl⟩
              go_wp2_with fail
              go_roundw
              case rel => exact ⟨q + 1, t, by omega, by omega, by go_num, HD4.out, HT0.out, HTN.out⟩
              case measure => simp [intOf]; omega
            · have he := take_new (most := n) (s := t) (id := id) (qos := q) (by omega) ht0 (by omega)
              have hc := own_take hd (by omega) id q hidw
              rw [he] at hc
              have HC2 := Lib.hid hc
              have HTN := Lib.hid htN
              clear hc he hd ht0 htN
              go_wp2_with fail
              refine (HC2.out).mono ?_
              rintro e w4 ⟨rfl, hd, _⟩
              rcases (show q = 1 ∨ q = 2 by omega) with rfl | rfl
              · have hr := own_release hd id hidw
                rw [release_one (by simp)] at hr
                have HR := Lib.hid hr
                clear hr hd
                go_wp2_with fail
                refine (HR.out).mono ?_
                rintro e w5 ⟨rfl, hd, _⟩
                have hr := own_done hd id hidw
                rw [done_some (by simp)] at hr
                have HR2 := Lib.hid hr
                clear hr hd
                go_wp2_with fail
                refine (HR2.out).mono ?_
                rintro e w6 ⟨rfl, hd, _⟩
                have hl4 := own_len hd
                have HD4 := Lib.hid hd
                have e9 : t.2 + 1 - 1 = N := by rw [HTN.out]; omega
                simp only [e9] at hl4
                have HL4 := Lib.hid hl4
                have E9 := Lib.hid e9
                clear hd hl4 e9
                go_wp2_with fail
                refine (HL4.out).mono ?_
                rintro e w' ⟨rfl, rfl⟩
                go_wp2_with fail
                go_roundw
                case rel => exact ⟨2, _, by omega, by omega, by go_num, HD4.out, by simp, E9.out⟩
                case measure => simp [intOf]
              · have hr := own_release hd id hidw
                rw [release_two (by simp)] at hr
                have HR := Lib.hid hr
                clear hr hd
                go_wp2_with fail
                refine (HR.out).mono ?_
                rintro e w5 ⟨rfl, hd, _⟩
                have hr := own_done hd id hidw
                rw [done_none (by simp)] at hr
                have HR2 := Lib.hid hr
                clear hr hd
                go_wp2_with fail
                refine (HR2.out).mono ?_
                rintro e w6 ⟨rfl, hd, _⟩
                have hl4 := own_len hd
                have HD4 := Lib.hid hd
                have e9 : t.2 + 1 - 1 = N := by rw [HTN.out]; omega
                simp only [e9] at hl4
                have HL4 := Lib.hid hl4
                have E9 := Lib.hid e9
                clear hd hl4 e9
                go_wp2_with fail
                refine (HL4.out).mono ?_
                rintro e w' ⟨rfl, rfl⟩
                go_wp2_with fail
                go_roundw
                case rel => exact ⟨3, _, by omega, by omega, by go_num, HD4.out, by simp, E9.out⟩
                case measure => simp [intOf]
          · have HB := Lib.hid hd.below
            clear hd
            go_wp2_with fail
            refine (in_awake _).mono ?_
            rintro e w8 ⟨rfl, hb⟩
            have HB8 := Lib.hid (HB.out.trans (hb.mono HB.out.size))
            clear hb
            go_wp2
            go_ret
            exact ⟨rfl, HB8.out⟩
end Go.Proofs.Ytbicoiciapngdaa

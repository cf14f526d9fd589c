/- What is proved here: no number is given that is in use (PidsFresh answers true). No conditions but those of the values themselves. -/
import Derived.Test.YtbicoiciapngdaaLawA23
namespace Go.Proofs.Ytbicoiciapngdaa
open Go.RowKit Go.Extern.Stop Go.Stop Go.Extern Go.Maps

/-- Which of the numbers below k are in use, as an array of 256. -/
def usedA (m : Int → Bool) (k : Nat) : Array Value := ((List.range 256).map (fun j : Nat => Value.bool (decide (1 ≤ j ∧ j < k) && m (j : Int)))).toArray
theorem usedA_get (m : Int → Bool) (k j : Nat) (h : j < 256) : (usedA m k)[j]? = some (.bool (decide (1 ≤ j ∧ j < k) && m (j : Int))) := by
  unfold usedA
  rw [List.getElem?_toArray, List.getElem?_map, List.getElem?_range h]
  rfl
theorem usedA_size (m : Int → Bool) (k : Nat) : (usedA m k).size = 256 := by unfold usedA; simp
theorem usedA_set (m : Int → Bool) (k : Nat) (h1 : 1 ≤ k) (h : k < 256) : (usedA m k).setIfInBounds k (.bool (m (k : Int))) = usedA m (k + 1) := by
  apply Array.ext_getElem?
  intro j
  by_cases hj : j < 256
  · by_cases e : k = j
    · subst e
      rw [Array.getElem?_setIfInBounds_self_of_lt (by rw [usedA_size]; exact h), usedA_get _ _ _ h]
      simp [h1]
    · rw [Array.getElem?_setIfInBounds_ne e, usedA_get _ _ _ hj, usedA_get _ _ _ hj]
      congr 2
      have : (1 ≤ j ∧ j < k) ↔ (1 ≤ j ∧ j < k + 1) := by omega
      simp [this]
  · rw [Array.getElem?_eq_none (by simp [usedA_size]; omega), Array.getElem?_eq_none (by simp [usedA_size]; omega)]
theorem usedA_zero (m : Int → Bool) : usedA m 1 = Array.replicate 256 (.bool false) := by
  apply Array.ext_getElem?
  intro j
  by_cases hj : j < 256
  · rw [usedA_get _ _ _ hj, Array.getElem?_replicate, if_pos hj]
    have : decide (1 ≤ j ∧ j < 1) = false := decide_eq_false (by omega)
    rw [this, Bool.false_and]
  · rw [Array.getElem?_eq_none (by simp [usedA_size]; omega), Array.getElem?_eq_none (by simp; omega)]
theorem zero69 (w : World) : (zeroValue 69).run Try.prog w = .ok (.agg (Array.replicate 256 (.bool false))) w := by kernel_rfl
theorem zero_used (m : Int → Bool) (w : World) : (zeroValue 69).run Try.prog w = .ok (.agg (usedA m 1)) w := by rw [usedA_zero]; exact zero69 w
theorem own_pstore {w0 w : World} {g most last n ub : Nat} {m : Int → Bool} {cs : Array Value} (h : OwnPids w0 w g most last m n) (hb : Blk w ub 69 cs) (hu : w0.heap.size ≤ ub) (i : Nat) (v : Value) : OwnPids w0 (w.setCell ⟨ub, i, none⟩ v) g most last m n := by
  have hf : Fr [ub] w (w.setCell ⟨ub, i, none⟩ v) := Fr.setCell (Fr.refl _ _) (.inl (by simp)) _
  obtain ⟨h1, h2, ⟨⟨bm, b1, s1, hB⟩, hok⟩⟩ := h
  exact ⟨hf.later h1 (by simpa using hu) h1.size, h2, ⟨⟨bm, b1.fr hf (by simpa using b1.other hb (by decide)), s1.fr hf (by simpa using (s1.ne hb).symm), hB⟩, hok⟩⟩
set_option maxHeartbeats 4000000 in
set_option maxRecDepth 100000 in
theorem fresh_any (k0 : Nat) (hk0 : k0 ≤ 255) (a : Option Addr) (len cap : Nat) (xs : Nat → Act23) (w : World) (hl : len ≤ maxLen) (h : ActsOf3 w a len xs) :
    Calls Try.prog 10 #[.int .u8 k0, .slice a len cap] w fun x w' => x = .returned (.bool true) ∧ Below w.heap.size w w' := by
  have HA := Lib.hid h
  unfold maxLen at hl
  clear h
  by_cases hl6 : 60 < len
  · go_enter Try.func10, Try.ntmps10
    go_wp2_with fail
    refine (pids_awake _).mono ?_
    rintro e w' ⟨rfl, hb⟩
    go_wp2
    go_ret
    exact ⟨rfl, hb⟩
  · go_enter Try.func10, Try.ntmps10
    go_wp2_with fail
    refine (own_pnew (k0 : Int) k0 (.inr (.inl ⟨rfl, by omega⟩)) (Below.refl _ _)).mono ?_
    rintro e w1 ⟨g, rfl, hd⟩
    have HD := Lib.hid hd
    clear hd
    go_wp2
    go_loopw [6] (fun i wr => ∃ (k : Nat) (last n : Nat) (m : Int → Bool), k ≤ len ∧ i = .int .i64 k ∧ OwnPids w wr g k0 last m n) (fun i _ => len - (intOf i).toNat)
    case atStart => exact ⟨0, _, _, _, Nat.zero_le _, rfl, HD.out⟩
    case round =>
      obtain ⟨k, last, n, m, hk, rfl, hd⟩ := hrel
      by_cases hlt : k < len
      · obtain ⟨b, off, rfl, hac⟩ : ∃ b off, a = some ⟨b, off, none⟩ ∧ Acts3 w b off len xs := HA.out.resolve_left (by omega)
        obtain ⟨c0, c1, hw⟩ := (hac.below hd.below) k hlt
        have HL := Lib.hid (own_plen hd)
        by_cases h1 : (xs k).kind = 1
        · have q1 : ((xs k).kind != 1) = false := by rw [h1]; rfl
          have HDD := Lib.hid hd
          clear hac hd
          go_wp2_with fail
          refine (HL.out).mono ?_
          rintro e w' ⟨rfl, rfl⟩
          have hz0 := zero_used m
          have hmade := Blk.made wr 69 (usedA m 1)
          have hne0 := hmade.other ((HDD.out.same ((Fr.refl [] wr).alloc (.cells (usedA m 1) 69))).1.is.is.choose_spec.1) (by decide)
          have HM := Lib.hid hmade
          have HDA := Lib.hid (HDD.out.same ((Fr.refl [] wr).alloc (.cells (usedA m 1) 69))).1
          have HSZ := Lib.hid HDD.out.below.size
          have HNE := Lib.hid hne0
          clear hmade hne0
          go_wp2
          clear hz0
          go_loopw [9] (fun i wq => ∃ q : Nat, 1 ≤ q ∧ q ≤ 256 ∧ i = .int .i64 q ∧ OwnPids w wq g k0 last m n ∧ Blk wq wr.heap.size 69 (usedA m q)) (fun i _ => 257 - (intOf i).toNat)
          case atStart => exact ⟨1, Nat.le_refl _, by omega, rfl, HDA.out, HM.out⟩
          case round =>
            obtain ⟨q, hq1, hq2, rfl, hd, hb⟩ := hrel
            by_cases hq : q < 256
            · have hqw : (Lit.int .i64 (q : Nat)).wf = true := WalkArith.wf_i64 (by omega)
              have HI := Lib.hid (own_pis hd (q : Int) hqw)
              have HBQ := Lib.hid hb
              clear hd hb
              go_wp2_with fail
              refine (HI.out).mono ?_
              rintro e w3 ⟨rfl, hd, hk3⟩
              have hb3 := hk3 _ _ _ HBQ.out HNE.out
              have c3 := hb3.cell q
              rw [usedA_get m q q hq] at c3
              have f3 := hb3.frozen q
              have hst := hb3.store q (.bool (m (q : Int)))
              rw [usedA_set m q hq1 hq] at hst
              have HST := Lib.hid hst
              have HOP := Lib.hid (own_pstore hd hb3 HSZ.out q (.bool (m (q : Int))))
              clear hd hk3 hb3 hst
              go_wp2_with fail
              go_roundw
              case rel => exact ⟨q + 1, by omega, by omega, by go_num, HOP.out, HST.out⟩
              case measure => simp [intOf]; omega
            · obtain rfl : q = 256 := by omega
              have hok := hd.is.ok
              have hnn := next_none hok
              have hnle : n ≤ k0 := by have := hok.num; have := cnt_le m k0; omega
              cases hs : scan m k0 last k0 0 with
              | none =>
                have hn : n = k0 := hnn.1 hs
                subst hn
                have HC := Lib.hid (own_pnext_no hd hs)
                clear hd hs hok hnn hb
                go_wp2_with fail
                refine (HC.out).mono ?_
                rintro e w4 ⟨rfl, hd, _⟩
                have HD4 := Lib.hid hd
                clear hd
                go_wp2_with fail
                go_roundw
                case rel => exact ⟨k + 1, _, _, _, by omega, by go_num, HD4.out⟩
                case measure => simp [intOf]; omega
              | some x =>
                obtain ⟨j, _, _, hxj, hmx, _⟩ := scan_some hs
                have hne : n ≠ k0 := fun e => by rw [hnn.2 e] at hs; cases hs
                have hxr := (cand_in (last := last) (i := j) (most := k0) (by omega))
                rw [← hxj] at hxr
                have hxw : (Lit.int .i64 (x : Nat)).wf = true := WalkArith.wf_i64 (by omega)
                have HC := Lib.hid (own_pnext hd hs)
                have HBQ := Lib.hid hb
                have hlt2 : n < k0 := by omega
                have HMX := Lib.hid hmx
                clear hd hs hok hnn hxj hmx hb hne
                go_wp2_with fail
                refine (HC.out).mono ?_
                rintro e w4 ⟨rfl, hd, hk4⟩
                have hb4 := hk4 _ _ _ HBQ.out HNE.out
                have c4 := hb4.cell x
                rw [usedA_get m 256 x (by omega), HMX.out, Bool.and_false] at c4
                have hi := own_pis hd (x : Int) hxw
                rw [on_same] at hi
                have HI := Lib.hid hi
                clear hi hd hk4 hb4
                have hx0 : 1 ≤ x := hxr.1
                have hx1 : x ≤ k0 := hxr.2
                go_wp2_with fail
                refine (HI.out).mono ?_
                rintro e w5 ⟨rfl, hd, _⟩
                have HL5 := Lib.hid (own_plen hd)
                have HD5 := Lib.hid hd
                clear hd
                go_wp2_with fail
                refine (HL5.out).mono ?_
                rintro e w' ⟨rfl, rfl⟩
                go_wp2_with fail
                go_roundw
                case rel => exact ⟨k + 1, _, _, _, by omega, by go_num, HD5.out⟩
                case measure => simp [intOf]; omega
        · have q1 : ((xs k).kind != 1) = true := by rw [bne_iff_ne]; exact h1
          have HC := Lib.hid (own_do23 hd (xs k).kind (xs k).id hw)
          clear hac hd hw h1
          go_wp2_with fail
          refine (HL.out).mono ?_
          rintro e w' ⟨rfl, rfl⟩
          go_wp2_with fail
          refine (HC.out).mono ?_
          rintro e w2 ⟨rfl, hd, _⟩
          have HD3 := Lib.hid hd
          clear hd
          go_wp2_with fail
          go_roundw
          case rel => exact ⟨k + 1, _, _, _, by omega, by go_num, HD3.out⟩
          case measure => simp [intOf]; omega
      · have HB := Lib.hid hd.below
        clear hd
        go_wp2_with fail
        refine (pids_awake _).mono ?_
        rintro e w8 ⟨rfl, hb⟩
        have HB8 := Lib.hid (HB.out.trans (hb.mono HB.out.size))
        clear hb
        go_wp2
        go_ret
        exact ⟨rfl, HB8.out⟩
theorem pidsFresh_walk (n : Int) (a : Option Addr) (len cap : Nat) (xs : Nat → Act23) (w : World) (hn : (Lit.int .u8 n).wf = true) (hl : len ≤ maxLen) (h : ActsOf3 w a len xs) :
    Calls Try.prog 10 #[.int .u8 n, .slice a len cap] w fun x w' => x = .returned (.bool true) ∧ Below w.heap.size w w' := by
  have hn' : 0 ≤ n ∧ n ≤ 255 := by simpa [Lit.wf, IntKind.min, IntKind.max, IntKind.signed, IntKind.bits] using hn
  obtain ⟨k, rfl⟩ := Int.eq_ofNat_of_zero_le hn'.1
  exact fresh_any k (by omega) a len cap xs w hl h
end Go.Proofs.Ytbicoiciapngdaa

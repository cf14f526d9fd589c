/- What is proved here: where a letter stands in the two signs of filters; whether a text has one of them, as the library tells it. Condition: few bytes. -/
import Derived.Test.YtdaicjplmnpooaaDoorJoin16
import Derived.Test.YtdaicjplmnpooaaDoorCont17
import Derived.WalkMore
import Derived.Lib.OthersKept
namespace Go.Proofs.YtdaicjplmnpooaaDoor
open Go.RowKit Go.Extern.Stop Go.Stop Go.Extern

theorem enc_hi (r : Nat) (h : 128 ≤ r) : ((Utf8.encode (r : Int)).size = 2 ∧ 128 ≤ ((ls (Utf8.encode (r : Int))).getD 1 0).toNat) ∨ (3 ≤ (Utf8.encode (r : Int)).size ∧ (Utf8.encode (r : Int)).size ≤ 4) := by
  unfold Utf8.encode
  generalize hc : (if Utf8.valid (r : Int) then (r : Int).toNat else Utf8.runeError) = c
  have hc' : 128 ≤ c := by
    rw [← hc]
    split
    · omega
    · decide
  simp only []
  rw [if_neg (by omega)]
  split
  · refine .inl ⟨rfl, ?_⟩
    show 128 ≤ (UInt8.ofNat (0x80 + c % 64)).toNat
    rw [UInt8.toNat_ofNat']
    omega
  · split
    · exact .inr ⟨show 3 ≤ 3 from Nat.le_refl _, show 3 ≤ 4 by omega⟩
    · exact .inr ⟨show 3 ≤ 4 by omega, show 4 ≤ 4 from Nat.le_refl _⟩
section
variable {w : World}
set_option maxHeartbeats 16000000 in
set_option maxRecDepth 1000000 in
theorem rune_hi (r : Nat) (h : 128 ≤ r) (hr : r ≤ 1114111) : Calls Tryd.prog 119 #[.string ⟨#[43, 35]⟩, .int .i32 (r : Int)] w fun x w' => x = .returned (.int .i64 (-1)) ∧ Below w.heap.size w w' := by
  by_cases h0 : r = 65533
  · subst h0
    have n0 := fun ty => run_next_ascii (P := Tryd.prog) w ⟨#[43, 35]⟩ 0 ty (by decide) (by decide)
    have n1 := fun ty => run_next_ascii (P := Tryd.prog) w ⟨#[43, 35]⟩ 1 ty (by decide) (by decide)
    have n2 := fun ty => run_next_end (P := Tryd.prog) w ⟨#[43, 35]⟩ 2 ty (by decide)
    go_enter Tryd.func119, Tryd.ntmps119
    go_wp2_with fail
    go_loopw [5] (fun _ wr => ∃ p : Nat, p ≤ 2 ∧ wr = w.iter ⟨#[43, 35]⟩ p) (fun _ wr => 2 - wr.iterPos w.heap.size)
    case atStart => exact ⟨0, by omega, rfl⟩
    case round =>
      obtain ⟨p, hp, rfl⟩ := hrel
      rcases (show p = 0 ∨ p = 1 ∨ p = 2 by omega) with rfl | rfl | rfl
      · go_wp2_with fail
        go_roundw
        case rel => exact ⟨0 + 1, by omega, rfl⟩
        case measure => simp
      · go_wp2_with fail
        go_roundw
        case rel => exact ⟨1 + 1, by omega, rfl⟩
        case measure => simp
      · go_wp2_with fail
        go_ret
        exact ⟨rfl, below_iter _ _ _⟩
  · have b1 : (((r : Nat) : Int) == 65533) = false := beq_eq_false_iff_ne.2 (by omega)
    have HV := Lib.hid (fun w => Tryd.utf8_ValidRune (r : Int) w)
    have he := enc_hi r h
    generalize Lib.validRune (r : Int) = vb at *
    cases vb with
    | false =>
      go_enter Tryd.func119, Tryd.ntmps119
      go_wp2_with fail
      refine (HV.out _).mono ?_
      rintro x w1 ⟨rfl, rfl⟩
      go_wp2_with fail
      go_ret
      exact ⟨rfl, Below.refl _ _⟩
    | true =>
      have HE := Lib.hid he
      clear he
      go_enter Tryd.func119, Tryd.ntmps119
      go_wp2_with fail
      refine (HV.out _).mono ?_
      rintro x w1 ⟨rfl, rfl⟩
      go_wp2_with fail
      go_step3
      go_wp2_with fail
      generalize Utf8.encode (r : Int) = rs at *
      obtain ⟨m, hm⟩ : ∃ m : Nat, rs.size = m + 1 := ⟨rs.size - 1, by have := HE.out; omega⟩
      have hw : wrap64 ((rs.size : Int) - 1) = (m : Int) := by have := HE.out; rw [IntWalk.wrap64_in _ (by omega)]; omega
      rw [hw]
      clear hw
      refine wp_loop_once ?_
      by_cases h2 : m = 1
      · subst h2
        have hrs : 1 < rs.size := by omega
        have hg := (bAt_get (s := rs) (i := 1) hrs).symm
        have hb' : 128 ≤ bAt rs 1 := by rcases HE.out with ⟨_, hb⟩ | ⟨h3, _⟩; exact hb; omega
        have hne : ((35 : Int) == ((bAt rs 1 : Nat) : Int)) = false := beq_eq_false_iff_ne.2 (by omega)
        have hne2 : ((35 : Int) != ((bAt rs 1 : Nat) : Int)) = true := by rw [bne_iff_ne]; omega
        have hne3 : ((((({ data := #[43, 35] } : ByteArray)[1]'(by decide)).toNat : Nat) : Int) != ((bAt rs 1 : Nat) : Int)) = true := hne2
        clear HE hm
        generalize bAt rs 1 = bb at *
        rw [show ((1 : Nat) : Int) = 1 from rfl]
        go_wp2_with fail
        go_step3
        go_wp2_with fail
        go_quiet (fail)
        have HQ := Lib.hid (Fr.later ((Fr.refl [] w1).drewN nq) (Below.refl w1.heap.size w1) (by simp) (Nat.le_refl _))
        obtain ⟨wq, hwq⟩ : ∃ wq, wq = w1.drewN nq := ⟨_, rfl⟩
        rw [← hwq] at HQ ⊢
        clear hwq
        have HIB := Lib.hid (show ∀ w, Calls Tryd.prog 132 #[.string ByteArray.empty, .int .u8 (bb : Int)] w fun e w' => e = .returned (.int .i64 (-1)) ∧ w' = w from fun w => Tryd.strings_IndexByte ByteArray.empty (bb : Int) w)
        have h11 : IntKind.i64.wrap ((1 : Int) + 1) = 2 := by decide
        go_wp2_with fail
        go_quiet ((go_at_call 132; exact Calls.quiet_of_same (HIB.out _)))
        go_wp2_with fail
        rw [Exit.noGoto_ret]
        go_wp2_with fail
        rw [Exit.noGoto_ret]
        go_ret
        exact ⟨rfl, ((Fr.refl [] wq).drewN _).later HQ.out (by simp) HQ.out.size⟩
      · have h3 : 2 ≤ m := by have := HE.out; omega
        clear HE hm h2
        go_wp2_with fail
        rw [Exit.noGoto_ret]
        go_ret
        exact ⟨rfl, Below.refl _ _⟩
theorem rune_lo (r : Nat) (h : r < 128) : Calls Tryd.prog 119 #[.string ⟨#[43, 35]⟩, .int .i32 (r : Int)] w fun x w' => x = .returned (.int .i64 (if r = 43 then 0 else if r = 35 then 1 else -1)) ∧ Below w.heap.size w w' := by
  refine (Tryd.strings_IndexRune_ascii ⟨#[43, 35]⟩ (r : Int) w (by omega) (by omega)).mono ?_
  rintro x w' ⟨rfl, rfl⟩
  refine ⟨?_, Below.refl _ _⟩
  have e : Lib.indexByte [43, 35] (r : Int).toNat.toUInt8 = (if r = 43 then 0 else if r = 35 then 1 else -1) := by
    rw [Int.toNat_natCast]
    have key : ∀ r : Nat, r < 128 → Lib.indexByte [43, 35] r.toUInt8 = (if r = 43 then 0 else if r = 35 then 1 else -1) := by decide +kernel
    exact key r h
  show Ending.returned (.int .i64 (Lib.indexByte [43, 35] (r : Int).toNat.toUInt8)) = _
  rw [e]
set_option maxHeartbeats 2000000 in
/-- A text of up to eight bytes. -/
theorem contains_short (s : ByteArray) (h8 : s.size ≤ 8) : Calls Tryd.prog 104 #[.string s, .string ⟨#[43, 35]⟩] w fun x w' => (∃ i : Int, x = .returned (.int .i64 i) ∧ decide (0 ≤ i) = signB (ls s)) ∧ Below w.heap.size w w' := by
  have hu := fun w => Tryd.strings_shouldUseASCIISet (s.size : Int) w
  have HU := Lib.hid hu
  have h8z : decide ((8 : Int) < (s.size : Int)) = false := decide_eq_false (by omega)
  rw [h8z] at HU
  clear hu
  go_enter Tryd.func104, Tryd.ntmps104
  go_wp2_with fail
  refine (HU.out _).mono ?_
  rintro x w1 ⟨rfl, rfl⟩
  go_wp2_with fail
  obtain ⟨k, hk⟩ : ∃ k, k = w1.heap.size := ⟨_, rfl⟩
  have hst : (w1.iter s 0).heap[k]? = some (.stringIter s 0) := by rw [hk]; exact World.iter_heap _ _ _
  have hb0 : Below w1.heap.size w1 (w1.iter s 0) := below_iter _ _ _
  rw [← hk] at hb0 ⊢
  generalize w1.iter s 0 = w2 at *
  have HST := Lib.hid hst
  have HB0 := Lib.hid hb0
  have HKK := Lib.hid hk
  have HBK := Lib.hid (fun (W : World) (h : Below k w1 W) => show Below w1.heap.size w1 W by have := h; rw [HKK.out] at this; exact this)
  clear hst hb0 hk HU
  go_loopw [9, 10] (fun _ _ wr => ∃ p : Nat, p ≤ s.size ∧ wr.heap[k]? = some (.stringIter s p) ∧ Below k w1 wr ∧ ∀ j, j < p → bAt s j ≠ 43 ∧ bAt s j ≠ 35) (fun _ _ wr => s.size - wr.iterPos k)
  case atStart => exact ⟨0, Nat.zero_le _, HST.out, HB0.out, fun j hj => by omega⟩
  case round =>
    obtain ⟨p, hp, hit, hb, hno⟩ := hrel
    have HNO := Lib.hid hno
    have HIT := Lib.hid hit
    have HBr := Lib.hid hb
    have hkr := lt_of_block hit
    clear hno hb
    by_cases hlt : p < s.size
    · by_cases ha : bAt s p < 128
      · have hn := fun ty => Lib.run_next_ascii_at (P := Tryd.prog) wr k s p ty hit hlt (by rw [← bAt_get hlt]; exact ha)
        rw [← bAt_get hlt] at hn
        have HR := Lib.hid (fun w => rune_lo (w := w) (bAt s p) ha)
        have HI2 := Lib.hid (Lib.iterAt_heap wr k s p (p + 1) hit)
        have HB2 := Lib.hid (Lib.below_iterAt HBr.out (Nat.le_refl k) s (p + 1))
        have hz := Lib.iterAt_size wr k s (p + 1)
        have hkz : k < (wr.iterAt k s (p + 1)).heap.size := by rw [hz]; exact hkr
        clear hz hit
        by_cases h1 : bAt s p = 43
        · rw [h1] at hn HR
          have HE := Lib.hid (sign_at hlt (.inl h1))
          have HRR : Hid (∀ w, Calls Tryd.prog 119 #[.string ⟨#[43, 35]⟩, .int .i32 43] w fun x w' => x = .returned (.int .i64 0) ∧ Below w.heap.size w w') := Lib.hid HR.out
          clear h1 ha HR
          generalize wr.iterAt k s (p + 1) = w3 at *
          go_wp2_with fail
          refine (HRR.out _).mono ?_
          rintro x w4 ⟨rfl, hb⟩
          have HB4 := Lib.hid (HB2.out.trans (hb.mono (by omega)))
          clear hb
          go_wp2_with fail
          go_ret
          exact ⟨⟨(p : Int), rfl, by rw [HE.out]; exact decide_eq_true (by omega)⟩, HBK.out _ HB4.out⟩
        · by_cases h2 : bAt s p = 35
          · rw [h2] at hn HR
            have HE := Lib.hid (sign_at hlt (.inr h2))
            have HRR : Hid (∀ w, Calls Tryd.prog 119 #[.string ⟨#[43, 35]⟩, .int .i32 35] w fun x w' => x = .returned (.int .i64 1) ∧ Below w.heap.size w w') := Lib.hid HR.out
            clear h1 h2 ha HR
            generalize wr.iterAt k s (p + 1) = w3 at *
            go_wp2_with fail
            refine (HRR.out _).mono ?_
            rintro x w4 ⟨rfl, hb⟩
            have HB4 := Lib.hid (HB2.out.trans (hb.mono (by omega)))
            clear hb
            go_wp2_with fail
            go_ret
            exact ⟨⟨(p : Int), rfl, by rw [HE.out]; exact decide_eq_true (by omega)⟩, HBK.out _ HB4.out⟩
          · have HE := Lib.hid (show ∀ j, j < p + 1 → bAt s j ≠ 43 ∧ bAt s j ≠ 35 from fun j hj => by
              rcases (show j < p ∨ j = p by omega) with h | rfl
              · exact HNO.out j h
              · exact ⟨h1, h2⟩)
            have HRR : Hid (∀ w, Calls Tryd.prog 119 #[.string ⟨#[43, 35]⟩, .int .i32 (bAt s p : Int)] w fun x w' => x = .returned (.int .i64 (-1)) ∧ Below w.heap.size w w') := Lib.hid (fun w => by have := HR.out w; rw [if_neg h1, if_neg h2] at this; exact this)
            clear h1 h2 ha HR
            generalize bAt s p = b at *
            generalize wr.iterAt k s (p + 1) = w3 at *
            go_wp2_with fail
            refine (HRR.out _).mono ?_
            rintro x w4 ⟨rfl, hb⟩
            have HB4 := Lib.hid (HB2.out.trans (hb.mono (by omega)))
            have HI4 := Lib.hid ((hb.block k hkz).trans HI2.out)
            clear hb
            go_wp2_with fail
            go_roundw
            case rel => exact ⟨p + 1, by omega, HI4.out, HB4.out, HE.out⟩
            case measure => unfold World.iterPos; rw [HI4.out, HIT.out]; show s.size - (p + 1) < s.size - p; omega
      · have hn := fun ty => Lib.run_next_any_at (P := Tryd.prog) wr k s p ty hit hlt
        have hh := decode_high s p hlt (by rw [← bAt_get hlt]; omega)
        have hsk := decode_skip hlt (by omega)
        have hrl := Lib.rune_le s p
        have HE := Lib.hid (show ∀ j, j < p + (Utf8.decode s p).2 → bAt s j ≠ 43 ∧ bAt s j ≠ 35 from fun j hj => by
          by_cases h : j < p
          · exact HNO.out j h
          · have := hsk j (by omega) hj
            omega)
        have hle : p + (Utf8.decode s p).2 ≤ s.size := by
          have := hsk (p + (Utf8.decode s p).2 - 1) (by omega) (by omega)
          omega
        have hw := hh.2
        have HRR := Lib.hid (fun w => rune_hi (w := w) (Utf8.decode s p).1 hh.1 hrl)
        clear hsk hh ha hrl
        have HI2 := Lib.hid (Lib.iterAt_heap wr k s p (p + (Utf8.decode s p).2) hit)
        have HB2 := Lib.hid (Lib.below_iterAt HBr.out (Nat.le_refl k) s (p + (Utf8.decode s p).2))
        have hz := Lib.iterAt_size wr k s (p + (Utf8.decode s p).2)
        have hkz : k < (wr.iterAt k s (p + (Utf8.decode s p).2)).heap.size := by rw [hz]; exact hkr
        clear hz hit
        generalize (Utf8.decode s p).1 = r at *
        generalize (Utf8.decode s p).2 = n at *
        generalize wr.iterAt k s (p + n) = w3 at *
        go_wp2_with fail
        refine (HRR.out _).mono ?_
        rintro x w4 ⟨rfl, hb⟩
        have HB4 := Lib.hid (HB2.out.trans (hb.mono (by omega)))
        have HI4 := Lib.hid ((hb.block k hkz).trans HI2.out)
        clear hb
        go_wp2_with fail
        go_roundw
        case rel => exact ⟨p + n, hle, HI4.out, HB4.out, HE.out⟩
        case measure => unfold World.iterPos; rw [HI4.out, HIT.out]; show s.size - (p + n) < s.size - p; omega
    · obtain rfl : p = s.size := by omega
      have hn := fun ty => Lib.run_next_end_at (P := Tryd.prog) wr k s s.size ty hit (by omega)
      have HE := Lib.hid (sign_none HNO.out)
      clear hit
      go_wp2_with fail
      go_ret
      exact ⟨⟨-1, rfl, by rw [HE.out]; rfl⟩, HBK.out _ HBr.out⟩
theorem contains_all (s : ByteArray) (hm : s.size ≤ 1000000) : Calls Tryd.prog 81 #[.string s, .string ⟨#[43, 35]⟩] w fun x w' => x = .returned (.bool (signB (ls s))) ∧ Below w.heap.size w w' := by
  by_cases h8 : 8 < s.size
  · exact contains_told s hm (.inl h8)
  · have H := Lib.hid (contains_short (w := w) s (by omega))
    go_enter Tryd.func81, Tryd.ntmps81
    go_wp2_with fail
    refine (H.out).mono ?_
    rintro x w1 ⟨⟨i, rfl, he⟩, hb⟩
    have HE := Lib.hid he
    have HB := Lib.hid hb
    clear hb he
    go_wp2_with fail
    go_ret
    exact ⟨ret_bool HE.out, HB.out⟩
end
end Go.Proofs.YtdaicjplmnpooaaDoor

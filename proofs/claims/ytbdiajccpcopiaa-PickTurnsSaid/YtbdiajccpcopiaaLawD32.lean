/- What is proved here: PickTurns answers true for every clients, number and client. Condition: the arguments are what a row says of them. -/
import Derived.Test.YtbdiajccpcopiaaTurn32
import Derived.Test.YtbdiajccpcopiaaLawC32
import Derived.Deep.CutBlock
namespace Go.Proofs.Ytbdiajccpcopiaa
open Go.RowKit Go.Extern.Stop Go.Stop Go.Extern
section
variable {w w' : World} {B : Nat} {v : Value} {L : List ByteArray}
theorem Row.drewN (h : Row w B v L) (n : Nat) : Row (w.drewN n) B v L := h
theorem shr_u32 (fr : Nat) (k : Nat) : ((fr : Int) / 2 ^ k) = ((fr / 2 ^ k : Nat) : Int) := by
  rw [Int.natCast_ediv, Int.natCast_pow]; rfl
theorem and1_u32 (a : Nat) (ha : a < 4294967296) : bits .and .u32 (a : Int) 1 = ((a % 2 : Nat) : Int) := by
  show IntKind.u32.wrap ((BitVec.ofInt 32 (a : Int) &&& BitVec.ofInt 32 1).toNat : Int) = _
  rw [BitVec.toNat_and, ofInt_u32 a ha]
  have : (BitVec.ofInt 32 1).toNat = 1 := by decide
  rw [this, Nat.and_one_is_mod]
  exact u32_in _ (by omega)
theorem robin_nobody {A B : Option Addr} {w : World} {L : List ByteArray} (h : SRd w A L) (n c : Nat) (hn : n = L.length) (hm : n ≤ 1000) (hf : SRd w B []) (d : Nat) (v : ByteArray) : Calls Try.prog 34 #[.slice A n c, .slice B 0 d, .string v] w fun x w' => x = .returned (.string ⟨#[]⟩) ∧ w = w' :=
  (robin_any h n c hn hm hf 0 d rfl (by omega) v).mono fun _ _ ⟨e, h⟩ => ⟨e.trans (ret_str (rob_none L v)), h⟩
set_option maxHeartbeats 4000000 in
set_option maxRecDepth 10000 in
theorem turns_main (A : Option Addr) (n c : Nat) (L : List ByteArray) (fr : Nat) (last : ByteArray) (w : World) (hn : n = L.length) (ha : SRd w A L) (hb1 : fewB L = true) (hfr : fr < 4294967296) (hl : last.size ≤ 100) :
    Calls Try.prog 9 #[.slice A n c, .int .u32 fr, .string last] w fun x w' => x = .returned (.bool true) ∧ Below w.heap.size w w' := by
  obtain ⟨hn20, hLs⟩ := few_sizes hb1
  have CA := Lib.hid awake32
  have W1 := Lib.hid (few_any ha n c hn (by omega))
  rw [hb1] at W1
  have HA := Lib.hid ha
  have HN := Lib.hid hn
  have hn1 : n ≤ 20 := by omega
  clear ha hb1 hLs hn
  have hz : Below w.heap.size w w := Below.refl _ _
  have HZ := Lib.hid hz
  clear hz
  go_enter Try.func9, Try.ntmps9
  go_wp2_with fail
  refine W1.out.mono ?_
  rintro x w1 ⟨rfl, rfl⟩
  clear W1
  go_wp2_with fail
  go_loopw [7, 8] (fun v i wr => ∃ k : Nat, k ≤ n ∧ i = .int .i64 k ∧ Row wr w.heap.size v (freeTo L fr k) ∧ Below w.heap.size w wr ∧ Hid (Diff L k)) (fun _ i _ => n - (intOf i).toNat)
  case atStart => exact ⟨0, by omega, rfl, Row.nil _ _, HZ.out, Lib.hid fun i j h1 h2 => by omega⟩
  case round =>
    obtain ⟨k, hk, rfl, hrow, hbr, HD⟩ := hrel
    have HB := Lib.hid hbr
    have HR := Lib.hid hrow
    have HA3 := Lib.hid (HA.out.below hbr)
    have hfl := free_len L fr k
    obtain ⟨va, vc, rfl⟩ := hrow.form
    clear hrow hbr
    by_cases hlt : k < n
    · have hkL : k < L.length := by have := HN.out; omega
      have hD1 := Lib.hid (diff_more (L := L) (k := k) HD.out)
      clear HD
      obtain ⟨g, off, rfl, HCC⟩ := HA3.out.cells (by omega)
      clear hkL
      go_wp2_with fail
      go_loopw [9] (fun i wr' => ∃ j d : Nat, j ≤ k ∧ i = .int .i64 j ∧ wr' = wr.drewN d ∧ Hid (∀ i, i < j → L.getD i e0 ≠ L.getD k e0)) (fun i _ => k - (intOf i).toNat)
      case atStart => exact ⟨0, 0, by omega, rfl, rfl, Lib.hid fun i hi => by omega⟩
      case round =>
        obtain ⟨j, d, hj, rfl, hwr, HP⟩ := hrel
        have HW := Lib.hid hwr
        have c00 : ∀ b, b < L.length → wr.cell? ⟨g, off + b, none⟩ = some (.string (L.getD b e0)) := fun b hb => by rw [hwr]; exact HCC.out b hb
        have HB' := Lib.hid (show Below w.heap.size w wr by rw [hwr]; exact below_drewN HB.out d)
        have HR' := Lib.hid (show Row wr w.heap.size (.slice va (freeTo L fr k).length vc) (freeTo L fr k) by rw [hwr]; exact HR.out.drewN d)
        clear hwr
        by_cases hjk : j < k
        · have c0 := c00 j (by have := HN.out; omega)
          have c1 := c00 k (by have := HN.out; omega)
          clear c00
          by_cases hv : L.getD j e0 = L.getD k e0
          · have t1 : ((L.getD j e0).toList == (L.getD k e0).toList) = true := by rw [hv]; exact same_text _
            clear hv
            generalize L.getD j e0 = y1 at *
            generalize L.getD k e0 = y2 at *
            go_wp2_with fail
            go_quiet (fail)
            go_wp2_with fail
            refine (CA.out _).mono ?_
            rintro x w1 ⟨rfl, hbx⟩
            have HX := Lib.hid ((below_drewN HB'.out _).trans (hbx.mono (below_drewN HB'.out _).size))
            clear hbx
            go_wp2_with fail
            go_ret
            exact ⟨rfl, HX.out⟩
          · have t1 := ne_text hv
            have HP2 := Lib.hid (show ∀ i, i < j + 1 → L.getD i e0 ≠ L.getD k e0 from fun i hi => by
              by_cases e : i = j
              · subst e; exact hv
              · exact HP.out i (by omega))
            clear hv HP
            generalize L.getD j e0 = y1 at *
            generalize L.getD k e0 = y2 at *
            go_wp2_with fail
            go_quiet (fail)
            go_wp2_with fail
            go_roundw
            case rel => exact ⟨j + 1, _, by omega, by go_num, drew_on HW.out _, HP2⟩
            case measure => simp [intOf]; omega
        · obtain rfl : j = k := by omega
          have c0 := c00 j (by have := HN.out; omega)
          have HD2 := Lib.hid (hD1.out HP.out)
          have h1 := shr_u32 fr j
          have hlt2 : fr / 2 ^ j < 4294967296 := Nat.lt_of_le_of_lt (Nat.div_le_self _ _) hfr
          have h2 := and1_u32 (fr / 2 ^ j) hlt2
          clear c00 HW HP hD1
          by_cases hfree : fr / 2 ^ j % 2 = 1
          · have HF := Lib.hid (show freeTo L fr (j + 1) = freeTo L fr j ++ [L.getD j e0] by rw [freeTo, if_pos hfree])
            rw [hfree] at h2
            generalize fr / 2 ^ j = q at *
            clear hfree hlt2 hfr
            generalize L.getD j e0 = y at *
            generalize freeTo L fr j = lf at *
            go_wp2_with (at_builtin; go_must (refine append_row (w0 := w) rfl _ _ rfl (HB'.out.alloc HB'.out.size _) (HR'.out.alloc _) rfl ⟨wr.heap.size, 0, none⟩ 1 1 rfl rfl (srd_one _ y rfl) (by simp; omega) ?_))
            intro v5 w5 h5 hb5
            have H5 := Lib.hid h5
            have HB5 := Lib.hid hb5
            clear h5 hb5
            go_wp2_with fail
            go_roundw
            case rel => exact ⟨j + 1, by omega, by go_num, by rw [HF.out]; exact H5.out, HB5.out, HD2⟩
            case measure => simp [intOf]; omega
          · have HF := Lib.hid (show freeTo L fr (j + 1) = freeTo L fr j by rw [freeTo, if_neg hfree])
            have hz0 : fr / 2 ^ j % 2 = 0 := by omega
            rw [hz0] at h2
            generalize fr / 2 ^ j = q at *
            clear hfree hlt2 hz0 hfr
            generalize L.getD j e0 = y at *
            generalize freeTo L fr j = lf at *
            go_wp2_with fail
            go_roundw
            case rel => exact ⟨j + 1, by omega, by go_num, by rw [HF.out]; exact HR'.out, HB'.out, HD2⟩
            case measure => simp [intOf]; omega
    · obtain rfl : k = n := by omega
      have hnd := Lib.hid (diff_all HD.out (by have := HN.out; omega))
      have hsub : (freeTo L fr k).Sublist L := by
        have := free_sub L fr k (by have := HN.out; omega)
        rwa [List.take_of_length_le (by have := HN.out; omega)] at this
      have HS := Lib.hid hsub
      have HL2 := Lib.hid (fun W (hb : Below wr.heap.size wr W) => HR.out.below hb)
      have HA2 := Lib.hid (fun W (hb : Below wr.heap.size wr W) => HA3.out.below hb)
      have HB2 := Lib.hid (fun W (hb : Below wr.heap.size wr W) => HB.out.trans (hb.mono HB.out.size))
      have HZ2 := Lib.hid (Below.refl wr.heap.size wr)
      clear hsub HA HD HZ hlt hfr
      generalize freeTo L fr k = l at *
      by_cases h0 : l.length = 0
      · have hl0 : l = [] := List.eq_nil_of_length_eq_zero h0
        subst hl0
        have RR := Lib.hid (robin_nobody (HA2.out _ HZ2.out) k c HN.out (by omega) (HL2.out _ HZ2.out).rd vc last)
        clear h0
        simp only [List.length_nil]
        go_wp2_with fail
        refine RR.out.mono ?_
        rintro x w1 ⟨rfl, rfl⟩
        go_wp2_with fail
        refine (CA.out _).mono ?_
        rintro x w1 ⟨rfl, hbx⟩
        have HX := Lib.hid (HB.out.trans (hbx.mono HB.out.size))
        clear hbx
        go_wp2_with fail
        go_ret
        exact ⟨rfl, HX.out⟩
      · have RR := Lib.hid (fun W hb s => robin_any (HA2.out W hb) k c HN.out (by omega) (HL2.out W hb).rd l.length vc rfl (by omega) s)
        have II := Lib.hid (fun W hb s => in_any (HL2.out W hb).rd l.length vc rfl (by omega) s)
        have ST := Lib.hid (fun G s (h : TurnSt L l G s) hG => turn_step hnd.out HS.out h hG)
        have S0 := Lib.hid (turn_start L l last)
        have hlne : ((l.length : Int) == 0) = false := beq_eq_false_iff_ne.2 (by omega)
        clear h0
        go_wp2_with fail
        clear HL2 HA2 HR HA3 HS hnd hlne
        go_loopw [2, 10, 11] (fun lv v i W => ∃ (s : ByteArray) (G : List ByteArray), lv = .string s ∧ i = .int .i64 G.length ∧ G.length ≤ l.length ∧ Row W wr.heap.size v G ∧ Below wr.heap.size wr W ∧ Hid (TurnSt L l G s)) (fun _ _ i _ => l.length - (intOf i).toNat)
        case atStart => exact ⟨last, [], rfl, rfl, by simp, Row.nil _ _, HZ2.out, S0⟩
        case round =>
          obtain ⟨s, G, rfl, rfl, hGl, hrow, hbr, HT⟩ := hrel
          have HBR := Lib.hid hbr
          have HRG := Lib.hid hrow
          obtain ⟨ga, gc, rfl⟩ := hrow.form
          clear hrow hbr
          by_cases hlt : G.length < l.length
          · have hst := ST.out G s HT.out hlt
            have R1 := Lib.hid (RR.out _ HBR.out s)
            have I1 := Lib.hid (II.out _ HBR.out (robF L l s))
            have I2 := Lib.hid (in_any HRG.out.rd G.length gc rfl (by omega) (robF L l s))
            rw [hst.2.1] at I1
            rw [hst.2.2] at I2
            have HT2 := Lib.hid hst.1
            clear hst HT
            generalize robF L l s = y at *
            go_wp2_with fail
            refine R1.out.mono ?_
            rintro x w1 ⟨rfl, rfl⟩
            go_wp2_with fail
            refine I1.out.mono ?_
            rintro x w1 ⟨rfl, rfl⟩
            go_wp2_with fail
            refine I2.out.mono ?_
            rintro x w1 ⟨rfl, rfl⟩
            clear R1 I1 I2
            go_wp2_with (at_builtin; go_must (refine append_row rfl _ _ rfl (HBR.out.alloc HBR.out.size _) (HRG.out.alloc _) rfl ⟨wr.heap.size, 0, none⟩ 1 1 rfl rfl (srd_one _ y rfl) (by simp; omega) ?_))
            intro v5 w5 h5 hb5
            have H5 := Lib.hid h5
            have HB5 := Lib.hid hb5
            clear h5 hb5
            go_wp2_with fail
            go_roundw
            case rel =>
              exact ⟨y, G ++ [y], rfl, by rw [List.length_append]; go_num, by rw [List.length_append, List.length_singleton]; omega, H5.out, HB5.out, HT2⟩
            case measure => simp [intOf]; omega
          · go_wp2_with fail
            refine (CA.out _).mono ?_
            rintro x w1 ⟨rfl, hbx⟩
            have HX := Lib.hid ((HB2.out _ HBR.out).trans (hbx.mono (HB2.out _ HBR.out).size))
            clear hbx
            go_wp2_with fail
            go_ret
            exact ⟨rfl, HX.out⟩
theorem pickTurns_walk (A : Option Addr) (n c : Nat) (L : List ByteArray) (fz : Int) (last : ByteArray) (w : World) (hnz : n ≤ maxLen) (ha : StrsOf w A n L) (hfr : (Lit.int .u32 fz).wf = true) (hlz : last.size ≤ maxLen) :
    Calls Try.prog 9 #[.slice A n c, .int .u32 fz, .string last] w fun x w' => x = .returned (.bool true) ∧ Below w.heap.size w w' := by
  obtain ⟨hn, ha⟩ := ha
  unfold maxLen at hnz hlz
  have hf2 : 0 ≤ fz ∧ fz ≤ 4294967295 := by simpa [Lit.wf, IntKind.min, IntKind.max, IntKind.signed, IntKind.bits] using hfr
  have CA := Lib.hid awake32
  have W1 := Lib.hid (few_any ha n c hn hnz)
  by_cases hall : fewB L = true ∧ last.size ≤ 100
  · obtain ⟨fr, rfl⟩ : ∃ m : Nat, fz = m := ⟨fz.toNat, by omega⟩
    exact turns_main A n c L fr last w hn ha hall.1 (by omega) hall.2
  · cases hb1 : fewB L with
    | false =>
      rw [hb1] at W1
      clear ha hn hb1 hall hfr hf2
      go_enter Try.func9, Try.ntmps9
      go_wp2_with fail
      refine W1.out.mono ?_
      rintro x w1 ⟨rfl, rfl⟩
      go_wp2_with fail
      refine (CA.out _).mono ?_
      rintro x w1 ⟨rfl, hb⟩
      have HB := Lib.hid hb
      clear hb
      go_wp2_with fail
      go_ret
      exact ⟨rfl, HB.out⟩
    | true =>
      rw [hb1] at W1 hall
      have hbad : 100 < last.size := by
        by_cases h1 : last.size ≤ 100
        · exact absurd ⟨rfl, h1⟩ hall
        · omega
      clear ha hn hb1 hall hfr hf2
      go_enter Try.func9, Try.ntmps9
      go_wp2_with fail
      refine W1.out.mono ?_
      rintro x w1 ⟨rfl, rfl⟩
      go_wp2_with fail
      refine (CA.out _).mono ?_
      rintro x w1 ⟨rfl, hb⟩
      have HB := Lib.hid hb
      clear hb
      go_wp2_with fail
      go_ret
      exact ⟨rfl, HB.out⟩
end
end Go.Proofs.Ytbdiajccpcopiaa

/- What is proved here: where the first item of each key stands that waits, or is under way. Conditions: the items stand where the slice says; few of them, of short keys. -/
import Derived.Test.YtkjghlmlfanafaaLan33
import Derived.WalkArith
namespace Go.Proofs.Ytkjghlmlfanafaa
open Go.RowKit Go.Extern.Stop Go.Stop Go.Extern Go.Maps
/-- Where the first item of a key stands that is so. -/
def fstI (p : IV → Bool) (L : IL) (key : ByteArray) : Option Int := (L.findIdx? (fun x => decide (x.topic = key) && p x)).map Int.ofNat
theorem fstI_take (p : IV → Bool) (L : IL) (k : Nat) (h : k < L.length) (key : ByteArray) : fstI p (L.take (k + 1)) key = if (fstI p (L.take k) key).isSome then fstI p (L.take k) key else if (L.getD k i0).topic = key ∧ p (L.getD k i0) = true then some (k : Int) else none := by
  unfold fstI
  rw [List.take_succ_eq_append_getElem h, List.findIdx?_append, List.getD_eq_getElem?_getD, List.getElem?_eq_getElem h]
  cases hf : (L.take k).findIdx? (fun x => decide (x.topic = key) && p x) with
  | some j => simp
  | none =>
    have hl : (L.take k).length = k := by rw [List.length_take]; omega
    simp only [Option.map_none, Option.isSome_none, Option.getD_some, hl]
    by_cases hc : (L[k]).topic = key ∧ p (L[k]) = true
    · simp [List.findIdx?_cons, hc.1, hc.2]
    · have : (decide ((L[k]).topic = key) && p (L[k])) = false := by
        simp only [Bool.and_eq_false_iff, decide_eq_false_iff_not]
        by_cases h1 : (L[k]).topic = key
        · right; cases h2 : p (L[k]) with | false => rfl | true => exact absurd ⟨h1, h2⟩ hc
        · exact .inl h1
      simp [List.findIdx?_cons, this, hc]
theorem z3i (w : World) : (zeroValue 3).run Try.prog w = .ok (.int .i64 0) w := by kernel_rfl
theorem StrMap.mono {P : Program} {k e : TypeId} {w : World} {b n n2 : Nat} {m : ByteArray → Option Int} (h : StrMap P k e w b m n) (hn : n ≤ n2) : StrMap P k e w b m n2 := by
  obtain ⟨D, ⟨es, clock, h0, F, hs, r⟩, h2⟩ := h
  exact ⟨D, ⟨es, clock, h0, F, Nat.le_trans hs hn, r⟩, h2⟩
def MapSays (w : World) (p : IV → Bool) (L : IL) (x : Ending) (w' : World) : Prop := ∃ b n, x = .returned (.map (some b)) ∧ StrMap Try.prog 9 3 w' b (fstI p L) n ∧ Below w.heap.size w w'
section
variable {w : World} {A : Option Addr} {L : IL}
set_option maxHeartbeats 1000000 in
set_option maxHeartbeats 1000000 in
theorem first_waits (h : ItRd w A L) (n c : Nat) (hn : n = L.length) (hm : n ≤ 100) (hz : ∀ m ∈ L, m.topic.size ≤ 1000) : Calls Try.prog 62 #[.slice A n c, .func (.func 64) #[] #[]] w (MapSays w (IV.w) L) := by
  have HR := Lib.hid h
  have HN := Lib.hid hn
  have HZ := Lib.hid hz
  have hmm := @run_makeMap Try.prog
  have HB0 := Lib.hid ((Below.refl w.heap.size w).alloc (Nat.le_refl _) (.map #[] 0))
  have HM0 := Lib.hid (StrMap.made (P := Try.prog) (k := 9) (e := 3) w)
  obtain ⟨b, hb⟩ : ∃ b, b = w.heap.size := ⟨_, rfl⟩
  have HBE := Lib.hid hb
  rw [← hb] at HM0
  clear h hn hz
  go_enter Try.func62, Try.ntmps62
  go_wp2_with fail
  rw [← hb]
  clear hb hmm
  go_loopw [14] (fun i wr => ∃ k : Nat, k ≤ n ∧ i = .int .i64 k ∧ StrMap Try.prog 9 3 wr b (fstI (IV.w) (L.take k)) k ∧ Below w.heap.size w wr) (fun i _ => n - (intOf i).toNat)
  case atStart => exact ⟨0, by omega, rfl, HM0.out, HB0.out⟩
  case round =>
    obtain ⟨k, hk, rfl, hmap, hbe⟩ := hrel
    by_cases hlt : k < n
    · have hkL : k < L.length := by have := HN.out; omega
      obtain ⟨g1, off, rfl, hcc⟩ := HR.out (by omega)
      have hc := (hcc k hkL).at (hbe.block g1 (lt_of_cell (hcc k hkL).c0))
      have hht := fstI_take (IV.w) L k hkL
      have hsz : (L.getD k i0).topic.size ≤ 1000 := by
        refine HZ.out _ ?_
        rw [List.getD_eq_getElem?_getD, List.getElem?_eq_getElem hkL]
        exact List.getElem_mem _
      obtain ⟨m, hm'⟩ : ∃ m, m = L.getD k i0 := ⟨_, rfl⟩
      rw [← hm'] at hc hht hsz
      have HT := Lib.hid hht
      obtain ⟨c0, c1, c2, c3, c4, c5, c6, c7, c8, c9, c10, c11⟩ := hc
      have HMAP := Lib.hid hmap
      have HB := Lib.hid hbe
      have HX0 := Lib.hid (Blk.made wr 69 #[.string m.topic, .string m.payload, .int .i64 m.qos, .bool m.retain, .slice m.pa m.pn m.pc, .string m.frm, .int .i64 m.til, .int .i64 m.seq, .string m.grp, .string m.who, .slice m.ba m.bn m.bc, .bool m.again])
      have HB1 := Lib.hid (hbe.alloc hbe.size (.cells #[.string m.topic, .string m.payload, .int .i64 m.qos, .bool m.retain, .slice m.pa m.pn m.pc, .string m.frm, .int .i64 m.til, .int .i64 m.seq, .string m.grp, .string m.who, .slice m.ba m.bn m.bc, .bool m.again] 69))
      have HM1 := Lib.hid (hmap.below ((Below.refl wr.heap.size wr).alloc (Nat.le_refl _) (.cells #[.string m.topic, .string m.payload, .int .i64 m.qos, .bool m.retain, .slice m.pa m.pn m.pc, .string m.frm, .int .i64 m.til, .int .i64 m.seq, .string m.grp, .string m.who, .slice m.ba m.bn m.bc, .bool m.again] 69)) (Nat.le_refl _))
      have HK := Lib.hid (key_any m (wr.alloc (.cells #[.string m.topic, .string m.payload, .int .i64 m.qos, .bool m.retain, .slice m.pa m.pn m.pc, .string m.frm, .int .i64 m.til, .int .i64 m.seq, .string m.grp, .string m.who, .slice m.ba m.bn m.bc, .bool m.again] 69)))
      have HP := Lib.hid (waits_any m)
      unfold IV.msg at HK
      unfold IV.agg at HP
      clear hcc hkL hht hm' hmap hbe
      go_wp2_with fail
      refine HK.out.mono ?_
      rintro x w2 ⟨rfl, hb2⟩
      have HX2 := Lib.hid (HX0.out.below hb2 HX0.out.lt)
      have HM2 := Lib.hid (HM1.out.below hb2 (Nat.le_refl _))
      have HB2 := Lib.hid (HB1.out.trans (hb2.mono HB1.out.size))
      have hl := (HM2.out.look Try.underlying9 Try.underlying83 Try.underlying3 z3i (by unfold maxLen; omega : m.topic.size ≤ maxLen)).1
      clear hb2 HX0 HM1 HB1 HK c0 c1 c2 c3 c4 c5 c6 c7 c8 c9 c10 c11
      obtain ⟨gz, hgz⟩ : ∃ gz, gz = wr.heap.size := ⟨_, rfl⟩
      rw [← hgz] at HX2
      rw [← hgz]
      have HGZ := Lib.hid hgz
      clear hgz
      have x0 := HX2.out.cell 0
      have x1 := HX2.out.cell 1
      have x2 := HX2.out.cell 2
      have x3 := HX2.out.cell 3
      have x4 := HX2.out.cell 4
      have x5 := HX2.out.cell 5
      have x6 := HX2.out.cell 6
      have x7 := HX2.out.cell 7
      have x8 := HX2.out.cell 8
      have x9 := HX2.out.cell 9
      have x10 := HX2.out.cell 10
      have x11 := HX2.out.cell 11
      have htk := HT.out m.topic
      cases hf : fstI (IV.w) (L.take k) m.topic with
      | some j =>
        rw [hf] at hl
        have HF := Lib.hid (show fstI (IV.w) (L.take (k + 1)) = fstI (IV.w) (L.take k) from funext fun y => by
          rw [HT.out y]
          by_cases hy : (fstI (IV.w) (L.take k) y).isSome = true
          · rw [if_pos hy]
          · rw [if_neg hy, if_neg]
            · cases hq : fstI (IV.w) (L.take k) y with | none => rfl | some q => rw [hq] at hy; exact absurd rfl hy
            · rintro ⟨e, _⟩
              rw [← e, hf] at hy
              exact hy rfl)
        simp only [Option.isSome_some, Option.getD_some] at hl
        clear htk hf
        go_wp2_with fail
        go_roundw
        case rel => exact ⟨k + 1, by omega, by go_num, by rw [HF.out]; exact HM2.out.mono (Nat.le_succ k), HB2.out⟩
        case measure => simp [intOf]; omega
      | none =>
        rw [hf] at hl
        simp only [Option.isSome_none, Option.getD_none] at hl
        have HF0 := Lib.hid hf
        clear htk hf
        go_wp2_with fail
        refine (HP.out _).mono ?_
        rintro x w3 ⟨rfl, hb3⟩
        have HM3 := Lib.hid (HM2.out.below hb3 (Nat.le_refl _))
        have HB3 := Lib.hid (HB2.out.trans (hb3.mono HB2.out.size))
        clear hb3 HP x0 x1 x2 x3 x4 x5 x6 x7 x8 x9 x10 x11 hl HX2
        cases hp : (IV.w) m with
        | true =>
          obtain ⟨w4, hrun, hm4, hg4⟩ := HM3.out.put Try.underlying9 Try.underlying83 Try.underlying3 (by unfold maxLen; omega) (by unfold maxLen; omega : m.topic.size ≤ maxLen) (v := (k : Int)) (WalkArith.wf_i64 (by omega))
          have HF := Lib.hid (show fstI (IV.w) (L.take (k + 1)) = (fun y => if y = m.topic then some (k : Int) else fstI (IV.w) (L.take k) y) from funext fun y => by
            rw [HT.out y]
            by_cases hy : y = m.topic
            · subst hy
              rw [HF0.out]
              simp [hp]
            · rw [if_neg hy]
              by_cases hq : (fstI (IV.w) (L.take k) y).isSome = true
              · rw [if_pos hq]
              · rw [if_neg hq, if_neg (fun e => hy e.1.symm)]
                cases hq2 : fstI (IV.w) (L.take k) y with | none => rfl | some q => rw [hq2] at hq; exact absurd rfl hq)
          have HB4 := Lib.hid (show Below w.heap.size w w4 from (Fr.later (X := [b]) ((Fr.refl _ w3).grown hg4 (fun x hx => .inl (by rw [← Option.some.inj hx]; exact List.mem_singleton_self _))) HB3.out (by have := HBE.out; simp; omega) HB3.out.size))
          have HM4 := Lib.hid hm4
          clear hm4 hg4 hp
          go_wp2_with fail
          go_roundw
          case rel => exact ⟨k + 1, by omega, by go_num, by rw [HF.out]; exact HM4.out, HB4.out⟩
          case measure => simp [intOf]; omega
        | false =>
          have HF := Lib.hid (show fstI (IV.w) (L.take (k + 1)) = fstI (IV.w) (L.take k) from funext fun y => by
            rw [HT.out y, hp]
            simp
            intro hy
            exact hy.symm)
          clear hp
          go_wp2_with fail
          go_roundw
          case rel => exact ⟨k + 1, by omega, by go_num, by rw [HF.out]; exact HM3.out.mono (Nat.le_succ k), HB3.out⟩
          case measure => simp [intOf]; omega
    · have HE := Lib.hid (show MapSays w (IV.w) L (.returned (.map (some b))) wr from ⟨b, k, rfl, by
        have e : L.take k = L := List.take_of_length_le (by have := HN.out; omega)
        rw [e] at hmap
        exact hmap, hbe⟩)
      clear hmap hbe
      go_wp2_with fail
      go_ret
      exact HE.out
set_option maxHeartbeats 1000000 in
theorem first_sent (h : ItRd w A L) (n c : Nat) (hn : n = L.length) (hm : n ≤ 100) (hz : ∀ m ∈ L, m.topic.size ≤ 1000) : Calls Try.prog 62 #[.slice A n c, .func (.func 63) #[] #[]] w (MapSays w (IV.s) L) := by
  have HR := Lib.hid h
  have HN := Lib.hid hn
  have HZ := Lib.hid hz
  have hmm := @run_makeMap Try.prog
  have HB0 := Lib.hid ((Below.refl w.heap.size w).alloc (Nat.le_refl _) (.map #[] 0))
  have HM0 := Lib.hid (StrMap.made (P := Try.prog) (k := 9) (e := 3) w)
  obtain ⟨b, hb⟩ : ∃ b, b = w.heap.size := ⟨_, rfl⟩
  have HBE := Lib.hid hb
  rw [← hb] at HM0
  clear h hn hz
  go_enter Try.func62, Try.ntmps62
  go_wp2_with fail
  rw [← hb]
  clear hb hmm
  go_loopw [14] (fun i wr => ∃ k : Nat, k ≤ n ∧ i = .int .i64 k ∧ StrMap Try.prog 9 3 wr b (fstI (IV.s) (L.take k)) k ∧ Below w.heap.size w wr) (fun i _ => n - (intOf i).toNat)
  case atStart => exact ⟨0, by omega, rfl, HM0.out, HB0.out⟩
  case round =>
    obtain ⟨k, hk, rfl, hmap, hbe⟩ := hrel
    by_cases hlt : k < n
    · have hkL : k < L.length := by have := HN.out; omega
      obtain ⟨g1, off, rfl, hcc⟩ := HR.out (by omega)
      have hc := (hcc k hkL).at (hbe.block g1 (lt_of_cell (hcc k hkL).c0))
      have hht := fstI_take (IV.s) L k hkL
      have hsz : (L.getD k i0).topic.size ≤ 1000 := by
        refine HZ.out _ ?_
        rw [List.getD_eq_getElem?_getD, List.getElem?_eq_getElem hkL]
        exact List.getElem_mem _
      obtain ⟨m, hm'⟩ : ∃ m, m = L.getD k i0 := ⟨_, rfl⟩
      rw [← hm'] at hc hht hsz
      have HT := Lib.hid hht
      obtain ⟨c0, c1, c2, c3, c4, c5, c6, c7, c8, c9, c10, c11⟩ := hc
      have HMAP := Lib.hid hmap
      have HB := Lib.hid hbe
      have HX0 := Lib.hid (Blk.made wr 69 #[.string m.topic, .string m.payload, .int .i64 m.qos, .bool m.retain, .slice m.pa m.pn m.pc, .string m.frm, .int .i64 m.til, .int .i64 m.seq, .string m.grp, .string m.who, .slice m.ba m.bn m.bc, .bool m.again])
      have HB1 := Lib.hid (hbe.alloc hbe.size (.cells #[.string m.topic, .string m.payload, .int .i64 m.qos, .bool m.retain, .slice m.pa m.pn m.pc, .string m.frm, .int .i64 m.til, .int .i64 m.seq, .string m.grp, .string m.who, .slice m.ba m.bn m.bc, .bool m.again] 69))
      have HM1 := Lib.hid (hmap.below ((Below.refl wr.heap.size wr).alloc (Nat.le_refl _) (.cells #[.string m.topic, .string m.payload, .int .i64 m.qos, .bool m.retain, .slice m.pa m.pn m.pc, .string m.frm, .int .i64 m.til, .int .i64 m.seq, .string m.grp, .string m.who, .slice m.ba m.bn m.bc, .bool m.again] 69)) (Nat.le_refl _))
      have HK := Lib.hid (key_any m (wr.alloc (.cells #[.string m.topic, .string m.payload, .int .i64 m.qos, .bool m.retain, .slice m.pa m.pn m.pc, .string m.frm, .int .i64 m.til, .int .i64 m.seq, .string m.grp, .string m.who, .slice m.ba m.bn m.bc, .bool m.again] 69)))
      have HP := Lib.hid (sent_any m)
      unfold IV.msg at HK
      unfold IV.agg at HP
      clear hcc hkL hht hm' hmap hbe
      go_wp2_with fail
      refine HK.out.mono ?_
      rintro x w2 ⟨rfl, hb2⟩
      have HX2 := Lib.hid (HX0.out.below hb2 HX0.out.lt)
      have HM2 := Lib.hid (HM1.out.below hb2 (Nat.le_refl _))
      have HB2 := Lib.hid (HB1.out.trans (hb2.mono HB1.out.size))
      have hl := (HM2.out.look Try.underlying9 Try.underlying83 Try.underlying3 z3i (by unfold maxLen; omega : m.topic.size ≤ maxLen)).1
      clear hb2 HX0 HM1 HB1 HK c0 c1 c2 c3 c4 c5 c6 c7 c8 c9 c10 c11
      obtain ⟨gz, hgz⟩ : ∃ gz, gz = wr.heap.size := ⟨_, rfl⟩
      rw [← hgz] at HX2
      rw [← hgz]
      have HGZ := Lib.hid hgz
      clear hgz
      have x0 := HX2.out.cell 0
      have x1 := HX2.out.cell 1
      have x2 := HX2.out.cell 2
      have x3 := HX2.out.cell 3
      have x4 := HX2.out.cell 4
      have x5 := HX2.out.cell 5
      have x6 := HX2.out.cell 6
      have x7 := HX2.out.cell 7
      have x8 := HX2.out.cell 8
      have x9 := HX2.out.cell 9
      have x10 := HX2.out.cell 10
      have x11 := HX2.out.cell 11
      have htk := HT.out m.topic
      cases hf : fstI (IV.s) (L.take k) m.topic with
      | some j =>
        rw [hf] at hl
        have HF := Lib.hid (show fstI (IV.s) (L.take (k + 1)) = fstI (IV.s) (L.take k) from funext fun y => by
          rw [HT.out y]
          by_cases hy : (fstI (IV.s) (L.take k) y).isSome = true
          · rw [if_pos hy]
          · rw [if_neg hy, if_neg]
            · cases hq : fstI (IV.s) (L.take k) y with | none => rfl | some q => rw [hq] at hy; exact absurd rfl hy
            · rintro ⟨e, _⟩
              rw [← e, hf] at hy
              exact hy rfl)
        simp only [Option.isSome_some, Option.getD_some] at hl
        clear htk hf
        go_wp2_with fail
        go_roundw
        case rel => exact ⟨k + 1, by omega, by go_num, by rw [HF.out]; exact HM2.out.mono (Nat.le_succ k), HB2.out⟩
        case measure => simp [intOf]; omega
      | none =>
        rw [hf] at hl
        simp only [Option.isSome_none, Option.getD_none] at hl
        have HF0 := Lib.hid hf
        clear htk hf
        go_wp2_with fail
        refine (HP.out _).mono ?_
        rintro x w3 ⟨rfl, hb3⟩
        have HM3 := Lib.hid (HM2.out.below hb3 (Nat.le_refl _))
        have HB3 := Lib.hid (HB2.out.trans (hb3.mono HB2.out.size))
        clear hb3 HP x0 x1 x2 x3 x4 x5 x6 x7 x8 x9 x10 x11 hl HX2
        cases hp : (IV.s) m with
        | true =>
          obtain ⟨w4, hrun, hm4, hg4⟩ := HM3.out.put Try.underlying9 Try.underlying83 Try.underlying3 (by unfold maxLen; omega) (by unfold maxLen; omega : m.topic.size ≤ maxLen) (v := (k : Int)) (WalkArith.wf_i64 (by omega))
          have HF := Lib.hid (show fstI (IV.s) (L.take (k + 1)) = (fun y => if y = m.topic then some (k : Int) else fstI (IV.s) (L.take k) y) from funext fun y => by
            rw [HT.out y]
            by_cases hy : y = m.topic
            · subst hy
              rw [HF0.out]
              simp [hp]
            · rw [if_neg hy]
              by_cases hq : (fstI (IV.s) (L.take k) y).isSome = true
              · rw [if_pos hq]
              · rw [if_neg hq, if_neg (fun e => hy e.1.symm)]
                cases hq2 : fstI (IV.s) (L.take k) y with | none => rfl | some q => rw [hq2] at hq; exact absurd rfl hq)
          have HB4 := Lib.hid (show Below w.heap.size w w4 from (Fr.later (X := [b]) ((Fr.refl _ w3).grown hg4 (fun x hx => .inl (by rw [← Option.some.inj hx]; exact List.mem_singleton_self _))) HB3.out (by have := HBE.out; simp; omega) HB3.out.size))
          have HM4 := Lib.hid hm4
          clear hm4 hg4 hp
          go_wp2_with fail
          go_roundw
          case rel => exact ⟨k + 1, by omega, by go_num, by rw [HF.out]; exact HM4.out, HB4.out⟩
          case measure => simp [intOf]; omega
        | false =>
          have HF := Lib.hid (show fstI (IV.s) (L.take (k + 1)) = fstI (IV.s) (L.take k) from funext fun y => by
            rw [HT.out y, hp]
            simp
            intro hy
            exact hy.symm)
          clear hp
          go_wp2_with fail
          go_roundw
          case rel => exact ⟨k + 1, by omega, by go_num, by rw [HF.out]; exact HM3.out.mono (Nat.le_succ k), HB3.out⟩
          case measure => simp [intOf]; omega
    · have HE := Lib.hid (show MapSays w (IV.s) L (.returned (.map (some b))) wr from ⟨b, k, rfl, by
        have e : L.take k = L := List.take_of_length_le (by have := HN.out; omega)
        rw [e] at hmap
        exact hmap, hbe⟩)
      clear hmap hbe
      go_wp2_with fail
      go_ret
      exact HE.out
end
end Go.Proofs.Ytkjghlmlfanafaa

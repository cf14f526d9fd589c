/- What is proved here: with whom a key is, and whether lanes are sound. Conditions: the items stand where the slice says; few of them, of short keys. -/
import Derived.Test.YtkjghlmlfanafaaFst33
import Derived.Deep.RegionHeld3
namespace Go.Proofs.Ytkjghlmlfanafaa
open Go.RowKit Go.Extern.Stop Go.Stop Go.Extern Go.Maps
theorem fstI_some {p : IV → Bool} {L : IL} {key : ByteArray} {j : Int} (h : fstI p L key = some j) : ∃ i : Nat, j = i ∧ i < L.length ∧ (L.getD i i0).topic = key ∧ p (L.getD i i0) = true ∧ ∀ k, k < i → (L.getD k i0).topic = key → p (L.getD k i0) = false := by
  unfold fstI at h
  cases hf : L.findIdx? (fun x => decide (x.topic = key) && p x) with
  | none => rw [hf] at h; cases h
  | some i =>
    rw [hf] at h
    rw [List.findIdx?_eq_some_iff_getElem] at hf
    obtain ⟨hi, h1, h2⟩ := hf
    simp only [Bool.and_eq_true, decide_eq_true_eq] at h1
    refine ⟨i, (Option.some.inj h).symm, hi, ?_, ?_, fun k hk e => ?_⟩
    · rw [List.getD_eq_getElem?_getD, List.getElem?_eq_getElem hi]; exact h1.1
    · rw [List.getD_eq_getElem?_getD, List.getElem?_eq_getElem hi]; exact h1.2
    · have := h2 k hk
      rw [List.getD_eq_getElem?_getD, List.getElem?_eq_getElem (by omega)] at e ⊢
      simp only [Option.getD_some] at e ⊢
      rw [e] at this
      simpa using this
theorem fstI_none {p : IV → Bool} {L : IL} {key : ByteArray} (h : fstI p L key = none) : ∀ k, k < L.length → (L.getD k i0).topic = key → p (L.getD k i0) = false := by
  unfold fstI at h
  rw [Option.map_eq_none_iff, List.findIdx?_eq_none_iff] at h
  intro k hk e
  have := h _ (List.getElem_mem hk)
  rw [List.getD_eq_getElem?_getD, List.getElem?_eq_getElem hk] at e ⊢
  simp only [Option.getD_some] at e ⊢
  rw [e] at this
  simpa using this
/-- With whom a key is. -/
def ownS (L : IL) (key : ByteArray) : ByteArray × Bool := match fstI IV.s L key with | some j => ((L.getD j.toNat i0).who, true) | none => (e0, false)
/-- Are lanes as they must be? -/
def sndB (L : IL) : Bool := (List.range L.length).all fun i => !((L.getD i i0).s && !decide ((L.getD i i0).who = (L.getD ((fstI IV.s L (L.getD i i0).topic).getD 0).toNat i0).who))
section
variable {w : World} {A : Option Addr} {L : IL}
theorem owner_lane (h : ItRd w A L) (n c : Nat) (hn : n = L.length) (hm : n ≤ 100) (hz : ∀ m ∈ L, m.topic.size ≤ 1000) (key : ByteArray) (hk : key.size ≤ 1000) : Calls Try.prog 43 #[.slice A n c, .string key] w fun x w' => x = .returned (.tuple #[.string (ownS L key).1, .bool (ownS L key).2]) ∧ Below w.heap.size w w' := by
  have HF := Lib.hid (first_sent h n c hn hm hz)
  have HR := Lib.hid (fun W (hb : Below w.heap.size w W) => h.below hb)
  have HN := Lib.hid hn
  clear h hn hz
  go_enter Try.func43, Try.ntmps43
  go_wp2_with fail
  refine HF.out.mono ?_
  rintro x w1 ⟨b, nb, rfl, hmap, hb⟩
  have hl := (hmap.look Try.underlying9 Try.underlying83 Try.underlying3 z3i (by unfold maxLen; omega : key.size ≤ maxLen)).1
  have hR1 := HR.out w1 hb
  have HB := Lib.hid hb
  clear hmap hb HF
  cases hf : fstI IV.s L key with
  | none =>
    rw [hf] at hl
    simp only [Option.isSome_none, Option.getD_none] at hl
    have HO := Lib.hid (show ownS L key = (e0, false) by unfold ownS; rw [hf])
    clear hf hR1
    go_wp2_with fail
    go_ret2
    exact ⟨by rw [HO.out]; rfl, HB.out⟩
  | some j =>
    obtain ⟨i, rfl, hi, _⟩ := fstI_some hf
    obtain ⟨g1, off, rfl, hcc⟩ := hR1 (by omega)
    have c9 := (hcc i hi).c9
    rw [hf] at hl
    simp only [Option.isSome_some, Option.getD_some] at hl
    have HO := Lib.hid (show ownS L key = ((L.getD i i0).who, true) by unfold ownS; rw [hf]; rfl)
    have hin : i < n := by have := HN.out; omega
    clear hf hcc hi hR1
    generalize L.getD i i0 = m at *
    go_wp2_with fail
    go_ret2
    exact ⟨by rw [HO.out]; rfl, HB.out⟩
/-- Later than a world. -/
def Ltr (w W : World) : Prop := Below w.heap.size w W
theorem Ltr.drew {W : World} (h : Ltr w W) : Ltr w W.drew := Below.drew h
theorem Ltr.next {W W' : World} (h : Ltr w W) (hb : Below W.heap.size W W') : Ltr w W' := Below.trans h (hb.mono (Below.size h))
def goodI (L : IL) (i : Nat) : Bool := !((L.getD i i0).s && !decide ((L.getD i i0).who = (L.getD ((fstI IV.s L (L.getD i i0).topic).getD 0).toNat i0).who))
theorem sndB_true (h : ∀ j, j < L.length → goodI L j = true) : sndB L = true := by
  unfold sndB
  rw [List.all_eq_true]
  intro i hi
  exact h i (List.mem_range.1 hi)
theorem sndB_false {k : Nat} (hk : k < L.length) (h : goodI L k = false) : sndB L = false := by
  cases hs : sndB L with
  | false => rfl
  | true =>
    unfold sndB at hs
    rw [List.all_eq_true] at hs
    have := hs k (List.mem_range.2 hk)
    exact absurd (this.symm.trans h) (by decide)
set_option maxHeartbeats 1000000 in
theorem sound_lane (h : ItRd w A L) (n c : Nat) (hn : n = L.length) (hm : n ≤ 100) (hz : ∀ m ∈ L, m.topic.size ≤ 1000) : Calls Try.prog 51 #[.slice A n c] w fun x w' => x = .returned (.bool (sndB L)) ∧ Below w.heap.size w w' := by
  have HF := Lib.hid (first_sent h n c hn hm hz)
  have HR := Lib.hid (fun W (hb : Below w.heap.size w W) => h.below hb)
  have HN := Lib.hid hn
  have HZ := Lib.hid hz
  clear h hn hz
  go_enter Try.func51, Try.ntmps51
  go_wp2_with fail
  refine HF.out.mono ?_
  rintro x w1 ⟨b, nb, rfl, hmap, hb⟩
  have HMP := Lib.hid hmap
  have HB := Lib.hid hb
  have HR1 := Lib.hid (HR.out w1 hb)
  clear hmap hb HF HR
  go_wp2_with fail
  go_loopw [10] (fun i wr => ∃ k : Nat, k ≤ n ∧ i = .int .i64 k ∧ Ltr w1 wr ∧ Hid (∀ j, j < k → goodI L j = true)) (fun i _ => n - (intOf i).toNat)
  case atStart => exact ⟨0, by omega, rfl, Below.refl _ _, Lib.hid fun j hj => absurd hj (by omega)⟩
  case round =>
    obtain ⟨k, hk, rfl, hlt0, HG⟩ := hrel
    by_cases hlt : k < n
    · have hkL : k < L.length := by have := HN.out; omega
      obtain ⟨g1, off, rfl, hcc⟩ := HR1.out (by omega)
      have hc := (hcc k hkL).at (hlt0.block g1 (lt_of_cell (hcc k hkL).c0))
      have hsz : (L.getD k i0).topic.size ≤ 1000 := by
        refine HZ.out _ ?_
        rw [List.getD_eq_getElem?_getD, List.getElem?_eq_getElem hkL]
        exact List.getElem_mem _
      have hgood : goodI L k = goodI L k := rfl
      conv at hgood => rhs; unfold goodI
      have hcase : (L.getD k i0).s = false ∨ (L.getD k i0).s = true ∧ ∃ io : Nat, fstI IV.s L (L.getD k i0).topic = some (io : Int) ∧ io < L.length := by
        cases hs : (L.getD k i0).s with
        | false => exact .inl rfl
        | true =>
          right
          cases hf : fstI IV.s L (L.getD k i0).topic with
          | none => exact absurd ((fstI_none hf k hkL rfl).symm.trans hs) (by decide)
          | some j =>
            obtain ⟨i, rfl, hi, _⟩ := fstI_some hf
            exact ⟨rfl, i, rfl, hi⟩
      obtain ⟨m, hm'⟩ : ∃ m, m = L.getD k i0 := ⟨_, rfl⟩
      rw [← hm'] at hc hsz hgood hcase
      obtain ⟨c0, c1, c2, c3, c4, c5, c6, c7, c8, c9, c10, c11⟩ := hc
      have HX0 := Lib.hid (Blk.made wr 69 #[.string m.topic, .string m.payload, .int .i64 m.qos, .bool m.retain, .slice m.pa m.pn m.pc, .string m.frm, .int .i64 m.til, .int .i64 m.seq, .string m.grp, .string m.who, .slice m.ba m.bn m.bc, .bool m.again])
      have HL := Lib.hid (show Ltr w1 (wr.alloc (.cells #[.string m.topic, .string m.payload, .int .i64 m.qos, .bool m.retain, .slice m.pa m.pn m.pc, .string m.frm, .int .i64 m.til, .int .i64 m.seq, .string m.grp, .string m.who, .slice m.ba m.bn m.bc, .bool m.again] 69)) from Below.alloc hlt0 hlt0.size _)
      have D63 := Lib.hid (fun W (h : Ltr (wr.alloc (.cells #[.string m.topic, .string m.payload, .int .i64 m.qos, .bool m.retain, .slice m.pa m.pn m.pc, .string m.frm, .int .i64 m.til, .int .i64 m.seq, .string m.grp, .string m.who, .slice m.ba m.bn m.bc, .bool m.again] 69)) W) => (sent_any m W).mono fun x w' hx => show x = .returned (.bool m.s) ∧ Ltr (wr.alloc (.cells #[.string m.topic, .string m.payload, .int .i64 m.qos, .bool m.retain, .slice m.pa m.pn m.pc, .string m.frm, .int .i64 m.til, .int .i64 m.seq, .string m.grp, .string m.who, .slice m.ba m.bn m.bc, .bool m.again] 69)) w' from ⟨hx.1, h.next hx.2⟩)
      have D45 := Lib.hid (fun W (h : Ltr (wr.alloc (.cells #[.string m.topic, .string m.payload, .int .i64 m.qos, .bool m.retain, .slice m.pa m.pn m.pc, .string m.frm, .int .i64 m.til, .int .i64 m.seq, .string m.grp, .string m.who, .slice m.ba m.bn m.bc, .bool m.again] 69)) W) => (key_any m W).mono fun x w' hx => show x = .returned (.string m.topic) ∧ Ltr (wr.alloc (.cells #[.string m.topic, .string m.payload, .int .i64 m.qos, .bool m.retain, .slice m.pa m.pn m.pc, .string m.frm, .int .i64 m.til, .int .i64 m.seq, .string m.grp, .string m.who, .slice m.ba m.bn m.bc, .bool m.again] 69)) w' from ⟨hx.1, h.next hx.2⟩)
      unfold IV.agg at D63
      unfold IV.msg at D45
      have HCC := Lib.hid hcc
      have HKL := Lib.hid hkL
      have HGO := Lib.hid hgood
      have HCA := Lib.hid hcase
      clear hcc hkL hm' hgood hcase
      go_upto_region 5 with fail
      obtain ⟨wx, hwx⟩ : ∃ wx, wx = wr.alloc (.cells #[.string m.topic, .string m.payload, .int .i64 m.qos, .bool m.retain, .slice m.pa m.pn m.pc, .string m.frm, .int .i64 m.til, .int .i64 m.seq, .string m.grp, .string m.who, .slice m.ba m.bn m.bc, .bool m.again] 69) := ⟨_, rfl⟩
      rw [← hwx] at HX0 HL D63 D45 ⊢
      obtain ⟨gz, hgz⟩ : ∃ gz, gz = wr.heap.size := ⟨_, rfl⟩
      rw [← hgz] at HX0 ⊢
      clear hwx hgz c0 c1 c2 c3 c4 c5 c6 c7 c8 c9 c10 c11
      have hJ : Ltr wx wx := Below.refl _ _
      have hgood := HGO.out
      rcases HCA.out with hs | ⟨hs, io, hf, hio⟩
      · have HS := Lib.hid hs
        have KS := Lib.hid (fun W (h : Ltr wx W) => show W.cell? ⟨gz, 0, none⟩ = some (.string m.topic) ∧ W.cell? ⟨gz, 1, none⟩ = some (.string m.payload) ∧ W.cell? ⟨gz, 2, none⟩ = some (.int .i64 m.qos) ∧ W.cell? ⟨gz, 3, none⟩ = some (.bool m.retain) ∧ W.cell? ⟨gz, 4, none⟩ = some (.slice m.pa m.pn m.pc) ∧ W.cell? ⟨gz, 5, none⟩ = some (.string m.frm) ∧ W.cell? ⟨gz, 6, none⟩ = some (.int .i64 m.til) ∧ W.cell? ⟨gz, 7, none⟩ = some (.int .i64 m.seq) ∧ W.cell? ⟨gz, 8, none⟩ = some (.string m.grp) ∧ W.cell? ⟨gz, 9, none⟩ = some (.string m.who) ∧ W.cell? ⟨gz, 10, none⟩ = some (.slice m.ba m.bn m.bc) ∧ W.cell? ⟨gz, 11, none⟩ = some (.bool m.again) from by
          have hx := HX0.out.below h HX0.out.lt
          exact ⟨hx.cell 0, hx.cell 1, hx.cell 2, hx.cell 3, hx.cell 4, hx.cell 5, hx.cell 6, hx.cell 7, hx.cell 8, hx.cell 9, hx.cell 10, hx.cell 11⟩)
        have hgd : goodI L k = true := by rw [hgood, hs]; rfl
        have HGD := Lib.hid (show ∀ j, j < k + 1 → goodI L j = true from fun j hj => by
          by_cases e : j = k
          · rw [e]; exact hgd
          · exact HG.out j (by omega))
        rw [hs] at D63
        obtain ⟨s0, s1, s2, s3, s4, s5, s6, s7, s8, s9, s10, s11⟩ := KS.out _ hJ
        clear hgood hgd hs
        refine wp_region_held_drew (S := fun W => W.cell? ⟨gz, 0, none⟩ = some (.string m.topic) ∧ W.cell? ⟨gz, 1, none⟩ = some (.string m.payload) ∧ W.cell? ⟨gz, 2, none⟩ = some (.int .i64 m.qos) ∧ W.cell? ⟨gz, 3, none⟩ = some (.bool m.retain) ∧ W.cell? ⟨gz, 4, none⟩ = some (.slice m.pa m.pn m.pc) ∧ W.cell? ⟨gz, 5, none⟩ = some (.string m.frm) ∧ W.cell? ⟨gz, 6, none⟩ = some (.int .i64 m.til) ∧ W.cell? ⟨gz, 7, none⟩ = some (.int .i64 m.seq) ∧ W.cell? ⟨gz, 8, none⟩ = some (.string m.grp) ∧ W.cell? ⟨gz, 9, none⟩ = some (.string m.who) ∧ W.cell? ⟨gz, 10, none⟩ = some (.slice m.ba m.bn m.bc) ∧ W.cell? ⟨gz, 11, none⟩ = some (.bool m.again)) (by kernel_rfl) ?_ (fun hHeld => ?_)
        · (first | assumption | (exact KS.out _ (by assumption)) | (exact KS.out _ (Ltr.drew (by assumption))))
        refine wpAnyH_take (i := 0) (oi := { dst := some 14, op := Op.load 69 (Operand.tmp 5), type := 69, pos := _, after := _, guard := none }) (v := .agg #[.string m.topic, .string m.payload, .int .i64 m.qos, .bool m.retain, .slice m.pa m.pn m.pc, .string m.frm, .int .i64 m.til, .int .i64 m.seq, .string m.grp, .string m.who, .slice m.ba m.bn m.bc, .bool m.again]) rfl (by kernel_rfl) (by kernel_rfl) (by kernel_rfl) (fun _ _ _ h => h) (Or.inl ⟨by rfl, fun w' _ => ?_⟩) (by assumption) ?_
        · go_simp
        simp only [Act.put, List.setIfInBounds_toArray, List.set_cons_zero, List.set_cons_succ]
        refine wpAnyH_ready (rs := [1]) (by kernel_rfl) (by simp) ?_
        refine AllReadyH.cons (o := { dst := some 15, op := Op.call { callee := Callee.value (Operand.func 63), args := #[Operand.tmp 14], argTypes := #[69] }, type := 4, pos := _, after := _, guard := none }) rfl (fun K hK => ?_) AllReadyH.nil
        go_simp
        go_at_call 63
        (with_reducible refine (D63.out _ ?_).mono ?_)
        (first | assumption | exact Ltr.drew (by assumption))
        rintro x w6 ⟨rfl, hd6⟩
        go_wp2_with fail
        refine hK.out _ _ ?_ (fun hHeld1 => ?_)
        · (first | assumption | (exact KS.out _ (by assumption)) | (exact KS.out _ (Ltr.drew (by assumption))))
        clear hK K
        try simp only [Act.put, List.setIfInBounds_toArray, List.set_cons_zero, List.set_cons_succ]
        refine wpAnyH_take (i := 2) (oi := { dst := some 16, op := Op.move (Operand.tmp 15), type := 4, pos := _, after := _, guard := none }) (v := .bool false) rfl (by kernel_rfl) (by kernel_rfl) (by kernel_rfl) (fun _ _ _ h => h) (Or.inl ⟨by rfl, fun w' _ => ?_⟩) (by assumption) ?_
        · go_simp
        simp only [Act.put, List.setIfInBounds_toArray, List.set_cons_zero, List.set_cons_succ]
        refine wpAnyH_take (i := 3) (oi := { dst := some 17, op := Op.fieldAddr 69 (Operand.tmp 5) 1, type := 0, pos := _, after := _, guard := some (2, true) }) (v := undef) rfl (by kernel_rfl) (by kernel_rfl) (by kernel_rfl) (fun _ _ _ h => h) (Or.inr ⟨by rfl, rfl⟩) (by assumption) ?_
        simp only [Act.put, List.setIfInBounds_toArray, List.set_cons_zero, List.set_cons_succ]
        refine wpAnyH_take (i := 4) (oi := { dst := some 18, op := Op.load 9 (Operand.tmp 17), type := 9, pos := _, after := _, guard := some (2, true) }) (v := undef) rfl (by kernel_rfl) (by kernel_rfl) (by kernel_rfl) (fun _ _ _ h => h) (Or.inr ⟨by rfl, rfl⟩) (by assumption) ?_
        simp only [Act.put, List.setIfInBounds_toArray, List.set_cons_zero, List.set_cons_succ]
        refine wpAnyH_take (i := 5) (oi := { dst := some 19, op := Op.move (Operand.tmp 0), type := 61, pos := _, after := _, guard := some (2, true) }) (v := undef) rfl (by kernel_rfl) (by kernel_rfl) (by kernel_rfl) (fun _ _ _ h => h) (Or.inr ⟨by rfl, rfl⟩) (by assumption) ?_
        simp only [Act.put, List.setIfInBounds_toArray, List.set_cons_zero, List.set_cons_succ]
        refine wpAnyH_take (i := 6) (oi := { dst := some 20, op := Op.move (Operand.tmp 3), type := 83, pos := _, after := _, guard := some (2, true) }) (v := undef) rfl (by kernel_rfl) (by kernel_rfl) (by kernel_rfl) (fun _ _ _ h => h) (Or.inr ⟨by rfl, rfl⟩) (by assumption) ?_
        simp only [Act.put, List.setIfInBounds_toArray, List.set_cons_zero, List.set_cons_succ]
        refine wpAnyH_take (i := 7) (oi := { dst := some 21, op := Op.fieldAddr 69 (Operand.tmp 5) 0, type := 0, pos := _, after := _, guard := some (2, true) }) (v := undef) rfl (by kernel_rfl) (by kernel_rfl) (by kernel_rfl) (fun _ _ _ h => h) (Or.inr ⟨by rfl, rfl⟩) (by assumption) ?_
        simp only [Act.put, List.setIfInBounds_toArray, List.set_cons_zero, List.set_cons_succ]
        refine wpAnyH_take (i := 8) (oi := { dst := some 22, op := Op.load 67 (Operand.tmp 21), type := 67, pos := _, after := _, guard := some (2, true) }) (v := undef) rfl (by kernel_rfl) (by kernel_rfl) (by kernel_rfl) (fun _ _ _ h => h) (Or.inr ⟨by rfl, rfl⟩) (by assumption) ?_
        simp only [Act.put, List.setIfInBounds_toArray, List.set_cons_zero, List.set_cons_succ]
        refine wpAnyH_take (i := 9) (oi := { dst := some 23, op := Op.call { callee := Callee.value (Operand.func 45), args := #[Operand.tmp 22], argTypes := #[67] }, type := 9, pos := _, after := _, guard := some (2, true) }) (v := undef) rfl (by kernel_rfl) (by kernel_rfl) (by kernel_rfl) (fun _ _ _ h => h) (Or.inr ⟨by rfl, rfl⟩) (by assumption) ?_
        simp only [Act.put, List.setIfInBounds_toArray, List.set_cons_zero, List.set_cons_succ]
        refine wpAnyH_take (i := 10) (oi := { dst := some 24, op := Op.lookup 83 (Operand.tmp 20) (Operand.tmp 23) false, type := 3, pos := _, after := _, guard := some (2, true) }) (v := undef) rfl (by kernel_rfl) (by kernel_rfl) (by kernel_rfl) (fun _ _ _ h => h) (Or.inr ⟨by rfl, rfl⟩) (by assumption) ?_
        simp only [Act.put, List.setIfInBounds_toArray, List.set_cons_zero, List.set_cons_succ]
        refine wpAnyH_take (i := 11) (oi := { dst := some 25, op := Op.indexAddr 61 (Operand.tmp 19) (Operand.tmp 24), type := 0, pos := _, after := _, guard := some (2, true) }) (v := undef) rfl (by kernel_rfl) (by kernel_rfl) (by kernel_rfl) (fun _ _ _ h => h) (Or.inr ⟨by rfl, rfl⟩) (by assumption) ?_
        simp only [Act.put, List.setIfInBounds_toArray, List.set_cons_zero, List.set_cons_succ]
        refine wpAnyH_take (i := 12) (oi := { dst := some 26, op := Op.fieldAddr 69 (Operand.tmp 25) 1, type := 0, pos := _, after := _, guard := some (2, true) }) (v := undef) rfl (by kernel_rfl) (by kernel_rfl) (by kernel_rfl) (fun _ _ _ h => h) (Or.inr ⟨by rfl, rfl⟩) (by assumption) ?_
        simp only [Act.put, List.setIfInBounds_toArray, List.set_cons_zero, List.set_cons_succ]
        refine wpAnyH_take (i := 13) (oi := { dst := some 27, op := Op.load 9 (Operand.tmp 26), type := 9, pos := _, after := _, guard := some (2, true) }) (v := undef) rfl (by kernel_rfl) (by kernel_rfl) (by kernel_rfl) (fun _ _ _ h => h) (Or.inr ⟨by rfl, rfl⟩) (by assumption) ?_
        simp only [Act.put, List.setIfInBounds_toArray, List.set_cons_zero, List.set_cons_succ]
        refine wpAnyH_take (i := 14) (oi := { dst := some 28, op := Op.binOp BinOp.neq 9 (Operand.tmp 18) (Operand.tmp 27) 9, type := 4, pos := _, after := _, guard := some (2, true) }) (v := undef) rfl (by kernel_rfl) (by kernel_rfl) (by kernel_rfl) (fun _ _ _ h => h) (Or.inr ⟨by rfl, rfl⟩) (by assumption) ?_
        simp only [Act.put, List.setIfInBounds_toArray, List.set_cons_zero, List.set_cons_succ]
        refine wpAnyH_take (i := 15) (oi := { dst := some 29, op := Op.pick (Operand.tmp 16) (Operand.tmp 28) (Operand.const (Value.bool false)), type := 4, pos := _, after := _, guard := none }) (v := .bool false) rfl (by kernel_rfl) (by kernel_rfl) (by kernel_rfl) (fun _ _ _ h => h) (Or.inl ⟨by rfl, fun w' _ => ?_⟩) (by assumption) ?_
        · go_simp
        simp only [Act.put, List.setIfInBounds_toArray, List.set_cons_zero, List.set_cons_succ]
        refine wpAnyH_done (by kernel_rfl) ?_ _
        have HD := Lib.hid hd6
        clear s0 s1 s2 s3 s4 s5 s6 s7 s8 s9 s10 s11
        go_wp2_with fail
        go_roundw
        case rel => exact ⟨k + 1, by omega, by go_num, Below.trans HL.out (HD.out.mono HL.out.size), HGD⟩
        case measure => simp [intOf]; omega
      · have hob : ∀ W, Ltr wx W → W.cell? ⟨g1, off + io * 12 + 9, none⟩ = some (.string (L.getD io i0).who) := fun W hW => (World.cell?_of_block (w := w1) ((Below.trans HL.out (hW.mono HL.out.size)).block g1 (lt_of_cell (HCC.out io hio).c0))).trans (HCC.out io hio).c9
        have hlk : ∀ W, Ltr wx W → (Instr.lookup 83 (.map (some b)) (.string m.topic) false).run Try.prog W = .ok (.int .i64 (io : Int)) W := fun W hW => by
          have h1 := (HMP.out.below (Below.trans HL.out (hW.mono HL.out.size)) (Nat.le_refl _)).look Try.underlying9 Try.underlying83 Try.underlying3 z3i (by unfold maxLen; omega : m.topic.size ≤ maxLen)
          have h2 := h1.2
          rw [hf] at h2
          exact h2
        obtain ⟨wo, hwo⟩ : ∃ wo, wo = (L.getD io i0).who := ⟨_, rfl⟩
        rw [← hwo] at hob
        have hio' : io < n := by have := HN.out; omega
        have KS := Lib.hid (fun W (h : Ltr wx W) => show (W.cell? ⟨gz, 0, none⟩ = some (.string m.topic) ∧ W.cell? ⟨gz, 1, none⟩ = some (.string m.payload) ∧ W.cell? ⟨gz, 2, none⟩ = some (.int .i64 m.qos) ∧ W.cell? ⟨gz, 3, none⟩ = some (.bool m.retain) ∧ W.cell? ⟨gz, 4, none⟩ = some (.slice m.pa m.pn m.pc) ∧ W.cell? ⟨gz, 5, none⟩ = some (.string m.frm) ∧ W.cell? ⟨gz, 6, none⟩ = some (.int .i64 m.til) ∧ W.cell? ⟨gz, 7, none⟩ = some (.int .i64 m.seq) ∧ W.cell? ⟨gz, 8, none⟩ = some (.string m.grp) ∧ W.cell? ⟨gz, 9, none⟩ = some (.string m.who) ∧ W.cell? ⟨gz, 10, none⟩ = some (.slice m.ba m.bn m.bc) ∧ W.cell? ⟨gz, 11, none⟩ = some (.bool m.again)) ∧ W.cell? ⟨g1, off + io * 12 + 9, none⟩ = some (.string wo) ∧ (Instr.lookup 83 (.map (some b)) (.string m.topic) false).run Try.prog W = .ok (.int .i64 (io : Int)) W from by
          have hx := HX0.out.below h HX0.out.lt
          exact ⟨⟨hx.cell 0, hx.cell 1, hx.cell 2, hx.cell 3, hx.cell 4, hx.cell 5, hx.cell 6, hx.cell 7, hx.cell 8, hx.cell 9, hx.cell 10, hx.cell 11⟩, hob W h, hlk W h⟩)
        rw [hf] at hgood
        have hgood2 : goodI L k = !(m.s && !decide (m.who = wo)) := by rw [hgood, hwo]; rfl
        have he := eq_text m.who wo
        have HGD := Lib.hid hgood2
        obtain ⟨⟨s0, s1, s2, s3, s4, s5, s6, s7, s8, s9, s10, s11⟩, s12, s13⟩ := KS.out _ hJ
        clear hgood hgood2 hob hlk hf hwo hio
        rw [hs] at D63 HGD
        clear hs
        by_cases hq : m.who = wo
        · rw [decide_eq_true hq] at he HGD
          clear hq
          go_region_held3 (fun W => (W.cell? ⟨gz, 0, none⟩ = some (.string m.topic) ∧ W.cell? ⟨gz, 1, none⟩ = some (.string m.payload) ∧ W.cell? ⟨gz, 2, none⟩ = some (.int .i64 m.qos) ∧ W.cell? ⟨gz, 3, none⟩ = some (.bool m.retain) ∧ W.cell? ⟨gz, 4, none⟩ = some (.slice m.pa m.pn m.pc) ∧ W.cell? ⟨gz, 5, none⟩ = some (.string m.frm) ∧ W.cell? ⟨gz, 6, none⟩ = some (.int .i64 m.til) ∧ W.cell? ⟨gz, 7, none⟩ = some (.int .i64 m.seq) ∧ W.cell? ⟨gz, 8, none⟩ = some (.string m.grp) ∧ W.cell? ⟨gz, 9, none⟩ = some (.string m.who) ∧ W.cell? ⟨gz, 10, none⟩ = some (.slice m.ba m.bn m.bc) ∧ W.cell? ⟨gz, 11, none⟩ = some (.bool m.again)) ∧ W.cell? ⟨g1, off + io * 12 + 9, none⟩ = some (.string wo) ∧ (Instr.lookup 83 (.map (some b)) (.string m.topic) false).run Try.prog W = .ok (.int .i64 (io : Int)) W)
            (first | assumption | (exact KS.out _ (by assumption)) | (exact KS.out _ (Ltr.drew (by assumption))))
            (first
            | (go_at_call 63; (with_reducible refine (D63.out _ ?_).mono ?_); (first | assumption | exact Ltr.drew (by assumption)); rintro x w6 ⟨rfl, hd6⟩)
            | (go_at_call 45; (with_reducible refine (D45.out _ ?_).mono ?_); (first | assumption | exact Ltr.drew (by assumption)); rintro x w7 ⟨rfl, hd7⟩))
          have HD := Lib.hid hd7
          have HGD2 := Lib.hid (show ∀ j, j < k + 1 → goodI L j = true from fun j hj => by
            by_cases e : j = k
            · rw [e, HGD.out]; rfl
            · exact HG.out j (by omega))
          clear s0 s1 s2 s3 s4 s5 s6 s7 s8 s9 s10 s11 s12 s13
          go_wp2_with fail
          go_roundw
          case rel => exact ⟨k + 1, by omega, by go_num, Below.trans HL.out (HD.out.mono HL.out.size), HGD2⟩
          case measure => simp [intOf]; omega
        · rw [decide_eq_false hq] at he HGD
          clear hq
          go_region_held3 (fun W => (W.cell? ⟨gz, 0, none⟩ = some (.string m.topic) ∧ W.cell? ⟨gz, 1, none⟩ = some (.string m.payload) ∧ W.cell? ⟨gz, 2, none⟩ = some (.int .i64 m.qos) ∧ W.cell? ⟨gz, 3, none⟩ = some (.bool m.retain) ∧ W.cell? ⟨gz, 4, none⟩ = some (.slice m.pa m.pn m.pc) ∧ W.cell? ⟨gz, 5, none⟩ = some (.string m.frm) ∧ W.cell? ⟨gz, 6, none⟩ = some (.int .i64 m.til) ∧ W.cell? ⟨gz, 7, none⟩ = some (.int .i64 m.seq) ∧ W.cell? ⟨gz, 8, none⟩ = some (.string m.grp) ∧ W.cell? ⟨gz, 9, none⟩ = some (.string m.who) ∧ W.cell? ⟨gz, 10, none⟩ = some (.slice m.ba m.bn m.bc) ∧ W.cell? ⟨gz, 11, none⟩ = some (.bool m.again)) ∧ W.cell? ⟨g1, off + io * 12 + 9, none⟩ = some (.string wo) ∧ (Instr.lookup 83 (.map (some b)) (.string m.topic) false).run Try.prog W = .ok (.int .i64 (io : Int)) W)
            (first | assumption | (exact KS.out _ (by assumption)) | (exact KS.out _ (Ltr.drew (by assumption))))
            (first
            | (go_at_call 63; (with_reducible refine (D63.out _ ?_).mono ?_); (first | assumption | exact Ltr.drew (by assumption)); rintro x w6 ⟨rfl, hd6⟩)
            | (go_at_call 45; (with_reducible refine (D45.out _ ?_).mono ?_); (first | assumption | exact Ltr.drew (by assumption)); rintro x w7 ⟨rfl, hd7⟩))
          have HD := Lib.hid (Below.trans HL.out (Below.mono hd7 HL.out.size))
          have HSF := Lib.hid (sndB_false HKL.out (HGD.out.trans rfl))
          have HBE := Lib.hid (HB.out.trans (HD.out.mono HB.out.size))
          clear s0 s1 s2 s3 s4 s5 s6 s7 s8 s9 s10 s11 s12 s13
          go_wp2_with fail
          go_ret
          exact ⟨by rw [HSF.out]; rfl, HBE.out⟩
    · have HE := Lib.hid (sndB_true (L := L) fun j hj => HG.out j (by have := HN.out; omega))
      have HBE := Lib.hid (HB.out.trans (Below.mono hlt0 HB.out.size))
      clear hlt0
      go_wp2_with fail
      go_ret
      exact ⟨by rw [HE.out]; rfl, HBE.out⟩
end
end Go.Proofs.Ytkjghlmlfanafaa

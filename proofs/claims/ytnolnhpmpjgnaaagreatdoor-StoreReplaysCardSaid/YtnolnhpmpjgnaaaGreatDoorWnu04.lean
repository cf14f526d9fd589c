/- What is proved here: whether a Writer of package field is ended, and how it notes its first error. Conditions: the writer is there. What is proved here: the numbers that a Writer of package field writes. Conditions: the writer is there, with few bytes; what the rows list of the package's variables. -/
import Derived.Test.YtnolnhpmpjgnaaaGreatDoorRob04
import Derived.Test.YtnolnhpmpjgnaaaGreatDoorSays02
import Derived.Deep.RegionHeld3
import Derived.Deep.AppendLies
import Derived.Deep.QuietTactic
import Derived.BigQuiet
namespace Go.Proofs.YtnolnhpmpjgnaaaGreatDoor
open Go.RowKit Go.Extern.Stop Go.Stop Go.Extern
theorem be1_v (n : Nat) : (be 1 n).map byteV = [.int .u8 ((n % 256 : Nat) : Int)] := by
  have : be 1 n = [UInt8.ofNat (n % 256)] := rfl
  rw [this, List.map_singleton, byteV_ofNat (Nat.mod_lt _ (by omega))]
theorem be1_lt {n : Nat} (h : n < 256) : (be 1 n).map byteV = [.int .u8 (n : Int)] := by rw [be1_v, Nat.mod_eq_of_lt h]
theorem be_one (k n : Nat) : be (k + 1) n = be k (n / 256) ++ be 1 n := by simp [be]
theorem byte_nat (n k : Nat) : ((n : Int) / (k : Int)) = ((n / k : Nat) : Int) := by omega
theorem be2_v {n : Nat} (h : n < 65536) : (be 1 (n / 256)).map byteV = [.int .u8 ((n : Int) / 256)] := by
  rw [be1_lt (by omega)]
  rfl
theorem be1_m (n : Nat) : (be 1 n).map byteV = [.int .u8 ((n : Int) % 256)] := by rw [be1_v]; rfl
theorem be3_v (n : Nat) : (be 1 (n / 256)).map byteV = [.int .u8 ((n : Int) / 256 % 256)] := by rw [be1_v]; rfl
theorem be4_v {n : Nat} (h : n < 4294967296) : (be 1 (n / 16777216) ++ be 1 (n / 65536)).map byteV = [.int .u8 ((n : Int) / 16777216), .int .u8 ((n : Int) / 65536 % 256)] := by
  rw [List.map_append, be1_v, be1_v, Nat.mod_eq_of_lt (show n / 16777216 < 256 by omega)]
  rfl
theorem be_two (n : Nat) : be 2 n = be 1 (n / 256) ++ be 1 n := be_one 1 n
theorem be_four (n : Nat) : be 4 n = ((be 1 (n / 16777216) ++ be 1 (n / 65536)) ++ be 1 (n / 256)) ++ be 1 n := by
  rw [be_one 3, be_one 2, be_one 1]
  simp only [Nat.div_div_eq_div_mul, Nat.reduceMul]
section
variable {w w' : World} {S : Nat → Addr} {B g : Nat} {v : Value} {W : EV}
theorem wended_no (h : WObj w S B g v W) (h0 : W.no = 0) : Calls Tryz.prog 105 #[.pointer (some ⟨g, 0, none⟩)] w fun x w' => x = .returned (.bool false) ∧ w = w' := by
  have c1 : w.cell? ⟨g, 1, none⟩ = some .nilIface := (h.nil_err h0).cell 1
  clear h
  go_enter Tryz.func105, Tryz.ntmps105
  go_wp2
  go_ret
  exact ⟨rfl, rfl⟩
theorem wended_yes (h : WObj w S B g v W) (h0 : W.no ≠ 0) : Calls Tryz.prog 105 #[.pointer (some ⟨g, 0, none⟩)] w fun x w' => x = .returned (.bool true) ∧ w = w' := by
  obtain ⟨t, u, hb, _⟩ := h.has_err h0
  have c1 : w.cell? ⟨g, 1, none⟩ = some (.iface t u) := hb.cell 1
  clear h hb h0
  go_enter Tryz.func105, Tryz.ntmps105
  go_wp2
  go_ret
  exact ⟨rfl, rfl⟩
theorem wended_nil (w : World) : Calls Tryz.prog 105 #[.pointer none] w fun x w' => x = .returned (.bool true) ∧ w = w' := by
  go_enter Tryz.func105, Tryz.ntmps105
  go_wp2
  go_ret
  exact ⟨rfl, rfl⟩
/-- What a method of a writer says that answers nothing. -/
def WSays (w : World) (S : Nat → Addr) (B g : Nat) (v : Value) (W' : EV) (x : Ending) (w' : World) : Prop := x = .returned (.tuple #[]) ∧ ∃ v', WNext w w' S B g v v' W'
theorem wfail_any (hE : Env w S) (h : WObj w S B g v W) (hl : W.L.length ≤ 900000) {no a b : Nat} {e : Value} (he : ErrOf w S 129 no a e) (h0 : no ≠ 0) (ha : a ≤ 100000) (hb : b ≤ 10) :
    Calls Tryz.prog 123 #[.pointer (some ⟨g, 0, none⟩), e, .int .i64 b] w (WSays w S B g v ⟨no, W.L.length + b + a, []⟩) := by
  obtain ⟨av, cv, rfl⟩ := h.row.form
  obtain ⟨_, hb1, _⟩ := h.blk
  have c0 : w.cell? ⟨g, 0, none⟩ = some (.slice av W.L.length cv) := hb1.cell 0
  have HD := Lib.hid (deeper_err (b := W.L.length + b) hE he h0 (by omega) (by omega))
  obtain ⟨t, u, rfl⟩ := err_iface he h0
  have H := Lib.hid h
  have hw : (W.L.length : Int) + (b : Int) = ((W.L.length + b : Nat) : Int) := by omega
  generalize hn : W.L.length = n at *
  have HW := Lib.hid hw
  clear h hb1 he hn hw
  go_enter Tryz.func123, Tryz.ntmps123
  go_wp2_with fail
  rw [HW.out]
  refine HD.out.mono ?_
  rintro x w1 ⟨e', rfl, he', hb'⟩
  have h1 := H.out.below hb'
  have hno := h1.failed he'
  obtain ⟨t', u', rfl⟩ := err_iface he' h0
  obtain ⟨e2, hb2, _⟩ := h1.blk
  have d0 : w1.cell? ⟨g, 1, none⟩ = some e2 := hb2.cell 1
  have d1 : w1.frozen? ⟨g, 1, none⟩ = false := hb2.frozen 1
  have hb3 := hb2.store 1 (.iface t' u')
  have d2 : (w1.setCell ⟨g, 1, none⟩ (.iface t' u')).cell? ⟨g, 0, none⟩ = some (.slice av n cv) := hb3.cell 0
  have d3 : (w1.setCell ⟨g, 1, none⟩ (.iface t' u')).frozen? ⟨g, 0, none⟩ = false := hb3.frozen 0
  have HF := Lib.hid (hno.pre hb')
  clear h1 hno hb2 hb3 he' hb' HD HW
  go_wp2
  have e3 : n + b + a = a + (n + b) := by omega
  rw [e3]
  exact bodyPost_end (v := .tuple #[]) (by simp [results, Tryz.results123, go_sem]) rfl ⟨rfl, _, HF.out⟩
end
end Go.Proofs.YtnolnhpmpjgnaaaGreatDoor
namespace Go.Proofs.YtnolnhpmpjgnaaaGreatDoor
open Go.RowKit Go.Extern.Stop Go.Stop Go.Extern
section
variable {w w' : World} {S : Nat → Addr} {B g : Nat} {v : Value} {W : EV}
theorem fwrong_any (S : Nat → Addr) (i : Nat) (a : Int) (w : World) :
    Calls Tryz.prog 50 #[.int .i64 a, .iface 188 (.pointer (some (S i)))] w fun x w' => ∃ e, x = .returned e ∧ ErrIs w' S i 129 a e ∧ Below w.heap.size w w' := by
  go_enter Tryz.func50, Tryz.ntmps50
  go_wp2_with fail
  refine (new_err S i 129 a).mono ?_
  rintro x w' ⟨e, rfl, he, hb⟩
  go_wp2
  go_ret
  exact ⟨_, rfl, he, hb⟩
theorem wnum_stuck (h : WObj w S B g v W) (h0 : W.no ≠ 0) (n k : Int) (e : EV) :
    Calls Tryz.prog 103 #[.pointer (some ⟨g, 0, none⟩), .int .i64 n, .int .i64 k] w (WSays w S B g v (stepW W e)) := by
  rw [stepW_stuck h0]
  have HE := Lib.hid (wended_yes h h0)
  have HS := Lib.hid (h.step (Below.refl _ _))
  clear h h0
  go_enter Tryz.func103, Tryz.ntmps103
  go_wp2_with fail
  refine HE.out.mono ?_
  rintro x w1 ⟨rfl, rfl⟩
  go_wp2
  exact bodyPost_ret (v := .tuple #[]) (by simp [results, Tryz.results103, go_sem]) rfl ⟨rfl, _, HS.out⟩
theorem wnum_1 (h : WObj w S B g v W) (h0 : W.no = 0) (hl : W.L.length ≤ 900000) (n : Nat) (hn : n < 256) :
    Calls Tryz.prog 103 #[.pointer (some ⟨g, 0, none⟩), .int .i64 n, .int .i64 1] w (WSays w S B g v ⟨0, W.at_, W.L ++ be 1 n⟩) := by
  obtain ⟨av, nv, cv, rfl, hnv⟩ := h.row.some_form
  have c0 : w.cell? ⟨g, 0, none⟩ = some (.slice av nv cv) := (h.nil_err h0).cell 0
  have HE := Lib.hid (wended_no h h0)
  have H := Lib.hid h
  have HL := Lib.hid hl
  clear h hl hnv
  go_enter Tryz.func103, Tryz.ntmps103
  go_wp2_with fail
  refine HE.out.mono ?_
  rintro x w1 ⟨rfl, rfl⟩
  go_wp2_with (at_builtin; go_must (refine append_new (be 1 n) rfl _ _ rfl H.out.row H.out.size rfl w.heap.size 1 1 rfl rfl rfl #[.int .u8 (n : Int)] ?c1 ?c2 ?_))
  case c1 => rw [be1_lt hn]
  case c2 => have := HL.out; simp only [be_len]; omega
  intro v1 w2 hn2
  obtain ⟨a1, n1, c1, rfl, hnn⟩ := hn2.row.some_form
  obtain ⟨d0, d1, hN⟩ := H.out.appended h0 hn2
  have HN := Lib.hid hN
  clear hN hn2 hnn
  go_wp2
  exact bodyPost_end (v := .tuple #[]) (by simp [results, Tryz.results103, go_sem]) rfl ⟨rfl, _, HN.out⟩
theorem wnum_2 (h : WObj w S B g v W) (h0 : W.no = 0) (hl : W.L.length ≤ 900000) (n : Nat) (hn : n < 65536) :
    Calls Tryz.prog 103 #[.pointer (some ⟨g, 0, none⟩), .int .i64 n, .int .i64 2] w (WSays w S B g v ⟨0, W.at_, W.L ++ be 2 n⟩) := by
  obtain ⟨av, nv, cv, rfl, hnv⟩ := h.row.some_form
  have c0 : w.cell? ⟨g, 0, none⟩ = some (.slice av nv cv) := (h.nil_err h0).cell 0
  have HE := Lib.hid (wended_no h h0)
  have H := Lib.hid h
  have HL := Lib.hid hl
  clear h hl hnv
  go_enter Tryz.func103, Tryz.ntmps103
  go_wp2_with fail
  refine HE.out.mono ?_
  rintro x w1 ⟨rfl, rfl⟩
  go_wp2_with (at_builtin; go_must (refine append_new (be 1 (n / 256)) rfl _ _ rfl H.out.row H.out.size rfl w.heap.size 1 1 rfl rfl rfl #[.int .u8 ((n : Int) / 256)] ?c1 ?c2 ?_))
  case c1 => rw [be2_v hn]
  case c2 => have := HL.out; simp only [be_len]; omega
  intro v1 w2 hn2
  obtain ⟨a1, n1, c1, rfl, hnn⟩ := hn2.row.some_form
  obtain ⟨d0, d1, hN⟩ := H.out.appended h0 hn2
  have c1 := (hN.obj.nil_err rfl).cell 0
  have HN := Lib.hid hN
  clear hN hn2 hnn
  go_wp2_with (at_builtin; go_must (refine append_new (be 1 n) rfl _ _ rfl HN.out.obj.row HN.out.obj.size rfl w2.heap.size 1 1 rfl (by simp [World.setCell]) rfl #[.int .u8 ((n : Int) % 256)] ?c1 ?c2 ?_))
  case c1 => rw [be1_m]
  case c2 => have := HL.out; simp only [be_len]; omega
  intro v2 w3 hn3
  obtain ⟨a2, n2, c2, rfl, hnn⟩ := hn3.row.some_form
  obtain ⟨d0, d1, hN⟩ := HN.out.obj.appended rfl hn3
  have hF := HN.out.trans hN
  simp only [← be_two] at hF
  have HF := Lib.hid hF
  clear hN hn3 hnn hF
  go_wp2
  exact bodyPost_end (v := .tuple #[]) (by simp [results, Tryz.results103, go_sem]) rfl ⟨rfl, _, HF.out⟩
theorem wnum_4 (h : WObj w S B g v W) (h0 : W.no = 0) (hl : W.L.length ≤ 900000) (n : Nat) (hn : n < 4294967296) :
    Calls Tryz.prog 103 #[.pointer (some ⟨g, 0, none⟩), .int .i64 n, .int .i64 4] w (WSays w S B g v ⟨0, W.at_, W.L ++ be 4 n⟩) := by
  rw [be_four, ← List.append_assoc, ← List.append_assoc, ← List.append_assoc]
  obtain ⟨av, nv, cv, rfl, hnv⟩ := h.row.some_form
  have c0 : w.cell? ⟨g, 0, none⟩ = some (.slice av nv cv) := (h.nil_err h0).cell 0
  have HE := Lib.hid (wended_no h h0)
  have H := Lib.hid h
  have HL := Lib.hid hl
  clear h hl hnv
  go_enter Tryz.func103, Tryz.ntmps103
  go_wp2_with fail
  refine HE.out.mono ?_
  rintro x w1 ⟨rfl, rfl⟩
  go_wp2_with (at_builtin; go_must (refine append_new (be 1 (n / 16777216) ++ be 1 (n / 65536)) rfl _ _ rfl H.out.row H.out.size rfl w.heap.size 2 2 rfl rfl rfl #[.int .u8 ((n : Int) / 16777216), .int .u8 ((n : Int) / 65536 % 256)] ?c1 ?c2 ?_))
  case c1 => rw [← List.map_append, be4_v hn]
  case c2 => have := HL.out; simp only [List.length_append, be_len]; omega
  intro v1 w2 hn2
  obtain ⟨a1, n1, c1, rfl, hnn⟩ := hn2.row.some_form
  obtain ⟨d0, d1, hN⟩ := H.out.appended h0 hn2
  have c1 := (hN.obj.nil_err rfl).cell 0
  have HN := Lib.hid hN
  clear hN hn2 hnn
  go_wp2_with (at_builtin; go_must (refine append_new (be 1 (n / 256)) rfl _ _ rfl HN.out.obj.row HN.out.obj.size rfl w2.heap.size 1 1 rfl (by simp [World.setCell]) rfl #[.int .u8 ((n : Int) / 256 % 256)] ?c1 ?c2 ?_))
  case c1 => rw [be3_v]
  case c2 => have := HL.out; simp only [be_len]; omega
  intro v3 w4 hn4
  obtain ⟨a3, n3, c3, rfl, hnn⟩ := hn4.row.some_form
  obtain ⟨d0, d1, hN⟩ := HN.out.obj.appended rfl hn4
  have hM := HN.out.trans hN
  clear HN hN hn4 hnn
  have c1 := (hM.obj.nil_err rfl).cell 0
  have HN := Lib.hid hM
  clear hM
  go_wp2_with (at_builtin; go_must (refine append_new (be 1 n) rfl _ _ rfl HN.out.obj.row HN.out.obj.size rfl w4.heap.size 1 1 rfl (by simp [World.setCell]) rfl #[.int .u8 ((n : Int) % 256)] ?c1 ?c2 ?_))
  case c1 => rw [be1_m]
  case c2 => have := HL.out; simp only [be_len]; omega
  intro v2 w3 hn3
  obtain ⟨a2, n2, c2, rfl, hnn⟩ := hn3.row.some_form
  obtain ⟨d0, d1, hN⟩ := HN.out.obj.appended rfl hn3
  have hF := HN.out.trans hN
  simp only [← List.append_assoc] at hF

  have HF := Lib.hid hF
  clear hN hn3 hnn hF
  go_wp2
  exact bodyPost_end (v := .tuple #[]) (by simp [results, Tryz.results103, go_sem]) rfl ⟨rfl, _, HF.out⟩
theorem wnum_bad (hE : Env w S) (h : WObj w S B g v W) (h0 : W.no = 0) (hl : W.L.length ≤ 900000) (n : Int) (k : Nat) (hk : k = 1 ∨ k = 2 ∨ k = 4) (hn : n < 0 ∨ ((256 ^ k : Nat) : Int) ≤ n) :
    Calls Tryz.prog 103 #[.pointer (some ⟨g, 0, none⟩), .int .i64 n, .int .i64 k] w (WSays w S B g v ⟨4, W.L.length, []⟩) := by
  have HE := Lib.hid (wended_no h h0)
  have HW := Lib.hid hE
  have H := Lib.hid h
  have HL := Lib.hid hl
  clear h hl hE
  rcases hk with rfl | rfl | rfl <;> rcases hn with hn | hn
  all_goals go_enter Tryz.func103, Tryz.ntmps103
  all_goals go_wp2_with fail
  all_goals refine HE.out.mono ?_
  all_goals rintro x w1 ⟨rfl, rfl⟩
  all_goals have k0 := HW.out.kTooLarge
  all_goals try (have hp : 0 ≤ n := by omega)
  all_goals go_wp2_with fail
  all_goals refine (fwrong_any S 3 0 _).mono ?_
  all_goals rintro x w2 ⟨e, rfl, he, hb⟩
  all_goals have HF := Lib.hid ((wfail_any (b := 0) (a := 0) (HW.out.later hb) (H.out.below hb) HL.out (ErrOf.some (no := 4) (by omega) (by omega) he) (by omega) (by omega) (by omega)).mono fun x w' h => show x = Ending.returned (.tuple #[]) ∧ ∃ v', WNext w w' S B g v v' ⟨4, W.L.length, []⟩ from ⟨h.1, h.2.choose, h.2.choose_spec.pre hb⟩)
  all_goals clear he hb k0
  all_goals go_wp2_with fail
  all_goals refine HF.out.mono ?_
  all_goals rintro x w3 ⟨rfl, v', hN⟩
  all_goals have HN := Lib.hid hN
  all_goals clear hN HF
  all_goals go_wp2
  all_goals exact bodyPost_ret (v := .tuple #[]) (by simp [results, Tryz.results103, go_sem]) rfl ⟨rfl, _, HN.out⟩
theorem wnum_any (hE : Env w S) (h : WObj w S B g v W) (hl : W.L.length ≤ 900000) (n : Int) (k : Nat) (hk : k = 1 ∨ k = 2 ∨ k = 4) :
    Calls Tryz.prog 103 #[.pointer (some ⟨g, 0, none⟩), .int .i64 n, .int .i64 k] w (WSays w S B g v (stepW W (numE k n))) := by
  by_cases h0 : W.no = 0
  · by_cases hn : n < 0 ∨ ((256 ^ k : Nat) : Int) ≤ n
    · have e : stepW W (numE k n) = ⟨4, W.L.length, []⟩ := by
        unfold numE
        rw [if_pos hn, stepW_bad h0 (by simp)]
        rfl
      rw [e]
      exact wnum_bad hE h h0 hl n k hk hn
    · obtain ⟨m, rfl⟩ : ∃ m : Nat, n = (m : Int) := ⟨n.toNat, by omega⟩
      have e : stepW W (numE k m) = ⟨0, W.at_, W.L ++ be k m⟩ := by
        unfold numE
        rw [if_neg hn, stepW_ok h0 rfl]
        rfl
      rw [e]
      rcases hk with rfl | rfl | rfl
      · exact wnum_1 h h0 hl m (by omega)
      · exact wnum_2 h h0 hl m (by omega)
      · exact wnum_4 h h0 hl m (by omega)
  · exact wnum_stuck h h0 n k _
theorem wu8_any (hE : Env w S) (h : WObj w S B g v W) (hl : W.L.length ≤ 900000) (n : Int) :
    Calls Tryz.prog 71 #[.pointer (some ⟨g, 0, none⟩), .int .i64 n] w (WSays w S B g v (stepW W (numE 1 n))) := by
  have HN := Lib.hid (wnum_any hE h hl n 1 (by omega))
  clear h hE hl
  generalize stepW W (numE 1 n) = W' at *
  go_enter Tryz.func71, Tryz.ntmps71
  go_wp2_with fail
  refine HN.out.mono ?_
  rintro x w1 ⟨rfl, v', hN⟩
  have HF := Lib.hid hN
  clear hN
  go_wp2
  exact bodyPost_end (v := .tuple #[]) (by simp [results, Tryz.results71, go_sem]) rfl ⟨rfl, _, HF.out⟩
theorem wu16_any (hE : Env w S) (h : WObj w S B g v W) (hl : W.L.length ≤ 900000) (n : Int) :
    Calls Tryz.prog 104 #[.pointer (some ⟨g, 0, none⟩), .int .i64 n] w (WSays w S B g v (stepW W (numE 2 n))) := by
  have HN := Lib.hid (wnum_any hE h hl n 2 (by omega))
  clear h hE hl
  generalize stepW W (numE 2 n) = W' at *
  go_enter Tryz.func104, Tryz.ntmps104
  go_wp2_with fail
  refine HN.out.mono ?_
  rintro x w1 ⟨rfl, v', hN⟩
  have HF := Lib.hid hN
  clear hN
  go_wp2
  exact bodyPost_end (v := .tuple #[]) (by simp [results, Tryz.results104, go_sem]) rfl ⟨rfl, _, HF.out⟩
theorem wu32_any (hE : Env w S) (h : WObj w S B g v W) (hl : W.L.length ≤ 900000) (n : Int) :
    Calls Tryz.prog 73 #[.pointer (some ⟨g, 0, none⟩), .int .i64 n] w (WSays w S B g v (stepW W (numE 4 n))) := by
  have HN := Lib.hid (wnum_any hE h hl n 4 (by omega))
  clear h hE hl
  generalize stepW W (numE 4 n) = W' at *
  go_enter Tryz.func73, Tryz.ntmps73
  go_wp2_with fail
  refine HN.out.mono ?_
  rintro x w1 ⟨rfl, v', hN⟩
  have HF := Lib.hid hN
  clear hN
  go_wp2
  exact bodyPost_end (v := .tuple #[]) (by simp [results, Tryz.results73, go_sem]) rfl ⟨rfl, _, HF.out⟩
end
end Go.Proofs.YtnolnhpmpjgnaaaGreatDoor

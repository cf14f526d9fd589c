/- What is proved here: what a Writer of package field writes: bytes, texts, variable byte integers; and all its bytes. Conditions: the writer is there, with few bytes; what the rows list of the package's variables. What is proved here: what the statements' write does to a writer, and to nobody; a Writer of package field that is nil. Conditions: the writer is there, with few bytes; what the rows list of the package's variables. -/
import Derived.Test.YtnolnhpmpjgnaaaGreatDoorWnu04
namespace Go.Proofs.YtnolnhpmpjgnaaaGreatDoor
open Go.RowKit Go.Extern.Stop Go.Stop Go.Extern
section
variable {w w' : World} {S : Nat → Addr} {B g : Nat} {v : Value} {W : EV}
theorem wraw_any (h : WObj w S B g v W) (hl : W.L.length ≤ 900000) (s : ByteArray) (hs : s.size ≤ 65535) :
    Calls Tryz.prog 74 #[.pointer (some ⟨g, 0, none⟩), .string s] w (WSays w S B g v (stepW W ⟨0, 0, s.data.toList⟩)) := by
  by_cases h0 : W.no = 0
  · rw [stepW_ok h0 rfl]
    obtain ⟨av, nv, cv, rfl, hnv⟩ := h.row.some_form
    have c0 : w.cell? ⟨g, 0, none⟩ = some (.slice av nv cv) := (h.nil_err h0).cell 0
    have HE := Lib.hid (wended_no h h0)
    have H := Lib.hid h
    have HL := Lib.hid hl
    have HS := Lib.hid hs
    clear h hl hnv hs
    go_enter Tryz.func74, Tryz.ntmps74
    go_wp2_with fail
    refine HE.out.mono ?_
    rintro x w1 ⟨rfl, rfl⟩
    go_wp2_with (at_builtin; go_must (refine append_text rfl _ _ rfl H.out.row H.out.size rfl s rfl ?c2 ?_))
    case c2 => have := HL.out; have := HS.out; omega
    intro v1 w2 hn2
    obtain ⟨a1, n1, c1, rfl, hnn⟩ := hn2.row.some_form
    obtain ⟨d0, d1, hN⟩ := H.out.appended h0 hn2
    have HN := Lib.hid hN
    clear hN hn2 hnn
    go_wp2
    exact bodyPost_end (v := .tuple #[]) (by simp [results, Tryz.results74, go_sem]) rfl ⟨rfl, _, HN.out⟩
  · rw [stepW_stuck h0]
    have HE := Lib.hid (wended_yes h h0)
    have HS := Lib.hid (h.step (Below.refl _ _))
    clear h h0
    go_enter Tryz.func74, Tryz.ntmps74
    go_wp2_with fail
    refine HE.out.mono ?_
    rintro x w1 ⟨rfl, rfl⟩
    go_wp2
    exact bodyPost_end (v := .tuple #[]) (by simp [results, Tryz.results74, go_sem]) rfl ⟨rfl, _, HS.out⟩
theorem wvar_stuck (h : WObj w S B g v W) (h0 : W.no ≠ 0) (n : Int) :
    Calls Tryz.prog 102 #[.pointer (some ⟨g, 0, none⟩), .int .i64 n] w (WSays w S B g v W) := by
  have HE := Lib.hid (wended_yes h h0)
  have HS := Lib.hid (h.step (Below.refl _ _))
  clear h h0
  go_enter Tryz.func102, Tryz.ntmps102
  go_wp2_with fail
  refine HE.out.mono ?_
  rintro x w1 ⟨rfl, rfl⟩
  go_wp2
  exact bodyPost_ret (v := .tuple #[]) (by simp [results, Tryz.results102, go_sem]) rfl ⟨rfl, _, HS.out⟩
theorem wvar_bad (hE : Env w S) (h : WObj w S B g v W) (h0 : W.no = 0) (hl : W.L.length ≤ 900000) (n : Int) (hn : n < 0 ∨ 268435455 < n) :
    Calls Tryz.prog 102 #[.pointer (some ⟨g, 0, none⟩), .int .i64 n] w (WSays w S B g v ⟨4, W.L.length, []⟩) := by
  have HE := Lib.hid (wended_no h h0)
  have HW := Lib.hid hE
  have H := Lib.hid h
  have HL := Lib.hid hl
  have HP := Lib.hid (vi_put_out S n w hE hn)
  clear h hl hE hn
  go_enter Tryz.func102, Tryz.ntmps102
  go_wp2_with fail
  refine HE.out.mono ?_
  rintro x w1 ⟨rfl, rfl⟩
  go_wp2_with fail
  refine HP.out.mono ?_
  rintro x w2 ⟨e, rfl, he, hb⟩
  have HF := Lib.hid ((wfail_any (b := 0) (a := 0) (HW.out.later hb) (H.out.below hb) HL.out (ErrOf.some (no := 4) (by omega) (by omega) he) (by omega) (by omega) (by omega)).mono fun x w' h => show x = Ending.returned (.tuple #[]) ∧ ∃ v', WNext w w' S B g v v' ⟨4, W.L.length, []⟩ from ⟨h.1, h.2.choose, h.2.choose_spec.pre hb⟩)
  obtain ⟨t, u, rfl⟩ := he.iface
  clear he hb
  go_wp2_with fail
  refine HF.out.mono ?_
  rintro x w3 ⟨rfl, v', hN⟩
  have HN := Lib.hid hN
  clear hN HF
  go_wp2
  exact bodyPost_ret (v := .tuple #[]) (by simp [results, Tryz.results102, go_sem]) rfl ⟨rfl, _, HN.out⟩
theorem wvar_ok (h : WObj w S B g v W) (h0 : W.no = 0) (hl : W.L.length ≤ 900000) (n : Nat) (hn : n ≤ 268435455) :
    Calls Tryz.prog 102 #[.pointer (some ⟨g, 0, none⟩), .int .i64 n] w (WSays w S B g v ⟨0, W.at_, W.L ++ vb n⟩) := by
  obtain ⟨av, nv, cv, rfl, hnv⟩ := h.row.some_form
  have HE := Lib.hid (wended_no h h0)
  have H := Lib.hid h
  have HL := Lib.hid hl
  have HP := Lib.hid (vi_put_in n w hn)
  have HV := Lib.hid (vb_len n hn)
  clear h hl hnv hn
  generalize vb n = l at *
  go_enter Tryz.func102, Tryz.ntmps102
  go_wp2_with fail
  refine HE.out.mono ?_
  rintro x w1 ⟨rfl, rfl⟩
  go_wp2_with fail
  refine HP.out.mono ?_
  rintro x w2 ⟨rfl, hb⟩
  have h1 := H.out.below hb
  have c0 : w2.cell? ⟨g, 0, none⟩ = some (.slice av nv cv) := (h1.nil_err h0).cell 0
  have H1 := Lib.hid h1
  have HB := Lib.hid hb
  clear h1 hb HP
  go_wp2_with (at_builtin; go_must (refine append_text rfl _ _ rfl H1.out.row H1.out.size rfl (⟨l.toArray⟩ : ByteArray) rfl ?c2 ?_))
  case c2 => have := HL.out; have := HV.out; rw [bsize]; omega
  intro v1 w3 hn2
  obtain ⟨a1, n1, c1, rfl, hnn⟩ := hn2.row.some_form
  obtain ⟨d0, d1, hN⟩ := H1.out.appended h0 hn2
  have HN := Lib.hid (hN.pre HB.out)
  clear hN hn2 hnn
  go_wp2
  exact bodyPost_end (v := .tuple #[]) (by simp [results, Tryz.results102, go_sem]) rfl ⟨rfl, _, HN.out⟩
theorem wvar_any (hE : Env w S) (h : WObj w S B g v W) (hl : W.L.length ≤ 900000) (n : Int) :
    Calls Tryz.prog 102 #[.pointer (some ⟨g, 0, none⟩), .int .i64 n] w (WSays w S B g v (stepW W (varE n))) := by
  by_cases h0 : W.no = 0
  · by_cases hn : n < 0 ∨ 268435455 < n
    · have e : stepW W (varE n) = ⟨4, W.L.length, []⟩ := by
        unfold varE
        rw [if_pos hn, stepW_bad h0 (by simp)]
        rfl
      rw [e]
      exact wvar_bad hE h h0 hl n hn
    · obtain ⟨m, rfl⟩ : ∃ m : Nat, n = (m : Int) := ⟨n.toNat, by omega⟩
      have e : stepW W (varE m) = ⟨0, W.at_, W.L ++ vb m⟩ := by
        unfold varE
        rw [if_neg hn, stepW_ok h0 rfl]
        rfl
      rw [e]
      exact wvar_ok h h0 hl m (by omega)
  · rw [stepW_stuck h0]
    exact wvar_stuck h h0 n
theorem bin_two (W : EV) (s : ByteArray) (hs : s.size ≤ 65535) : stepW (stepW W (numE 2 s.size)) ⟨0, 0, s.data.toList⟩ = stepW W (binE s) := by
  have e : numE 2 s.size = ⟨0, 0, be 2 s.size⟩ := by unfold numE; rw [if_neg (by omega)]; rfl
  rw [e]
  by_cases h0 : W.no = 0
  · rw [stepW_ok h0 rfl, stepW_ok rfl rfl, stepW_ok h0 (by rfl)]
    unfold binE
    simp only [List.append_assoc]
  · rw [stepW_stuck h0, stepW_stuck h0, stepW_stuck h0]
theorem num_len (W : EV) (k : Nat) (n : Int) : (stepW W (numE k n)).L.length ≤ W.L.length + k := by
  have := numE_len k n
  unfold stepW
  split
  · split
    · simp only [List.length_append]; omega
    · simp
  · omega
theorem wbin_any (hE : Env w S) (h : WObj w S B g v W) (hl : W.L.length ≤ 800000) (s : ByteArray) (hs : s.size ≤ 65535) :
    Calls Tryz.prog 72 #[.pointer (some ⟨g, 0, none⟩), .string s] w (WSays w S B g v (stepW W (binE s))) := by
  rw [← bin_two W s hs]
  have HN := Lib.hid (wu16_any hE h (by omega) (s.size : Int))
  have hz : s.size ≤ 9223372036854775807 := by omega
  have hl2 := num_len W 2 s.size
  clear hE
  generalize stepW W (numE 2 s.size) = W' at *
  have HL := Lib.hid (show W'.L.length ≤ 900000 by omega)
  have HS := Lib.hid hs
  clear hl hl2 hs h
  go_enter Tryz.func72, Tryz.ntmps72
  go_wp2_with fail
  refine HN.out.mono ?_
  rintro x w1 ⟨rfl, v', hN⟩
  have HF := Lib.hid hN
  clear hN HN
  go_wp2_with fail
  refine (wraw_any HF.out.obj HL.out s HS.out).mono ?_
  rintro x w2 ⟨rfl, v2, hN⟩
  have HF2 := Lib.hid (HF.out.trans hN)
  clear hN HF
  go_wp2
  exact bodyPost_end (v := .tuple #[]) (by simp [results, Tryz.results72, go_sem]) rfl ⟨rfl, _, HF2.out⟩
theorem wtext_stuck (h : WObj w S B g v W) (h0 : W.no ≠ 0) (s : ByteArray) :
    Calls Tryz.prog 121 #[.pointer (some ⟨g, 0, none⟩), .string s] w (WSays w S B g v W) := by
  have HE := Lib.hid (wended_yes h h0)
  have HS := Lib.hid (h.step (Below.refl _ _))
  clear h h0
  go_enter Tryz.func121, Tryz.ntmps121
  go_wp2_with fail
  refine HE.out.mono ?_
  rintro x w1 ⟨rfl, rfl⟩
  go_wp2
  exact bodyPost_ret (v := .tuple #[]) (by simp [results, Tryz.results121, go_sem]) rfl ⟨rfl, _, HS.out⟩
theorem check_at (s : ByteArray) : (checkOf s).2 ≤ 65535 := by
  have := cut_le s
  unfold checkOf
  split
  · exact Nat.le_refl _
  · split
    · simp only; omega
    · exact Nat.zero_le _
theorem wtext_any (hE : Env w S) (h : WObj w S B g v W) (hl : W.L.length ≤ 800000) (s : ByteArray) (hs : s.size ≤ 65535) :
    Calls Tryz.prog 121 #[.pointer (some ⟨g, 0, none⟩), .string s] w (WSays w S B g v (stepW W (textE s))) := by
  by_cases h0 : W.no = 0
  · have HE := Lib.hid (wended_no h h0)
    have HW := Lib.hid hE
    have H := Lib.hid h
    have HL := Lib.hid hl
    have HS := Lib.hid hs
    have hc := ut_check S s w hE (by omega)
    have h2 := check_at s
    by_cases hk : (checkOf s).1 = 0
    · have e : textE s = binE s := by unfold textE; rw [if_pos hk]
      rw [e]
      have hz := (check_zero hk).2.2
      rw [hz] at hc
      have HC := Lib.hid hc
      clear hc hz hk h hE hl hs e h2
      go_enter Tryz.func121, Tryz.ntmps121
      go_wp2_with fail
      refine HE.out.mono ?_
      rintro x w1 ⟨rfl, rfl⟩
      go_wp2_with fail
      refine HC.out.mono ?_
      rintro x w2 ⟨e, rfl, he, hb⟩
      obtain rfl : e = .nilIface := he
      have HF := Lib.hid ((wbin_any (HW.out.later hb) (H.out.below hb) HL.out s HS.out).mono fun x w' h => show x = Ending.returned (.tuple #[]) ∧ ∃ v', WNext w w' S B g v v' (stepW W (binE s)) from ⟨h.1, h.2.choose, h.2.choose_spec.pre hb⟩)
      clear hb HC
      generalize stepW W (binE s) = W' at *
      go_wp2_with fail
      refine HF.out.mono ?_
      rintro x w3 ⟨rfl, v', hN⟩
      have HN := Lib.hid hN
      clear hN HF
      go_wp2
      exact bodyPost_end (v := .tuple #[]) (by simp [results, Tryz.results121, go_sem]) rfl ⟨rfl, _, HN.out⟩
    · have e : stepW W (textE s) = ⟨(checkOf s).1, W.L.length + 2 + (checkOf s).2, []⟩ := by
        unfold textE
        rw [if_neg hk, stepW_bad h0 hk, Nat.add_assoc]
      rw [e]
      have HC := Lib.hid hc
      have HK := Lib.hid hk
      have H2 := Lib.hid h2
      clear hc hk h hE hl hs e h2
      generalize checkOf s = c at *
      go_enter Tryz.func121, Tryz.ntmps121
      go_wp2_with fail
      refine HE.out.mono ?_
      rintro x w1 ⟨rfl, rfl⟩
      go_wp2_with fail
      refine HC.out.mono ?_
      rintro x w2 ⟨e, rfl, he, hb⟩
      have HF := Lib.hid ((wfail_any (b := 2) (HW.out.later hb) (H.out.below hb) (by have := HL.out; omega) he HK.out (by have := H2.out; omega) (by omega)).mono fun x w' h => show x = Ending.returned (.tuple #[]) ∧ ∃ v', WNext w w' S B g v v' ⟨c.1, W.L.length + 2 + c.2, []⟩ from ⟨h.1, h.2.choose, h.2.choose_spec.pre hb⟩)
      obtain ⟨t, u, rfl⟩ := err_iface he HK.out
      clear hb he HC
      generalize (⟨c.1, W.L.length + 2 + c.2, []⟩ : EV) = W' at *
      go_wp2_with fail
      refine HF.out.mono ?_
      rintro x w3 ⟨rfl, v', hN⟩
      have HN := Lib.hid hN
      clear hN HF
      go_wp2
      exact bodyPost_ret (v := .tuple #[]) (by simp [results, Tryz.results121, go_sem]) rfl ⟨rfl, _, HN.out⟩
  · rw [stepW_stuck h0]
    exact wtext_stuck h h0 s
/-- All bytes, or the first error. -/
def BSays (w : World) (S : Nat → Addr) (W : EV) (x : Ending) (w' : World) : Prop := ∃ e, x = .returned (.tuple #[.string ⟨W.L.toArray⟩, e]) ∧ ErrOf w' S 129 W.no W.at_ e ∧ Below w.heap.size w w'
theorem wbytes_any (h : WObj w S B g v W) : Calls Tryz.prog 41 #[.pointer (some ⟨g, 0, none⟩)] w (BSays w S W) := by
  by_cases h0 : W.no = 0
  · obtain ⟨av, nv, cv, rfl, hnv⟩ := h.row.some_form
    have hb := h.nil_err h0
    have c0 : w.cell? ⟨g, 0, none⟩ = some (.slice av nv cv) := hb.cell 0
    have c1 : w.cell? ⟨g, 1, none⟩ = some .nilIface := hb.cell 1
    have hs := h.row.str (src := 80) (dst := 9) Tryz.underlying80 Tryz.underlying9
    have he : ErrOf w S 129 W.no W.at_ .nilIface := by unfold ErrOf; rw [if_pos h0]
    have HE := Lib.hid he
    unfold BSays
    clear h hb hnv he
    generalize W.L = l at *
    go_enter Tryz.func41, Tryz.ntmps41
    go_wp2
    go_ret2
    exact ⟨_, rfl, HE.out, Below.refl _ _⟩
  · obtain ⟨t, u, hb, he⟩ := h.has_err h0
    have c1 : w.cell? ⟨g, 1, none⟩ = some (.iface t u) := hb.cell 1
    have HE := Lib.hid he
    have hl := (h.bad h0).2
    unfold BSays
    rw [hl]
    clear h hb he hl
    go_enter Tryz.func41, Tryz.ntmps41
    go_wp2
    go_quiet (fail)
    go_wp2
    go_ret2
    exact ⟨_, rfl, HE.out.later (below_drewN (Below.refl _ _) _), below_drewN (Below.refl _ _) _⟩
end
end Go.Proofs.YtnolnhpmpjgnaaaGreatDoor
namespace Go.Proofs.YtnolnhpmpjgnaaaGreatDoor
open Go.RowKit Go.Extern.Stop Go.Stop Go.Extern
section
variable {w w' : World} {S : Nat → Addr} {B g : Nat} {v : Value} {W : EV}
theorem nnumber (n k : Int) (w : World) : Calls Tryz.prog 103 #[.pointer none, .int .i64 n, .int .i64 k] w fun x w' => x = .returned (.tuple #[]) ∧ w = w' := by
  go_enter Tryz.func103, Tryz.ntmps103
  go_wp2_with fail
  refine (wended_nil _).mono ?_
  rintro x w1 ⟨rfl, rfl⟩
  go_wp2
  exact bodyPost_ret (v := .tuple #[]) (by simp [results, Tryz.results103, go_sem]) rfl ⟨rfl, rfl⟩
theorem nu8 (n : Int) (w : World) : Calls Tryz.prog 71 #[.pointer none, .int .i64 n] w fun x w' => x = .returned (.tuple #[]) ∧ w = w' := by
  go_enter Tryz.func71, Tryz.ntmps71
  go_wp2_with fail
  refine (nnumber n 1 _).mono ?_
  rintro x w1 ⟨rfl, rfl⟩
  go_wp2
  exact bodyPost_end (v := .tuple #[]) (by simp [results, Tryz.results71, go_sem]) rfl ⟨rfl, rfl⟩
theorem nu16 (n : Int) (w : World) : Calls Tryz.prog 104 #[.pointer none, .int .i64 n] w fun x w' => x = .returned (.tuple #[]) ∧ w = w' := by
  go_enter Tryz.func104, Tryz.ntmps104
  go_wp2_with fail
  refine (nnumber n 2 _).mono ?_
  rintro x w1 ⟨rfl, rfl⟩
  go_wp2
  exact bodyPost_end (v := .tuple #[]) (by simp [results, Tryz.results104, go_sem]) rfl ⟨rfl, rfl⟩
theorem nu32 (n : Int) (w : World) : Calls Tryz.prog 73 #[.pointer none, .int .i64 n] w fun x w' => x = .returned (.tuple #[]) ∧ w = w' := by
  go_enter Tryz.func73, Tryz.ntmps73
  go_wp2_with fail
  refine (nnumber n 4 _).mono ?_
  rintro x w1 ⟨rfl, rfl⟩
  go_wp2
  exact bodyPost_end (v := .tuple #[]) (by simp [results, Tryz.results73, go_sem]) rfl ⟨rfl, rfl⟩
theorem nvar (n : Int) (w : World) : Calls Tryz.prog 102 #[.pointer none, .int .i64 n] w fun x w' => x = .returned (.tuple #[]) ∧ w = w' := by
  go_enter Tryz.func102, Tryz.ntmps102
  go_wp2_with fail
  refine (wended_nil _).mono ?_
  rintro x w1 ⟨rfl, rfl⟩
  go_wp2
  exact bodyPost_ret (v := .tuple #[]) (by simp [results, Tryz.results102, go_sem]) rfl ⟨rfl, rfl⟩
theorem ntext (s : ByteArray) (w : World) : Calls Tryz.prog 121 #[.pointer none, .string s] w fun x w' => x = .returned (.tuple #[]) ∧ w = w' := by
  go_enter Tryz.func121, Tryz.ntmps121
  go_wp2_with fail
  refine (wended_nil _).mono ?_
  rintro x w1 ⟨rfl, rfl⟩
  go_wp2
  exact bodyPost_ret (v := .tuple #[]) (by simp [results, Tryz.results121, go_sem]) rfl ⟨rfl, rfl⟩
theorem nraw (s : ByteArray) (w : World) : Calls Tryz.prog 74 #[.pointer none, .string s] w fun x w' => x = .returned (.tuple #[]) ∧ w = w' := by
  go_enter Tryz.func74, Tryz.ntmps74
  go_wp2_with fail
  refine (wended_nil _).mono ?_
  rintro x w1 ⟨rfl, rfl⟩
  go_wp2
  exact bodyPost_end (v := .tuple #[]) (by simp [results, Tryz.results74, go_sem]) rfl ⟨rfl, rfl⟩
theorem nbin (s : ByteArray) (hs : s.size ≤ 9223372036854775807) (w : World) : Calls Tryz.prog 72 #[.pointer none, .string s] w fun x w' => x = .returned (.tuple #[]) ∧ w = w' := by
  have hz : s.size ≤ 9223372036854775807 := hs
  go_enter Tryz.func72, Tryz.ntmps72
  go_wp2_with fail
  refine (nu16 s.size _).mono ?_
  rintro x w1 ⟨rfl, rfl⟩
  go_wp2_with fail
  refine (nraw s _).mono ?_
  rintro x w2 ⟨rfl, rfl⟩
  go_wp2
  exact bodyPost_end (v := .tuple #[]) (by simp [results, Tryz.results72, go_sem]) rfl ⟨rfl, rfl⟩
theorem nbytes (w : World) : Calls Tryz.prog 41 #[.pointer none] w fun x w' => x = .returned (.tuple #[.string ⟨#[]⟩, .nilIface]) ∧ w = w' := by
  go_enter Tryz.func41, Tryz.ntmps41
  go_wp2
  go_ret2
  exact ⟨rfl, rfl⟩
/-- A field as a value. -/
def FV.agg (a : FV) : Value := .agg #[.int .i64 a.k, .int .i64 a.n, .string a.s]
theorem stepW_none (W : EV) : stepW W ⟨0, 0, []⟩ = W := by
  obtain ⟨no, a, L⟩ := W
  by_cases h0 : no = 0
  · subst h0
    rw [stepW_ok rfl rfl, List.append_nil]
  · rw [stepW_stuck h0]
theorem WSays.pre {w w1 : World} {W' : EV} {x : Ending} {w' : World} (h : WSays w1 S B g v W' x w') (hb : Below w.heap.size w w1) : WSays w S B g v W' x w' := ⟨h.1, h.2.choose, h.2.choose_spec.pre hb⟩
end
end Go.Proofs.YtnolnhpmpjgnaaaGreatDoor

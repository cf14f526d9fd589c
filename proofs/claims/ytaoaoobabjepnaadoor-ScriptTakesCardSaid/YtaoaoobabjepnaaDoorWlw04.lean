/- What is proved here: what a Writer of package field writes: bytes, texts, variable byte integers; and all its bytes. Conditions: the writer is there, with few bytes; what the rows list of the package's variables. What is proved here: what the statements' write does to a writer, and to nobody; a Writer of package field that is nil. Conditions: the writer is there, with few bytes; what the rows list of the package's variables. -/
import Derived.Test.YtaoaoobabjepnaaDoorWnu04
namespace Go.Proofs.YtaoaoobabjepnaaDoor
open Go.RowKit Go.Extern.Stop Go.Stop Go.Extern
section
variable {w w' : World} {S : Nat → Addr} {B g : Nat} {v : Value} {W : EV}
theorem wraw_any (h : WObj w S B g v W) (hl : W.L.length ≤ 900000) (s : ByteArray) (hs : s.size ≤ 65535) :
    Calls Tryd.prog 30 #[.pointer (some ⟨g, 0, none⟩), .string s] w (WSays w S B g v (stepW W ⟨0, 0, s.data.toList⟩)) := by
  by_cases h0 : W.no = 0
  · rw [stepW_ok h0 rfl]
    obtain ⟨av, nv, cv, rfl, hnv⟩ := h.row.some_form
    have c0 : w.cell? ⟨g, 0, none⟩ = some (.slice av nv cv) := (h.nil_err h0).cell 0
    have HE := Lib.hid (wended_no h h0)
    have H := Lib.hid h
    have HL := Lib.hid hl
    have HS := Lib.hid hs
    clear h hl hnv hs
    go_enter Tryd.func30, Tryd.ntmps30
    go_wp2_with fail
    refine HE.out.mono ?_
    rintro x w1 ⟨rfl, rfl⟩
    go_wp2_with (at_builtin; go_must (refine append_text rfl _ _ rfl H.out.row H.out.size rfl s rfl ?c2 ?_))
    case c2 => have := HL.out; have := HS.out; omega
    intro v1 w2 hn2
    obtain ⟨a1, n1, c1, rfl, hnn⟩ := hn2.row.some_form
    obtain ⟨d0, d1, hN⟩ := H.out.appended h0 hn2
    have HN := Lib.hid hN
    clear hN hn2 hnn
    go_wp2
    exact bodyPost_end (v := .tuple #[]) (by simp [results, Tryd.results30, go_sem]) rfl ⟨rfl, _, HN.out⟩
  · rw [stepW_stuck h0]
    have HE := Lib.hid (wended_yes h h0)
    have HS := Lib.hid (h.step (Below.refl _ _))
    clear h h0
    go_enter Tryd.func30, Tryd.ntmps30
    go_wp2_with fail
    refine HE.out.mono ?_
    rintro x w1 ⟨rfl, rfl⟩
    go_wp2
    exact bodyPost_end (v := .tuple #[]) (by simp [results, Tryd.results30, go_sem]) rfl ⟨rfl, _, HS.out⟩
theorem bin_two (W : EV) (s : ByteArray) (hs : s.size ≤ 65535) : stepW (stepW W (numE 2 s.size)) ⟨0, 0, s.data.toList⟩ = stepW W (binE s) := by
  have e : numE 2 s.size = ⟨0, 0, be 2 s.size⟩ := by unfold numE; rw [if_neg (by omega)]; rfl
  rw [e]
  by_cases h0 : W.no = 0
  · rw [stepW_ok h0 rfl, stepW_ok rfl rfl, stepW_ok h0 (by rfl)]
    unfold binE
    simp only [List.append_assoc]
  · rw [stepW_stuck h0, stepW_stuck h0, stepW_stuck h0]
theorem num_len (W : EV) (k : Nat) (n : Int) : (stepW W (numE k n)).L.length ≤ W.L.length + k := by
  have := numE_len k n
  unfold stepW
  split
  · split
    · simp only [List.length_append]; omega
    · simp
  · omega
theorem wbin_any (hE : Env w S) (h : WObj w S B g v W) (hl : W.L.length ≤ 800000) (s : ByteArray) (hs : s.size ≤ 65535) :
    Calls Tryd.prog 36 #[.pointer (some ⟨g, 0, none⟩), .string s] w (WSays w S B g v (stepW W (binE s))) := by
  rw [← bin_two W s hs]
  have HN := Lib.hid (wu16_any hE h (by omega) (s.size : Int))
  have hz : s.size ≤ 9223372036854775807 := by omega
  have hl2 := num_len W 2 s.size
  clear hE
  generalize stepW W (numE 2 s.size) = W' at *
  have HL := Lib.hid (show W'.L.length ≤ 900000 by omega)
  have HS := Lib.hid hs
  clear hl hl2 hs h
  go_enter Tryd.func36, Tryd.ntmps36
  go_wp2_with fail
  refine HN.out.mono ?_
  rintro x w1 ⟨rfl, v', hN⟩
  have HF := Lib.hid hN
  clear hN HN
  go_wp2_with fail
  refine (wraw_any HF.out.obj HL.out s HS.out).mono ?_
  rintro x w2 ⟨rfl, v2, hN⟩
  have HF2 := Lib.hid (HF.out.trans hN)
  clear hN HF
  go_wp2
  exact bodyPost_end (v := .tuple #[]) (by simp [results, Tryd.results36, go_sem]) rfl ⟨rfl, _, HF2.out⟩
theorem check_at (s : ByteArray) : (checkOf s).2 ≤ 65535 := by
  have := cut_le s
  unfold checkOf
  split
  · exact Nat.le_refl _
  · split
    · simp only; omega
    · exact Nat.zero_le _
/-- All bytes, or the first error. -/
def BSays (w : World) (S : Nat → Addr) (W : EV) (x : Ending) (w' : World) : Prop := ∃ e, x = .returned (.tuple #[.string ⟨W.L.toArray⟩, e]) ∧ ErrOf w' S 129 W.no W.at_ e ∧ Below w.heap.size w w'
theorem wbytes_any (h : WObj w S B g v W) : Calls Tryd.prog 37 #[.pointer (some ⟨g, 0, none⟩)] w (BSays w S W) := by
  by_cases h0 : W.no = 0
  · obtain ⟨av, nv, cv, rfl, hnv⟩ := h.row.some_form
    have hb := h.nil_err h0
    have c0 : w.cell? ⟨g, 0, none⟩ = some (.slice av nv cv) := hb.cell 0
    have c1 : w.cell? ⟨g, 1, none⟩ = some .nilIface := hb.cell 1
    have hs := h.row.str (src := 65) (dst := 9) Tryd.underlying65 Tryd.underlying9
    have he : ErrOf w S 129 W.no W.at_ .nilIface := by unfold ErrOf; rw [if_pos h0]
    have HE := Lib.hid he
    unfold BSays
    clear h hb hnv he
    generalize W.L = l at *
    go_enter Tryd.func37, Tryd.ntmps37
    go_wp2
    go_ret2
    exact ⟨_, rfl, HE.out, Below.refl _ _⟩
  · obtain ⟨t, u, hb, he⟩ := h.has_err h0
    have c1 : w.cell? ⟨g, 1, none⟩ = some (.iface t u) := hb.cell 1
    have HE := Lib.hid he
    have hl := (h.bad h0).2
    unfold BSays
    rw [hl]
    clear h hb he hl
    go_enter Tryd.func37, Tryd.ntmps37
    go_wp2
    go_quiet (fail)
    go_wp2
    go_ret2
    exact ⟨_, rfl, HE.out.later (below_drewN (Below.refl _ _) _), below_drewN (Below.refl _ _) _⟩
end
end Go.Proofs.YtaoaoobabjepnaaDoor
namespace Go.Proofs.YtaoaoobabjepnaaDoor
open Go.RowKit Go.Extern.Stop Go.Stop Go.Extern
section
variable {w w' : World} {S : Nat → Addr} {B g : Nat} {v : Value} {W : EV}
theorem nnumber (n k : Int) (w : World) : Calls Tryd.prog 56 #[.pointer none, .int .i64 n, .int .i64 k] w fun x w' => x = .returned (.tuple #[]) ∧ w = w' := by
  go_enter Tryd.func56, Tryd.ntmps56
  go_wp2_with fail
  refine (wended_nil _).mono ?_
  rintro x w1 ⟨rfl, rfl⟩
  go_wp2
  exact bodyPost_ret (v := .tuple #[]) (by simp [results, Tryd.results56, go_sem]) rfl ⟨rfl, rfl⟩
theorem nu8 (n : Int) (w : World) : Calls Tryd.prog 35 #[.pointer none, .int .i64 n] w fun x w' => x = .returned (.tuple #[]) ∧ w = w' := by
  go_enter Tryd.func35, Tryd.ntmps35
  go_wp2_with fail
  refine (nnumber n 1 _).mono ?_
  rintro x w1 ⟨rfl, rfl⟩
  go_wp2
  exact bodyPost_end (v := .tuple #[]) (by simp [results, Tryd.results35, go_sem]) rfl ⟨rfl, rfl⟩
theorem nu16 (n : Int) (w : World) : Calls Tryd.prog 33 #[.pointer none, .int .i64 n] w fun x w' => x = .returned (.tuple #[]) ∧ w = w' := by
  go_enter Tryd.func33, Tryd.ntmps33
  go_wp2_with fail
  refine (nnumber n 2 _).mono ?_
  rintro x w1 ⟨rfl, rfl⟩
  go_wp2
  exact bodyPost_end (v := .tuple #[]) (by simp [results, Tryd.results33, go_sem]) rfl ⟨rfl, rfl⟩
theorem nu32 (n : Int) (w : World) : Calls Tryd.prog 32 #[.pointer none, .int .i64 n] w fun x w' => x = .returned (.tuple #[]) ∧ w = w' := by
  go_enter Tryd.func32, Tryd.ntmps32
  go_wp2_with fail
  refine (nnumber n 4 _).mono ?_
  rintro x w1 ⟨rfl, rfl⟩
  go_wp2
  exact bodyPost_end (v := .tuple #[]) (by simp [results, Tryd.results32, go_sem]) rfl ⟨rfl, rfl⟩
theorem nraw (s : ByteArray) (w : World) : Calls Tryd.prog 30 #[.pointer none, .string s] w fun x w' => x = .returned (.tuple #[]) ∧ w = w' := by
  go_enter Tryd.func30, Tryd.ntmps30
  go_wp2_with fail
  refine (wended_nil _).mono ?_
  rintro x w1 ⟨rfl, rfl⟩
  go_wp2
  exact bodyPost_end (v := .tuple #[]) (by simp [results, Tryd.results30, go_sem]) rfl ⟨rfl, rfl⟩
theorem nbin (s : ByteArray) (hs : s.size ≤ 9223372036854775807) (w : World) : Calls Tryd.prog 36 #[.pointer none, .string s] w fun x w' => x = .returned (.tuple #[]) ∧ w = w' := by
  have hz : s.size ≤ 9223372036854775807 := hs
  go_enter Tryd.func36, Tryd.ntmps36
  go_wp2_with fail
  refine (nu16 s.size _).mono ?_
  rintro x w1 ⟨rfl, rfl⟩
  go_wp2_with fail
  refine (nraw s _).mono ?_
  rintro x w2 ⟨rfl, rfl⟩
  go_wp2
  exact bodyPost_end (v := .tuple #[]) (by simp [results, Tryd.results36, go_sem]) rfl ⟨rfl, rfl⟩
theorem nbytes (w : World) : Calls Tryd.prog 37 #[.pointer none] w fun x w' => x = .returned (.tuple #[.string ⟨#[]⟩, .nilIface]) ∧ w = w' := by
  go_enter Tryd.func37, Tryd.ntmps37
  go_wp2
  go_ret2
  exact ⟨rfl, rfl⟩
/-- A field as a value. -/
def FV.agg (a : FV) : Value := .agg #[.int .i64 a.k, .int .i64 a.n, .string a.s]
theorem stepW_none (W : EV) : stepW W ⟨0, 0, []⟩ = W := by
  obtain ⟨no, a, L⟩ := W
  by_cases h0 : no = 0
  · subst h0
    rw [stepW_ok rfl rfl, List.append_nil]
  · rw [stepW_stuck h0]
theorem WSays.pre {w w1 : World} {W' : EV} {x : Ending} {w' : World} (h : WSays w1 S B g v W' x w') (hb : Below w.heap.size w w1) : WSays w S B g v W' x w' := ⟨h.1, h.2.choose, h.2.choose_spec.pre hb⟩
end
end Go.Proofs.YtaoaoobabjepnaaDoor

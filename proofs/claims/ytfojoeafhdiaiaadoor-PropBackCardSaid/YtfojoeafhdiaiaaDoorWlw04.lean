/- What is proved here: what the statements' write does to a writer, and to nobody; a Writer of package field that is nil. Conditions: the writer is there, with few bytes; what the rows list of the package's variables. -/
import Derived.Test.YtfojoeafhdiaiaaDoorWri04
namespace Go.Proofs.YtfojoeafhdiaiaaDoor
open Go.RowKit Go.Extern.Stop Go.Stop Go.Extern
section
variable {w w' : World} {S : Nat → Addr} {B g : Nat} {v : Value} {W : EV}
theorem nnumber (n k : Int) (w : World) : Calls Tryd.prog 83 #[.pointer none, .int .i64 n, .int .i64 k] w fun x w' => x = .returned (.tuple #[]) ∧ w = w' := by
  go_enter Tryd.func83, Tryd.ntmps83
  go_wp2_with fail
  refine (wended_nil _).mono ?_
  rintro x w1 ⟨rfl, rfl⟩
  go_wp2
  exact bodyPost_ret (v := .tuple #[]) (by simp [results, Tryd.results83, go_sem]) rfl ⟨rfl, rfl⟩
theorem nu8 (n : Int) (w : World) : Calls Tryd.prog 49 #[.pointer none, .int .i64 n] w fun x w' => x = .returned (.tuple #[]) ∧ w = w' := by
  go_enter Tryd.func49, Tryd.ntmps49
  go_wp2_with fail
  refine (nnumber n 1 _).mono ?_
  rintro x w1 ⟨rfl, rfl⟩
  go_wp2
  exact bodyPost_end (v := .tuple #[]) (by simp [results, Tryd.results49, go_sem]) rfl ⟨rfl, rfl⟩
theorem nu16 (n : Int) (w : World) : Calls Tryd.prog 44 #[.pointer none, .int .i64 n] w fun x w' => x = .returned (.tuple #[]) ∧ w = w' := by
  go_enter Tryd.func44, Tryd.ntmps44
  go_wp2_with fail
  refine (nnumber n 2 _).mono ?_
  rintro x w1 ⟨rfl, rfl⟩
  go_wp2
  exact bodyPost_end (v := .tuple #[]) (by simp [results, Tryd.results44, go_sem]) rfl ⟨rfl, rfl⟩
theorem nu32 (n : Int) (w : World) : Calls Tryd.prog 50 #[.pointer none, .int .i64 n] w fun x w' => x = .returned (.tuple #[]) ∧ w = w' := by
  go_enter Tryd.func50, Tryd.ntmps50
  go_wp2_with fail
  refine (nnumber n 4 _).mono ?_
  rintro x w1 ⟨rfl, rfl⟩
  go_wp2
  exact bodyPost_end (v := .tuple #[]) (by simp [results, Tryd.results50, go_sem]) rfl ⟨rfl, rfl⟩
theorem nvar (n : Int) (w : World) : Calls Tryd.prog 51 #[.pointer none, .int .i64 n] w fun x w' => x = .returned (.tuple #[]) ∧ w = w' := by
  go_enter Tryd.func51, Tryd.ntmps51
  go_wp2_with fail
  refine (wended_nil _).mono ?_
  rintro x w1 ⟨rfl, rfl⟩
  go_wp2
  exact bodyPost_ret (v := .tuple #[]) (by simp [results, Tryd.results51, go_sem]) rfl ⟨rfl, rfl⟩
theorem ntext (s : ByteArray) (w : World) : Calls Tryd.prog 45 #[.pointer none, .string s] w fun x w' => x = .returned (.tuple #[]) ∧ w = w' := by
  go_enter Tryd.func45, Tryd.ntmps45
  go_wp2_with fail
  refine (wended_nil _).mono ?_
  rintro x w1 ⟨rfl, rfl⟩
  go_wp2
  exact bodyPost_ret (v := .tuple #[]) (by simp [results, Tryd.results45, go_sem]) rfl ⟨rfl, rfl⟩
theorem nraw (s : ByteArray) (w : World) : Calls Tryd.prog 53 #[.pointer none, .string s] w fun x w' => x = .returned (.tuple #[]) ∧ w = w' := by
  go_enter Tryd.func53, Tryd.ntmps53
  go_wp2_with fail
  refine (wended_nil _).mono ?_
  rintro x w1 ⟨rfl, rfl⟩
  go_wp2
  exact bodyPost_end (v := .tuple #[]) (by simp [results, Tryd.results53, go_sem]) rfl ⟨rfl, rfl⟩
theorem nbin (s : ByteArray) (hs : s.size ≤ 9223372036854775807) (w : World) : Calls Tryd.prog 52 #[.pointer none, .string s] w fun x w' => x = .returned (.tuple #[]) ∧ w = w' := by
  have hz : s.size ≤ 9223372036854775807 := hs
  go_enter Tryd.func52, Tryd.ntmps52
  go_wp2_with fail
  refine (nu16 s.size _).mono ?_
  rintro x w1 ⟨rfl, rfl⟩
  go_wp2_with fail
  refine (nraw s _).mono ?_
  rintro x w2 ⟨rfl, rfl⟩
  go_wp2
  exact bodyPost_end (v := .tuple #[]) (by simp [results, Tryd.results52, go_sem]) rfl ⟨rfl, rfl⟩
theorem nbytes (w : World) : Calls Tryd.prog 13 #[.pointer none] w fun x w' => x = .returned (.tuple #[.string ⟨#[]⟩, .nilIface]) ∧ w = w' := by
  go_enter Tryd.func13, Tryd.ntmps13
  go_wp2
  go_ret2
  exact ⟨rfl, rfl⟩
/-- A field as a value. -/
def FV.agg (a : FV) : Value := .agg #[.int .i64 a.k, .int .i64 a.n, .string a.s]
theorem stepW_none (W : EV) : stepW W ⟨0, 0, []⟩ = W := by
  obtain ⟨no, a, L⟩ := W
  by_cases h0 : no = 0
  · subst h0
    rw [stepW_ok rfl rfl, List.append_nil]
  · rw [stepW_stuck h0]
theorem WSays.pre {w w1 : World} {W' : EV} {x : Ending} {w' : World} (h : WSays w1 S B g v W' x w') (hb : Below w.heap.size w w1) : WSays w S B g v W' x w' := ⟨h.1, h.2.choose, h.2.choose_spec.pre hb⟩
theorem write_1 (hE : Env w S) (h : WObj w S B g v W) (hl : W.L.length ≤ 800000) (n : Int) (s : ByteArray) (_hs : s.size ≤ 65535) :
    Calls Tryd.prog 11 #[.pointer (some ⟨g, 0, none⟩), .agg #[.int .i64 1, .int .i64 n, .string s]] w (WSays w S B g v (stepW W (numE 1 n))) := by
  have hb0 : Below w.heap.size w (w.alloc (.cells #[.int .i64 1, .int .i64 n, .string s] 37)) := (Below.refl _ _).alloc (Nat.le_refl _) _
  have HC := Lib.hid ((wu8_any (hE.later hb0) (h.below hb0) (by omega) n).mono fun _ _ h => h.pre hb0)
  clear hE h hl _hs hb0
  generalize stepW W (numE 1 n) = W' at *
  go_enter Tryd.func11, Tryd.ntmps11
  go_wp2_with fail
  refine HC.out.mono ?_
  rintro x w1 ⟨rfl, v', hN⟩
  have HN := Lib.hid hN
  clear hN HC
  go_wp2
  exact bodyPost_end (v := .tuple #[]) (by simp [results, Tryd.results11, go_sem]) rfl ⟨rfl, _, HN.out⟩
theorem write_2 (hE : Env w S) (h : WObj w S B g v W) (hl : W.L.length ≤ 800000) (n : Int) (s : ByteArray) (_hs : s.size ≤ 65535) :
    Calls Tryd.prog 11 #[.pointer (some ⟨g, 0, none⟩), .agg #[.int .i64 2, .int .i64 n, .string s]] w (WSays w S B g v (stepW W (numE 2 n))) := by
  have hb0 : Below w.heap.size w (w.alloc (.cells #[.int .i64 2, .int .i64 n, .string s] 37)) := (Below.refl _ _).alloc (Nat.le_refl _) _
  have HC := Lib.hid ((wu16_any (hE.later hb0) (h.below hb0) (by omega) n).mono fun _ _ h => h.pre hb0)
  clear hE h hl _hs hb0
  generalize stepW W (numE 2 n) = W' at *
  go_enter Tryd.func11, Tryd.ntmps11
  go_wp2_with fail
  refine HC.out.mono ?_
  rintro x w1 ⟨rfl, v', hN⟩
  have HN := Lib.hid hN
  clear hN HC
  go_wp2
  exact bodyPost_end (v := .tuple #[]) (by simp [results, Tryd.results11, go_sem]) rfl ⟨rfl, _, HN.out⟩
theorem write_4 (hE : Env w S) (h : WObj w S B g v W) (hl : W.L.length ≤ 800000) (n : Int) (s : ByteArray) (_hs : s.size ≤ 65535) :
    Calls Tryd.prog 11 #[.pointer (some ⟨g, 0, none⟩), .agg #[.int .i64 4, .int .i64 n, .string s]] w (WSays w S B g v (stepW W (numE 4 n))) := by
  have hb0 : Below w.heap.size w (w.alloc (.cells #[.int .i64 4, .int .i64 n, .string s] 37)) := (Below.refl _ _).alloc (Nat.le_refl _) _
  have HC := Lib.hid ((wu32_any (hE.later hb0) (h.below hb0) (by omega) n).mono fun _ _ h => h.pre hb0)
  clear hE h hl _hs hb0
  generalize stepW W (numE 4 n) = W' at *
  go_enter Tryd.func11, Tryd.ntmps11
  go_wp2_with fail
  refine HC.out.mono ?_
  rintro x w1 ⟨rfl, v', hN⟩
  have HN := Lib.hid hN
  clear hN HC
  go_wp2
  exact bodyPost_end (v := .tuple #[]) (by simp [results, Tryd.results11, go_sem]) rfl ⟨rfl, _, HN.out⟩
theorem write_5 (hE : Env w S) (h : WObj w S B g v W) (hl : W.L.length ≤ 800000) (n : Int) (s : ByteArray) (_hs : s.size ≤ 65535) :
    Calls Tryd.prog 11 #[.pointer (some ⟨g, 0, none⟩), .agg #[.int .i64 5, .int .i64 n, .string s]] w (WSays w S B g v (stepW W (varE n))) := by
  have hb0 : Below w.heap.size w (w.alloc (.cells #[.int .i64 5, .int .i64 n, .string s] 37)) := (Below.refl _ _).alloc (Nat.le_refl _) _
  have HC := Lib.hid ((wvar_any (hE.later hb0) (h.below hb0) (by omega) n).mono fun _ _ h => h.pre hb0)
  clear hE h hl _hs hb0
  generalize stepW W (varE n) = W' at *
  go_enter Tryd.func11, Tryd.ntmps11
  go_wp2_with fail
  refine HC.out.mono ?_
  rintro x w1 ⟨rfl, v', hN⟩
  have HN := Lib.hid hN
  clear hN HC
  go_wp2
  exact bodyPost_end (v := .tuple #[]) (by simp [results, Tryd.results11, go_sem]) rfl ⟨rfl, _, HN.out⟩
theorem write_6 (hE : Env w S) (h : WObj w S B g v W) (hl : W.L.length ≤ 800000) (n : Int) (s : ByteArray) (hs : s.size ≤ 65535) :
    Calls Tryd.prog 11 #[.pointer (some ⟨g, 0, none⟩), .agg #[.int .i64 6, .int .i64 n, .string s]] w (WSays w S B g v (stepW W (textE s))) := by
  have hb0 : Below w.heap.size w (w.alloc (.cells #[.int .i64 6, .int .i64 n, .string s] 37)) := (Below.refl _ _).alloc (Nat.le_refl _) _
  have HC := Lib.hid ((wtext_any (hE.later hb0) (h.below hb0) hl s hs).mono fun _ _ h => h.pre hb0)
  clear hE h hl hs hb0
  generalize stepW W (textE s) = W' at *
  go_enter Tryd.func11, Tryd.ntmps11
  go_wp2_with fail
  refine HC.out.mono ?_
  rintro x w1 ⟨rfl, v', hN⟩
  have HN := Lib.hid hN
  clear hN HC
  go_wp2
  exact bodyPost_end (v := .tuple #[]) (by simp [results, Tryd.results11, go_sem]) rfl ⟨rfl, _, HN.out⟩
theorem write_7 (hE : Env w S) (h : WObj w S B g v W) (hl : W.L.length ≤ 800000) (n : Int) (s : ByteArray) (hs : s.size ≤ 65535) :
    Calls Tryd.prog 11 #[.pointer (some ⟨g, 0, none⟩), .agg #[.int .i64 7, .int .i64 n, .string s]] w (WSays w S B g v (stepW W (binE s))) := by
  have hb0 : Below w.heap.size w (w.alloc (.cells #[.int .i64 7, .int .i64 n, .string s] 37)) := (Below.refl _ _).alloc (Nat.le_refl _) _
  have HC := Lib.hid ((wbin_any (hE.later hb0) (h.below hb0) hl s hs).mono fun _ _ h => h.pre hb0)
  clear hE h hl hs hb0
  generalize stepW W (binE s) = W' at *
  go_enter Tryd.func11, Tryd.ntmps11
  go_wp2_with fail
  refine HC.out.mono ?_
  rintro x w1 ⟨rfl, v', hN⟩
  have HN := Lib.hid hN
  clear hN HC
  go_wp2
  exact bodyPost_end (v := .tuple #[]) (by simp [results, Tryd.results11, go_sem]) rfl ⟨rfl, _, HN.out⟩
theorem write_8 (_hE : Env w S) (h : WObj w S B g v W) (hl : W.L.length ≤ 800000) (n : Int) (s : ByteArray) (hs : s.size ≤ 65535) :
    Calls Tryd.prog 11 #[.pointer (some ⟨g, 0, none⟩), .agg #[.int .i64 8, .int .i64 n, .string s]] w (WSays w S B g v (stepW W (⟨0, 0, s.data.toList⟩))) := by
  have hb0 : Below w.heap.size w (w.alloc (.cells #[.int .i64 8, .int .i64 n, .string s] 37)) := (Below.refl _ _).alloc (Nat.le_refl _) _
  have HC := Lib.hid ((wraw_any (h.below hb0) (by omega) s hs).mono fun _ _ h => h.pre hb0)
  clear _hE h hl hs hb0
  generalize stepW W (⟨0, 0, s.data.toList⟩) = W' at *
  go_enter Tryd.func11, Tryd.ntmps11
  go_wp2_with fail
  refine HC.out.mono ?_
  rintro x w1 ⟨rfl, v', hN⟩
  have HN := Lib.hid hN
  clear hN HC
  go_wp2
  exact bodyPost_end (v := .tuple #[]) (by simp [results, Tryd.results11, go_sem]) rfl ⟨rfl, _, HN.out⟩
theorem write_other (h : WObj w S B g v W) (k n : Int) (s : ByteArray) (h1 : k ≠ 1) (h2 : k ≠ 2) (h4 : k ≠ 4) (h5 : k ≠ 5) (h6 : k ≠ 6) (h7 : k ≠ 7) (h8 : k ≠ 8) :
    Calls Tryd.prog 11 #[.pointer (some ⟨g, 0, none⟩), .agg #[.int .i64 k, .int .i64 n, .string s]] w (WSays w S B g v W) := by
  have hb0 : Below w.heap.size w (w.alloc (.cells #[.int .i64 k, .int .i64 n, .string s] 37)) := (Below.refl _ _).alloc (Nat.le_refl _) _
  have HN := Lib.hid (h.step hb0)
  have b1 : (k == 1) = false := beq_eq_false_iff_ne.2 h1
  have b2 : (k == 2) = false := beq_eq_false_iff_ne.2 h2
  have b4 : (k == 4) = false := beq_eq_false_iff_ne.2 h4
  have b5 : (k == 5) = false := beq_eq_false_iff_ne.2 h5
  have b6 : (k == 6) = false := beq_eq_false_iff_ne.2 h6
  have b7 : (k == 7) = false := beq_eq_false_iff_ne.2 h7
  have b8 : (k == 8) = false := beq_eq_false_iff_ne.2 h8
  clear h hb0 h1 h2 h4 h5 h6 h7 h8
  go_enter Tryd.func11, Tryd.ntmps11
  go_wp2
  exact bodyPost_end (v := .tuple #[]) (by simp [results, Tryd.results11, go_sem]) rfl ⟨rfl, _, HN.out⟩
theorem write_any (hE : Env w S) (h : WObj w S B g v W) (hl : W.L.length ≤ 800000) (a : FV) (hs : a.s.size ≤ 65535) :
    Calls Tryd.prog 11 #[.pointer (some ⟨g, 0, none⟩), a.agg] w (WSays w S B g v (stepW W (encA a))) := by
  obtain ⟨k, n, s⟩ := a
  unfold encA FV.agg
  simp only at hs ⊢
  by_cases h1 : k = 1
  · subst h1; rw [if_pos rfl]; exact write_1 hE h hl n s hs
  by_cases h2 : k = 2
  · subst h2; rw [if_neg h1, if_pos rfl]; exact write_2 hE h hl n s hs
  by_cases h4 : k = 4
  · subst h4; rw [if_neg h1, if_neg h2, if_pos rfl]; exact write_4 hE h hl n s hs
  by_cases h5 : k = 5
  · subst h5; rw [if_neg h1, if_neg h2, if_neg h4, if_pos rfl]; exact write_5 hE h hl n s hs
  by_cases h6 : k = 6
  · subst h6; rw [if_neg h1, if_neg h2, if_neg h4, if_neg h5, if_pos rfl]; exact write_6 hE h hl n s hs
  by_cases h7 : k = 7
  · subst h7; rw [if_neg h1, if_neg h2, if_neg h4, if_neg h5, if_neg h6, if_pos rfl]; exact write_7 hE h hl n s hs
  by_cases h8 : k = 8
  · subst h8; rw [if_neg h1, if_neg h2, if_neg h4, if_neg h5, if_neg h6, if_neg h7, if_pos rfl]; exact write_8 hE h hl n s hs
  · rw [if_neg h1, if_neg h2, if_neg h4, if_neg h5, if_neg h6, if_neg h7, if_neg h8, stepW_none]
    exact write_other h k n s h1 h2 h4 h5 h6 h7 h8
theorem nwrite_any (k n : Int) (s : ByteArray) (hs : s.size ≤ 65535) (w : World) : Calls Tryd.prog 11 #[.pointer none, .agg #[.int .i64 k, .int .i64 n, .string s]] w fun x w' => x = .returned (.tuple #[]) ∧ Below w.heap.size w w' := by
  have HB := Lib.hid (show Below w.heap.size w (w.alloc (.cells #[.int .i64 k, .int .i64 n, .string s] 37)) from (Below.refl _ _).alloc (Nat.le_refl _) _)
  by_cases h1 : k = 1
  · subst h1
    go_enter Tryd.func11, Tryd.ntmps11
    go_wp2_with fail
    refine (nu8 n _).mono ?_
    rintro x w1 ⟨rfl, rfl⟩
    go_wp2
    exact bodyPost_end (v := .tuple #[]) (by simp [results, Tryd.results11, go_sem]) rfl ⟨rfl, HB.out⟩
  by_cases h2 : k = 2
  · subst h2
    go_enter Tryd.func11, Tryd.ntmps11
    go_wp2_with fail
    refine (nu16 n _).mono ?_
    rintro x w1 ⟨rfl, rfl⟩
    go_wp2
    exact bodyPost_end (v := .tuple #[]) (by simp [results, Tryd.results11, go_sem]) rfl ⟨rfl, HB.out⟩
  by_cases h4 : k = 4
  · subst h4
    go_enter Tryd.func11, Tryd.ntmps11
    go_wp2_with fail
    refine (nu32 n _).mono ?_
    rintro x w1 ⟨rfl, rfl⟩
    go_wp2
    exact bodyPost_end (v := .tuple #[]) (by simp [results, Tryd.results11, go_sem]) rfl ⟨rfl, HB.out⟩
  by_cases h5 : k = 5
  · subst h5
    go_enter Tryd.func11, Tryd.ntmps11
    go_wp2_with fail
    refine (nvar n _).mono ?_
    rintro x w1 ⟨rfl, rfl⟩
    go_wp2
    exact bodyPost_end (v := .tuple #[]) (by simp [results, Tryd.results11, go_sem]) rfl ⟨rfl, HB.out⟩
  by_cases h6 : k = 6
  · subst h6
    go_enter Tryd.func11, Tryd.ntmps11
    go_wp2_with fail
    refine (ntext s _).mono ?_
    rintro x w1 ⟨rfl, rfl⟩
    go_wp2
    exact bodyPost_end (v := .tuple #[]) (by simp [results, Tryd.results11, go_sem]) rfl ⟨rfl, HB.out⟩
  by_cases h7 : k = 7
  · subst h7
    go_enter Tryd.func11, Tryd.ntmps11
    go_wp2_with fail
    refine (nbin s (by omega) _).mono ?_
    rintro x w1 ⟨rfl, rfl⟩
    go_wp2
    exact bodyPost_end (v := .tuple #[]) (by simp [results, Tryd.results11, go_sem]) rfl ⟨rfl, HB.out⟩
  by_cases h8 : k = 8
  · subst h8
    go_enter Tryd.func11, Tryd.ntmps11
    go_wp2_with fail
    refine (nraw s _).mono ?_
    rintro x w1 ⟨rfl, rfl⟩
    go_wp2
    exact bodyPost_end (v := .tuple #[]) (by simp [results, Tryd.results11, go_sem]) rfl ⟨rfl, HB.out⟩
  have b1 : (k == 1) = false := beq_eq_false_iff_ne.2 h1
  have b2 : (k == 2) = false := beq_eq_false_iff_ne.2 h2
  have b4 : (k == 4) = false := beq_eq_false_iff_ne.2 h4
  have b5 : (k == 5) = false := beq_eq_false_iff_ne.2 h5
  have b6 : (k == 6) = false := beq_eq_false_iff_ne.2 h6
  have b7 : (k == 7) = false := beq_eq_false_iff_ne.2 h7
  have b8 : (k == 8) = false := beq_eq_false_iff_ne.2 h8
  clear h1 h2 h4 h5 h6 h7 h8
  go_enter Tryd.func11, Tryd.ntmps11
  go_wp2
  exact bodyPost_end (v := .tuple #[]) (by simp [results, Tryd.results11, go_sem]) rfl ⟨rfl, HB.out⟩
end
end Go.Proofs.YtfojoeafhdiaiaaDoor

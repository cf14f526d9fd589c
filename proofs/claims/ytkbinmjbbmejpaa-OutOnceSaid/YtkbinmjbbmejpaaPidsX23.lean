/- What is proved here: what the methods of package pids answer, and what becomes of the numbers. Condition: there are few. -/
import Derived.Test.YtkbinmjbbmejpaaMaps
import Derived.Test.YtkbinmjbbmejpaaPids23
import Derived.WalkSpells
import Derived.WalkLawsBesides
import Derived.IntWalk
import Derived.Lib.Hide
import Derived.RegionTactic
import Derived.BigRegion
import Derived.Deep.QuietTactic
import Derived.BigQuiet
namespace Go.Proofs.Ytkbinmjbbmejpaa
open Go.RowKit Go.Extern.Stop Go.Stop Go.Extern Go.Maps
set_option maxRecDepth 100000

theorem K3' : Keyed Try.prog 3 := int_keyed Try.underlying3
theorem z89 (w : World) : (zeroValue 109).run Try.prog w = .ok (.agg #[]) w := by kernel_rfl

def onB (m : Int → Bool) (x : Int) : Int → Bool := fun y => if y = x then true else m y
def offB (m : Int → Bool) (x : Int) : Int → Bool := fun y => if y = x then false else m y
/-- Block g holds numbers: the greatest, the last one, and those in use. -/
structure IsPids (w : World) (g bm : Nat) (most last : Nat) (m : Int → Bool) (n : Nat) : Prop where
  is : Blk w g 97 #[.int .i64 most, .int .i64 last, .map (some bm)] ∧ IntSet Try.prog 3 w bm m n
  ok : PidsOk most last m n
theorem IsPids.then {w w' : World} {g bm : Nat} {most last : Nat} {m : Int → Bool} {n : Nat} (h : IsPids w g bm most last m n) (hf : Fr [] w w') : IsPids w' g bm most last m n := by
  obtain ⟨⟨h1, h2⟩, h4⟩ := h
  exact ⟨⟨h1.fr hf (by simp), h2.fr hf (by simp)⟩, h4⟩
/-- What a method leaves: its own block and the map have changed, at most. -/
def PidsThen (w : World) (g bm : Nat) (most last : Nat) (m : Int → Bool) (n : Nat) (v : Value) (e : Ending) (w' : World) : Prop :=
  e = .returned v ∧ IsPids w' g bm most last m n ∧ Fr [g, bm] w w'
section
variable {w : World} {g bm : Nat} {most last : Nat} {m : Int → Bool} {n : Nat}
theorem pids_is (h : IsPids w g bm most last m n) (x : Int) (hx : (Lit.int .i64 x).wf = true) : Calls Try.prog 57 #[.pointer (some ⟨g, 0, none⟩), .int .i64 x] w fun e w' => e = .returned (.bool (m x)) ∧ Fr [] w w' := by
  obtain ⟨⟨h1, h2⟩, h4⟩ := h
  have c1 := h1.cell 2
  have hl := h2.look K3' Try.underlying3 Try.underlying95 z89 hx
  go_enter Try.func57, Try.ntmps57
  go_wp2
  go_ret
  exact ⟨rfl, (Fr.refl _ _).alloc _⟩
theorem pids_use_no (h : IsPids w g bm most last m n) (x : Int) (hx : (Lit.int .i64 x).wf = true) (hno : x < 1 ∨ (most : Int) < x ∨ m x = true) :
    Calls Try.prog 48 #[.pointer (some ⟨g, 0, none⟩), .int .i64 x] w fun e w' => e = .returned (.bool false) ∧ Fr [] w w' := by
  have HI := Lib.hid (pids_is h x hx)
  obtain ⟨⟨h1, h2⟩, h4⟩ := h
  have c0 := h1.cell 0
  clear h1 h2 h4
  rcases (show x < 1 ∨ (1 ≤ x ∧ (most : Int) < x) ∨ (1 ≤ x ∧ x ≤ most ∧ m x = true) by
    rcases hno with h | h | h
    · exact .inl h
    · by_cases h0 : x < 1
      · exact .inl h0
      · exact .inr (.inl ⟨by omega, h⟩)
    · by_cases h0 : x < 1
      · exact .inl h0
      · by_cases h1 : (most : Int) < x
        · exact .inr (.inl ⟨by omega, h1⟩)
        · exact .inr (.inr ⟨by omega, by omega, h⟩)) with h0 | ⟨h0, h1⟩ | ⟨h0, h1, hm⟩
  · clear hno
    go_enter Try.func48, Try.ntmps48
    go_wp2_with fail
    go_ret
    exact ⟨rfl, Fr.refl _ _⟩
  · clear hno
    go_enter Try.func48, Try.ntmps48
    go_wp2_with fail
    go_ret
    exact ⟨rfl, Fr.refl _ _⟩
  · rw [hm] at HI
    clear hno hm
    go_enter Try.func48, Try.ntmps48
    go_wp2_with fail
    refine (HI.out).mono ?_
    rintro e w1 ⟨rfl, hf⟩
    have HF := Lib.hid hf
    clear hf
    go_wp2_with fail
    go_ret
    exact ⟨rfl, HF.out⟩
theorem pids_use (h : IsPids w g bm most last m n) (x : Int) (hx : (Lit.int .i64 x).wf = true) (h0 : 1 ≤ x) (h1 : x ≤ most) (hm : m x = false) :
    Calls Try.prog 48 #[.pointer (some ⟨g, 0, none⟩), .int .i64 x] w (PidsThen w g bm most last (onB m x) (n + 1) (.bool true)) := by
  have HI := Lib.hid (pids_is h x hx)
  have HH := Lib.hid h
  obtain ⟨⟨g1, g2⟩, g4⟩ := h
  have c0 := g1.cell 0
  have H1 := Lib.hid g1
  have H2 := Lib.hid g2
  have H4 := Lib.hid g4
  have HM := Lib.hid hm
  rw [hm] at HI
  have hmost := g4.most_le
  have hnle : n ≤ 65535 := by have := g4.num; have := cnt_le m most; omega
  clear g1 g2 g4 hm
  go_enter Try.func48, Try.ntmps48
  go_wp2_with fail
  refine (HI.out).mono ?_
  rintro e w1 ⟨rfl, hf⟩
  have b1 := H1.out.fr hf (by simp)
  have c2 := b1.cell 2
  obtain ⟨w2, hrun, hs, hg⟩ := (H2.out.fr hf (by simp)).put K3' Try.underlying3 Try.underlying95 (by unfold maxLen; omega) hx
  have hne := (H2.out.fr hf (by simp)).ne b1
  have HF := Lib.hid hf
  have HB := Lib.hid b1
  have HS := Lib.hid hs
  have HG := Lib.hid hg
  clear hf hs hg b1
  go_wp2_with fail
  go_ret
  have hfr : Fr [g, bm] w w2 := (HF.out.mono (by simp)).grown HG.out (fun k hk => by injection hk with hk; subst hk; exact .inl (by simp))
  refine ⟨rfl, ⟨⟨HB.out.grown HG.out (by intro e; injection e with e; exact hne e), ?_⟩, use_ok H4.out h0 h1 HM.out⟩, hfr⟩
  have hh := HS.out
  rw [HM.out] at hh
  exact hh
theorem pids_free (h : IsPids w g bm most last m n) (x : Int) (hx : (Lit.int .i64 x).wf = true) :
    Calls Try.prog 52 #[.pointer (some ⟨g, 0, none⟩), .int .i64 x] w (PidsThen w g bm most last (if m x then offB m x else m) (if m x then n - 1 else n) (.bool (m x))) := by
  have HI := Lib.hid (pids_is h x hx)
  have HH := Lib.hid h
  obtain ⟨⟨g1, g2⟩, g4⟩ := h
  have H1 := Lib.hid g1
  have H2 := Lib.hid g2
  have H4 := Lib.hid g4
  clear g1 g2 g4
  cases hm : m x with
  | false =>
    rw [hm] at HI
    clear hm
    go_enter Try.func52, Try.ntmps52
    go_wp2_with fail
    refine (HI.out).mono ?_
    rintro e w1 ⟨rfl, hf⟩
    have HF := Lib.hid hf
    clear hf
    go_wp2_with fail
    go_ret
    exact ⟨rfl, HH.out.then HF.out, HF.out.mono (by simp)⟩
  | true =>
    rw [hm] at HI
    have HM := Lib.hid hm
    clear hm
    go_enter Try.func52, Try.ntmps52
    go_wp2_with fail
    refine (HI.out).mono ?_
    rintro e w1 ⟨rfl, hf⟩
    have b1 := H1.out.fr hf (by simp)
    have c2 := b1.cell 2
    obtain ⟨w2, hrun, hs, hg⟩ := (H2.out.fr hf (by simp)).del K3' Try.underlying3 Try.underlying95 0 hx
    have hne := (H2.out.fr hf (by simp)).ne b1
    have HF := Lib.hid hf
    have HB := Lib.hid b1
    have HS := Lib.hid hs
    have HG := Lib.hid hg
    clear hf hs hg b1
    go_wp2_with fail
    go_ret
    have hfr : Fr [g, bm] w w2 := (HF.out.mono (by simp)).grown HG.out (fun k hk => by injection hk with hk; subst hk; exact .inl (by simp))
    refine ⟨rfl, ⟨⟨HB.out.grown HG.out (by intro e; injection e with e; exact hne e), ?_⟩, free_ok H4.out HM.out⟩, hfr⟩
    have hh := HS.out
    rw [HM.out] at hh
    exact hh
theorem scan_step (m : Int → Bool) (most last f i : Nat) : (if m (cand most last i) then scan m most last f (i + 1) else some (cand most last i)) = scan m most last (f + 1) i := rfl
/-- What comes next. -/
def NextThen (w : World) (g bm : Nat) (most last : Nat) (m : Int → Bool) (n : Nat) (e : Ending) (w' : World) : Prop :=
  match scan m most last most 0 with
  | none => PidsThen w g bm most last m n (.tuple #[.int .i64 0, .bool false]) e w'
  | some x => PidsThen w g bm most x (onB m x) (n + 1) (.tuple #[.int .i64 x, .bool true]) e w'
set_option maxHeartbeats 1000000 in
set_option maxRecDepth 100000 in
theorem pids_next (h : IsPids w g bm most last m n) : Calls Try.prog 31 #[.pointer (some ⟨g, 0, none⟩)] w (NextThen w g bm most last m n) := by
  have hmost := h.ok.most_le
  have hlast := h.ok.last_le
  have HH := Lib.hid h
  obtain ⟨⟨g1, g2⟩, g4⟩ := h
  have c0 := g1.cell 0
  have H1 := Lib.hid g1
  have H2 := Lib.hid g2
  clear g1 g2 g4
  go_enter Try.func31, Try.ntmps31
  go_wp2
  go_loopw [12] (fun i wr => ∃ k : Nat, k ≤ most ∧ i = .int .i64 k ∧ Fr [] w wr ∧ scan m most last (most - k) k = scan m most last most 0) (fun i _ => most - (intOf i).toNat)
  case atStart => exact ⟨0, Nat.zero_le _, rfl, Fr.refl _ _, rfl⟩
  case round =>
    obtain ⟨k, hk, rfl, hf, hsc⟩ := hrel
    have HF := Lib.hid hf
    have HSC := Lib.hid hsc
    have d0 := (H1.out.fr hf (by simp)).cell 0
    have d1 := (H1.out.fr hf (by simp)).cell 1
    have f1 := (H1.out.fr hf (by simp)).frozen 1
    clear hf hsc
    by_cases hlt : k < most
    · have hc := cand_in (most := most) (last := last) (i := k) (by omega)
      have hcw : (Lit.int .i64 (cand most last k : Nat)).wf = true := WalkArith.wf_i64 (by omega)
      have hmod : ((last : Int) + (k : Int)) % (most : Int) = ((last + k) % most : Nat) := by rw [← Int.natCast_add]; rfl
      have hml := Nat.mod_lt (last + k) (show 0 < most by omega)
      obtain ⟨c, hcm⟩ : ∃ c, c = (last + k) % most := ⟨_, rfl⟩
      have hcc : cand most last k = c + 1 := by rw [hcm]; rfl
      rw [← hcm] at hmod hml
      rw [hcc] at hcw hc
      have HCC := Lib.hid hcc
      clear hcm hcc
      go_wp2
      go_quiet (fail)
      have hd := HH.out.then (HF.out.drewN nq)
      have HSS := Lib.hid (scan_step m most last (most - (k + 1)) k)
      cases hm : m ((c + 1 : Nat) : Int) with
      | true =>
        have HU := Lib.hid (pids_use_no hd ((c + 1 : Nat) : Int) hcw (.inr (.inr hm)))
        have HM := Lib.hid hm
        clear hd hm
        go_wp2_with fail
        refine (HU.out).mono ?_
        rintro e w1 ⟨rfl, hf⟩
        have HF1 := Lib.hid ((HF.out.drewN nq).then hf)
        clear hf
        go_wp2_with fail
        go_roundw
        case rel =>
          refine ⟨k + 1, hlt, by go_num, HF1.out, ?_⟩
          have h1 := HSS.out
          rw [HCC.out, HM.out, if_pos rfl, show most - (k + 1) + 1 = most - k by omega] at h1
          exact h1.trans HSC.out
        case measure => simp [intOf]; omega
      | false =>
        have HU := Lib.hid (pids_use hd ((c + 1 : Nat) : Int) hcw (by omega) (by omega) hm)
        have HM := Lib.hid hm
        clear hd hm
        go_wp2_with fail
        refine (HU.out).mono ?_
        rintro e w1 ⟨rfl, ⟨⟨b1, s1⟩, ok1⟩, hf2⟩
        have e1 := b1.cell 1
        have e2 := b1.frozen 1
        have hneg := s1.ne b1
        have HB1 := Lib.hid b1
        have HS1 := Lib.hid s1
        have HOK := Lib.hid ok1
        have HF2 := Lib.hid hf2
        clear b1 s1 ok1 hf2
        go_wp2_with fail
        go_ret2
        have hs : scan m most last most 0 = some (c + 1) := by
          have h1 := HSS.out
          rw [HCC.out, HM.out, if_neg (by simp), show most - (k + 1) + 1 = most - k by omega] at h1
          exact HSC.out.symm.trans h1.symm
        unfold NextThen
        rw [hs]
        have hfr : Fr [g, bm] w (w1.setCell ⟨g, 1, none⟩ (.int .i64 ((c + 1 : Nat) : Int))) := Fr.setCell ((HF.out.drewN nq).mono (by simp) |>.trans HF2.out (fun b hb _ => hb)) (.inl (by simp)) _
        exact ⟨by go_num, ⟨⟨HB1.out.store 1 _, HS1.out.fr (X := [g]) (Fr.setCell (Fr.refl _ _) (.inl (by simp)) _) (by simpa using hneg.symm)⟩, last_ok HOK.out (by omega)⟩, hfr⟩
    · obtain rfl : k = most := by omega
      go_wp2
      go_ret2
      have hs : scan m k last k 0 = none := by rw [← HSC.out, Nat.sub_self]; rfl
      unfold NextThen
      rw [hs]
      exact ⟨rfl, HH.out.then HF.out, HF.out.mono (by simp)⟩
theorem cnt_none (k : Nat) : cnt (fun _ => false) k = 0 := by
  induction k with
  | zero => rfl
  | succ k ih => unfold cnt; rw [ih]; rfl
theorem pids_new : Calls Try.prog 29 #[.int .i64 65535] w fun e w' => e = .returned (.pointer (some ⟨w.heap.size + 1, 0, none⟩)) ∧ IsPids w' (w.heap.size + 1) w.heap.size 65535 0 (fun _ => false) 0 ∧ Below w.heap.size w w' := by
  have hmm := @run_makeMap Try.prog
  have hok : PidsOk 65535 0 (fun _ => false) 0 := ⟨by omega, Nat.zero_le _, (fun x h => by cases h), (cnt_none _).symm⟩
  have HOK := Lib.hid hok
  have hend : ∀ (W : World), W = (w.alloc (.map #[] 0)).alloc (.cells #[.int .i64 65535, .int .i64 0, .map (some w.heap.size)] 97) → IsPids W (w.heap.size + 1) w.heap.size 65535 0 (fun _ => false) 0 ∧ Below w.heap.size w W := by
    rintro W rfl
    have hb1 := Blk.made (w.alloc (.map #[] 0)) 97 #[.int .i64 65535, .int .i64 0, .map (some w.heap.size)]
    have e : (w.alloc (.map #[] 0)).heap.size = w.heap.size + 1 := by simp
    rw [e] at hb1
    exact ⟨⟨⟨hb1, (IntSet.made w).fr ((Fr.refl [] _).alloc _) (by simp)⟩, HOK.out⟩, ((Below.refl _ _).alloc (Nat.le_refl _) _).alloc (by simp) _⟩
  have HE := Lib.hid hend
  clear hok hend
  go_enter Try.func29, Try.ntmps29
  go_wp2
  all_goals
    go_ret
    exact ⟨rfl, HE.out _ rfl⟩
end
end Go.Proofs.Ytkbinmjbbmejpaa

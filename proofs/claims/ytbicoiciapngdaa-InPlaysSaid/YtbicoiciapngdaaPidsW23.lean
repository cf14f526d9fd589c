/- What is proved here: what the methods of package pids answer, and what becomes of the numbers. Condition: there are few. -/
import Derived.Test.YtbicoiciapngdaaMaps
import Derived.Test.YtbicoiciapngdaaPids23
import Derived.WalkSpells
import Derived.WalkLawsBesides
import Derived.IntWalk
import Derived.Lib.Hide
import Derived.RegionTactic
import Derived.BigRegion
import Derived.Deep.QuietTactic
import Derived.BigQuiet
namespace Go.Proofs.Ytbicoiciapngdaa
open Go.RowKit Go.Extern.Stop Go.Stop Go.Extern Go.Maps

theorem K3' : Keyed Try.prog 3 := int_keyed Try.underlying3
theorem z89 (w : World) : (zeroValue 89).run Try.prog w = .ok (.agg #[]) w := by kernel_rfl

def onB (m : Int → Bool) (x : Int) : Int → Bool := fun y => if y = x then true else m y
def offB (m : Int → Bool) (x : Int) : Int → Bool := fun y => if y = x then false else m y
/-- Block g holds numbers: the greatest, the last one, and those in use. -/
structure IsPids (w : World) (B g : Nat) (most last : Nat) (m : Int → Bool) (n : Nat) : Prop where
  is : ∃ bm, Blk w g 57 #[.int .i64 most, .int .i64 last, .map (some bm)] ∧ IntSet Try.prog 3 w bm m n ∧ B ≤ bm
  ok : PidsOk most last m n
theorem IsPids.then {w w' : World} {B g : Nat} {most last : Nat} {m : Int → Bool} {n : Nat} (h : IsPids w B g most last m n) (hf : Fr [] w w') : IsPids w' B g most last m n := by
  obtain ⟨⟨bm, h1, h2, h3⟩, h4⟩ := h
  exact ⟨⟨bm, h1.fr hf (by simp), h2.fr hf (by simp), h3⟩, h4⟩
/-- What a method leaves: its own block and the map have changed, at most. -/
def PidsThen (w : World) (B g : Nat) (most last : Nat) (m : Int → Bool) (n : Nat) (v : Value) (e : Ending) (w' : World) : Prop :=
  e = .returned v ∧ IsPids w' B g most last m n ∧ ∃ bm, B ≤ bm ∧ (∀ x t cs, Blk w x t cs → x ≠ bm) ∧ Fr [g, bm] w w'
section
variable {w : World} {B g : Nat} {most last : Nat} {m : Int → Bool} {n : Nat}
theorem pids_len (h : IsPids w B g most last m n) : Calls Try.prog 38 #[.pointer (some ⟨g, 0, none⟩)] w fun e w' => e = .returned (.int .i64 n) ∧ w = w' := by
  obtain ⟨⟨bm, h1, h2, h3⟩, h4⟩ := h
  have c1 := h1.cell 2
  have hl := h2.len Try.underlying55 3
  go_enter Try.func38, Try.ntmps38
  go_wp2
  go_ret
  exact ⟨rfl, rfl⟩
theorem pids_is (h : IsPids w B g most last m n) (x : Int) (hx : (Lit.int .i64 x).wf = true) : Calls Try.prog 39 #[.pointer (some ⟨g, 0, none⟩), .int .i64 x] w fun e w' => e = .returned (.bool (m x)) ∧ Fr [] w w' := by
  obtain ⟨⟨bm, h1, h2, h3⟩, h4⟩ := h
  have c1 := h1.cell 2
  have hl := h2.look K3' Try.underlying3 Try.underlying55 z89 hx
  go_enter Try.func39, Try.ntmps39
  go_wp2
  go_ret
  exact ⟨rfl, (Fr.refl _ _).alloc _⟩
theorem pids_use_no (h : IsPids w B g most last m n) (x : Int) (hx : (Lit.int .i64 x).wf = true) (hno : x < 1 ∨ (most : Int) < x ∨ m x = true) :
    Calls Try.prog 56 #[.pointer (some ⟨g, 0, none⟩), .int .i64 x] w fun e w' => e = .returned (.bool false) ∧ Fr [] w w' := by
  have HI := Lib.hid (pids_is h x hx)
  obtain ⟨⟨bm, h1, h2, h3⟩, h4⟩ := h
  have c0 := h1.cell 0
  clear h1 h2 h4
  rcases (show x < 1 ∨ (1 ≤ x ∧ (most : Int) < x) ∨ (1 ≤ x ∧ x ≤ most ∧ m x = true) by
    rcases hno with h | h | h
    · exact .inl h
    · by_cases h0 : x < 1
      · exact .inl h0
      · exact .inr (.inl ⟨by omega, h⟩)
    · by_cases h0 : x < 1
      · exact .inl h0
      · by_cases h1 : (most : Int) < x
        · exact .inr (.inl ⟨by omega, h1⟩)
        · exact .inr (.inr ⟨by omega, by omega, h⟩)) with h0 | ⟨h0, h1⟩ | ⟨h0, h1, hm⟩
  · clear hno
    go_enter Try.func56, Try.ntmps56
    go_wp2_with fail
    go_ret
    exact ⟨rfl, Fr.refl _ _⟩
  · clear hno
    go_enter Try.func56, Try.ntmps56
    go_wp2_with fail
    go_ret
    exact ⟨rfl, Fr.refl _ _⟩
  · rw [hm] at HI
    clear hno hm
    go_enter Try.func56, Try.ntmps56
    go_wp2_with fail
    refine (HI.out).mono ?_
    rintro e w1 ⟨rfl, hf⟩
    have HF := Lib.hid hf
    clear hf
    go_wp2_with fail
    go_ret
    exact ⟨rfl, HF.out⟩
theorem pids_use (h : IsPids w B g most last m n) (x : Int) (hx : (Lit.int .i64 x).wf = true) (h0 : 1 ≤ x) (h1 : x ≤ most) (hm : m x = false) :
    Calls Try.prog 56 #[.pointer (some ⟨g, 0, none⟩), .int .i64 x] w (PidsThen w B g most last (onB m x) (n + 1) (.bool true)) := by
  have HI := Lib.hid (pids_is h x hx)
  have HH := Lib.hid h
  obtain ⟨⟨bm, g1, g2, g3⟩, g4⟩ := h
  have c0 := g1.cell 0
  have H1 := Lib.hid g1
  have H2 := Lib.hid g2
  have H4 := Lib.hid g4
  have HM := Lib.hid hm
  rw [hm] at HI
  have hmost := g4.most_le
  have hnle : n ≤ 65535 := by have := g4.num; have := cnt_le m most; omega
  clear g1 g2 g4 hm
  go_enter Try.func56, Try.ntmps56
  go_wp2_with fail
  refine (HI.out).mono ?_
  rintro e w1 ⟨rfl, hf⟩
  have b1 := H1.out.fr hf (by simp)
  have c2 := b1.cell 2
  obtain ⟨w2, hrun, hs, hg⟩ := (H2.out.fr hf (by simp)).put K3' Try.underlying3 Try.underlying55 (by unfold maxLen; omega) hx
  have hne := (H2.out.fr hf (by simp)).ne b1
  have HF := Lib.hid hf
  have HB := Lib.hid b1
  have HS := Lib.hid hs
  have HG := Lib.hid hg
  clear hf hs hg b1
  go_wp2_with fail
  go_ret
  have hfr : Fr [g, bm] w w2 := (HF.out.mono (by simp)).grown HG.out (fun k hk => by injection hk with hk; subst hk; exact .inl (by simp))
  refine ⟨rfl, ⟨⟨bm, HB.out.grown HG.out (by intro e; injection e with e; exact hne e), ?_, g3⟩, use_ok H4.out h0 h1 HM.out⟩, bm, g3, fun x t cs hb => H2.out.ne hb, hfr⟩
  have hh := HS.out
  rw [HM.out] at hh
  exact hh
theorem pids_free (h : IsPids w B g most last m n) (x : Int) (hx : (Lit.int .i64 x).wf = true) :
    Calls Try.prog 42 #[.pointer (some ⟨g, 0, none⟩), .int .i64 x] w (PidsThen w B g most last (if m x then offB m x else m) (if m x then n - 1 else n) (.bool (m x))) := by
  have HI := Lib.hid (pids_is h x hx)
  have HH := Lib.hid h
  obtain ⟨⟨bm, g1, g2, g3⟩, g4⟩ := h
  have H1 := Lib.hid g1
  have H2 := Lib.hid g2
  have H4 := Lib.hid g4
  clear g1 g2 g4
  cases hm : m x with
  | false =>
    rw [hm] at HI
    clear hm
    go_enter Try.func42, Try.ntmps42
    go_wp2_with fail
    refine (HI.out).mono ?_
    rintro e w1 ⟨rfl, hf⟩
    have HF := Lib.hid hf
    clear hf
    go_wp2_with fail
    go_ret
    exact ⟨rfl, HH.out.then HF.out, bm, g3, fun x t cs hb => H2.out.ne hb, HF.out.mono (by simp)⟩
  | true =>
    rw [hm] at HI
    have HM := Lib.hid hm
    clear hm
    go_enter Try.func42, Try.ntmps42
    go_wp2_with fail
    refine (HI.out).mono ?_
    rintro e w1 ⟨rfl, hf⟩
    have b1 := H1.out.fr hf (by simp)
    have c2 := b1.cell 2
    obtain ⟨w2, hrun, hs, hg⟩ := (H2.out.fr hf (by simp)).del K3' Try.underlying3 Try.underlying55 0 hx
    have hne := (H2.out.fr hf (by simp)).ne b1
    have HF := Lib.hid hf
    have HB := Lib.hid b1
    have HS := Lib.hid hs
    have HG := Lib.hid hg
    clear hf hs hg b1
    go_wp2_with fail
    go_ret
    have hfr : Fr [g, bm] w w2 := (HF.out.mono (by simp)).grown HG.out (fun k hk => by injection hk with hk; subst hk; exact .inl (by simp))
    refine ⟨rfl, ⟨⟨bm, HB.out.grown HG.out (by intro e; injection e with e; exact hne e), ?_, g3⟩, free_ok H4.out HM.out⟩, bm, g3, fun x t cs hb => H2.out.ne hb, hfr⟩
    have hh := HS.out
    rw [HM.out] at hh
    exact hh
theorem scan_step (m : Int → Bool) (most last f i : Nat) : (if m (cand most last i) then scan m most last f (i + 1) else some (cand most last i)) = scan m most last (f + 1) i := rfl
/-- What comes next. -/
def NextThen (w : World) (B g : Nat) (most last : Nat) (m : Int → Bool) (n : Nat) (e : Ending) (w' : World) : Prop :=
  match scan m most last most 0 with
  | none => PidsThen w B g most last m n (.tuple #[.int .i64 0, .bool false]) e w'
  | some x => PidsThen w B g most x (onB m x) (n + 1) (.tuple #[.int .i64 x, .bool true]) e w'
set_option maxHeartbeats 1000000 in
set_option maxRecDepth 100000 in
theorem pids_next (h : IsPids w B g most last m n) : Calls Try.prog 41 #[.pointer (some ⟨g, 0, none⟩)] w (NextThen w B g most last m n) := by
  have hmost := h.ok.most_le
  have hlast := h.ok.last_le
  have HH := Lib.hid h
  obtain ⟨⟨bm, g1, g2, g3⟩, g4⟩ := h
  have c0 := g1.cell 0
  have H1 := Lib.hid g1
  have H2 := Lib.hid g2
  clear g1 g2 g4
  go_enter Try.func41, Try.ntmps41
  go_wp2
  go_loopw [12] (fun i wr => ∃ k : Nat, k ≤ most ∧ i = .int .i64 k ∧ Fr [] w wr ∧ scan m most last (most - k) k = scan m most last most 0) (fun i _ => most - (intOf i).toNat)
  case atStart => exact ⟨0, Nat.zero_le _, rfl, Fr.refl _ _, rfl⟩
  case round =>
    obtain ⟨k, hk, rfl, hf, hsc⟩ := hrel
    have HF := Lib.hid hf
    have HSC := Lib.hid hsc
    have d0 := (H1.out.fr hf (by simp)).cell 0
    have d1 := (H1.out.fr hf (by simp)).cell 1
    have f1 := (H1.out.fr hf (by simp)).frozen 1
    clear hf hsc
    by_cases hlt : k < most
    · have hc := cand_in (most := most) (last := last) (i := k) (by omega)
      have hcw : (Lit.int .i64 (cand most last k : Nat)).wf = true := WalkArith.wf_i64 (by omega)
      have hmod : ((last : Int) + (k : Int)) % (most : Int) = ((last + k) % most : Nat) := by rw [← Int.natCast_add]; rfl
      have hml := Nat.mod_lt (last + k) (show 0 < most by omega)
      obtain ⟨c, hcm⟩ : ∃ c, c = (last + k) % most := ⟨_, rfl⟩
      have hcc : cand most last k = c + 1 := by rw [hcm]; rfl
      rw [← hcm] at hmod hml
      rw [hcc] at hcw hc
      have HCC := Lib.hid hcc
      clear hcm hcc
      go_wp2
      go_quiet (fail)
      have hd := HH.out.then (HF.out.drewN nq)
      have HSS := Lib.hid (scan_step m most last (most - (k + 1)) k)
      cases hm : m ((c + 1 : Nat) : Int) with
      | true =>
        have HU := Lib.hid (pids_use_no hd ((c + 1 : Nat) : Int) hcw (.inr (.inr hm)))
        have HM := Lib.hid hm
        clear hd hm
        go_wp2_with fail
        refine (HU.out).mono ?_
        rintro e w1 ⟨rfl, hf⟩
        have HF1 := Lib.hid ((HF.out.drewN nq).then hf)
        clear hf
        go_wp2_with fail
        go_roundw
        case rel =>
          refine ⟨k + 1, hlt, by go_num, HF1.out, ?_⟩
          have h1 := HSS.out
          rw [HCC.out, HM.out, if_pos rfl, show most - (k + 1) + 1 = most - k by omega] at h1
          exact h1.trans HSC.out
        case measure => simp [intOf]; omega
      | false =>
        have HU := Lib.hid (pids_use hd ((c + 1 : Nat) : Int) hcw (by omega) (by omega) hm)
        have HM := Lib.hid hm
        clear hd hm
        go_wp2_with fail
        refine (HU.out).mono ?_
        rintro e w1 ⟨rfl, ⟨⟨bm', b1, s1, hB1⟩, ok1⟩, bm2, hB2, hne2, hf2⟩
        have e1 := b1.cell 1
        have e2 := b1.frozen 1
        have hneg := s1.ne b1
        have HB1 := Lib.hid b1
        have HS1 := Lib.hid s1
        have HOK := Lib.hid ok1
        have HNE := Lib.hid hne2
        have HF2 := Lib.hid hf2
        clear b1 s1 ok1 hne2 hf2
        go_wp2_with fail
        go_ret2
        have hs : scan m most last most 0 = some (c + 1) := by
          have h1 := HSS.out
          rw [HCC.out, HM.out, if_neg (by simp), show most - (k + 1) + 1 = most - k by omega] at h1
          exact HSC.out.symm.trans h1.symm
        unfold NextThen
        rw [hs]
        have hfr : Fr [g, bm2] w (w1.setCell ⟨g, 1, none⟩ (.int .i64 ((c + 1 : Nat) : Int))) := Fr.setCell ((HF.out.drewN nq).mono (by simp) |>.trans HF2.out (fun b hb _ => hb)) (.inl (by simp)) _
        refine ⟨by go_num, ⟨⟨bm', HB1.out.store 1 _, HS1.out.fr (X := [g]) (Fr.setCell (Fr.refl _ _) (.inl (by simp)) _) (by simpa using hneg.symm), hB1⟩, last_ok HOK.out (by omega)⟩, bm2, hB2, fun x t cs hb => ?_, hfr⟩
        exact HNE.out x t cs (hb.fr (HF.out.drewN nq) (by simp))
    · obtain rfl : k = most := by omega
      go_wp2
      go_ret2
      have hs : scan m k last k 0 = none := by rw [← HSC.out, Nat.sub_self]; rfl
      unfold NextThen
      rw [hs]
      exact ⟨rfl, HH.out.then HF.out, bm, g3, fun x t cs hb => H2.out.ne hb, HF.out.mono (by simp)⟩
theorem cnt_none (k : Nat) : cnt (fun _ => false) k = 0 := by
  induction k with
  | zero => rfl
  | succ k ih => unfold cnt; rw [ih]; rfl
theorem pids_new (n : Int) (k : Nat) (hk : n < 0 ∧ k = 0 ∨ n = (k : Int) ∧ k ≤ 65535 ∨ 65535 < n ∧ n ≤ 9223372036854775807 ∧ k = 65535) (hB : B ≤ w.heap.size) :
    Calls Try.prog 32 #[.int .i64 n] w fun e w' => ∃ g, e = .returned (.pointer (some ⟨g, 0, none⟩)) ∧ B ≤ g ∧ IsPids w' B g k 0 (fun _ => false) 0 ∧ Below w.heap.size w w' := by
  have hmm := @run_makeMap Try.prog
  have hok : PidsOk k 0 (fun _ => false) 0 := ⟨by omega, Nat.zero_le _, (fun x h => by cases h), (cnt_none k).symm⟩
  have HOK := Lib.hid hok
  have HB := Lib.hid hB
  have hend : ∀ (W : World), W = (w.alloc (.map #[] 0)).alloc (.cells #[.int .i64 k, .int .i64 0, .map (some w.heap.size)] 57) → B ≤ w.heap.size + 1 ∧ IsPids W B (w.heap.size + 1) k 0 (fun _ => false) 0 ∧ Below w.heap.size w W := by
    rintro W rfl
    have hb1 := Blk.made (w.alloc (.map #[] 0)) 57 #[.int .i64 k, .int .i64 0, .map (some w.heap.size)]
    have e : (w.alloc (.map #[] 0)).heap.size = w.heap.size + 1 := by simp
    rw [e] at hb1
    exact ⟨by omega, ⟨⟨w.heap.size, hb1, (IntSet.made w).fr ((Fr.refl [] _).alloc _) (by simp), HB.out⟩, HOK.out⟩, ((Below.refl _ _).alloc (Nat.le_refl _) _).alloc (by simp) _⟩
  have HE := Lib.hid hend
  clear hok hB hend
  rcases hk with ⟨hn, rfl⟩ | ⟨rfl, hn⟩ | ⟨hn, hn2, rfl⟩
  · have hd : decide (n < 0) = true := by simp; omega
    go_enter Try.func32, Try.ntmps32
    go_wp2
    all_goals
      go_ret
      exact ⟨_, rfl, HE.out _ rfl⟩
  · go_enter Try.func32, Try.ntmps32
    go_wp2
    all_goals
      go_ret
      exact ⟨_, rfl, HE.out _ rfl⟩
  · go_enter Try.func32, Try.ntmps32
    go_wp2
    all_goals
      go_ret
      exact ⟨_, rfl, HE.out _ rfl⟩
end
/-- Numbers of the call's own. -/
structure OwnPids (w0 w : World) (g : Nat) (most last : Nat) (m : Int → Bool) (n : Nat) : Prop where
  below : Below w0.heap.size w0 w
  at_ : w0.heap.size ≤ g
  is : IsPids w w0.heap.size g most last m n
/-- All other blocks of cells are as they were. -/
def KeepsBut (g : Nat) (w w' : World) : Prop := ∀ x t cs, Blk w x t cs → x ≠ g → Blk w' x t cs
section
variable {w0 w : World} {g : Nat} {most last : Nat} {m : Int → Bool} {n : Nat}
theorem OwnPids.next {v : Value} {e : Ending} {w' : World} {last' : Nat} {m' : Int → Bool} {n' : Nat} (h : OwnPids w0 w g most last m n) (hh : PidsThen w w0.heap.size g most last' m' n' v e w') : OwnPids w0 w' g most last' m' n' ∧ KeepsBut g w w' := by
  obtain ⟨_, h1, bm, h2, h3, h4⟩ := hh
  exact ⟨⟨h4.later h.below (by simp; exact ⟨h.at_, h2⟩) h.below.size, h.at_, h1⟩, fun x t cs hb hx => hb.fr h4 (by simp; exact ⟨hx, h3 x t cs hb⟩)⟩
theorem OwnPids.same (h : OwnPids w0 w g most last m n) {w' : World} (hf : Fr [] w w') : OwnPids w0 w' g most last m n ∧ KeepsBut g w w' := ⟨⟨hf.later h.below (by simp) h.below.size, h.at_, h.is.then hf⟩, fun _ _ _ hb _ => hb.fr hf (by simp)⟩
theorem KeepsBut.trans {a b c : World} (h : KeepsBut g a b) (k : KeepsBut g b c) : KeepsBut g a c := fun x t cs hb hx => k x t cs (h x t cs hb hx) hx
theorem own_pnew (n : Int) (k : Nat) (hk : n < 0 ∧ k = 0 ∨ n = (k : Int) ∧ k ≤ 65535 ∨ 65535 < n ∧ n ≤ 9223372036854775807 ∧ k = 65535) (hb : Below w0.heap.size w0 w) :
    Calls Try.prog 32 #[.int .i64 n] w fun e w' => ∃ g, e = .returned (.pointer (some ⟨g, 0, none⟩)) ∧ OwnPids w0 w' g k 0 (fun _ => false) 0 :=
  (pids_new n k hk hb.size).mono fun _ _ ⟨g, h1, h2, h3, h4⟩ => ⟨g, h1, hb.trans (h4.mono hb.size), h2, h3⟩
theorem own_plen (h : OwnPids w0 w g most last m n) : Calls Try.prog 38 #[.pointer (some ⟨g, 0, none⟩)] w fun e w' => e = .returned (.int .i64 n) ∧ w = w' := pids_len h.is
theorem own_pis (h : OwnPids w0 w g most last m n) (x : Int) (hx : (Lit.int .i64 x).wf = true) : Calls Try.prog 39 #[.pointer (some ⟨g, 0, none⟩), .int .i64 x] w fun e w' => e = .returned (.bool (m x)) ∧ OwnPids w0 w' g most last m n ∧ KeepsBut g w w' :=
  (pids_is h.is x hx).mono fun _ _ ⟨h1, h2⟩ => ⟨h1, h.same h2⟩
theorem own_puse_no (h : OwnPids w0 w g most last m n) (x : Int) (hx : (Lit.int .i64 x).wf = true) (hno : x < 1 ∨ (most : Int) < x ∨ m x = true) : Calls Try.prog 56 #[.pointer (some ⟨g, 0, none⟩), .int .i64 x] w fun e w' => e = .returned (.bool false) ∧ OwnPids w0 w' g most last m n ∧ KeepsBut g w w' :=
  (pids_use_no h.is x hx hno).mono fun _ _ ⟨h1, h2⟩ => ⟨h1, h.same h2⟩
theorem own_puse (h : OwnPids w0 w g most last m n) (x : Int) (hx : (Lit.int .i64 x).wf = true) (h0 : 1 ≤ x) (h1 : x ≤ most) (hm : m x = false) : Calls Try.prog 56 #[.pointer (some ⟨g, 0, none⟩), .int .i64 x] w fun e w' => e = .returned (.bool true) ∧ OwnPids w0 w' g most last (onB m x) (n + 1) ∧ KeepsBut g w w' :=
  (pids_use h.is x hx h0 h1 hm).mono fun _ _ hh => ⟨hh.1, h.next hh⟩
theorem own_pfree (h : OwnPids w0 w g most last m n) (x : Int) (hx : (Lit.int .i64 x).wf = true) : Calls Try.prog 42 #[.pointer (some ⟨g, 0, none⟩), .int .i64 x] w fun e w' => e = .returned (.bool (m x)) ∧ OwnPids w0 w' g most last (if m x then offB m x else m) (if m x then n - 1 else n) ∧ KeepsBut g w w' :=
  (pids_free h.is x hx).mono fun _ _ hh => ⟨hh.1, h.next hh⟩
theorem own_pnext_no (h : OwnPids w0 w g most last m n) (hs : scan m most last most 0 = none) : Calls Try.prog 41 #[.pointer (some ⟨g, 0, none⟩)] w fun e w' => e = .returned (.tuple #[.int .i64 0, .bool false]) ∧ OwnPids w0 w' g most last m n ∧ KeepsBut g w w' := by
  refine (pids_next h.is).mono fun _ _ hh => ?_
  unfold NextThen at hh
  rw [hs] at hh
  exact ⟨hh.1, h.next hh⟩
theorem own_pnext {x : Nat} (h : OwnPids w0 w g most last m n) (hs : scan m most last most 0 = some x) : Calls Try.prog 41 #[.pointer (some ⟨g, 0, none⟩)] w fun e w' => e = .returned (.tuple #[.int .i64 x, .bool true]) ∧ OwnPids w0 w' g most x (onB m x) (n + 1) ∧ KeepsBut g w w' := by
  refine (pids_next h.is).mono fun _ _ hh => ?_
  unfold NextThen at hh
  rw [hs] at hh
  exact ⟨hh.1, h.next hh⟩
/-- An act: what it answers, and what is in use then. -/
def do23 (most : Nat) (last : Nat) (m : Int → Bool) (n : Nat) (kind id : Int) : Int × Bool × Nat × (Int → Bool) × Nat :=
  if kind = 1 then (match scan m most last most 0 with | none => (0, false, last, m, n) | some x => ((x : Int), true, x, onB m x, n + 1))
  else if kind = 2 then (if 1 ≤ id ∧ id ≤ most ∧ m id = false then (0, true, last, onB m id, n + 1) else (0, false, last, m, n))
  else if kind = 3 then (0, m id, last, (if m id then offB m id else m), (if m id then n - 1 else n))
  else (0, false, last, m, n)
def Do23Says (w0 w : World) (g most : Nat) (r : Int × Bool × Nat × (Int → Bool) × Nat) (e : Ending) (w' : World) : Prop :=
  e = .returned (.tuple #[.int .i64 r.1, .bool r.2.1]) ∧ OwnPids w0 w' g most r.2.2.1 r.2.2.2.1 r.2.2.2.2 ∧ KeepsBut g w w'
theorem own_do23 (h : OwnPids w0 w g most last m n) (kind id : Int) (hid : (Lit.int .i64 id).wf = true) :
    Calls Try.prog 34 #[.pointer (some ⟨g, 0, none⟩), .agg #[.int .i64 kind, .int .i64 id]] w (Do23Says w0 w g most (do23 most last m n kind id)) := by
  obtain ⟨h0, hk0⟩ := h.same ((Fr.refl [] _).alloc (.cells #[.int .i64 kind, .int .i64 id] 62))
  have HK := Lib.hid hk0
  by_cases h1 : kind = 1
  · subst h1
    cases hs : scan m most last most 0 with
    | none =>
      have e : do23 most last m n 1 id = (0, false, last, m, n) := by unfold do23; rw [if_pos rfl, hs]
      rw [e]
      have HC := Lib.hid (own_pnext_no h0 hs)
      clear e h0 h hk0 hs
      go_enter Try.func34, Try.ntmps34
      go_wp2_with fail
      refine (HC.out).mono ?_
      rintro e w1 ⟨rfl, hh, hk⟩
      have HH := Lib.hid hh
      have HK2 := Lib.hid (HK.out.trans hk)
      clear hh hk
      go_wp2
      go_ret2
      exact ⟨rfl, HH.out, HK2.out⟩
    | some x =>
      have e : do23 most last m n 1 id = ((x : Int), true, x, onB m x, n + 1) := by unfold do23; rw [if_pos rfl, hs]
      rw [e]
      have HC := Lib.hid (own_pnext h0 hs)
      clear e h0 h hk0 hs
      go_enter Try.func34, Try.ntmps34
      go_wp2_with fail
      refine (HC.out).mono ?_
      rintro e w1 ⟨rfl, hh, hk⟩
      have HH := Lib.hid hh
      have HK2 := Lib.hid (HK.out.trans hk)
      clear hh hk
      go_wp2
      go_ret2
      exact ⟨rfl, HH.out, HK2.out⟩
  · have n1 : ((kind : Int) == 1) = false := beq_eq_false_iff_ne.2 h1
    by_cases h2 : kind = 2
    · subst h2
      by_cases hu : 1 ≤ id ∧ id ≤ most ∧ m id = false
      · have e : do23 most last m n 2 id = (0, true, last, onB m id, n + 1) := by unfold do23; rw [if_neg (by decide), if_pos rfl, if_pos hu]
        rw [e]
        have HC := Lib.hid (own_puse h0 id hid hu.1 hu.2.1 hu.2.2)
        clear e h0 h hk0 hu n1 h1
        go_enter Try.func34, Try.ntmps34
        go_wp2_with fail
        refine (HC.out).mono ?_
        rintro e w1 ⟨rfl, hh, hk⟩
        have HH := Lib.hid hh
        have HK2 := Lib.hid (HK.out.trans hk)
        clear hh hk
        go_wp2
        go_ret2
        exact ⟨rfl, HH.out, HK2.out⟩
      · have e : do23 most last m n 2 id = (0, false, last, m, n) := by unfold do23; rw [if_neg (by decide), if_pos rfl, if_neg hu]
        rw [e]
        have HC := Lib.hid (own_puse_no h0 id hid (by
          by_cases g1 : id < 1
          · exact .inl g1
          · by_cases g2 : (most : Int) < id
            · exact .inr (.inl g2)
            · refine .inr (.inr ?_)
              cases hm : m id with
              | true => rfl
              | false => exact absurd ⟨by omega, by omega, hm⟩ hu))
        clear e h0 h hk0 hu n1 h1
        go_enter Try.func34, Try.ntmps34
        go_wp2_with fail
        refine (HC.out).mono ?_
        rintro e w1 ⟨rfl, hh, hk⟩
        have HH := Lib.hid hh
        have HK2 := Lib.hid (HK.out.trans hk)
        clear hh hk
        go_wp2
        go_ret2
        exact ⟨rfl, HH.out, HK2.out⟩
    · have n2 : ((kind : Int) == 2) = false := beq_eq_false_iff_ne.2 h2
      by_cases h3 : kind = 3
      · subst h3
        have e : do23 most last m n 3 id = (0, m id, last, (if m id then offB m id else m), (if m id then n - 1 else n)) := by unfold do23; rw [if_neg (by decide), if_neg (by decide), if_pos rfl]
        rw [e]
        have HC := Lib.hid (own_pfree h0 id hid)
        clear e h0 h hk0 n1 h1 n2 h2
        generalize (if m id then offB m id else m) = m' at *
        generalize (if m id then n - 1 else n) = n' at *
        generalize m id = b at *
        go_enter Try.func34, Try.ntmps34
        go_wp2_with fail
        refine (HC.out).mono ?_
        rintro e w1 ⟨rfl, hh, hk⟩
        have HH := Lib.hid hh
        have HK2 := Lib.hid (HK.out.trans hk)
        clear hh hk
        go_wp2
        go_ret2
        exact ⟨rfl, HH.out, HK2.out⟩
      · have n3 : ((kind : Int) == 3) = false := beq_eq_false_iff_ne.2 h3
        have e : do23 most last m n kind id = (0, false, last, m, n) := by unfold do23; rw [if_neg h1, if_neg h2, if_neg h3]
        rw [e]
        have HC := Lib.hid h0
        clear e h0 h hk0 h1 h2 h3
        go_enter Try.func34, Try.ntmps34
        go_wp2
        go_ret2
        exact ⟨rfl, HC.out, HK.out⟩
end
end Go.Proofs.Ytbicoiciapngdaa

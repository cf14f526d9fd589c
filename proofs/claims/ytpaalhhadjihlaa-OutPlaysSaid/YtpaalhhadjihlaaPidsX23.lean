/- What is proved here, on plain numbers: which number comes next, and how many are in use. No conditions. What is proved here: what the methods of package pids answer, and what becomes of the numbers. Condition: there are few. -/
import Derived.Test.YtpaalhhadjihlaaLib
import Derived.Test.YtpaalhhadjihlaaAMapIn
import Derived.WalkSpells
import Derived.WalkLawsBesides
import Derived.IntWalk
import Derived.Lib.Hide
import Derived.RegionTactic
import Derived.BigRegion
import Derived.Deep.QuietTactic
import Derived.BigQuiet
namespace Go.Proofs.Ytpaalhhadjihlaa
/-- How many of the numbers from 1 to so many are in use. -/
def cnt (m : Int → Bool) : Nat → Nat
  | 0 => 0
  | k + 1 => cnt m k + (if m ((k : Int) + 1) then 1 else 0)
theorem cnt_le (m : Int → Bool) (k : Nat) : cnt m k ≤ k := by
  induction k with
  | zero => exact Nat.le_refl _
  | succ k ih => unfold cnt; split <;> omega
theorem cnt_all {m : Int → Bool} {k : Nat} (h : ∀ x : Int, 1 ≤ x → x ≤ k → m x = true) : cnt m k = k := by
  induction k with
  | zero => rfl
  | succ k ih =>
    unfold cnt
    rw [ih (fun x h1 h2 => h x h1 (by omega)), if_pos (h _ (by omega) (by omega))]
theorem cnt_free {m : Int → Bool} {k : Nat} (h : cnt m k < k) : ∃ x : Int, 1 ≤ x ∧ x ≤ k ∧ m x = false := by
  induction k with
  | zero => omega
  | succ k ih =>
    unfold cnt at h
    by_cases hm : m ((k : Int) + 1) = true
    · rw [if_pos hm] at h
      obtain ⟨x, h1, h2, h3⟩ := ih (by omega)
      exact ⟨x, h1, by omega, h3⟩
    · exact ⟨(k : Int) + 1, by omega, by omega, by simpa using hm⟩
theorem cnt_lt {m : Int → Bool} {k : Nat} {x : Int} (h1 : 1 ≤ x) (h2 : x ≤ k) (h3 : m x = false) : cnt m k < k := by
  induction k with
  | zero => omega
  | succ k ih =>
    unfold cnt
    have := cnt_le m k
    by_cases e : x = (k : Int) + 1
    · subst e; rw [h3]; simp; omega
    · have := ih (by omega)
      split <;> omega
theorem cnt_same {m m' : Int → Bool} {k : Nat} (h : ∀ x : Int, 1 ≤ x → x ≤ k → m x = m' x) : cnt m k = cnt m' k := by
  induction k with
  | zero => rfl
  | succ k ih =>
    unfold cnt
    rw [ih (fun x h1 h2 => h x h1 (by omega)), h _ (by omega) (by omega)]
theorem cnt_on {m : Int → Bool} {k : Nat} {x : Int} (h1 : 1 ≤ x) (h2 : x ≤ k) (h3 : m x = false) : cnt (fun y => if y = x then true else m y) k = cnt m k + 1 := by
  induction k with
  | zero => omega
  | succ k ih =>
    unfold cnt
    by_cases e : x = (k : Int) + 1
    · subst e
      rw [h3, cnt_same (m := fun y => if y = (k : Int) + 1 then true else m y) (m' := m) (fun y _ h => if_neg (by omega))]
      simp
    · have e2 : (if (k : Int) + 1 = x then true else m ((k : Int) + 1)) = m ((k : Int) + 1) := if_neg (fun h => e h.symm)
      simp only [e2]
      rw [ih (by omega)]
      omega
theorem cnt_off {m : Int → Bool} {k : Nat} {x : Int} (h1 : 1 ≤ x) (h2 : x ≤ k) (h3 : m x = true) : cnt (fun y => if y = x then false else m y) k = cnt m k - 1 ∧ 1 ≤ cnt m k := by
  induction k with
  | zero => omega
  | succ k ih =>
    unfold cnt
    by_cases e : x = (k : Int) + 1
    · subst e
      rw [h3, cnt_same (m := fun y => if y = (k : Int) + 1 then false else m y) (m' := m) (fun y _ h => if_neg (by omega))]
      simp
    · obtain ⟨g1, g2⟩ := ih (by omega)
      have e2 : (if (k : Int) + 1 = x then false else m ((k : Int) + 1)) = m ((k : Int) + 1) := if_neg (fun h => e h.symm)
      simp only [e2]
      rw [g1]
      constructor
      · split <;> omega
      · omega

/-- The number that is looked at, so many behind the last one. -/
def cand (most last i : Nat) : Nat := (last + i) % most + 1
theorem cand_in {most last i : Nat} (h : 0 < most) : 1 ≤ cand most last i ∧ cand most last i ≤ most := by
  unfold cand
  have := Nat.mod_lt (last + i) h
  omega
/-- Each number is looked at. -/
theorem cand_all {most last x : Nat} (h1 : 1 ≤ x) (h2 : x ≤ most) : ∃ i, i < most ∧ cand most last i = x := by
  refine ⟨(x - 1 + (most - last % most)) % most, Nat.mod_lt _ (by omega), ?_⟩
  unfold cand
  have hl := Nat.mod_lt last (show 0 < most by omega)
  rw [Nat.add_mod, Nat.mod_mod, ← Nat.add_mod]
  have e : last + (x - 1 + (most - last % most)) = most * (last / most) + (most + (x - 1)) := by
    have := Nat.div_add_mod last most
    omega
  rw [e, Nat.mul_add_mod, Nat.add_mod_left, Nat.mod_eq_of_lt (by omega)]
  omega
/-- Just behind a number comes that number last. -/
theorem cand_last {most id i : Nat} (h1 : 1 ≤ id) (h2 : id ≤ most) (hi : i < most) : cand most id i = id ↔ i = most - 1 := by
  unfold cand
  constructor
  · intro h
    by_cases hs : id + i < most
    · rw [Nat.mod_eq_of_lt hs] at h; omega
    · have e : id + i = most + (id + i - most) := by omega
      rw [e, Nat.add_mod_left, Nat.mod_eq_of_lt (by omega)] at h
      omega
  · rintro rfl
    have e : id + (most - 1) = most + (id - 1) := by omega
    rw [e, Nat.add_mod_left, Nat.mod_eq_of_lt (by omega)]
    omega

/-- The first one that is free, looked for from the i-th on. -/
def scan (m : Int → Bool) (most last : Nat) : Nat → Nat → Option Nat
  | 0, _ => none
  | f + 1, i => if m (cand most last i) then scan m most last f (i + 1) else some (cand most last i)
theorem scan_none {m : Int → Bool} {most last : Nat} : ∀ {f i : Nat}, scan m most last f i = none → ∀ j, i ≤ j → j < i + f → m (cand most last j) = true := by
  intro f
  induction f with
  | zero => intro i _ j h1 h2; omega
  | succ f ih =>
    intro i h j h1 h2
    unfold scan at h
    split at h
    · rename_i hm
      by_cases e : j = i
      · subst e; exact hm
      · exact ih h j (by omega) (by omega)
    · cases h
theorem scan_some {m : Int → Bool} {most last x : Nat} : ∀ {f i : Nat}, scan m most last f i = some x → ∃ j, i ≤ j ∧ j < i + f ∧ x = cand most last j ∧ m x = false ∧ ∀ k, i ≤ k → k < j → m (cand most last k) = true := by
  intro f
  induction f with
  | zero => intro i h; cases h
  | succ f ih =>
    intro i h
    unfold scan at h
    split at h
    · rename_i hm
      obtain ⟨j, h1, h2, h3, h4, h5⟩ := ih h
      refine ⟨j, by omega, by omega, h3, h4, fun k hk1 hk2 => ?_⟩
      by_cases e : k = i
      · subst e; exact hm
      · exact h5 k (by omega) hk2
    · rename_i hm
      injection h with h
      subst h
      exact ⟨i, Nat.le_refl _, by omega, rfl, by simpa using hm, fun k hk1 hk2 => by omega⟩
/-- What numbers in use keep to. -/
structure PidsOk (most last : Nat) (m : Int → Bool) (n : Nat) : Prop where
  most_le : most ≤ 65535
  last_le : last ≤ most
  range : ∀ x, m x = true → 1 ≤ x ∧ x ≤ most
  num : n = cnt m most
theorem next_none {most last n : Nat} {m : Int → Bool} (h : PidsOk most last m n) : scan m most last most 0 = none ↔ n = most := by
  constructor
  · intro hs
    rw [h.num]
    apply cnt_all
    intro x h1 h2
    obtain ⟨i, hi, hc⟩ := cand_all (last := last) (x := x.toNat) (most := most) (by omega) (by omega)
    have := scan_none hs i (Nat.zero_le _) (by omega)
    rw [hc] at this
    rwa [show ((x.toNat : Nat) : Int) = x by omega] at this
  · intro hn
    cases hs : scan m most last most 0 with
    | none => rfl
    | some x =>
      obtain ⟨j, _, h2, rfl, h4, _⟩ := scan_some hs
      have hc := cand_in (last := last) (i := j) (show 0 < most by omega)
      have := cnt_lt (k := most) (x := (cand most last j : Nat)) (by omega) (by omega) h4
      have := h.num
      omega
theorem use_ok {most last n : Nat} {m : Int → Bool} (h : PidsOk most last m n) {x : Int} (h1 : 1 ≤ x) (h2 : x ≤ most) (h3 : m x = false) : PidsOk most last (fun y => if y = x then true else m y) (n + 1) := by
  refine ⟨h.most_le, h.last_le, fun y hy => ?_, ?_⟩
  · by_cases e : y = x
    · subst e; exact ⟨h1, h2⟩
    · rw [if_neg e] at hy; exact h.range y hy
  · rw [cnt_on h1 h2 h3, h.num]
theorem free_ok {most last n : Nat} {m : Int → Bool} (h : PidsOk most last m n) {x : Int} (h3 : m x = true) : PidsOk most last (fun y => if y = x then false else m y) (n - 1) := by
  obtain ⟨h1, h2⟩ := h.range x h3
  refine ⟨h.most_le, h.last_le, fun y hy => ?_, ?_⟩
  · by_cases e : y = x
    · rw [if_pos e] at hy; cases hy
    · rw [if_neg e] at hy; exact h.range y hy
  · rw [(cnt_off h1 h2 h3).1, h.num]
theorem last_ok {most last last' n : Nat} {m : Int → Bool} (h : PidsOk most last m n) (hl : last' ≤ most) : PidsOk most last' m n := ⟨h.most_le, hl, h.range, h.num⟩
/-- Where a number that was just given is freed, the next one is that only if no other is free. -/
theorem last_comes {most id n x : Nat} {m : Int → Bool} (h : PidsOk most id m n) (h1 : 1 ≤ id) (hid : m id = false) (hs : scan m most id most 0 = some x) : (x = id ↔ n + 1 = most) := by
  obtain ⟨j, _, h2, rfl, h4, h5⟩ := scan_some hs
  have hle : id ≤ most := h.last_le
  rw [cand_last h1 hle (by omega)]
  have hc := cnt_on (k := most) (x := (id : Nat)) (by omega) (by omega) hid
  constructor
  · rintro rfl
    have := cnt_all (m := fun y => if y = (id : Int) then true else m y) (k := most) (fun y g1 g2 => by
      show (if y = (id : Int) then true else m y) = true
      by_cases e : y = id
      · rw [if_pos e]
      · rw [if_neg e]
        obtain ⟨i, hi, hc2⟩ := cand_all (last := id) (x := y.toNat) (most := most) (by omega) (by omega)
        have hne : i ≠ most - 1 := by
          intro e2
          have := (cand_last h1 hle hi).2 e2
          omega
        have := h5 i (Nat.zero_le _) (by omega)
        rw [hc2] at this
        rwa [show ((y.toNat : Nat) : Int) = y by omega] at this)
    rw [hc] at this
    have := h.num
    omega
  · intro hn
    have hcj := cand_in (last := id) (i := j) (show 0 < most by omega)
    by_cases e : cand most id j = id
    · exact (cand_last h1 hle (by omega)).1 e
    · exfalso
      have := cnt_lt (m := fun y => if y = (id : Int) then true else m y) (k := most) (x := (cand most id j : Nat)) (by omega) (by omega) (by rw [if_neg (by omega)]; exact h4)
      have := h.num
      omega
end Go.Proofs.Ytpaalhhadjihlaa
namespace Go.Proofs.Ytpaalhhadjihlaa
open Go.RowKit Go.Extern.Stop Go.Stop Go.Extern Go.Maps
set_option maxRecDepth 100000

theorem K3' : Keyed Try.prog 3 := int_keyed Try.underlying3
theorem z89 (w : World) : (zeroValue 105).run Try.prog w = .ok (.agg #[]) w := by kernel_rfl

def onB (m : Int → Bool) (x : Int) : Int → Bool := fun y => if y = x then true else m y
def offB (m : Int → Bool) (x : Int) : Int → Bool := fun y => if y = x then false else m y
/-- Block g holds numbers: the greatest, the last one, and those in use. -/
structure IsPids (w : World) (g bm : Nat) (most last : Nat) (m : Int → Bool) (n : Nat) : Prop where
  is : Blk w g 88 #[.int .i64 most, .int .i64 last, .map (some bm)] ∧ IntSet Try.prog 3 w bm m n
  ok : PidsOk most last m n
theorem IsPids.then {w w' : World} {g bm : Nat} {most last : Nat} {m : Int → Bool} {n : Nat} (h : IsPids w g bm most last m n) (hf : Fr [] w w') : IsPids w' g bm most last m n := by
  obtain ⟨⟨h1, h2⟩, h4⟩ := h
  exact ⟨⟨h1.fr hf (by simp), h2.fr hf (by simp)⟩, h4⟩
/-- What a method leaves: its own block and the map have changed, at most. -/
def PidsThen (w : World) (g bm : Nat) (most last : Nat) (m : Int → Bool) (n : Nat) (v : Value) (e : Ending) (w' : World) : Prop :=
  e = .returned v ∧ IsPids w' g bm most last m n ∧ Fr [g, bm] w w'
section
variable {w : World} {g bm : Nat} {most last : Nat} {m : Int → Bool} {n : Nat}
theorem pids_is (h : IsPids w g bm most last m n) (x : Int) (hx : (Lit.int .i64 x).wf = true) : Calls Try.prog 55 #[.pointer (some ⟨g, 0, none⟩), .int .i64 x] w fun e w' => e = .returned (.bool (m x)) ∧ Fr [] w w' := by
  obtain ⟨⟨h1, h2⟩, h4⟩ := h
  have c1 := h1.cell 2
  have hl := h2.look K3' Try.underlying3 Try.underlying86 z89 hx
  go_enter Try.func55, Try.ntmps55
  go_wp2
  go_ret
  exact ⟨rfl, (Fr.refl _ _).alloc _⟩
theorem pids_use_no (h : IsPids w g bm most last m n) (x : Int) (hx : (Lit.int .i64 x).wf = true) (hno : x < 1 ∨ (most : Int) < x ∨ m x = true) :
    Calls Try.prog 41 #[.pointer (some ⟨g, 0, none⟩), .int .i64 x] w fun e w' => e = .returned (.bool false) ∧ Fr [] w w' := by
  have HI := Lib.hid (pids_is h x hx)
  obtain ⟨⟨h1, h2⟩, h4⟩ := h
  have c0 := h1.cell 0
  clear h1 h2 h4
  rcases (show x < 1 ∨ (1 ≤ x ∧ (most : Int) < x) ∨ (1 ≤ x ∧ x ≤ most ∧ m x = true) by
    rcases hno with h | h | h
    · exact .inl h
    · by_cases h0 : x < 1
      · exact .inl h0
      · exact .inr (.inl ⟨by omega, h⟩)
    · by_cases h0 : x < 1
      · exact .inl h0
      · by_cases h1 : (most : Int) < x
        · exact .inr (.inl ⟨by omega, h1⟩)
        · exact .inr (.inr ⟨by omega, by omega, h⟩)) with h0 | ⟨h0, h1⟩ | ⟨h0, h1, hm⟩
  · clear hno
    go_enter Try.func41, Try.ntmps41
    go_wp2_with fail
    go_ret
    exact ⟨rfl, Fr.refl _ _⟩
  · clear hno
    go_enter Try.func41, Try.ntmps41
    go_wp2_with fail
    go_ret
    exact ⟨rfl, Fr.refl _ _⟩
  · rw [hm] at HI
    clear hno hm
    go_enter Try.func41, Try.ntmps41
    go_wp2_with fail
    refine (HI.out).mono ?_
    rintro e w1 ⟨rfl, hf⟩
    have HF := Lib.hid hf
    clear hf
    go_wp2_with fail
    go_ret
    exact ⟨rfl, HF.out⟩
theorem pids_use (h : IsPids w g bm most last m n) (x : Int) (hx : (Lit.int .i64 x).wf = true) (h0 : 1 ≤ x) (h1 : x ≤ most) (hm : m x = false) :
    Calls Try.prog 41 #[.pointer (some ⟨g, 0, none⟩), .int .i64 x] w (PidsThen w g bm most last (onB m x) (n + 1) (.bool true)) := by
  have HI := Lib.hid (pids_is h x hx)
  have HH := Lib.hid h
  obtain ⟨⟨g1, g2⟩, g4⟩ := h
  have c0 := g1.cell 0
  have H1 := Lib.hid g1
  have H2 := Lib.hid g2
  have H4 := Lib.hid g4
  have HM := Lib.hid hm
  rw [hm] at HI
  have hmost := g4.most_le
  have hnle : n ≤ 65535 := by have := g4.num; have := cnt_le m most; omega
  clear g1 g2 g4 hm
  go_enter Try.func41, Try.ntmps41
  go_wp2_with fail
  refine (HI.out).mono ?_
  rintro e w1 ⟨rfl, hf⟩
  have b1 := H1.out.fr hf (by simp)
  have c2 := b1.cell 2
  obtain ⟨w2, hrun, hs, hg⟩ := (H2.out.fr hf (by simp)).put K3' Try.underlying3 Try.underlying86 (by unfold maxLen; omega) hx
  have hne := (H2.out.fr hf (by simp)).ne b1
  have HF := Lib.hid hf
  have HB := Lib.hid b1
  have HS := Lib.hid hs
  have HG := Lib.hid hg
  clear hf hs hg b1
  go_wp2_with fail
  go_ret
  have hfr : Fr [g, bm] w w2 := (HF.out.mono (by simp)).grown HG.out (fun k hk => by injection hk with hk; subst hk; exact .inl (by simp))
  refine ⟨rfl, ⟨⟨HB.out.grown HG.out (by intro e; injection e with e; exact hne e), ?_⟩, use_ok H4.out h0 h1 HM.out⟩, hfr⟩
  have hh := HS.out
  rw [HM.out] at hh
  exact hh
theorem pids_free (h : IsPids w g bm most last m n) (x : Int) (hx : (Lit.int .i64 x).wf = true) :
    Calls Try.prog 46 #[.pointer (some ⟨g, 0, none⟩), .int .i64 x] w (PidsThen w g bm most last (if m x then offB m x else m) (if m x then n - 1 else n) (.bool (m x))) := by
  have HI := Lib.hid (pids_is h x hx)
  have HH := Lib.hid h
  obtain ⟨⟨g1, g2⟩, g4⟩ := h
  have H1 := Lib.hid g1
  have H2 := Lib.hid g2
  have H4 := Lib.hid g4
  clear g1 g2 g4
  cases hm : m x with
  | false =>
    rw [hm] at HI
    clear hm
    go_enter Try.func46, Try.ntmps46
    go_wp2_with fail
    refine (HI.out).mono ?_
    rintro e w1 ⟨rfl, hf⟩
    have HF := Lib.hid hf
    clear hf
    go_wp2_with fail
    go_ret
    exact ⟨rfl, HH.out.then HF.out, HF.out.mono (by simp)⟩
  | true =>
    rw [hm] at HI
    have HM := Lib.hid hm
    clear hm
    go_enter Try.func46, Try.ntmps46
    go_wp2_with fail
    refine (HI.out).mono ?_
    rintro e w1 ⟨rfl, hf⟩
    have b1 := H1.out.fr hf (by simp)
    have c2 := b1.cell 2
    obtain ⟨w2, hrun, hs, hg⟩ := (H2.out.fr hf (by simp)).del K3' Try.underlying3 Try.underlying86 0 hx
    have hne := (H2.out.fr hf (by simp)).ne b1
    have HF := Lib.hid hf
    have HB := Lib.hid b1
    have HS := Lib.hid hs
    have HG := Lib.hid hg
    clear hf hs hg b1
    go_wp2_with fail
    go_ret
    have hfr : Fr [g, bm] w w2 := (HF.out.mono (by simp)).grown HG.out (fun k hk => by injection hk with hk; subst hk; exact .inl (by simp))
    refine ⟨rfl, ⟨⟨HB.out.grown HG.out (by intro e; injection e with e; exact hne e), ?_⟩, free_ok H4.out HM.out⟩, hfr⟩
    have hh := HS.out
    rw [HM.out] at hh
    exact hh
theorem scan_step (m : Int → Bool) (most last f i : Nat) : (if m (cand most last i) then scan m most last f (i + 1) else some (cand most last i)) = scan m most last (f + 1) i := rfl
/-- What comes next. -/
def NextThen (w : World) (g bm : Nat) (most last : Nat) (m : Int → Bool) (n : Nat) (e : Ending) (w' : World) : Prop :=
  match scan m most last most 0 with
  | none => PidsThen w g bm most last m n (.tuple #[.int .i64 0, .bool false]) e w'
  | some x => PidsThen w g bm most x (onB m x) (n + 1) (.tuple #[.int .i64 x, .bool true]) e w'
set_option maxHeartbeats 1000000 in
set_option maxRecDepth 100000 in
theorem pids_next (h : IsPids w g bm most last m n) : Calls Try.prog 26 #[.pointer (some ⟨g, 0, none⟩)] w (NextThen w g bm most last m n) := by
  have hmost := h.ok.most_le
  have hlast := h.ok.last_le
  have HH := Lib.hid h
  obtain ⟨⟨g1, g2⟩, g4⟩ := h
  have c0 := g1.cell 0
  have H1 := Lib.hid g1
  have H2 := Lib.hid g2
  clear g1 g2 g4
  go_enter Try.func26, Try.ntmps26
  go_wp2
  go_loopw [12] (fun i wr => ∃ k : Nat, k ≤ most ∧ i = .int .i64 k ∧ Fr [] w wr ∧ scan m most last (most - k) k = scan m most last most 0) (fun i _ => most - (intOf i).toNat)
  case atStart => exact ⟨0, Nat.zero_le _, rfl, Fr.refl _ _, rfl⟩
  case round =>
    obtain ⟨k, hk, rfl, hf, hsc⟩ := hrel
    have HF := Lib.hid hf
    have HSC := Lib.hid hsc
    have d0 := (H1.out.fr hf (by simp)).cell 0
    have d1 := (H1.out.fr hf (by simp)).cell 1
    have f1 := (H1.out.fr hf (by simp)).frozen 1
    clear hf hsc
    by_cases hlt : k < most
    · have hc := cand_in (most := most) (last := last) (i := k) (by omega)
      have hcw : (Lit.int .i64 (cand most last k : Nat)).wf = true := WalkArith.wf_i64 (by omega)
      have hmod : ((last : Int) + (k : Int)) % (most : Int) = ((last + k) % most : Nat) := by rw [← Int.natCast_add]; rfl
      have hml := Nat.mod_lt (last + k) (show 0 < most by omega)
      obtain ⟨c, hcm⟩ : ∃ c, c = (last + k) % most := ⟨_, rfl⟩
      have hcc : cand most last k = c + 1 := by rw [hcm]; rfl
      rw [← hcm] at hmod hml
      rw [hcc] at hcw hc
      have HCC := Lib.hid hcc
      clear hcm hcc
      go_wp2
      go_quiet (fail)
      have hd := HH.out.then (HF.out.drewN nq)
      have HSS := Lib.hid (scan_step m most last (most - (k + 1)) k)
      cases hm : m ((c + 1 : Nat) : Int) with
      | true =>
        have HU := Lib.hid (pids_use_no hd ((c + 1 : Nat) : Int) hcw (.inr (.inr hm)))
        have HM := Lib.hid hm
        clear hd hm
        go_wp2_with fail
        refine (HU.out).mono ?_
        rintro e w1 ⟨rfl, hf⟩
        have HF1 := Lib.hid ((HF.out.drewN nq).then hf)
        clear hf
        go_wp2_with fail
        go_roundw
        case rel =>
          refine ⟨k + 1, hlt, by go_num, HF1.out, ?_⟩
          have h1 := HSS.out
          rw [HCC.out, HM.out, if_pos rfl, show most - (k + 1) + 1 = most - k by omega] at h1
          exact h1.trans HSC.out
        case measure => simp [intOf]; omega
      | false =>
        have HU := Lib.hid (pids_use hd ((c + 1 : Nat) : Int) hcw (by omega) (by omega) hm)
        have HM := Lib.hid hm
        clear hd hm
        go_wp2_with fail
        refine (HU.out).mono ?_
        rintro e w1 ⟨rfl, ⟨⟨b1, s1⟩, ok1⟩, hf2⟩
        have e1 := b1.cell 1
        have e2 := b1.frozen 1
        have hneg := s1.ne b1
        have HB1 := Lib.hid b1
        have HS1 := Lib.hid s1
        have HOK := Lib.hid ok1
        have HF2 := Lib.hid hf2
        clear b1 s1 ok1 hf2
        go_wp2_with fail
        go_ret2
        have hs : scan m most last most 0 = some (c + 1) := by
          have h1 := HSS.out
          rw [HCC.out, HM.out, if_neg (by simp), show most - (k + 1) + 1 = most - k by omega] at h1
          exact HSC.out.symm.trans h1.symm
        unfold NextThen
        rw [hs]
        have hfr : Fr [g, bm] w (w1.setCell ⟨g, 1, none⟩ (.int .i64 ((c + 1 : Nat) : Int))) := Fr.setCell ((HF.out.drewN nq).mono (by simp) |>.trans HF2.out (fun b hb _ => hb)) (.inl (by simp)) _
        exact ⟨by go_num, ⟨⟨HB1.out.store 1 _, HS1.out.fr (X := [g]) (Fr.setCell (Fr.refl _ _) (.inl (by simp)) _) (by simpa using hneg.symm)⟩, last_ok HOK.out (by omega)⟩, hfr⟩
    · obtain rfl : k = most := by omega
      go_wp2
      go_ret2
      have hs : scan m k last k 0 = none := by rw [← HSC.out, Nat.sub_self]; rfl
      unfold NextThen
      rw [hs]
      exact ⟨rfl, HH.out.then HF.out, HF.out.mono (by simp)⟩
theorem cnt_none (k : Nat) : cnt (fun _ => false) k = 0 := by
  induction k with
  | zero => rfl
  | succ k ih => unfold cnt; rw [ih]; rfl
theorem pids_new : Calls Try.prog 24 #[.int .i64 65535] w fun e w' => e = .returned (.pointer (some ⟨w.heap.size + 1, 0, none⟩)) ∧ IsPids w' (w.heap.size + 1) w.heap.size 65535 0 (fun _ => false) 0 ∧ Below w.heap.size w w' := by
  have hmm := @run_makeMap Try.prog
  have hok : PidsOk 65535 0 (fun _ => false) 0 := ⟨by omega, Nat.zero_le _, (fun x h => by cases h), (cnt_none _).symm⟩
  have HOK := Lib.hid hok
  have hend : ∀ (W : World), W = (w.alloc (.map #[] 0)).alloc (.cells #[.int .i64 65535, .int .i64 0, .map (some w.heap.size)] 88) → IsPids W (w.heap.size + 1) w.heap.size 65535 0 (fun _ => false) 0 ∧ Below w.heap.size w W := by
    rintro W rfl
    have hb1 := Blk.made (w.alloc (.map #[] 0)) 88 #[.int .i64 65535, .int .i64 0, .map (some w.heap.size)]
    have e : (w.alloc (.map #[] 0)).heap.size = w.heap.size + 1 := by simp
    rw [e] at hb1
    exact ⟨⟨⟨hb1, (IntSet.made w).fr ((Fr.refl [] _).alloc _) (by simp)⟩, HOK.out⟩, ((Below.refl _ _).alloc (Nat.le_refl _) _).alloc (by simp) _⟩
  have HE := Lib.hid hend
  clear hok hend
  go_enter Try.func24, Try.ntmps24
  go_wp2
  all_goals
    go_ret
    exact ⟨rfl, HE.out _ rfl⟩
end
end Go.Proofs.Ytpaalhhadjihlaa

/- What is proved here: what the methods of package inq answer, and what becomes of the numbers. Condition: there are few. -/
import Derived.Test.YtbicoiciapngdaaMaps
import Derived.WalkSpells
import Derived.WalkLawsBesides
import Derived.IntWalk
import Derived.Lib.Hide
import Derived.RegionTactic
import Derived.BigRegion
import Derived.Deep.QuietTactic
import Derived.BigQuiet
namespace Go.Proofs.Ytbicoiciapngdaa
open Go.RowKit Go.Extern.Stop Go.Stop Go.Extern Go.Maps

theorem K3 : Keyed Try.prog 3 := int_keyed Try.underlying3
theorem z3 (w : World) : (zeroValue 3).run Try.prog w = .ok (.int .i64 0) w := by kernel_rfl

/-- What is kept of numbers that came in: at each one its QoS, 0: it is not there; how many there are. -/
abbrev Q25 := (Int → Int) × Nat
def take25 (most : Int) (s : Q25) (id qos : Int) : Int × Q25 :=
  if qos ≠ 1 ∧ qos ≠ 2 then (4, s) else if s.1 id ≠ 0 then (if s.1 id = 2 ∧ qos = 2 then (2, s) else (4, s)) else if most ≤ s.2 then (3, s) else (1, (fun y => if y = id then qos else s.1 y), s.2 + 1)
def done25 (s : Q25) (id : Int) : Bool × Q25 := if s.1 id ≠ 0 then (true, (fun y => if y = id then 0 else s.1 y), s.2 - 1) else (false, s)
def release25 (s : Q25) (id : Int) : Bool × Q25 := if s.1 id = 2 then done25 s id else (false, s)

/-- Block g is an In: room for so many, and what is kept. -/
structure IsIn (w : World) (B g : Nat) (most : Int) (s : Q25) : Prop where
  is : ∃ bm, Blk w g 80 #[.int .i64 most, .map (some bm)] ∧ IntMap Try.prog 3 3 w bm s.1 s.2 ∧ B ≤ bm
  few : s.2 ≤ 100000
theorem IsIn.lt {w : World} {B g : Nat} {most : Int} {s : Q25} (h : IsIn w B g most s) : g < w.heap.size := by
  obtain ⟨⟨bm, h1, _⟩, _⟩ := h
  exact h1.lt
theorem IsIn.then {w w' : World} {B g : Nat} {most : Int} {s : Q25} (h : IsIn w B g most s) (hf : Fr [] w w') : IsIn w' B g most s := by
  obtain ⟨⟨bm, h1, h2, h3⟩, h4⟩ := h
  exact ⟨⟨bm, h1.fr hf (by simp), h2.fr hf (by simp), h3⟩, h4⟩
/-- What a method leaves: the map alone has changed. -/
def InThen (w : World) (B g : Nat) (most : Int) (s : Q25) (v : Value) (e : Ending) (w' : World) : Prop :=
  e = .returned v ∧ IsIn w' B g most s ∧ ∃ bm, B ≤ bm ∧ (∀ x t cs, Blk w x t cs → x ≠ bm) ∧ Fr [bm] w w'
section
variable {w : World} {B g : Nat} {most : Int} {s : Q25}
theorem in_len (h : IsIn w B g most s) : Calls Try.prog 49 #[.pointer (some ⟨g, 0, none⟩)] w fun e w' => e = .returned (.int .i64 (s.2 : Nat)) ∧ w = w' := by
  obtain ⟨⟨bm, h1, h2, h3⟩, h4⟩ := h
  have c1 := h1.cell 1
  have hl := h2.len Try.underlying78 3
  go_enter Try.func49, Try.ntmps49
  go_wp2
  go_ret
  exact ⟨rfl, rfl⟩
theorem in_done (h : IsIn w B g most s) (id : Int) (hid : (Lit.int .i64 id).wf = true) :
    Calls Try.prog 50 #[.pointer (some ⟨g, 0, none⟩), .int .i64 id] w (InThen w B g most (done25 s id).2 (.bool (done25 s id).1)) := by
  obtain ⟨⟨bm, h1, h2, h3⟩, h4⟩ := h
  have c1 := h1.cell 1
  have hl := (h2.look K3 Try.underlying3 Try.underlying78 Try.underlying3 z3 hid).1
  obtain ⟨w1, hrun, hm, hg⟩ := h2.del K3 Try.underlying3 Try.underlying78 0 hid
  have hne := h2.ne h1
  have hbs : ∀ x t cs, Blk w x t cs → x ≠ bm := fun x t cs hb => h2.ne hb
  have HE := Lib.hid hbs
  have hb2 := h1.grown hg (by intro e; injection e with e; exact hne e)
  have HB2 := Lib.hid hb2
  have HM := Lib.hid hm
  have HG := Lib.hid hg
  have H4 := Lib.hid h4
  clear hm hg hb2 h1 h2 h4 hbs
  have hfr : Fr [bm] w w1 := (Fr.refl _ _).grown HG.out (fun k hk => by injection hk with hk; subst hk; exact .inl (by simp))
  have HFR := Lib.hid hfr
  clear hfr
  by_cases h0 : s.1 id = 0
  · have e : done25 s id = (false, s) := by unfold done25; rw [if_neg (by simp [h0])]
    rw [e]
    have HI : Hid (IsIn w1 B g most s) := by
      refine Lib.hid ⟨⟨bm, HB2.out, ?_, h3⟩, H4.out⟩
      have hh := HM.out
      have e2 : (fun y => if y = id then 0 else s.1 y) = s.1 := by funext y; by_cases e : y = id <;> simp [e, h0]
      rw [e2] at hh
      simpa [h0] using hh
    have hd : decide (s.1 id ≠ 0) = false := by simp [h0]
    rw [hd] at hl
    clear e h0 hd HM
    go_enter Try.func50, Try.ntmps50
    go_wp2
    go_ret
    exact ⟨rfl, HI.out, bm, h3, HE.out, HFR.out⟩
  · have e : done25 s id = (true, (fun y => if y = id then 0 else s.1 y), s.2 - 1) := by unfold done25; rw [if_pos h0]
    rw [e]
    have HI : Hid (IsIn w1 B g most ((fun y => if y = id then 0 else s.1 y), s.2 - 1)) := by
      refine Lib.hid ⟨⟨bm, HB2.out, ?_, h3⟩, by have := H4.out; show s.2 - 1 ≤ _; omega⟩
      have hh := HM.out
      simpa [h0] using hh
    have hd : decide (s.1 id ≠ 0) = true := by simp [h0]
    rw [hd] at hl
    clear e h0 hd HM
    go_enter Try.func50, Try.ntmps50
    go_wp2
    go_ret
    exact ⟨rfl, HI.out, bm, h3, HE.out, HFR.out⟩
theorem InThen.same {v : Value} (h : IsIn w B g most s) : InThen w B g most s v (.returned v) w := by
  obtain ⟨⟨bm, h1, h2, h3⟩, h4⟩ := id h
  exact ⟨rfl, h, bm, h3, fun x t cs hb => h2.ne hb, Fr.refl _ _⟩
theorem in_release (h : IsIn w B g most s) (id : Int) (hid : (Lit.int .i64 id).wf = true) :
    Calls Try.prog 52 #[.pointer (some ⟨g, 0, none⟩), .int .i64 id] w (InThen w B g most (release25 s id).2 (.bool (release25 s id).1)) := by
  have HD := Lib.hid (in_done h id hid)
  have HS := Lib.hid (fun v => InThen.same (v := v) h)
  obtain ⟨⟨bm, h1, h2, h3⟩, h4⟩ := h
  have c1 := h1.cell 1
  have hl := (h2.look K3 Try.underlying3 Try.underlying78 Try.underlying3 z3 hid).2
  clear h1 h2 h4
  by_cases h0 : s.1 id = 2
  · have e : release25 s id = done25 s id := by unfold release25; rw [if_pos h0]
    rw [e]
    rw [h0] at hl
    clear e h0
    generalize done25 s id = d at *
    obtain ⟨b, s'⟩ := d
    go_enter Try.func52, Try.ntmps52
    go_wp2_with fail
    refine (HD.out).mono ?_
    rintro e w1 ⟨rfl, hh⟩
    have HH := Lib.hid hh
    clear hh
    go_wp2
    go_ret
    exact ⟨rfl, HH.out⟩
  · have e : release25 s id = (false, s) := by unfold release25; rw [if_neg h0]
    rw [e]
    have hd : (s.1 id == 2) = false := beq_eq_false_iff_ne.2 h0
    clear e h0
    go_enter Try.func52, Try.ntmps52
    go_wp2_with fail
    go_ret
    exact HS.out _
theorem InThen.drawn {v : Value} (h : IsIn w B g most s) (n : Nat) : InThen w B g most s v (.returned v) (w.drewN n) := by
  obtain ⟨⟨bm, h1, h2, h3⟩, h4⟩ := id h
  exact ⟨rfl, h.then ((Fr.refl _ _).drewN n), bm, h3, fun x t cs hb => h2.ne hb, (Fr.refl _ _).drewN n⟩
theorem take_end {bm nq : Nat} {w1 : World} {s' : Q25} {v : Value} (h1 : Blk w g 80 #[.int .i64 most, .map (some bm)]) (hne : ∀ x t cs, Blk w x t cs → x ≠ bm) (hm : IntMap Try.prog 3 3 w1 bm s'.1 s'.2) (hg : (w.drewN nq).grownBy w1 (some bm)) (h3 : B ≤ bm) (hf : s'.2 ≤ 100000) :
    InThen w B g most s' v (.returned v) w1 := by
  have hfr : Fr [bm] w w1 := ((Fr.refl _ _).drewN nq).grown hg (fun k hk => by injection hk with hk; subst hk; exact .inl (by simp))
  have hgb := hne _ _ _ h1
  exact ⟨rfl, ⟨⟨bm, h1.fr hfr (by simpa using hgb), hm, h3⟩, hf⟩, bm, h3, hne, hfr⟩
theorem in_take (h : IsIn w B g most s) (hfew : s.2 ≤ 50000) (hm : ∀ x, s.1 x = 0 ∨ s.1 x = 1 ∨ s.1 x = 2) (id qos : Int) (hid : (Lit.int .i64 id).wf = true) :
    Calls Try.prog 51 #[.pointer (some ⟨g, 0, none⟩), .int .i64 id, .int .i64 qos] w (InThen w B g most (take25 most s id qos).2 (.int .i64 (take25 most s id qos).1)) := by
  have HS := Lib.hid (fun v => InThen.same (v := v) h)
  have HW := Lib.hid (fun v n => InThen.drawn (v := v) h n)
  obtain ⟨⟨bm, h1, h2, h3⟩, h4⟩ := h
  have c0 := h1.cell 0
  have c1 := h1.cell 1
  have hl := (h2.look K3 Try.underlying3 Try.underlying78 Try.underlying3 z3 hid).1
  have hlen : ∀ n, (Builtin.len_ #[78] 3 #[.map (some bm)]).run Try.prog (w.drewN n) = .ok (.int .i64 (s.2 : Nat)) (w.drewN n) := fun n => IntMap.len (h2.fr ((Fr.refl [] _).drewN n) (by simp)) Try.underlying78 3
  by_cases hq : qos ≠ 1 ∧ qos ≠ 2
  · have e : take25 most s id qos = (4, s) := by unfold take25; rw [if_pos hq]
    rw [e]
    have q1 : (qos != 1) = true := by rw [bne_iff_ne]; exact hq.1
    have q2 : (qos != 2) = true := by rw [bne_iff_ne]; exact hq.2
    clear e hq h1 h2 hl hlen
    go_enter Try.func51, Try.ntmps51
    go_wp2_with fail
    go_ret
    exact HS.out _
  · have hq' : qos = 1 ∨ qos = 2 := by omega
    by_cases h0 : s.1 id = 0
    · by_cases hf : most ≤ s.2
      · have e : take25 most s id qos = (3, s) := by unfold take25; rw [if_neg hq, if_neg (by simp [h0]), if_pos hf]
        rw [e]
        rw [h0] at hl
        clear e h1 h2 h0 hq
        rcases hq' with rfl | rfl
        all_goals
          go_enter Try.func51, Try.ntmps51
          go_wp2_with fail
          go_quiet (fail)
          go_wp2_with fail
          go_ret
          exact HW.out _ _
      · have hqw : (Lit.int .i64 qos).wf = true := by rcases hq' with rfl | rfl <;> decide
        have hq0 : qos ≠ 0 := by omega
        have e : take25 most s id qos = (1, (fun y => if y = id then qos else s.1 y), s.2 + 1) := by unfold take25; rw [if_neg hq, if_neg (by simp [h0]), if_neg hf]
        rw [e]
        rw [h0] at hl
        have HP := Lib.hid (fun nq => IntMap.put (h2.fr ((Fr.refl [] _).drewN nq) (by simp)) K3 Try.underlying3 Try.underlying78 Try.underlying3 (by unfold maxLen; omega) hid hqw hq0)
        have HN := Lib.hid (fun x t cs hb => h2.ne (g := x) (u := t) (cs := cs) hb)
        have H1 := Lib.hid h1
        have H0 := Lib.hid h0
        clear e h1 h2 h0 hq hqw hq0
        rcases hq' with rfl | rfl
        all_goals
          go_enter Try.func51, Try.ntmps51
          go_wp2_with fail
          go_quiet (fail)
          obtain ⟨w1, hrun, hm1, hg1⟩ := HP.out nq
          have HM1 := Lib.hid hm1
          have HG1 := Lib.hid hg1
          clear hm1 hg1
          go_wp2_with fail
          go_ret
          exact take_end H1.out HN.out (by have := H0.out; have hh := HM1.out; simpa [this] using hh) HG1.out h3 (by omega)
    · rw [show decide (s.1 id ≠ 0) = true by simp [h0]] at hl
      by_cases h22 : s.1 id = 2 ∧ qos = 2
      · have e : take25 most s id qos = (2, s) := by unfold take25; rw [if_neg hq, if_pos h0, if_pos h22]
        rw [e]
        obtain ⟨h2a, rfl⟩ := h22
        rw [h2a] at hl
        clear e h1 h2 h0 hq hq' h2a
        go_enter Try.func51, Try.ntmps51
        go_wp2_with fail
        go_ret
        exact HS.out _
      · have e : take25 most s id qos = (4, s) := by unfold take25; rw [if_neg hq, if_pos h0, if_neg h22]
        rw [e]
        have hx := hm id
        have hmx : s.1 id = 1 ∧ qos = 1 ∨ s.1 id = 1 ∧ qos = 2 ∨ s.1 id = 2 ∧ qos = 1 := by omega
        clear e h1 h2 h0 hq hq' h22 hm hx
        rcases hmx with ⟨ha, rfl⟩ | ⟨ha, rfl⟩ | ⟨ha, rfl⟩
        all_goals
          rw [ha] at hl
          clear ha
          go_enter Try.func51, Try.ntmps51
          go_wp2_with fail
          go_ret
          exact HS.out _
theorem in_new (n : Int) (w0 : World) (hb : Below w0.heap.size w0 w) : Calls Try.prog 44 #[.int .i64 n] w fun e w' => ∃ g, e = .returned (.pointer (some ⟨g, 0, none⟩)) ∧ w0.heap.size ≤ g ∧ IsIn w' w0.heap.size g n ((fun _ => 0), 0) ∧ Below w.heap.size w w' := by
  have hmm := @run_makeMap Try.prog
  have HS := Lib.hid hb.size
  go_enter Try.func44, Try.ntmps44
  go_wp2
  go_ret
  have hb1 := Blk.made (w.alloc (.map #[] 0)) 80 #[.int .i64 n, .map (some w.heap.size)]
  have e : (w.alloc (.map #[] 0)).heap.size = w.heap.size + 1 := by simp
  rw [e] at hb1
  exact ⟨w.heap.size + 1, rfl, by have := HS.out; omega, ⟨⟨w.heap.size, hb1, (IntMap.made w).fr ((Fr.refl [] _).alloc _) (by simp), HS.out⟩, Nat.zero_le _⟩, ((Below.refl _ _).alloc (Nat.le_refl _) _).alloc (by simp) _⟩
end
/-- All blocks of cells are as they were. -/
def Keeps (w w' : World) : Prop := ∀ x t cs, Blk w x t cs → Blk w' x t cs
theorem Keeps.trans {a b c : World} (h : Keeps a b) (k : Keeps b c) : Keeps a c := fun x t cs hb => k x t cs (h x t cs hb)
theorem Keeps.of_fr {a b : World} (h : Fr [] a b) : Keeps a b := fun _ _ _ hb => hb.fr h (by simp)
/-- An In of the call's own. -/
structure OwnIn (w0 w : World) (g : Nat) (most : Int) (s : Q25) : Prop where
  below : Below w0.heap.size w0 w
  at_ : w0.heap.size ≤ g
  is : IsIn w w0.heap.size g most s
  ok : ∀ x, s.1 x = 0 ∨ s.1 x = 1 ∨ s.1 x = 2
theorem take_ok {most : Int} {s : Q25} (h : ∀ x, s.1 x = 0 ∨ s.1 x = 1 ∨ s.1 x = 2) (id qos : Int) : (∀ x, (take25 most s id qos).2.1 x = 0 ∨ (take25 most s id qos).2.1 x = 1 ∨ (take25 most s id qos).2.1 x = 2) ∧ (take25 most s id qos).2.2 ≤ s.2 + 1 := by
  unfold take25
  split
  · exact ⟨h, Nat.le_succ _⟩
  · rename_i hq
    split
    · split <;> exact ⟨h, by simp⟩
    · split
      · exact ⟨h, by simp⟩
      · refine ⟨fun x => ?_, Nat.le_refl _⟩
        show (if x = id then qos else s.1 x) = 0 ∨ _
        show (if x = id then qos else s.1 x) = 0 ∨ (if x = id then qos else s.1 x) = 1 ∨ (if x = id then qos else s.1 x) = 2
        by_cases e : x = id
        · rw [if_pos e]; omega
        · rw [if_neg e]; exact h x
theorem done_ok {s : Q25} (h : ∀ x, s.1 x = 0 ∨ s.1 x = 1 ∨ s.1 x = 2) (id : Int) : (∀ x, (done25 s id).2.1 x = 0 ∨ (done25 s id).2.1 x = 1 ∨ (done25 s id).2.1 x = 2) ∧ (done25 s id).2.2 ≤ s.2 := by
  unfold done25
  split
  · refine ⟨fun x => ?_, by show s.2 - 1 ≤ s.2; omega⟩
    show (if x = id then 0 else s.1 x) = 0 ∨ (if x = id then 0 else s.1 x) = 1 ∨ (if x = id then 0 else s.1 x) = 2
    by_cases e : x = id
    · rw [if_pos e]; omega
    · rw [if_neg e]; exact h x
  · exact ⟨h, Nat.le_refl _⟩
theorem release_ok {s : Q25} (h : ∀ x, s.1 x = 0 ∨ s.1 x = 1 ∨ s.1 x = 2) (id : Int) : (∀ x, (release25 s id).2.1 x = 0 ∨ (release25 s id).2.1 x = 1 ∨ (release25 s id).2.1 x = 2) ∧ (release25 s id).2.2 ≤ s.2 := by
  unfold release25
  split
  · exact done_ok h id
  · exact ⟨h, Nat.le_refl _⟩
section
variable {w0 w : World} {g : Nat} {most : Int} {s : Q25}
theorem OwnIn.next {v : Value} {e : Ending} {w' : World} {s' : Q25} (h : OwnIn w0 w g most s) (hh : InThen w w0.heap.size g most s' v e w') (hs : ∀ x, s'.1 x = 0 ∨ s'.1 x = 1 ∨ s'.1 x = 2) : OwnIn w0 w' g most s' := by
  obtain ⟨_, h1, bm, h2, _, h4⟩ := hh
  exact ⟨h4.later h.below (by simpa using h2) h.below.size, h.at_, h1, hs⟩
theorem InThen.keeps {B : Nat} {v : Value} {e : Ending} {w' : World} (hh : InThen w B g most s v e w') : Keeps w w' := by
  obtain ⟨_, _, bm, _, h3, h4⟩ := hh
  exact fun x t cs hb => hb.fr h4 (by simpa using h3 x t cs hb)
theorem OwnIn.same (h : OwnIn w0 w g most s) {w' : World} (hf : Fr [] w w') : OwnIn w0 w' g most s := ⟨hf.later h.below (by simp) h.below.size, h.at_, h.is.then hf, h.ok⟩
theorem own_take (h : OwnIn w0 w g most s) (hfew : s.2 ≤ 50000) (id qos : Int) (hid : (Lit.int .i64 id).wf = true) :
    Calls Try.prog 51 #[.pointer (some ⟨g, 0, none⟩), .int .i64 id, .int .i64 qos] w fun e w' => e = .returned (.int .i64 (take25 most s id qos).1) ∧ OwnIn w0 w' g most (take25 most s id qos).2 ∧ Keeps w w' :=
  (in_take h.is hfew h.ok id qos hid).mono fun _ _ hh => ⟨hh.1, h.next hh (take_ok h.ok id qos).1, hh.keeps⟩
theorem own_done (h : OwnIn w0 w g most s) (id : Int) (hid : (Lit.int .i64 id).wf = true) :
    Calls Try.prog 50 #[.pointer (some ⟨g, 0, none⟩), .int .i64 id] w fun e w' => e = .returned (.bool (done25 s id).1) ∧ OwnIn w0 w' g most (done25 s id).2 ∧ Keeps w w' :=
  (in_done h.is id hid).mono fun _ _ hh => ⟨hh.1, h.next hh (done_ok h.ok id).1, hh.keeps⟩
theorem own_release (h : OwnIn w0 w g most s) (id : Int) (hid : (Lit.int .i64 id).wf = true) :
    Calls Try.prog 52 #[.pointer (some ⟨g, 0, none⟩), .int .i64 id] w fun e w' => e = .returned (.bool (release25 s id).1) ∧ OwnIn w0 w' g most (release25 s id).2 ∧ Keeps w w' :=
  (in_release h.is id hid).mono fun _ _ hh => ⟨hh.1, h.next hh (release_ok h.ok id).1, hh.keeps⟩
theorem own_len (h : OwnIn w0 w g most s) : Calls Try.prog 49 #[.pointer (some ⟨g, 0, none⟩)] w fun e w' => e = .returned (.int .i64 (s.2 : Nat)) ∧ w = w' := in_len h.is
theorem own_in_new (n : Int) (hb : Below w0.heap.size w0 w) : Calls Try.prog 44 #[.int .i64 n] w fun e w' => ∃ g, e = .returned (.pointer (some ⟨g, 0, none⟩)) ∧ OwnIn w0 w' g n ((fun _ => 0), 0) :=
  (in_new n w0 hb).mono fun _ _ ⟨g, h1, h2, h3, h4⟩ => ⟨g, h1, hb.trans (h4.mono hb.size), h2, h3, fun _ => .inl rfl⟩
/-- An act: its answers, and what is kept then. -/
def do25 (most : Int) (s : Q25) (kind id qos : Int) : Int × Bool × Q25 :=
  if kind = 1 then ((take25 most s id qos).1, false, (take25 most s id qos).2) else if kind = 2 then (0, (done25 s id).1, (done25 s id).2) else if kind = 3 then (0, (release25 s id).1, (release25 s id).2) else (0, false, s)
theorem own_do25 (h : OwnIn w0 w g most s) (hfew : s.2 ≤ 50000) (kind id qos : Int) (hid : (Lit.int .i64 id).wf = true) :
    Calls Try.prog 45 #[.pointer (some ⟨g, 0, none⟩), .agg #[.int .i64 kind, .int .i64 id, .int .i64 qos]] w fun e w' =>
      e = .returned (.tuple #[.int .i64 (do25 most s kind id qos).1, .bool (do25 most s kind id qos).2.1]) ∧ OwnIn w0 w' g most (do25 most s kind id qos).2.2 ∧ Keeps w w' := by
  have HK := Lib.hid (Keeps.of_fr ((Fr.refl [] w).alloc (.cells #[.int .i64 kind, .int .i64 id, .int .i64 qos] 83)))
  have h0 : OwnIn w0 (w.alloc (.cells #[.int .i64 kind, .int .i64 id, .int .i64 qos] 83)) g most s := h.same ((Fr.refl _ _).alloc _)
  by_cases h1 : kind = 1
  · subst h1
    have e : do25 most s 1 id qos = ((take25 most s id qos).1, false, (take25 most s id qos).2) := rfl
    rw [e]
    have HC := Lib.hid (own_take h0 hfew id qos hid)
    clear e h0 h
    generalize take25 most s id qos = r at *
    obtain ⟨a, s'⟩ := r
    go_enter Try.func45, Try.ntmps45
    go_wp2_with fail
    refine (HC.out).mono ?_
    rintro e w1 ⟨rfl, hh, hk⟩
    have HK2 := Lib.hid (HK.out.trans hk)
    have HH := Lib.hid hh
    clear hh hk
    go_wp2
    go_ret2
    exact ⟨rfl, HH.out, HK2.out⟩
  · have n1 : ((kind : Int) == 1) = false := beq_eq_false_iff_ne.2 h1
    by_cases h2 : kind = 2
    · subst h2
      have e : do25 most s 2 id qos = (0, (done25 s id).1, (done25 s id).2) := rfl
      rw [e]
      have HC := Lib.hid (own_done h0 id hid)
      clear e h0 h n1 h1
      generalize done25 s id = r at *
      obtain ⟨a, s'⟩ := r
      go_enter Try.func45, Try.ntmps45
      go_wp2_with fail
      refine (HC.out).mono ?_
      rintro e w1 ⟨rfl, hh, hk⟩
      have HK2 := Lib.hid (HK.out.trans hk)
      have HH := Lib.hid hh
      clear hh hk
      go_wp2
      go_ret2
      exact ⟨rfl, HH.out, HK2.out⟩
    · have n2 : ((kind : Int) == 2) = false := beq_eq_false_iff_ne.2 h2
      by_cases h3 : kind = 3
      · subst h3
        have e : do25 most s 3 id qos = (0, (release25 s id).1, (release25 s id).2) := rfl
        rw [e]
        have HC := Lib.hid (own_release h0 id hid)
        clear e h0 h n1 h1 n2 h2
        generalize release25 s id = r at *
        obtain ⟨a, s'⟩ := r
        go_enter Try.func45, Try.ntmps45
        go_wp2_with fail
        refine (HC.out).mono ?_
        rintro e w1 ⟨rfl, hh, hk⟩
        have HK2 := Lib.hid (HK.out.trans hk)
        have HH := Lib.hid hh
        clear hh hk
        go_wp2
        go_ret2
        exact ⟨rfl, HH.out, HK2.out⟩
      · have n3 : ((kind : Int) == 3) = false := beq_eq_false_iff_ne.2 h3
        have e : do25 most s kind id qos = (0, false, s) := by unfold do25; rw [if_neg h1, if_neg h2, if_neg h3]
        rw [e]
        have HC := Lib.hid h0
        clear e h0 h h1 h2 h3
        go_enter Try.func45, Try.ntmps45
        go_wp2
        go_ret2
        exact ⟨rfl, HC.out, HK.out⟩
end
end Go.Proofs.Ytbicoiciapngdaa

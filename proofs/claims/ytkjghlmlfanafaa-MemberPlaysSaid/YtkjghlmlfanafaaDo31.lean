/- What is proved here: any act on members does what a plain function says. Conditions: the members are there; few of them. -/
import Derived.Test.YtkjghlmlfanafaaDel31
namespace Go.Proofs.Ytkjghlmlfanafaa
open Go.RowKit Go.Extern.Stop Go.Stop Go.Extern
abbrev MSt := Bool × ML × Nat
def joinM (L : ML) (gen : Nat) (c : ByteArray) (q : Int) : MSt :=
  if idxM L c = -1 then (true, L ++ [MV.mk c ((gen : Int) + 1) q true], gen + 1) else (false, L.set (idxM L c).toNat (setQ (L.getD (idxM L c).toNat m0) q), gen)
def leaveM (L : ML) (gen : Nat) (c : ByteArray) : MSt :=
  if idxM L c = -1 then (false, L, gen) else (true, L.eraseIdx (idxM L c).toNat, gen + 1)
def onlineM (L : ML) (gen : Nat) (c : ByteArray) (b : Bool) : MSt :=
  if idxM L c = -1 then (false, L, gen) else if (L.getD (idxM L c).toNat m0).on = b then (false, L, gen) else (true, L.set (idxM L c).toNat (setOn (L.getD (idxM L c).toNat m0) b), gen + 1)
/-- What an act does. -/
def actM (k : Int) (c : ByteArray) (q : Int) (L : ML) (gen : Nat) : MSt :=
  if k = 1 then joinM L gen c q else if k = 2 then leaveM L gen c else if k = 3 ∨ k = 4 then onlineM L gen c (decide (k = 3)) else (false, L, gen)
/-- A call answers, and leaves, what a plain function says. -/
def Does (w : World) (B g : Nat) (v : Value) (r : MSt) (x : Ending) (w' : World) : Prop := x = .returned (.bool r.1) ∧ ∃ v', MStep w w' B g v v' r.2.1 r.2.2
section
variable {w w' w1 : World} {B g : Nat} {v : Value} {L : ML} {gen : Nat}
theorem join_does (h : MObj w B g v L gen) (hm : L.length ≤ 900) (hg : gen ≤ 1000000) (c : ByteArray) (q : Int) : Calls Try.prog 54 #[.pointer (some ⟨g, 0, none⟩), .string c, .int .i64 q] w (Does w B g v (joinM L gen c q)) := by
  refine (join_any h hm hg c q).mono fun x w1 hx => ?_
  unfold joinM Does
  rcases hx with ⟨i, h1, h2, rfl, h3⟩ | ⟨h1, rfl, v', h3⟩
  · rw [if_neg (by omega), h1]
    exact ⟨rfl, v, h3⟩
  · rw [if_pos h1]
    exact ⟨rfl, v', h3⟩
theorem leave_does (h : MObj w B g v L gen) (hm : L.length ≤ 900) (hg : gen ≤ 1000000) (c : ByteArray) : Calls Try.prog 56 #[.pointer (some ⟨g, 0, none⟩), .string c] w (Does w B g v (leaveM L gen c)) := by
  refine (leave_any h hm hg c).mono fun x w1 hx => ?_
  unfold leaveM Does
  rcases hx with ⟨i, h1, h2, rfl, v', h3⟩ | ⟨h1, rfl, h3⟩
  · rw [if_neg (by omega), h1]
    exact ⟨rfl, v', h3⟩
  · rw [if_pos h1]
    exact ⟨rfl, v, h3⟩
theorem online_does (h : MObj w B g v L gen) (hm : L.length ≤ 900) (hg : gen ≤ 1000000) (c : ByteArray) (b : Bool) : Calls Try.prog 55 #[.pointer (some ⟨g, 0, none⟩), .string c, .bool b] w (Does w B g v (onlineM L gen c b)) := by
  refine (online_any h hm hg c b).mono fun x w1 hx => ?_
  unfold onlineM Does
  rcases hx with ⟨i, h1, h2, h3⟩ | ⟨h1, rfl, h3⟩
  · rw [if_neg (by omega), h1, Int.toNat_natCast]
    rcases h3 with ⟨h4, rfl, h5⟩ | ⟨h4, rfl, h5⟩
    · rw [if_pos h4]
      exact ⟨rfl, v, h5⟩
    · rw [if_neg h4]
      exact ⟨rfl, v, h5⟩
  · rw [if_pos h1]
    exact ⟨rfl, v, h3⟩
theorem Does.pre {r : MSt} {x : Ending} (h : Does w1 B g v r x w') (hb : Below w.heap.size w w1) : Does w B g v r x w' := by
  obtain ⟨e, v', h1, h2, h3⟩ := h
  refine ⟨e, v', h1, (Fr.of_below hb).trans h2 (fun k hk _ => hk), fun k hk => ?_⟩
  rcases h3 k hk with h | h
  · exact .inl h
  · exact .inr (Nat.le_trans hb.size h)
theorem do_any (h : MObj w B g v L gen) (hm : L.length ≤ 900) (hg : gen ≤ 1000000) (k : Int) (c : ByteArray) (q : Int) : Calls Try.prog 15 #[.pointer (some ⟨g, 0, none⟩), .agg #[.int .i64 k, .string c, .int .i64 q]] w (Does w B g v (actM k c q L gen)) := by
  have hb0 : Below w.heap.size w (w.alloc (.cells #[.int .i64 k, .string c, .int .i64 q] 34)) := (Below.refl _ _).alloc (Nat.le_refl _) _
  have h2 := h.below hb0
  have HB := Lib.hid hb0
  have HJ := Lib.hid ((join_does h2 hm hg c q).mono fun _ _ h => h.pre HB.out)
  have HL := Lib.hid ((leave_does h2 hm hg c).mono fun _ _ h => h.pre HB.out)
  have HO := Lib.hid (fun b => (online_does h2 hm hg c b).mono fun _ _ h => h.pre HB.out)
  have HS := Lib.hid (h.step hb0)
  clear h h2 hb0
  unfold actM
  by_cases k1 : k = 1
  · subst k1
    rw [if_pos rfl]
    go_enter Try.func15, Try.ntmps15
    go_wp2_with fail
    refine HJ.out.mono ?_
    rintro x w1 ⟨rfl, hx⟩
    have HX := Lib.hid hx
    clear hx
    go_wp2_with fail
    go_ret
    exact ⟨rfl, HX.out⟩
  · rw [if_neg k1]
    have b1 : (k == 1) = false := beq_eq_false_iff_ne.2 k1
    by_cases k2 : k = 2
    · subst k2
      rw [if_pos rfl]
      clear k1 b1
      go_enter Try.func15, Try.ntmps15
      go_wp2_with fail
      refine HL.out.mono ?_
      rintro x w1 ⟨rfl, hx⟩
      have HX := Lib.hid hx
      clear hx
      go_wp2_with fail
      go_ret
      exact ⟨rfl, HX.out⟩
    · rw [if_neg k2]
      have b2 : (k == 2) = false := beq_eq_false_iff_ne.2 k2
      by_cases k3 : k = 3
      · subst k3
        rw [if_pos (.inl rfl), decide_eq_true (rfl : (3 : Int) = 3)]
        clear k1 k2 b1 b2
        have HO1 := Lib.hid (HO.out true)
        go_enter Try.func15, Try.ntmps15
        go_wp2_with fail
        refine HO1.out.mono ?_
        rintro x w1 ⟨rfl, hx⟩
        have HX := Lib.hid hx
        clear hx
        go_wp2_with fail
        go_ret
        exact ⟨rfl, HX.out⟩
      · by_cases k4 : k = 4
        · subst k4
          rw [if_pos (.inr rfl), decide_eq_false (show ¬ (4 : Int) = 3 by decide)]
          clear k1 k2 k3 b1 b2
          have HO1 := Lib.hid (HO.out false)
          go_enter Try.func15, Try.ntmps15
          go_wp2_with fail
          refine HO1.out.mono ?_
          rintro x w1 ⟨rfl, hx⟩
          have HX := Lib.hid hx
          clear hx
          go_wp2_with fail
          go_ret
          exact ⟨rfl, HX.out⟩
        · rw [if_neg (by rintro (h | h); exact k3 h; exact k4 h)]
          have b3 : (k == 3) = false := beq_eq_false_iff_ne.2 k3
          have b4 : (k == 4) = false := beq_eq_false_iff_ne.2 k4
          clear k1 k2 k3 k4
          go_enter Try.func15, Try.ntmps15
          go_wp2_with fail
          go_ret
          exact ⟨rfl, v, HS.out⟩
end
end Go.Proofs.Ytkjghlmlfanafaa

/- What is proved here: what an act does to a disk, of the landed code. Conditions: few bytes. -/
import Derived.Test.YtbicoiciapngdaaDisk21
namespace Go.Proofs.Ytbicoiciapngdaa
open Go.RowKit Go.Extern.Stop Go.Stop Go.Extern

/-- An act: what it answers, and the bytes and how many are sure behind it. -/
def dstep (room : Nat) (kind : Int) (s : List UInt8) (k : Int) (l : List UInt8) (sure : Nat) : Bool × List UInt8 × Nat :=
  if kind = 1 then (if l.length + s.length ≤ room then (true, l ++ s, sure) else (false, l, sure))
  else if kind = 2 then (false, l, l.length)
  else if kind = 3 then (false, l.take (sure + min k.toNat (l.length - sure)), sure + min k.toNat (l.length - sure))
  else if kind = 4 then (if s.length ≤ room then (true, s, s.length) else (false, l, sure))
  else (false, l, sure)
section
variable {w : World} {B g : Nat} {o : Option Nat} {l : List UInt8} {sure room : Nat}
theorem DiskThen.after {W : World} {l' : List UInt8} {sure' room' : Nat} {v' : Value} {w' : World} (h : Fr (g :: o.toList) W w' ∧ ∃ o', IsDisk w' B g o' l' sure' room' ∧ Own W w' o o') (hf : Fr [] w W) : DiskThen w B g o l' sure' room' v' (.returned v') w' := by
  obtain ⟨h2, o', h3, h4⟩ := h
  refine ⟨rfl, (hf.mono (by simp)).trans h2 (fun b hb _ => hb), o', h3, ?_⟩
  rcases h4 with h4 | ⟨k, h4, h5, h6⟩
  · exact .inl h4
  · exact .inr ⟨k, h4, Nat.le_trans hf.size h5, h6⟩
theorem do_any (h : IsDisk w B g o l sure room) (hB : B ≤ w.heap.size) (kind k : Int) (s : ByteArray) (hk : -9223372036854775808 ≤ k ∧ k ≤ 9223372036854775807) (hz : l.length + s.size ≤ 1000000) :
    Calls Try.prog 23 #[.pointer (some ⟨g, 0, none⟩), .agg #[.int .i64 kind, .string s, .int .i64 k]] w
      (DiskThen w B g o (dstep room kind s.data.toList k l sure).2.1 (dstep room kind s.data.toList k l sure).2.2 room (.bool (dstep room kind s.data.toList k l sure).1)) := by
  have hsb := size_bytes s
  have hf0 : Fr [] w (w.alloc (.cells #[.int .i64 kind, .string s, .int .i64 k] 42)) := (Fr.refl _ _).alloc _
  have hd0 := h.then hf0
  have hB0 : B ≤ (w.alloc (.cells #[.int .i64 kind, .string s, .int .i64 k] 42)).heap.size := by have := hf0.size; omega
  by_cases h1 : kind = 1
  · subst h1
    by_cases hr : l.length + s.size ≤ room
    · have e : dstep room 1 s.data.toList k l sure = (true, l ++ s.data.toList, sure) := by unfold dstep; rw [if_pos rfl, if_pos (by omega)]
      rw [e]
      have HC := Lib.hid (disk_append hd0 hB0 s hr hz)
      have HF := Lib.hid hf0
      clear e hd0 hf0 hB0 h hsb
      go_enter Try.func23, Try.ntmps23
      go_wp2_with fail
      refine (HC.out).mono ?_
      rintro e w1 ⟨rfl, hh⟩
      have HH := Lib.hid hh
      clear hh
      go_wp2
      go_ret
      exact DiskThen.after HH.out HF.out
    · have e : dstep room 1 s.data.toList k l sure = (false, l, sure) := by unfold dstep; rw [if_pos rfl, if_neg (by omega)]
      rw [e]
      have HC := Lib.hid (disk_append_no hd0 s (by omega) (by omega))
      have HF := Lib.hid hf0
      clear e hd0 hf0 hB0 h hsb
      go_enter Try.func23, Try.ntmps23
      go_wp2_with fail
      refine (HC.out).mono ?_
      rintro e w1 ⟨rfl, hh⟩
      have HH := Lib.hid hh
      clear hh
      go_wp2
      go_ret
      exact DiskThen.after HH.out HF.out
  · have n1 : ((kind : Int) == 1) = false := beq_eq_false_iff_ne.2 h1
    by_cases h2 : kind = 2
    · subst h2
      have e : dstep room 2 s.data.toList k l sure = (false, l, l.length) := by unfold dstep; rw [if_neg (by decide), if_pos rfl]
      rw [e]
      have HC := Lib.hid (disk_sync hd0)
      have HF := Lib.hid hf0
      clear e hd0 hf0 hB0 h hsb n1 h1
      go_enter Try.func23, Try.ntmps23
      go_wp2_with fail
      refine (HC.out).mono ?_
      rintro e w1 ⟨rfl, hh⟩
      have HH := Lib.hid hh
      clear hh
      go_wp2
      go_ret
      exact DiskThen.after HH.out HF.out
    · have n2 : ((kind : Int) == 2) = false := beq_eq_false_iff_ne.2 h2
      by_cases h3 : kind = 3
      · subst h3
        have e : dstep room 3 s.data.toList k l sure = (false, l.take (sure + min k.toNat (l.length - sure)), sure + min k.toNat (l.length - sure)) := by unfold dstep; rw [if_neg (by decide), if_neg (by decide), if_pos rfl]
        rw [e]
        have HC := Lib.hid (disk_crash hd0 k hk (by omega))
        have HF := Lib.hid hf0
        clear e hd0 hf0 hB0 h hsb n1 h1 n2 h2
        generalize l.take (sure + min k.toNat (l.length - sure)) = l' at *
        generalize sure + min k.toNat (l.length - sure) = sure' at *
        go_enter Try.func23, Try.ntmps23
        go_wp2_with fail
        refine (HC.out).mono ?_
        rintro e w1 ⟨rfl, hh⟩
        have HH := Lib.hid hh
        clear hh
        go_wp2
        go_ret
        exact DiskThen.after HH.out HF.out
      · have n3 : ((kind : Int) == 3) = false := beq_eq_false_iff_ne.2 h3
        by_cases h4 : kind = 4
        · subst h4
          by_cases hr : s.size ≤ room
          · have e : dstep room 4 s.data.toList k l sure = (true, s.data.toList, s.size) := by unfold dstep; rw [if_neg (by decide), if_neg (by decide), if_neg (by decide), if_pos rfl, if_pos (by omega), hsb]
            rw [e]
            have HC := Lib.hid (disk_swap hd0 hB0 s hr (by omega))
            have HF := Lib.hid hf0
            clear e hd0 hf0 hB0 h hsb n1 h1 n2 h2 n3 h3
            go_enter Try.func23, Try.ntmps23
            go_wp2_with fail
            refine (HC.out).mono ?_
            rintro e w1 ⟨rfl, hh⟩
            have HH := Lib.hid hh
            clear hh
            go_wp2
            go_ret
            exact DiskThen.after HH.out HF.out
          · have e : dstep room 4 s.data.toList k l sure = (false, l, sure) := by unfold dstep; rw [if_neg (by decide), if_neg (by decide), if_neg (by decide), if_pos rfl, if_neg (by omega)]
            rw [e]
            have HC := Lib.hid (disk_swap_no hd0 s (by omega) (by omega))
            have HF := Lib.hid hf0
            clear e hd0 hf0 hB0 h hsb n1 h1 n2 h2 n3 h3
            go_enter Try.func23, Try.ntmps23
            go_wp2_with fail
            refine (HC.out).mono ?_
            rintro e w1 ⟨rfl, hh⟩
            have HH := Lib.hid hh
            clear hh
            go_wp2
            go_ret
            exact DiskThen.after HH.out HF.out
        · have n4 : ((kind : Int) == 4) = false := beq_eq_false_iff_ne.2 h4
          have e : dstep room kind s.data.toList k l sure = (false, l, sure) := by unfold dstep; rw [if_neg h1, if_neg h2, if_neg h3, if_neg h4]
          rw [e]
          have HD := Lib.hid hd0
          have HF := Lib.hid hf0
          clear e hd0 hf0 hB0 h hsb h1 h2 h3 h4
          go_enter Try.func23, Try.ntmps23
          go_wp2
          go_ret
          exact ⟨rfl, HF.out.mono (by simp), o, HD.out, .inl rfl⟩
end
end Go.Proofs.Ytbicoiciapngdaa

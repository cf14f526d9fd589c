/- What is proved here: the statement FaultDeeper answers true at every number, reason and list of numbers. Condition: the package's errors are seven different errors of errors.New, and errors.errorType holds the handle of the type error. -/
import Derived.Test.YtekjdmmoongaaaaDoorOthers
import Derived.LoopTactic
namespace Go.Proofs.YtekjdmmoongaaaaDoor
open Go.RowKit Go.Extern.Stop Go.Stop Go.Extern

/-- The kind of a number. -/
def KindSays (n : Int) (e : Value) (w : World) : Prop := Calls Tryd.prog 6 #[.int .i64 n] w fun x w' => x = .returned e ∧ w = w'
theorem kind_0 (S : Nat → Addr) (w : World) (h : Env w S) : KindSays 1 (.iface 64 (.pointer (some (S 0)))) w := by
  have h1 := h.kind 0 (by omega)
  unfold KindSays
  go_enter Tryd.func6, Tryd.ntmps6
  go_wp2
  go_ret
  exact ⟨rfl, rfl⟩
theorem kind_1 (S : Nat → Addr) (w : World) (h : Env w S) : KindSays 2 (.iface 64 (.pointer (some (S 1)))) w := by
  have h1 := h.kind 1 (by omega)
  unfold KindSays
  go_enter Tryd.func6, Tryd.ntmps6
  go_wp2
  go_ret
  exact ⟨rfl, rfl⟩
theorem kind_2 (S : Nat → Addr) (w : World) (h : Env w S) : KindSays 3 (.iface 64 (.pointer (some (S 2)))) w := by
  have h1 := h.kind 2 (by omega)
  unfold KindSays
  go_enter Tryd.func6, Tryd.ntmps6
  go_wp2
  go_ret
  exact ⟨rfl, rfl⟩
theorem kind_3 (S : Nat → Addr) (w : World) (h : Env w S) : KindSays 4 (.iface 64 (.pointer (some (S 3)))) w := by
  have h1 := h.kind 3 (by omega)
  unfold KindSays
  go_enter Tryd.func6, Tryd.ntmps6
  go_wp2
  go_ret
  exact ⟨rfl, rfl⟩
theorem kind_4 (S : Nat → Addr) (w : World) (h : Env w S) : KindSays 5 (.iface 64 (.pointer (some (S 4)))) w := by
  have h1 := h.kind 4 (by omega)
  unfold KindSays
  go_enter Tryd.func6, Tryd.ntmps6
  go_wp2
  go_ret
  exact ⟨rfl, rfl⟩
theorem kind_5 (S : Nat → Addr) (w : World) (h : Env w S) : KindSays 6 (.iface 64 (.pointer (some (S 5)))) w := by
  have h1 := h.kind 5 (by omega)
  unfold KindSays
  go_enter Tryd.func6, Tryd.ntmps6
  go_wp2
  go_ret
  exact ⟨rfl, rfl⟩
theorem kind_6 (S : Nat → Addr) (w : World) (h : Env w S) : KindSays 7 (.iface 64 (.pointer (some (S 6)))) w := by
  have h1 := h.kind 6 (by omega)
  unfold KindSays
  go_enter Tryd.func6, Tryd.ntmps6
  go_wp2
  go_ret
  exact ⟨rfl, rfl⟩
theorem kind_none (n : Int) (w : World) (h : n < 1 ∨ 7 < n) : KindSays n .nilIface w := by
  have h1 : (n == 1) = false := beq_eq_false_iff_ne.2 (by omega)
  have h2 : (n == 2) = false := beq_eq_false_iff_ne.2 (by omega)
  have h3 : (n == 3) = false := beq_eq_false_iff_ne.2 (by omega)
  have h4 : (n == 4) = false := beq_eq_false_iff_ne.2 (by omega)
  have h5 : (n == 5) = false := beq_eq_false_iff_ne.2 (by omega)
  have h6 : (n == 6) = false := beq_eq_false_iff_ne.2 (by omega)
  have h7 : (n == 7) = false := beq_eq_false_iff_ne.2 (by omega)
  clear h
  unfold KindSays
  go_enter Tryd.func6, Tryd.ntmps6
  go_wp2
  go_ret
  exact ⟨rfl, rfl⟩
theorem kind_some (n : Int) (S : Nat → Addr) (w : World) (h : Env w S) (h1 : 1 ≤ n) (h7 : n ≤ 7) : ∃ i, i < 7 ∧ n = (i + 1 : Nat) ∧ KindSays n (.iface 64 (.pointer (some (S i)))) w := by
  rcases (show n = 1 ∨ n = 2 ∨ n = 3 ∨ n = 4 ∨ n = 5 ∨ n = 6 ∨ n = 7 by omega) with rfl | rfl | rfl | rfl | rfl | rfl | rfl
  · exact ⟨0, by omega, rfl, kind_0 S w h⟩
  · exact ⟨1, by omega, rfl, kind_1 S w h⟩
  · exact ⟨2, by omega, rfl, kind_2 S w h⟩
  · exact ⟨3, by omega, rfl, kind_3 S w h⟩
  · exact ⟨4, by omega, rfl, kind_4 S w h⟩
  · exact ⟨5, by omega, rfl, kind_5 S w h⟩
  · exact ⟨6, by omega, rfl, kind_6 S w h⟩

/-- No kind, or too many numbers. -/
theorem deeper_out1 (n r : Int) (a : Option Addr) (len cap : Nat) (S : Nat → Addr) (w : World) (h : Env w S) (hk : KindSays n .nilIface w) :
    Calls Tryd.prog 4 #[.int .i64 n, .int .i64 r, .slice a len cap] w fun x w' => x = .returned (.bool true) ∧ Below w.heap.size w w' := by
  go_enter Tryd.func4, Tryd.ntmps4
  go_wp2_with fail
  refine Calls.mono hk ?_
  rintro x w' ⟨rfl, rfl⟩
  go_wp2_with fail
  refine (awake_any S _ h).mono ?_
  rintro x w' ⟨rfl, hb⟩
  go_wp2
  go_ret
  exact ⟨rfl, hb⟩
theorem deeper_out2 (n r : Int) (a : Option Addr) (len cap : Nat) (t : TypeId) (v : Value) (S : Nat → Addr) (w : World) (h : Env w S) (hk : KindSays n (.iface t v) w) (hl : 20 < len) (hm : len ≤ 9223372036854775807) :
    Calls Tryd.prog 4 #[.int .i64 n, .int .i64 r, .slice a len cap] w fun x w' => x = .returned (.bool true) ∧ Below w.heap.size w w' := by
  go_enter Tryd.func4, Tryd.ntmps4
  go_wp2_with fail
  refine Calls.mono hk ?_
  rintro x w' ⟨rfl, rfl⟩
  go_wp2_with fail
  refine (awake_any S _ h).mono ?_
  rintro x w' ⟨rfl, hb⟩
  go_wp2
  go_ret
  exact ⟨rfl, hb⟩

/-- What holds at the head of each round. -/
def DeepRel (w : World) (S : Nat → Addr) (i : Nat) (r : Int) (len : Nat) (e at_ k : Value) (wr : World) : Prop :=
  ∃ (j : Nat) (c : Int) (l : List (Int × Int)), j ≤ len ∧ k = .int .i64 j ∧ at_ = .int .i64 c ∧ Chain wr (.iface 64 (.pointer (some (S i)))) wr.heap.size ((r, c) :: l) e ∧ Below w.heap.size w wr ∧ Env wr S

set_option maxHeartbeats 2000000 in
theorem deeper_in (n r : Int) (b off len cap : Nat) (zs : List Int) (i : Nat) (hi : i < 7) (S : Nat → Addr) (w : World) (h : Env w S) (hn : n = (i + 1 : Nat)) (hk : KindSays n (.iface 64 (.pointer (some (S i)))) w) (hl : len ≤ 20)
    (hz : ∀ j, j < len → w.cell? ⟨b, off + j, none⟩ = some (.int .i64 (zs.getD j 0))) :
    Calls Tryd.prog 4 #[.int .i64 n, .int .i64 r, .slice (some ⟨b, off, none⟩) len cap] w fun x w' => x = .returned (.bool true) ∧ Below w.heap.size w w' := by
  have HN := Lib.hid hn
  have HZ := Lib.hid hz
  clear hn hz
  have hd : decide (20 < (len : Int)) = false := decide_eq_false (by omega)
  go_enter Tryd.func4, Tryd.ntmps4
  go_wp2_with fail
  refine Calls.mono hk ?_
  rintro x w' ⟨rfl, rfl⟩
  go_wp2_with fail
  refine (new_chain (S := S) i r 0).mono ?_
  rintro x w1 ⟨e1, rfl, hc1, hb1⟩
  have HC1 := Lib.hid hc1
  have HB1 := Lib.hid hb1
  have HE1 := Lib.hid (h.later hb1)
  clear hc1 hb1 hk
  go_wp2
  go_loopw [8, 9, 10] (fun e c k wr => DeepRel w S i r len e c k wr) (fun _ _ k _ => len - (intOf k).toNat)
  case atStart => exact ⟨0, 0, [], Nat.zero_le _, rfl, rfl, HC1.out, HB1.out, HE1.out⟩
  case round =>
    obtain ⟨j, c, l, hj, rfl, rfl, hc0, hb0, he0⟩ := hrel
    have HC0 := Lib.hid hc0
    have HB0 := Lib.hid hb0
    have HE0 := Lib.hid he0
    clear hc0 hb0 he0 HC1 HB1 HE1 h
    by_cases hlt : j < len
    · have hcell : wr.cell? ⟨b, off + j, none⟩ = some (.int .i64 (zs.getD j 0)) := by
        have hx := HZ.out j hlt
        rw [HB0.out.cell (p := ⟨b, off + j, none⟩) (lt_of_cell hx)]; exact hx
      generalize zs.getD j 0 = z at hcell
      go_wp2_with fail
      refine (deeper_fault HE0.out.handle HC0.out z).mono ?_
      rintro x w2 ⟨e2, rfl, hc2, hb2⟩
      have hcell2 : w2.cell? ⟨b, off + j, none⟩ = some (.int .i64 z) := by
        rw [hb2.cell (p := ⟨b, off + j, none⟩) (lt_of_cell hcell)]; exact hcell
      have HB2 := Lib.hid (HB0.out.trans (hb2.mono HB0.out.size))
      have HE2 := Lib.hid (HE0.out.later hb2)
      generalize hf : further c z = c2 at hc2
      have HF := Lib.hid hf
      have HC2 := Lib.hid hc2
      clear hf hc2 hb2 hcell
      go_wp2_with fail
      refine (further_in c z c2 _ HF.out.symm).mono ?_
      rintro x w' ⟨rfl, rfl⟩
      obtain ⟨t2, v2, he2⟩ := HC2.out.iface
      subst he2
      go_wp2_with fail
      refine (is_self _ _ _ _ _ HC2.out).mono ?_
      rintro x w' ⟨rfl, rfl⟩
      go_wp2_with fail
      refine (reason_chain HE2.out.handle HC2.out).mono ?_
      rintro x w3 ⟨rfl, hb⟩
      have HC3 := Lib.hid ((HC2.out.later hb (Nat.le_refl _)).mono hb.size)
      have HB3 := Lib.hid (HB2.out.trans (hb.mono HB2.out.size))
      have HE3 := Lib.hid (HE2.out.later hb)
      clear hb
      go_wp2_with fail
      refine (at_chain HE3.out.handle HC3.out).mono ?_
      rintro x w4 ⟨rfl, hb⟩
      have HC4 := Lib.hid ((HC3.out.later hb (Nat.le_refl _)).mono hb.size)
      have HB4 := Lib.hid (HB3.out.trans (hb.mono HB3.out.size))
      have HE4 := Lib.hid (HE3.out.later hb)
      clear hb
      go_wp2_with fail
      refine (number_kind HE4.out i hi HC4.out).mono ?_
      rintro x w5 ⟨rfl, hb⟩
      have HC5 := Lib.hid ((HC4.out.later hb (Nat.le_refl _)).mono hb.size)
      have HB5 := Lib.hid (HB4.out.trans (hb.mono HB4.out.size))
      have HE5 := Lib.hid (HE4.out.later hb)
      clear hb
      rw [← HN.out]
      go_wp2
      go_roundw
      case rel => exact ⟨j + 1, c2, (r, c) :: l, by omega, by go_num, rfl, HC5.out, HB5.out, HE5.out⟩
      case measure => simp [intOf]; omega
    · go_wp2_with fail
      refine (awake_any S _ HE0.out).mono ?_
      rintro x w2 ⟨rfl, hb2⟩
      have HB2 := Lib.hid (HB0.out.trans (hb2.mono HB0.out.size))
      clear hb2
      go_wp2
      go_ret
      exact ⟨rfl, HB2.out⟩

theorem deeper_empty (n r : Int) (a : Option Addr) (cap : Nat) (i : Nat) (S : Nat → Addr) (w : World) (h : Env w S) (hk : KindSays n (.iface 64 (.pointer (some (S i)))) w) :
    Calls Tryd.prog 4 #[.int .i64 n, .int .i64 r, .slice a 0 cap] w fun x w' => x = .returned (.bool true) ∧ Below w.heap.size w w' := by
  go_enter Tryd.func4, Tryd.ntmps4
  go_wp2_with fail
  refine Calls.mono hk ?_
  rintro x w' ⟨rfl, rfl⟩
  go_wp2_with fail
  refine (new_chain (S := S) i r 0).mono ?_
  rintro x w1 ⟨e1, rfl, hc1, hb1⟩
  have HB1 := Lib.hid hb1
  have HE1 := Lib.hid (h.later hb1)
  clear hc1 hb1 hk
  go_wp2
  refine wp_loop_rounds 1 ?_
  rw [rounds_succ]
  go_wp2_with fail
  refine (awake_any S _ HE1.out).mono ?_
  rintro x w2 ⟨rfl, hb2⟩
  have HB2 := Lib.hid (HB1.out.trans (hb2.mono HB1.out.size))
  clear hb2
  go_wp2
  go_ret
  exact ⟨rfl, HB2.out⟩
end Go.Proofs.YtekjdmmoongaaaaDoor

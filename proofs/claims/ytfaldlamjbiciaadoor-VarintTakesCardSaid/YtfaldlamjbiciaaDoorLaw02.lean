/- What is proved here: the statements of layer 2 answer true, if the package's three functions answer what plain functions on lists say. Conditions: that, and what the rows list of the package's variables. -/
import Derived.Test.YtfaldlamjbiciaaDoorTake02
namespace Go.Proofs.YtfaldlamjbiciaaDoor
open Go.RowKit Go.Extern.Stop Go.Stop Go.Extern

/-- What the package's three functions answer. -/
structure VarintSays : Prop where
  put_in : ∀ (S : Nat → Addr) (n : Nat) (w : World), Env w S → n ≤ 268435455 → Calls Tryd.prog 11 #[.int .i64 n] w fun x w' => x = .returned (.tuple #[.string ⟨(vb n).toArray⟩, .nilIface]) ∧ Below w.heap.size w w'
  put_out : ∀ (S : Nat → Addr) (n : Int) (w : World), Env w S → n < 0 ∨ 268435455 < n → Calls Tryd.prog 11 #[.int .i64 n] w fun x w' => ∃ e, x = .returned (.tuple #[.string ⟨#[]⟩, e]) ∧ ErrIs w' S 3 129 0 e ∧ Below w.heap.size w w'
  size_in : ∀ (n : Nat) (w : World), n ≤ 268435455 → Calls Tryd.prog 16 #[.int .i64 n] w fun x w' => x = .returned (.int .i64 (vb n).length) ∧ Below w.heap.size w w'
  size_out : ∀ (n : Int) (w : World), n < 0 ∨ 268435455 < n → Calls Tryd.prog 16 #[.int .i64 n] w fun x w' => x = .returned (.int .i64 0) ∧ Below w.heap.size w w'
  take : ∀ (S : Nat → Addr) (s : ByteArray) (w : World) (n k no at_ : Nat), Env w S → s.size ≤ 1000 → vt s 4 0 0 1 = (n, k, no, at_) → Calls Tryd.prog 18 #[.string s] w fun x w' => ∃ e, x = .returned (.tuple #[.int .i64 n, .int .i64 k, e]) ∧ ErrOf w' S 129 no at_ e ∧ Below w.heap.size w w'

theorem vb_321 : vb 321 = [193, 2] := by rw [vb_big (by omega), vb_small (by omega)]; rfl
theorem vb_128 : vb 128 = [128, 1] := by rw [vb_big (by omega), vb_small (by omega)]; rfl

set_option maxHeartbeats 1000000 in
theorem awake02 (V : VarintSays) (S : Nat → Addr) (w : World) (h : Env w S) :
    Calls Tryd.prog 17 #[] w fun x w' => x = .returned (.bool true) ∧ Below w.heap.size w w' := by
  go_enter Tryd.func17, Tryd.ntmps17
  go_wp2_with fail
  refine (V.put_in S 321 _ h (by omega)).mono ?_
  rintro x w1 ⟨rfl, hb1⟩
  rw [vb_321]
  have HE1 := Lib.hid (h.later hb1)
  have HB1 := Lib.hid hb1
  clear hb1
  go_wp2_with fail
  refine (V.take S _ _ 321 2 0 0 HE1.out (by decide) (by decide)).mono ?_
  rintro x w2 ⟨e2, rfl, he2, hb⟩
  obtain rfl : e2 = .nilIface := he2
  have HE2 := Lib.hid (HE1.out.later hb)
  have HB2 := Lib.hid (HB1.out.trans (hb.mono HB1.out.size))
  clear hb
  go_wp2_with fail
  refine (V.take S _ _ 0 0 2 1 HE2.out (by decide) (by decide)).mono ?_
  rintro x w3 ⟨e3, rfl, he3, hb⟩
  have HX3 := Lib.hid he3
  have HE3 := Lib.hid (HE2.out.later hb)
  have HB3 := Lib.hid (HB2.out.trans (hb.mono HB2.out.size))
  clear hb he3
  go_wp2_with fail
  refine (number_of HE3.out HX3.out).mono ?_
  rintro x w4 ⟨rfl, hb⟩
  have HX4 := Lib.hid (HX3.out.later hb)
  have HE4 := Lib.hid (HE3.out.later hb)
  have HB4 := Lib.hid (HB3.out.trans (hb.mono HB3.out.size))
  clear hb
  go_wp2_with fail
  have hx : ErrIs w4 S 1 129 1 e3 := HX4.out.2
  refine (at_err HE4.out hx).mono ?_
  rintro x w5 ⟨rfl, hb⟩
  have HB5 := Lib.hid (HB4.out.trans (hb.mono HB4.out.size))
  clear hb hx
  go_wp2_with fail
  refine (V.size_in 128 _ (by omega)).mono ?_
  rintro x w6 ⟨rfl, hb⟩
  have HB6 := Lib.hid (HB5.out.trans (hb.mono HB5.out.size))
  clear hb
  rw [vb_128]
  go_wp2
  go_ret
  exact ⟨rfl, HB6.out⟩

set_option maxHeartbeats 1000000 in
theorem puts_in (V : VarintSays) (S : Nat → Addr) (n : Nat) (w : World) (h : Env w S) (hn : n ≤ 268435455) :
    Calls Tryd.prog 3 #[.int .i64 n] w fun x w' => x = .returned (.bool true) ∧ Below w.heap.size w w' := by
  have hp := fun w (h : Env w S) => V.put_in S n w h hn
  have hr := fun w => ref_put n hn w
  have hz := fun w => V.size_in n w hn
  have HP := Lib.hid hp
  have HR := Lib.hid hr
  have hsz : (⟨(vb n).toArray⟩ : ByteArray).size = (vb n).length := by simp [ByteArray.size]
  have HZ := Lib.hid hz
  have HSZ := Lib.hid hsz
  clear hp hr hz hsz
  generalize (⟨(vb n).toArray⟩ : ByteArray) = t at *
  generalize (vb n).length = m at *
  go_enter Tryd.func3, Tryd.ntmps3
  go_wp2_with fail
  refine (HP.out _ h).mono ?_
  rintro x w1 ⟨rfl, hb⟩
  have HE1 := Lib.hid (h.later hb)
  have HB1 := Lib.hid hb
  clear hb
  go_wp2_with fail
  refine (HR.out _).mono ?_
  rintro x w2 ⟨rfl, hb⟩
  have HE2 := Lib.hid (HE1.out.later hb)
  have HB2 := Lib.hid (HB1.out.trans (hb.mono HB1.out.size))
  clear hb
  go_wp2_with fail
  refine (HZ.out _).mono ?_
  rintro x w3 ⟨rfl, hb⟩
  have HE3 := Lib.hid (HE2.out.later hb)
  have HB3 := Lib.hid (HB2.out.trans (hb.mono HB2.out.size))
  clear hb
  rw [← HSZ.out]
  go_wp2_with fail
  refine (awake02 V S _ HE3.out).mono ?_
  rintro x w4 ⟨rfl, hb⟩
  have HB4 := Lib.hid (HB3.out.trans (hb.mono HB3.out.size))
  clear hb
  go_wp2
  go_ret
  exact ⟨rfl, HB4.out⟩

set_option maxHeartbeats 1000000 in
theorem puts_out (V : VarintSays) (S : Nat → Addr) (n : Int) (w : World) (h : Env w S) (hn : n < 0 ∨ 268435455 < n) :
    Calls Tryd.prog 3 #[.int .i64 n] w fun x w' => x = .returned (.bool true) ∧ Below w.heap.size w w' := by
  have HP := Lib.hid (fun w (h : Env w S) => V.put_out S n w h hn)
  have HR := Lib.hid (fun w => ref_put_out n hn w)
  have HZ := Lib.hid (fun w => V.size_out n w hn)
  clear hn
  go_enter Tryd.func3, Tryd.ntmps3
  go_wp2_with fail
  refine (HP.out _ h).mono ?_
  rintro x w1 ⟨e, rfl, he, hb⟩
  have HX1 := Lib.hid he
  have HE1 := Lib.hid (h.later hb)
  have HB1 := Lib.hid hb
  obtain ⟨t, v, rfl⟩ := he.iface
  clear hb he
  go_wp2_with fail
  refine (HR.out _).mono ?_
  rintro x w' ⟨rfl, rfl⟩
  go_wp2_with fail
  refine (number_err HE1.out (by omega) HX1.out).mono ?_
  rintro x w2 ⟨rfl, hb⟩
  have HX2 := Lib.hid (HX1.out.later hb)
  have HE2 := Lib.hid (HE1.out.later hb)
  have HB2 := Lib.hid (HB1.out.trans (hb.mono HB1.out.size))
  clear hb
  go_wp2_with fail
  refine (reason_err HE2.out HX2.out).mono ?_
  rintro x w3 ⟨rfl, hb⟩
  have HX3 := Lib.hid (HX2.out.later hb)
  have HE3 := Lib.hid (HE2.out.later hb)
  have HB3 := Lib.hid (HB2.out.trans (hb.mono HB2.out.size))
  clear hb
  go_wp2_with fail
  refine (at_err HE3.out HX3.out).mono ?_
  rintro x w4 ⟨rfl, hb⟩
  have HE4 := Lib.hid (HE3.out.later hb)
  have HB4 := Lib.hid (HB3.out.trans (hb.mono HB3.out.size))
  clear hb
  go_wp2_with fail
  refine (HZ.out _).mono ?_
  rintro x w5 ⟨rfl, hb⟩
  have HE5 := Lib.hid (HE4.out.later hb)
  have HB5 := Lib.hid (HB4.out.trans (hb.mono HB4.out.size))
  clear hb
  go_wp2_with fail
  refine (awake02 V S _ HE5.out).mono ?_
  rintro x w6 ⟨rfl, hb⟩
  have HB6 := Lib.hid (HB5.out.trans (hb.mono HB5.out.size))
  clear hb
  go_wp2
  go_ret
  exact ⟨rfl, HB6.out⟩

set_option maxHeartbeats 1000000 in
theorem takes_long (V : VarintSays) (S : Nat → Addr) (s : ByteArray) (w : World) (h : Env w S) (hs : 100 < s.size) (hm : s.size ≤ 9223372036854775807) :
    Calls Tryd.prog 4 #[.string s] w fun x w' => x = .returned (.bool true) ∧ Below w.heap.size w w' := by
  go_enter Tryd.func4, Tryd.ntmps4
  go_wp2_with fail
  refine (awake02 V S _ h).mono ?_
  rintro x w' ⟨rfl, hb⟩
  go_wp2
  go_ret
  exact ⟨rfl, hb⟩

set_option maxHeartbeats 1000000 in
theorem takes_short (V : VarintSays) (S : Nat → Addr) (s : ByteArray) (w : World) (h : Env w S) (hs : s.size ≤ 100) :
    Calls Tryd.prog 4 #[.string s] w fun x w' => x = .returned (.bool true) ∧ Below w.heap.size w w' := by
  have hr := ref_take s (by omega)
  obtain ⟨n, k, no, a, hv⟩ : ∃ n k no a, vt s 4 0 0 1 = (n, k, no, a) := ⟨_, _, _, _, rfl⟩
  have HP := Lib.hid (fun w (h : Env w S) => V.take S s w n k no a h (by omega) hv)
  rw [hv] at hr
  unfold four at hr
  have HR := Lib.hid hr
  clear hr hv
  by_cases h0 : no = 0
  · subst h0
    go_enter Tryd.func4, Tryd.ntmps4
    go_wp2_with fail
    refine (HP.out _ h).mono ?_
    rintro x w1 ⟨e, rfl, he, hb⟩
    have HX1 := Lib.hid he
    have HE1 := Lib.hid (h.later hb)
    have HB1 := Lib.hid hb
    obtain rfl : e = .nilIface := he
    clear hb
    go_wp2_with fail
    refine (HR.out _).mono ?_
    rintro x w' ⟨rfl, rfl⟩
    go_wp2_with fail
    refine (number_nil _).mono ?_
    rintro x w2 ⟨rfl, hb⟩
    have HE2 := Lib.hid (HE1.out.later hb)
    have HB2 := Lib.hid (HB1.out.trans (hb.mono HB1.out.size))
    clear hb
    go_wp2_with fail
    refine (awake02 V S _ HE2.out).mono ?_
    rintro x w6 ⟨rfl, hb⟩
    have HB6 := Lib.hid (HB2.out.trans (hb.mono HB2.out.size))
    clear hb
    go_wp2
    go_ret
    exact ⟨rfl, HB6.out⟩
  · have hz : ((no : Int) == 0) = false := beq_eq_false_iff_ne.2 (by omega)
    have H0 := Lib.hid h0
    clear h0
    go_enter Tryd.func4, Tryd.ntmps4
    go_wp2_with fail
    refine (HP.out _ h).mono ?_
    rintro x w1 ⟨e, rfl, he, hb⟩
    have HX1 := Lib.hid he
    have HE1 := Lib.hid (h.later hb)
    have HB1 := Lib.hid hb
    clear hb he
    go_wp2_with fail
    refine (HR.out _).mono ?_
    rintro x w' ⟨rfl, rfl⟩
    go_wp2_with fail
    refine (number_of HE1.out HX1.out).mono ?_
    rintro x w2 ⟨rfl, hb⟩
    have HX2 := Lib.hid (HX1.out.later hb)
    have HE2 := Lib.hid (HE1.out.later hb)
    have HB2 := Lib.hid (HB1.out.trans (hb.mono HB1.out.size))
    clear hb
    go_wp2_with fail
    refine (reason_err HE2.out (HX2.out.is H0.out)).mono ?_
    rintro x w3 ⟨rfl, hb⟩
    have HX3 := Lib.hid (HX2.out.later hb)
    have HE3 := Lib.hid (HE2.out.later hb)
    have HB3 := Lib.hid (HB2.out.trans (hb.mono HB2.out.size))
    clear hb
    go_wp2_with fail
    refine (at_err HE3.out (HX3.out.is H0.out)).mono ?_
    rintro x w4 ⟨rfl, hb⟩
    have HE4 := Lib.hid (HE3.out.later hb)
    have HB4 := Lib.hid (HB3.out.trans (hb.mono HB3.out.size))
    clear hb
    go_wp2_with fail
    refine (awake02 V S _ HE4.out).mono ?_
    rintro x w6 ⟨rfl, hb⟩
    have HB6 := Lib.hid (HB4.out.trans (hb.mono HB4.out.size))
    clear hb
    go_wp2
    go_ret
    exact ⟨rfl, HB6.out⟩
end Go.Proofs.YtfaldlamjbiciaaDoor

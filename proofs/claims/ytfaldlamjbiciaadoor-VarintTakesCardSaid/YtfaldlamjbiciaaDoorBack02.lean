/- What is proved here: the statement VarintBack answers true, if the package's three functions answer what plain functions on lists say. Conditions: that, and what the rows list of the package's variables. -/
import Derived.Test.YtfaldlamjbiciaaDoorLaw02
import Derived.Test.YtfaldlamjbiciaaDoorVtVb
namespace Go.Proofs.YtfaldlamjbiciaaDoor
open Go.RowKit Go.Extern.Stop Go.Stop Go.Extern

/-- Two strings that differ, as the walk asks it. -/
theorem bytes_ne {a b : ByteArray} (h : a ≠ b) : (a.toList == b.toList) = false := by
  refine beq_eq_false_iff_ne.2 fun e => h ?_
  rw [ByteArray.toList_eq, ByteArray.toList_eq] at e
  exact ByteArray.ext (Array.toList_inj.mp e)

set_option maxHeartbeats 1000000 in
theorem back_out (V : VarintSays) (S : Nat → Addr) (n m : Int) (s : ByteArray) (w : World) (h : Env w S) (hz : s.size ≤ 9223372036854775807) (ho : 100 < s.size ∨ n < 0 ∨ 268435455 < n ∨ m < 0 ∨ 268435455 < m) :
    Calls Tryd.prog 5 #[.int .i64 n, .int .i64 m, .string s] w fun x w' => x = .returned (.bool true) ∧ Below w.heap.size w w' := by
  have key : ∀ w, Env w S → (100 < s.size ∨ s.size ≤ 100 ∧ (n < 0 ∨ 0 ≤ n ∧ (268435455 < n ∨ n ≤ 268435455 ∧ (m < 0 ∨ 0 ≤ m ∧ 268435455 < m)))) := fun _ _ => by omega
  rcases key w h with h1 | ⟨h1, h2 | ⟨h2, h3 | ⟨h3, h4 | ⟨h4, h5⟩⟩⟩⟩
  all_goals clear key ho
  all_goals go_enter Tryd.func5, Tryd.ntmps5
  all_goals go_wp2_with fail
  all_goals refine (awake02 V S _ h).mono ?_
  all_goals rintro x w' ⟨rfl, hb⟩
  all_goals go_wp2
  all_goals go_ret
  all_goals exact ⟨rfl, hb⟩

set_option maxHeartbeats 1000000 in
theorem back_in (V : VarintSays) (S : Nat → Addr) (n m : Nat) (s : ByteArray) (w : World) (h : Env w S) (hs : s.size ≤ 100) (hn : n ≤ 268435455) (hm : m ≤ 268435455) :
    Calls Tryd.prog 5 #[.int .i64 n, .int .i64 m, .string s] w fun x w' => x = .returned (.bool true) ∧ Below w.heap.size w w' := by
  have hn' : (n : Int) ≤ 268435455 := by omega
  have hm' : (m : Int) ≤ 268435455 := by omega
  have hl := vb_len n hn
  have hl2 := vb_len m hm
  have HA := Lib.hid (fun w (h : Env w S) => V.put_in S n w h hn)
  have HB := Lib.hid (fun w (h : Env w S) => V.put_in S m w h hm)
  have ecat : (⟨(vb n).toArray⟩ : ByteArray) ++ s = ⟨(vb n ++ s.data.toList).toArray⟩ := by
    apply ByteArray.ext
    simp
  have hsz : (⟨(vb n).toArray⟩ : ByteArray).size = (vb n).length := by simp [ByteArray.size]
  have hsz2 : (⟨(vb m).toArray⟩ : ByteArray).size = (vb m).length := by simp [ByteArray.size]
  have HT := Lib.hid (fun w (h : Env w S) => V.take S (⟨(vb n).toArray⟩ ++ s) w n (vb n).length 0 0 h (by rw [ByteArray.size_append, hsz]; omega) (by rw [ecat]; exact vt_vb n hn _))
  have hpre : n ≠ m → (⟨(vb n).toArray⟩ : ByteArray).size ≤ (⟨(vb m).toArray⟩ : ByteArray).size → (⟨(vb m).toArray⟩ : ByteArray).extract 0 (⟨(vb n).toArray⟩ : ByteArray).size ≠ ⟨(vb n).toArray⟩ := by
    intro hne _ he
    apply hne
    apply vb_pre hn hm
    have := congrArg (fun x : ByteArray => x.data.toList) he
    simpa [hsz] using this
  have heq : n = m → (⟨(vb n).toArray⟩ : ByteArray) = ⟨(vb m).toArray⟩ := fun e => by rw [e]
  have HP := Lib.hid hpre
  have HQ := Lib.hid heq
  rw [← hsz] at hl
  rw [← hsz2] at hl2
  rw [← hsz] at HT
  clear hpre heq ecat hsz hsz2
  generalize (⟨(vb n).toArray⟩ : ByteArray) = a at *
  generalize (⟨(vb m).toArray⟩ : ByteArray) = b at *
  obtain ⟨hl1, hl4⟩ := hl
  obtain ⟨hm1, hm4⟩ := hl2
  by_cases hne : n = m
  · obtain rfl := HQ.out hne
    have HNE := Lib.hid hne
    have hd : ((n : Int) == (m : Int)) = true := beq_iff_eq.2 (by omega)
    have hx : a.extract 0 a.size = a := by simp
    clear hne
    go_enter Tryd.func5, Tryd.ntmps5
    go_wp2_with fail
    refine (HA.out _ h).mono ?_
    rintro x w1 ⟨rfl, hb⟩
    have HE1 := Lib.hid (h.later hb)
    have HB1 := Lib.hid hb
    clear hb
    go_wp2_with fail
    refine (HB.out _ HE1.out).mono ?_
    rintro x w2 ⟨rfl, hb⟩
    have HE2 := Lib.hid (HE1.out.later hb)
    have HB2 := Lib.hid (HB1.out.trans (hb.mono HB1.out.size))
    clear hb
    go_wp2_with fail
    refine (HT.out _ HE2.out).mono ?_
    rintro x w3 ⟨e, rfl, he, hb⟩
    obtain rfl : e = .nilIface := he
    have HE3 := Lib.hid (HE2.out.later hb)
    have HB3 := Lib.hid (HB2.out.trans (hb.mono HB2.out.size))
    clear hb
    go_wp2_with fail
    refine (awake02 V S _ HE3.out).mono ?_
    rintro x w4 ⟨rfl, hb⟩
    have HB4 := Lib.hid (HB3.out.trans (hb.mono HB3.out.size))
    clear hb
    go_wp2
    go_ret
    exact ⟨rfl, HB4.out⟩
  · have hd : ((n : Int) == (m : Int)) = false := beq_eq_false_iff_ne.2 (by omega)
    by_cases hle : a.size ≤ b.size
    · have hx : ((b.extract 0 a.size).toList == a.toList) = false := bytes_ne (HP.out hne hle)
      have HNE := Lib.hid hne
      clear hne
      go_enter Tryd.func5, Tryd.ntmps5
      go_wp2_with fail
      refine (HA.out _ h).mono ?_
      rintro x w1 ⟨rfl, hb⟩
      have HE1 := Lib.hid (h.later hb)
      have HB1 := Lib.hid hb
      clear hb
      go_wp2_with fail
      refine (HB.out _ HE1.out).mono ?_
      rintro x w2 ⟨rfl, hb⟩
      have HE2 := Lib.hid (HE1.out.later hb)
      have HB2 := Lib.hid (HB1.out.trans (hb.mono HB1.out.size))
      clear hb
      go_wp2_with fail
      refine (HT.out _ HE2.out).mono ?_
      rintro x w3 ⟨e, rfl, he, hb⟩
      obtain rfl : e = .nilIface := he
      have HE3 := Lib.hid (HE2.out.later hb)
      have HB3 := Lib.hid (HB2.out.trans (hb.mono HB2.out.size))
      clear hb
      go_wp2_with fail
      refine (awake02 V S _ HE3.out).mono ?_
      rintro x w4 ⟨rfl, hb⟩
      have HB4 := Lib.hid (HB3.out.trans (hb.mono HB3.out.size))
      clear hb
      go_wp2
      go_ret
      exact ⟨rfl, HB4.out⟩
    · have hlt : b.size < a.size := by omega
      have HNE := Lib.hid hne
      clear hne hle
      go_enter Tryd.func5, Tryd.ntmps5
      go_wp2_with fail
      refine (HA.out _ h).mono ?_
      rintro x w1 ⟨rfl, hb⟩
      have HE1 := Lib.hid (h.later hb)
      have HB1 := Lib.hid hb
      clear hb
      go_wp2_with fail
      refine (HB.out _ HE1.out).mono ?_
      rintro x w2 ⟨rfl, hb⟩
      have HE2 := Lib.hid (HE1.out.later hb)
      have HB2 := Lib.hid (HB1.out.trans (hb.mono HB1.out.size))
      clear hb
      go_wp2_with fail
      refine (HT.out _ HE2.out).mono ?_
      rintro x w3 ⟨e, rfl, he, hb⟩
      obtain rfl : e = .nilIface := he
      have HE3 := Lib.hid (HE2.out.later hb)
      have HB3 := Lib.hid (HB2.out.trans (hb.mono HB2.out.size))
      clear hb
      go_wp2_with fail
      refine (awake02 V S _ HE3.out).mono ?_
      rintro x w4 ⟨rfl, hb⟩
      have HB4 := Lib.hid (HB3.out.trans (hb.mono HB3.out.size))
      clear hb
      go_wp2
      go_ret
      exact ⟨rfl, HB4.out⟩
end Go.Proofs.YtfaldlamjbiciaaDoor

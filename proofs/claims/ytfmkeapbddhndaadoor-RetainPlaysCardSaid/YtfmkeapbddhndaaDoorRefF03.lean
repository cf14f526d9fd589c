/- What is proved here: the cut, the check and the letters of bytes, by the document's own answers, are those of the plain walk. Condition: the text's length. -/
import Derived.Test.YtfmkeapbddhndaaDoorHit03
namespace Go.Proofs.YtfmkeapbddhndaaDoor
open Go.RowKit Go.Extern.Stop Go.Stop Go.Extern

theorem str_ne {a b : ByteArray} (h : a ≠ b) : (a.toList == b.toList) = false := by
  refine beq_eq_false_iff_ne.2 fun e => h ?_
  rw [ByteArray.toList_eq, ByteArray.toList_eq] at e
  exact ByteArray.ext (Array.toList_inj.mp e)
theorem str_full {a : ByteArray} (h : a ≠ ⟨#[]⟩) : ¬ a.toList = [] := by
  intro e
  rw [ByteArray.toList_eq] at e
  exact h (ByteArray.ext (Array.toList_inj.mp e))
theorem str_full2 {a : ByteArray} (h : ¬ a.toList = []) : (!a.toList.isEmpty) = true := by
  simpa using h
def FirstSays (s : ByteArray) (w : World) (x : Ending) (w' : World) : Prop := x = .returned (.int .i64 (szAt s 0 : Nat)) ∧ Below w.heap.size w w'

set_option maxRecDepth 100000 in
set_option maxHeartbeats 4000000 in
theorem rf_first (s : ByteArray) (w : World) (hm : s.size ≤ 4611686018427387903) : Calls Tryd.prog 114 #[.string s] w (FirstSays s w) := by
  go_enter Tryd.func114, Tryd.ntmps114
  go_wp2
  go_loopg [3] 4 (fun f y wr => ∃ k : Nat, f = 5 - k ∧ 1 ≤ k ∧ k ≤ 5 ∧ y = .int .i64 k ∧ k ≤ s.size + 1 ∧ (∀ j, 1 ≤ j → j < k → szAt s 0 ≠ j) ∧ Below w.heap.size w wr)
  case atStart => exact ⟨1, rfl, by omega, by omega, rfl, by omega, fun j h1 h2 => by omega, Below.refl _ _⟩
  case round =>
    obtain ⟨k, rfl, hk1, hk5, rfl, hks, hno, hb⟩ := hrel
    have HB := Lib.hid hb
    have HNO := Lib.hid hno
    clear hb hno
    by_cases hgo : k ≤ 4 ∧ k ≤ s.size
    · obtain ⟨hg1, hg2⟩ := hgo
      have HN := Lib.hid (fun w => rf_number s k w hk1 hg1 hg2 hm)
      unfold NumSays at HN
      have HBY := Lib.hid (fun w => rf_bytes (refNum s k) w)
      unfold BytesSays at HBY
      have hmiss := fun hl => miss (s := s) (k := k) hg2 hl
      have hne := bytes_ne0 (n := refNum s k)
      have hnone := bytesOf_none (n := refNum s k)
      have hhit := fun h => hit (s := s) (k := k) h hk1
      by_cases hz : szAt s 0 = k
      · obtain ⟨h1, h2⟩ := hhit hz
        have hn := str_full (hne h1)
        have hn2 := str_full2 hn
        rw [h2] at hn hn2 HBY
        have he : ((s.extract 0 k).toList == (s.extract 0 k).toList) = true := by simp
        have HZ := Lib.hid hz
        clear hmiss hne hnone hhit h1 h2 hz
        generalize refNum s k = z at *
        go_wp2_with fail
        refine (HN.out _).mono ?_
        rintro x w1 ⟨rfl, rfl⟩
        go_wp2_with fail
        refine (HBY.out _).mono ?_
        rintro x w1 ⟨rfl, hb⟩
        have HB1 := Lib.hid (HB.out.trans (hb.mono HB.out.size))
        clear hb
        go_wp2
        go_ret
        exact ⟨ret_nat HZ.out.symm, HB1.out⟩
      · have HZ : Hid (∀ j, 1 ≤ j → j < k + 1 → szAt s 0 ≠ j) := Lib.hid (fun j h1 h2 e => by
          by_cases hj : j = k
          · exact hz (e.trans hj)
          · exact HNO.out j h1 (by omega) e)
        by_cases hl : letB (refNum s k) = true
        · have hn := str_full (hne hl)
          have hn2 := str_full2 hn
          have he := str_ne (fun e => hz (hmiss hl e))
          clear hmiss hne hnone hhit hl hz
          generalize refNum s k = z at *
          generalize (⟨(bytesOf z).toArray⟩ : ByteArray) = b at *
          go_wp2_with fail
          refine (HN.out _).mono ?_
          rintro x w1 ⟨rfl, rfl⟩
          go_wp2_with fail
          refine (HBY.out _).mono ?_
          rintro x w1 ⟨rfl, hb⟩
          have HB1 := Lib.hid (HB.out.trans (hb.mono HB.out.size))
          clear hb
          go_wp2
          go_roundg (5 - (k + 1))
          case rel => exact ⟨k + 1, rfl, by omega, by omega, by go_num, by omega, HZ.out, HB1.out⟩
          case measure => omega
        · have hl' : letB (refNum s k) = false := by simpa using hl
          have hnil := hnone hl'
          rw [hnil] at HBY
          clear hmiss hne hnone hhit hl hl' hz hnil
          generalize refNum s k = z at *
          go_wp2_with fail
          refine (HN.out _).mono ?_
          rintro x w1 ⟨rfl, rfl⟩
          go_wp2_with fail
          refine (HBY.out _).mono ?_
          rintro x w1 ⟨rfl, hb⟩
          have HB1 := Lib.hid (HB.out.trans (hb.mono HB.out.size))
          clear hb
          go_wp2
          go_roundg (5 - (k + 1))
          case rel => exact ⟨k + 1, rfl, by omega, by omega, by go_num, by omega, HZ.out, HB1.out⟩
          case measure => omega
    · have hz : szAt s 0 = 0 := by
        have hb := sz_bd s 0
        by_cases h0 : szAt s 0 = 0
        · exact h0
        · have h1 := hb.2 h0
          exact absurd rfl (HNO.out (szAt s 0) (by omega) (by omega))
      have HZ := Lib.hid hz
      clear hz
      by_cases h4 : k ≤ 4
      · have h5 : s.size < k := by omega
        clear hgo
        go_wp2
        go_ret
        exact ⟨ret_nat HZ.out.symm, HB.out⟩
      · have h5 : 4 < k := by omega
        clear hgo h4
        go_wp2
        go_ret
        exact ⟨ret_nat HZ.out.symm, HB.out⟩

set_option maxRecDepth 100000 in
set_option maxHeartbeats 4000000 in
theorem rf_cut (s : ByteArray) (w : World) (hm : s.size ≤ 4611686018427387903) : Calls Tryd.prog 94 #[.string s] w fun x w' => x = .returned (.int .i64 (cutOf s : Nat)) ∧ Below w.heap.size w w' := by
  have HF := Lib.hid (show walkF s s.size 0 0 = (cutOf s, lettersOf s) from rfl)
  go_enter Tryd.func94, Tryd.ntmps94
  go_wp2
  go_loopg [3] s.size (fun f x wr => ∃ a n : Nat, x = .int .i64 a ∧ a ≤ s.size ∧ s.size ≤ a + f ∧ walkF s f a n = (cutOf s, lettersOf s) ∧ Below w.heap.size w wr)
  case atStart => exact ⟨0, 0, rfl, Nat.zero_le _, by omega, HF.out, Below.refl _ _⟩
  case round =>
    obtain ⟨a, n, rfl, ha, hf, hv, hb⟩ := hrel
    have HV := Lib.hid hv
    have HB := Lib.hid hb
    clear hv HF hb
    by_cases hlt : a < s.size
    · have hd := (sz_bd s a)
      have HS := Lib.hid (fun w => rf_first (s.extract a s.size) w (by rw [size_tail]; omega))
      have het := sz_tail hlt
      unfold FirstSays at HS
      rw [het] at HS
      clear het
      by_cases hz : szAt s a = 0
      · have hend := walk_end (s := s) (f := gk) (a := a) (n := n) (by omega)
        rw [HV.out] at hend
        have HEN := Lib.hid hend
        rw [hz] at HS
        have HS0 : ∀ w, Calls Tryd.prog 114 #[.string (s.extract a s.size)] w (fun x w' => x = .returned (.int .i64 0) ∧ Below w.heap.size w w') := HS.out
        have HS1 := Lib.hid HS0
        clear hend hz hd HS HS0
        go_wp2_with fail
        refine (HS1.out _).mono ?_
        rintro x w1 ⟨rfl, hb⟩
        have HB1 := Lib.hid (HB.out.trans (hb.mono HB.out.size))
        clear hb
        go_wp2
        go_ret
        exact ⟨by rw [Prod.mk.injEq] at HEN; rw [HEN.out.1]; rfl, HB1.out⟩
      · obtain ⟨g, rfl⟩ : ∃ g, gk = g + 1 := ⟨gk - 1, by omega⟩
        have hst := walk_more (s := s) (f := g) (a := a) (n := n) hlt hz
        rw [HV.out] at hst
        have HST := Lib.hid hst
        have hd2 := hd.2 hz
        have hd1 := hd.1
        have hz1 : 1 ≤ szAt s a := by omega
        clear hst hd hz
        generalize szAt s a = k at *
        have hk0 : (0 : Int) < (k : Int) := by omega
        go_wp2_with fail
        refine (HS.out _).mono ?_
        rintro x w1 ⟨rfl, hb⟩
        have HB1 := Lib.hid (HB.out.trans (hb.mono HB.out.size))
        clear hb
        go_wp2_with fail
        refine (HS.out _).mono ?_
        rintro x w2 ⟨rfl, hb⟩
        have HB2 := Lib.hid (HB1.out.trans (hb.mono HB1.out.size))
        clear hb
        go_wp2
        go_roundg g
        case rel => exact ⟨a + k, n + 1, by go_num, by omega, by omega, HST.out.symm, HB2.out⟩
        case measure => omega
    · have hend := walk_end (s := s) (f := gk) (a := a) (n := n) (by omega)
      rw [HV.out] at hend
      have HEN := Lib.hid hend
      have HB1 := HB
      clear hend
      go_wp2
      go_ret
      exact ⟨by rw [Prod.mk.injEq] at HEN; rw [HEN.out.1]; rfl, HB1.out⟩

theorem rf_check (s : ByteArray) (w : World) (hm : s.size ≤ 4611686018427387903) : Calls Tryd.prog 79 #[.string s] w fun x w' => x = .returned (.tuple #[.int .i64 ((checkOf s).1 : Nat), .int .i64 ((checkOf s).2 : Nat)]) ∧ Below w.heap.size w w' := by
  have HC := Lib.hid (fun w => rf_cut s w hm)
  have hcl := cut_le s
  unfold checkOf
  generalize cutOf s = c at *
  by_cases h1 : 65535 < s.size
  · rw [if_pos h1]
    go_enter Tryd.func79, Tryd.ntmps79
    go_wp2
    go_ret2
    exact ⟨rfl, Below.refl _ _⟩
  · rw [if_neg h1]
    have h1' : s.size ≤ 65535 := by omega
    by_cases h2 : c < s.size
    · rw [if_pos h2]
      clear h1
      go_enter Tryd.func79, Tryd.ntmps79
      go_wp2_with fail
      refine (HC.out _).mono ?_
      rintro x w1 ⟨rfl, hb⟩
      go_wp2
      go_ret2
      exact ⟨rfl, hb⟩
    · rw [if_neg h2]
      have h2' : s.size ≤ c := by omega
      clear h1 h2
      go_enter Tryd.func79, Tryd.ntmps79
      go_wp2_with fail
      refine (HC.out _).mono ?_
      rintro x w1 ⟨rfl, hb⟩
      go_wp2
      go_ret2
      exact ⟨rfl, hb⟩
def isB (s : ByteArray) : Bool := (checkOf s).1 == 0
theorem rf_is (s : ByteArray) (w : World) (hm : s.size ≤ 4611686018427387903) : Calls Tryd.prog 64 #[.string s] w fun x w' => x = .returned (.bool (isB s)) ∧ Below w.heap.size w w' := by
  have HC := Lib.hid (fun w => rf_check s w hm)
  unfold isB
  generalize checkOf s = c at *
  obtain ⟨c1, c2⟩ := c
  by_cases h0 : c1 = 0
  · subst h0
    have HC0 : ∀ w, Calls Tryd.prog 79 #[.string s] w (fun x w' => x = .returned (.tuple #[.int .i64 0, .int .i64 (c2 : Nat)]) ∧ Below w.heap.size w w') := HC.out
    have HC1 := Lib.hid HC0
    clear HC HC0
    go_enter Tryd.func64, Tryd.ntmps64
    go_wp2_with fail
    refine (HC1.out _).mono ?_
    rintro x w1 ⟨rfl, hb⟩
    go_wp2
    go_ret
    exact ⟨rfl, hb⟩
  · have hz : ((c1 : Int) == 0) = false := beq_eq_false_iff_ne.2 (by omega)
    have H0 : Hid ((c1 == 0) = false) := Lib.hid (beq_eq_false_iff_ne.2 h0)
    clear h0
    go_enter Tryd.func64, Tryd.ntmps64
    go_wp2_with fail
    refine (HC.out _).mono ?_
    rintro x w1 ⟨rfl, hb⟩
    go_wp2
    go_ret
    exact ⟨by rw [H0.out]; rfl, hb⟩
end Go.Proofs.YtfmkeapbddhndaaDoor

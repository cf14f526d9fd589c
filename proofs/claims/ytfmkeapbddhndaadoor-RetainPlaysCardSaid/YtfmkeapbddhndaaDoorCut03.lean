/- What is proved here: the cut, the check and the letters of bytes, of the landed code, are what a plain walk over the bytes says. Conditions: the text's length; for the check what the rows list of the package's variables. -/
import Derived.Test.YtfmkeapbddhndaaDoorSize03
namespace Go.Proofs.YtfmkeapbddhndaaDoor
open Go.RowKit Go.Extern.Stop Go.Stop Go.Extern

theorem bAt_extract {s : ByteArray} {a b i : Nat} (h : a + i < b) : bAt (s.extract a b) i = bAt s (a + i) := by
  unfold bAt
  have e : (s.extract a b).data.toList = (s.data.toList.drop a).take (b - a) := by simp [ByteArray.data_extract]
  rw [e, List.getD_eq_getElem?_getD, List.getD_eq_getElem?_getD, List.getElem?_take_of_lt (by omega), List.getElem?_drop]
theorem size_tail {s : ByteArray} {a : Nat} : (s.extract a s.size).size = s.size - a := by simp
/-- The letter at the head of what is left is the one that stands there. -/
theorem sz_cong {s t : ByteArray} {a b : Nat} (h : ∀ i, i < 4 → a + i < s.size → bAt t (b + i) = bAt s (a + i)) (hz : t.size - b = s.size - a) (ha : a < s.size) : szAt t b = szAt s a := by
  have h0 := h 0 (by omega) (by omega)
  simp only [Nat.add_zero] at h0
  unfold szAt
  rw [h0]
  by_cases hc : classOf (bAt s a) = 0 ∨ s.size < a + classOf (bAt s a)
  · rw [if_pos hc, if_pos (by omega)]
  · have h1 : 2 ≤ classOf (bAt s a) → bAt t (b + 1) = bAt s (a + 1) := fun _ => h 1 (by omega) (by omega)
    have h2 : 3 ≤ classOf (bAt s a) → bAt t (b + 2) = bAt s (a + 2) := fun _ => h 2 (by omega) (by omega)
    have h3 : 4 ≤ classOf (bAt s a) → bAt t (b + 3) = bAt s (a + 3) := fun _ => h 3 (by omega) (by omega)
    rw [if_neg hc, if_neg (by omega)]
    have hb := class_bd (bAt s a)
    have ec : contB t b (classOf (bAt s a)) = contB s a (classOf (bAt s a)) := by
      unfold contB
      generalize classOf (bAt s a) = k at *
      rcases (show k = 0 ∨ k = 1 ∨ k = 2 ∨ k = 3 ∨ k = 4 by omega) with rfl | rfl | rfl | rfl | rfl
      · rfl
      · rfl
      · rw [h1 (by omega)]; rfl
      · rw [h1 (by omega), h2 (by omega)]; rfl
      · rw [h1 (by omega), h2 (by omega), h3 (by omega)]
    have en : numAt t b (classOf (bAt s a)) = numAt s a (classOf (bAt s a)) := by
      unfold numAt
      generalize classOf (bAt s a) = k at *
      rcases (show k = 0 ∨ k = 1 ∨ k = 2 ∨ k = 3 ∨ k = 4 by omega) with rfl | rfl | rfl | rfl | rfl
      · omega
      · simp [h0]
      · simp [h0, h1]
      · simp [h0, h1, h2]
      · simp [h0, h1, h2, h3]
    rw [ec, en]
theorem sz_tail {s : ByteArray} {a : Nat} (ha : a < s.size) : szAt (s.extract a s.size) 0 = szAt s a := by
  refine sz_cong (s := s) (a := a) (b := 0) (fun i _ hi => ?_) (by rw [size_tail]; omega) ha
  rw [Nat.zero_add, bAt_extract (by omega)]

/-- The walk: where it comes to, and how many letters it met. -/
def walkF (s : ByteArray) : Nat → Nat → Nat → Nat × Nat
  | 0, a, n => (a, n)
  | f + 1, a, n => if a < s.size ∧ szAt s a ≠ 0 then walkF s f (a + szAt s a) (n + 1) else (a, n)
def cutOf (s : ByteArray) : Nat := (walkF s s.size 0 0).1
def lettersOf (s : ByteArray) : Nat := (walkF s s.size 0 0).2
/-- The check: the error's number, and where. -/
def checkOf (s : ByteArray) : Nat × Nat := if 65535 < s.size then (4, 65535) else if cutOf s < s.size then (2, cutOf s) else (0, 0)
theorem walk_more {s : ByteArray} {f a n : Nat} (h : a < s.size) (hz : szAt s a ≠ 0) : walkF s (f + 1) a n = walkF s f (a + szAt s a) (n + 1) := by rw [walkF, if_pos ⟨h, hz⟩]
theorem walk_end {s : ByteArray} {f a n : Nat} (h : ¬ (a < s.size ∧ szAt s a ≠ 0)) : walkF s f a n = (a, n) := by
  cases f with
  | zero => rfl
  | succ f => rw [walkF, if_neg h]
theorem walk_bd {s : ByteArray} {f a n : Nat} (h : a ≤ s.size) : a ≤ (walkF s f a n).1 ∧ (walkF s f a n).1 ≤ s.size ∧ n ≤ (walkF s f a n).2 := by
  induction f generalizing a n with
  | zero => exact ⟨Nat.le_refl _, h, Nat.le_refl _⟩
  | succ f ih =>
    by_cases hc : a < s.size ∧ szAt s a ≠ 0
    · rw [walk_more hc.1 hc.2]
      have := (sz_bd s a).2 hc.2
      have := ih (a := a + szAt s a) (n := n + 1) (by omega)
      omega
    · rw [walk_end hc]
      exact ⟨Nat.le_refl _, h, Nat.le_refl _⟩
theorem cut_le (s : ByteArray) : cutOf s ≤ s.size := (walk_bd (Nat.zero_le _)).2.1

def WalkSays (s : ByteArray) (w : World) (x : Ending) (w' : World) : Prop := x = .returned (.tuple #[.int .i64 (cutOf s : Nat), .int .i64 (lettersOf s : Nat)]) ∧ w = w'
set_option maxRecDepth 100000 in
set_option maxHeartbeats 4000000 in
theorem ut_walk (s : ByteArray) (w : World) (hm : s.size ≤ 4611686018427387903) : Calls Tryd.prog 118 #[.string s] w (WalkSays s w) := by
  have HF := Lib.hid (show walkF s s.size 0 0 = (cutOf s, lettersOf s) from rfl)
  go_enter Tryd.func118, Tryd.ntmps118
  go_wp2
  go_loopg [2, 3] s.size (fun f x y wr => w = wr ∧ ∃ a n : Nat, x = .int .i64 a ∧ y = .int .i64 n ∧ a ≤ s.size ∧ n ≤ a ∧ s.size ≤ a + f ∧ walkF s f a n = (cutOf s, lettersOf s))
  case atStart => exact ⟨rfl, 0, 0, rfl, rfl, Nat.zero_le _, Nat.le_refl _, by omega, HF.out⟩
  case round =>
    obtain ⟨rfl, a, n, rfl, rfl, ha, hn, hf, hv⟩ := hrel
    have HV := Lib.hid hv
    clear hv HF
    by_cases hlt : a < s.size
    · have hd := (sz_bd s a)
      have HS := Lib.hid (fun w => ut_size (s.extract a s.size) w (by rw [size_tail]; omega) (by rw [size_tail]; omega))
      have het := sz_tail hlt
      unfold SizeSays at HS
      rw [het] at HS
      clear het
      by_cases hz : szAt s a = 0
      · have hend := walk_end (s := s) (f := gk) (a := a) (n := n) (by omega)
        rw [HV.out] at hend
        have HEN := Lib.hid hend
        rw [hz] at HS
        have HS0 : ∀ w, Calls Tryd.prog 127 #[.string (s.extract a s.size)] w (fun x w' => x = .returned (.int .i64 0) ∧ w = w') := HS.out
        have HS1 := Lib.hid HS0
        clear hend hz hd HS HS0
        go_wp2_with fail
        refine (HS1.out _).mono ?_
        rintro x w1 ⟨rfl, rfl⟩
        go_wp2
        go_ret2
        exact ⟨by rw [Prod.mk.injEq] at HEN; rw [HEN.out.1, HEN.out.2]; rfl, rfl⟩
      · obtain ⟨g, rfl⟩ : ∃ g, gk = g + 1 := ⟨gk - 1, by omega⟩
        have hst := walk_more (s := s) (f := g) (a := a) (n := n) hlt hz
        rw [HV.out] at hst
        have HST := Lib.hid hst
        have hd2 := hd.2 hz
        have hd1 := hd.1
        have hz1 : 1 ≤ szAt s a := by omega
        clear hst hd hz
        generalize szAt s a = k at *
        have hk0 : ((k : Int) == 0) = false := beq_eq_false_iff_ne.2 (by omega)
        go_wp2_with fail
        refine (HS.out _).mono ?_
        rintro x w1 ⟨rfl, rfl⟩
        go_wp2
        go_roundg g
        case rel => exact ⟨rfl, a + k, n + 1, by go_num, by go_num, by omega, by omega, by omega, HST.out.symm⟩
        case measure => omega
    · have hend := walk_end (s := s) (f := gk) (a := a) (n := n) (by omega)
      rw [HV.out] at hend
      have HEN := Lib.hid hend
      clear hend
      go_wp2
      go_ret2
      exact ⟨by rw [Prod.mk.injEq] at HEN; rw [HEN.out.1, HEN.out.2]; rfl, rfl⟩

theorem ut_cut (s : ByteArray) (w : World) (hm : s.size ≤ 4611686018427387903) : Calls Tryd.prog 104 #[.string s] w fun x w' => x = .returned (.int .i64 (cutOf s : Nat)) ∧ w = w' := by
  have H := Lib.hid (fun w => ut_walk s w hm)
  unfold WalkSays at H
  generalize cutOf s = c at *
  generalize lettersOf s = n at *
  go_enter Tryd.func104, Tryd.ntmps104
  go_wp2_with fail
  refine (H.out _).mono ?_
  rintro x w1 ⟨rfl, rfl⟩
  go_wp2
  go_ret
  exact ⟨rfl, rfl⟩

end Go.Proofs.YtfmkeapbddhndaaDoor

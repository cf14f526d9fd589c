/- What is proved here: whether there are few acts; and that the package is awake. No conditions. -/
import Derived.Test.YtbicoiciapngdaaDo21
namespace Go.Proofs.Ytbicoiciapngdaa
open Go.RowKit Go.Extern.Stop Go.Stop Go.Extern

/-- The acts that a slice holds: kind, bytes, how many are kept. -/
structure Act21 where
  kind : Int
  s : ByteArray
  keep : Int
def Acts (w : World) (b off len : Nat) (xs : Nat → Act21) : Prop :=
  ∀ i, i < len → w.cell? ⟨b, off + i * 3, none⟩ = some (.int .i64 (xs i).kind) ∧ w.cell? ⟨b, off + i * 3 + 1, none⟩ = some (.string (xs i).s) ∧ w.cell? ⟨b, off + i * 3 + 2, none⟩ = some (.int .i64 (xs i).keep) ∧
    (xs i).s.size ≤ maxLen ∧ -9223372036854775808 ≤ (xs i).keep ∧ (xs i).keep ≤ 9223372036854775807
theorem Acts.below {w w' : World} {b off len : Nat} {xs : Nat → Act21} (h : Acts w b off len xs) (hb : Below w.heap.size w w') : Acts w' b off len xs := by
  intro i hi
  obtain ⟨h0, h1, h2, h3⟩ := h i hi
  have hlt := lt_of_cell' h0
  exact ⟨(hb.cell (p := ⟨b, _, none⟩) hlt).trans h0, (hb.cell (p := ⟨b, _, none⟩) hlt).trans h1, (hb.cell (p := ⟨b, _, none⟩) hlt).trans h2, h3⟩

def FewSays (len : Nat) (xs : Nat → Act21) (w : World) (e : Ending) (w' : World) : Prop :=
  ∃ f : Bool, e = .returned (.bool f) ∧ (f = true → len ≤ 40 ∧ ∀ i, i < len → (xs i).s.size ≤ 100) ∧ w = w'
theorem few_any (b off len cap : Nat) (xs : Nat → Act21) (w : World) (hl : len ≤ maxLen) (h : Acts w b off len xs) :
    Calls Try.prog 20 #[.slice (some ⟨b, off, none⟩) len cap] w (FewSays len xs w) := by
  unfold maxLen at hl
  go_enter Try.func20, Try.ntmps20
  go_wp2
  go_loop [3] (fun i => ∃ k : Nat, k ≤ len ∧ k ≤ 40 ∧ i = .int .i64 k ∧ ∀ j, j < k → (xs j).s.size ≤ 100) (fun i => 41 - (intOf i).toNat)
  case atStart => exact ⟨0, by omega, by omega, rfl, fun j hj => by omega⟩
  case round =>
    obtain ⟨k, hk, hk4, rfl, hx⟩ := hrel
    have HX := Lib.hid hx
    clear hx
    by_cases hlt : k < len
    · obtain ⟨_, c1, _, hm, _⟩ := h k hlt
      unfold maxLen at hm
      have H := Lib.hid h
      clear h
      by_cases h40 : k < 40
      · by_cases hs : (xs k).s.size ≤ 100
        · go_wp2
          go_round
          case rel => exact ⟨k + 1, by omega, by omega, by go_num, fun j hj => by
            rcases (show j < k ∨ j = k by omega) with h | rfl
            · exact HX.out j h
            · exact hs⟩
          case measure => simp [intOf]; omega
        · go_wp2
          go_ret
          exact ⟨false, rfl, by simp, rfl⟩
      · go_wp2
        go_ret
        refine ⟨decide (len ≤ 40), by simp; omega, fun h => ?_, rfl⟩
        have h' : len ≤ 40 := by simpa using h
        exact ⟨h', fun i hi => HX.out i (by omega)⟩
    · obtain rfl : k = len := by omega
      go_wp2
      go_ret
      exact ⟨decide (k ≤ 40), by simp; omega, fun h => ⟨by simpa using h, HX.out⟩, rfl⟩
theorem few_none (cap : Nat) (a : Option Addr) (xs : Nat → Act21) (w : World) : Calls Try.prog 20 #[.slice a 0 cap] w (FewSays 0 xs w) := by
  go_enter Try.func20, Try.ntmps20
  go_wp2
  go_loop [3] (fun i => i = .int .i64 0) (fun _ => 0)
  case atStart => exact rfl
  case round =>
    subst hrel
    go_wp2
    go_ret
    exact ⟨true, rfl, fun _ => ⟨by omega, fun i hi => by omega⟩, rfl⟩

/-- How a disk of the call's own goes on: nothing older has changed. -/
theorem now_below {w0 w w' : World} {g : Nat} {o o' : Option Nat} {l l' : List UInt8} {sure room sure' : Nat} (hb : Below w0.heap.size w0 w) (hd : IsDisk w w0.heap.size g o l sure room) (hg : w0.heap.size ≤ g)
    (hf : Fr (g :: o.toList) w w') (_hd' : IsDisk w' w0.heap.size g o' l' sure' room) : Below w0.heap.size w0 w' := by
  refine hf.later hb (fun b hm => ?_) hb.size
  rcases List.mem_cons.1 hm with rfl | hm
  · exact hg
  · exact (hd.lt.2 b (by cases o with | none => cases hm | some k => simp at hm; rw [hm])).1
set_option maxHeartbeats 1000000 in
theorem awake21 (w : World) : Calls Try.prog 21 #[] w fun e w' => e = .returned (.bool true) ∧ Below w.heap.size w w' := by
  go_enter Try.func21, Try.ntmps21
  go_wp2_with fail
  refine (disk_new 5 (by omega)).mono ?_
  rintro e w1 ⟨rfl, hw1⟩
  have hd : IsDisk w1 w.heap.size w.heap.size none [] 0 5 := hw1 ▸ ⟨⟨_, Blk.made w 39 _, .inl ⟨rfl, rfl⟩, rfl⟩, Nat.le_refl _, by simp, by omega⟩
  have hb : Below w.heap.size w w1 := hw1 ▸ (Below.refl _ _).alloc (Nat.le_refl _) _
  have HD := Lib.hid hd
  have HB := Lib.hid hb
  clear hd hb hw1
  go_wp2_with fail
  refine (disk_append HD.out HB.out.size _ (by decide) (by decide)).mono ?_
  rintro e w2 ⟨rfl, hf, o2, hd, ho⟩
  have HB2 := Lib.hid (now_below HB.out HD.out (Nat.le_refl _) hf hd)
  have HD2 := Lib.hid hd
  clear hf hd ho
  go_wp2_with fail
  refine (disk_sync HD2.out).mono ?_
  rintro e w3 ⟨rfl, hf, o3, hd, ho⟩
  have HB3 := Lib.hid (now_below HB2.out HD2.out (Nat.le_refl _) hf hd)
  have HD3 := Lib.hid hd
  clear hf hd ho
  go_wp2_with fail
  refine (disk_append HD3.out HB3.out.size _ (by decide) (by decide)).mono ?_
  rintro e w4 ⟨rfl, hf, o4, hd, ho⟩
  have HB4 := Lib.hid (now_below HB3.out HD3.out (Nat.le_refl _) hf hd)
  have HD4 := Lib.hid hd
  clear hf hd ho
  go_wp2_with fail
  refine (disk_append_no HD4.out _ (by decide) (by decide)).mono ?_
  rintro e w5 ⟨rfl, hf, o5, hd, ho⟩
  have HB5 := Lib.hid (now_below HB4.out HD4.out (Nat.le_refl _) hf hd)
  have HD5 := Lib.hid hd
  clear hf hd ho
  go_wp2_with fail
  refine (disk_crash HD5.out 1 (by omega) (by decide)).mono ?_
  rintro e w6 ⟨rfl, hf, o6, hd, ho⟩
  have HB6 := Lib.hid (now_below HB5.out HD5.out (Nat.le_refl _) hf hd)
  have hd' : IsDisk w6 w.heap.size w.heap.size o6 [97, 98, 99] 3 5 := hd
  have HD6 := Lib.hid hd'
  clear hf hd hd' ho
  go_wp2_with fail
  refine (disk_bytes HD6.out).mono ?_
  rintro e w7 ⟨rfl, hf⟩
  have HD7 := Lib.hid (HD6.out.then hf)
  have HB7 := Lib.hid (hf.later HB6.out (by simp) HB6.out.size)
  clear hf
  go_wp2_with fail
  refine (disk_sure HD7.out).mono ?_
  rintro e w8 ⟨rfl, hf⟩
  have HD8 := Lib.hid (HD7.out.then hf)
  have HB8 := Lib.hid (hf.later HB7.out (by simp) HB7.out.size)
  clear hf
  go_wp2_with fail
  refine (disk_room HD8.out).mono ?_
  rintro e w9 ⟨rfl, hf⟩
  have HB9 := Lib.hid (hf.later HB8.out (by simp) HB8.out.size)
  clear hf
  go_wp2
  go_ret
  exact ⟨rfl, HB9.out⟩
end Go.Proofs.Ytbicoiciapngdaa

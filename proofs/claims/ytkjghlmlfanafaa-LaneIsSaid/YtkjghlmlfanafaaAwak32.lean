/- What is proved here: the statements of layer 32 are awake, and PickNumbers answers true. Condition: none but that texts are texts. -/
import Derived.Test.YtkjghlmlfanafaaRLeast32
import Derived.Test.YtkjghlmlfanafaaHash32
namespace Go.Proofs.Ytkjghlmlfanafaa
open Go.RowKit Go.Extern.Stop Go.Stop Go.Extern
section
variable {w w' : World} {A B : Option Addr} {L F : List ByteArray}
theorem lt_of_cell {w : World} {g o : Nat} {v : Value} (h : w.cell? ⟨g, o, none⟩ = some v) : g < w.heap.size := by
  rcases Nat.lt_or_ge g w.heap.size with hlt | hge
  · exact hlt
  · simp [World.cell?, Array.getElem?_eq_none hge] at h
theorem SRd.below (h : SRd w A L) (hb : Below w.heap.size w w') : SRd w' A L := by
  intro hp
  obtain ⟨g, off, e, hc⟩ := h hp
  refine ⟨g, off, e, fun k hk => ?_⟩
  have := hc k hk
  rw [World.cell?_of_block (w := w) (hb.block g (lt_of_cell this))]
  exact this
theorem SRd.alloc (h : SRd w A L) (o : Obj) : SRd (w.alloc o) A L := h.below ((Below.refl _ w).alloc (Nat.le_refl _) o)
theorem srd_made (w : World) (L : List ByteArray) : SRd (w.alloc (.cells (L.map Value.string).toArray 9)) (some ⟨w.heap.size, 0, none⟩) L := by
  intro _
  refine ⟨_, 0, rfl, fun k hk => ?_⟩
  rw [Nat.zero_add, (Blk.made w 9 _).cell k]
  simp [List.getD_eq_getElem?_getD, List.getElem?_eq_getElem hk]
theorem srd_three (w : World) (a b c : ByteArray) {g : Nat} (hg : g = w.heap.size) : SRd (w.alloc (.cells #[.string a, .string b, .string c] 9)) (some ⟨g, 0, none⟩) [a, b, c] := by subst hg; exact srd_made w [a, b, c]
theorem srd_two (w : World) (a b : ByteArray) {g : Nat} (hg : g = w.heap.size) : SRd (w.alloc (.cells #[.string a, .string b] 9)) (some ⟨g, 0, none⟩) [a, b] := by subst hg; exact srd_made w [a, b]
theorem srd_one (w : World) (a : ByteArray) {g : Nat} (hg : g = w.heap.size) : SRd (w.alloc (.cells #[.string a] 9)) (some ⟨g, 0, none⟩) [a] := by subst hg; exact srd_made w [a]
def sA : ByteArray := ⟨#[97]⟩
def sB : ByteArray := ⟨#[98]⟩
def sC : ByteArray := ⟨#[99]⟩
def zA : Nat → Int := fun k => if k = 0 then 2 else 1
theorem ird_made (w : World) {g : Nat} (hg : g = w.heap.size) : IRd (w.alloc (.cells #[.int .i64 2, .int .i64 1] 3)) (some ⟨g, 0, none⟩) 2 zA := by
  subst hg
  intro _
  refine ⟨_, 0, rfl, fun k hk => ?_⟩
  rw [Nat.zero_add, (Blk.made w 3 _).cell k]
  rcases k with _ | _ | k
  · rfl
  · rfl
  · omega
theorem a_mix0 (W : World) : Calls Try.prog 29 #[.string ⟨#[]⟩] W fun x w' => x = .returned (.int .i64 2166136261) ∧ W = w' :=
  (mix_any ⟨#[]⟩ W (by decide)).mono fun _ _ ⟨e, h⟩ => ⟨e.trans (ret_int (by rw [show mixF ⟨#[]⟩ = 2166136261 by decide +kernel]; rfl)), h⟩
theorem a_mix1 (W : World) : Calls Try.prog 29 #[.string ⟨#[97]⟩] W fun x w' => x = .returned (.int .i64 3826002220) ∧ W = w' :=
  (mix_any ⟨#[97]⟩ W (by decide)).mono fun _ _ ⟨e, h⟩ => ⟨e.trans (ret_int (by rw [show mixF ⟨#[97]⟩ = 3826002220 by decide +kernel]; rfl)), h⟩
theorem a_mix2 (W : World) : Calls Try.prog 29 #[.string ⟨#[0]⟩] W fun x w' => x = .returned (.int .i64 84696351) ∧ W = w' :=
  (mix_any ⟨#[0]⟩ W (by decide)).mono fun _ _ ⟨e, h⟩ => ⟨e.trans (ret_int (by rw [show mixF ⟨#[0]⟩ = 84696351 by decide +kernel]; rfl)), h⟩
theorem a_rank (W : World) : Calls Try.prog 31 #[.string ⟨#[]⟩, .string ⟨#[]⟩] W fun x w' => x = .returned (.int .i64 84696351) ∧ W = w' :=
  (rank_any ⟨#[]⟩ ⟨#[]⟩ W (by decide) (by decide)).mono fun _ _ ⟨e, h⟩ => ⟨e.trans (ret_int (by rw [show rankF ⟨#[]⟩ ⟨#[]⟩ = 84696351 by decide +kernel]; rfl)), h⟩
theorem a_robin (W : World) (A B : Option Addr) (h : SRd W A [sA, sB, sC]) (h2 : SRd W B [sA, sC]) : Calls Try.prog 34 #[.slice A 3 3, .slice B 2 2, .string ⟨#[97]⟩] W fun x w' => x = .returned (.string ⟨#[99]⟩) ∧ W = w' :=
  (robin_any h 3 3 rfl (by omega) h2 2 2 rfl (by omega) sA).mono fun _ _ ⟨e, hw⟩ => ⟨e.trans (ret_str (show robF [sA, sB, sC] [sA, sC] sA = sC by decide +kernel)), hw⟩
theorem a_least (W : World) (A B : Option Addr) (h : SRd W A [sA, sB]) (h2 : IRd W B 2 zA) : Calls Try.prog 38 #[.slice A 2 2, .slice B 2 2] W fun x w' => x = .returned (.string ⟨#[98]⟩) ∧ W = w' :=
  (least_any h 2 2 rfl (by omega) 2 2 zA h2 (by omega)).mono fun _ _ ⟨e, hw⟩ => ⟨e.trans (ret_str (show leastF [sA, sB] 2 zA = sB by decide +kernel)), hw⟩
theorem a_hash (W : World) (A : Option Addr) (h : SRd W A [sA]) : Calls Try.prog 36 #[.slice A 1 1, .string ⟨#[107]⟩] W fun x w' => x = .returned (.string ⟨#[97]⟩) ∧ W = w' :=
  (hash_any h 1 1 rfl (by omega) (by intro s hs; obtain rfl := List.mem_singleton.1 hs; decide) ⟨#[107]⟩ (by decide)).mono fun _ _ ⟨e, hw⟩ => ⟨e.trans (ret_str (show hashF [sA] ⟨#[107]⟩ = sA by decide +kernel)), hw⟩
set_option maxHeartbeats 1000000 in
theorem awake32 (w : World) : Calls Try.prog 28 #[] w fun x w' => x = .returned (.bool true) ∧ Below w.heap.size w w' := by
  have hz : Below w.heap.size w w := Below.refl _ _
  go_enter Try.func28, Try.ntmps28
  go_wp2_with fail
  refine (a_mix0 _).mono ?_
  rintro x w1 ⟨rfl, rfl⟩
  go_wp2_with fail
  refine (a_mix1 _).mono ?_
  rintro x w1 ⟨rfl, rfl⟩
  go_wp2_with fail
  refine (a_robin _ _ _ ((srd_three w ⟨#[97]⟩ ⟨#[98]⟩ ⟨#[99]⟩ rfl).alloc _) (srd_two _ ⟨#[97]⟩ ⟨#[99]⟩ (by simp))).mono ?_
  rintro x w1 ⟨rfl, rfl⟩
  have hz2 := (hz.alloc hz.size (.cells #[.string ⟨#[97]⟩, .string ⟨#[98]⟩, .string ⟨#[99]⟩] 9)).alloc (hz.alloc hz.size _).size (.cells #[.string ⟨#[97]⟩, .string ⟨#[99]⟩] 9)
  generalize (w.alloc (.cells #[.string ⟨#[97]⟩, .string ⟨#[98]⟩, .string ⟨#[99]⟩] 9)).alloc (.cells #[.string ⟨#[97]⟩, .string ⟨#[99]⟩] 9) = w2 at *
  go_wp2_with fail
  refine (a_least _ _ _ ((srd_two w2 ⟨#[97]⟩ ⟨#[98]⟩ rfl).alloc _) (ird_made _ (by simp))).mono ?_
  rintro x w1 ⟨rfl, rfl⟩
  have hz3 := (hz2.alloc hz2.size (.cells #[.string ⟨#[97]⟩, .string ⟨#[98]⟩] 9)).alloc (hz2.alloc hz2.size _).size (.cells #[.int .i64 2, .int .i64 1] 3)
  generalize (w2.alloc (.cells #[.string ⟨#[97]⟩, .string ⟨#[98]⟩] 9)).alloc (.cells #[.int .i64 2, .int .i64 1] 3) = w3 at *
  clear hz2
  go_wp2_with fail
  refine (a_hash _ _ (srd_one w3 ⟨#[97]⟩ rfl)).mono ?_
  rintro x w1 ⟨rfl, rfl⟩
  have hz4 := hz3.alloc hz3.size (.cells #[.string ⟨#[97]⟩] 9)
  generalize w3.alloc (.cells #[.string ⟨#[97]⟩] 9) = w4 at *
  clear hz3
  go_wp2_with fail
  refine (a_rank _).mono ?_
  rintro x w1 ⟨rfl, rfl⟩
  go_wp2_with fail
  refine (a_mix2 _).mono ?_
  rintro x w1 ⟨rfl, rfl⟩
  go_wp2_with fail
  go_ret
  exact ⟨rfl, hz4⟩
end
section
theorem pickNumbers_walk (a b : ByteArray) (w : World) (ha : a.size ≤ maxLen) (hb : b.size ≤ maxLen) : Calls Try.prog 6 #[.string a, .string b] w fun x w' => x = .returned (.bool true) ∧ Below w.heap.size w w' := by
  unfold maxLen at ha hb
  have CA := Lib.hid awake32
  by_cases h : a.size ≤ 200 ∧ b.size ≤ 200
  · obtain ⟨h1, h2⟩ := h
    have M1 := Lib.hid (fun W => mix_any a W (by omega))
    have M2 := Lib.hid (fun W => rmix_any a W (by omega))
    have R1 := Lib.hid (fun W => rank_any a b W (by omega) (by omega))
    have R2 := Lib.hid (fun W => rrank_any a b W (by omega) (by omega))
    generalize mixF a = m at *
    generalize rankF a b = r at *
    go_enter Try.func6, Try.ntmps6
    go_wp2_with fail
    refine (M1.out _).mono ?_
    rintro x w1 ⟨rfl, rfl⟩
    go_wp2_with fail
    refine (M2.out _).mono ?_
    rintro x w1 ⟨rfl, rfl⟩
    go_wp2_with fail
    refine (R1.out _).mono ?_
    rintro x w1 ⟨rfl, rfl⟩
    go_wp2_with fail
    refine (R2.out _).mono ?_
    rintro x w1 ⟨rfl, rfl⟩
    go_wp2_with fail
    refine (CA.out _).mono ?_
    rintro x w1 ⟨rfl, hb⟩
    have HB := Lib.hid hb
    clear hb
    go_wp2_with fail
    go_ret
    exact ⟨rfl, HB.out⟩
  · by_cases h1 : a.size ≤ 200
    · go_enter Try.func6, Try.ntmps6
      go_wp2_with fail
      refine (CA.out _).mono ?_
      rintro x w1 ⟨rfl, hb⟩
      have HB := Lib.hid hb
      clear hb
      go_wp2_with fail
      go_ret
      exact ⟨rfl, HB.out⟩
    · clear h
      go_enter Try.func6, Try.ntmps6
      go_wp2_with fail
      refine (CA.out _).mono ?_
      rintro x w1 ⟨rfl, hb⟩
      have HB := Lib.hid hb
      clear hb
      go_wp2_with fail
      go_ret
      exact ⟨rfl, HB.out⟩
end
end Go.Proofs.Ytkjghlmlfanafaa

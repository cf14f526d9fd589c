/- What is proved here: what the package's four functions answer, of the landed code. No conditions beyond the numbers' range. -/
import Derived.Test.YtfaldlamjbiciaaMask05
import Derived.Test.YtfaldlamjbiciaaLaw05
namespace Go.Proofs.Ytfaldlamjbiciaa
open Go.RowKit

theorem mask_pairs : ∀ g ∈ [] :: codeTable.map (·.2), ∀ l ∈ letters, (bits BinOp.and IntKind.i64 (maskOf g : Nat) (maskOf l : Nat) != 0) = among l g := by decide +kernel
theorem groups_in (c : Int) : groupsOf c ∈ [] :: codeTable.map (·.2) := by
  unfold groupsOf
  split
  · exact List.mem_cons_self ..
  · cases hf : codeTable.find? fun x => x.1 == c.toNat with
    | none => exact List.mem_cons_self ..
    | some y => exact List.mem_cons_of_mem _ (List.mem_map_of_mem (List.mem_of_find?_eq_some hf))
theorem letter_in (k : Int) : letterOf k ∈ letters := by
  unfold letterOf
  split
  · decide
  · by_cases hj : k.toNat < letters.length
    · rw [List.getD_eq_getElem?_getD, List.getElem?_eq_getElem hj]
      exact List.getElem_mem hj
    · rw [List.getD_eq_getElem?_getD, List.getElem?_eq_none (by omega)]
      show [] ∈ letters
      decide

set_option maxHeartbeats 1000000 in
theorem rs_allowed (k c : Int) (w : World) : Calls Try.prog 7 #[.int .i64 k, .int .i64 c] w fun x w' => x = .returned (.bool (allowedB k c)) ∧ w = w' := by
  have H1 := Lib.hid (fun w => mask_any c w)
  have H2 := Lib.hid (fun w => kind_any k w)
  have H3 := Lib.hid (mask_pairs _ (groups_in c) _ (letter_in k))
  unfold allowedB
  unfold MaskSays at H1
  unfold KindSays at H2
  generalize maskOf (groupsOf c) = m1 at *
  generalize maskOf (letterOf k) = m2 at *
  go_enter Try.func7, Try.ntmps7
  go_wp2_with fail
  refine (H1.out _).mono ?_
  rintro x w1 ⟨rfl, rfl⟩
  go_wp2_with fail
  refine (H2.out _).mono ?_
  rintro x w1 ⟨rfl, rfl⟩
  go_wp2
  go_ret
  exact ⟨ret_bool H3.out, rfl⟩

theorem rs_bad (c : Int) (w : World) : Calls Try.prog 9 #[.int .i64 c] w fun x w' => x = .returned (.bool (badB c)) ∧ w = w' := by
  unfold badB
  by_cases h1 : 128 ≤ c
  · by_cases h2 : c ≤ 255
    · have e : decide (128 ≤ c ∧ c ≤ 255) = true := decide_eq_true ⟨h1, h2⟩
      rw [e]
      go_enter Try.func9, Try.ntmps9
      go_wp2
      go_ret
      exact ⟨rfl, rfl⟩
    · have e : decide (128 ≤ c ∧ c ≤ 255) = false := decide_eq_false (by omega)
      have h3 : 255 < c := by omega
      rw [e]
      clear h2
      go_enter Try.func9, Try.ntmps9
      go_wp2
      go_ret
      exact ⟨ret_bool (by simp; omega), rfl⟩
  · have e : decide (128 ≤ c ∧ c ≤ 255) = false := decide_eq_false (by omega)
    have h3 : c < 128 := by omega
    rw [e]
    clear h1
    go_enter Try.func9, Try.ntmps9
    go_wp2
    go_ret
    exact ⟨rfl, rfl⟩

theorem rs_close (c : Int) (w : World) : Calls Try.prog 11 #[.int .i64 c] w fun x w' => x = .returned (.int .i64 (closeOf c)) ∧ w = w' := by
  have HB := Lib.hid (fun w => rs_bad c w)
  have HA := Lib.hid (fun w => rs_allowed 14 c w)
  unfold closeOf
  generalize badB c = b at *
  generalize allowedB 14 c = a at *
  cases b
  · go_enter Try.func11, Try.ntmps11
    go_wp2_with fail
    refine (HB.out _).mono ?_
    rintro x w' ⟨rfl, rfl⟩
    go_wp2
    go_ret
    exact ⟨rfl, rfl⟩
  · cases a
    all_goals go_enter Try.func11, Try.ntmps11
    all_goals go_wp2_with fail
    all_goals refine (HB.out _).mono ?_
    all_goals rintro x w' ⟨rfl, rfl⟩
    all_goals go_wp2_with fail
    all_goals refine (HA.out _).mono ?_
    all_goals rintro x w' ⟨rfl, rfl⟩
    all_goals go_wp2
    all_goals go_ret
    all_goals exact ⟨rfl, rfl⟩

set_option maxRecDepth 100000 in
set_option maxHeartbeats 1000000 in
theorem rs_all (k : Int) (w : World) : Calls Try.prog 15 #[.int .i64 k] w fun x w' => ∃ v, x = .returned v ∧ w'.ownsRow w.heap.size 3 1 v (codesUpTo k 256).length ((codesUpTo k 256).map intV) ∧ Below w.heap.size w w' := by
  obtain ⟨i0, hi0, hz0, hz1, hz2⟩ := info_parts Try.intInfo
  go_enter Try.func15, Try.ntmps15
  go_wp2
  go_loopg [3, 5] 256 (fun n v i wr => ∃ j : Nat, n = 256 - j ∧ j ≤ 256 ∧ i = .int .i64 j ∧ wr.ownsRow w.heap.size 3 1 v (codesUpTo k j).length ((codesUpTo k j).map intV) ∧ Below w.heap.size w wr)
  case atStart => exact ⟨0, rfl, by omega, rfl, ⟨rfl, .inl ⟨rfl, rfl⟩⟩, Below.refl _ _⟩
  case round =>
    obtain ⟨j, rfl, hj, rfl, hown, hb⟩ := hrel
    have HO := Lib.hid hown
    have HB := Lib.hid hb
    clear hown hb
    by_cases hlt : j < 256
    · have hlen := codes_len k j
      have HA := Lib.hid (fun w => rs_allowed k j w)
      have hstep : codesUpTo k (j + 1) = if allowedB k j then codesUpTo k j ++ [(j : Int)] else codesUpTo k j := rfl
      have HS := Lib.hid hstep
      clear hstep
      generalize allowedB k j = a at *
      cases a
      · go_wp2_with fail
        refine (HA.out _).mono ?_
        rintro x w1 ⟨rfl, rfl⟩
        have HO1 : Hid (wr.ownsRow w.heap.size 3 1 u3 (codesUpTo k (j + 1)).length ((codesUpTo k (j + 1)).map intV)) := by
          rw [HS.out]
          exact HO.out
        go_wp2
        go_roundg (256 - (j + 1))
        case rel => exact ⟨j + 1, rfl, hlt, by go_num, HO1.out, HB.out⟩
        case measure => omega
      · go_wp2_with fail
        refine (HA.out _).mono ?_
        rintro x w1 ⟨rfl, rfl⟩
        go_wp2_with (at_builtin; refine wpList_append_own _ rfl _ _ 27 rfl w.heap.size 3 i0 (.int .i64 0) 1 8 Try.underlying27 hi0 hz0 hz1 hz2 rfl (by decide) _ _ _ rfl (HO.out.alloc _) ⟨wr.heap.size, 0, none⟩ 1 1 [.int .i64 (j : Int)] rfl rfl ?c1 ?c2 ?c3 ?c4 ?c5 ?_)
        case c1 => exact cell_one_new _ _ _
        case c2 => simp [Value.oneCell']
        case c3 => unfold maxLen; omega
        case c4 => omega
        case c5 => have := HB.out.size; simp; omega
        intro v' w2 hown2 hgrow _
        have HO2 : Hid (w2.ownsRow w.heap.size 3 1 v' (codesUpTo k (j + 1)).length ((codesUpTo k (j + 1)).map intV)) := by
          rw [HS.out]
          simp only [if_true, List.map_append, List.length_append]
          exact hown2
        have hsz : w.heap.size ≤ wr.heap.size := HB.out.size
        have HB2 : Hid (Below w.heap.size w w2) := (HB.out.alloc hsz _).grown hgrow (by rw [World.size_alloc]; omega) (fun g hg => (HO.out.lt g hg).1)
        clear hown2 hgrow
        go_wp2
        go_roundg (256 - (j + 1))
        case rel => exact ⟨j + 1, rfl, hlt, by go_num, HO2.out, HB2.out⟩
        case measure => omega
    · obtain rfl : j = 256 := by omega
      go_wp2
      go_ret
      exact ⟨_, rfl, HO.out, HB.out⟩

theorem says05 : ReasonSays where
  allowed := fun k c w _ _ _ _ => (rs_allowed k c w).mono fun _ _ h => ⟨h.1, h.2 ▸ Below.refl _ _⟩
  bad := fun c w _ _ => (rs_bad c w).mono fun _ _ h => ⟨h.1, h.2 ▸ Below.refl _ _⟩
  close := fun c w _ _ => (rs_close c w).mono fun _ _ h => ⟨h.1, h.2 ▸ Below.refl _ _⟩
  all := fun k w _ _ => rs_all k w
end Go.Proofs.Ytfaldlamjbiciaa

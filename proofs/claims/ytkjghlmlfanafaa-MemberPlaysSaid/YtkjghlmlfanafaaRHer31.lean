/- What is proved here: the document's own Here, Owner and Get on members, and that the same members and texts are told the same. Conditions: the members are there; few of them. -/
import Derived.Test.YtkjghlmlfanafaaRDo31
namespace Go.Proofs.Ytkjghlmlfanafaa
open Go.RowKit Go.Extern.Stop Go.Stop Go.Extern
section
variable {w w' : World} {g : Nat} {v : Value} {L : ML} {gen : Nat}
set_option maxHeartbeats 1000000 in
theorem rhere_any (h : RObj w g v L gen) (hm : L.length ≤ 900) : Calls Try.prog 23 #[.pointer (some ⟨g, 0, none⟩)] w (HereSays w L) := by
  obtain ⟨hblk, a, cp, rfl, hrd⟩ := h
  obtain ⟨n, hn⟩ : ∃ n, n = L.length := ⟨_, rfl⟩
  rw [← hn] at hblk hm
  have HN := Lib.hid hn
  have HBLK := Lib.hid hblk
  have HR := Lib.hid hrd
  clear hn hblk hrd
  go_enter Try.func23, Try.ntmps23
  go_wp2_with fail
  go_loopw [3, 4] (fun v i wr => ∃ k : Nat, k ≤ n ∧ i = .int .i64 k ∧ Row wr w.heap.size v (hereOf (L.take k)) ∧ Below w.heap.size w wr) (fun _ i _ => n - (intOf i).toNat)
  case atStart => exact ⟨0, by omega, rfl, Row.nil _ _, Below.refl _ _⟩
  case round =>
    obtain ⟨k, hk, rfl, hrow, hb1⟩ := hrel
    obtain ⟨va, vc, rfl⟩ := hrow.form
    have hl := Nat.le_trans (here_len (L.take k)) (by rw [List.length_take]; exact Nat.min_le_left _ _)
    have d0 := (HBLK.out.below hb1 HBLK.out.lt).cell 0
    by_cases hlt : k < n
    · have hkL : k < L.length := by have := HN.out; omega
      obtain ⟨g1, off, rfl, hcc⟩ := HR.out (by omega)
      obtain ⟨c1, c2, c3, c4⟩ := hcc k hkL
      have hgb := hb1.block g1 (lt_of_cell c1)
      have c1' := (World.cell?_of_block (w := w) (w' := wr) hgb).trans c1
      have c4' := (World.cell?_of_block (w := w) (w' := wr) hgb).trans c4
      have hht := here_take hkL
      clear c1 c2 c3 c4 hgb hcc hkL
      obtain ⟨m, hm⟩ : ∃ m, m = L.getD k m0 := ⟨_, rfl⟩
      rw [← hm] at c1' c4' hht
      have HB1 := Lib.hid hb1
      have HRW := Lib.hid hrow
      clear hrow hb1 hm
      cases hon : m.on with
      | true =>
        rw [hon] at hht c4'
        have HT := Lib.hid hht
        clear hht hon
        go_wp2_with (at_builtin; go_must (refine append_row rfl _ _ rfl (HB1.out.alloc HB1.out.size _) (HRW.out.alloc _) rfl ⟨wr.heap.size, 0, none⟩ 1 1 rfl rfl (srd_one _ m.client (by simp)) (by simp; omega) ?_))
        intro v5 w5 h5 hb5
        have H5 := Lib.hid h5
        have HB5 := Lib.hid hb5
        clear h5 hb5
        go_wp2_with fail
        go_roundw
        case rel => exact ⟨k + 1, by omega, by go_num, by rw [HT.out]; exact H5.out, HB5.out⟩
        case measure => simp [intOf]; omega
      | false =>
        rw [hon] at hht c4'
        have HT := Lib.hid hht
        clear hht hon
        go_wp2_with fail
        go_roundw
        case rel => exact ⟨k + 1, by omega, by go_num, by rw [HT.out]; simpa using HRW.out, HB1.out⟩
        case measure => simp [intOf]; omega
    · have HE := Lib.hid (show Row wr w.heap.size (.slice va (hereOf (L.take k)).length vc) (hereOf L) ∧ Below w.heap.size w wr from by
        have e : L.take k = L := List.take_of_length_le (by have := HN.out; omega)
        rw [e] at hrow ⊢
        exact ⟨hrow, hb1⟩)
      clear hrow hb1
      go_wp2_with fail
      go_ret
      exact ⟨_, rfl, HE.out.1, HE.out.2⟩
theorem rowner_any (h : RObj w g v L gen) (hm : L.length ≤ 900) : Calls Try.prog 25 #[.pointer (some ⟨g, 0, none⟩)] w fun x w' => x = .returned (.string ((hereOf L).getD 0 e0)) ∧ Below w.heap.size w w' := by
  have HH := Lib.hid (rhere_any h hm)
  clear h
  have hl := Nat.le_trans (here_len L) hm
  clear hm
  go_enter Try.func25, Try.ntmps25
  go_wp2_with fail
  refine HH.out.mono ?_
  rintro x w1 ⟨v', rfl, hr, hb⟩
  obtain ⟨va, vc, rfl⟩ := hr.form
  have HR := Lib.hid hr.rd
  have HB := Lib.hid hb
  clear hr hb
  by_cases hp : 0 < (hereOf L).length
  · obtain ⟨g1, off, rfl, hcc⟩ := HR.out hp
    have c0 : w1.cell? ⟨g1, off, none⟩ = some (.string ((hereOf L).getD 0 e0)) := hcc 0 hp
    obtain ⟨y, hy⟩ : ∃ y, y = (hereOf L).getD 0 e0 := ⟨_, rfl⟩
    rw [← hy] at c0
    have HY := Lib.hid hy
    clear hcc HR hy
    go_wp2_with fail
    go_ret
    exact ⟨ret_str HY.out, HB.out⟩
  · have he : hereOf L = [] := List.eq_nil_of_length_eq_zero (by omega)
    have HY := Lib.hid (show (⟨#[]⟩ : ByteArray) = (hereOf L).getD 0 e0 by rw [he]; rfl)
    rw [he]
    simp only [List.length_nil]
    clear hl hp HR he
    go_wp2_with fail
    go_ret
    exact ⟨ret_str HY.out, HB.out⟩
theorem rget_any (h : RObj w g v L gen) (hm : L.length ≤ 900) (c : ByteArray) : Calls Try.prog 18 #[.pointer (some ⟨g, 0, none⟩), .string c] w (GetSays w L c) := by
  obtain ⟨w1, hw1⟩ : ∃ w1, w1 = w.alloc (.cells #[.string ⟨#[]⟩, .int .i64 0, .int .i64 0, .bool false] 37) := ⟨_, rfl⟩
  have hb0 : Below w.heap.size w w1 := by rw [hw1]; exact (Below.refl _ _).alloc (Nat.le_refl _) _
  have hv1 : Blk w1 w.heap.size 37 #[.string ⟨#[]⟩, .int .i64 0, .int .i64 0, .bool false] := by rw [hw1]; exact Blk.made w 37 _
  have h2 := h.below hb0
  obtain ⟨k0, hk0⟩ : ∃ k0, k0 = w.heap.size := ⟨_, rfl⟩
  rw [← hk0] at hv1 hb0
  obtain ⟨hblk, a, cp, rfl, hrd⟩ := h2
  obtain ⟨n, hn⟩ : ∃ n, n = L.length := ⟨_, rfl⟩
  rw [← hn] at hblk hm
  have HN := Lib.hid hn
  have HK := Lib.hid hk0
  have HB := Lib.hid hb0
  have HV1 := Lib.hid hv1
  have d0 : w1.cell? ⟨g, 0, none⟩ = some (.slice a n cp) := hblk.cell 0
  have f0 := hv1.frozen 0
  have f1 := hv1.frozen 1
  have f2 := hv1.frozen 2
  have f3 := hv1.frozen 3
  have x0 := hv1.cell 0
  have x1 := hv1.cell 1
  have x2 := hv1.cell 2
  have x3 := hv1.cell 3
  have HR := Lib.hid hrd
  clear hn hblk hrd h hb0 hv1
  go_enter Try.func18, Try.ntmps18
  go_wp2_with fail
  rw [← hw1, ← hk0]
  clear hw1 hk0
  go_loopw [6] (fun i wr => ∃ k : Nat, k ≤ n ∧ i = .int .i64 k ∧ wr = w1 ∧ Hid (∀ j, j < k → (L.getD j m0).client ≠ c)) (fun i _ => n - (intOf i).toNat)
  case atStart => exact ⟨0, by omega, rfl, rfl, Lib.hid fun j hj => absurd hj (by omega)⟩
  case round =>
    obtain ⟨k, hk, rfl, rfl, HP⟩ := hrel
    by_cases hlt : k < n
    · have hkL : k < L.length := by have := HN.out; omega
      obtain ⟨g1, off, rfl, hcc⟩ := HR.out (by omega)
      obtain ⟨c1, c2, c3, c4⟩ := hcc k hkL
      have he := eq_text (L.getD k m0).client c
      by_cases hv : (L.getD k m0).client = c
      · rw [decide_eq_true hv] at he
        have HE := Lib.hid (fun W (hW : Below w.heap.size w W) => show GetSays w L c (.returned (.tuple #[(L.getD k m0).agg, .bool true])) W from .inl ⟨k, idxM_at hkL hv HP.out, hkL, rfl, hW⟩)
        clear hv hcc
        unfold MV.agg at HE
        generalize L.getD k m0 = m at *
        have hst := ((((HV1.out.store 0 (.string m.client)).store 1 (.int .i64 m.since)).store 2 (.int .i64 m.qos)).store 3 (.bool m.on))
        have r0 := hst.cell 0
        have r1 := hst.cell 1
        have r2 := hst.cell 2
        have r3 := hst.cell 3
        simp at r0 r1 r2 r3
        have HFR := Lib.hid (show Below w.heap.size w ((((wr.setCell ⟨k0, 0, none⟩ (.string m.client)).setCell ⟨k0, 1, none⟩ (.int .i64 m.since)).setCell ⟨k0, 2, none⟩ (.int .i64 m.qos)).setCell ⟨k0, 3, none⟩ (.bool m.on)) from by
          have hk := HK.out
          have hb := HB.out
          rw [hk] at hb
          exact ((((hb.setCell (p := ⟨k0, 0, none⟩) (by simp [hk]) _).setCell (p := ⟨k0, 1, none⟩) (by simp [hk]) _).setCell (p := ⟨k0, 2, none⟩) (by simp [hk]) _).setCell (p := ⟨k0, 3, none⟩) (by simp [hk]) _))
        have R0 := Lib.hid r0
        have R1 := Lib.hid r1
        have R2 := Lib.hid r2
        have R3 := Lib.hid r3
        clear hst r0 r1 r2 r3
        go_wp2_with fail
        have r0 := R0.out
        have r1 := R1.out
        have r2 := R2.out
        have r3 := R3.out
        exact bodyPost_ret (v := .tuple #[.agg #[.string m.client, .int .i64 m.since, .int .i64 m.qos, .bool m.on], .bool true]) (by simp [results, Try.results18, go_sem, r0, r1, r2, r3]) rfl (HE.out _ HFR.out)
      · rw [decide_eq_false hv] at he
        have HE := Lib.hid (show ∀ j, j < k + 1 → (L.getD j m0).client ≠ c from fun j hj => by
          by_cases hjk : j = k
          · subst hjk; exact hv
          · exact HP.out j (by omega))
        clear hv hcc
        generalize L.getD k m0 = m at *
        go_wp2_with fail
        go_roundw
        case rel => exact ⟨k + 1, by omega, by go_num, trivial, HE⟩
        case measure => simp [intOf]; omega
    · have HE := Lib.hid (fun W (hW : Below w.heap.size w W) => show GetSays w L c (.returned (.tuple #[m0.agg, .bool false])) W from .inr ⟨idxM_no fun j hj => HP.out j (by have := HN.out; omega), rfl, hW⟩)
      unfold MV.agg m0 e0 at HE
      dsimp only at HE
      have hst := ((((HV1.out.store 0 (.string ⟨#[]⟩)).store 1 (.int .i64 0)).store 2 (.int .i64 0)).store 3 (.bool false))
      have r0 := hst.cell 0
      have r1 := hst.cell 1
      have r2 := hst.cell 2
      have r3 := hst.cell 3
      simp at r0 r1 r2 r3
      have HFR := Lib.hid (show Below w.heap.size w ((((wr.setCell ⟨k0, 0, none⟩ (.string ⟨#[]⟩)).setCell ⟨k0, 1, none⟩ (.int .i64 0)).setCell ⟨k0, 2, none⟩ (.int .i64 0)).setCell ⟨k0, 3, none⟩ (.bool false)) from by
        have hk := HK.out
        have hb := HB.out
        rw [hk] at hb
        exact ((((hb.setCell (p := ⟨k0, 0, none⟩) (by simp [hk]) _).setCell (p := ⟨k0, 1, none⟩) (by simp [hk]) _).setCell (p := ⟨k0, 2, none⟩) (by simp [hk]) _).setCell (p := ⟨k0, 3, none⟩) (by simp [hk]) _))
      have R0 := Lib.hid r0
      have R1 := Lib.hid r1
      have R2 := Lib.hid r2
      have R3 := Lib.hid r3
      clear hst r0 r1 r2 r3
      go_wp2_with fail
      have r0 := R0.out
      have r1 := R1.out
      have r2 := R2.out
      have r3 := R3.out
      exact bodyPost_ret (v := .tuple #[.agg #[.string ⟨#[]⟩, .int .i64 0, .int .i64 0, .bool false], .bool false]) (by simp [results, Try.results18, go_sem, r0, r1, r2, r3]) rfl (HE.out _ HFR.out)
end
end Go.Proofs.Ytkjghlmlfanafaa

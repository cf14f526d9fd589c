/- What is proved here: the document's own answer on whether a place may have properties. Conditions: the properties stand where the slices say, few of them. What is proved here: an error and the document's, that are the same, are the same to layer 6's statements. Condition: what the rows list of the package's variables. -/
import Derived.Test.YtnolnhpmpjgnaaaGreatDoorLawA06
import Derived.Test.YtnolnhpmpjgnaaaGreatDoorRegT
import Derived.Deep.QuietTactic
import Derived.BigQuiet
import Derived.Deep.RegionHeld3
namespace Go.Proofs.YtnolnhpmpjgnaaaGreatDoor
set_option maxRecDepth 100000
open Go.RowKit Go.Extern.Stop Go.Stop Go.Extern
theorem fbox3 {W : World} {g : Nat} {t : TypeId} {a b c : Value} (h : Blk W g t #[a, b, c]) (x y z : Value) :
    W.cell? ⟨g, 0, none⟩ = some a ∧ W.cell? ⟨g, 1, none⟩ = some b ∧ W.cell? ⟨g, 2, none⟩ = some c ∧ W.frozen? ⟨g, 0, none⟩ = false ∧ W.frozen? ⟨g, 1, none⟩ = false ∧ W.frozen? ⟨g, 2, none⟩ = false ∧ (W.setCell ⟨g, 0, none⟩ x).cell? ⟨g, 1, none⟩ = some b ∧ (W.setCell ⟨g, 0, none⟩ x).frozen? ⟨g, 1, none⟩ = false ∧ (W.setCell ⟨g, 0, none⟩ x).cell? ⟨g, 2, none⟩ = some c ∧ (W.setCell ⟨g, 0, none⟩ x).frozen? ⟨g, 2, none⟩ = false ∧ ((W.setCell ⟨g, 0, none⟩ x).setCell ⟨g, 1, none⟩ y).cell? ⟨g, 2, none⟩ = some c ∧ ((W.setCell ⟨g, 0, none⟩ x).setCell ⟨g, 1, none⟩ y).frozen? ⟨g, 2, none⟩ = false ∧ (((W.setCell ⟨g, 0, none⟩ x).setCell ⟨g, 1, none⟩ y).setCell ⟨g, 2, none⟩ z).cell? ⟨g, 0, none⟩ = some x ∧ (((W.setCell ⟨g, 0, none⟩ x).setCell ⟨g, 1, none⟩ y).setCell ⟨g, 2, none⟩ z).cell? ⟨g, 1, none⟩ = some y ∧ (((W.setCell ⟨g, 0, none⟩ x).setCell ⟨g, 1, none⟩ y).setCell ⟨g, 2, none⟩ z).cell? ⟨g, 2, none⟩ = some z := by
  have h1 := h.store 0 x
  have h2 := h1.store 1 y
  have h3 := h2.store 2 z
  exact ⟨h.cell 0, h.cell 1, h.cell 2, h.frozen 0, h.frozen 1, h.frozen 2, h1.cell 1, h1.frozen 1, h1.cell 2, h1.frozen 2, h2.cell 2, h2.frozen 2, h3.cell 0, h3.cell 1, h3.cell 2⟩
section
variable {w w' : World} {S : Nat → Addr} {B : Nat} {A : Option Addr} {L : PL}
set_option maxHeartbeats 2000000 in
theorem numbered_any (p : PV) (w : World) : Calls Tryz.prog 59 #[p.agg] w fun x w' => x = .returned (.bool (numI p.id p.n)) ∧ Below w.heap.size w w' := by
  obtain ⟨i, n, ps, pv⟩ := p
  rw [show PV.agg ⟨i, n, ps, pv⟩ = .agg #[.int .i64 i, .int .i64 n, .string ps, .string pv] from rfl]
  have hbk := Blk.made w 98 #[.int .i64 i, .int .i64 n, .string ps, .string pv]
  have b0 := hbk.cell 0
  have b1 := hbk.cell 1
  have HB := Lib.hid ((Below.refl w.heap.size w).alloc (Nat.le_refl _) (.cells #[.int .i64 i, .int .i64 n, .string ps, .string pv] 98))
  clear hbk
  simp only
  by_cases h1 : i ∈ [1, 23, 25, 36, 37, 40, 41, (42 : Int)]
  · have HT := Lib.hid (show numI i n = (decide (n = 0) || decide (n = 1)) from by unfold numI; rw [if_pos h1])
    simp only [List.mem_cons, List.not_mem_nil, or_false] at h1
    by_cases h0 : n = 0
    · subst h0
      rcases h1 with rfl | rfl | rfl | rfl | rfl | rfl | rfl | rfl
      all_goals
        go_enter Tryz.func59, Tryz.ntmps59
        go_wp2
        go_ret
        exact ⟨rfl, HB.out⟩
    · have e0 : (n == 0) = false := beq_eq_false_iff_ne.2 h0
      have HE : Hid ((n == 1) = (decide (n = 0) || decide (n = 1))) := Lib.hid (by simp [h0]; rfl)
      clear h0
      rcases h1 with rfl | rfl | rfl | rfl | rfl | rfl | rfl | rfl
      all_goals
        go_enter Tryz.func59, Tryz.ntmps59
        go_wp2
        go_ret
        rw [HT.out, ← HE.out]
        exact ⟨rfl, HB.out⟩
  · by_cases h2 : i ∈ [11, 33, 35, (39 : Int)]
    · have HT := Lib.hid (show numI i n = decide (0 < n) from by unfold numI; rw [if_neg h1, if_pos h2])
      simp only [List.mem_cons, List.not_mem_nil, or_false] at h2
      clear h1
      rcases h2 with rfl | rfl | rfl | rfl
      all_goals
        go_enter Tryz.func59, Tryz.ntmps59
        go_wp2
        go_ret
        rw [HT.out]
        exact ⟨rfl, HB.out⟩
    · have HT := Lib.hid (show numI i n = true from by unfold numI; rw [if_neg h1, if_neg h2])
      simp only [List.mem_cons, List.not_mem_nil, or_false, not_or] at h1 h2
      obtain ⟨a1, a2, a3, a4, a5, a6, a7, a8⟩ := h1
      obtain ⟨b1, b2, b3, b4⟩ := h2
      have f1 := beq_eq_false_iff_ne.2 a1
      have f2 := beq_eq_false_iff_ne.2 a2
      have f3 := beq_eq_false_iff_ne.2 a3
      have f4 := beq_eq_false_iff_ne.2 a4
      have f5 := beq_eq_false_iff_ne.2 a5
      have f6 := beq_eq_false_iff_ne.2 a6
      have f7 := beq_eq_false_iff_ne.2 a7
      have f8 := beq_eq_false_iff_ne.2 a8
      have g1 := beq_eq_false_iff_ne.2 b1
      have g2 := beq_eq_false_iff_ne.2 b2
      have g3 := beq_eq_false_iff_ne.2 b3
      have g4 := beq_eq_false_iff_ne.2 b4
      clear a1 a2 a3 a4 a5 a6 a7 a8 b1 b2 b3 b4
      go_enter Tryz.func59, Tryz.ntmps59
      go_wp2
      go_ret
      rw [HT.out]
      exact ⟨rfl, HB.out⟩
def GrSays (w : World) (q : Nat × Int) (x : Ending) (w' : World) : Prop := x = .returned (.agg #[.int .i64 (q.1 : Int), .int .i64 q.2, .int .i64 0]) ∧ Below w.heap.size w w'
set_option maxHeartbeats 2000000 in
theorem ground_any (place i : Int) (n c : Nat) (hn : n = L.length) (h : PIn w B A L) (hm : n ≤ 1000) : Calls Tryz.prog 57 #[.int .i64 place, .slice A n c, .int .i64 i] w (GrSays w (idErr place L i)) := by
  have hb0 : Below w.heap.size w (w.alloc (.cells #[.int .i64 0, .int .i64 0, .int .i64 0] 34)) := (Below.refl _ _).alloc (Nat.le_refl _) _
  have hk0 := Blk.made w 34 #[.int .i64 0, .int .i64 0, .int .i64 0]
  by_cases h64 : 64 ≤ n
  · have hq : idErr place L i = (4, 149) := by unfold idErr; rw [if_pos (by omega)]
    rw [hq]
    go_enter Tryz.func57, Tryz.ntmps57
    have hkf := Blk.made w 34 #[.int .i64 4, .int .i64 149, .int .i64 0]
    have z0 := hkf.cell 0
    have z1 := hkf.cell 1
    have z2 := hkf.cell 2
    have HT := Lib.hid ((Below.refl w.heap.size w).alloc (Nat.le_refl _) (.cells #[.int .i64 4, .int .i64 149, .int .i64 0] 34))
    clear hkf
    clear hq h hn hm hk0 hb0
    go_wp2_with fail
    exact bodyPost_ret (v := .agg #[.int .i64 4, .int .i64 149, .int .i64 0]) (by simp [results, Tryz.results57, go_sem, z0, z1, z2]) rfl ⟨rfl, HT.out⟩
  · by_cases ht : typeI i = 0
    · have hq : idErr place L i = (2, 129) := by unfold idErr; rw [if_neg (by omega), if_pos (.inl ht)]
      rw [hq]
      have HT0 := Lib.hid (fun W : World => rtype06_any i W)
      rw [ht] at HT0
      have HB0 := Lib.hid hb0
      have HK0 := Lib.hid hk0
      clear hq h hn hm ht hb0 hk0
      go_enter Tryz.func57, Tryz.ntmps57
      go_wp2_with fail
      refine (HT0.out _).mono ?_
      rintro x w1 ⟨rfl, rfl⟩
      have hkf := Blk.made w 34 #[.int .i64 2, .int .i64 129, .int .i64 0]
      have z0 := hkf.cell 0
      have z1 := hkf.cell 1
      have z2 := hkf.cell 2
      have HT := Lib.hid ((Below.refl w.heap.size w).alloc (Nat.le_refl _) (.cells #[.int .i64 2, .int .i64 129, .int .i64 0] 34))
      clear hkf
      go_wp2_with fail
      exact bodyPost_ret (v := .agg #[.int .i64 2, .int .i64 129, .int .i64 0]) (by simp [results, Tryz.results57, go_sem, z0, z1, z2]) rfl ⟨rfl, HT.out⟩
    · have ht' : ((typeI i : Int) == 0) = false := beq_eq_false_iff_ne.2 (by omega)
      cases ha : allowI i place with
      | false =>
        have hq : idErr place L i = (2, 129) := by unfold idErr; rw [if_neg (by omega), if_pos (.inr ha)]
        rw [hq]
        have HA0 := Lib.hid (fun W : World => rallowed_any i place W)
        rw [ha] at HA0
        have HT0 := Lib.hid (fun W : World => rtype06_any i W)
        have HB0 := Lib.hid hb0
        have HK0 := Lib.hid hk0
        clear hq h hn hm ht ha hb0 hk0
        generalize typeI i = ti at *
        go_enter Tryz.func57, Tryz.ntmps57
        go_wp2_with fail
        refine (HT0.out _).mono ?_
        rintro x w1 ⟨rfl, rfl⟩
        go_wp2_with fail
        refine (HA0.out _).mono ?_
        rintro x w1 ⟨rfl, hb1⟩
        have HB1 := Lib.hid (HB0.out.trans (hb1.mono HB0.out.size))
        have HK1 := Lib.hid (HK0.out.below hb1 HK0.out.lt)
        clear hb1
        obtain ⟨q0, q1, q2, p0', p1', p2', x1, y1, x2, y2, k2, l2, z0, z1, z2⟩ := fbox3 HK1.out (.int .i64 2) (.int .i64 129) (.int .i64 0)
        have HT := Lib.hid (((HB1.out.setCell (p := ⟨w.heap.size, 0, none⟩) (Nat.le_refl _) (.int .i64 2)).setCell (p := ⟨w.heap.size, 1, none⟩) (Nat.le_refl _) (.int .i64 129)).setCell (p := ⟨w.heap.size, 2, none⟩) (Nat.le_refl _) (.int .i64 0))
        go_wp2_with fail
        exact bodyPost_ret (v := .agg #[.int .i64 2, .int .i64 129, .int .i64 0]) (by simp [results, Tryz.results57, go_sem, z0, z1, z2]) rfl ⟨rfl, HT.out⟩
      | true =>
        have HA0 := Lib.hid (fun W : World => rallowed_any i place W)
        rw [ha] at HA0
        have HT0 := Lib.hid (fun W : World => rtype06_any i W)
        have HB0 := Lib.hid hb0
        have HK0 := Lib.hid hk0
        have HP := Lib.hid h
        have HN := Lib.hid hn
        obtain ⟨q, hq⟩ : ∃ q, q = idErr place L i := ⟨_, rfl⟩
        rw [← hq]
        have hq2 : q = if (getV L i).2 = true ∧ sevI i place = false then (3, 130) else (0, 0) := by
          rw [hq]
          unfold idErr
          rw [if_neg (by omega), if_neg (by rw [ha]; simp [ht])]
        have HQ := Lib.hid hq2
        have hn64 : n < 64 := by omega
        clear hq hq2 h hn hm ht ha hb0 hk0 h64
        generalize typeI i = ti at *
        by_cases h38 : i = 38
        · subst h38
          have HX := Lib.hid (show q = (0, 0) from by rw [HQ.out, if_neg (by intro h; exact absurd h.2 (by unfold sevI; simp))])
          go_enter Tryz.func57, Tryz.ntmps57
          go_wp2_with fail
          refine (HT0.out _).mono ?_
          rintro x w1 ⟨rfl, rfl⟩
          go_wp2_with fail
          refine (HA0.out _).mono ?_
          rintro x w1 ⟨rfl, hb1⟩
          have HB1 := Lib.hid (HB0.out.trans (hb1.mono HB0.out.size))
          have HK1 := Lib.hid (HK0.out.below hb1 HK0.out.lt)
          have HP1 := Lib.hid (HP.out.below HB1.out)
          clear hb1 HB0 HK0
          go_wp2_with fail
          go_loop [7] (fun j => ∃ k : Nat, k ≤ n ∧ j = .int .i64 k) (fun j => n - (intOf j).toNat)
          case atStart => exact ⟨0, by omega, rfl⟩
          case round =>
            obtain ⟨k, hk, rfl⟩ := hrel
            by_cases hlt : k < n
            · obtain ⟨g, off, rfl, hc, _⟩ := HP1.out (by have := HN.out; omega)
              have c0 := (hc k (by have := HN.out; omega)).c0
              clear hc
              generalize (L.getD k p0).id = pi at *
              by_cases hi : pi = 38
              · have hb : (pi == 38) = true := beq_iff_eq.2 hi
                clear hi
                go_wp2_with fail
                go_round
                case rel => exact ⟨k + 1, by omega, by go_num⟩
                case measure => simp [intOf]; omega
              · have hb : (pi == 38) = false := beq_eq_false_iff_ne.2 hi
                clear hi
                go_wp2_with fail
                go_round
                case rel => exact ⟨k + 1, by omega, by go_num⟩
                case measure => simp [intOf]; omega
            · obtain ⟨q0, q1, q2, p0', p1', p2', x1, y1, x2, y2, k2, l2, z0, z1, z2⟩ := fbox3 HK1.out (.int .i64 0) (.int .i64 0) (.int .i64 0)
              have HT := Lib.hid (((HB1.out.setCell (p := ⟨w.heap.size, 0, none⟩) (Nat.le_refl _) (.int .i64 0)).setCell (p := ⟨w.heap.size, 1, none⟩) (Nat.le_refl _) (.int .i64 0)).setCell (p := ⟨w.heap.size, 2, none⟩) (Nat.le_refl _) (.int .i64 0))
              go_wp2_with fail
              exact bodyPost_ret (v := .agg #[.int .i64 0, .int .i64 0, .int .i64 0]) (by simp [results, Tryz.results57, go_sem, z0, z1, z2]) rfl ⟨(congrArg (fun z : Nat × Int => Ending.returned (.agg #[.int .i64 (z.1 : Int), .int .i64 z.2, .int .i64 0])) HX.out).symm, HT.out⟩
        · have e38 : (i == 38) = false := beq_eq_false_iff_ne.2 h38
          by_cases h11 : i = 11
          · subst h11
            by_cases h3 : place = 3
            · subst h3
              have HX := Lib.hid (show q = (0, 0) from by rw [HQ.out, if_neg (by intro h; exact absurd h.2 (by unfold sevI; simp))])
              clear h38
              go_enter Tryz.func57, Tryz.ntmps57
              go_wp2_with fail
              refine (HT0.out _).mono ?_
              rintro x w1 ⟨rfl, rfl⟩
              go_wp2_with fail
              refine (HA0.out _).mono ?_
              rintro x w1 ⟨rfl, hb1⟩
              have HB1 := Lib.hid (HB0.out.trans (hb1.mono HB0.out.size))
              have HK1 := Lib.hid (HK0.out.below hb1 HK0.out.lt)
              have HP1 := Lib.hid (HP.out.below HB1.out)
              clear hb1 HB0 HK0
              go_wp2_with fail
              go_loop [7] (fun j => ∃ k : Nat, k ≤ n ∧ j = .int .i64 k) (fun j => n - (intOf j).toNat)
              case atStart => exact ⟨0, by omega, rfl⟩
              case round =>
                obtain ⟨k, hk, rfl⟩ := hrel
                by_cases hlt : k < n
                · obtain ⟨g, off, rfl, hc, _⟩ := HP1.out (by have := HN.out; omega)
                  have c0 := (hc k (by have := HN.out; omega)).c0
                  clear hc
                  generalize (L.getD k p0).id = pi at *
                  by_cases hi : pi = 11
                  · have hb : (pi == 11) = true := beq_iff_eq.2 hi
                    clear hi
                    go_wp2_with fail
                    go_round
                    case rel => exact ⟨k + 1, by omega, by go_num⟩
                    case measure => simp [intOf]; omega
                  · have hb : (pi == 11) = false := beq_eq_false_iff_ne.2 hi
                    clear hi
                    go_wp2_with fail
                    go_round
                    case rel => exact ⟨k + 1, by omega, by go_num⟩
                    case measure => simp [intOf]; omega
                · obtain ⟨q0, q1, q2, p0', p1', p2', x1, y1, x2, y2, k2, l2, z0, z1, z2⟩ := fbox3 HK1.out (.int .i64 0) (.int .i64 0) (.int .i64 0)
                  have HT := Lib.hid (((HB1.out.setCell (p := ⟨w.heap.size, 0, none⟩) (Nat.le_refl _) (.int .i64 0)).setCell (p := ⟨w.heap.size, 1, none⟩) (Nat.le_refl _) (.int .i64 0)).setCell (p := ⟨w.heap.size, 2, none⟩) (Nat.le_refl _) (.int .i64 0))
                  go_wp2_with fail
                  exact bodyPost_ret (v := .agg #[.int .i64 0, .int .i64 0, .int .i64 0]) (by simp [results, Tryz.results57, go_sem, z0, z1, z2]) rfl ⟨(congrArg (fun z : Nat × Int => Ending.returned (.agg #[.int .i64 (z.1 : Int), .int .i64 z.2, .int .i64 0])) HX.out).symm, HT.out⟩
            · have e3 : (place == 3) = false := beq_eq_false_iff_ne.2 h3
              have HX := Lib.hid (show sevI 11 place = false from by unfold sevI; simp [h3])
              clear h38 h3
              go_enter Tryz.func57, Tryz.ntmps57
              go_wp2_with fail
              refine (HT0.out _).mono ?_
              rintro x w1 ⟨rfl, rfl⟩
              go_wp2_with fail
              refine (HA0.out _).mono ?_
              rintro x w1 ⟨rfl, hb1⟩
              have HB1 := Lib.hid (HB0.out.trans (hb1.mono HB0.out.size))
              have HK1 := Lib.hid (HK0.out.below hb1 HK0.out.lt)
              have HP1 := Lib.hid (HP.out.below HB1.out)
              clear hb1 HB0 HK0
              go_wp2_with fail
              go_loop [7] (fun j => ∃ k : Nat, k ≤ n ∧ j = .int .i64 k ∧ Hid (getV L 11 = getV (L.drop k) 11)) (fun j => n - (intOf j).toNat)
              case atStart => exact ⟨0, by omega, rfl, Lib.hid rfl⟩
              case round =>
                obtain ⟨k, hk, rfl, HJ⟩ := hrel
                by_cases hlt : k < n
                · obtain ⟨g, off, rfl, hc, _⟩ := HP1.out (by have := HN.out; omega)
                  have c0 := (hc k (by have := HN.out; omega)).c0
                  clear hc
                  have hj := HJ.out
                  rw [drop_at (by have := HN.out; omega)] at hj
                  generalize L.getD k p0 = p at *
                  obtain ⟨pi, pn, ps, pv⟩ := p
                  by_cases hi : pi = 11
                  · have hb : (pi == 11) = true := beq_iff_eq.2 hi
                    have hg : (getV L 11).2 = true := by rw [hj, getV, if_pos hi]
                    have hx : q = (3, 130) := by rw [HQ.out, if_pos ⟨hg, HX.out⟩]
                    have HQX := Lib.hid hx
                    clear hi hj hg hx
                    obtain ⟨q0, q1, q2, p0', p1', p2', x1, y1, x2, y2, k2, l2, z0, z1, z2⟩ := fbox3 HK1.out (.int .i64 3) (.int .i64 130) (.int .i64 0)
                    have HT := Lib.hid (((HB1.out.setCell (p := ⟨w.heap.size, 0, none⟩) (Nat.le_refl _) (.int .i64 3)).setCell (p := ⟨w.heap.size, 1, none⟩) (Nat.le_refl _) (.int .i64 130)).setCell (p := ⟨w.heap.size, 2, none⟩) (Nat.le_refl _) (.int .i64 0))
                    go_wp2_with fail
                    exact bodyPost_ret (v := .agg #[.int .i64 3, .int .i64 130, .int .i64 0]) (by simp [results, Tryz.results57, go_sem, z0, z1, z2]) rfl ⟨(congrArg (fun z : Nat × Int => Ending.returned (.agg #[.int .i64 (z.1 : Int), .int .i64 z.2, .int .i64 0])) HQX.out).symm, HT.out⟩
                  · have hb : (pi == 11) = false := beq_eq_false_iff_ne.2 hi
                    rw [getV, if_neg hi] at hj
                    have HJ2 := Lib.hid hj
                    clear hi hj
                    go_wp2_with fail
                    go_round
                    case rel => exact ⟨k + 1, by omega, by go_num, HJ2⟩
                    case measure => simp [intOf]; omega
                · have hg : (getV L 11).2 = false := by
                    rw [HJ.out, List.drop_eq_nil_of_le (by have := HN.out; omega)]
                    rfl
                  have hx : q = (0, 0) := by rw [HQ.out, if_neg (by rw [hg]; simp)]
                  have HQX := Lib.hid hx
                  clear hg hx
                  obtain ⟨q0, q1, q2, p0', p1', p2', x1, y1, x2, y2, k2, l2, z0, z1, z2⟩ := fbox3 HK1.out (.int .i64 0) (.int .i64 0) (.int .i64 0)
                  have HT := Lib.hid (((HB1.out.setCell (p := ⟨w.heap.size, 0, none⟩) (Nat.le_refl _) (.int .i64 0)).setCell (p := ⟨w.heap.size, 1, none⟩) (Nat.le_refl _) (.int .i64 0)).setCell (p := ⟨w.heap.size, 2, none⟩) (Nat.le_refl _) (.int .i64 0))
                  go_wp2_with fail
                  exact bodyPost_ret (v := .agg #[.int .i64 0, .int .i64 0, .int .i64 0]) (by simp [results, Tryz.results57, go_sem, z0, z1, z2]) rfl ⟨(congrArg (fun z : Nat × Int => Ending.returned (.agg #[.int .i64 (z.1 : Int), .int .i64 z.2, .int .i64 0])) HQX.out).symm, HT.out⟩
          · have e11 : (i == 11) = false := beq_eq_false_iff_ne.2 h11
            have HX := Lib.hid (show sevI i place = false from by unfold sevI; simp [h38, h11])
            go_enter Tryz.func57, Tryz.ntmps57
            go_wp2_with fail
            refine (HT0.out _).mono ?_
            rintro x w1 ⟨rfl, rfl⟩
            go_wp2_with fail
            refine (HA0.out _).mono ?_
            rintro x w1 ⟨rfl, hb1⟩
            have HB1 := Lib.hid (HB0.out.trans (hb1.mono HB0.out.size))
            have HK1 := Lib.hid (HK0.out.below hb1 HK0.out.lt)
            have HP1 := Lib.hid (HP.out.below HB1.out)
            clear hb1 HB0 HK0
            go_wp2_with fail
            go_loop [7] (fun j => ∃ k : Nat, k ≤ n ∧ j = .int .i64 k ∧ Hid (getV L i = getV (L.drop k) i)) (fun j => n - (intOf j).toNat)
            case atStart => exact ⟨0, by omega, rfl, Lib.hid rfl⟩
            case round =>
              obtain ⟨k, hk, rfl, HJ⟩ := hrel
              by_cases hlt : k < n
              · obtain ⟨g, off, rfl, hc, _⟩ := HP1.out (by have := HN.out; omega)
                have c0 := (hc k (by have := HN.out; omega)).c0
                clear hc
                have hj := HJ.out
                rw [drop_at (by have := HN.out; omega)] at hj
                generalize L.getD k p0 = p at *
                obtain ⟨pi, pn, ps, pv⟩ := p
                by_cases hi : pi = i
                · have hb : (pi == i) = true := beq_iff_eq.2 hi
                  have hg : (getV L i).2 = true := by rw [hj, getV, if_pos hi]
                  have hx : q = (3, 130) := by rw [HQ.out, if_pos ⟨hg, HX.out⟩]
                  have HQX := Lib.hid hx
                  clear hi hj hg hx
                  obtain ⟨q0, q1, q2, p0', p1', p2', x1, y1, x2, y2, k2, l2, z0, z1, z2⟩ := fbox3 HK1.out (.int .i64 3) (.int .i64 130) (.int .i64 0)
                  have HT := Lib.hid (((HB1.out.setCell (p := ⟨w.heap.size, 0, none⟩) (Nat.le_refl _) (.int .i64 3)).setCell (p := ⟨w.heap.size, 1, none⟩) (Nat.le_refl _) (.int .i64 130)).setCell (p := ⟨w.heap.size, 2, none⟩) (Nat.le_refl _) (.int .i64 0))
                  go_wp2_with fail
                  exact bodyPost_ret (v := .agg #[.int .i64 3, .int .i64 130, .int .i64 0]) (by simp [results, Tryz.results57, go_sem, z0, z1, z2]) rfl ⟨(congrArg (fun z : Nat × Int => Ending.returned (.agg #[.int .i64 (z.1 : Int), .int .i64 z.2, .int .i64 0])) HQX.out).symm, HT.out⟩
                · have hb : (pi == i) = false := beq_eq_false_iff_ne.2 hi
                  rw [getV, if_neg hi] at hj
                  have HJ2 := Lib.hid hj
                  clear hi hj
                  go_wp2_with fail
                  go_round
                  case rel => exact ⟨k + 1, by omega, by go_num, HJ2⟩
                  case measure => simp [intOf]; omega
              · have hg : (getV L i).2 = false := by
                  rw [HJ.out, List.drop_eq_nil_of_le (by have := HN.out; omega)]
                  rfl
                have hx : q = (0, 0) := by rw [HQ.out, if_neg (by rw [hg]; simp)]
                have HQX := Lib.hid hx
                clear hg hx
                obtain ⟨q0, q1, q2, p0', p1', p2', x1, y1, x2, y2, k2, l2, z0, z1, z2⟩ := fbox3 HK1.out (.int .i64 0) (.int .i64 0) (.int .i64 0)
                have HT := Lib.hid (((HB1.out.setCell (p := ⟨w.heap.size, 0, none⟩) (Nat.le_refl _) (.int .i64 0)).setCell (p := ⟨w.heap.size, 1, none⟩) (Nat.le_refl _) (.int .i64 0)).setCell (p := ⟨w.heap.size, 2, none⟩) (Nat.le_refl _) (.int .i64 0))
                go_wp2_with fail
                exact bodyPost_ret (v := .agg #[.int .i64 0, .int .i64 0, .int .i64 0]) (by simp [results, Tryz.results57, go_sem, z0, z1, z2]) rfl ⟨(congrArg (fun z : Nat × Int => Ending.returned (.agg #[.int .i64 (z.1 : Int), .int .i64 z.2, .int .i64 0])) HQX.out).symm, HT.out⟩
/-- What the document's Check holds. -/
structure RcIn (w W : World) (A : Option Addr) (L : PL) : Prop where
  pb : PbIn w W A L
  box : Blk W w.heap.size 34 #[.int .i64 0, .int .i64 0, .int .i64 0]
theorem RcIn.below {W W' : World} (h : RcIn w W A L) (hb : Below W.heap.size W W') : RcIn w W' A L := ⟨h.pb.below hb, h.box.below hb h.box.lt⟩
/-- A fault's block of its own changes. -/
theorem RcIn.put {W : World} {fb : Nat} {cs : Array Value} (h : RcIn w W A L) (hb : Blk W fb 34 cs) (hne : w.heap.size < fb) (a b c : Value) : RcIn w (((W.setCell ⟨fb, 0, none⟩ a).setCell ⟨fb, 1, none⟩ b).setCell ⟨fb, 2, none⟩ c) A L := by
  have hf : Fr [fb] W (((W.setCell ⟨fb, 0, none⟩ a).setCell ⟨fb, 1, none⟩ b).setCell ⟨fb, 2, none⟩ c) := (((Fr.refl [fb] W).setCell (p := ⟨fb, 0, none⟩) (.inl (List.mem_singleton_self _)) _).setCell (p := ⟨fb, 1, none⟩) (.inl (List.mem_singleton_self _)) _).setCell (p := ⟨fb, 2, none⟩) (.inl (List.mem_singleton_self _)) _
  refine ⟨⟨((h.pb.bel.setCell (p := ⟨fb, 0, none⟩) (Nat.le_of_lt hne) _).setCell (p := ⟨fb, 1, none⟩) (Nat.le_of_lt hne) _).setCell (p := ⟨fb, 2, none⟩) (Nat.le_of_lt hne) _, h.pb.rd.fr hf fun k hk => ?_⟩, h.box.fr hf fun hm => ?_⟩
  · rw [List.mem_singleton] at hk
    subst hk
    exact ⟨Nat.le_of_lt hne, fun cs2 hc => hb.other hc (by decide) rfl⟩
  · rw [List.mem_singleton] at hm
    omega
def RcSays (w : World) (q : Nat × Int × Nat) (x : Ending) (w' : World) : Prop := x = .returned (.agg #[.int .i64 (q.1 : Int), .int .i64 q.2.1, .int .i64 (q.2.2 : Int)]) ∧ Below w.heap.size w w'
set_option maxHeartbeats 3000000 in
theorem rcheck_any (place : Int) (n c : Nat) (hn : n = L.length) (h : PIn w w.heap.size A L) (hm : n ≤ 1000) (hcap : n ≤ c) : Calls Tryz.prog 93 #[.int .i64 place, .slice A n c] w (RcSays w (chkL place L)) := by
  obtain ⟨q, hq⟩ : ∃ q, q = chkL place L := ⟨_, rfl⟩
  rw [← hq]
  have HQ := Lib.hid (show q = chkFrom place L 0 (L.drop 0) from hq)
  have HN := Lib.hid hn
  have hb0 : Below w.heap.size w (w.alloc (.cells #[.int .i64 0, .int .i64 0, .int .i64 0] 34)) := (Below.refl _ _).alloc (Nat.le_refl _) _
  have HI0 : Hid (RcIn w (w.alloc (.cells #[.int .i64 0, .int .i64 0, .int .i64 0] 34)) A L) := Lib.hid ⟨⟨hb0, h.below hb0⟩, Blk.made w _ _⟩
  have HP := Lib.hid h
  clear hq hn h hb0
  go_enter Tryz.func93, Tryz.ntmps93
  go_wp2_with fail
  go_loopw [5] (fun j wr => ∃ k : Nat, k ≤ n ∧ j = .int .i64 k ∧ Hid (q = chkFrom place L k (L.drop k) ∧ RcIn w wr A L)) (fun j _ => n - (intOf j).toNat)
  case atStart => exact ⟨0, by omega, rfl, Lib.hid ⟨HQ.out, HI0.out⟩⟩
  case round =>
    obtain ⟨k, hk, rfl, HJ⟩ := hrel
    obtain ⟨hj1, hj2⟩ := HJ.out
    by_cases hlt : k < n
    · have hkL : k < L.length := by have := HN.out; omega
      obtain ⟨g, off, rfl, hc, _⟩ := HP.out (by omega)
      have hcc := hc k hkL
      obtain ⟨p, hp⟩ : ∃ p, p = L.getD k p0 := ⟨_, rfl⟩
      rw [← hp] at hcc
      have HPP := Lib.hid hp
      obtain ⟨pi, pn, ps, pv⟩ := p
      have hgl := lt_of_cell hcc.c0
      have CC := Lib.hid (fun (W : World) (h : RcIn w W (some ⟨g, off, none⟩) L) => show PCells W g (off + k * 4) ⟨pi, pn, ps, pv⟩ from hcc.at (w' := W) (h.pb.bel.block g hgl))
      have hb1 : Below wr.heap.size wr (wr.alloc (.cells #[.int .i64 0, .int .i64 0, .int .i64 0] 34)) := (Below.refl _ _).alloc (Nat.le_refl _) _
      have hdr : RcIn w (wr.alloc (.cells #[.int .i64 0, .int .i64 0, .int .i64 0] 34)).drew (some ⟨g, off, none⟩) L := (hj2.below hb1).below (below_drewN (Below.refl _ _) 1)
      have HBF := Lib.hid (show Blk (wr.alloc (.cells #[.int .i64 0, .int .i64 0, .int .i64 0] 34)).drew wr.heap.size 34 #[.int .i64 0, .int .i64 0, .int .i64 0] from Blk.made wr _ _)
      have t0 : wr.drew.cell? ⟨g, off + k * 4, none⟩ = some (.int .i64 pi) := (CC.out wr hj2).c0
      have t0' := (CC.out _ hdr).c0
      have hkc : k ≤ c := by omega
      have htk : k = (L.take k).length := by rw [List.length_take]; omega
      have HG := Lib.hid (ground_any (B := w.heap.size) place pi k c htk (hdr.pb.rd.take k) (by omega))
      have HDR := Lib.hid hdr
      have HWL := Lib.hid hj2.box.lt
      have HQJ := Lib.hid hj1
      have hdr2 : RcIn w wr.drew (some ⟨g, off, none⟩) L := hj2.below (below_drewN (Below.refl wr.heap.size wr) 1)
      have HG2 := Lib.hid (ground_any (B := w.heap.size) place pi k c htk (hdr2.pb.rd.take k) (by omega))
      have HDR2 := Lib.hid hdr2
      obtain ⟨⟨zn, zr⟩, hz⟩ : ∃ z, z = idErr place (L.take k) pi := ⟨_, rfl⟩
      rw [← hz] at HG HG2
      have HP2 := Lib.hid (show propErr place (L.take k) (L.getD k p0) = if zn = 0 then (if numI pi pn = true then (0, 0) else (3, 130)) else (zn, zr) from by
        rw [← HPP.out]
        unfold propErr
        simp only
        rw [← hz])
      clear hc hcc hp htk hj1 hj2 hdr hdr2 hz hb1
      have HLT := Lib.hid (show w.heap.size < wr.heap.size from HWL.out)
      by_cases hz0 : zn = 0
      · subst hz0
        cases hnum : numI pi pn with
        | true =>
          have HX := Lib.hid (HQJ.out.trans (chk_go hkL (by rw [HP2.out, if_pos rfl, if_pos hnum])))
          have HNU := Lib.hid (fun W : World => numbered_any ⟨pi, pn, ps, pv⟩ W)
          rw [show numI (PV.id ⟨pi, pn, ps, pv⟩) (PV.n ⟨pi, pn, ps, pv⟩) = true from hnum] at HNU
          clear hnum
          have HMK := Lib.hid (fun (w6 : World) (h6 : RcIn w w6 (some ⟨g, off, none⟩) L) => show (w6.alloc (.cells #[.int .i64 0, .int .i64 zr, .int .i64 0] 34)).cell? ⟨w6.heap.size, 0, none⟩ = some (.int .i64 0) ∧ (w6.alloc (.cells #[.int .i64 0, .int .i64 zr, .int .i64 0] 34)).cell? ⟨w6.heap.size, 1, none⟩ = some (.int .i64 zr) ∧ (w6.alloc (.cells #[.int .i64 0, .int .i64 zr, .int .i64 0] 34)).cell? ⟨w6.heap.size, 2, none⟩ = some (.int .i64 0) ∧ Hid (RcIn w (w6.alloc (.cells #[.int .i64 0, .int .i64 zr, .int .i64 0] 34)) (some ⟨g, off, none⟩) L) ∧ Hid (Blk (w6.alloc (.cells #[.int .i64 0, .int .i64 zr, .int .i64 0] 34)) w6.heap.size 34 #[.int .i64 0, .int .i64 zr, .int .i64 0] ∧ w.heap.size < w6.heap.size) from
            have hb := Blk.made w6 34 #[.int .i64 0, .int .i64 zr, .int .i64 0]
            ⟨hb.cell 0, hb.cell 1, hb.cell 2, Lib.hid (h6.below ((Below.refl _ _).alloc (Nat.le_refl _) _)), Lib.hid ⟨hb, h6.box.lt⟩⟩)
          go_wp2_with fail
          go_region_with (first
            | (refine HG.out.mono ?_; rintro x w6 ⟨rfl, hb6⟩; obtain ⟨q0, q1, q2, p0', p1', p2', x1, y1, x2, y2, k2, l2, z0, z1, z2⟩ := fbox3 (HBF.out.below hb6 HBF.out.lt) (.int .i64 0) (.int .i64 zr) (.int .i64 0); have H7 := Lib.hid ((HDR.out.below hb6).put (HBF.out.below hb6 HBF.out.lt) HLT.out (.int .i64 0) (.int .i64 zr) (.int .i64 0)); have HF7 := Lib.hid (And.intro ((((HBF.out.below hb6 HBF.out.lt).store 0 (.int .i64 0)).store 1 (.int .i64 zr)).store 2 (.int .i64 0)) HLT.out); obtain ⟨cc0, cc1, cc2, cc3⟩ := CC.out _ H7.out)
            | (refine HG2.out.mono ?_; rintro x w6 ⟨rfl, hb6⟩; obtain ⟨z0, z1, z2, H7, HF7⟩ := HMK.out w6 (HDR2.out.below hb6); obtain ⟨cc0, cc1, cc2, cc3⟩ := CC.out _ H7.out))
          all_goals
            go_wp2_with fail
            refine (HNU.out _).mono ?_
            rintro x w8 ⟨rfl, hb8⟩
            have HI8 := Lib.hid (H7.out.below hb8)
            have hf8 := HF7.out.1.below hb8 HF7.out.1.lt
            have f0 := hf8.cell 0
            clear hb8 hf8
            go_wp2_with fail
            go_roundw
            case rel => exact ⟨k + 1, by omega, by go_num, Lib.hid ⟨HX.out, HI8.out⟩⟩
            case measure => simp [intOf]; omega
        | false =>
          have HQX := Lib.hid (show q = (3, 130, k) from by rw [HQJ.out.trans (chk_stop hkL (by rw [HP2.out, if_pos rfl, hnum, if_neg (by decide)]; decide)), HP2.out, if_pos rfl, hnum, if_neg (by decide)])
          have HNU := Lib.hid (fun W : World => numbered_any ⟨pi, pn, ps, pv⟩ W)
          rw [show numI (PV.id ⟨pi, pn, ps, pv⟩) (PV.n ⟨pi, pn, ps, pv⟩) = false from hnum] at HNU
          clear hnum
          have HMK := Lib.hid (fun (w6 : World) (h6 : RcIn w w6 (some ⟨g, off, none⟩) L) => show (w6.alloc (.cells #[.int .i64 0, .int .i64 zr, .int .i64 0] 34)).cell? ⟨w6.heap.size, 0, none⟩ = some (.int .i64 0) ∧ (w6.alloc (.cells #[.int .i64 0, .int .i64 zr, .int .i64 0] 34)).cell? ⟨w6.heap.size, 1, none⟩ = some (.int .i64 zr) ∧ (w6.alloc (.cells #[.int .i64 0, .int .i64 zr, .int .i64 0] 34)).cell? ⟨w6.heap.size, 2, none⟩ = some (.int .i64 0) ∧ Hid (RcIn w (w6.alloc (.cells #[.int .i64 0, .int .i64 zr, .int .i64 0] 34)) (some ⟨g, off, none⟩) L) ∧ Hid (Blk (w6.alloc (.cells #[.int .i64 0, .int .i64 zr, .int .i64 0] 34)) w6.heap.size 34 #[.int .i64 0, .int .i64 zr, .int .i64 0] ∧ w.heap.size < w6.heap.size) from
            have hb := Blk.made w6 34 #[.int .i64 0, .int .i64 zr, .int .i64 0]
            ⟨hb.cell 0, hb.cell 1, hb.cell 2, Lib.hid (h6.below ((Below.refl _ _).alloc (Nat.le_refl _) _)), Lib.hid ⟨hb, h6.box.lt⟩⟩)
          go_wp2_with fail
          go_region_with (first
            | (refine HG.out.mono ?_; rintro x w6 ⟨rfl, hb6⟩; obtain ⟨q0, q1, q2, p0', p1', p2', x1, y1, x2, y2, k2, l2, z0, z1, z2⟩ := fbox3 (HBF.out.below hb6 HBF.out.lt) (.int .i64 0) (.int .i64 zr) (.int .i64 0); have H7 := Lib.hid ((HDR.out.below hb6).put (HBF.out.below hb6 HBF.out.lt) HLT.out (.int .i64 0) (.int .i64 zr) (.int .i64 0)); have HF7 := Lib.hid (And.intro ((((HBF.out.below hb6 HBF.out.lt).store 0 (.int .i64 0)).store 1 (.int .i64 zr)).store 2 (.int .i64 0)) HLT.out); obtain ⟨cc0, cc1, cc2, cc3⟩ := CC.out _ H7.out)
            | (refine HG2.out.mono ?_; rintro x w6 ⟨rfl, hb6⟩; obtain ⟨z0, z1, z2, H7, HF7⟩ := HMK.out w6 (HDR2.out.below hb6); obtain ⟨cc0, cc1, cc2, cc3⟩ := CC.out _ H7.out))
          all_goals
            go_wp2_with fail
            refine (HNU.out _).mono ?_
            rintro x w8 ⟨rfl, hb8⟩
            have hi8 := H7.out.below hb8
            have hf8 := HF7.out.1.below hb8 HF7.out.1.lt
            have f0 := hf8.cell 0
            have hi9 := hi8.put hf8 HF7.out.2 (.int .i64 3) (.int .i64 130) (.int .i64 0)
            obtain ⟨q0, q1, q2, p0', p1', p2', x1, y1, x2, y2, k2, l2, e0, e1, e2⟩ := fbox3 hf8 (.int .i64 3) (.int .i64 130) (.int .i64 0)
            obtain ⟨r0, r1, r2, s0, s1, s2, u1, v1, u2, v2, m2, n2, o0, o1, o2⟩ := fbox3 hi9.box (.int .i64 3) (.int .i64 130) (.int .i64 (k : Int))
            have HT := Lib.hid (((hi9.pb.bel.setCell (p := ⟨w.heap.size, 0, none⟩) (Nat.le_refl _) (.int .i64 3)).setCell (p := ⟨w.heap.size, 1, none⟩) (Nat.le_refl _) (.int .i64 130)).setCell (p := ⟨w.heap.size, 2, none⟩) (Nat.le_refl _) (.int .i64 (k : Int)))
            clear hb8 hf8 hi8 hi9
            go_wp2_with fail
            exact bodyPost_ret (v := .agg #[.int .i64 3, .int .i64 130, .int .i64 (k : Int)]) (by simp [results, Tryz.results93, go_sem, o0, o1, o2]) rfl ⟨(congrArg (fun z : Nat × Int × Nat => Ending.returned (.agg #[.int .i64 (z.1 : Int), .int .i64 z.2.1, .int .i64 (z.2.2 : Int)])) HQX.out).symm, HT.out⟩
      · have HQX := Lib.hid (show q = (zn, zr, k) from by rw [HQJ.out.trans (chk_stop hkL (by rw [HP2.out, if_neg hz0]; exact hz0)), HP2.out, if_neg hz0])
        have hzb : ((zn : Int) == 0) = false := beq_eq_false_iff_ne.2 (by omega)
        have hzi : ¬ ((zn : Int) = 0) := by omega
        have HMK := Lib.hid (fun (w6 : World) (h6 : RcIn w w6 (some ⟨g, off, none⟩) L) => show (w6.alloc (.cells #[.int .i64 (zn : Int), .int .i64 zr, .int .i64 0] 34)).cell? ⟨w6.heap.size, 0, none⟩ = some (.int .i64 (zn : Int)) ∧ (w6.alloc (.cells #[.int .i64 (zn : Int), .int .i64 zr, .int .i64 0] 34)).cell? ⟨w6.heap.size, 1, none⟩ = some (.int .i64 zr) ∧ (w6.alloc (.cells #[.int .i64 (zn : Int), .int .i64 zr, .int .i64 0] 34)).cell? ⟨w6.heap.size, 2, none⟩ = some (.int .i64 0) ∧ Hid (RcIn w (w6.alloc (.cells #[.int .i64 (zn : Int), .int .i64 zr, .int .i64 0] 34)) (some ⟨g, off, none⟩) L) ∧ Hid (Blk (w6.alloc (.cells #[.int .i64 (zn : Int), .int .i64 zr, .int .i64 0] 34)) w6.heap.size 34 #[.int .i64 (zn : Int), .int .i64 zr, .int .i64 0] ∧ w.heap.size < w6.heap.size) from
          have hb := Blk.made w6 34 #[.int .i64 (zn : Int), .int .i64 zr, .int .i64 0]
          ⟨hb.cell 0, hb.cell 1, hb.cell 2, Lib.hid (h6.below ((Below.refl _ _).alloc (Nat.le_refl _) _)), Lib.hid ⟨hb, h6.box.lt⟩⟩)
        go_wp2_with fail
        go_region_with (first
          | (refine HG.out.mono ?_; rintro x w6 ⟨rfl, hb6⟩; obtain ⟨q0, q1, q2, p0', p1', p2', x1, y1, x2, y2, k2, l2, z0, z1, z2⟩ := fbox3 (HBF.out.below hb6 HBF.out.lt) (.int .i64 (zn : Int)) (.int .i64 zr) (.int .i64 0); have H7 := Lib.hid ((HDR.out.below hb6).put (HBF.out.below hb6 HBF.out.lt) HLT.out (.int .i64 (zn : Int)) (.int .i64 zr) (.int .i64 0)); have HF7 := Lib.hid (And.intro ((((HBF.out.below hb6 HBF.out.lt).store 0 (.int .i64 (zn : Int))).store 1 (.int .i64 zr)).store 2 (.int .i64 0)) HLT.out); obtain ⟨r0, r1, r2, s0, s1, s2, u1, v1, u2, v2, m2, n2, o0, o1, o2⟩ := fbox3 H7.out.box (.int .i64 (zn : Int)) (.int .i64 zr) (.int .i64 (k : Int)); have HT := Lib.hid (((H7.out.pb.bel.setCell (p := ⟨w.heap.size, 0, none⟩) (Nat.le_refl _) (.int .i64 (zn : Int))).setCell (p := ⟨w.heap.size, 1, none⟩) (Nat.le_refl _) (.int .i64 zr)).setCell (p := ⟨w.heap.size, 2, none⟩) (Nat.le_refl _) (.int .i64 (k : Int))))
          | (refine HG2.out.mono ?_; rintro x w6 ⟨rfl, hb6⟩; obtain ⟨z0, z1, z2, H7, HF7⟩ := HMK.out w6 (HDR2.out.below hb6); obtain ⟨r0, r1, r2, s0, s1, s2, u1, v1, u2, v2, m2, n2, o0, o1, o2⟩ := fbox3 H7.out.box (.int .i64 (zn : Int)) (.int .i64 zr) (.int .i64 (k : Int)); have HT := Lib.hid (((H7.out.pb.bel.setCell (p := ⟨w.heap.size, 0, none⟩) (Nat.le_refl _) (.int .i64 (zn : Int))).setCell (p := ⟨w.heap.size, 1, none⟩) (Nat.le_refl _) (.int .i64 zr)).setCell (p := ⟨w.heap.size, 2, none⟩) (Nat.le_refl _) (.int .i64 (k : Int)))))
        all_goals
          try generalize ((w6.setCell ⟨wr.heap.size, 0, none⟩ (.int .i64 (zn : Int))).setCell ⟨wr.heap.size, 1, none⟩ (.int .i64 zr)).setCell ⟨wr.heap.size, 2, none⟩ (.int .i64 0) = W7 at *
          clear hz0 hzb HQJ HP2 HJ HN HDR HDR2 HG HG2 HMK HBF CC
          (try clear t0 t0')
          go_wp2_with fail
          exact bodyPost_ret (v := .agg #[.int .i64 (zn : Int), .int .i64 zr, .int .i64 (k : Int)]) (by simp [results, Tryz.results93, go_sem, o0, o1, o2]) rfl ⟨(congrArg (fun z : Nat × Int × Nat => Ending.returned (.agg #[.int .i64 (z.1 : Int), .int .i64 z.2.1, .int .i64 (z.2.2 : Int)])) HQX.out).symm, HT.out⟩
    · obtain ⟨q0, q1, q2, p0', p1', p2', x1, y1, x2, y2, k2, l2, z0, z1, z2⟩ := fbox3 hj2.box (.int .i64 0) (.int .i64 0) (.int .i64 0)
      have HT := Lib.hid (((hj2.pb.bel.setCell (p := ⟨w.heap.size, 0, none⟩) (Nat.le_refl _) (.int .i64 0)).setCell (p := ⟨w.heap.size, 1, none⟩) (Nat.le_refl _) (.int .i64 0)).setCell (p := ⟨w.heap.size, 2, none⟩) (Nat.le_refl _) (.int .i64 0))
      have hx : q = (0, 0, 0) := by rw [hj1, List.drop_eq_nil_of_le (by have := HN.out; omega)]; rfl
      have HQX := Lib.hid hx
      clear hj1 hj2 HJ hx
      go_wp2_with fail
      exact bodyPost_ret (v := .agg #[.int .i64 0, .int .i64 0, .int .i64 0]) (by simp [results, Tryz.results93, go_sem, z0, z1, z2]) rfl ⟨(congrArg (fun z : Nat × Int × Nat => Ending.returned (.agg #[.int .i64 (z.1 : Int), .int .i64 z.2.1, .int .i64 (z.2.2 : Int)])) HQX.out).symm, HT.out⟩
end
set_option maxRecDepth 100000
open Go.RowKit Go.Extern.Stop Go.Stop Go.Extern
structure SmIn6 (w W : World) (S : Nat → Addr) (no a : Nat) (r : Int) (e : Value) (g : Nat) : Prop where
  er : ErrOf W S r no a e
  env : Env W S
  box : Blk W g 34 #[.int .i64 no, .int .i64 r, .int .i64 a]
  bel : Below w.heap.size w W
theorem SmIn6.below {w W W' : World} {S : Nat → Addr} {no a : Nat} {r : Int} {e : Value} {g : Nat} (h : SmIn6 w W S no a r e g) (hb : Below W.heap.size W W') : SmIn6 w W' S no a r e g := ⟨h.er.later hb, h.env.later hb, h.box.below hb h.box.lt, h.bel.trans (hb.mono h.bel.size)⟩
theorem SmIn6.drewN {w W : World} {S : Nat → Addr} {no a : Nat} {r : Int} {e : Value} {g : Nat} (h : SmIn6 w W S no a r e g) (d : Nat) : SmIn6 w (W.drewN d) S no a r e g := h.below (below_drewN (Below.refl _ _) d)
end Go.Proofs.YtnolnhpmpjgnaaaGreatDoor

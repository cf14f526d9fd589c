/- What is proved here: which places have a property, and which numbers. No conditions. What is proved here: the first property of an identifier, its number, and whether a place may have properties. Conditions: the properties stand where the slices say, few of them; what the rows list of the package's variables. What is proved here: whether a place may have properties. Conditions: the properties stand where the slices say, few of them; what the rows list of the package's variables. -/
import Derived.Test.YtnolnhpmpjgnaaaGreatDoorTab06
import Derived.Test.YtnolnhpmpjgnaaaGreatDoorAwk04
import Derived.Deep.QuietTactic
import Derived.BigQuiet
namespace Go.Proofs.YtnolnhpmpjgnaaaGreatDoor
set_option maxRecDepth 100000
open Go.RowKit Go.Extern.Stop Go.Stop Go.Extern
/-- These numbers stand at an address, if there are any. -/
def IRd (w : World) (A : Option Addr) (L : List Int) : Prop := 0 < L.length → ∃ g off, A = some ⟨g, off, none⟩ ∧ ∀ k, k < L.length → w.cell? ⟨g, off + k, none⟩ = some (.int .i64 (L.getD k 0))
section
variable {w w' : World} {A : Option Addr} {L : List Int}
theorem ird_made (w : World) (t : TypeId) (L : List Int) : IRd (w.alloc (.cells (L.map (Value.int .i64)).toArray t)) (some ⟨w.heap.size, 0, none⟩) L := by
  intro hp
  refine ⟨_, _, rfl, fun k hk => ?_⟩
  rw [Nat.zero_add, (Blk.made w t _).cell k, ← Array.getElem?_toList, List.getD_eq_getElem?_getD, List.getElem?_eq_getElem hk]
  simp [hk]
def PlSays (i : Int) (w : World) (x : Ending) (w' : World) : Prop := ∃ a c, x = .returned (.slice a (placesI i).length c) ∧ IRd w' a (placesI i) ∧ Below w.heap.size w w'
set_option maxHeartbeats 4000000 in
theorem places_any (i : Int) (w : World) : Calls Tryz.prog 128 #[.int .i64 i] w (PlSays i w) := by
  by_cases h : i ∈ ids06
  · unfold ids06 at h
    simp only [List.mem_cons, List.not_mem_nil, or_false] at h
    rcases h with rfl | rfl | rfl | rfl | rfl | rfl | rfl | rfl | rfl | rfl | rfl | rfl | rfl | rfl | rfl | rfl | rfl | rfl | rfl | rfl | rfl | rfl | rfl | rfl | rfl | rfl | rfl
    all_goals
      go_enter Tryz.func128, Tryz.ntmps128
      go_wp2
      go_ret
      exact ⟨_, _, rfl, ird_made w _ _, (Below.refl _ _).alloc (Nat.le_refl _) _⟩
  · obtain ⟨⟨⟨a1, a2, a3, a4, a5, a6, a7⟩, b1, b2, b3, b4, b5, b6, b7⟩, ⟨c1, c2, c3, c4, c5, c6, c7⟩, d1, d2, d3, d4, d5, d6⟩ := no_ids h
    have HT := Lib.hid (show PlSays i w (.returned (.slice none 0 0)) w from by
      unfold PlSays
      rw [(no_type h).2.1]
      exact ⟨none, 0, rfl, fun hp => absurd hp (by simp), Below.refl _ _⟩)
    clear h
    go_enter Tryz.func128, Tryz.ntmps128
    go_wp2
    go_ret
    exact HT.out
theorem index06_any (v : Int) (n c : Nat) (hn : n = L.length) (h : IRd w A L) (hm : n ≤ 1000) : Calls Tryz.prog 133 #[.slice A n c, .int .i64 v] w fun x w' => x = .returned (.int .i64 (idxI L v)) ∧ w = w' := by
  by_cases hp : n = 0
  · have hL : L = [] := List.eq_nil_of_length_eq_zero (by omega)
    subst hp hL
    clear h hn hm
    go_enter Tryz.func133, Tryz.ntmps133
    go_wp2_with fail
    go_loop [8] (fun i => i = .int .i64 0) (fun _ => 0)
    case atStart => rfl
    case round =>
      subst hrel
      go_wp2_with fail
      go_ret
      exact ⟨rfl, rfl⟩
  · obtain ⟨g, off, rfl, hc⟩ := h (by omega)
    have HC := Lib.hid hc
    have HN := Lib.hid hn
    clear hc h hn
    go_enter Tryz.func133, Tryz.ntmps133
    go_wp2_with fail
    go_loop [8] (fun i => ∃ k : Nat, k ≤ n ∧ i = .int .i64 k ∧ Hid (∀ j, j < k → L.getD j 0 ≠ v)) (fun i => n - (intOf i).toNat)
    case atStart => exact ⟨0, by omega, rfl, Lib.hid fun j hj => absurd hj (by omega)⟩
    case round =>
      obtain ⟨k, hk, rfl, HJ⟩ := hrel
      by_cases hlt : k < n
      · have c1 := HC.out k (by have := HN.out; omega)
        obtain ⟨y, hy⟩ : ∃ y, y = L.getD k 0 := ⟨_, rfl⟩
        rw [← hy] at c1
        have HY := Lib.hid hy
        clear hy
        by_cases hv : v = y
        · have HR := Lib.hid (idx_at (e := 0) (x := v) (by have := HN.out; omega) (by rw [← HY.out, hv]) HJ.out)
          have hvb : (v == y) = true := beq_iff_eq.2 hv
          clear hv
          go_wp2_with fail
          go_ret
          exact ⟨congrArg (fun z => Ending.returned (.int .i64 z)) HR.out.symm, rfl⟩
        · have hvb : (v == y) = false := beq_eq_false_iff_ne.2 hv
          have HV := Lib.hid hv
          clear hv
          go_wp2_with fail
          go_round
          case rel => exact ⟨k + 1, by omega, by go_num, Lib.hid fun j hj => by
            rcases Nat.lt_or_eq_of_le (Nat.le_of_lt_succ hj) with h | h
            · exact HJ.out j h
            · rw [h, ← HY.out]; exact fun e => HV.out e.symm⟩
          case measure => simp [intOf]; omega
      · have HR := Lib.hid (idx_no (e := 0) (x := v) (fun j hj => HJ.out j (by have := HN.out; omega)))
        go_wp2_with fail
        go_ret
        exact ⟨congrArg (fun z => Ending.returned (.int .i64 z)) HR.out.symm, rfl⟩
theorem contains06_any (v : Int) (n c : Nat) (hn : n = L.length) (h : IRd w A L) (hm : n ≤ 1000) : Calls Tryz.prog 127 #[.slice A n c, .int .i64 v] w fun x w' => x = .returned (.bool (decide (v ∈ L))) ∧ w = w' := by
  have HI := Lib.hid (index06_any v n c hn h hm)
  have hb := idx_bd L v
  have HB := Lib.hid hb.2.2
  obtain ⟨z, hz⟩ : ∃ z, z = idxI L v := ⟨_, rfl⟩
  rw [← hz] at HI
  have HZ := Lib.hid hz
  clear h hn hb hz
  go_enter Tryz.func127, Tryz.ntmps127
  go_wp2_with fail
  refine HI.out.mono ?_
  rintro x w1 ⟨rfl, rfl⟩
  go_wp2_with fail
  go_ret
  exact ⟨ret_bool (decide_eq_decide.2 (by rw [HZ.out]; exact HB.out)), rfl⟩
theorem allowed_any (i p : Int) (w : World) : Calls Tryz.prog 116 #[.int .i64 i, .int .i64 p] w fun x w' => x = .returned (.bool (allowI i p)) ∧ Below w.heap.size w w' := by
  have hln : (placesI i).length ≤ 14 := by
    by_cases h : i ∈ ids06
    · unfold ids06 at h
      simp only [List.mem_cons, List.not_mem_nil, or_false] at h
      rcases h with rfl | rfl | rfl | rfl | rfl | rfl | rfl | rfl | rfl | rfl | rfl | rfl | rfl | rfl | rfl | rfl | rfl | rfl | rfl | rfl | rfl | rfl | rfl | rfl | rfl | rfl | rfl
      all_goals decide
    · rw [(no_type h).2.1]
      decide
  have HL := Lib.hid hln
  clear hln
  go_enter Tryz.func116, Tryz.ntmps116
  go_wp2_with fail
  refine (places_any i w).mono ?_
  rintro x w1 ⟨a, c, rfl, hr, hb⟩
  have HC := Lib.hid (contains06_any p (placesI i).length c rfl hr (by have := HL.out; omega))
  have HB := Lib.hid hb
  clear hr hb
  go_wp2_with fail
  refine HC.out.mono ?_
  rintro x w2 ⟨rfl, rfl⟩
  go_wp2_with fail
  go_ret
  exact ⟨rfl, HB.out⟩
theorem sev_any (i p : Int) (w : World) : Calls Tryz.prog 118 #[.int .i64 i, .int .i64 p] w fun x w' => x = .returned (.bool (sevI i p)) ∧ w = w' := by
  by_cases h : i = 38
  · subst h
    go_enter Tryz.func118, Tryz.ntmps118
    go_wp2
    go_ret
    exact ⟨rfl, rfl⟩
  · by_cases h2 : i = 11
    · subst h2
      by_cases h3 : p = 3
      · subst h3
        go_enter Tryz.func118, Tryz.ntmps118
        go_wp2
        go_ret
        exact ⟨rfl, rfl⟩
      · have e : (p == 3) = false := beq_eq_false_iff_ne.2 h3
        have HT := Lib.hid (show sevI 11 p = false from by unfold sevI; simp [h3])
        clear h3
        go_enter Tryz.func118, Tryz.ntmps118
        go_wp2
        go_ret
        rw [HT.out]
        exact ⟨rfl, rfl⟩
    · have e : (i == 38) = false := beq_eq_false_iff_ne.2 h
      have e2 : (i == 11) = false := beq_eq_false_iff_ne.2 h2
      have HT := Lib.hid (show sevI i p = false from by unfold sevI; simp [h, h2])
      clear h h2
      go_enter Tryz.func118, Tryz.ntmps118
      go_wp2
      go_ret
      rw [HT.out]
      exact ⟨rfl, rfl⟩
set_option maxHeartbeats 2000000 in
theorem maybe_any (i n : Int) (w : World) : Calls Tryz.prog 120 #[.int .i64 i, .int .i64 n] w fun x w' => x = .returned (.bool (numI i n)) ∧ w = w' := by
  by_cases h1 : i ∈ [1, 23, 25, 36, 37, 40, 41, (42 : Int)]
  · have HT := Lib.hid (show numI i n = (decide (n = 0) || decide (n = 1)) from by unfold numI; rw [if_pos h1])
    simp only [List.mem_cons, List.not_mem_nil, or_false] at h1
    by_cases h0 : n = 0
    · subst h0
      rcases h1 with rfl | rfl | rfl | rfl | rfl | rfl | rfl | rfl
      all_goals
        go_enter Tryz.func120, Tryz.ntmps120
        go_wp2
        go_ret
        exact ⟨rfl, rfl⟩
    · have e0 : (n == 0) = false := beq_eq_false_iff_ne.2 h0
      have HE : Hid ((n == 1) = (decide (n = 0) || decide (n = 1))) := Lib.hid (by simp [h0]; rfl)
      clear h0
      rcases h1 with rfl | rfl | rfl | rfl | rfl | rfl | rfl | rfl
      all_goals
        go_enter Tryz.func120, Tryz.ntmps120
        go_wp2
        go_ret
        rw [HT.out, ← HE.out]
        exact ⟨rfl, rfl⟩
  · by_cases h2 : i ∈ [11, 33, 35, (39 : Int)]
    · have HT := Lib.hid (show numI i n = decide (0 < n) from by unfold numI; rw [if_neg h1, if_pos h2])
      simp only [List.mem_cons, List.not_mem_nil, or_false] at h2
      clear h1
      rcases h2 with rfl | rfl | rfl | rfl
      all_goals
        go_enter Tryz.func120, Tryz.ntmps120
        go_wp2
        go_ret
        rw [HT.out]
        exact ⟨rfl, rfl⟩
    · have HT := Lib.hid (show numI i n = true from by unfold numI; rw [if_neg h1, if_neg h2])
      simp only [List.mem_cons, List.not_mem_nil, or_false, not_or] at h1 h2
      obtain ⟨a1, a2, a3, a4, a5, a6, a7, a8⟩ := h1
      obtain ⟨b1, b2, b3, b4⟩ := h2
      have f1 := beq_eq_false_iff_ne.2 a1
      have f2 := beq_eq_false_iff_ne.2 a2
      have f3 := beq_eq_false_iff_ne.2 a3
      have f4 := beq_eq_false_iff_ne.2 a4
      have f5 := beq_eq_false_iff_ne.2 a5
      have f6 := beq_eq_false_iff_ne.2 a6
      have f7 := beq_eq_false_iff_ne.2 a7
      have f8 := beq_eq_false_iff_ne.2 a8
      have g1 := beq_eq_false_iff_ne.2 b1
      have g2 := beq_eq_false_iff_ne.2 b2
      have g3 := beq_eq_false_iff_ne.2 b3
      have g4 := beq_eq_false_iff_ne.2 b4
      clear a1 a2 a3 a4 a5 a6 a7 a8 b1 b2 b3 b4
      go_enter Tryz.func120, Tryz.ntmps120
      go_wp2
      go_ret
      rw [HT.out]
      exact ⟨rfl, rfl⟩
end
set_option maxRecDepth 100000
open Go.RowKit Go.Extern.Stop Go.Stop Go.Extern
theorem box4 {W : World} {g : Nat} {t : TypeId} {a b c d : Value} (h : Blk W g t #[a, b, c, d]) (x y z u : Value) :
    (W.cell? ⟨g, 0, none⟩ = some a ∧ W.cell? ⟨g, 1, none⟩ = some b ∧ W.cell? ⟨g, 2, none⟩ = some c ∧ W.cell? ⟨g, 3, none⟩ = some d ∧ W.frozen? ⟨g, 0, none⟩ = false ∧ W.frozen? ⟨g, 1, none⟩ = false ∧ W.frozen? ⟨g, 2, none⟩ = false ∧ W.frozen? ⟨g, 3, none⟩ = false) ∧
    ((W.setCell ⟨g, 0, none⟩ x).cell? ⟨g, 1, none⟩ = some b ∧ (W.setCell ⟨g, 0, none⟩ x).frozen? ⟨g, 1, none⟩ = false ∧ (W.setCell ⟨g, 0, none⟩ x).cell? ⟨g, 2, none⟩ = some c ∧ (W.setCell ⟨g, 0, none⟩ x).frozen? ⟨g, 2, none⟩ = false ∧ (W.setCell ⟨g, 0, none⟩ x).cell? ⟨g, 3, none⟩ = some d ∧ (W.setCell ⟨g, 0, none⟩ x).frozen? ⟨g, 3, none⟩ = false) ∧
    (((W.setCell ⟨g, 0, none⟩ x).setCell ⟨g, 1, none⟩ y).cell? ⟨g, 2, none⟩ = some c ∧ ((W.setCell ⟨g, 0, none⟩ x).setCell ⟨g, 1, none⟩ y).frozen? ⟨g, 2, none⟩ = false ∧ ((W.setCell ⟨g, 0, none⟩ x).setCell ⟨g, 1, none⟩ y).cell? ⟨g, 3, none⟩ = some d ∧ ((W.setCell ⟨g, 0, none⟩ x).setCell ⟨g, 1, none⟩ y).frozen? ⟨g, 3, none⟩ = false ∧ (((W.setCell ⟨g, 0, none⟩ x).setCell ⟨g, 1, none⟩ y).setCell ⟨g, 2, none⟩ z).cell? ⟨g, 3, none⟩ = some d ∧ (((W.setCell ⟨g, 0, none⟩ x).setCell ⟨g, 1, none⟩ y).setCell ⟨g, 2, none⟩ z).frozen? ⟨g, 3, none⟩ = false) ∧
    (((((W.setCell ⟨g, 0, none⟩ x).setCell ⟨g, 1, none⟩ y).setCell ⟨g, 2, none⟩ z).setCell ⟨g, 3, none⟩ u).cell? ⟨g, 0, none⟩ = some x ∧ ((((W.setCell ⟨g, 0, none⟩ x).setCell ⟨g, 1, none⟩ y).setCell ⟨g, 2, none⟩ z).setCell ⟨g, 3, none⟩ u).cell? ⟨g, 1, none⟩ = some y ∧ ((((W.setCell ⟨g, 0, none⟩ x).setCell ⟨g, 1, none⟩ y).setCell ⟨g, 2, none⟩ z).setCell ⟨g, 3, none⟩ u).cell? ⟨g, 2, none⟩ = some z ∧ ((((W.setCell ⟨g, 0, none⟩ x).setCell ⟨g, 1, none⟩ y).setCell ⟨g, 2, none⟩ z).setCell ⟨g, 3, none⟩ u).cell? ⟨g, 3, none⟩ = some u) := by
  have h1 := h.store 0 x
  have h2 := h1.store 1 y
  have h3 := h2.store 2 z
  have h4 := h3.store 3 u
  exact ⟨⟨h.cell 0, h.cell 1, h.cell 2, h.cell 3, h.frozen 0, h.frozen 1, h.frozen 2, h.frozen 3⟩, ⟨h1.cell 1, h1.frozen 1, h1.cell 2, h1.frozen 2, h1.cell 3, h1.frozen 3⟩, ⟨h2.cell 2, h2.frozen 2, h2.cell 3, h2.frozen 3, h3.cell 3, h3.frozen 3⟩, h4.cell 0, h4.cell 1, h4.cell 2, h4.cell 3⟩
/-- The first one of an identifier. -/
def getV : PL → Int → PV × Bool
  | [], _ => (p0, false)
  | p :: L, i => if p.id = i then (p, true) else getV L i
theorem drop_at {L : PL} {k : Nat} (hk : k < L.length) : L.drop k = L.getD k p0 :: L.drop (k + 1) := by
  rw [List.getD_eq_getElem?_getD, List.getElem?_eq_getElem hk]
  exact List.drop_eq_getElem_cons hk
def GetSays (w : World) (q : PV × Bool) (x : Ending) (w' : World) : Prop := x = .returned (.tuple #[q.1.agg, .bool q.2]) ∧ Below w.heap.size w w'
section
variable {w w' : World} {S : Nat → Addr} {B : Nat} {A : Option Addr} {L : PL}
set_option maxHeartbeats 1000000 in
theorem get_any (i : Int) (n c : Nat) (hn : n = L.length) (h : PIn w B A L) (hm : n ≤ 1000) : Calls Tryz.prog 117 #[.slice A n c, .int .i64 i] w (GetSays w (getV L i)) := by
  obtain ⟨q, hq⟩ : ∃ q, q = getV L i := ⟨_, rfl⟩
  rw [← hq]
  have HQ := Lib.hid hq
  have HN := Lib.hid hn
  have HA := Lib.hid h
  have hb0 : Below w.heap.size w (w.alloc (.cells #[.int .i64 0, .int .i64 0, .string ⟨#[]⟩, .string ⟨#[]⟩] 98)) := (Below.refl _ _).alloc (Nat.le_refl _) _
  have HI0 := Lib.hid (show Below w.heap.size w (w.alloc (.cells #[.int .i64 0, .int .i64 0, .string ⟨#[]⟩, .string ⟨#[]⟩] 98)) ∧ Blk (w.alloc (.cells #[.int .i64 0, .int .i64 0, .string ⟨#[]⟩, .string ⟨#[]⟩] 98)) w.heap.size 98 #[.int .i64 0, .int .i64 0, .string ⟨#[]⟩, .string ⟨#[]⟩] from ⟨hb0, Blk.made w _ _⟩)
  clear hq hn h hb0
  go_enter Tryz.func117, Tryz.ntmps117
  go_wp2_with fail
  go_loopw [10] (fun j wr => ∃ k : Nat, k ≤ n ∧ j = .int .i64 k ∧ Hid (q = getV (L.drop k) i ∧ Below w.heap.size w wr ∧ Blk wr w.heap.size 98 #[.int .i64 0, .int .i64 0, .string ⟨#[]⟩, .string ⟨#[]⟩])) (fun j _ => n - (intOf j).toNat)
  case atStart => exact ⟨0, by omega, rfl, Lib.hid ⟨HQ.out, HI0.out⟩⟩
  case round =>
    obtain ⟨k, hk, rfl, HJ⟩ := hrel
    obtain ⟨hj1, hj2, hj3⟩ := HJ.out
    by_cases hlt : k < n
    · obtain ⟨g, off, rfl, hc, _⟩ := HA.out (by have := HN.out; omega)
      have hcc := hc k (by have := HN.out; omega)
      have hcw := hcc.at (w' := wr) (hj2.block g (lt_of_cell hcc.c0))
      rw [drop_at (by have := HN.out; omega)] at hj1
      generalize L.getD k p0 = p at *
      obtain ⟨pi, pn, ps, pv⟩ := p
      obtain ⟨c0, c1, c2, c3⟩ := hcw
      have hbk := Blk.made wr 98 #[.int .i64 pi, .int .i64 pn, .string ps, .string pv]
      have e0 := hbk.cell 0
      have e1 := hbk.cell 1
      have e2 := hbk.cell 2
      have e3 := hbk.cell 3
      have hb1 : Below wr.heap.size wr (wr.alloc (.cells #[.int .i64 pi, .int .i64 pn, .string ps, .string pv] 98)) := (Below.refl _ _).alloc (Nat.le_refl _) _
      have hbx := hj3.below hb1 hj3.lt
      have HB1 := Lib.hid (hj2.trans (hb1.mono hj2.size))
      by_cases hi : pi = i
      · subst hi
        rw [getV, if_pos rfl] at hj1
        subst hj1
        obtain ⟨⟨r0, r1, r2, r3, s0, s1, s2, s3⟩, ⟨x1, y1, x2, y2, x3, y3⟩, ⟨k2, l2, k3, l3, m3, n3⟩, z0, z1, z2, z3⟩ := box4 hbx (.int .i64 pi) (.int .i64 pn) (.string ps) (.string pv)
        have HT := Lib.hid (((((HB1.out.setCell (p := ⟨w.heap.size, 0, none⟩) (Nat.le_refl _) (.int .i64 pi)).setCell (p := ⟨w.heap.size, 1, none⟩) (Nat.le_refl _) (.int .i64 pn))).setCell (p := ⟨w.heap.size, 2, none⟩) (Nat.le_refl _) (.string ps)).setCell (p := ⟨w.heap.size, 3, none⟩) (Nat.le_refl _) (.string pv))
        clear hj2 hj3 hc hcc hbk hb1 hbx HJ HI0
        go_wp2_with fail
        exact bodyPost_ret (v := .tuple #[.agg #[.int .i64 pi, .int .i64 pn, .string ps, .string pv], .bool true]) (by simp [results, Tryz.results117, go_sem, z0, z1, z2, z3]) rfl ⟨rfl, HT.out⟩
      · rw [getV, if_neg hi] at hj1
        have hb : (pi == i) = false := beq_eq_false_iff_ne.2 hi
        have HX := Lib.hid (show q = getV (L.drop (k + 1)) i ∧ _ ∧ _ from ⟨hj1, HB1.out, hbx⟩)
        clear hj1 hj2 hj3 hc hcc hbk hb1 hbx HJ HI0 hi
        go_wp2_with fail
        go_roundw
        case rel => exact ⟨k + 1, by omega, by go_num, HX⟩
        case measure => simp [intOf]; omega
    · rw [List.drop_eq_nil_of_le (by have := HN.out; omega)] at hj1
      subst hj1
      obtain ⟨⟨r0, r1, r2, r3, s0, s1, s2, s3⟩, ⟨x1, y1, x2, y2, x3, y3⟩, ⟨k2, l2, k3, l3, m3, n3⟩, z0, z1, z2, z3⟩ := box4 hj3 (.int .i64 0) (.int .i64 0) (.string ⟨#[]⟩) (.string ⟨#[]⟩)
      have HT := Lib.hid (((((hj2.setCell (p := ⟨w.heap.size, 0, none⟩) (Nat.le_refl _) (.int .i64 0)).setCell (p := ⟨w.heap.size, 1, none⟩) (Nat.le_refl _) (.int .i64 0))).setCell (p := ⟨w.heap.size, 2, none⟩) (Nat.le_refl _) (.string ⟨#[]⟩)).setCell (p := ⟨w.heap.size, 3, none⟩) (Nat.le_refl _) (.string ⟨#[]⟩))
      clear hj2 hj3 HJ HI0
      go_wp2_with fail
      exact bodyPost_ret (v := .tuple #[.agg #[.int .i64 0, .int .i64 0, .string ⟨#[]⟩, .string ⟨#[]⟩], .bool false]) (by simp [results, Tryz.results117, go_sem, z0, z1, z2, z3]) rfl ⟨rfl, HT.out⟩
end
set_option maxRecDepth 100000
open Go.RowKit Go.Extern.Stop Go.Stop Go.Extern
/-- Why a property may not stand behind others, whatever it has: the error's number, and the reason. -/
def idErr (place : Int) (L : PL) (i : Int) : Nat × Int :=
  if 64 ≤ L.length then (4, 149) else if typeI i = 0 ∨ allowI i place = false then (2, 129) else if (getV L i).2 = true ∧ sevI i place = false then (3, 130) else (0, 0)
/-- Why a property may not stand behind others. -/
def propErr (place : Int) (L : PL) (p : PV) : Nat × Int := if (idErr place L p.id).1 = 0 then (if numI p.id p.n = true then (0, 0) else (3, 130)) else idErr place L p.id
/-- The first error: its number, its reason, and where it is. -/
def chkFrom (place : Int) (L : PL) : Nat → PL → Nat × Int × Nat
  | _, [] => (0, 0, 0)
  | k, p :: R => if (propErr place (L.take k) p).1 = 0 then chkFrom place L (k + 1) R else ((propErr place (L.take k) p).1, (propErr place (L.take k) p).2, k)
def chkL (place : Int) (L : PL) : Nat × Int × Nat := chkFrom place L 0 L
section
variable {w w' : World} {S : Nat → Addr} {B : Nat} {A : Option Addr} {L : PL}
theorem PIn.take (h : PIn w B A L) (k : Nat) : PIn w B A (L.take k) := by
  intro hp
  have hp' : 0 < L.length := by rw [List.length_take] at hp; omega
  obtain ⟨g, off, e, hc, hg⟩ := h hp'
  refine ⟨g, off, e, fun j hj => ?_, hg⟩
  rw [List.length_take] at hj
  have := hc j (by omega)
  rw [List.getD_eq_getElem?_getD, List.getElem?_take_of_lt (by omega), ← List.getD_eq_getElem?_getD]
  exact this
def CkSays (w : World) (S : Nat → Addr) (q : Nat × Int) (at_ : Nat) (x : Ending) (w' : World) : Prop := ∃ e, x = .returned e ∧ ErrOf w' S q.2 q.1 at_ e ∧ Below w.heap.size w w'
set_option maxHeartbeats 1000000 in
theorem checkId_any (hE : Env w S) (place i : Int) (at_ : Nat) (n c : Nat) (hn : n = L.length) (h : PIn w B A L) (hm : n ≤ 1000) :
    Calls Tryz.prog 97 #[.int .i64 place, .slice A n c, .int .i64 i, .int .i64 (at_ : Int)] w (CkSays w S (idErr place L i) at_) := by
  have HE := Lib.hid hE
  by_cases h64 : 64 ≤ n
  · have hq : idErr place L i = (4, 149) := by unfold idErr; rw [if_pos (by omega)]
    rw [hq]
    have hk := hE.kTooLarge
    have HN := Lib.hid (new_err (w := w) S 3 149 at_)
    clear hE hq h hn hm
    go_enter Tryz.func97, Tryz.ntmps97
    go_wp2_with fail
    refine HN.out.mono ?_
    rintro x w1 ⟨e, rfl, he, hb⟩
    go_wp2
    go_ret
    exact ⟨_, rfl, ErrOf.some (by omega) (by omega) he, hb⟩
  · by_cases ht : typeI i = 0
    · have hq : idErr place L i = (2, 129) := by unfold idErr; rw [if_neg (by omega), if_pos (.inl ht)]
      rw [hq]
      have hk := hE.kMalformed
      have HN := Lib.hid (new_err (w := w) S 1 129 at_)
      have HT := Lib.hid (fun W : World => ptype_any i W)
      rw [ht] at HT
      clear hE hq h hn hm ht
      go_enter Tryz.func97, Tryz.ntmps97
      go_wp2_with fail
      refine (HT.out _).mono ?_
      rintro x w1 ⟨rfl, rfl⟩
      go_wp2_with fail
      refine HN.out.mono ?_
      rintro x w1 ⟨e, rfl, he, hb⟩
      go_wp2
      go_ret
      exact ⟨_, rfl, ErrOf.some (by omega) (by omega) he, hb⟩
    · have ht' : ((typeI i : Int) == 0) = false := beq_eq_false_iff_ne.2 (by omega)
      cases ha : allowI i place with
      | false =>
        have hq : idErr place L i = (2, 129) := by unfold idErr; rw [if_neg (by omega), if_pos (.inr ha)]
        rw [hq]
        have HA := Lib.hid (fun W : World => allowed_any i place W)
        rw [ha] at HA
        have HTY := Lib.hid (fun W : World => ptype_any i W)
        clear hE hq h hn hm ht ha
        generalize typeI i = ti at *
        go_enter Tryz.func97, Tryz.ntmps97
        go_wp2_with fail
        refine (HTY.out _).mono ?_
        rintro x w1 ⟨rfl, rfl⟩
        go_wp2_with fail
        refine (HA.out _).mono ?_
        rintro x w1 ⟨rfl, hb1⟩
        have hk := (HE.out.later hb1).kMalformed
        have HN := Lib.hid (new_err (w := w1) S 1 129 at_)
        have HB1 := Lib.hid hb1
        clear hb1
        go_wp2_with fail
        refine HN.out.mono ?_
        rintro x w2 ⟨e, rfl, he, hb⟩
        have HX := Lib.hid (ErrOf.some (no := 2) (by omega) (by omega) he)
        have HB := Lib.hid (HB1.out.trans (hb.mono HB1.out.size))
        clear he hb
        go_wp2
        go_ret
        exact ⟨_, rfl, HX.out, HB.out⟩
      | true =>
        have HA := Lib.hid (fun W : World => allowed_any i place W)
        rw [ha] at HA
        have HTY := Lib.hid (fun W : World => ptype_any i W)
        have HP := Lib.hid h
        obtain ⟨⟨⟨pi, pn, ps, pv⟩, b⟩, hg⟩ : ∃ q, q = getV L i := ⟨_, rfl⟩
        have HG := Lib.hid (fun (W : World) (hW : PIn W B A L) => show Calls Tryz.prog 117 #[.slice A n c, .int .i64 i] W (GetSays W ((⟨pi, pn, ps, pv⟩, b) : PV × Bool)) from by rw [hg]; exact get_any i n c hn hW hm)
        have HV := Lib.hid (fun W : World => sev_any i place W)
        cases b with
        | false =>
          have hq : idErr place L i = (0, 0) := by
            unfold idErr
            rw [if_neg (by omega), if_neg (by rw [ha]; simp [ht]), if_neg (by rw [← hg]; simp)]
          rw [hq]
          clear hE hq h hn hm ht ha hg
          generalize typeI i = ti at *
          go_enter Tryz.func97, Tryz.ntmps97
          go_wp2_with fail
          refine (HTY.out _).mono ?_
          rintro x w1 ⟨rfl, rfl⟩
          go_wp2_with fail
          refine (HA.out _).mono ?_
          rintro x w1 ⟨rfl, hb1⟩
          have HB1 := Lib.hid hb1
          clear hb1
          go_wp2_with fail
          refine (HG.out _ (HP.out.below HB1.out)).mono ?_
          rintro x w2 ⟨rfl, hb2⟩
          have HB2 := Lib.hid (HB1.out.trans (hb2.mono HB1.out.size))
          rw [show PV.agg ⟨pi, pn, ps, pv⟩ = .agg #[.int .i64 pi, .int .i64 pn, .string ps, .string pv] from rfl]
          have HB3 := Lib.hid (HB2.out.trans (((Below.refl w2.heap.size w2).alloc (Nat.le_refl _) (.cells #[.int .i64 pi, .int .i64 pn, .string ps, .string pv] 98)).mono HB2.out.size))
          clear hb2
          go_wp2_with fail
          go_ret
          exact ⟨_, rfl, ErrOf.none, HB3.out⟩
        | true =>
          cases hv : sevI i place with
          | true =>
            have hq : idErr place L i = (0, 0) := by
              unfold idErr
              rw [if_neg (by omega), if_neg (by rw [ha]; simp [ht]), if_neg (by rw [hv]; simp)]
            rw [hq]
            rw [hv] at HV
            clear hE hq h hn hm ht ha hg hv
            generalize typeI i = ti at *
            go_enter Tryz.func97, Tryz.ntmps97
            go_wp2_with fail
            refine (HTY.out _).mono ?_
            rintro x w1 ⟨rfl, rfl⟩
            go_wp2_with fail
            refine (HA.out _).mono ?_
            rintro x w1 ⟨rfl, hb1⟩
            have HB1 := Lib.hid hb1
            clear hb1
            go_wp2_with fail
            refine (HG.out _ (HP.out.below HB1.out)).mono ?_
            rintro x w2 ⟨rfl, hb2⟩
            have HB2 := Lib.hid (HB1.out.trans (hb2.mono HB1.out.size))
            rw [show PV.agg ⟨pi, pn, ps, pv⟩ = .agg #[.int .i64 pi, .int .i64 pn, .string ps, .string pv] from rfl]
            have HB3 := Lib.hid (HB2.out.trans (((Below.refl w2.heap.size w2).alloc (Nat.le_refl _) (.cells #[.int .i64 pi, .int .i64 pn, .string ps, .string pv] 98)).mono HB2.out.size))
            clear hb2
            go_wp2_with fail
            refine (HV.out _).mono ?_
            rintro x w4 ⟨rfl, rfl⟩
            go_wp2_with fail
            go_ret
            exact ⟨_, rfl, ErrOf.none, HB3.out⟩
          | false =>
            have hq : idErr place L i = (3, 130) := by
              unfold idErr
              rw [if_neg (by omega), if_neg (by rw [ha]; simp [ht]), if_pos (by rw [hv, ← hg]; exact ⟨rfl, rfl⟩)]
            rw [hq]
            rw [hv] at HV
            clear hE hq h hn hm ht ha hg hv
            generalize typeI i = ti at *
            go_enter Tryz.func97, Tryz.ntmps97
            go_wp2_with fail
            refine (HTY.out _).mono ?_
            rintro x w1 ⟨rfl, rfl⟩
            go_wp2_with fail
            refine (HA.out _).mono ?_
            rintro x w1 ⟨rfl, hb1⟩
            have HB1 := Lib.hid hb1
            clear hb1
            go_wp2_with fail
            refine (HG.out _ (HP.out.below HB1.out)).mono ?_
            rintro x w2 ⟨rfl, hb2⟩
            have HB2 := Lib.hid (HB1.out.trans (hb2.mono HB1.out.size))
            rw [show PV.agg ⟨pi, pn, ps, pv⟩ = .agg #[.int .i64 pi, .int .i64 pn, .string ps, .string pv] from rfl]
            have HB3 := Lib.hid (HB2.out.trans (((Below.refl w2.heap.size w2).alloc (Nat.le_refl _) (.cells #[.int .i64 pi, .int .i64 pn, .string ps, .string pv] 98)).mono HB2.out.size))
            have hk := (HE.out.later HB3.out).kProtocol
            have HN := Lib.hid (new_err (w := w2.alloc (.cells #[.int .i64 pi, .int .i64 pn, .string ps, .string pv] 98)) S 2 130 at_)
            clear hb2
            go_wp2_with fail
            refine (HV.out _).mono ?_
            rintro x w4 ⟨rfl, rfl⟩
            go_wp2_with fail
            refine HN.out.mono ?_
            rintro x w5 ⟨e, rfl, he, hb⟩
            have HX := Lib.hid (ErrOf.some (no := 3) (by omega) (by omega) he)
            have HB := Lib.hid (HB3.out.trans (hb.mono HB3.out.size))
            clear he hb
            go_wp2
            go_ret
            exact ⟨_, rfl, HX.out, HB.out⟩
theorem cnum_any (hE : Env w S) (p : PV) (at_ : Nat) : Calls Tryz.prog 99 #[p.agg, .int .i64 (at_ : Int)] w (CkSays w S (if numI p.id p.n = true then (0, 0) else (3, 130)) at_) := by
  obtain ⟨pi, pn, ps, pv⟩ := p
  rw [show PV.agg ⟨pi, pn, ps, pv⟩ = .agg #[.int .i64 pi, .int .i64 pn, .string ps, .string pv] from rfl]
  have hbk := Blk.made w 98 #[.int .i64 pi, .int .i64 pn, .string ps, .string pv]
  have e0 := hbk.cell 0
  have e1 := hbk.cell 1
  have hb1 : Below w.heap.size w (w.alloc (.cells #[.int .i64 pi, .int .i64 pn, .string ps, .string pv] 98)) := (Below.refl _ _).alloc (Nat.le_refl _) _
  have hk := (hE.later hb1).kProtocol
  have HN := Lib.hid (new_err (w := w.alloc (.cells #[.int .i64 pi, .int .i64 pn, .string ps, .string pv] 98)) S 2 130 at_)
  have HB1 := Lib.hid hb1
  have HM := Lib.hid (fun W : World => maybe_any pi pn W)
  clear hE hbk hb1
  simp only
  cases hnum : numI pi pn with
  | true =>
    rw [hnum] at HM
    rw [if_pos rfl]
    clear hnum
    go_enter Tryz.func99, Tryz.ntmps99
    go_wp2_with fail
    refine (HM.out _).mono ?_
    rintro x w4 ⟨rfl, rfl⟩
    go_wp2_with fail
    go_ret
    exact ⟨_, rfl, ErrOf.none, HB1.out⟩
  | false =>
    rw [hnum] at HM
    rw [if_neg (by decide)]
    clear hnum
    go_enter Tryz.func99, Tryz.ntmps99
    go_wp2_with fail
    refine (HM.out _).mono ?_
    rintro x w4 ⟨rfl, rfl⟩
    go_wp2_with fail
    refine HN.out.mono ?_
    rintro x w5 ⟨e, rfl, he, hb⟩
    have HX := Lib.hid (ErrOf.some (no := 3) (by omega) (by omega) he)
    have HB := Lib.hid (HB1.out.trans (hb.mono HB1.out.size))
    clear he hb
    go_wp2
    go_ret
    exact ⟨_, rfl, HX.out, HB.out⟩
/-- What Check's round holds. -/
structure CkIn (w W : World) (S : Nat → Addr) (B : Nat) (A : Option Addr) (L : PL) (g : Nat) (p : PV) : Prop where
  env : Env W S
  bel : Below w.heap.size w W
  rd : PIn W B A L
  box : Blk W g 98 #[.int .i64 p.id, .int .i64 p.n, .string p.s, .string p.v]
theorem CkIn.below {W W' : World} {g : Nat} {p : PV} (h : CkIn w W S B A L g p) (hb : Below W.heap.size W W') : CkIn w W' S B A L g p := ⟨h.env.later hb, h.bel.trans (hb.mono h.bel.size), h.rd.below hb, h.box.below hb h.box.lt⟩
theorem CkIn.drewN {W : World} {g : Nat} {p : PV} (h : CkIn w W S B A L g p) (d : Nat) : CkIn w (W.drewN d) S B A L g p := h.below (below_drewN (Below.refl _ _) d)
theorem chk_go {place : Int} {L : PL} {k : Nat} (hk : k < L.length) (h : (propErr place (L.take k) (L.getD k p0)).1 = 0) : chkFrom place L k (L.drop k) = chkFrom place L (k + 1) (L.drop (k + 1)) := by
  rw [drop_at hk, chkFrom, if_pos h]
theorem chk_stop {place : Int} {L : PL} {k : Nat} (hk : k < L.length) (h : (propErr place (L.take k) (L.getD k p0)).1 ≠ 0) : chkFrom place L k (L.drop k) = ((propErr place (L.take k) (L.getD k p0)).1, (propErr place (L.take k) (L.getD k p0)).2, k) := by
  rw [drop_at hk, chkFrom, if_neg h]
def ChSays (w : World) (S : Nat → Addr) (q : Nat × Int × Nat) (x : Ending) (w' : World) : Prop := ∃ e, x = .returned e ∧ ErrOf w' S q.2.1 q.1 q.2.2 e ∧ Below w.heap.size w w'
set_option maxHeartbeats 2000000 in
theorem check_any (hE : Env w S) (place : Int) (n c : Nat) (hn : n = L.length) (h : PIn w B A L) (hm : n ≤ 1000) (hcap : n ≤ c) : Calls Tryz.prog 100 #[.int .i64 place, .slice A n c] w (ChSays w S (chkL place L)) := by
  obtain ⟨q, hq⟩ : ∃ q, q = chkL place L := ⟨_, rfl⟩
  rw [← hq]
  have HQ := Lib.hid (show q = chkFrom place L 0 (L.drop 0) from hq)
  have HN := Lib.hid hn
  have HA := Lib.hid h
  have HE := Lib.hid hE
  clear hq hn h hE
  go_enter Tryz.func100, Tryz.ntmps100
  go_wp2_with fail
  go_loopw [11] (fun j wr => ∃ k : Nat, k ≤ n ∧ j = .int .i64 k ∧ Hid (q = chkFrom place L k (L.drop k) ∧ Below w.heap.size w wr)) (fun j _ => n - (intOf j).toNat)
  case atStart => exact ⟨0, by omega, rfl, Lib.hid ⟨HQ.out, Below.refl _ _⟩⟩
  case round =>
    obtain ⟨k, hk, rfl, HJ⟩ := hrel
    obtain ⟨hj1, hj2⟩ := HJ.out
    by_cases hlt : k < n
    · have hkL : k < L.length := by have := HN.out; omega
      obtain ⟨g, off, rfl, hc, _⟩ := HA.out (by omega)
      have hcc := hc k hkL
      have hcw := hcc.at (w' := wr) (hj2.block g (lt_of_cell hcc.c0))
      obtain ⟨p, hp⟩ : ∃ p, p = L.getD k p0 := ⟨_, rfl⟩
      rw [← hp] at hcw
      have HP := Lib.hid hp
      obtain ⟨pi, pn, ps, pv⟩ := p
      obtain ⟨c0, c1, c2, c3⟩ := hcw
      have hb1 : Below wr.heap.size wr (wr.alloc (.cells #[.int .i64 pi, .int .i64 pn, .string ps, .string pv] 98)) := (Below.refl _ _).alloc (Nat.le_refl _) _
      have hi0 : CkIn w (wr.alloc (.cells #[.int .i64 pi, .int .i64 pn, .string ps, .string pv] 98)) S B (some ⟨g, off, none⟩) L wr.heap.size ⟨pi, pn, ps, pv⟩ :=
        ⟨HE.out.later (hj2.trans (hb1.mono hj2.size)), hj2.trans (hb1.mono hj2.size), (HA.out.below hj2).below hb1, Blk.made wr _ _⟩
      have KT := Lib.hid (fun (W : World) (h : CkIn w W S B (some ⟨g, off, none⟩) L wr.heap.size ⟨pi, pn, ps, pv⟩) => show W.cell? ⟨wr.heap.size, 0, none⟩ = some (.int .i64 pi) from h.box.cell 0)
      have hkc : k ≤ c := by omega
      have htk : k = (L.take k).length := by rw [List.length_take]; omega
      have D74 := Lib.hid (fun (W : World) (h : CkIn w W S B (some ⟨g, off, none⟩) L wr.heap.size ⟨pi, pn, ps, pv⟩) => show Calls Tryz.prog 97 #[.int .i64 place, .slice (some ⟨g, off, none⟩) k c, .int .i64 pi, .int .i64 (k : Int)] W (fun x w' => ∃ e, x = .returned e ∧ ErrOf w' S (idErr place (L.take k) pi).2 (idErr place (L.take k) pi).1 k e ∧ CkIn w w' S B (some ⟨g, off, none⟩) L wr.heap.size ⟨pi, pn, ps, pv⟩) from
        (checkId_any h.env place pi k k c htk (h.rd.take k) (by omega)).mono fun x w' hx => by
          obtain ⟨e, rfl, he, hb⟩ := hx
          exact ⟨e, rfl, he, h.below hb⟩)
      have HI0 := Lib.hid hi0
      have t0 := KT.out _ hi0
      clear hc hcc hb1 hp htk hj1 hj2
      go_wp2_with fail
      go_region_held3 (fun W => W.cell? ⟨wr.heap.size, 0, none⟩ = some (.int .i64 pi))
        (first | assumption | (exact KT.out _ (by assumption)) | (exact KT.out _ (CkIn.drewN (by assumption) 1)))
        (first
        | (go_at_call 97; (with_reducible refine (D74.out _ ?_).mono ?_); (first | assumption | exact CkIn.drewN (by assumption) 1); rintro x w6 ⟨e6, rfl, he6, hi6⟩))
      obtain ⟨z, hz⟩ : ∃ z, z = idErr place (L.take k) pi := ⟨_, rfl⟩
      rw [← hz] at he6
      have HZ := Lib.hid hz
      have HP2 := Lib.hid (show propErr place (L.take k) (L.getD k p0) = if z.1 = 0 then (if numI pi pn = true then (0, 0) else (3, 130)) else z from by rw [← HP.out, hz]; rfl)
      have HI6 := Lib.hid hi6
      clear hz t0
      by_cases hz0 : z.1 = 0
      · unfold ErrOf at he6
        rw [if_pos hz0] at he6
        subst he6
        have e0 := hi6.box.cell 0
        have e1 := hi6.box.cell 1
        have e2 := hi6.box.cell 2
        have e3 := hi6.box.cell 3
        have HC := Lib.hid (cnum_any hi6.env ⟨pi, pn, ps, pv⟩ k)
        clear hi6
        go_wp2_with fail
        refine HC.out.mono ?_
        rintro x w7 ⟨e7, rfl, he7, hb7⟩
        have HB7 := Lib.hid (HI6.out.bel.trans (hb7.mono HI6.out.bel.size))
        cases hnum : numI pi pn with
        | true =>
          rw [hnum, if_pos rfl] at he7
          unfold ErrOf at he7
          rw [if_pos rfl] at he7
          subst he7
          have HX := Lib.hid (HJ.out.1.trans (chk_go hkL (by rw [HP2.out, if_pos hz0, if_pos hnum])))
          clear hb7 hnum HC
          go_wp2_with fail
          go_roundw
          case rel => exact ⟨k + 1, by omega, by go_num, Lib.hid ⟨HX.out, HB7.out⟩⟩
          case measure => simp [intOf]; omega
        | false =>
          rw [hnum, if_neg (by decide)] at he7
          obtain ⟨t7, u7', rfl⟩ := err_iface he7 (by decide)
          have HX := Lib.hid (show ChSays w S q (.returned (.iface t7 u7')) w7 from by
            refine ⟨_, rfl, ?_, HB7.out⟩
            rw [HJ.out.1.trans (chk_stop hkL (by rw [HP2.out, if_pos hz0, hnum, if_neg (by decide)]; decide)), HP2.out, if_pos hz0, hnum, if_neg (by decide)]
            exact he7)
          clear hb7 hnum HC he7
          go_wp2_with fail
          go_ret
          exact HX.out
      · obtain ⟨t6, u6', rfl⟩ := err_iface he6 hz0
        have HX := Lib.hid (show ChSays w S q (.returned (.iface t6 u6')) w6 from by
          refine ⟨_, rfl, ?_, hi6.bel⟩
          rw [HJ.out.1.trans (chk_stop hkL (by rw [HP2.out, if_neg hz0]; exact hz0)), HP2.out, if_neg hz0]
          exact he6)
        clear hi6 he6
        go_wp2_with fail
        go_ret
        exact HX.out
    · have HX := Lib.hid (show ChSays w S q (.returned .nilIface) wr from by
        refine ⟨_, rfl, ?_, hj2⟩
        rw [hj1, List.drop_eq_nil_of_le (by have := HN.out; omega)]
        exact ErrOf.none)
      clear hj1 hj2
      go_wp2_with fail
      go_ret
      exact HX.out
end
end Go.Proofs.YtnolnhpmpjgnaaaGreatDoor

/- What is proved here: the properties without those of an identifier; whether properties are few, and plain; that equal ones are the same. Conditions: the properties stand where the slices say, few of them. -/
import Derived.Test.YtfojoeafhdiaiaaGreatDoorRea06
namespace Go.Proofs.YtfojoeafhdiaiaaGreatDoor
set_option maxRecDepth 100000
open Go.RowKit Go.Extern.Stop Go.Stop Go.Extern
def woL (L : PL) (i : Int) : PL := L.filter fun p => !(p.id == i)
theorem wo_at {L : PL} {k : Nat} (i : Int) (hk : k < L.length) : woL (L.take (k + 1)) i = woL (L.take k) i ++ (if (L.getD k p0).id = i then [] else [L.getD k p0]) := by
  unfold woL
  rw [List.take_succ_eq_append_getElem hk, List.filter_append, List.getD_eq_getElem?_getD, List.getElem?_eq_getElem hk]
  simp only [Option.getD_some]
  by_cases h : L[k].id = i
  · rw [if_pos h]; simp [h]
  · rw [if_neg h]; simp [h]
/-- What Without's loop holds. -/
structure WoIn (w W : World) (B : Nat) (A : Option Addr) (L : PL) (u : Value) (M : PL) : Prop where
  row : PRow W w.heap.size u M
  bel : Below w.heap.size w W
section
variable {w W W' : World} {B : Nat} {A : Option Addr} {L M M' : PL} {u u' : Value}
theorem WoIn.below (h : WoIn w W B A L u M) (hb : Below W.heap.size W W') : WoIn w W' B A L u M := ⟨h.row.below hb, h.bel.trans (hb.mono h.bel.size)⟩
theorem WoIn.app (h : WoIn w W B A L u M) (hn : PNext W W' w.heap.size u u' M') : WoIn w W' B A L u' M' := by
  have hf : Fr u.ownBlock.toList W W' := (Fr.refl _ W).grown hn.grown fun k hk => .inl (own_list.2 hk)
  exact ⟨hn.row, hf.later h.bel (fun b hm => (h.row.lt b (own_list.1 hm)).1) h.bel.size⟩
def WoSays (w : World) (M : PL) (x : Ending) (w' : World) : Prop := ∃ a n c, x = .returned (.slice a n c) ∧ n = M.length ∧ PRow w' w.heap.size (.slice a n c) M ∧ Below w.heap.size w w'
set_option maxHeartbeats 2000000 in
theorem without_any (i : Int) (n c : Nat) (hn : n = L.length) (h : PIn w B A L) (hm : n ≤ 1000) : Calls Tryz.prog 16 #[.slice A n c, .int .i64 i] w (WoSays w (woL L i)) := by
  have HN := Lib.hid hn
  have HA := Lib.hid h
  have HI0 : Hid (WoIn w w B A L (.slice none 0 0) (woL (L.take 0) i)) := Lib.hid ⟨PRow.nil _ _, Below.refl _ _⟩
  clear hn h
  go_enter Tryz.func16, Tryz.ntmps16
  go_wp2_with fail
  go_loopw [5, 10] (fun u j wr => ∃ k : Nat, k ≤ n ∧ j = .int .i64 k ∧ Hid (WoIn w wr B A L u (woL (L.take k) i))) (fun _ j _ => n - (intOf j).toNat)
  case atStart => exact ⟨0, by omega, rfl, HI0⟩
  case round =>
    obtain ⟨k, hk, rfl, HI⟩ := hrel
    obtain ⟨av, nv, cv, rfl, hnv, _⟩ := HI.out.row.some_form
    by_cases hlt : k < n
    · have hkL : k < L.length := by have := HN.out; omega
      obtain ⟨g, off, rfl, hc, _⟩ := HA.out (by omega)
      have hcc := hc k hkL
      have hcw := hcc.at (w' := wr) (HI.out.bel.block g (lt_of_cell hcc.c0))
      have hwo := wo_at i hkL
      have hml : (woL (L.take k) i).length ≤ 1000 := by
        have h1 := List.length_filter_le (fun p : PV => !(p.id == i)) (L.take k)
        have h2 : (L.take k).length ≤ k := by rw [List.length_take]; omega
        unfold woL
        omega
      generalize L.getD k p0 = p at *
      obtain ⟨pi, pn, ps, pv⟩ := p
      obtain ⟨c0, c1, c2, c3⟩ := hcw
      have hbk := Blk.made wr 26 #[.int .i64 pi, .int .i64 pn, .string ps, .string pv]
      have e0 := hbk.cell 0
      have e1 := hbk.cell 1
      have e2 := hbk.cell 2
      have e3 := hbk.cell 3
      have hb1 : Below wr.heap.size wr (wr.alloc (.cells #[.int .i64 pi, .int .i64 pn, .string ps, .string pv] 26)) := (Below.refl _ _).alloc (Nat.le_refl _) _
      have HI1 := Lib.hid (HI.out.below hb1)
      by_cases hi : pi = i
      · rw [if_pos hi, List.append_nil] at hwo
        have hb : (pi == i) = true := beq_iff_eq.2 hi
        have HX := Lib.hid (show WoIn w _ B (some ⟨g, off, none⟩) L (.slice av nv cv) (woL (L.take (k + 1)) i) from by rw [hwo]; exact HI1.out)
        clear hwo hml hc hcc hbk hb1 HI0 hi hnv
        go_wp2_with fail
        go_roundw
        case rel => exact ⟨k + 1, by omega, by go_num, HX⟩
        case measure => simp [intOf]; omega
      · rw [if_neg hi] at hwo
        have hb : (pi == i) = false := beq_eq_false_iff_ne.2 hi
        have HWO := Lib.hid hwo
        have HS1 := Lib.hid HI1.out.bel.size
        have HML := Lib.hid (show (woL (L.take k) i).length ≤ 100000 from by omega)
        clear hwo hml hc hcc hbk hb1 HI0 hi hnv
        go_wp2_with (at_builtin; go_must (refine append_prop ⟨pi, pn, ps, pv⟩ rfl _ _ rfl HI1.out.row HS1.out rfl (wr.heap.size + 1) 1 rfl (by simp) HML.out ?_))
        intro v7 w7 hn7
        have HX := Lib.hid (show WoIn w w7 B (some ⟨g, off, none⟩) L v7 (woL (L.take (k + 1)) i) from by rw [HWO.out]; exact HI1.out.app hn7)
        clear hn7
        go_wp2_with fail
        go_roundw
        case rel => exact ⟨k + 1, by omega, by go_num, HX⟩
        case measure => simp [intOf]; omega
    · have HX := Lib.hid (show WoSays w (woL L i) (.returned (.slice av nv cv)) wr from by
        have h1 := HI.out
        rw [List.take_of_length_le (by have := HN.out; omega)] at h1 hnv
        exact ⟨av, nv, cv, rfl, hnv, h1.row, h1.bel⟩)
      clear hnv HI0
      go_wp2_with fail
      go_ret
      exact HX.out
def Few06 (n : Nat) (L : PL) (w : World) (x : Ending) (w' : World) : Prop := (∃ b : Bool, x = .returned (.bool b) ∧ (b = true → n ≤ 70 ∧ ∀ k, k < n → (L.getD k p0).s.size ≤ 200 ∧ (L.getD k p0).v.size ≤ 200)) ∧ w = w'
theorem few06_any (n c : Nat) (h : PIn w B A L) (hn : n = L.length) (hm : n ≤ 9223372036854775807) : Calls Tryz.prog 5 #[.slice A n c] w (Few06 n L w) := by
  by_cases hp : n = 0
  · subst hp
    clear h hm hn
    go_enter Tryz.func5, Tryz.ntmps5
    go_wp2_with fail
    go_loop [3] (fun i => i = .int .i64 0) (fun _ => 0)
    case atStart => rfl
    case round =>
      subst hrel
      go_wp2_with fail
      go_ret
      exact ⟨⟨true, rfl, fun _ => ⟨by omega, fun k hk => absurd hk (by omega)⟩⟩, rfl⟩
  · obtain ⟨g, off, rfl, hc, hgB⟩ := h (by omega)
    clear hgB
    have HC := Lib.hid hc
    have HN := Lib.hid hn
    clear hc h hn
    go_enter Tryz.func5, Tryz.ntmps5
    go_wp2_with fail
    go_loop [3] (fun i => ∃ k : Nat, k ≤ n ∧ k ≤ 70 ∧ i = .int .i64 k ∧ Hid (∀ j, j < k → (L.getD j p0).s.size ≤ 200 ∧ (L.getD j p0).v.size ≤ 200)) (fun i => 70 - (intOf i).toNat)
    case atStart => exact ⟨0, by omega, by omega, rfl, Lib.hid fun j hj => absurd hj (by omega)⟩
    case round =>
      obtain ⟨k, hk, hk2, rfl, HJ⟩ := hrel
      have HT := Lib.hid (fun (b : Bool) (hb : b = true → n ≤ 70 ∧ ∀ k, k < n → (L.getD k p0).s.size ≤ 200 ∧ (L.getD k p0).v.size ≤ 200) => show Few06 n L w (.returned (.bool b)) w from ⟨⟨b, rfl, hb⟩, rfl⟩)
      by_cases hlt : k < n ∧ k < 70
      · obtain ⟨hlt, hlt2⟩ := hlt
        have hcc := HC.out k (by have := HN.out; omega)
        have c1 := hcc.c2
        have c2 := hcc.c3
        clear hcc
        obtain ⟨s, hs⟩ : ∃ s, s = (L.getD k p0).s := ⟨_, rfl⟩
        obtain ⟨v, hv⟩ : ∃ v, v = (L.getD k p0).v := ⟨_, rfl⟩
        rw [← hs] at c1
        rw [← hv] at c2
        have HS := Lib.hid hs
        have HV := Lib.hid hv
        clear hs hv
        by_cases hz : 200 < s.size
        · go_wp2_with fail
          go_ret
          exact HT.out _ (fun h => by cases h)
        · have hz' : s.size ≤ 200 := by omega
          clear hz
          by_cases hz2 : 200 < v.size
          · go_wp2_with fail
            go_ret
            exact HT.out _ (fun h => by cases h)
          · have hz2' : v.size ≤ 200 := by omega
            clear hz2
            go_wp2_with fail
            go_round
            case rel => exact ⟨k + 1, by omega, by omega, by go_num, Lib.hid fun j hj => by
              rcases Nat.lt_or_eq_of_le (Nat.le_of_lt_succ hj) with h | h
              · exact HJ.out j h
              · rw [h, ← HS.out, ← HV.out]; exact ⟨hz', hz2'⟩⟩
            case measure => simp [intOf]; omega
      · by_cases hkn : k < n
        · obtain rfl : k = 70 := by omega
          go_wp2_with fail
          go_ret
          exact HT.out _ (fun h => by have := of_decide_eq_true h; omega)
        · have hk70 : n ≤ 70 := by omega
          go_wp2_with fail
          go_ret
          exact HT.out _ (fun _ => ⟨hk70, fun j hj => HJ.out j (by omega)⟩)
end
end Go.Proofs.YtfojoeafhdiaiaaGreatDoor

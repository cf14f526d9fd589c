/- What is proved here: whether items are few, and of few bytes. Conditions: the items, and their properties, stand where the slices say. -/
import Derived.Test.YtkjghlmlfanafaaHea33
namespace Go.Proofs.Ytkjghlmlfanafaa
open Go.RowKit Go.Extern.Stop Go.Stop Go.Extern Go.Maps
/-- Properties stand at an address, if there are any. -/
def PRd (w : World) (A : Option Addr) (n : Nat) : Prop := 0 < n → ∃ g off, A = some ⟨g, off, none⟩ ∧ ∀ j, j < n → (∃ s, w.cell? ⟨g, off + j * 4 + 2, none⟩ = some (.string s)) ∧ ∃ v, w.cell? ⟨g, off + j * 4 + 3, none⟩ = some (.string v)
section
variable {w w' : World} {A : Option Addr} {L : IL}
theorem PRd.below {n : Nat} (h : PRd w A n) (hb : Below w.heap.size w w') : PRd w' A n := by
  intro hp
  obtain ⟨g, off, e, hc⟩ := h hp
  refine ⟨g, off, e, fun j hj => ?_⟩
  obtain ⟨⟨s, h1⟩, v, h2⟩ := hc j hj
  exact ⟨⟨s, (World.cell?_of_block (w := w) (hb.block g (lt_of_cell h1))).trans h1⟩, v, (World.cell?_of_block (w := w) (hb.block g (lt_of_cell h1))).trans h2⟩
def SomeB (w : World) (x : Ending) (w' : World) : Prop := (∃ b : Bool, x = .returned (.bool b)) ∧ w = w'
theorem pfew_any (n c : Nat) (h : PRd w A n) (hm : n ≤ 9223372036854775807) : Calls Try.prog 68 #[.slice A n c] w (SomeB w) := by
  by_cases hp : n = 0
  · subst hp
    clear h hm
    go_enter Try.func68, Try.ntmps68
    go_wp2_with fail
    go_loop [3] (fun i => i = .int .i64 0) (fun _ => 0)
    case atStart => rfl
    case round =>
      subst hrel
      go_wp2_with fail
      go_ret
      exact ⟨⟨true, rfl⟩, rfl⟩
  · obtain ⟨g, off, rfl, hc⟩ := h (by omega)
    have HC := Lib.hid hc
    clear hc h
    go_enter Try.func68, Try.ntmps68
    go_wp2_with fail
    go_loop [3] (fun i => ∃ k : Nat, k ≤ n ∧ k ≤ 70 ∧ i = .int .i64 k) (fun i => 70 - (intOf i).toNat)
    case atStart => exact ⟨0, by omega, by omega, rfl⟩
    case round =>
      obtain ⟨k, hk, hk2, rfl⟩ := hrel
      by_cases hlt : k < n ∧ k < 70
      · obtain ⟨hlt, hlt2⟩ := hlt
        obtain ⟨⟨s, c1⟩, v, c2⟩ := HC.out k hlt
        by_cases hz : 200 < s.size
        · go_wp2_with fail
          go_ret
          exact ⟨⟨false, rfl⟩, rfl⟩
        · have hz' : s.size ≤ 200 := by omega
          clear hz
          by_cases hz2 : 200 < v.size
          · go_wp2_with fail
            go_ret
            exact ⟨⟨false, rfl⟩, rfl⟩
          · have hz2' : v.size ≤ 200 := by omega
            clear hz2
            go_wp2_with fail
            go_round
            case rel => exact ⟨k + 1, by omega, by omega, by go_num⟩
            case measure => simp [intOf]; omega
      · by_cases hkn : k < n
        · obtain rfl : k = 70 := by omega
          go_wp2_with fail
          go_ret
          exact ⟨⟨_, rfl⟩, rfl⟩
        · go_wp2_with fail
          go_ret
          exact ⟨⟨_, rfl⟩, rfl⟩
def SmallB (m : IV) (w : World) (x : Ending) (w' : World) : Prop := ∃ b : Bool, x = .returned (.bool b) ∧ (b = true → m.topic.size ≤ 200) ∧ Below w.heap.size w w'
theorem small_any (m : IV) (h : PRd w m.pa m.pn) (hm : m.pn ≤ 9223372036854775807) : Calls Try.prog 61 #[m.msg] w (SmallB m w) := by
  have HB0 := Lib.hid ((Below.refl w.heap.size w).alloc (Nat.le_refl _) (.cells #[.string m.topic, .string m.payload, .int .i64 m.qos, .bool m.retain, .slice m.pa m.pn m.pc, .string m.frm, .int .i64 m.til, .int .i64 m.seq, .string m.grp] 67))
  have HP := Lib.hid (pfew_any m.pn m.pc (h.below ((Below.refl w.heap.size w).alloc (Nat.le_refl _) (.cells #[.string m.topic, .string m.payload, .int .i64 m.qos, .bool m.retain, .slice m.pa m.pn m.pc, .string m.frm, .int .i64 m.til, .int .i64 m.seq, .string m.grp] 67))) hm)
  have hf : ∀ w' : World, Below w.heap.size w w' → SmallB m w (.returned (.bool false)) w' := fun _ hb => ⟨false, rfl, (fun h => by cases h), hb⟩
  have HF := Lib.hid hf
  clear h hf hm
  unfold IV.msg
  by_cases h1 : m.topic.size ≤ 200
  · have HS := Lib.hid (show ∀ (b : Bool) (w' : World), Below w.heap.size w w' → SmallB m w (.returned (.bool b)) w' from fun b _ hb => ⟨b, rfl, (fun _ => h1), hb⟩)
    by_cases h2 : m.payload.size ≤ 200
    · by_cases h3 : m.frm.size ≤ 100
      · by_cases h4 : m.grp.size ≤ 200
        · go_enter Try.func61, Try.ntmps61
          go_wp2_with fail
          refine HP.out.mono ?_
          rintro x w1 ⟨⟨b, rfl⟩, rfl⟩
          go_wp2_with fail
          go_ret
          exact HS.out _ _ HB0.out
        · go_enter Try.func61, Try.ntmps61
          go_wp2_with fail
          go_ret
          exact HF.out _ HB0.out
      · go_enter Try.func61, Try.ntmps61
        go_wp2_with fail
        go_ret
        exact HF.out _ HB0.out
    · go_enter Try.func61, Try.ntmps61
      go_wp2_with fail
      go_ret
      exact HF.out _ HB0.out
  · go_enter Try.func61, Try.ntmps61
    go_wp2_with fail
    go_ret
    exact HF.out _ HB0.out
/-- A slice of items that came in, with their properties. -/
def ItemsOf (w : World) (A : Option Addr) (L : IL) : Prop := ItRd w A L ∧ ∀ k, k < L.length → PRd w (L.getD k i0).pa (L.getD k i0).pn ∧ (L.getD k i0).pn ≤ 9223372036854775807
def FewB (L : IL) (w : World) (x : Ending) (w' : World) : Prop := ∃ b : Bool, x = .returned (.bool b) ∧ (b = true → L.length ≤ 20 ∧ ∀ m ∈ L, m.topic.size ≤ 200) ∧ Below w.heap.size w w'
set_option maxHeartbeats 1000000 in
theorem few33_any (n c : Nat) (h : ItemsOf w A L) (hn : n = L.length) (hm : n ≤ 9223372036854775807) : Calls Try.prog 41 #[.slice A n c] w (FewB L w) := by
  by_cases hp : n = 0
  · have hl : L = [] := List.eq_nil_of_length_eq_zero (by omega)
    subst hp hl
    clear h hm hn
    go_enter Try.func41, Try.ntmps41
    go_wp2_with fail
    go_loop [3] (fun i => i = .int .i64 0) (fun _ => 0)
    case atStart => rfl
    case round =>
      subst hrel
      go_wp2_with fail
      go_ret
      exact ⟨true, rfl, fun _ => ⟨by simp, fun m hm => by cases hm⟩, Below.refl _ _⟩
  · obtain ⟨h1, h2⟩ := h
    obtain ⟨g, off, rfl, hc⟩ := h1 (by omega)
    have HC := Lib.hid hc
    have HP := Lib.hid h2
    have HN := Lib.hid hn
    clear hc h1 h2 hn
    go_enter Try.func41, Try.ntmps41
    go_wp2_with fail
    go_loopw [3] (fun i wr => ∃ k : Nat, k ≤ n ∧ k ≤ 20 ∧ i = .int .i64 k ∧ Below w.heap.size w wr ∧ Hid (∀ j, j < k → (L.getD j i0).topic.size ≤ 200)) (fun i _ => 20 - (intOf i).toNat)
    case atStart => exact ⟨0, by omega, by omega, rfl, Below.refl _ _, Lib.hid fun j hj => absurd hj (by omega)⟩
    case round =>
      obtain ⟨k, hk, hk2, rfl, hbe, HG⟩ := hrel
      by_cases hlt : k < n ∧ k < 20
      · obtain ⟨hlt, hlt2⟩ := hlt
        have hkL : k < L.length := by have := HN.out; omega
        have hc := (HC.out k hkL).at (hbe.block g (lt_of_cell (HC.out k hkL).c0))
        have hpr := (HP.out k hkL).1.below hbe
        have hpn := (HP.out k hkL).2
        obtain ⟨m, hm'⟩ : ∃ m, m = L.getD k i0 := ⟨_, rfl⟩
        rw [← hm'] at hc hpr hpn
        have HMM := Lib.hid hm'
        have HCW := Lib.hid (fun W (hb : Below wr.heap.size wr W) => hc.at (hb.block g (lt_of_cell hc.c0)))
        obtain ⟨c0, c1, c2, c3, c4, c5, c6, c7, c8, c9, c10, c11⟩ := hc
        have HS := Lib.hid (small_any m hpr hpn)
        have HB := Lib.hid hbe
        unfold IV.msg at HS
        clear hm' hpr hbe hkL hpn
        go_wp2_with fail
        refine HS.out.mono ?_
        rintro x w5 ⟨b, rfl, hb2, hb5⟩
        have HB5 := Lib.hid (HB.out.trans (hb5.mono HB.out.size))
        obtain ⟨e0', e1', e2', e3', e4', e5', e6', e7', e8', e9', e10', e11'⟩ := HCW.out w5 hb5
        have HF := Lib.hid (show FewB L w (.returned (.bool false)) w5 from ⟨false, rfl, (fun h => by cases h), HB.out.trans (hb5.mono HB.out.size)⟩)
        clear c0 c1 c2 c3 c4 c5 c6 c7 c8 c9 c10 c11 hb5 HCW
        cases b with
        | false =>
          go_wp2_with fail
          go_ret
          exact HF.out
        | true =>
          have HGN := Lib.hid (show ∀ j, j < k + 1 → (L.getD j i0).topic.size ≤ 200 from fun j hj => by
            by_cases e : j = k
            · rw [e, ← HMM.out]; exact hb2 rfl
            · exact HG.out j (by omega))
          clear hb2
          by_cases hz : 100 < m.who.size
          · go_wp2_with fail
            go_ret
            exact HF.out
          · have hz' : m.who.size ≤ 100 := by omega
            clear hz
            by_cases hz2 : 10 < m.bn
            · go_wp2_with fail
              go_ret
              exact HF.out
            · have hz2' : m.bn ≤ 10 := by omega
              clear hz2
              go_wp2_with fail
              go_roundw
              case rel => exact ⟨k + 1, by omega, by omega, by go_num, HB5.out, HGN⟩
              case measure => simp [intOf]; omega
      · have HT := Lib.hid (fun (hkn : k = n) (hk20 : k ≤ 20) => show FewB L w (.returned (.bool true)) wr from ⟨true, rfl, fun _ => ⟨by have := HN.out; omega, fun m hm => by
          obtain ⟨i, hi, rfl⟩ := List.mem_iff_getElem.1 hm
          have := HG.out i (by have := HN.out; omega)
          rwa [List.getD_eq_getElem?_getD, List.getElem?_eq_getElem hi] at this⟩, hbe⟩)
        have HF := Lib.hid (show FewB L w (.returned (.bool false)) wr from ⟨false, rfl, (fun h => by cases h), hbe⟩)
        clear hbe
        by_cases hkn : k < n
        · obtain rfl : k = 20 := by omega
          have HD := Lib.hid (show decide ((n : Int) ≤ 20) = false from decide_eq_false (by omega))
          go_wp2_with fail
          go_ret
          have hx := HF.out
          rw [← HD.out] at hx
          exact hx
        · have hkn' : k = n := by omega
          have HT2 := Lib.hid (HT.out hkn' hk2)
          subst hkn'
          have HD := Lib.hid (show decide ((k : Int) ≤ 20) = true from decide_eq_true (by omega))
          go_wp2_with fail
          go_ret
          have hx := HT2.out
          rw [← HD.out] at hx
          exact hx
end
end Go.Proofs.Ytkjghlmlfanafaa

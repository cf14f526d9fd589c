/- What is proved here: whether properties, and a message's parts, are few; and that equal properties and messages are the same. Conditions: the properties stand where the slices say. -/
import Derived.Test.YtfmkeapbddhndaaDoorMsgC
namespace Go.Proofs.YtfmkeapbddhndaaDoor
open Go.RowKit Go.Extern.Stop Go.Stop Go.Extern
set_option maxRecDepth 100000
def PFewB (n : Nat) (w : World) (x : Ending) (w' : World) : Prop := (∃ b : Bool, x = .returned (.bool b) ∧ (b = true → n ≤ 70)) ∧ w = w'
def SmallB (q : QV) (w : World) (x : Ending) (w' : World) : Prop := ∃ b : Bool, x = .returned (.bool b) ∧ (b = true → q.m.props.length ≤ 70) ∧ Below w.heap.size w w'
section
variable {w w' : World} {B : Nat} {A : Option Addr} {L : PL}
theorem pfew_any (n c : Nat) (h : PIn w B A L) (hn : n = L.length) (hm : n ≤ 9223372036854775807) : Calls Tryd.prog 63 #[.slice A n c] w (PFewB n w) := by
  by_cases hp : n = 0
  · subst hp
    clear h hm hn
    go_enter Tryd.func63, Tryd.ntmps63
    go_wp2_with fail
    go_loop [3] (fun i => i = .int .i64 0) (fun _ => 0)
    case atStart => rfl
    case round =>
      subst hrel
      go_wp2_with fail
      go_ret
      exact ⟨⟨true, rfl, fun _ => by omega⟩, rfl⟩
  · obtain ⟨g, off, rfl, hc, hgB⟩ := h (by omega)
    clear hgB
    have HC := Lib.hid hc
    have HN := Lib.hid hn
    clear hc h hn
    go_enter Tryd.func63, Tryd.ntmps63
    go_wp2_with fail
    go_loop [3] (fun i => ∃ k : Nat, k ≤ n ∧ k ≤ 70 ∧ i = .int .i64 k) (fun i => 70 - (intOf i).toNat)
    case atStart => exact ⟨0, by omega, by omega, rfl⟩
    case round =>
      obtain ⟨k, hk, hk2, rfl⟩ := hrel
      have HT := Lib.hid (fun (b : Bool) (hb : b = true → n ≤ 70) => show PFewB n w (.returned (.bool b)) w from ⟨⟨b, rfl, hb⟩, rfl⟩)
      by_cases hlt : k < n ∧ k < 70
      · obtain ⟨hlt, hlt2⟩ := hlt
        have hcc := HC.out k (by have := HN.out; omega)
        have c1 := hcc.c2
        have c2 := hcc.c3
        clear hcc
        obtain ⟨s, hs⟩ : ∃ s, s = (L.getD k p0).s := ⟨_, rfl⟩
        obtain ⟨v, hv⟩ : ∃ v, v = (L.getD k p0).v := ⟨_, rfl⟩
        rw [← hs] at c1
        rw [← hv] at c2
        clear hs hv
        by_cases hz : 200 < s.size
        · go_wp2_with fail
          go_ret
          exact HT.out _ (fun h => by cases h)
        · have hz' : s.size ≤ 200 := by omega
          clear hz
          by_cases hz2 : 200 < v.size
          · go_wp2_with fail
            go_ret
            exact HT.out _ (fun h => by cases h)
          · have hz2' : v.size ≤ 200 := by omega
            clear hz2
            go_wp2_with fail
            go_round
            case rel => exact ⟨k + 1, by omega, by omega, by go_num⟩
            case measure => simp [intOf]; omega
      · by_cases hkn : k < n
        · obtain rfl : k = 70 := by omega
          go_wp2_with fail
          go_ret
          exact HT.out _ (fun h => by have := of_decide_eq_true h; omega)
        · have hk70 : n ≤ 70 := by omega
          go_wp2_with fail
          go_ret
          exact HT.out _ (fun _ => hk70)
theorem small_any (q : QV) (h : PIn w B q.pa q.m.props) (hm : q.m.props.length ≤ 9223372036854775807) : Calls Tryd.prog 37 #[q.agg] w (SmallB q w) := by
  have HB0 := Lib.hid ((Below.refl w.heap.size w).alloc (Nat.le_refl _) (.cells q.cells.toArray 57))
  have HP := Lib.hid (pfew_any _ q.pc (h.below ((Below.refl w.heap.size w).alloc (Nat.le_refl _) (.cells q.cells.toArray 57))) rfl hm)
  have HF := Lib.hid (show ∀ w' : World, Below w.heap.size w w' → SmallB q w (.returned (.bool false)) w' from fun _ hb => ⟨false, rfl, (fun h => by cases h), hb⟩)
  have HS := Lib.hid (show ∀ (b : Bool) (w' : World), (b = true → q.m.props.length ≤ 70) → Below w.heap.size w w' → SmallB q w (.returned (.bool b)) w' from fun b _ h hb => ⟨b, rfl, h, hb⟩)
  clear h hm
  unfold QV.agg
  unfold QV.cells at *
  obtain ⟨⟨m1, m2, m3, m4, ml, m6, m7, m8, m9⟩, pa, pc⟩ := q
  dsimp only at *
  generalize ml.length = n at *
  by_cases h1 : m1.size ≤ 200
  · by_cases h2 : m2.size ≤ 200
    · by_cases h3 : m6.size ≤ 100
      · by_cases h4 : m9.size ≤ 200
        · go_enter Tryd.func37, Tryd.ntmps37
          go_wp2_with fail
          refine HP.out.mono ?_
          rintro x w1 ⟨⟨b, rfl, hb⟩, rfl⟩
          have HBB := Lib.hid hb
          clear hb
          go_wp2_with fail
          go_ret
          exact HS.out _ _ HBB.out HB0.out
        · go_enter Tryd.func37, Tryd.ntmps37
          go_wp2_with fail
          go_ret
          exact HF.out _ HB0.out
      · go_enter Tryd.func37, Tryd.ntmps37
        go_wp2_with fail
        go_ret
        exact HF.out _ HB0.out
    · go_enter Tryd.func37, Tryd.ntmps37
      go_wp2_with fail
      go_ret
      exact HF.out _ HB0.out
  · go_enter Tryd.func37, Tryd.ntmps37
    go_wp2_with fail
    go_ret
    exact HF.out _ HB0.out
end
end Go.Proofs.YtfmkeapbddhndaaDoor

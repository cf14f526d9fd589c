/- What is proved here: equal packets are the same to the document's function; whether texts are few; append of several packets; a piece more. Conditions: the packets and texts stand where the slices say. -/
import Derived.Test.YtfojoeafhdiaiaaDoorDrn07
import Derived.Test.YtfojoeafhdiaiaaDoorTexts
namespace Go.Proofs.YtfojoeafhdiaiaaDoor
set_option maxRecDepth 100000
open Go.RowKit Go.Extern.Stop Go.Stop Go.Extern
/-- These packets stand at an address, if there are any. -/
def FRd (w : World) (A : Option Addr) (n : Nat) (X : Nat → Int × ByteArray) : Prop := 0 < n → ∃ g off, A = some ⟨g, off, none⟩ ∧ ∀ k, k < n → w.cell? ⟨g, off + k * 2, none⟩ = some (.int .i64 (X k).1) ∧ w.cell? ⟨g, off + k * 2 + 1, none⟩ = some (.string (X k).2)
def fX (L : List FP) (k : Nat) : Int × ByteArray := (((L.getD k f00).1 : Nat), ⟨(L.getD k f00).2.toArray⟩)
section
variable {w w' w2 : World} {S : Nat → Addr} {B B2 g p p' : Nat} {v v' v2 u u' : Value} {V V' V2 : SV} {X : List Nat} {L L' : List UInt8} {M M' : List FP} {A A2 : Option Addr}
theorem FRow.frd {n c : Nat} (h : FRow w B (.slice A n c) M) : FRd w A M.length (fX M) := by
  intro hp
  obtain ⟨g, rfl, _⟩ := h.rd hp
  refine ⟨g, 0, rfl, fun k hk => ?_⟩
  obtain ⟨g', e, h1, h2⟩ := h.rd hk
  injection e with e
  injection e with e
  subst e
  rw [Nat.zero_add]
  exact ⟨h1, h2⟩
theorem FRd.below {n : Nat} {Y : Nat → Int × ByteArray} (h : FRd w A n Y) (hb : Below w.heap.size w w') : FRd w' A n Y := by
  intro hp
  obtain ⟨g, off, e, hc⟩ := h hp
  have hg := hb.block g (lt_of_cell (hc 0 hp).1)
  exact ⟨g, off, e, fun k hk => ⟨(World.cell?_of_block (w := w) hg).trans (hc k hk).1, (World.cell?_of_block (w := w) hg).trans (hc k hk).2⟩⟩
theorem fself_text (s : ByteArray) : (s.toList == s.toList) = true := by rw [eq_text]; exact decide_eq_true rfl
theorem fsame_any (n c c2 : Nat) (Y Z : Nat → Int × ByteArray) (h : FRd w A n Y) (h2 : FRd w A2 n Z) (hYZ : ∀ k, k < n → Y k = Z k) (hm : n ≤ 9000) : Calls Tryd.prog 41 #[.slice A n c, .slice A2 n c2] w fun x w' => x = .returned (.bool true) ∧ ∃ d : Nat, w' = w.drewN d := by
  by_cases hp : n = 0
  · subst hp
    clear h h2 hm hYZ
    go_enter Tryd.func41, Tryd.ntmps41
    go_wp2_with fail
    go_loop [5] (fun i => i = .int .i64 0) (fun _ => 0)
    case atStart => rfl
    case round =>
      subst hrel
      go_wp2_with fail
      go_ret
      exact ⟨rfl, 0, rfl⟩
  · obtain ⟨g, off, rfl, hc⟩ := h (by omega)
    obtain ⟨g2, off2, rfl, hc2⟩ := h2 (by omega)
    have HC := Lib.hid hc
    have HC2 := Lib.hid (fun k (hk : k < n) => show w.cell? ⟨g2, off2 + k * 2, none⟩ = some (.int .i64 (Y k).1) ∧ w.cell? ⟨g2, off2 + k * 2 + 1, none⟩ = some (.string (Y k).2) from by rw [hYZ k hk]; exact hc2 k hk)
    clear hc hc2 h h2 hYZ
    go_enter Tryd.func41, Tryd.ntmps41
    go_wp2_with fail
    go_loopw [5] (fun i wr => ∃ k d : Nat, k ≤ n ∧ i = .int .i64 k ∧ wr = w.drewN d) (fun i _ => n - (intOf i).toNat)
    case atStart => exact ⟨0, 0, by omega, rfl, rfl⟩
    case round =>
      obtain ⟨k, d, hk, rfl, hwr⟩ := hrel
      have HW := Lib.hid hwr
      by_cases hlt : k < n
      · obtain ⟨a0, a1⟩ := HC.out k hlt
        obtain ⟨b0, b1⟩ := HC2.out k hlt
        have c0 : wr.cell? ⟨g, off + k * 2, none⟩ = some (.int .i64 (Y k).1) := by rw [hwr]; exact a0
        have c1 : wr.cell? ⟨g, off + k * 2 + 1, none⟩ = some (.string (Y k).2) := by rw [hwr]; exact a1
        have d0 : wr.cell? ⟨g2, off2 + k * 2, none⟩ = some (.int .i64 (Y k).1) := by rw [hwr]; exact b0
        have d1 : wr.cell? ⟨g2, off2 + k * 2 + 1, none⟩ = some (.string (Y k).2) := by rw [hwr]; exact b1
        generalize (Y k).1 = y1 at *
        generalize (Y k).2 = y2 at *
        clear hwr a0 a1 b0 b1
        have hs := fself_text y2
        go_wp2_with fail
        go_quiet (fail)
        go_wp2_with fail
        go_roundw
        case rel => exact ⟨k + 1, _, by omega, by go_num, drew_on HW.out _⟩
        case measure => simp [intOf]; omega
      · clear hwr
        go_wp2_with fail
        go_ret
        exact ⟨rfl, d, HW.out⟩
def Few07 (n : Nat) (M : List ByteArray) (w : World) (x : Ending) (w' : World) : Prop := (∃ b : Bool, x = .returned (.bool b) ∧ (b = true → n ≤ 40 ∧ ∀ k, k < n → (M.getD k e0).size ≤ 200)) ∧ w = w'
theorem few07_any {M : List ByteArray} (n c : Nat) (h : StrsOf w A n M) (hm : n ≤ 9223372036854775807) : Calls Tryd.prog 36 #[.slice A n c] w (Few07 n M w) := by
  obtain ⟨hn, hs⟩ := h
  by_cases hp : n = 0
  · subst hp
    clear hs hm hn
    go_enter Tryd.func36, Tryd.ntmps36
    go_wp2_with fail
    go_loop [3] (fun i => i = .int .i64 0) (fun _ => 0)
    case atStart => rfl
    case round =>
      subst hrel
      go_wp2_with fail
      go_ret
      exact ⟨⟨true, rfl, fun _ => ⟨by omega, fun k hk => absurd hk (by omega)⟩⟩, rfl⟩
  · obtain ⟨g, off, rfl, hc⟩ := hs (by omega)
    have HC := Lib.hid hc
    have HN := Lib.hid hn
    clear hc hs hn
    go_enter Tryd.func36, Tryd.ntmps36
    go_wp2_with fail
    go_loop [3] (fun i => ∃ k : Nat, k ≤ n ∧ k ≤ 40 ∧ i = .int .i64 k ∧ Hid (∀ j, j < k → (M.getD j e0).size ≤ 200)) (fun i => 40 - (intOf i).toNat)
    case atStart => exact ⟨0, by omega, by omega, rfl, Lib.hid fun j hj => absurd hj (by omega)⟩
    case round =>
      obtain ⟨k, hk, hk2, rfl, HJ⟩ := hrel
      have HT := Lib.hid (fun (b : Bool) (hb : b = true → n ≤ 40 ∧ ∀ k, k < n → (M.getD k e0).size ≤ 200) => show Few07 n M w (.returned (.bool b)) w from ⟨⟨b, rfl, hb⟩, rfl⟩)
      by_cases hlt : k < n ∧ k < 40
      · obtain ⟨hlt, hlt2⟩ := hlt
        have c1 := HC.out k (by have := HN.out; omega)
        obtain ⟨s, hs⟩ : ∃ s, s = M.getD k e0 := ⟨_, rfl⟩
        rw [← hs] at c1
        have HS := Lib.hid hs
        clear hs
        by_cases hz : 200 < s.size
        · go_wp2_with fail
          go_ret
          exact HT.out _ (fun h => by cases h)
        · have hz' : s.size ≤ 200 := by omega
          clear hz
          go_wp2_with fail
          go_round
          case rel => exact ⟨k + 1, by omega, by omega, by go_num, Lib.hid fun j hj => by
            rcases Nat.lt_or_eq_of_le (Nat.le_of_lt_succ hj) with h | h
            · exact HJ.out j h
            · rw [h, ← HS.out]; exact hz'⟩
          case measure => simp [intOf]; omega
      · by_cases hkn : k < n
        · obtain rfl : k = 40 := by omega
          go_wp2_with fail
          go_ret
          exact HT.out _ (fun h => by have := of_decide_eq_true h; omega)
        · have hk70 : n ≤ 40 := by omega
          go_wp2_with fail
          go_ret
          exact HT.out _ (fun _ => ⟨hk70, fun j hj => HJ.out j (by omega)⟩)
/-- append of several packets. -/
theorem run_more {n c : Nat} (h : FRow w B v M) (hB : B ≤ w.heap.size) (h2 : FRow w B2 (.slice A n c) M') (hn : n = M'.length) (hl : M.length + M'.length ≤ 1000000) (ty : TypeId) :
    ∃ v' w', (Builtin.append_ #[74, 74] ty #[v, .slice A n c]).run Tryd.prog w = .ok v' w' ∧ FNext w w' B v v' (M ++ M') := by
  subst hn
  obtain ⟨i0, hi0, hz0, hz1, hz2⟩ := info_parts Tryd.frameInfo
  rcases h2.2 with ⟨e, h0⟩ | ⟨gr, cap, cur, e, hB2, hh, h3⟩
  · have hM : M' = [] := List.eq_nil_of_length_eq_zero h0
    subst hM
    injection e with e1 e2 e3
    subst e1 e3
    refine ⟨v, w, run_append_owned_none (P := Tryd.prog) (w := w) B 74 ty 61 i0 2 Tryd.underlying74 hi0 v M.length (fcs M) h, ?_⟩
    exact ⟨by rw [List.append_nil]; exact h, World.grownBy.refl _ _, .inl rfl⟩
  · have e' := e
    injection e' with e1 e2 e3
    subst e1 e3
    exact run_frames h hB hl ty ⟨gr, 0, none⟩ c (fun j x hj => by
      have hl2 := (List.getElem?_eq_some_iff.1 hj).1
      rw [fcs_len] at hl2
      rw [Addr.add_lit, Nat.zero_add, World.ownsRow.cellAt h2 j hl2]
      exact hj)
theorem append_more {ops : Array Oper} {rest : List Oper} {o : Oper} {a : Act} {Q : Exit → Act → World → Prop} {n c : Nat} (hgd : o.guard = none) (s x : Operand) (ho : o.op = .call { callee := .builtin .append, args := #[s, x], argTypes := #[74, 74] })
    (ht : FRow w B v M) (hB : B ≤ w.heap.size) (hs : a.eval s = v) (h2 : FRow w B2 (.slice A n c) M') (hn : n = M'.length) (hx : a.eval x = .slice A n c) (hl : M.length + M'.length ≤ 1000000)
    (h : ∀ v' w', FNext w w' B v v' (M ++ M') → wpList Tryd.prog ops Q rest (a.put o.dst v') w') : wpList Tryd.prog ops Q (o :: rest) a w := by
  obtain ⟨v', w', hr, hn⟩ := run_more ht hB h2 hn hl o.type
  exact Lib.wpList_append_run _ hgd s x 74 74 ho v _ hs hx v' w' hr (h v' w' hn)
theorem feed_any (h : SObj w S B g v L p V) (s : ByteArray) (hs : s.size ≤ 300) (hl : L.length ≤ 20000) (hlo : V.no ≠ 0 → V.lost ≤ 1000000) :
    Calls Tryd.prog 38 #[.pointer (some ⟨g, 0, none⟩), .string s] w (FSays w S B g v (L.length + s.size) (feedV V s)) := by
  by_cases h0 : V.no = 0
  · have e : feedV V s = ⟨V.most, V.R ++ s.data.toList, 0, V.r, V.a, V.lost⟩ := by unfold feedV; rw [if_pos h0]
    rw [e]
    exact feed_ok h h0 s (by omega) (by omega)
  · have e : feedV V s = ⟨V.most, V.R, V.no, V.r, V.a, V.lost + s.size⟩ := by unfold feedV; rw [if_neg h0]
    rw [e]
    refine (feed_err h h0 s (by omega) (hlo h0)).mono fun x w' hx => ?_
    obtain ⟨h1, v', L', p', h2, h3⟩ := hx
    exact ⟨h1, v', L', p', h2, by omega⟩
end
end Go.Proofs.YtfojoeafhdiaiaaDoor

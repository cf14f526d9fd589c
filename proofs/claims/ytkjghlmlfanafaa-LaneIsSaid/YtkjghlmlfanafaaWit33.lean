/- What is proved here: items, one of which is with a client; the same places. Conditions: the items stand where the slice says; few of them. -/
import Derived.Test.YtkjghlmlfanafaaFew33
import Derived.Deep.QuietTactic
import Derived.BigQuiet
import Derived.Deep.AppendLies
namespace Go.Proofs.Ytkjghlmlfanafaa
open Go.RowKit Go.Extern.Stop Go.Stop Go.Extern Go.Maps
theorem Try.itmInfo : (Try.prog.info? 69).map (fun i => (i.zero, i.size, i.bytes)) = some (some (.agg #[.string ⟨#[]⟩, .string ⟨#[]⟩, .int .i64 0, .bool false, .slice none 0 0, .string ⟨#[]⟩, .int .i64 0, .int .i64 0, .string ⟨#[]⟩, .string ⟨#[]⟩, .slice none 0 0, .bool false]), 12, 168) := by kernel_rfl
def ics (L : IL) : List Value := L.flatMap IV.cells
theorem ics_cons (m : IV) (L : IL) : ics (m :: L) = .string m.topic :: .string m.payload :: .int .i64 m.qos :: .bool m.retain :: .slice m.pa m.pn m.pc :: .string m.frm :: .int .i64 m.til :: .int .i64 m.seq :: .string m.grp :: .string m.who :: .slice m.ba m.bn m.bc :: .bool m.again :: ics L := rfl
theorem ics_len (L : IL) : (ics L).length = L.length * 12 := by
  induction L with
  | nil => rfl
  | cons p L ih =>
    rw [ics_cons]
    simp only [List.length_cons]
    omega
theorem ics_app (L M : IL) : ics (L ++ M) = ics L ++ ics M := by simp [ics]
theorem ics_get (L : IL) : ∀ k, k < L.length → ∀ j, j < 12 → (ics L)[k * 12 + j]? = (L.getD k i0).cells[j]? := by
  induction L with
  | nil => intro k hk; cases hk
  | cons p L ih =>
    intro k hk j hj
    rw [show ics (p :: L) = p.cells ++ ics L from rfl]
    rcases k with _ | k
    · rw [Nat.zero_mul, Nat.zero_add, List.getElem?_append_left (by show j < 12; exact hj)]
      rfl
    · rw [List.getElem?_append_right (by show 12 ≤ _; omega), show (k + 1) * 12 + j - p.cells.length = k * 12 + j by show (k + 1) * 12 + j - 12 = _; omega]
      simpa using ih k (by simpa using hk) j hj
theorem ics_ones (L : IL) : ∀ u ∈ ics L, u.oneCell' = true := by
  intro u hu
  obtain ⟨p, _, hp⟩ := List.mem_flatMap.1 hu
  unfold IV.cells at hp
  simp only [List.mem_cons, List.not_mem_nil, or_false] at hp
  rcases hp with rfl | rfl | rfl | rfl | rfl | rfl | rfl | rfl | rfl | rfl | rfl | rfl <;> rfl
/-- A row of items that a call made. -/
def IRow (w : World) (B : Nat) (v : Value) (L : IL) : Prop := w.ownsRow B 69 12 v L.length (ics L)
section
variable {w w' : World} {A : Option Addr} {L M : IL} {B : Nat} {v : Value}
theorem IRow.nil (w : World) (B : Nat) : IRow w B (.slice none 0 0) [] := World.ownsRow_nil _ _ _ _
theorem IRow.below (h : IRow w B v L) (hb : Below w.heap.size w w') : IRow w' B v L := own_below h hb
theorem IRow.alloc (h : IRow w B v L) (o : Obj) : IRow (w.alloc o) B v L := h.below ((Below.refl _ w).alloc (Nat.le_refl _) o)
theorem IRow.form (h : IRow w B v L) : ∃ a c, v = .slice a L.length c := by
  rcases h.2 with ⟨rfl, h0⟩ | ⟨gr, cap, cur, rfl, _⟩
  · exact ⟨none, 0, by rw [h0]⟩
  · exact ⟨_, _, rfl⟩
theorem IRow.rd {a : Option Addr} {n c : Nat} (h : IRow w B (.slice a n c) L) : ItRd w a L := by
  intro hl
  rcases h.2 with ⟨_, h0⟩ | ⟨gr, cap, cur, e, hB, hh, h3⟩
  · omega
  · have e' := e
    injection e' with ha hn hc
    subst ha hn hc
    refine ⟨gr, 0, rfl, fun k hk => ?_⟩
    have hq : ∀ j, j < 12 → w.cell? ⟨gr, 0 + k * 12 + j, none⟩ = (L.getD k i0).cells[j]? := fun j hj => by
      rw [Nat.zero_add]
      exact (World.ownsRow.cellAt h (k * 12 + j) (by omega)).trans (ics_get L k hk j hj)
    exact ⟨hq 0 (by omega), hq 1 (by omega), hq 2 (by omega), hq 3 (by omega), hq 4 (by omega), hq 5 (by omega), hq 6 (by omega), hq 7 (by omega), hq 8 (by omega), hq 9 (by omega), hq 10 (by omega), hq 11 (by omega)⟩
theorem irow_grow {w0 w1 : World} (hb : Below w0.heap.size w0 w) (ht : IRow w w0.heap.size v L) (hg : w.grownBy w1 v.ownBlock) : Below w0.heap.size w0 w1 := by
  refine Fr.later (X := v.ownBlock.toList) ((Fr.refl _ w).grown hg (fun k hk => .inl (by simp [hk]))) hb (fun b hm => ?_) hb.size
  have hk : v.ownBlock = some b := by cases hv : v.ownBlock with | none => rw [hv] at hm; cases hm | some k => rw [hv] at hm; simp at hm; rw [hm]
  exact (World.ownsRow.lt ht b hk).1
theorem news_item {k : Nat} (hk : w.heap.size = k) (m : IV) : ∀ (j : Nat) (u : Value), (ics [m])[j]? = some u → (w.alloc (.cells #[.string m.topic, .string m.payload, .int .i64 m.qos, .bool m.retain, .slice m.pa m.pn m.pc, .string m.frm, .int .i64 m.til, .int .i64 m.seq, .string m.grp, .string m.who, .slice m.ba m.bn m.bc, .bool m.again] 69)).cell? ((⟨k, 0, none⟩ : Addr).add j) = some u := by
  subst hk
  exact World.news_of_block (heap_alloc_new _ _)
theorem append_item {ops : Array Oper} {rest : List Oper} {o : Oper} {a : Act} {Q : Exit → Act → World → Prop} {w0 : World} (hgd : o.guard = none) (s x : Operand) (ho : o.op = .call { callee := .builtin .append, args := #[s, x], argTypes := #[61, 61] })
    (hb : Below w0.heap.size w0 w) (ht : IRow w w0.heap.size v L) (hs : a.eval s = v) (ad : Addr) (c : Nat) (hx : a.eval x = .slice (some ad) 1 c) (m : IV) (hn : ∀ (j : Nat) (u : Value), (ics [m])[j]? = some u → w.cell? (ad.add j) = some u) (hsm : L.length ≤ 1000)
    (h : ∀ v' w', IRow w' w0.heap.size v' (L ++ [m]) → Below w0.heap.size w0 w' → wpList Try.prog ops Q rest (a.put o.dst v') w') : wpList Try.prog ops Q (o :: rest) a w := by
  obtain ⟨i0, hi0, hz0, hz1, hz2⟩ := info_parts Try.itmInfo
  refine wpList_append_own w hgd s x 61 ho w0.heap.size 69 i0 (.agg #[.string ⟨#[]⟩, .string ⟨#[]⟩, .int .i64 0, .bool false, .slice none 0 0, .string ⟨#[]⟩, .int .i64 0, .int .i64 0, .string ⟨#[]⟩, .string ⟨#[]⟩, .slice none 0 0, .bool false]) 12 168 Try.underlying61 hi0 hz0 hz1 hz2 rfl (by decide) v L.length (ics L) hs ht ad 1 c (ics [m]) hx (ics_len [m]) hn (ics_ones [m]) (by unfold maxLen; omega) (by omega) hb.size ?_
  intro v' w' ho' hg _
  refine h v' w' ?_ (irow_grow hb ht hg)
  unfold IRow
  rw [List.length_append, ics_app]
  exact ho'
/-- An item that is with a client. -/
def IV.to (m : IV) (client : ByteArray) : IV := { m with who := client }
/-- Items, one of which is with a client. -/
def withL (L : IL) (at_ : Int) (client : ByteArray) (n : Nat) : IL := (List.range n).map fun (i : Nat) => if (i : Int) = at_ then (L.getD i i0).to client else L.getD i i0
theorem withL_succ (L : IL) (at_ : Int) (client : ByteArray) (k : Nat) : withL L at_ client (k + 1) = withL L at_ client k ++ [if (k : Int) = at_ then (L.getD k i0).to client else L.getD k i0] := by
  unfold withL
  rw [List.range_succ, List.map_append]
  rfl
theorem withL_len (L : IL) (at_ : Int) (client : ByteArray) (k : Nat) : (withL L at_ client k).length = k := by
  unfold withL
  rw [List.length_map, List.length_range]
theorem withL_get (L : IL) (at_ : Int) (client : ByteArray) {n k : Nat} (h : k < n) : (withL L at_ client n).getD k i0 = if (k : Int) = at_ then (L.getD k i0).to client else L.getD k i0 := by
  unfold withL
  rw [List.getD_eq_getElem?_getD, List.getElem?_map, List.getElem?_range h]
  rfl
def WithSays (w : World) (L : IL) (at_ : Int) (client : ByteArray) (x : Ending) (w' : World) : Prop := ∃ a c, x = .returned (.slice a L.length c) ∧ ItRd w' a (withL L at_ client L.length) ∧ Below w.heap.size w w'
set_option maxHeartbeats 1000000 in
theorem with_any (h : ItRd w A L) (n c : Nat) (hn : n = L.length) (hm : n ≤ 100) (at_ : Int) (client : ByteArray) : Calls Try.prog 53 #[.slice A n c, .int .i64 at_, .string client] w (WithSays w L at_ client) := by
  have HR := Lib.hid h
  have HN := Lib.hid hn
  clear h hn
  go_enter Try.func53, Try.ntmps53
  go_wp2_with fail
  go_loopw [7, 8] (fun v i wr => ∃ k : Nat, k ≤ n ∧ i = .int .i64 k ∧ IRow wr w.heap.size v (withL L at_ client k) ∧ Below w.heap.size w wr) (fun _ i _ => n - (intOf i).toNat)
  case atStart => exact ⟨0, by omega, rfl, IRow.nil _ _, Below.refl _ _⟩
  case round =>
    obtain ⟨k, hk, rfl, hrow, hbe⟩ := hrel
    obtain ⟨va, vc, rfl⟩ := hrow.form
    have hwl := withL_len L at_ client k
    by_cases hlt : k < n
    · have hkL : k < L.length := by have := HN.out; omega
      obtain ⟨g1, off, rfl, hcc⟩ := HR.out (by omega)
      have hc := (hcc k hkL).at (hbe.block g1 (lt_of_cell (hcc k hkL).c0))
      have hsu := withL_succ L at_ client k
      obtain ⟨m, hm'⟩ : ∃ m, m = L.getD k i0 := ⟨_, rfl⟩
      rw [← hm'] at hc hsu
      have HSU := Lib.hid hsu
      obtain ⟨c0, c1, c2, c3, c4, c5, c6, c7, c8, c9, c10, c11⟩ := hc
      have HROW := Lib.hid hrow
      have HB := Lib.hid hbe
      obtain ⟨M, hM⟩ : ∃ M, M = withL L at_ client k := ⟨_, rfl⟩
      rw [← hM] at HROW HSU hwl ⊢
      clear hm' hcc hkL hsu hrow hbe hM
      by_cases hka : (k : Int) = at_
      · subst hka
        have HT := Lib.hid (show withL L (k : Int) client (k + 1) = M ++ [m.to client] from HSU.out.trans (by rw [if_pos rfl]))
        go_wp2_with (at_builtin; go_must (refine append_item rfl _ _ rfl ((HB.out.alloc HB.out.size _).alloc (by simpa using Nat.le_succ_of_le HB.out.size) _) ((HROW.out.alloc _).alloc _) rfl ⟨wr.heap.size + 1, 0, none⟩ 1 rfl (m.to client) (news_item (by simp) (m.to client)) (by omega) ?_))
        intro v5 w5 h5 hb5
        have H5 := Lib.hid h5
        have HB5 := Lib.hid hb5
        clear h5 hb5
        go_wp2_with fail
        go_roundw
        case rel => exact ⟨k + 1, by omega, by go_num, by rw [HT.out]; exact H5.out, HB5.out⟩
        case measure => simp [intOf]; omega
      · have HT := Lib.hid (show withL L at_ client (k + 1) = M ++ [m] from HSU.out.trans (by rw [if_neg hka]))
        have hkb : ((k : Int) == at_) = false := beq_eq_false_iff_ne.2 hka
        clear hka
        go_wp2_with (at_builtin; go_must (refine append_item rfl _ _ rfl ((HB.out.alloc HB.out.size _).alloc (by simpa using Nat.le_succ_of_le HB.out.size) _) ((HROW.out.alloc _).alloc _) rfl ⟨wr.heap.size + 1, 0, none⟩ 1 rfl m (news_item (by simp) m) (by omega) ?_))
        intro v5 w5 h5 hb5
        have H5 := Lib.hid h5
        have HB5 := Lib.hid hb5
        clear h5 hb5
        go_wp2_with fail
        go_roundw
        case rel => exact ⟨k + 1, by omega, by go_num, by rw [HT.out]; exact H5.out, HB5.out⟩
        case measure => simp [intOf]; omega
    · have HE := Lib.hid (show WithSays w L at_ client (.returned (.slice va (withL L at_ client k).length vc)) wr from by
        have e : k = L.length := by have := HN.out; omega
        rw [e] at hrow ⊢
        exact ⟨va, vc, by rw [withL_len], hrow.rd, hbe⟩)
      clear hrow hbe
      go_wp2_with fail
      go_ret
      exact HE.out
/-- These places stand at an address, if there are any. -/
def KRd (w : World) (A : Option Addr) (T : List Nat) : Prop := 0 < T.length → ∃ g off, A = some ⟨g, off, none⟩ ∧ ∀ k, k < T.length → w.cell? ⟨g, off + k, none⟩ = some (.int .i64 (T.getD k 0 : Nat))
theorem KRow.rd {a : Option Addr} {n c : Nat} {T : List Nat} (h : KRow w B (.slice a n c) T) : KRd w a T := by
  intro hl
  rcases h.2 with ⟨_, h0⟩ | ⟨gr, cap, cur, e, hB, hh, h3⟩
  · omega
  · have e' := e
    injection e' with ha hn hc
    subst ha hn hc
    refine ⟨gr, 0, rfl, fun k hk => ?_⟩
    rw [Nat.zero_add]
    refine (World.ownsRow.cellAt h k (by omega)).trans ?_
    rw [List.getElem?_map, List.getD_eq_getElem?_getD, List.getElem?_eq_getElem hk]
    rfl
theorem KRd.below {T : List Nat} (h : KRd w A T) (hb : Below w.heap.size w w') : KRd w' A T := by
  intro hp
  obtain ⟨g, off, e, hc⟩ := h hp
  exact ⟨g, off, e, fun k hk => (World.cell?_of_block (w := w) (hb.block g (lt_of_cell (hc k hk)))).trans (hc k hk)⟩
theorem sameints_any {A B : Option Addr} {T : List Nat} (h1 : KRd w A T) (h2 : KRd w B T) (n c c2 : Nat) (hn : n = T.length) (hm : n ≤ 900) : Calls Try.prog 46 #[.slice A n c, .slice B n c2] w fun x w' => x = .returned (.bool true) ∧ ∃ d : Nat, w' = w.drewN d := by
  by_cases hp : 0 < n
  · obtain ⟨g1, o1, rfl, hc1⟩ := h1 (by omega)
    obtain ⟨g2, o2, rfl, hc2⟩ := h2 (by omega)
    have HC1 := Lib.hid hc1
    have HC2 := Lib.hid hc2
    have HL := Lib.hid hn
    clear h1 h2 hc1 hc2 hn
    go_enter Try.func46, Try.ntmps46
    go_wp2_with fail
    go_loopw [5] (fun i wr => ∃ k d : Nat, k ≤ n ∧ i = .int .i64 k ∧ wr = w.drewN d) (fun i _ => n - (intOf i).toNat)
    case atStart => exact ⟨0, 0, by omega, rfl, rfl⟩
    case round =>
      obtain ⟨k, d, hk, rfl, hwr⟩ := hrel
      have HW := Lib.hid hwr
      by_cases hlt : k < n
      · have c1 : wr.cell? ⟨g1, o1 + k, none⟩ = some (.int .i64 (T.getD k 0 : Nat)) := by rw [hwr]; exact HC1.out k (by rw [← HL.out]; exact hlt)
        have d1 : wr.cell? ⟨g2, o2 + k, none⟩ = some (.int .i64 (T.getD k 0 : Nat)) := by rw [hwr]; exact HC2.out k (by rw [← HL.out]; exact hlt)
        clear hwr
        generalize T.getD k 0 = y at *
        go_wp2_with fail
        go_quiet (fail)
        go_wp2_with fail
        go_roundw
        case rel => exact ⟨k + 1, _, by omega, by go_num, drew_on HW.out _⟩
        case measure => simp [intOf]; omega
      · clear hwr
        go_wp2_with fail
        go_ret
        exact ⟨rfl, _, HW.out⟩
  · obtain rfl : n = 0 := by omega
    clear h1 h2 hn hm hp
    go_enter Try.func46, Try.ntmps46
    go_wp2_with fail
    go_loop [5] (fun i => i = .int .i64 0) (fun _ => 0)
    case atStart => rfl
    case round =>
      subst hrel
      go_wp2_with fail
      go_ret
      exact ⟨rfl, 0, rfl⟩
end
end Go.Proofs.Ytkjghlmlfanafaa

/- What is proved here, of whatever program: rows of bytes of a call's own: append of bytes and of a text, and the text that they tell; errors stand where they stood, while blocks of other kinds change. No conditions but those that each theorem names. -/
import Derived.Test.YtnolnhpmpjgnaaaGreatDoorPrp
import Derived.Test.YtnolnhpmpjgnaaaGreatDoorRef02
import Derived.Test.YtnolnhpmpjgnaaaGreatDoorDeeper
import Derived.Lib.AppendStr
import Derived.Maps.AppendAt
import Derived.Lib.AppendZeros
namespace Go.Proofs.YtnolnhpmpjgnaaaGreatDoor
open Go.RowKit Go.Extern.Stop Go.Stop Go.Extern

theorem own_list {v : Value} {k : Nat} : k ∈ v.ownBlock.toList ↔ v.ownBlock = some k := by
  cases hv : v.ownBlock <;> simp [eq_comm]
theorem cat_run (a b : ByteArray) (h : a.size + b.size ≤ 1000000000) : ∃ c : ByteArray, (∀ w, (Op.stringOp .add a b).run Tryz.prog w = .ok (.string c) w) ∧ c = a ++ b ∧ c.size = a.size + b.size :=
  ⟨a ++ b, fun w => run_string_add_sum w a b (by omega), rfl, by simp⟩
/-- v is a slice of the call's own that reads these bytes. -/
def BRow (w : World) (B : Nat) (v : Value) (L : List UInt8) : Prop := w.ownsRow B 5 1 v L.length (L.map byteV)
section
variable {w w' : World} {B : Nat} {v : Value} {L M : List UInt8} {X : List Nat}
theorem BRow.nil (w : World) (B : Nat) : BRow w B (.slice none 0 0) [] := World.ownsRow_nil _ _ _ _
theorem BRow.form (h : BRow w B v L) : ∃ a c, v = .slice a L.length c := by
  rcases h.2 with ⟨rfl, h0⟩ | ⟨gr, cap, cur, rfl, _⟩
  · exact ⟨none, 0, by rw [h0]⟩
  · exact ⟨_, _, rfl⟩
theorem BRow.some_form (h : BRow w B v L) : ∃ a n c, v = .slice a n c ∧ n = L.length := by
  obtain ⟨a, c, e⟩ := h.form
  exact ⟨a, _, c, e, rfl⟩
theorem BRow.fr (h : BRow w B v L) (hf : Fr X w w') (hn : ∀ k, v.ownBlock = some k → k ∉ X) : BRow w' B v L := by
  obtain ⟨h1, h2⟩ := h
  refine ⟨h1, ?_⟩
  rcases h2 with h2 | ⟨gr, cap, cur, rfl, hB, hh, h3⟩
  · exact .inl h2
  · exact .inr ⟨gr, cap, cur, rfl, hB, (hf.block gr (lt_of_block hh) (hn gr rfl)).trans hh, h3⟩
theorem BRow.below (h : BRow w B v L) (hb : Below w.heap.size w w') : BRow w' B v L := h.fr (Fr.of_below (X := []) hb) (by simp)
theorem BRow.lt (h : BRow w B v L) (k : Nat) (hk : v.ownBlock = some k) : B ≤ k ∧ k < w.heap.size ∧ ∃ cs, w.heap[k]? = some (.cells cs 5 (0, 0)) := by
  rcases h.2 with ⟨rfl, _⟩ | ⟨g, cap, cur, rfl, hb, hg, _⟩
  · cases hk
  · obtain rfl : g = k := Option.some.inj hk
    exact ⟨hb, lt_of_block hg, cur, hg⟩
theorem BRow.str (h : BRow w B v L) {src dst : TypeId} (hs : Tryz.prog.underlying src = some (.slice 5)) (hd : Tryz.prog.underlying dst = some .string) : (convert src dst v).run Tryz.prog w = .ok (.string ⟨L.toArray⟩) w :=
  own_string hs Tryz.underlying5 hd h
theorem strCells_eq (s : ByteArray) : Lib.strCells s = s.data.toList.map byteV := rfl
theorem bytes_one (M : List UInt8) : ∀ u ∈ M.map byteV, u.oneCell' = true := by
  intro u hu
  obtain ⟨x, _, rfl⟩ := List.mem_map.1 hu
  rfl
/-- What an append leaves. -/
structure BNext (w w' : World) (B : Nat) (v v' : Value) (L' : List UInt8) : Prop where
  row : BRow w' B v' L'
  grown : w.grownBy w' v.ownBlock
  own : v'.ownBlock = v.ownBlock ∨ ∃ k, v'.ownBlock = some k ∧ w.heap.size ≤ k
theorem BRow.app {n : Nat} {xs : List Value} (h : w.ownsRow B 5 1 v n xs) (hn : n = L.length + M.length) (hx : xs = L.map byteV ++ M.map byteV) : BRow w B v (L ++ M) := by
  subst hn hx
  unfold BRow
  rw [List.length_append, List.map_append]
  exact h
theorem BRow.base {B' : Nat} (h : BRow w B' v L) (hb : B ≤ B') : BRow w B v L := by
  obtain ⟨h1, h2⟩ := h
  refine ⟨h1, ?_⟩
  rcases h2 with h2 | ⟨gr, cap, cur, rfl, hB, h3⟩
  · exact .inl h2
  · exact .inr ⟨gr, cap, cur, rfl, Nat.le_trans hb hB, h3⟩
/-- append of bytes that stand somewhere. -/
theorem run_bytes (h : BRow w B v L) (hB : B ≤ w.heap.size) (hl : L.length + M.length ≤ 1000000) (ty : TypeId) (ad : Addr) (c : Nat) (hc : ∀ j u, (M.map byteV)[j]? = some u → w.cell? (ad.add j) = some u) :
    ∃ v' w', (Builtin.append_ #[80, 80] ty #[v, .slice (some ad) M.length c]).run Tryz.prog w = .ok v' w' ∧ BNext w w' B v v' (L ++ M) := by
  obtain ⟨i0, hi0, hz0, hz1, hz2⟩ := info_parts Tryz.byteInfo
  obtain ⟨v', w', hr, ho, hg, _, hat⟩ := run_append_own_at (P := Tryz.prog) w B 80 ty 5 i0 (.int .u8 0) 1 1 Tryz.underlying80 hi0 hz0 hz1 hz2 rfl (by decide) v L.length (L.map byteV) h ad M.length c (M.map byteV) (by rw [List.length_map, Nat.mul_one]) hc (bytes_one M) (by unfold maxLen; omega) (by omega) hB
  refine ⟨v', w', hr, ⟨BRow.app ho rfl rfl, hg, ?_⟩⟩
  rcases hat with e | e
  · exact .inl e
  · exact .inr ⟨_, e, Nat.le_refl _⟩
/-- append of a text's bytes. -/
theorem run_text (h : BRow w B v L) (hB : B ≤ w.heap.size) (s : ByteArray) (hl : L.length + s.size ≤ 1000000) (ty : TypeId) :
    ∃ v' w', (Builtin.append_ #[80, 9] ty #[v, .string s]).run Tryz.prog w = .ok v' w' ∧ BNext w w' B v v' (L ++ s.data.toList) := by
  obtain ⟨i0, hi0, hz0, hz1, hz2⟩ := info_parts Tryz.byteInfo
  have hsl : s.data.toList.length = s.size := by rw [Array.length_toList]; rfl
  have key : ∀ B', B ≤ B' → B' ≤ w.heap.size → BRow w B' v L → ∃ v' w', (Builtin.append_ #[80, 9] ty #[v, .string s]).run Tryz.prog w = .ok v' w' ∧ BRow w' B' v' (L ++ s.data.toList) ∧ w.grownBy w' v.ownBlock := by
    intro B' _ hB2 h'
    obtain ⟨v', w', hr, ho, hg, _⟩ := Lib.run_append_own_string (P := Tryz.prog) w B' 80 9 ty 5 i0 Tryz.underlying80 Tryz.underlying9 hi0 hz0 hz1 hz2 v L.length (L.map byteV) h' s (by unfold maxLen; omega) (by omega) hB2
    exact ⟨v', w', hr, BRow.app ho (by rw [hsl]) (by rw [strCells_eq]), hg⟩
  rcases h.2 with ⟨rfl, h0⟩ | ⟨g, cap, cur, rfl, hbg, hg, hnc, hcm, hcs, htake⟩
  · have hn : L = [] := List.eq_nil_of_length_eq_zero h0
    subst hn
    obtain ⟨v', w', hr, ho, hg⟩ := key w.heap.size hB (Nat.le_refl _) (BRow.nil _ _)
    refine ⟨v', w', hr, ho.base hB, hg, ?_⟩
    cases hv : v'.ownBlock with
    | none => exact .inl rfl
    | some k => exact .inr ⟨k, rfl, (ho.lt k hv).1⟩
  · obtain ⟨v', w', hr, ho, hgr⟩ := key B (Nat.le_refl _) hB h
    refine ⟨v', w', hr, ho, hgr, ?_⟩
    by_cases hroom : L.length + s.size ≤ cap
    · have hr2 := Lib.run_append_room_string (P := Tryz.prog) w 80 9 ty 5 i0 Tryz.underlying80 Tryz.underlying9 hi0 hz1 g L.length cap cur hg s hroom (by omega)
      rw [hr] at hr2
      injection hr2 with e _
      rw [e]
      exact .inl rfl
    · have holds : ∀ j u, (L.map byteV)[j]? = some u → w.cell? ((⟨g, 0, none⟩ : Addr).add j) = some u := World.ownsRow.cells (g := g) h rfl
      have hr2 := Lib.run_append_grow_string (P := Tryz.prog) w 80 9 ty 5 i0 (.int .u8 0) Tryz.underlying80 Tryz.underlying9 hi0 hz0 ⟨g, 0, none⟩ L.length cap (L.map byteV) (by rw [hz1, List.length_map, Nat.mul_one]) holds s (by omega) (by omega) (by rw [hz2]; exact growslice_fits (by omega) (by omega))
      rw [hr] at hr2
      injection hr2 with e _
      rw [e]
      exact .inr ⟨_, rfl, Nat.le_refl _⟩
theorem grown_fr (hg : w.grownBy w' v.ownBlock) : Fr v.ownBlock.toList w w' := (Fr.refl _ w).grown hg (fun _ hk => .inl (own_list.2 hk))
end
/-- append of bytes to a row of one's own, at a step. -/
theorem append_bytes {ops : Array Oper} {rest : List Oper} {o : Oper} {a : Act} {Q : Exit → Act → World → Prop} {w : World} {B : Nat} {v : Value} {L M : List UInt8} (hgd : o.guard = none) (s x : Operand) (ho : o.op = .call { callee := .builtin .append, args := #[s, x], argTypes := #[80, 80] })
    (ht : BRow w B v L) (hB : B ≤ w.heap.size) (hs : a.eval s = v) (ad : Addr) (m c : Nat) (hx : a.eval x = .slice (some ad) m c) (hm : m = M.length) (hc : ∀ j u, (M.map byteV)[j]? = some u → w.cell? (ad.add j) = some u) (hl : L.length + M.length ≤ 1000000)
    (h : ∀ v' w', BNext w w' B v v' (L ++ M) → wpList Tryz.prog ops Q rest (a.put o.dst v') w') : wpList Tryz.prog ops Q (o :: rest) a w := by
  subst hm
  obtain ⟨v', w', hr, hn⟩ := run_bytes ht hB hl o.type ad c hc
  exact Lib.wpList_append_run w hgd s x 80 80 ho v _ hs hx v' w' hr (h v' w' hn)
/-- append of bytes that are laid for it, to a row of one's own. -/
theorem append_new {ops : Array Oper} {rest : List Oper} {o : Oper} {a : Act} {Q : Exit → Act → World → Prop} {w : World} {B : Nat} {v : Value} {L : List UInt8} (M : List UInt8) (hgd : o.guard = none) (s x : Operand) (ho : o.op = .call { callee := .builtin .append, args := #[s, x], argTypes := #[80, 80] })
    (ht : BRow w B v L) (hB : B ≤ w.heap.size) (hs : a.eval s = v) (k m c : Nat) (hx : a.eval x = .slice (some ⟨k, 0, none⟩) m c) (hk : k = w.heap.size) (hm : m = M.length) (cs : Array Value) (hcs : cs.toList = M.map byteV) (hl : L.length + M.length ≤ 1000000)
    (h : ∀ v' w', BNext w w' B v v' (L ++ M) → wpList Tryz.prog ops Q rest (a.put o.dst v') w') : wpList Tryz.prog ops Q (o :: rest) a (w.alloc (.cells cs 5)) := by
  subst hk
  refine append_bytes hgd s x ho (ht.below ((Below.refl _ _).alloc (Nat.le_refl _) _)) (by rw [World.size_alloc]; omega) hs ⟨w.heap.size, 0, none⟩ m c hx hm (fun j u hj => ?_) hl fun v' w' hn => h v' w' ⟨hn.row, (World.grownBy_alloc w _ _).trans hn.grown, ?_⟩
  · rw [Addr.add_lit, Nat.zero_add, (Blk.made w 5 cs).cell j, ← Array.getElem?_toList, hcs]
    exact hj
  · rcases hn.own with e | ⟨k, e, hk⟩
    · exact .inl e
    · rw [World.size_alloc] at hk
      exact .inr ⟨k, e, by omega⟩
theorem append_text {ops : Array Oper} {rest : List Oper} {o : Oper} {a : Act} {Q : Exit → Act → World → Prop} {w : World} {B : Nat} {v : Value} {L : List UInt8} (hgd : o.guard = none) (s x : Operand) (ho : o.op = .call { callee := .builtin .append, args := #[s, x], argTypes := #[80, 9] })
    (ht : BRow w B v L) (hB : B ≤ w.heap.size) (hs : a.eval s = v) (t : ByteArray) (hx : a.eval x = .string t) (hl : L.length + t.size ≤ 1000000)
    (h : ∀ v' w', BNext w w' B v v' (L ++ t.data.toList) → wpList Tryz.prog ops Q rest (a.put o.dst v') w') : wpList Tryz.prog ops Q (o :: rest) a w := by
  obtain ⟨v', w', hr, hn⟩ := run_text ht hB t hl o.type
  exact Lib.wpList_append_run w hgd s x 80 9 ho v _ hs hx v' w' hr (h v' w' hn)
section
variable {w w' : World} {S : Nat → Addr} {X : List Nat}
/-- Blocks of no fault. -/
def NoF (w : World) (X : List Nat) : Prop := ∀ k ∈ X, ∀ cs, w.heap[k]? ≠ some (.cells cs 96 (0, 0))
theorem NoF.of {w : World} {X : List Nat} (h : ∀ k ∈ X, ∃ cs t, w.heap[k]? = some (.cells cs t (0, 0)) ∧ t ≠ 96) : NoF w X := by
  intro k hk cs hc
  obtain ⟨cs', t, h1, h2⟩ := h k hk
  rw [hc] at h1
  injection h1 with h1
  injection h1 with _ h1
  exact h2 h1.symm
theorem chain_fr (hf : Fr X w w') (hX : NoF w X) : ∀ {leaf : Value} {l : List (Int × Int)} {b : Nat} {e : Value}, Chain w leaf b l e → Chain w' leaf b l e
  | _, [], _, _, h => h
  | _, (_, _) :: _, _, _, h => by
    obtain ⟨k, e', hk, he, hb, hc⟩ := h
    refine ⟨k, e', hk, he, (hf.block k (lt_of_block hb) fun hm => hX k hm _ hb).trans hb, chain_fr hf hX hc⟩
theorem err_fr {r : Int} {no a : Nat} {e : Value} (h : ErrOf w S r no a e) (hf : Fr X w w') (hX : NoF w X) : ErrOf w' S r no a e := by
  unfold ErrOf at *
  split
  · rename_i h0; rw [if_pos h0] at h; exact h
  · rename_i h0
    rw [if_neg h0] at h
    obtain ⟨h7, l, hc⟩ := h
    exact ⟨h7, l, (chain_fr hf hX hc).mono hf.size⟩
theorem err_iface {r : Int} {no a : Nat} {e : Value} (h : ErrOf w S r no a e) (h0 : no ≠ 0) : ∃ t v, e = .iface t v := (h.is h0).iface
/-- Deeper tells an error of a whole. -/
theorem deeper_err (hE : Env w S) {r : Int} {no a b : Nat} {e : Value} (h : ErrOf w S r no a e) (h0 : no ≠ 0) (ha : a ≤ 1000000) (hb : b ≤ 1000000) :
    Calls Tryz.prog 96 #[e, .int .i64 b] w fun x w' => ∃ e', x = .returned e' ∧ ErrOf w' S r no (a + b) e' ∧ Below w.heap.size w w' := by
  unfold ErrOf at h
  rw [if_neg h0] at h
  obtain ⟨h7, l, hc⟩ := h
  refine (deeper_fault hE.handle hc (b : Int)).mono ?_
  rintro x w' ⟨e', rfl, hc', hb'⟩
  refine ⟨e', rfl, ?_, hb'⟩
  have hf : further a b = ((a + b : Nat) : Int) := by
    unfold further lim
    omega
  unfold ErrOf
  rw [if_neg h0]
  rw [hf] at hc'
  exact ⟨h7, _, hc'⟩
end
end Go.Proofs.YtnolnhpmpjgnaaaGreatDoor

/- What is proved here, of whatever program: a slice of bytes that a call made, of which not all room may be its own (Holds); appending a string to it, and reading it as a string. No conditions but those that each theorem names. -/
import Derived.Test.YthplhdepllloaaaDoorObj
import Derived.Lib.AppendStr
import Derived.Lib.BufferWrite
import Derived.Lib.BufferRead
import Derived.Laws.IdiomStrings
namespace Go.Proofs.YthplhdepllloaaaDoor
open Go.RowKit

def byteM (b : UInt8) : Value := .int .u8 (b.toNat : Int)
theorem str_byteM (s : ByteArray) : Lib.strCells s = s.data.toList.map byteM := rfl
theorem size_mem (s : ByteArray) : s.data.toList.length = s.size := by rw [Array.length_toList]; rfl

/-- v is a slice that reads l; what lies behind l in its room is nobody's, or there is none. -/
def Holds (w : World) (e : TypeId) (B : Nat) (v : Value) (l : List UInt8) : Prop :=
  (v = .slice none 0 0 ∧ l = []) ∨ ∃ h cur cap, v = .slice (some ⟨h, 0, none⟩) l.length cap ∧ B ≤ h ∧ w.heap[h]? = some (.cells cur e (0, 0)) ∧ l.length ≤ cap ∧ cap ≤ maxLen ∧ cap ≤ cur.size ∧ cur.toList.take l.length = l.map byteM
section
variable {w w' : World} {e B : Nat} {v : Value} {l : List UInt8}
theorem Holds.fr {X : List Nat} (h : Holds w e B v l) (hf : Fr X w w') (hn : ∀ k, v.ownBlock = some k → k ∉ X) : Holds w' e B v l := by
  rcases h with h | ⟨g, cur, cap, rfl, hB, hg, h1, h2, h3, h4⟩
  · exact .inl h
  · exact .inr ⟨g, cur, cap, rfl, hB, (hf.block g (lt_of_block hg) (hn g rfl)).trans hg, h1, h2, h3, h4⟩
theorem Holds.lt (h : Holds w e B v l) : ∀ k, v.ownBlock = some k → B ≤ k ∧ k < w.heap.size := by
  rcases h with ⟨rfl, _⟩ | ⟨g, cur, cap, rfl, hB, hg, h1, h2, h3, h4⟩
  · intro k hk; cases hk
  · intro k hk
    injection hk with hk
    subst hk
    exact ⟨hB, lt_of_block hg⟩
theorem Holds.ne {g : Nat} {t : TypeId} {cs : Array Value} (h : Holds w e B v l) (hb : Blk w g t cs) (hne : t ≠ e) : ∀ k, v.ownBlock = some k → k ≠ g := by
  rcases h with ⟨rfl, _⟩ | ⟨g', cur, cap, rfl, hB, hg, h1, h2, h3, h4⟩
  · intro k hk; cases hk
  · intro k hk
    injection hk with hk
    subst hk
    exact (hb.other hg hne).symm
theorem Holds.form (h : Holds w e B v l) : ∃ A cap, v = .slice A l.length cap ∧ l.length ≤ cap ∧ cap ≤ maxLen ∧ (A = none → l = [] ∧ cap = 0) := by
  rcases h with ⟨rfl, rfl⟩ | ⟨g', cur, cap, rfl, hB, hg, h1, h2, h3, h4⟩
  · exact ⟨none, 0, rfl, Nat.le_refl _, Nat.zero_le _, fun _ => ⟨rfl, rfl⟩⟩
  · exact ⟨_, cap, rfl, h1, h2, fun h => by cases h⟩
/-- Cut to its first bytes, with no room behind them. -/
theorem Holds.cut {A : Option Addr} {n cap : Nat} (h : Holds w e B (.slice A n cap) l) (k : Nat) (hk : k ≤ l.length) : Holds w e B (.slice A k k) (l.take k) := by
  rcases h with ⟨hv, rfl⟩ | ⟨g', cur, cap', hv, hB, hg, h1, h2, h3, h4⟩
  · injection hv with hA _ _
    subst hA
    obtain rfl : k = 0 := by simpa using hk
    exact .inl ⟨rfl, rfl⟩
  · injection hv with hA hn hc
    subst hA hn hc
    have hl : (l.take k).length = k := by rw [List.length_take]; omega
    refine .inr ⟨g', cur, k, by rw [hl], hB, hg, by omega, by omega, by omega, ?_⟩
    rw [hl, List.map_take, ← h4, List.take_take]
    congr 1
    omega
variable {P : Program}
theorem holds_append (t u ty : TypeId) (i : TypeInfo) (ht : P.underlying t = some (.slice e)) (hu : P.underlying u = some .string) (hi : P.info? e = some i) (hz : i.zero = some (.int .u8 0)) (hsize : i.size = 1) (hby : i.bytes = 1)
    (h : Holds w e B v l) (s : ByteArray) (hs : l.length + s.size ≤ 1000000) (hB : B ≤ w.heap.size) :
    ∃ v' w', (Builtin.append_ #[t, u] ty #[v, .string s]).run P w = .ok v' w' ∧ Holds w' e B v' (l ++ s.data.toList) ∧ w.grownBy w' v.ownBlock ∧ (v'.ownBlock = v.ownBlock ∨ ∃ k, v'.ownBlock = some k ∧ w.heap.size ≤ k ∧ k < w'.heap.size) := by
  have hsb := size_mem s
  rcases h with ⟨rfl, rfl⟩ | ⟨g, cur, cap, rfl, hBg, hg, h1, h2, h3, h4⟩
  · obtain ⟨v', w', hrun, ho, hgr, _⟩ := Lib.run_append_own_string (P := P) w w.heap.size t u ty e i ht hu hi hz hsize hby (.slice none 0 0) 0 [] (World.ownsRow_nil _ _ _ _) s (by unfold maxLen; omega) (by omega) (Nat.le_refl _)
    rw [Nat.zero_add, List.nil_append, str_byteM] at ho
    have hform := ho.2
    refine ⟨v', w', hrun, ?_, hgr, ?_⟩
    · rcases hform with ⟨rfl, h0⟩ | ⟨g, cap, cur, rfl, hbg, hgg, hnc, hcm, hcs, htk⟩
      · left
        exact ⟨rfl, List.eq_nil_of_length_eq_zero (by rw [List.nil_append, hsb]; exact h0)⟩
      · right
        rw [List.nil_append, hsb]
        rw [Nat.mul_one] at hcs htk
        exact ⟨g, cur, cap, rfl, Nat.le_trans hB hbg, hgg, hnc, hcm, by omega, htk⟩
    · rcases hform with ⟨rfl, h0⟩ | ⟨g, cap, cur, rfl, hbg, hgg, hnc, hcm, hcs, htk⟩
      · exact .inl rfl
      · exact .inr ⟨g, rfl, hbg, lt_of_block hgg⟩
  · have hcl : l.length ≤ cur.toList.length := by have := @Array.length_toList _ cur; omega
    by_cases hroom : l.length + s.size ≤ cap
    · have hr := Lib.run_append_room_string (P := P) w t u ty e i ht hu hi hsize g l.length cap cur hg s hroom (by omega)
      refine ⟨_, _, hr, ?_, ⟨rfl, rfl, rfl, by simp, fun k _ hk => setRow_other w g k _ (fun e => hk (by simp [Value.ownBlock, e]))⟩, .inl rfl⟩
      right
      rw [List.length_append, hsb]
      refine ⟨g, _, cap, rfl, hBg, setRow_heap w g cur _ e _ hg, hroom, h2, ?_, ?_⟩
      · simp only [List.size_toArray, List.length_append, List.length_take, List.length_drop, Array.length_toList, Lib.strCells_length]
        omega
      · rw [h4, str_byteM, ← List.map_append]
        have hl2 : ((l ++ s.data.toList).map byteM).length = l.length + s.size := by rw [List.length_map, List.length_append, hsb]
        rw [← hl2]
        exact List.take_left
    · have hc : ∀ j u, (l.map byteM)[j]? = some u → w.cell? ((⟨g, 0, none⟩ : Addr).add j) = some u := by
        intro j u hj
        rw [← h4] at hj
        rw [Addr.add_lit, Nat.zero_add]
        have : cur.toList[j]? = some u := by
          rw [List.getElem?_take] at hj
          split at hj
          · exact hj
          · cases hj
        simp [World.cell?, hg]
        simpa using this
      have hr := Lib.run_append_grow_string (P := P) w t u ty e i (.int .u8 0) ht hu hi hz ⟨g, 0, none⟩ l.length cap (l.map byteM) (by rw [hsize]; simp) hc s (by omega) (by omega) (by rw [hby]; exact growslice_fits (by omega) (by omega))
      have hge := grownCap_ge w (l.length + s.size) cap e
      have hcm : grownCap w (l.length + s.size) cap e ≤ maxLen := grownCap_le_maxLen w (l.length + s.size) cap e (by unfold maxLen; omega)
      refine ⟨_, _, hr, ?_, ⟨rfl, rfl, rfl, by simp, fun k hk _ => heap_alloc_old w.drew _ k hk⟩, .inr ⟨w.heap.size, rfl, Nat.le_refl _, by simp⟩⟩
      right
      rw [List.length_append, hsb]
      refine ⟨w.heap.size, _, _, rfl, hB, heap_alloc_new w.drew _, hge, hcm, ?_, ?_⟩
      · have hz1 : (Value.int IntKind.u8 0).cells.size = 1 := rfl
        simp only [Array.size_append, List.size_toArray, size_zeroCells, hz1, List.length_map, Lib.strCells_length]
        omega
      · simp only [Array.toList_append, List.append_assoc]
        rw [str_byteM, ← List.append_assoc, ← List.map_append]
        have hl2 : ((l ++ s.data.toList).map byteM).length = l.length + s.size := by rw [List.length_map, List.length_append, hsb]
        rw [← hl2]
        exact List.take_left
theorem wpList_append_holds {ops : Array Oper} {rest : List Oper} {o : Oper} {a : Act} {Q : Exit → Act → World → Prop} (hgd : o.guard = none) (sl x : Operand) (t u : TypeId)
    (ho : o.op = .call { callee := .builtin .append, args := #[sl, x], argTypes := #[t, u] }) (i : TypeInfo) (ht : P.underlying t = some (.slice e)) (hu : P.underlying u = some .string) (hi : P.info? e = some i) (hz : i.zero = some (.int .u8 0)) (hsize : i.size = 1) (hby : i.bytes = 1)
    (hs : a.eval sl = v) (h : Holds w e B v l) (s : ByteArray) (hx : a.eval x = .string s) (hsz : l.length + s.size ≤ 1000000) (hB : B ≤ w.heap.size)
    (hk : ∀ v' w', Holds w' e B v' (l ++ s.data.toList) → w.grownBy w' v.ownBlock → (v'.ownBlock = v.ownBlock ∨ ∃ k, v'.ownBlock = some k ∧ w.heap.size ≤ k ∧ k < w'.heap.size) → wpList P ops Q rest (a.put o.dst v') w') : wpList P ops Q (o :: rest) a w := by
  refine wpList_plain hgd fun K hK => ?_
  obtain ⟨v', w', hr, h2, h3, h4⟩ := holds_append (P := P) t u o.type i ht hu hi hz hsize hby h s hsz hB
  unfold Oper.wp execOp
  simp only [ho, resolve, invoke, builtin, Sem.run_bind, Sem.run_pure, Result.andThen_ok, List.map_toArray, List.map_cons, List.map_nil, hs, hx, hr]
  exact hK _ _ (hk v' w' h2 h3 h4)
/-- Read as a string. -/
theorem holds_string {src dst : TypeId} (hs : P.underlying src = some (.slice e)) (he : P.underlying e = some (.int .u8)) (hd : P.underlying dst = some .string) (h : Holds w e B v l) :
    (convert src dst v).run P w = .ok (.string ⟨l.toArray⟩) w := by
  rcases h with ⟨rfl, rfl⟩ | ⟨g, cur, cap, rfl, hBg, hg, h1, h2, h3, h4⟩
  · have := Lib.run_convert_nil_bytes (P := P) w src dst e 0 hs he hd
    exact this
  · exact run_convert_bytes_back (P := P) w src dst e ⟨g, 0, none⟩ cap l hs he hd (fun j hj => by
      rw [Addr.add_lit, Nat.zero_add]
      have : cur.toList[j]? = some (byteM l[j]) := by
        have hj2 : (cur.toList.take l.length)[j]? = some (byteM l[j]) := by rw [h4, List.getElem?_map, List.getElem?_eq_getElem hj]; rfl
        rw [List.getElem?_take, if_pos hj] at hj2
        exact hj2
      simp [World.cell?, hg]
      simpa [byteM] using this)
/-- 'copy' at the operation, where its run is known. -/
theorem wpList_copy_run {ops : Array Oper} {rest : List Oper} {o : Oper} {a : Act} {Q : Exit → Act → World → Prop} (hgd : o.guard = none) (d x : Operand) (t u : TypeId)
    (ho : o.op = .call { callee := .builtin .copy, args := #[d, x], argTypes := #[t, u] }) (dv xv r : Value) (hd : a.eval d = dv) (hx : a.eval x = xv)
    (hr : (Builtin.copy_ #[t, u] o.type #[dv, xv]).run P w = .ok r w') (hk : wpList P ops Q rest (a.put o.dst r) w') : wpList P ops Q (o :: rest) a w := by
  refine wpList_plain hgd fun K hK => ?_
  unfold Oper.wp execOp
  simp only [ho, resolve, invoke, builtin, Sem.run_bind, Sem.run_pure, Result.andThen_ok, List.map_toArray, List.map_cons, List.map_nil, hd, hx, hr]
  exact hK _ _ hk
/-- A new row into which a string was copied holds it. -/
theorem holds_copied (_w0 : World) {g : Nat} {cur : Array Value} (s : ByteArray) (hg : w.heap[g]? = some (.cells cur e (0, 0))) (hB : B ≤ g) (hc : cur.size = s.size) (hs : s.size ≤ maxLen) :
    Holds (w.setRow g (cur.toList.take 0 ++ Lib.strCells s ++ cur.toList.drop (0 + s.size)).toArray) e B (.slice (some ⟨g, 0, none⟩) s.size s.size) s.data.toList := by
  have hsb := size_mem s
  refine .inr ⟨g, _, s.size, by rw [hsb], hB, setRow_heap w g cur _ e _ hg, by omega, hs, ?_, ?_⟩
  · simp [Lib.strCells_length]
  · have hd : cur.toList.drop (0 + s.size) = [] := List.drop_of_length_le (by have := @Array.length_toList _ cur; omega)
    rw [hd, List.append_nil, List.take_zero, List.nil_append, str_byteM]
    exact List.take_of_length_le (by simp)
end
end Go.Proofs.YthplhdepllloaaaDoor

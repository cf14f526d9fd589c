/- What is proved here: copies of messages, and of all of a queue. Conditions: the messages stand where the slice says; few of few properties. -/
import Derived.Test.YtcfbfnlbdkgfkaaDelC27
namespace Go.Proofs.Ytcfbfnlbdkgfkaa
open Go.RowKit Go.Extern.Stop Go.Stop Go.Extern
set_option maxRecDepth 100000
section
variable {w w' : World} {B : Nat} {v : Value} {L : QL} {q : QV}
theorem append_q {ops : Array Oper} {rest : List Oper} {o : Oper} {a : Act} {Q : Exit → Act → World → Prop} {w0 w : World} (hgd : o.guard = none) (s x : Operand) (ho : o.op = .call { callee := .builtin .append, args := #[s, x], argTypes := #[53, 53] })
    {v : Value} {L : QL} (q : QV) (hb : Below w0.heap.size w0 w) (h : QRow w w0.heap.size v L) (hs : a.eval s = v) (hl : L.length ≤ 1000) (ad : Addr) (c : Nat) (hx : a.eval x = .slice (some ad) 1 c) (hq : ∀ i, i < 9 → w.cell? (ad.add i) = q.cells[i]?)
    (hk : ∀ a' c' w', QRow w' w0.heap.size (.slice a' (L.length + 1) c') (L ++ [q]) → Below w0.heap.size w0 w' → Fr v.ownBlock.toList w w' → wpList Try.prog ops Q rest (a.put o.dst (.slice a' (L.length + 1) c')) w') : wpList Try.prog ops Q (o :: rest) a w := by
  obtain ⟨v', w', hr, hrow, hg, hat⟩ := h.push (ty := o.type) (q := q) Try.underlying53 hb.size hl hq c
  obtain ⟨a', c', rfl⟩ := hrow.form
  have hlen : (L ++ [q]).length = L.length + 1 := by simp
  rw [hlen] at hr hrow hat
  have hf : Fr v.ownBlock.toList w w' := (Fr.refl _ w).grown hg (fun k hk => .inl (own_list.2 hk))
  exact Lib.wpList_append_run w hgd s x 53 53 ho v _ hs hx _ w' hr (hk a' c' w' hrow (hf.later hb (fun k hm => (h.lt k (own_list.1 hm)).1) hb.size) hf)
def CopiesSays (w : World) (L : QL) (x : Ending) (w' : World) : Prop := ∃ v' L', x = .returned v' ∧ QRow w' w.heap.size v' L' ∧ L'.map QV.m = L.map QV.m ∧ (∀ q ∈ L', PIn w' 0 q.pa q.m.props) ∧ Below w.heap.size w w'
theorem map_take_at {L : QL} {k : Nat} (h : k < L.length) : (L.map QV.m).take (k + 1) = (L.map QV.m).take k ++ [(L.getD k q0).m] := by
  rw [List.take_succ_eq_append_getElem (by simpa using h)]
  congr 2
  rw [List.getElem_map, List.getD_eq_getElem?_getD, List.getElem?_eq_getElem h]
  rfl
theorem qrow_pin {w w' : World} {B : Nat} {v : Value} {L : QL} {A : Option Addr} {P : PL} (h : QRow w B v L) (hf : Fr v.ownBlock.toList w w') (hp : PIn w 0 A P) : PIn w' 0 A P :=
  hp.fr hf fun k hk => by
    obtain ⟨_, _, cs', hh'⟩ := h.lt k (own_list.1 hk)
    refine ⟨Nat.zero_le _, fun cs hh => ?_⟩
    rw [hh'] at hh
    injection hh with hh
    injection hh with _ ht
    exact absurd ht (by decide)
set_option maxHeartbeats 2000000 in
theorem copies_any {A : Option Addr} (h : MRd w A L) (hp : ∀ q ∈ L, PIn w B q.pa q.m.props ∧ q.m.props.length ≤ 1000) (n c : Nat) (hn : n = L.length) (hm : n ≤ 900) : Calls Try.prog 73 #[.slice A n c] w (CopiesSays w L) := by
  have HR := Lib.hid h
  have HP := Lib.hid hp
  have HN := Lib.hid hn
  clear h hp hn
  go_enter Try.func73, Try.ntmps73
  go_wp2_with fail
  go_loopw [3, 8] (fun v i wr => ∃ (k : Nat) (L' : QL), k ≤ n ∧ i = .int .i64 k ∧ QRow wr w.heap.size v L' ∧ Hid (L'.map QV.m = (L.map QV.m).take k) ∧ Hid (∀ q ∈ L', PIn wr 0 q.pa q.m.props) ∧ Hid (L'.length = k) ∧ Below w.heap.size w wr) (fun _ i _ => n - (intOf i).toNat)
  case atStart => exact ⟨0, [], by omega, rfl, QRow.nil _ _, Lib.hid rfl, Lib.hid (fun q hq => by cases hq), Lib.hid rfl, Below.refl _ _⟩
  case round =>
    obtain ⟨k, L', hk, rfl, hrow, HM, HPI, HLK, hbe⟩ := hrel
    obtain ⟨a, cc, rfl⟩ := hrow.form
    have HROW := Lib.hid hrow
    have HBE := Lib.hid hbe
    by_cases hlt : k < n
    · have hkL : k < L.length := by have := HN.out; omega
      obtain ⟨g1, off, rfl, hcc⟩ := HR.out (by omega)
      obtain ⟨d0, d1, d2, d3, d4, d5, d6, d7, d8⟩ := (hcc k hkL).at (hbe.block g1 (lt_of_cell' (hcc k hkL).c0))
      have HTK := Lib.hid (map_take_at hkL)
      have hpq : PIn w B (L.getD k q0).pa (L.getD k q0).m.props ∧ (L.getD k q0).m.props.length ≤ 1000 := HP.out _ (by
        rw [List.getD_eq_getElem?_getD, List.getElem?_eq_getElem hkL]; exact List.getElem_mem hkL)
      obtain ⟨q, hq⟩ : ∃ q, q = L.getD k q0 := ⟨_, rfl⟩
      rw [← hq] at d0 d1 d2 d3 d4 d5 d6 d7 d8 HTK hpq
      have hb9 : Below wr.heap.size wr (wr.alloc (.cells q.cells.toArray 36)) := (Below.refl _ _).alloc (Nat.le_refl _) _
      have HC := Lib.hid (copy_any (w := wr.alloc (.cells q.cells.toArray 36)) q ((hpq.1.below hbe).below hb9) hpq.2)
      have HB9 := Lib.hid hb9
      clear hcc hkL hpq hq hrow hbe hb9
      unfold QV.agg at HC
      unfold QV.cells at HC HB9
      go_wp2_with fail
      refine HC.out.mono ?_
      rintro x w2 ⟨pa, pc, rfl, hp2, hb2⟩
      have HB2 := Lib.hid (show Below wr.heap.size wr w2 from HB9.out.trans (hb2.mono HB9.out.size))
      have HROW2 := Lib.hid (show QRow (w2.alloc (.cells (QV.cells ⟨q.m, pa, pc⟩).toArray 36)) w.heap.size (.slice a L'.length cc) L' from (HROW.out.below HB2.out).below ((Below.refl _ _).alloc (Nat.le_refl _) _))
      have HB3 := Lib.hid (show Below w.heap.size w (w2.alloc (.cells (QV.cells ⟨q.m, pa, pc⟩).toArray 36)) from (HBE.out.trans (HB2.out.mono HBE.out.size)).alloc (Nat.le_trans HBE.out.size HB2.out.size) _)
      have HPI2 := Lib.hid (show ∀ y ∈ L' ++ [QV.mk q.m pa pc], PIn (w2.alloc (.cells (QV.cells ⟨q.m, pa, pc⟩).toArray 36)) 0 y.pa y.m.props from fun y hy => by
        rcases List.mem_append.1 hy with e | e
        · exact ((HPI.out y e).below HB2.out).alloc _
        · rw [List.mem_singleton] at e
          subst e
          exact hp2.alloc _)
      have HNW := Lib.hid (news_q w2 ⟨q.m, pa, pc⟩)
      have hl9 : L'.length ≤ 1000 := by have := HLK.out; omega
      clear d0 d1 d2 d3 d4 d5 d6 d7 d8 hp2 hb2 HC HB9
      unfold QV.agg
      dsimp only
      go_wp2_with (at_builtin; go_must (refine append_q (L := L') rfl _ _ rfl ⟨q.m, pa, pc⟩ HB3.out HROW2.out rfl hl9 ⟨w2.heap.size, 0, none⟩ 1 rfl HNW.out ?_))
      intro a7 c7 w7 hr7 hb7 hf7
      have HPI7 := Lib.hid (show ∀ y ∈ L' ++ [QV.mk q.m pa pc], PIn w7 0 y.pa y.m.props from fun y hy => qrow_pin HROW2.out hf7 (HPI2.out y hy))
      have HR7 := Lib.hid hr7
      have HB7 := Lib.hid hb7
      have HM7 := Lib.hid (show (L' ++ [QV.mk q.m pa pc]).map QV.m = (L.map QV.m).take (k + 1) from by rw [HTK.out, List.map_append, HM.out]; rfl)
      clear hr7 hb7 hf7
      go_wp2_with fail
      go_roundw
      case rel => exact ⟨k + 1, _, by omega, by go_num, HR7.out, HM7, HPI7, Lib.hid (by rw [List.length_append, HLK.out]; rfl), HB7.out⟩
      case measure => simp [intOf]; omega
    · have HE := Lib.hid (show CopiesSays w L (.returned (.slice a L'.length cc)) wr from by
        have e := HM.out
        rw [List.take_of_length_le (by rw [List.length_map]; have := HN.out; omega)] at e
        exact ⟨_, L', rfl, hrow, e, HPI.out, hbe⟩)
      clear hrow hbe
      go_wp2_with fail
      go_ret
      exact HE.out
theorem qall_any {g : Nat} {most : Int} (h : QObj w B g most v L) (hm : L.length ≤ 900) (hp : ∀ q ∈ L, q.m.props.length ≤ 1000) : Calls Try.prog 45 #[.pointer (some ⟨g, 0, none⟩)] w (CopiesSays w L) := by
  obtain ⟨a, c, rfl⟩ := h.form
  have c1 : w.cell? ⟨g, 1, none⟩ = some (.slice a L.length c) := h.blk.cell 1
  have HC := Lib.hid (copies_any h.row.mrd (fun q hq => ⟨h.ms q hq, hp q hq⟩) L.length c rfl hm)
  clear h
  go_enter Try.func45, Try.ntmps45
  go_wp2_with fail
  refine HC.out.mono ?_
  rintro x w1 hx
  have HX := Lib.hid hx
  obtain ⟨v', L', rfl, _⟩ := hx
  go_wp2_with fail
  go_ret
  exact HX.out
end
end Go.Proofs.Ytcfbfnlbdkgfkaa

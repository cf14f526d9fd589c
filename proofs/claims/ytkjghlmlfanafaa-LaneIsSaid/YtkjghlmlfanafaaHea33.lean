/- What is proved here: which items are at the head. Conditions: the items stand where the slice says; few of them, of short keys. -/
import Derived.Test.YtkjghlmlfanafaaMay33
namespace Go.Proofs.Ytkjghlmlfanafaa
open Go.RowKit Go.Extern.Stop Go.Stop Go.Extern Go.Maps
theorem Try.intInfo33 : (Try.prog.info? 3).map (fun i => (i.zero, i.size, i.bytes)) = some (some (.int .i64 0), 1, 8) := by kernel_rfl
/-- A row of places that a call made. -/
def KRow (w : World) (B : Nat) (v : Value) (T : List Nat) : Prop := w.ownsRow B 3 1 v T.length (T.map fun (i : Nat) => Value.int .i64 (i : Int))
def headI (L : IL) (i : Nat) : Bool := (L.getD i i0).w && decide ((fstI IV.w L (L.getD i i0).topic).getD 0 = (i : Int))
def headN (L : IL) (n : Nat) : List Nat := (List.range n).filter (headI L)
theorem headN_succ (L : IL) (k : Nat) : headN L (k + 1) = headN L k ++ (if headI L k then [k] else []) := by
  unfold headN
  rw [List.range_succ, List.filter_append]
  congr 1
  cases h : headI L k <;> simp [h]
theorem headN_len (L : IL) (n : Nat) : (headN L n).length ≤ n := by
  unfold headN
  refine Nat.le_trans (List.length_filter_le _ _) ?_
  rw [List.length_range]
  exact Nat.le_refl _
section
variable {w w' : World} {A : Option Addr} {L : IL} {B : Nat} {v : Value} {T : List Nat}
theorem KRow.nil (w : World) (B : Nat) : KRow w B (.slice none 0 0) [] := World.ownsRow_nil _ _ _ _
theorem KRow.below (h : KRow w B v T) (hb : Below w.heap.size w w') : KRow w' B v T := own_below h hb
theorem KRow.alloc (h : KRow w B v T) (o : Obj) : KRow (w.alloc o) B v T := h.below ((Below.refl _ w).alloc (Nat.le_refl _) o)
theorem KRow.form (h : KRow w B v T) : ∃ a c, v = .slice a T.length c := by
  rcases h.2 with ⟨rfl, h0⟩ | ⟨gr, cap, cur, rfl, _⟩
  · exact ⟨none, 0, by rw [h0]⟩
  · exact ⟨_, _, rfl⟩
theorem krow_grow {w0 w1 : World} (hb : Below w0.heap.size w0 w) (ht : KRow w w0.heap.size v T) (hg : w.grownBy w1 v.ownBlock) : Below w0.heap.size w0 w1 := by
  refine Fr.later (X := v.ownBlock.toList) ((Fr.refl _ w).grown hg (fun k hk => .inl (by simp [hk]))) hb (fun b hm => ?_) hb.size
  have hk : v.ownBlock = some b := by cases hv : v.ownBlock with | none => rw [hv] at hm; cases hm | some k => rw [hv] at hm; simp at hm; rw [hm]
  exact (World.ownsRow.lt ht b hk).1
theorem append_int {ops : Array Oper} {rest : List Oper} {o : Oper} {a : Act} {Q : Exit → Act → World → Prop} {w0 : World} (hgd : o.guard = none) (s x : Operand) (ho : o.op = .call { callee := .builtin .append, args := #[s, x], argTypes := #[51, 51] })
    (hb : Below w0.heap.size w0 w) (ht : KRow w w0.heap.size v T) (hs : a.eval s = v) (ad : Addr) (c : Nat) (hx : a.eval x = .slice (some ad) 1 c) (k : Nat) (hn : w.cell? ad = some (.int .i64 (k : Int))) (hsm : T.length ≤ 1000)
    (h : ∀ v' w', KRow w' w0.heap.size v' (T ++ [k]) → Below w0.heap.size w0 w' → wpList Try.prog ops Q rest (a.put o.dst v') w') : wpList Try.prog ops Q (o :: rest) a w := by
  obtain ⟨i0, hi0, hz0, hz1, hz2⟩ := info_parts Try.intInfo33
  refine wpList_append_own w hgd s x 51 ho w0.heap.size 3 i0 (.int .i64 0) 1 8 Try.underlying51 hi0 hz0 hz1 hz2 rfl (by decide) v T.length (T.map fun (i : Nat) => Value.int .i64 (i : Int)) hs ht ad 1 c [.int .i64 (k : Int)] hx rfl (fun j u hj => ?_) (fun u hu => by rw [List.mem_singleton] at hu; subst hu; rfl) (by unfold maxLen; omega) (by omega) hb.size ?_
  · cases j with
    | zero =>
      obtain rfl := Option.some.inj hj
      have e : ad.add 0 = ad := by unfold Addr.add; simp
      rw [e]; exact hn
    | succ j => cases hj
  intro v' w' ho' hg _
  refine h v' w' ?_ (krow_grow hb ht hg)
  unfold KRow
  rw [List.length_append, List.map_append]
  exact ho'
def HeadSays (w : World) (L : IL) (x : Ending) (w' : World) : Prop := ∃ v, x = .returned v ∧ KRow w' w.heap.size v (headN L L.length) ∧ Below w.heap.size w w'
set_option maxHeartbeats 1000000 in
theorem head_lane (h : ItRd w A L) (n c : Nat) (hn : n = L.length) (hm : n ≤ 100) (hz : ∀ m ∈ L, m.topic.size ≤ 1000) : Calls Try.prog 47 #[.slice A n c] w (HeadSays w L) := by
  have HF := Lib.hid (first_waits h n c hn hm hz)
  have HR := Lib.hid (fun W (hb : Below w.heap.size w W) => h.below hb)
  have HN := Lib.hid hn
  have HZ := Lib.hid hz
  clear h hn hz
  go_enter Try.func47, Try.ntmps47
  go_wp2_with fail
  refine HF.out.mono ?_
  rintro x w1 ⟨b, nb, rfl, hmap, hb⟩
  have HMP := Lib.hid hmap
  have HB := Lib.hid hb
  have HR1 := Lib.hid (HR.out w1 hb)
  clear hmap hb HF HR
  go_wp2_with fail
  go_loopw [4, 11] (fun v i wr => ∃ k : Nat, k ≤ n ∧ i = .int .i64 k ∧ KRow wr w1.heap.size v (headN L k) ∧ Below w1.heap.size w1 wr) (fun _ i _ => n - (intOf i).toNat)
  case atStart => exact ⟨0, by omega, rfl, KRow.nil _ _, Below.refl _ _⟩
  case round =>
    obtain ⟨k, hk, rfl, hrow, hlt0⟩ := hrel
    obtain ⟨va, vc, rfl⟩ := hrow.form
    have hll := headN_len L k
    by_cases hlt : k < n
    · have hkL : k < L.length := by have := HN.out; omega
      obtain ⟨g1, off, rfl, hcc⟩ := HR1.out (by omega)
      have hc := (hcc k hkL).at (hlt0.block g1 (lt_of_cell (hcc k hkL).c0))
      have hsz : (L.getD k i0).topic.size ≤ 1000 := by
        refine HZ.out _ ?_
        rw [List.getD_eq_getElem?_getD, List.getElem?_eq_getElem hkL]
        exact List.getElem_mem _
      have hsu := headN_succ L k
      unfold headI at hsu
      obtain ⟨m, hm'⟩ : ∃ m, m = L.getD k i0 := ⟨_, rfl⟩
      rw [← hm'] at hc hsz hsu
      have HSU := Lib.hid hsu
      have HCC := Lib.hid hcc
      obtain ⟨c0, c1, c2, c3, c4, c5, c6, c7, c8, c9, c10, c11⟩ := hc
      have HX0 := Lib.hid (Blk.made wr 69 #[.string m.topic, .string m.payload, .int .i64 m.qos, .bool m.retain, .slice m.pa m.pn m.pc, .string m.frm, .int .i64 m.til, .int .i64 m.seq, .string m.grp, .string m.who, .slice m.ba m.bn m.bc, .bool m.again])
      have HL := Lib.hid (show Below w1.heap.size w1 (wr.alloc (.cells #[.string m.topic, .string m.payload, .int .i64 m.qos, .bool m.retain, .slice m.pa m.pn m.pc, .string m.frm, .int .i64 m.til, .int .i64 m.seq, .string m.grp, .string m.who, .slice m.ba m.bn m.bc, .bool m.again] 69)) from hlt0.alloc hlt0.size _)
      have HROW := Lib.hid (hrow.alloc (.cells #[.string m.topic, .string m.payload, .int .i64 m.qos, .bool m.retain, .slice m.pa m.pn m.pc, .string m.frm, .int .i64 m.til, .int .i64 m.seq, .string m.grp, .string m.who, .slice m.ba m.bn m.bc, .bool m.again] 69))
      have D64 := Lib.hid (fun W (h : Ltr (wr.alloc (.cells #[.string m.topic, .string m.payload, .int .i64 m.qos, .bool m.retain, .slice m.pa m.pn m.pc, .string m.frm, .int .i64 m.til, .int .i64 m.seq, .string m.grp, .string m.who, .slice m.ba m.bn m.bc, .bool m.again] 69)) W) => (waits_any m W).mono fun x w' hx => show x = .returned (.bool m.w) ∧ Ltr (wr.alloc (.cells #[.string m.topic, .string m.payload, .int .i64 m.qos, .bool m.retain, .slice m.pa m.pn m.pc, .string m.frm, .int .i64 m.til, .int .i64 m.seq, .string m.grp, .string m.who, .slice m.ba m.bn m.bc, .bool m.again] 69)) w' from ⟨hx.1, h.next hx.2⟩)
      have D45 := Lib.hid (fun W (h : Ltr (wr.alloc (.cells #[.string m.topic, .string m.payload, .int .i64 m.qos, .bool m.retain, .slice m.pa m.pn m.pc, .string m.frm, .int .i64 m.til, .int .i64 m.seq, .string m.grp, .string m.who, .slice m.ba m.bn m.bc, .bool m.again] 69)) W) => (key_any m W).mono fun x w' hx => show x = .returned (.string m.topic) ∧ Ltr (wr.alloc (.cells #[.string m.topic, .string m.payload, .int .i64 m.qos, .bool m.retain, .slice m.pa m.pn m.pc, .string m.frm, .int .i64 m.til, .int .i64 m.seq, .string m.grp, .string m.who, .slice m.ba m.bn m.bc, .bool m.again] 69)) w' from ⟨hx.1, h.next hx.2⟩)
      unfold IV.agg at D64
      unfold IV.msg at D45
      clear hm' hcc hkL hsu hrow
      go_upto_region 6 with fail
      obtain ⟨wx, hwx⟩ : ∃ wx, wx = wr.alloc (.cells #[.string m.topic, .string m.payload, .int .i64 m.qos, .bool m.retain, .slice m.pa m.pn m.pc, .string m.frm, .int .i64 m.til, .int .i64 m.seq, .string m.grp, .string m.who, .slice m.ba m.bn m.bc, .bool m.again] 69) := ⟨_, rfl⟩
      rw [← hwx] at HX0 HL D64 D45 HROW ⊢
      obtain ⟨gz, hgz⟩ : ∃ gz, gz = wr.heap.size := ⟨_, rfl⟩
      rw [← hgz] at HX0 ⊢
      clear hwx hgz c0 c1 c2 c3 c4 c5 c6 c7 c8 c9 c10 c11 hlt0
      have hJ : Ltr wx wx := Below.refl _ _
      have HJ := Lib.hid hJ
      have KS := Lib.hid (fun W (h : Ltr wx W) => show W.cell? ⟨gz, 0, none⟩ = some (.string m.topic) ∧ W.cell? ⟨gz, 1, none⟩ = some (.string m.payload) ∧ W.cell? ⟨gz, 2, none⟩ = some (.int .i64 m.qos) ∧ W.cell? ⟨gz, 3, none⟩ = some (.bool m.retain) ∧ W.cell? ⟨gz, 4, none⟩ = some (.slice m.pa m.pn m.pc) ∧ W.cell? ⟨gz, 5, none⟩ = some (.string m.frm) ∧ W.cell? ⟨gz, 6, none⟩ = some (.int .i64 m.til) ∧ W.cell? ⟨gz, 7, none⟩ = some (.int .i64 m.seq) ∧ W.cell? ⟨gz, 8, none⟩ = some (.string m.grp) ∧ W.cell? ⟨gz, 9, none⟩ = some (.string m.who) ∧ W.cell? ⟨gz, 10, none⟩ = some (.slice m.ba m.bn m.bc) ∧ W.cell? ⟨gz, 11, none⟩ = some (.bool m.again) from by
        have hx := HX0.out.below h HX0.out.lt
        exact ⟨hx.cell 0, hx.cell 1, hx.cell 2, hx.cell 3, hx.cell 4, hx.cell 5, hx.cell 6, hx.cell 7, hx.cell 8, hx.cell 9, hx.cell 10, hx.cell 11⟩)
      have HLK := Lib.hid (fun W (hW : Ltr wx W) => show (Instr.lookup 83 (.map (some b)) (.string m.topic) false).run Try.prog W = .ok (.int .i64 ((fstI IV.w L m.topic).getD 0)) W from
          ((HMP.out.below (HL.out.trans (hW.mono HL.out.size)) (Nat.le_refl _)).look Try.underlying9 Try.underlying83 Try.underlying3 z3i (by unfold maxLen; omega : m.topic.size ≤ maxLen)).2)
      obtain ⟨s0, s1, s2, s3, s4, s5, s6, s7, s8, s9, s10, s11⟩ := KS.out _ hJ
      clear hJ
      obtain ⟨q, hq⟩ : ∃ q, q = (fstI IV.w L m.topic).getD 0 := ⟨_, rfl⟩
      rw [← hq] at HSU HLK
      clear hq
      cases hw : m.w
      · rw [hw] at D64 HSU
        clear hw
        have HT := Lib.hid (show headN L (k + 1) = headN L k from HSU.out.trans (by simp))
        go_wp2_with fail
        refine (D64.out _ HJ.out).mono ?_
        rintro x w5 ⟨rfl, hdw5⟩
        obtain ⟨s0, s1, s2, s3, s4, s5, s6, s7, s8, s9, s10, s11⟩ := KS.out _ hdw5
        have HJw5 := Lib.hid hdw5
        clear hdw5
        clear s0 s1 s2 s3 s4 s5 s6 s7 s8 s9 s10 s11
        have HROW5 := Lib.hid (HROW.out.below HJw5.out)
        have HB5 := Lib.hid (HL.out.trans (HJw5.out.mono HL.out.size))
        go_wp2_with fail
        go_roundw
        case rel => exact ⟨k + 1, by omega, by go_num, by rw [HT.out]; exact HROW5.out, HB5.out⟩
        case measure => simp [intOf]; omega
      · rw [hw] at D64 HSU
        clear hw
        by_cases hqk : q = (k : Int)
        · have HT := Lib.hid (show headN L (k + 1) = headN L k ++ [k] from HSU.out.trans (by rw [decide_eq_true hqk]; rfl))
          have hqb : (q == (k : Int)) = true := beq_iff_eq.2 hqk
          clear hqk
          go_wp2_with fail
          refine (D64.out _ HJ.out).mono ?_
          rintro x w5 ⟨rfl, hdw5⟩
          obtain ⟨s0, s1, s2, s3, s4, s5, s6, s7, s8, s9, s10, s11⟩ := KS.out _ hdw5
          have HJw5 := Lib.hid hdw5
          clear hdw5
          go_wp2_with fail
          refine (D45.out _ HJw5.out).mono ?_
          rintro x w6 ⟨rfl, hdw6⟩
          obtain ⟨s0, s1, s2, s3, s4, s5, s6, s7, s8, s9, s10, s11⟩ := KS.out _ hdw6
          have HJw6 := Lib.hid hdw6
          clear hdw6
          have hl := HLK.out _ HJw6.out
          clear s0 s1 s2 s3 s4 s5 s6 s7 s8 s9 s10 s11
          have HROW6 := Lib.hid (HROW.out.below HJw6.out)
          have HB6 := Lib.hid (HL.out.trans (HJw6.out.mono HL.out.size))
          go_wp2_with (at_builtin; go_must (refine append_int rfl _ _ rfl (HB6.out.alloc HB6.out.size _) (HROW6.out.alloc _) rfl ⟨w6.heap.size, 0, none⟩ 1 rfl k (by simp) (by omega) ?_))
          intro v7 w7 h7 hb7
          have H7 := Lib.hid h7
          have HB7 := Lib.hid hb7
          clear h7 hb7
          go_wp2_with fail
          go_roundw
          case rel => exact ⟨k + 1, by omega, by go_num, by rw [HT.out]; exact H7.out, HB7.out⟩
          case measure => simp [intOf]; omega
        · have HT := Lib.hid (show headN L (k + 1) = headN L k from HSU.out.trans (by rw [decide_eq_false hqk]; simp))
          have hqb : (q == (k : Int)) = false := beq_eq_false_iff_ne.2 hqk
          clear hqk
          go_wp2_with fail
          refine (D64.out _ HJ.out).mono ?_
          rintro x w5 ⟨rfl, hdw5⟩
          obtain ⟨s0, s1, s2, s3, s4, s5, s6, s7, s8, s9, s10, s11⟩ := KS.out _ hdw5
          have HJw5 := Lib.hid hdw5
          clear hdw5
          go_wp2_with fail
          refine (D45.out _ HJw5.out).mono ?_
          rintro x w6 ⟨rfl, hdw6⟩
          obtain ⟨s0, s1, s2, s3, s4, s5, s6, s7, s8, s9, s10, s11⟩ := KS.out _ hdw6
          have HJw6 := Lib.hid hdw6
          clear hdw6
          have hl := HLK.out _ HJw6.out
          clear s0 s1 s2 s3 s4 s5 s6 s7 s8 s9 s10 s11
          have HROW6 := Lib.hid (HROW.out.below HJw6.out)
          have HB6 := Lib.hid (HL.out.trans (HJw6.out.mono HL.out.size))
          go_wp2_with fail
          go_roundw
          case rel => exact ⟨k + 1, by omega, by go_num, by rw [HT.out]; exact HROW6.out, HB6.out⟩
          case measure => simp [intOf]; omega
    · have HE := Lib.hid (show HeadSays w L (.returned (.slice va (headN L k).length vc)) wr from by
        have e : k = L.length := by have := HN.out; omega
        rw [e] at hrow ⊢
        exact ⟨_, rfl, ⟨hrow.1, by
          rcases hrow.2 with h2 | ⟨gr, cap, cur, e1, hB, r⟩
          · exact .inl h2
          · exact .inr ⟨gr, cap, cur, e1, Nat.le_trans HB.out.size hB, r⟩⟩, HB.out.trans (hlt0.mono HB.out.size)⟩)
      clear hlt0 hrow
      go_wp2_with fail
      go_ret
      exact HE.out
end
end Go.Proofs.Ytkjghlmlfanafaa

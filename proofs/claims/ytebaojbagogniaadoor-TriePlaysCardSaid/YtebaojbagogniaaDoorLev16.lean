/- What is proved here: the levels of a text, as package topic and as the document has them. Condition: few bytes. -/
import Derived.Test.YtebaojbagogniaaDoorSign16
import Derived.OwnWalk
namespace Go.Proofs.YtebaojbagogniaaDoor
open Go.RowKit Go.Extern.Stop Go.Stop Go.Extern

theorem Tryd.strInfo : (Tryd.prog.info? 9).map (fun i => (i.zero, i.size, i.bytes)) = some (some (.string ⟨#[]⟩), 1, 16) := by kernel_rfl
def strs (L : List BL) : List Value := L.map fun l => .string (bs l)
theorem strs_len (L : List BL) : (strs L).length = L.length := by simp [strs]
theorem strs_get {L : List BL} {k : Nat} (h : k < L.length) : (strs L)[k]? = some (.string (bs (L.getD k []))) := by
  simp [strs, List.getElem?_eq_getElem h]
theorem strs_on (L : List BL) (s : ByteArray) : strs (L ++ [ls s]) = strs L ++ [.string s] := by simp [strs, bs_ls]
/-- v is a slice of the call's own that reads these texts. -/
def Texts (w : World) (B : Nat) (v : Value) (L : List BL) : Prop := w.ownsRow B 9 1 v L.length (strs L)
def szOf : Value → Nat
  | .string s => s.size
  | _ => 0
section
variable {w w' : World} {B : Nat} {v : Value} {L : List BL}
theorem Texts.nil (w : World) (B : Nat) : Texts w B (.slice none 0 0) [] := ⟨rfl, .inl ⟨rfl, rfl⟩⟩
theorem Texts.form (h : Texts w B v L) : ∃ a c, v = .slice a L.length c := by
  rcases h.2 with ⟨rfl, h0⟩ | ⟨gr, cap, cur, rfl, _⟩
  · exact ⟨none, 0, by rw [h0]⟩
  · exact ⟨_, _, rfl⟩
theorem Texts.fr {X : List Nat} (h : Texts w B v L) (hf : Fr X w w') (hn : ∀ k, v.ownBlock = some k → k ∉ X) : Texts w' B v L := by
  obtain ⟨h1, h2⟩ := h
  refine ⟨h1, ?_⟩
  rcases h2 with h2 | ⟨gr, cap, cur, rfl, hB, hh, h3⟩
  · exact .inl h2
  · exact .inr ⟨gr, cap, cur, rfl, hB, (hf.block gr (lt_of_block hh) (hn gr rfl)).trans hh, h3⟩
theorem Texts.then (h : Texts w B v L) (hf : Fr [] w w') : Texts w' B v L := h.fr hf (by simp)
theorem Texts.base {B' : Nat} (h : Texts w B' v L) (hb : B ≤ B') : Texts w B v L := by
  obtain ⟨h1, h2⟩ := h
  refine ⟨h1, ?_⟩
  rcases h2 with h2 | ⟨gr, cap, cur, rfl, hB, h3⟩
  · exact .inl h2
  · exact .inr ⟨gr, cap, cur, rfl, Nat.le_trans hb hB, h3⟩
/-- Where there is one: the block, and what stands in it. -/
theorem Texts.at_ {a : Option Addr} {n c : Nat} (h : Texts w B (.slice a n c) L) (hl : 0 < L.length) : ∃ g, a = some ⟨g, 0, none⟩ ∧ B ≤ g ∧ g < w.heap.size ∧ ∀ k, k < L.length → w.cell? ⟨g, k, none⟩ = some (.string (bs (L.getD k []))) := by
  rcases h.2 with ⟨_, h0⟩ | ⟨gr, cap, cur, e, hB, hh, h3⟩
  · omega
  · have e' := e
    injection e' with ha hn hc
    subst ha hn hc
    refine ⟨gr, rfl, hB, lt_of_block hh, fun k hk => ?_⟩
    rw [World.ownsRow.cellAt h k (by omega)]
    exact strs_get hk
theorem one_text (w : World) (s : ByteArray) : ∀ (j : Nat) (u : Value), [Value.string s][j]? = some u → (w.alloc (Obj.cells #[Value.string s] 9)).cell? ((⟨w.heap.size, 0, none⟩ : Addr).add j) = some u := by
  intro j u hj
  rcases j with _ | j
  · have := (Blk.made w 9 #[Value.string s]).cell 0
    simp at hj
    subst hj
    exact this
  · simp at hj
theorem one_text1 (s : ByteArray) : ∀ (u : Value), u ∈ [Value.string s] → u.oneCell' = true := by
  intro u hu
  simp at hu
  subst hu
  rfl
/-- Levels, as a call answers them. -/
def LevSays (w : World) (L : List BL) (x : Ending) (w' : World) : Prop := ∃ v, x = .returned v ∧ Texts w' w.heap.size v L ∧ Below w.heap.size w w'
/-- What a step on the call's own rows leaves of what was there. -/
theorem below_push {w0 w w1 : World} {v : Value} {L : List BL} {o : Obj} (hb : Below w0.heap.size w0 w) (ht : Texts w w0.heap.size v L) (hg : (w.alloc o).grownBy w1 v.ownBlock) : Below w0.heap.size w0 w1 := by
  refine Fr.later (X := v.ownBlock.toList) (((Fr.refl _ w).alloc o).grown hg (fun k hk => .inl (by simp [hk]))) hb (fun b hm => ?_) hb.size
  have hk : v.ownBlock = some b := by cases hv : v.ownBlock with | none => rw [hv] at hm; cases hm | some k => rw [hv] at hm; simp at hm; rw [hm]
  exact (World.ownsRow.lt ht b hk).1
set_option maxHeartbeats 1000000 in
theorem levels_any (s : ByteArray) (hm : s.size ≤ 1000000) : Calls Tryd.prog 32 #[.string s] w (LevSays w (spl (ls s))) := by
  obtain ⟨i0, hi0, hz0, hz1, hz2⟩ := info_parts Tryd.strInfo
  go_enter Tryd.func32, Tryd.ntmps32
  go_wp2
  go_loopw [0, 3] (fun sv lv wr => ∃ (r : ByteArray) (L : List BL), sv = .string r ∧ L.length + r.size ≤ s.size ∧ L ++ spl (ls r) = spl (ls s) ∧ Texts wr w.heap.size lv L ∧ Below w.heap.size w wr) (fun sv _ _ => szOf sv)
  case atStart => exact ⟨s, [], rfl, by simp, rfl, Texts.nil _ _, Below.refl _ _⟩
  case round =>
    obtain ⟨r, L, rfl, hsz, hL, ht, hb⟩ := hrel
    have HL := Lib.hid hL
    have HT := Lib.hid ht
    have HB := Lib.hid hb
    obtain ⟨a, c, rfl⟩ := ht.form
    clear hL ht hb
    rcases index_or (ls r) with ⟨_, hno⟩ | ⟨i, hi, hil, hno, hcut⟩
    · have HC := Lib.hid (fun w => cut_no (w := w) r hno)
      have HE := Lib.hid (show L ++ [ls r] = spl (ls s) by rw [← HL.out, spl_no hno])
      clear hno
      go_wp2_with fail
      refine (HC.out _).mono ?_
      rintro x w1 ⟨rfl, hf⟩
      have HT1 := Lib.hid (HT.out.then hf)
      have HB1 := Lib.hid (hf.later HB.out (by simp) HB.out.size)
      clear hf
      go_wp2_with (at_builtin; refine wpList_append_own _ rfl _ _ 54 rfl w.heap.size 9 i0 (.string ⟨#[]⟩) 1 16 Tryd.underlying54 hi0 hz0 hz1 hz2 rfl (by decide) (.slice a L.length c) L.length (strs L) rfl (HT1.out.alloc _) ⟨w1.heap.size, 0, none⟩ 1 1 [.string r] rfl rfl (one_text w1 r) (one_text1 r) (by unfold maxLen; omega) (by omega) (Nat.le_trans HB1.out.size ((Fr.refl [] w1).alloc _).size) ?_)
      intro v' w2 ho hg hnn
      have HB2 := Lib.hid (below_push HB1.out HT1.out hg)
      have HT2 := Lib.hid (show Texts w2 w.heap.size v' (spl (ls s)) by rw [← HE.out]; unfold Texts; rw [List.length_append, strs_on]; exact ho)
      clear ho hg hnn
      go_wp2_with fail
      go_ret
      exact ⟨_, rfl, HT2.out, HB2.out⟩
    · have hir : i < r.size := by rw [← ls_size]; exact hil
      have HC := Lib.hid (fun w => cut_at (w := w) r (by omega) hi hir)
      have HE := Lib.hid (show (L ++ [ls (r.extract 0 i)]) ++ spl (ls (r.extract (i + 1) r.size)) = spl (ls s) by
        rw [← HL.out, ext_head, ext_tail, ls_bs, ls_bs, List.append_assoc]
        conv => rhs; rw [hcut, spl_at hno]
        rfl)
      have hs2 : (r.extract (i + 1) r.size).size = r.size - (i + 1) := by rw [← ls_size, ext_tail, ls_bs, List.length_drop, ls_size]
      have HS := Lib.hid hs2
      clear hno hi hcut hil hs2
      generalize r.extract 0 i = x1 at *
      generalize r.extract (i + 1) r.size = r2 at *
      go_wp2_with fail
      refine (HC.out _).mono ?_
      rintro x w1 ⟨rfl, hf⟩
      have HT1 := Lib.hid (HT.out.then hf)
      have HB1 := Lib.hid (hf.later HB.out (by simp) HB.out.size)
      clear hf
      go_wp2_with (at_builtin; refine wpList_append_own _ rfl _ _ 54 rfl w.heap.size 9 i0 (.string ⟨#[]⟩) 1 16 Tryd.underlying54 hi0 hz0 hz1 hz2 rfl (by decide) (.slice a L.length c) L.length (strs L) rfl (HT1.out.alloc _) ⟨w1.heap.size, 0, none⟩ 1 1 [.string x1] rfl rfl (one_text w1 x1) (one_text1 x1) (by unfold maxLen; omega) (by omega) (Nat.le_trans HB1.out.size ((Fr.refl [] w1).alloc _).size) ?_)
      intro v' w2 ho hg hnn
      have HB2 := Lib.hid (below_push HB1.out HT1.out hg)
      have HT2 := Lib.hid (show Texts w2 w.heap.size v' (L ++ [ls x1]) by unfold Texts; rw [List.length_append, strs_on]; exact ho)
      clear ho hg hnn
      go_wp2_with fail
      go_roundw
      case rel => exact ⟨r2, _, rfl, by rw [List.length_append, HS.out]; simp; omega, HE.out, HT2.out, HB2.out⟩
      case measure => show r2.size < r.size; rw [HS.out]; omega
/-- The document's levels. -/
theorem drop_slash {l : BL} {from_ i : Nat} (h : i < l.length) (hf : from_ ≤ i) (hc : l.getD i 0 = 47) : l.drop from_ = (l.drop from_).take (i - from_) ++ 47 :: l.drop (i + 1) := by
  have e : l.drop i = 47 :: l.drop (i + 1) := by
    rw [List.drop_eq_getElem_cons h]
    rw [List.getD_eq_getElem?_getD, List.getElem?_eq_getElem h] at hc
    rw [show l[i] = 47 from hc]
  rw [← e]
  conv => lhs; rw [← List.take_append_drop (i - from_) (l.drop from_)]
  rw [List.drop_drop, show from_ + (i - from_) = i by omega]
theorem take_more {l : BL} {from_ i : Nat} (h : i < l.length) (hf : from_ ≤ i) (hno : ¬ 47 ∈ (l.drop from_).take (i - from_)) (hc : l.getD i 0 ≠ 47) : ¬ 47 ∈ (l.drop from_).take (i + 1 - from_) := by
  rw [show i + 1 - from_ = (i - from_) + 1 by omega, List.take_succ_eq_append_getElem (by rw [List.length_drop]; omega), List.mem_append, not_or]
  refine ⟨hno, ?_⟩
  rw [List.mem_singleton, List.getElem_drop]
  intro e
  apply hc
  rw [List.getD_eq_getElem?_getD, List.getElem?_eq_getElem h]
  have : from_ + (i - from_) = i := by omega
  simp only [this] at e
  exact e.symm
theorem bAt_ls (s : ByteArray) (i : Nat) : bAt s i = ((ls s).getD i 0).toNat := rfl
set_option maxHeartbeats 1000000 in
theorem rlevels_any (s : ByteArray) (hm : s.size ≤ 1000000) : Calls Tryd.prog 28 #[.string s] w (LevSays w (spl (ls s))) := by
  obtain ⟨i0, hi0, hz0, hz1, hz2⟩ := info_parts Tryd.strInfo
  go_enter Tryd.func28, Tryd.ntmps28
  go_wp2
  go_loopw [3, 4, 5] (fun lv fv iv wr => ∃ (L : List BL) (f i : Nat), fv = .int .i64 f ∧ iv = .int .i64 i ∧ f ≤ i ∧ i ≤ s.size ∧ L.length ≤ f ∧ L ++ spl ((ls s).drop f) = spl (ls s) ∧ (¬ 47 ∈ ((ls s).drop f).take (i - f)) ∧ Texts wr w.heap.size lv L ∧ Below w.heap.size w wr) (fun _ _ iv _ => s.size - (intOf iv).toNat)
  case atStart => exact ⟨[], 0, 0, rfl, rfl, Nat.le_refl _, Nat.zero_le _, Nat.le_refl _, rfl, by simp, Texts.nil _ _, Below.refl _ _⟩
  case round =>
    obtain ⟨L, f, i, rfl, rfl, hfi, his, hLf, hL, hno, ht, hb⟩ := hrel
    have HL := Lib.hid hL
    have HT := Lib.hid ht
    have HB := Lib.hid hb
    have HN := Lib.hid hno
    obtain ⟨a, c, rfl⟩ := ht.form
    clear hL ht hb hno
    by_cases hlt : i < s.size
    · have hll : i < (ls s).length := by rw [ls_size]; exact hlt
      have hg := bAt_get hlt
      by_cases hc : bAt s i = 47
      · have hcc : (ls s).getD i 0 = 47 := UInt8.toNat_inj.1 (by rw [← bAt_ls, hc]; rfl)
        have HE := Lib.hid (show (L ++ [ls (s.extract f i)]) ++ spl ((ls s).drop (i + 1)) = spl (ls s) by
          rw [← HL.out, ext_bs, ls_bs, List.append_assoc]
          conv => rhs; rw [drop_slash hll hfi hcc, spl_at HN.out]
          rfl)
        rw [hc] at hg
        have hg' := hg.symm
        clear hcc hc hg hll
        go_wp2_with (at_builtin; refine wpList_append_own _ rfl _ _ 54 rfl w.heap.size 9 i0 (.string ⟨#[]⟩) 1 16 Tryd.underlying54 hi0 hz0 hz1 hz2 rfl (by decide) (.slice a L.length c) L.length (strs L) rfl (HT.out.alloc _) ⟨wr.heap.size, 0, none⟩ 1 1 [.string _] rfl rfl (one_text wr _) (one_text1 _) (by unfold maxLen; omega) (by omega) (Nat.le_trans HB.out.size ((Fr.refl [] wr).alloc _).size) ?_)
        intro v' w2 ho hg hnn
        have HB2 := Lib.hid (below_push HB.out HT.out hg)
        have HT2 := Lib.hid (show Texts w2 w.heap.size v' (L ++ [ls (s.extract f i)]) by unfold Texts; rw [List.length_append, strs_on]; exact ho)
        clear ho hg hnn
        generalize s.extract f i = x1 at *
        go_wp2_with fail
        go_roundw
        case rel => exact ⟨_, i + 1, i + 1, by go_num, by go_num, Nat.le_refl _, by omega, by rw [List.length_append]; simp; omega, HE.out, by simp, HT2.out, HB2.out⟩
        case measure => simp [intOf]; omega
      · have hcc : (ls s).getD i 0 ≠ 47 := fun e => hc (by rw [bAt_ls, e]; rfl)
        have HN2 := Lib.hid (take_more hll hfi HN.out hcc)
        have hb1 : (((bAt s i : Nat) : Int) == 47) = false := beq_eq_false_iff_ne.2 (by omega)
        have hg' := hg.symm
        clear hcc hc hg hll
        generalize bAt s i = b at *
        go_wp2_with fail
        go_roundw
        case rel => exact ⟨L, f, i + 1, by go_num, by go_num, by omega, by omega, hLf, HL.out, HN2.out, HT.out, HB.out⟩
        case measure => simp [intOf]; omega
    · have HE := Lib.hid (show L ++ [ls (s.extract f s.size)] = spl (ls s) by
        rw [← HL.out, ext_tail, ls_bs, spl_no]
        have h := HN.out
        rwa [List.take_of_length_le (by rw [List.length_drop, ls_size]; omega)] at h)
      go_wp2_with (at_builtin; refine wpList_append_own _ rfl _ _ 54 rfl w.heap.size 9 i0 (.string ⟨#[]⟩) 1 16 Tryd.underlying54 hi0 hz0 hz1 hz2 rfl (by decide) (.slice a L.length c) L.length (strs L) rfl (HT.out.alloc _) ⟨wr.heap.size, 0, none⟩ 1 1 [.string _] rfl rfl (one_text wr _) (one_text1 _) (by unfold maxLen; omega) (by omega) (Nat.le_trans HB.out.size ((Fr.refl [] wr).alloc _).size) ?_)
      intro v' w2 ho hg hnn
      have HB2 := Lib.hid (below_push HB.out HT.out hg)
      have HT2 := Lib.hid (show Texts w2 w.heap.size v' (spl (ls s)) by rw [← HE.out]; unfold Texts; rw [List.length_append, strs_on]; exact ho)
      clear ho hg hnn
      generalize s.extract f s.size = x1 at *
      go_wp2_with fail
      go_ret
      exact ⟨_, rfl, HT2.out, HB2.out⟩
/-- Has a text a byte? -/
theorem has_bAt {s : ByteArray} {p : Nat} (hp : p < s.size) : ∃ x, x ∈ ls s ∧ x.toNat = bAt s p := by
  have hl : p < (ls s).length := by rw [ls_size]; exact hp
  refine ⟨(ls s)[p], List.getElem_mem hl, ?_⟩
  rw [bAt_ls, List.getD_eq_getElem?_getD, List.getElem?_eq_getElem hl]
  rfl
theorem has_any (s : ByteArray) (hm : s.size ≤ 1000000) (c : UInt8) : Calls Tryd.prog 38 #[.string s, .int .u8 (c.toNat : Int)] w fun x w' => x = .returned (.bool (hasB (ls s) c)) ∧ w = w' := by
  obtain ⟨n, hn⟩ : ∃ n, n = c.toNat := ⟨_, rfl⟩
  have HC := Lib.hid hn
  rw [← hn]
  clear hn
  go_enter Tryd.func38, Tryd.ntmps38
  go_wp2
  go_loop [5] (fun iv => ∃ i : Nat, i ≤ s.size ∧ iv = .int .i64 i ∧ ∀ j, j < i → bAt s j ≠ n) (fun iv => s.size - (intOf iv).toNat)
  case atStart => exact ⟨0, Nat.zero_le _, rfl, fun j hj => by omega⟩
  case round =>
    obtain ⟨i, hi, rfl, hno⟩ := hrel
    have HN := Lib.hid hno
    clear hno
    by_cases hlt : i < s.size
    · have hg' := (bAt_get hlt).symm
      by_cases he : bAt s i = n
      · have HE := Lib.hid (show hasB (ls s) c = true by
          obtain ⟨x, hx, hxv⟩ := has_bAt hlt
          unfold hasB
          rw [List.contains_iff_mem, ← UInt8.toNat_inj.1 (show x.toNat = c.toNat by rw [hxv, he, HC.out])]
          exact hx)
        rw [he] at hg'
        clear he
        go_wp2_with fail
        go_ret
        exact ⟨ret_bool HE.out.symm, rfl⟩
      · have HE := Lib.hid (show ∀ j, j < i + 1 → bAt s j ≠ n from fun j hj => by
          rcases (show j < i ∨ j = i by omega) with h | rfl
          · exact HN.out j h
          · exact he)
        have hb1 : (((bAt s i : Nat) : Int) == ((n : Nat) : Int)) = false := beq_eq_false_iff_ne.2 (by omega)
        clear he
        generalize bAt s i = b at *
        go_wp2_with fail
        go_round
        case rel => exact ⟨i + 1, by omega, by go_num, HE.out⟩
        case measure => simp [intOf]; omega
    · obtain rfl : i = s.size := by omega
      have HE := Lib.hid (show hasB (ls s) c = false by
        unfold hasB
        rw [← Bool.not_eq_true, List.contains_iff_mem]
        intro hx
        obtain ⟨p, hp, e⟩ := List.getElem_of_mem hx
        refine HN.out p (by rw [← ls_size]; exact hp) ?_
        rw [HC.out, bAt_ls, List.getD_eq_getElem?_getD, List.getElem?_eq_getElem hp, ← e]
        rfl)
      go_wp2_with fail
      go_ret
      exact ⟨ret_bool HE.out.symm, rfl⟩
end
end Go.Proofs.YtebaojbagogniaaDoor

/- What is proved here: a Splitter of package frame: its bytes that are left, or its first error; what an act on it leaves; how many are left. Conditions: the splitter is there. -/
import Derived.Test.YtfojoeafhdiaiaaDoorChk07
import Derived.Test.YtfojoeafhdiaiaaDoorRegT
namespace Go.Proofs.YtfojoeafhdiaiaaDoor
set_option maxRecDepth 100000
open Go.RowKit Go.Extern.Stop Go.Stop Go.Extern
/-- How many bytes at most, what is left, the error's number, its reason, where it is, how many were left at it. -/
structure SV where
  most : Int
  R : List UInt8
  no : Nat
  r : Int
  a : Nat
  lost : Nat
structure SObj (w : World) (S : Nat → Addr) (B g : Nat) (v : Value) (L : List UInt8) (p : Nat) (V : SV) : Prop where
  low : B ≤ g
  blk : ∃ e, Blk w g 121 #[.int .i64 V.most, v, .int .i64 p, e, .int .i64 V.lost] ∧ ErrOf w S V.r V.no V.a e
  row : BRow w B v L
  rest : V.no = 0 → V.R = L.drop p
  ple : V.no = 0 → p = 0 ∨ p < L.length
/-- What an act leaves. -/
structure SNext (w w' : World) (S : Nat → Addr) (B g : Nat) (v v' : Value) (L' : List UInt8) (p' : Nat) (V' : SV) : Prop where
  obj : SObj w' S B g v' L' p' V'
  fr : Fr (g :: v.ownBlock.toList) w w'
  own : ∀ k, v'.ownBlock = some k → v.ownBlock = some k ∨ w.heap.size ≤ k
section
variable {w w' w2 : World} {S : Nat → Addr} {B g p p' : Nat} {v v' v2 : Value} {V V' V2 : SV} {X : List Nat} {L L' L2 : List UInt8} {p2 : Nat}
theorem SObj.lt (h : SObj w S B g v L p V) : g < w.heap.size := by obtain ⟨e, h1, _⟩ := h.blk; exact h1.lt
theorem SObj.size (h : SObj w S B g v L p V) : B ≤ w.heap.size := Nat.le_trans h.low (Nat.le_of_lt h.lt)
theorem SObj.ne (h : SObj w S B g v L p V) {k : Nat} (hk : v.ownBlock = some k) : g ≠ k := by
  obtain ⟨_, _, cs, hh⟩ := h.row.lt k hk
  obtain ⟨e, h1, _⟩ := h.blk
  exact h1.other hh (by decide)
theorem SObj.fr (h : SObj w S B g v L p V) (hf : Fr X w w') (hg : g ∉ X) (hv : ∀ k, v.ownBlock = some k → k ∉ X) (hX : NoF w X) : SObj w' S B g v L p V := by
  obtain ⟨e, h1, h2⟩ := h.blk
  exact ⟨h.low, ⟨e, h1.fr hf hg, err_fr h2 hf hX⟩, h.row.fr hf hv, h.rest, h.ple⟩
theorem SObj.below (h : SObj w S B g v L p V) (hb : Below w.heap.size w w') : SObj w' S B g v L p V := h.fr (X := []) (Fr.of_below hb) (by simp) (by simp) (by intro k hk; cases hk)
theorem SObj.step (h : SObj w S B g v L p V) (hb : Below w.heap.size w w') : SNext w w' S B g v v L p V := ⟨h.below hb, Fr.of_below hb, fun _ hk => .inl hk⟩
theorem SObj.own_ok (h : SObj w S B g v L p V) : ∀ k ∈ g :: v.ownBlock.toList, B ≤ k := by
  intro k hk
  rcases List.mem_cons.1 hk with rfl | hk
  · exact h.low
  · exact (h.row.lt k (own_list.1 hk)).1
theorem SNext.trans (h : SNext w w' S B g v v' L' p' V') (h2 : SNext w' w2 S B g v' v2 L2 p2 V2) : SNext w w2 S B g v v2 L2 p2 V2 := by
  refine ⟨h2.obj, h.fr.trans h2.fr (fun k hk hlt => ?_), fun k hk => ?_⟩
  · rcases List.mem_cons.1 hk with rfl | hk
    · exact List.mem_cons_self ..
    · rcases h.own k (own_list.1 hk) with e | e
      · exact List.mem_cons_of_mem _ (own_list.2 e)
      · omega
  · rcases h2.own k hk with e | e
    · exact h.own k e
    · exact .inr (Nat.le_trans h.fr.size e)
theorem SNext.below (h : SNext w w' S B g v v' L' p' V') (hb : Below w'.heap.size w' w2) : SNext w w2 S B g v v' L' p' V' := h.trans (h.obj.step hb)
theorem SNext.pre (h : SNext w' w2 S B g v v' L' p' V') (hb : Below w.heap.size w w') : SNext w w2 S B g v v' L' p' V' := by
  refine ⟨h.obj, (Fr.of_below (X := g :: v.ownBlock.toList) hb).trans h.fr fun _ hk _ => hk, fun k hk => ?_⟩
  rcases h.own k hk with e | e
  · exact .inl e
  · exact .inr (Nat.le_trans hb.size e)
theorem SNext.later (h : SNext w' w2 S B g v v' L' p' V') (ho : SObj w' S B g v L p V) (hb : Below B w w') : Below B w w2 := h.fr.later hb ho.own_ok ho.size
theorem SObj.made (w : World) (S : Nat → Addr) (most : Int) (hB : B ≤ w.heap.size) : SObj (w.alloc (.cells #[.int .i64 most, .slice none 0 0, .int .i64 0, .nilIface, .int .i64 0] 121)) S B w.heap.size (.slice none 0 0) [] 0 ⟨most, [], 0, 0, 0, 0⟩ :=
  ⟨hB, ⟨_, Blk.made w _ _, ErrOf.none⟩, BRow.nil _ _, fun _ => rfl, fun _ => .inl rfl⟩
theorem SObj.nil_err (h : SObj w S B g v L p V) (h0 : V.no = 0) : Blk w g 121 #[.int .i64 V.most, v, .int .i64 p, .nilIface, .int .i64 V.lost] := by
  obtain ⟨e, hb, he⟩ := h.blk
  unfold ErrOf at he
  rw [if_pos h0] at he
  rw [← he]
  exact hb
theorem SObj.has_err (h : SObj w S B g v L p V) (h0 : V.no ≠ 0) : ∃ t u, Blk w g 121 #[.int .i64 V.most, v, .int .i64 p, .iface t u, .int .i64 V.lost] ∧ ErrOf w S V.r V.no V.a (.iface t u) := by
  obtain ⟨e, hb, he⟩ := h.blk
  obtain ⟨t, u, rfl⟩ := err_iface he h0
  exact ⟨t, u, hb, he⟩
theorem SObj.nof (h : SObj w S B g v L p V) : NoF w [g] := NoF.of fun k hk => by
  rw [List.mem_singleton] at hk
  subst hk
  obtain ⟨e, hb, _⟩ := h.blk
  exact ⟨_, _, hb, by decide⟩
/-- How many are left. -/
def leftV (V : SV) : Nat := if V.no = 0 then V.R.length else V.lost
theorem sleft_any (h : SObj w S B g v L p V) (hl : L.length ≤ 1000000) : Calls Tryd.prog 42 #[.pointer (some ⟨g, 0, none⟩)] w fun x w' => x = .returned (.int .i64 (leftV V : Nat)) ∧ Below w.heap.size w w' := by
  by_cases h0 : V.no = 0
  · obtain ⟨av, nv, cv, rfl, hnv⟩ := h.row.some_form
    have hb := h.nil_err h0
    have c1 : w.cell? ⟨g, 1, none⟩ = some (.slice av nv cv) := hb.cell 1
    have c2 : w.cell? ⟨g, 2, none⟩ = some (.int .i64 p) := hb.cell 2
    have c3 : w.cell? ⟨g, 3, none⟩ = some .nilIface := hb.cell 3
    have e1 : ((leftV V : Nat) : Int) = (nv : Int) - (p : Int) := by
      unfold leftV
      rw [if_pos h0, h.rest h0, List.length_drop, hnv]
      have := h.ple h0
      omega
    have hp : p ≤ nv := by have := h.ple h0; omega
    have hn : nv ≤ 1000000 := by omega
    rw [e1]
    clear h hb e1 hl hnv
    go_enter Tryd.func42, Tryd.ntmps42
    go_wp2_with fail
    go_quiet (fail)
    go_wp2
    go_ret
    exact ⟨rfl, below_drewN (Below.refl _ _) _⟩
  · obtain ⟨t, u, hb, _⟩ := h.has_err h0
    have c3 : w.cell? ⟨g, 3, none⟩ = some (.iface t u) := hb.cell 3
    have c4 : w.cell? ⟨g, 4, none⟩ = some (.int .i64 V.lost) := hb.cell 4
    have e1 : leftV V = V.lost := by unfold leftV; rw [if_neg h0]
    rw [e1]
    clear h hb e1
    go_enter Tryd.func42, Tryd.ntmps42
    go_wp2_with fail
    go_ret
    exact ⟨rfl, Below.refl _ _⟩
theorem sleft_nil (w : World) : Calls Tryd.prog 42 #[.pointer none] w fun x w' => x = .returned (.int .i64 0) ∧ w = w' := by
  go_enter Tryd.func42, Tryd.ntmps42
  go_wp2
  go_ret
  exact ⟨rfl, rfl⟩
theorem snew_any (most : Int) (w : World) : Calls Tryd.prog 37 #[.int .i64 most] w fun x w' => x = .returned (.pointer (some ⟨w.heap.size, 0, none⟩)) ∧ w' = w.alloc (.cells #[.int .i64 most, .slice none 0 0, .int .i64 0, .nilIface, .int .i64 0] 121) := by
  go_enter Tryd.func37, Tryd.ntmps37
  go_wp2_with fail
  go_ret
  exact ⟨rfl, rfl⟩
/-- What Feed says. -/
def FSays (w : World) (S : Nat → Addr) (B g : Nat) (v : Value) (m : Nat) (V' : SV) (x : Ending) (w' : World) : Prop := x = .returned (.tuple #[]) ∧ ∃ v' L' p', SNext w w' S B g v v' L' p' V' ∧ L'.length ≤ m
theorem feed_nil (s : ByteArray) (w : World) : Calls Tryd.prog 38 #[.pointer none, .string s] w fun x w' => x = .returned (.tuple #[]) ∧ w = w' := by
  go_enter Tryd.func38, Tryd.ntmps38
  go_wp2
  exact bodyPost_ret (v := .tuple #[]) (by simp [results, Tryd.results38, go_sem]) rfl ⟨rfl, rfl⟩
theorem feed_err (h : SObj w S B g v L p V) (h0 : V.no ≠ 0) (s : ByteArray) (hs : s.size ≤ 65535) (hl : V.lost ≤ 1000000) :
    Calls Tryd.prog 38 #[.pointer (some ⟨g, 0, none⟩), .string s] w (FSays w S B g v L.length ⟨V.most, V.R, V.no, V.r, V.a, V.lost + s.size⟩) := by
  obtain ⟨t, u, hb, he⟩ := h.has_err h0
  have c3 : w.cell? ⟨g, 3, none⟩ = some (.iface t u) := hb.cell 3
  have c4 : w.cell? ⟨g, 4, none⟩ = some (.int .i64 V.lost) := hb.cell 4
  have d4 : w.frozen? ⟨g, 4, none⟩ = false := hb.frozen 4
  have hz : s.size ≤ 1000000 := by omega
  have hf : Fr [g] w (w.setCell ⟨g, 4, none⟩ (.int .i64 ((V.lost + s.size : Nat) : Int))) := (Fr.refl [g] w).setCell (p := ⟨g, 4, none⟩) (.inl (List.mem_singleton_self g)) _
  have hgn : ∀ k, v.ownBlock = some k → k ∉ [g] := fun k hk hm => by rw [List.mem_singleton] at hm; exact h.ne hk hm.symm
  have hN : SNext w (w.setCell ⟨g, 4, none⟩ (.int .i64 ((V.lost + s.size : Nat) : Int))) S B g v v L p ⟨V.most, V.R, V.no, V.r, V.a, V.lost + s.size⟩ :=
    ⟨⟨h.low, ⟨_, hb.store 4 _, err_fr he hf h.nof⟩, h.row.fr hf hgn, fun h' => absurd h' h0, h.ple⟩, hf.mono (fun b hb _ => by rw [List.mem_singleton] at hb; subst hb; exact List.mem_cons_self ..), fun _ hk => .inl hk⟩
  have HN := Lib.hid hN
  have e1 : (V.lost : Int) + (s.size : Int) = ((V.lost + s.size : Nat) : Int) := by omega
  have HS := Lib.hid hs
  clear h hb he hf hgn hN hs e1
  go_enter Tryd.func38, Tryd.ntmps38
  go_wp2_with fail
  exact bodyPost_ret (v := .tuple #[]) (by simp [results, Tryd.results38, go_sem]) rfl ⟨rfl, _, _, _, HN.out, Nat.le_refl _⟩
end
/-- append of bytes at a step of a region that draws its order. -/
theorem step_append_b {w : World} {B : Nat} {ops : Array Oper} {o : Oper} {a : Act} {K : Act → World → Prop} {Q : Exit → Act → World → Prop} {E : Prop} {L M : List UInt8} {v : Value} (hgd : o.guard = none) (s x : Operand) (ho : o.op = .call { callee := .builtin .append, args := #[s, x], argTypes := #[26, 26] })
    (hs : a.eval s = v) (h : BRow w B v L) (hB : B ≤ w.heap.size) (hl : L.length + M.length ≤ 1000000) (ad : Addr) (m c : Nat) (hx : a.eval x = .slice (some ad) m c) (hm : m = M.length) (hc : ∀ j u, (M.map byteV)[j]? = some u → w.cell? (ad.add j) = some u)
    (hk : ∀ v' w', BNext w w' B v v' (L ++ M) → K (a.put o.dst v') w') :
    if Region.wanted o (yielded ops a.tmps) = true then Oper.wp Tryd.prog o a w K Q else E := by
  have hw : Region.wanted o (yielded ops a.tmps) = true := by simp [Region.wanted, hgd]
  rw [if_pos hw]
  subst hm
  obtain ⟨v', w', hr, hn⟩ := run_bytes h hB hl o.type ad c hc
  exact Lib.wp_append_run w s x 26 26 ho v _ hs hx v' w' hr (hk v' w' hn)
section
variable {w w' w2 : World} {S : Nat → Addr} {B g p p' : Nat} {v v' v2 : Value} {V V' V2 : SV} {X : List Nat} {L L' L2 : List UInt8} {p2 : Nat}
/-- The row of a slice that begins where it does, with none of it. -/
theorem BRow.cut0 {k n cap : Nat} (h : BRow w B (.slice (some ⟨k, 0, none⟩) n cap) L) : BRow w B (.slice (some ⟨k, 0, none⟩) 0 cap) [] := by
  rcases h.2 with ⟨e, _⟩ | ⟨g, cap', cur, e, hb, hg, hnc, hcm, hcs, _⟩
  · cases e
  · injection e with e1 e2 e3
    subst e3
    injection e1 with e1
    injection e1 with e1
    subst e1
    exact ⟨rfl, .inr ⟨k, cap, cur, rfl, hb, hg, Nat.zero_le _, hcm, hcs, by simp⟩⟩
theorem BRow.addr {a : Option Addr} {n cap : Nat} (h : BRow w B (.slice a n cap) L) (h0 : 0 < L.length) : ∃ k, a = some ⟨k, 0, none⟩ := by
  rcases h.2 with ⟨e, hz⟩ | ⟨g, cap', cur, e, _⟩
  · omega
  · injection e with e1 e2 e3
    exact ⟨g, e1⟩
theorem BRow.cap {k n cap : Nat} (h : BRow w B (.slice (some ⟨k, 0, none⟩) n cap) L) : L.length ≤ cap := by
  rcases h.2 with ⟨e, _⟩ | ⟨g, cap', cur, e, hb, hg, hnc, hcm, hcs, _⟩
  · cases e
  · injection e with e1 e2 e3
    subst e3
    exact hnc
theorem BRow.at_ {k n cap : Nat} (h : BRow w B (.slice (some ⟨k, 0, none⟩) n cap) L) (hn : n = L.length) {j : Nat} (hj : j < L.length) : w.cell? ⟨k, j, none⟩ = some (byteV (L.getD j 0)) := by
  subst hn
  rw [World.ownsRow.cellAt h j (by omega), List.getElem?_map, List.getD_eq_getElem?_getD, List.getElem?_eq_getElem hj]
  rfl
theorem BRow.tail_cells {k n cap p : Nat} (h : BRow w B (.slice (some ⟨k, 0, none⟩) n cap) L) (hn : n = L.length) : ∀ j u, ((L.drop p).map byteV)[j]? = some u → w.cell? ((⟨k, p, none⟩ : Addr).add j) = some u := by
  intro j u hj
  have hl := (List.getElem?_eq_some_iff.1 hj).1
  rw [List.length_map, List.length_drop] at hl
  rw [Go.WideShapes.add_plain, h.at_ hn (by omega), ← hj, List.getElem?_map, List.getElem?_drop, List.getD_eq_getElem?_getD, List.getElem?_eq_getElem (by omega)]
  rfl
/-- Bytes more at the end. -/
theorem SObj.appended (h : SObj w S B g v L p V) (h0 : V.no = 0) {M : List UInt8} (hn : BNext w w' B v v' (L ++ M)) :
    w'.cell? ⟨g, 1, none⟩ = some v ∧ w'.frozen? ⟨g, 1, none⟩ = false ∧ SNext w (w'.setCell ⟨g, 1, none⟩ v') S B g v v' (L ++ M) p ⟨V.most, V.R ++ M, 0, V.r, V.a, V.lost⟩ := by
  have hb := h.nil_err h0
  have hfar : some g ≠ v.ownBlock := fun e => h.ne e.symm rfl
  have hb1 := hb.grown hn.grown hfar
  have hgn : ∀ k, v'.ownBlock = some k → k ∉ [g] := fun k hk hm => by
    rw [List.mem_singleton] at hm
    subst hm
    rcases hn.own with e | ⟨k2, e, hk2⟩
    · exact h.ne (e.symm.trans hk) rfl
    · rw [e] at hk
      have := h.lt
      have := Option.some.inj hk
      omega
  have hfs : Fr [g] w' (w'.setCell ⟨g, 1, none⟩ v') := (Fr.refl [g] w').setCell (p := ⟨g, 1, none⟩) (.inl (List.mem_singleton_self g)) _
  refine ⟨hb1.cell 1, hb1.frozen 1, ⟨h.low, ⟨_, hb1.store 1 v', ErrOf.none⟩, hn.row.fr hfs hgn, fun _ => ?_, fun _ => ?_⟩, ?_, fun k hk => ?_⟩
  · rw [h.rest h0, List.drop_append_of_le_length (by have := h.ple h0; omega)]
  · have := h.ple h0
    rw [List.length_append]
    omega
  · exact ((grown_fr hn.grown).mono (fun b hb _ => List.mem_cons_of_mem g hb)).setCell (.inl (List.mem_cons_self ..)) _
  · rcases hn.own with e | ⟨k2, e, hk2⟩
    · exact .inl (e.symm.trans hk)
    · rw [e] at hk
      obtain rfl := Option.some.inj hk
      exact .inr hk2
/-- What is left is moved to the beginning. -/
theorem SObj.moved (h : SObj w S B g v L p V) (h0 : V.no = 0) {v0 : Value} (hv0 : v0.ownBlock = v.ownBlock) (hn : BNext w w' B v0 v' (L.drop p)) :
    w'.cell? ⟨g, 1, none⟩ = some v ∧ w'.frozen? ⟨g, 1, none⟩ = false ∧ (w'.setCell ⟨g, 1, none⟩ v').cell? ⟨g, 2, none⟩ = some (.int .i64 p) ∧ (w'.setCell ⟨g, 1, none⟩ v').frozen? ⟨g, 2, none⟩ = false ∧
    SNext w ((w'.setCell ⟨g, 1, none⟩ v').setCell ⟨g, 2, none⟩ (.int .i64 0)) S B g v v' (L.drop p) 0 V := by
  have hb := h.nil_err h0
  have hg' : w.grownBy w' v.ownBlock := hv0 ▸ hn.grown
  have hfar : some g ≠ v.ownBlock := fun e => h.ne e.symm rfl
  have hb1 := hb.grown hg' hfar
  have hb2 := hb1.store 1 v'
  have hgn : ∀ k, v'.ownBlock = some k → k ∉ [g] := fun k hk hm => by
    rw [List.mem_singleton] at hm
    subst hm
    rcases hn.own with e | ⟨k2, e, hk2⟩
    · rw [hv0] at e
      exact h.ne (e.symm.trans hk) rfl
    · rw [e] at hk
      have := h.lt
      have := Option.some.inj hk
      omega
  have hfs : Fr [g] w' ((w'.setCell ⟨g, 1, none⟩ v').setCell ⟨g, 2, none⟩ (.int .i64 0)) := ((Fr.refl [g] w').setCell (p := ⟨g, 1, none⟩) (.inl (List.mem_singleton_self g)) _).setCell (p := ⟨g, 2, none⟩) (.inl (List.mem_singleton_self g)) _
  refine ⟨hb1.cell 1, hb1.frozen 1, hb2.cell 2, hb2.frozen 2, ⟨h.low, ⟨_, hb2.store 2 (.int .i64 0), by unfold ErrOf; rw [if_pos h0]⟩, hn.row.fr hfs hgn, fun _ => by rw [h.rest h0]; rfl, fun _ => .inl rfl⟩, ?_, fun k hk => ?_⟩
  · exact (((grown_fr hg').mono (fun b hb _ => List.mem_cons_of_mem g hb)).setCell (.inl (List.mem_cons_self ..)) _).setCell (.inl (List.mem_cons_self ..)) _
  · rcases hn.own with e | ⟨k2, e, hk2⟩
    · exact .inl (hv0 ▸ e.symm.trans hk)
    · rw [e] at hk
      obtain rfl := Option.some.inj hk
      exact .inr hk2
theorem feed_ok (h : SObj w S B g v L p V) (h0 : V.no = 0) (s : ByteArray) (hs : s.size ≤ 65535) (hl : L.length ≤ 900000) :
    Calls Tryd.prog 38 #[.pointer (some ⟨g, 0, none⟩), .string s] w (FSays w S B g v (L.length + s.size) ⟨V.most, V.R ++ s.data.toList, 0, V.r, V.a, V.lost⟩) := by
  obtain ⟨av, nv, cv, rfl, hnv⟩ := h.row.some_form
  have hp := h.ple h0
  have KT := Lib.hid (fun (W : World) (hb : Below w.heap.size w W) => show W.cell? ⟨g, 1, none⟩ = some (.slice av nv cv) ∧ W.cell? ⟨g, 2, none⟩ = some (.int .i64 p) ∧ W.cell? ⟨g, 3, none⟩ = some .nilIface from by
    have hb2 := (h.below hb).nil_err h0
    exact ⟨hb2.cell 1, hb2.cell 2, hb2.cell 3⟩)
  have HO := Lib.hid (fun (W : World) (hb : Below w.heap.size w W) => h.below hb)
  obtain ⟨c1, c2, c3⟩ := KT.out _ (Below.refl _ _)
  have HNV := Lib.hid hnv
  have HS := Lib.hid hs
  have hn : nv ≤ 900000 := by omega
  rw [← hnv] at hp
  clear h hnv hs hl
  by_cases hm : (nv : Int) / 2 < (p : Int)
  · have hpn : p < nv := by omega
    obtain ⟨k, rfl⟩ := (HO.out _ (Below.refl _ _)).row.addr (by have := HNV.out; omega)
    have hcap : nv ≤ cv := by have := (HO.out _ (Below.refl _ _)).row.cap; have := HNV.out; omega
    have hpn2 : p ≤ nv := by omega
    have hpc : ¬ cv = p := by omega
    have HML := Lib.hid (show ([] : List UInt8).length + (L.drop p).length ≤ 1000000 by have := HNV.out; rw [List.length_drop, List.length_nil]; omega)
    have HMN := Lib.hid (show nv - p = (L.drop p).length by rw [List.length_drop, HNV.out])
    go_enter Tryd.func38, Tryd.ntmps38
    go_wp2_with fail
    go_quiet (fail)
    go_wp2_with fail
    generalize hw5 : World.drewN _ _ = w5
    have hb5 : Below w.heap.size w w5 := by rw [← hw5]; exact below_drewN (Below.refl _ _) _
    have KU := Lib.hid (fun (W : World) (hb : Below w.heap.size w W) => show W.cell? ⟨g, 1, none⟩ = some (.slice (some ⟨k, 0, none⟩) nv cv) ∧ W.cell? ⟨g, 2, none⟩ = some (.int .i64 p) from ⟨(KT.out W hb).1, (KT.out W hb).2.1⟩)
    have hb5d : Below w.heap.size w (w5.drewN 1) := below_drewN hb5 1
    have ho5 := HO.out _ hb5d
    have HROW := Lib.hid ho5.row.cut0
    have HSZ := Lib.hid ho5.size
    have HCL := Lib.hid (ho5.row.tail_cells (p := p) HNV.out)
    have HMV := Lib.hid (fun (v' : Value) (w' : World) (hn : BNext (w5.drewN 1) w' B (.slice (some ⟨k, 0, none⟩) 0 cv) v' (L.drop p)) => ho5.moved (v0 := .slice (some ⟨k, 0, none⟩) 0 cv) (v' := v') h0 rfl hn)
    have HC2 := Lib.hid (fun (v' : Value) (w' : World) (hn : BNext (w5.drewN 1) w' B (.slice (some ⟨k, 0, none⟩) 0 cv) v' (L.drop p)) => show w'.cell? ⟨g, 2, none⟩ = some (.int .i64 p) from ((ho5.nil_err h0).grown hn.grown (fun e => ho5.ne e.symm rfl)).cell 2)
    have HB5 := Lib.hid hb5d
    obtain ⟨t0, t1⟩ := KU.out _ hb5
    clear hw5 c1 c2 c3 ho5 hb5d
    refine wp_region_T (fun W => W.cell? ⟨g, 1, none⟩ = some (.slice (some ⟨k, 0, none⟩) nv cv) ∧ W.cell? ⟨g, 2, none⟩ = some (.int .i64 p)) 18 (by kernel_rfl) ?_ (fun hHeld => ?_)
    · (first | assumption | exact KU.out _ (by assumption) | exact KU.out _ (below_drewN (by assumption) 1))
    refine wpAnyT_take (i := 0) (oi := { dst := some 31, op := Op.move (Operand.tmp 0), type := 72, pos := _, after := _, guard := none }) (v := ?_) rfl (by kernel_rfl) (by kernel_rfl) (by kernel_rfl) (by kernel_rfl) (fun _ _ _ h => h) (Or.inl ⟨by rfl, ?_⟩) (by assumption) ?_
    rotate_left
    · (intro w hSw; (try dsimp only at hSw); go_simp; (try with_reducible rfl))
    (try simp only [Act.put, List.setIfInBounds_toArray, List.set_cons_zero, List.set_cons_succ])
    refine wpAnyT_take (i := 1) (oi := { dst := some 32, op := Op.move (Operand.tmp 0), type := 72, pos := _, after := _, guard := none }) (v := ?_) rfl (by kernel_rfl) (by kernel_rfl) (by kernel_rfl) (by kernel_rfl) (fun _ _ _ h => h) (Or.inl ⟨by rfl, ?_⟩) (by assumption) ?_
    rotate_left
    · (intro w hSw; (try dsimp only at hSw); go_simp; (try with_reducible rfl))
    (try simp only [Act.put, List.setIfInBounds_toArray, List.set_cons_zero, List.set_cons_succ])
    refine wpAnyT_take (i := 2) (oi := { dst := some 33, op := Op.nilCheck (Operand.tmp 32), type := 0, pos := _, after := _, guard := none }) (v := ?_) rfl (by kernel_rfl) (by kernel_rfl) (by kernel_rfl) (by kernel_rfl) (fun _ _ _ h => h) (Or.inl ⟨by rfl, ?_⟩) (by assumption) ?_
    rotate_left
    · (intro w hSw; (try dsimp only at hSw); go_simp; (try with_reducible rfl))
    (try simp only [Act.put, List.setIfInBounds_toArray, List.set_cons_zero, List.set_cons_succ])
    refine wpAnyT_take (i := 3) (oi := { dst := some 34, op := Op.fieldAddr 121 (Operand.tmp 33) 1, type := 0, pos := _, after := _, guard := none }) (v := ?_) rfl (by kernel_rfl) (by kernel_rfl) (by kernel_rfl) (by kernel_rfl) (fun _ _ _ h => h) (Or.inl ⟨by rfl, ?_⟩) (by assumption) ?_
    rotate_left
    · (intro w hSw; (try dsimp only at hSw); go_simp; (try with_reducible rfl))
    (try simp only [Act.put, List.setIfInBounds_toArray, List.set_cons_zero, List.set_cons_succ])
    refine wpAnyT_take (i := 4) (oi := { dst := some 35, op := Op.load 26 (Operand.tmp 34), type := 26, pos := _, after := _, guard := none }) (v := ?_) rfl (by kernel_rfl) (by kernel_rfl) (by kernel_rfl) (by kernel_rfl) (fun _ _ _ h => h) (Or.inl ⟨by rfl, ?_⟩) (by assumption) ?_
    rotate_left
    · (intro w hSw; (try dsimp only at hSw); go_simp; (try with_reducible rfl))
    (try simp only [Act.put, List.setIfInBounds_toArray, List.set_cons_zero, List.set_cons_succ])
    refine wpAnyT_take (i := 5) (oi := { dst := some 36, op := Op.slice 26 (Operand.tmp 35) none (some (Operand.const (Value.int IntKind.i64 0))) none, type := 26, pos := _, after := _, guard := none }) (v := ?_) rfl (by kernel_rfl) (by kernel_rfl) (by kernel_rfl) (by kernel_rfl) (fun _ _ _ h => h) (Or.inl ⟨by rfl, ?_⟩) (by assumption) ?_
    rotate_left
    · (intro w hSw; (try dsimp only at hSw); go_simp; (try with_reducible rfl))
    (try simp only [Act.put, List.setIfInBounds_toArray, List.set_cons_zero, List.set_cons_succ])
    refine wpAnyT_take (i := 6) (oi := { dst := some 37, op := Op.move (Operand.tmp 0), type := 72, pos := _, after := _, guard := none }) (v := ?_) rfl (by kernel_rfl) (by kernel_rfl) (by kernel_rfl) (by kernel_rfl) (fun _ _ _ h => h) (Or.inl ⟨by rfl, ?_⟩) (by assumption) ?_
    rotate_left
    · (intro w hSw; (try dsimp only at hSw); go_simp; (try with_reducible rfl))
    (try simp only [Act.put, List.setIfInBounds_toArray, List.set_cons_zero, List.set_cons_succ])
    refine wpAnyT_take (i := 7) (oi := { dst := some 38, op := Op.nilCheck (Operand.tmp 37), type := 0, pos := _, after := _, guard := none }) (v := ?_) rfl (by kernel_rfl) (by kernel_rfl) (by kernel_rfl) (by kernel_rfl) (fun _ _ _ h => h) (Or.inl ⟨by rfl, ?_⟩) (by assumption) ?_
    rotate_left
    · (intro w hSw; (try dsimp only at hSw); go_simp; (try with_reducible rfl))
    (try simp only [Act.put, List.setIfInBounds_toArray, List.set_cons_zero, List.set_cons_succ])
    refine wpAnyT_take (i := 8) (oi := { dst := some 39, op := Op.fieldAddr 121 (Operand.tmp 38) 1, type := 0, pos := _, after := _, guard := none }) (v := ?_) rfl (by kernel_rfl) (by kernel_rfl) (by kernel_rfl) (by kernel_rfl) (fun _ _ _ h => h) (Or.inl ⟨by rfl, ?_⟩) (by assumption) ?_
    rotate_left
    · (intro w hSw; (try dsimp only at hSw); go_simp; (try with_reducible rfl))
    (try simp only [Act.put, List.setIfInBounds_toArray, List.set_cons_zero, List.set_cons_succ])
    refine wpAnyT_take (i := 9) (oi := { dst := some 40, op := Op.load 26 (Operand.tmp 39), type := 26, pos := _, after := _, guard := none }) (v := ?_) rfl (by kernel_rfl) (by kernel_rfl) (by kernel_rfl) (by kernel_rfl) (fun _ _ _ h => h) (Or.inl ⟨by rfl, ?_⟩) (by assumption) ?_
    rotate_left
    · (intro w hSw; (try dsimp only at hSw); go_simp; (try with_reducible rfl))
    (try simp only [Act.put, List.setIfInBounds_toArray, List.set_cons_zero, List.set_cons_succ])
    refine wpAnyT_take (i := 10) (oi := { dst := some 41, op := Op.move (Operand.tmp 0), type := 72, pos := _, after := _, guard := none }) (v := ?_) rfl (by kernel_rfl) (by kernel_rfl) (by kernel_rfl) (by kernel_rfl) (fun _ _ _ h => h) (Or.inl ⟨by rfl, ?_⟩) (by assumption) ?_
    rotate_left
    · (intro w hSw; (try dsimp only at hSw); go_simp; (try with_reducible rfl))
    (try simp only [Act.put, List.setIfInBounds_toArray, List.set_cons_zero, List.set_cons_succ])
    refine wpAnyT_take (i := 11) (oi := { dst := some 42, op := Op.nilCheck (Operand.tmp 41), type := 0, pos := _, after := _, guard := none }) (v := ?_) rfl (by kernel_rfl) (by kernel_rfl) (by kernel_rfl) (by kernel_rfl) (fun _ _ _ h => h) (Or.inl ⟨by rfl, ?_⟩) (by assumption) ?_
    rotate_left
    · (intro w hSw; (try dsimp only at hSw); go_simp; (try with_reducible rfl))
    (try simp only [Act.put, List.setIfInBounds_toArray, List.set_cons_zero, List.set_cons_succ])
    refine wpAnyT_take (i := 12) (oi := { dst := some 43, op := Op.fieldAddr 121 (Operand.tmp 42) 2, type := 0, pos := _, after := _, guard := none }) (v := ?_) rfl (by kernel_rfl) (by kernel_rfl) (by kernel_rfl) (by kernel_rfl) (fun _ _ _ h => h) (Or.inl ⟨by rfl, ?_⟩) (by assumption) ?_
    rotate_left
    · (intro w hSw; (try dsimp only at hSw); go_simp; (try with_reducible rfl))
    (try simp only [Act.put, List.setIfInBounds_toArray, List.set_cons_zero, List.set_cons_succ])
    refine wpAnyT_take (i := 13) (oi := { dst := some 44, op := Op.load 3 (Operand.tmp 43), type := 3, pos := _, after := _, guard := none }) (v := ?_) rfl (by kernel_rfl) (by kernel_rfl) (by kernel_rfl) (by kernel_rfl) (fun _ _ _ h => h) (Or.inl ⟨by rfl, ?_⟩) (by assumption) ?_
    rotate_left
    · (intro w hSw; (try dsimp only at hSw); go_simp; (try with_reducible rfl))
    (try simp only [Act.put, List.setIfInBounds_toArray, List.set_cons_zero, List.set_cons_succ])
    refine wpAnyT_take (i := 14) (oi := { dst := some 45, op := Op.slice 26 (Operand.tmp 40) (some (Operand.tmp 44)) none none, type := 26, pos := _, after := _, guard := none }) (v := ?_) rfl (by kernel_rfl) (by kernel_rfl) (by kernel_rfl) (by kernel_rfl) (fun _ _ _ h => h) (Or.inl ⟨by rfl, ?_⟩) (by assumption) ?_
    rotate_left
    · (intro w hSw; (try dsimp only at hSw); go_simp; (try with_reducible rfl))
    (try simp only [Act.put, List.setIfInBounds_toArray, List.set_cons_zero, List.set_cons_succ])
    refine wpAnyT_one (i := 15) (o := { dst := some 46, op := Op.call { callee := Callee.builtin Builtin.append, args := #[Operand.tmp 36, Operand.tmp 45], argTypes := #[26, 26] }, type := 26, pos := _, after := _, guard := none }) (by kernel_rfl) rfl (fun K hK => ?_)
    refine step_append_b (L := []) (M := L.drop p) (by rfl) _ _ (by rfl) (by rfl) HROW.out HSZ.out HML.out ⟨k, p, none⟩ (nv - p) (cv - p) (by rfl) HMN.out HCL.out ?_
    intro v6 w6 hn6
    obtain ⟨a6, n6, c6, rfl, hnn⟩ := hn6.row.some_form
    obtain ⟨x0, x1, x2, x3, hN6⟩ := HMV.out _ _ hn6
    have y2 := HC2.out _ _ hn6
    have hS6 := And.intro x0 y2
    have HN6 := Lib.hid hN6
    clear hN6 hn6 hnn
    refine hK.out _ _ (fun _ => ?_) (fun hH1 => ?_)
    · (first | assumption | exact KU.out _ (by assumption) | exact KU.out _ (below_drewN (by assumption) 1))
    have hHeld1 := hH1 (by decide)
    clear hK K hH1
    (try simp only [Act.put, List.setIfInBounds_toArray, List.set_cons_zero, List.set_cons_succ])
    refine wpAnyT_one (i := 16) (o := { dst := some 47, op := Op.nilCheck (Operand.tmp 31), type := 0, pos := _, after := _, guard := none }) (by kernel_rfl) rfl (fun K hK => ?_)
    go_simp
    refine hK.out _ _ (fun _ => ?_) (fun hH2 => ?_)
    · (first | assumption | exact KU.out _ (by assumption) | exact KU.out _ (below_drewN (by assumption) 1))
    have hHeld2 := hH2 (by decide)
    clear hK K hH2
    (try simp only [Act.put, List.setIfInBounds_toArray, List.set_cons_zero, List.set_cons_succ])
    refine wpAnyT_one (i := 17) (o := { dst := some 48, op := Op.fieldAddr 121 (Operand.tmp 47) 1, type := 0, pos := _, after := _, guard := none }) (by kernel_rfl) rfl (fun K hK => ?_)
    go_simp
    refine hK.out _ _ (fun _ => ?_) (fun hH3 => ?_)
    · (first | assumption | exact KU.out _ (by assumption) | exact KU.out _ (below_drewN (by assumption) 1))
    have hHeld3 := hH3 (by decide)
    clear hK K hH3
    (try simp only [Act.put, List.setIfInBounds_toArray, List.set_cons_zero, List.set_cons_succ])
    refine wpAnyT_one (i := 18) (o := { dst := none, op := Op.store 26 (Operand.tmp 48) (Operand.tmp 46), type := 0, pos := _, after := _, guard := none }) (by kernel_rfl) rfl (fun K hK => ?_)
    go_simp
    refine hK.out _ _ (fun h => absurd rfl h) (fun _ => ?_)
    clear hK K
    (try simp only [Act.put, List.setIfInBounds_toArray, List.set_cons_zero, List.set_cons_succ])
    refine wpAnyT_done (by kernel_rfl) ?_ _
    have HO7 := Lib.hid HN6.out.obj
    have y6 := (HN6.out.obj.nil_err h0).cell 1
    go_wp2_with (at_builtin; go_must (refine append_text rfl _ _ rfl HO7.out.row HO7.out.size rfl s rfl ?c2 ?_))
    case c2 => have := HNV.out; have := HS.out; rw [List.length_drop]; omega
    intro v1 w2 hn2
    obtain ⟨a1, n1, c1, rfl, hnn⟩ := hn2.row.some_form
    obtain ⟨y7, y8, hN⟩ := HO7.out.appended h0 hn2
    have HN := Lib.hid ((HN6.out.trans hN).pre HB5.out)
    have HLE := Lib.hid (show (L.drop p ++ s.data.toList).length ≤ L.length + s.size by rw [List.length_append, List.length_drop, bLen]; omega)
    clear hN hn2 hnn
    go_wp2
    exact bodyPost_end (v := .tuple #[]) (by simp [results, Tryd.results38, go_sem]) rfl ⟨rfl, _, _, _, HN.out, by have := HLE.out; exact this⟩
  · have hm' : (p : Int) ≤ (nv : Int) / 2 := by omega
    clear hm
    go_enter Tryd.func38, Tryd.ntmps38
    go_wp2_with fail
    go_quiet (fail)
    generalize hw5 : World.drewN _ _ = w5
    have hb5 : Below w.heap.size w w5 := by rw [← hw5]; exact below_drewN (Below.refl _ _) _
    have HO5 := Lib.hid (HO.out _ hb5)
    have HB5 := Lib.hid hb5
    obtain ⟨d1, d2, d3⟩ := KT.out _ hb5
    clear hw5 hb5 c1 c2 c3 HO
    go_wp2_with (at_builtin; go_must (refine append_text rfl _ _ rfl HO5.out.row HO5.out.size rfl s rfl ?c2 ?_))
    case c2 => have := HNV.out; have := HS.out; omega
    intro v1 w2 hn2
    obtain ⟨a1, n1, c1, rfl, hnn⟩ := hn2.row.some_form
    obtain ⟨y0, y1, hN⟩ := HO5.out.appended h0 hn2
    have HN := Lib.hid (hN.pre HB5.out)
    have HLE := Lib.hid (show (L ++ s.data.toList).length ≤ L.length + s.size by rw [List.length_append, bLen]; exact Nat.le_refl _)
    clear hN hn2 hnn
    go_wp2
    exact bodyPost_end (v := .tuple #[]) (by simp [results, Tryd.results38, go_sem]) rfl ⟨rfl, _, _, _, HN.out, by have := HLE.out; exact this⟩
end
end Go.Proofs.YtfojoeafhdiaiaaDoor

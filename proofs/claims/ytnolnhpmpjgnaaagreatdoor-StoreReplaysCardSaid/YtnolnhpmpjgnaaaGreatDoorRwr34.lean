/- What is proved here: what is rewritten (the document's Rewrite). Conditions: few messages, whose parts fit. -/
import Derived.Test.YtnolnhpmpjgnaaaGreatDoorRwt34
import Derived.Test.YtnolnhpmpjgnaaaGreatDoorRpu34
import Derived.Test.YtnolnhpmpjgnaaaGreatDoorRrp34
import Derived.Test.YtnolnhpmpjgnaaaGreatDoorVcs34
namespace Go.Proofs.YtnolnhpmpjgnaaaGreatDoor
set_option maxRecDepth 100000
open Go.RowKit Go.Extern.Stop Go.Stop Go.Extern
theorem yo_ldx {P : Program} {ops : Array Oper} {op : Oper} {a : Act} {S : World → Prop} {t : TypeId} {z : Array Value} {g o : Nat} {c : Array Value} (hw : Region.wanted op (yielded ops a.tmps) = true) (hT : Ty P t z) (hc : c.size = z.size) (hS : ∀ W, S W → ∀ j u, c[j]? = some u → W.cell? ⟨g, o + j, none⟩ = some u) (x : Operand) (ho : op.op = .load t x) (hx : a.eval x = .pointer (some ⟨g, o, none⟩)) : YieldsIf P ops S op (.agg c) a :=
  .inl ⟨hw, fun w hw' => by
    obtain ⟨d, hu, hd⟩ := hT.un
    have hl := run_loadVar_mid (P := P) w g o t c.toList d (fun j v hv => hS w hw' j v (by simpa using hv)) hu hd (by rw [Array.length_toList, hc]; exact hT.ip)
    rw [Array.toArray_toList] at hl
    unfold execOp
    simp only [ho, hx, Instr.loadAt, Instr.sureAddr, Sem.run_bind, Sem.run_pure, Result.andThen_ok, hl]⟩
/-- The fault's variable, and the records so far. -/
structure RwS (w W : World) (k7 : Nat) (v : Value) (R : List ByteArray) : Prop where
  own : ∃ c : Array Value, c.size = 3 ∧ Own [] w W [(k7, 34, c)]
  row : Row W w.heap.size v R
section
variable {w W W' : World} {k7 : Nat} {v : Value} {R : List ByteArray}
theorem RwS.bel (h : RwS w W k7 v R) : Below w.heap.size w W := by
  obtain ⟨c, _, hO⟩ := h.own
  exact hO.bel
theorem RwS.below (h : RwS w W k7 v R) (hb : Below W.heap.size W W') : RwS w W' k7 v R := by
  obtain ⟨c, hc, hO⟩ := h.own
  exact ⟨⟨c, hc, hO.below hb⟩, h.row.below hb⟩
theorem RwS.drew (h : RwS w W k7 v R) : RwS w W.drew k7 v R := h.below (below_drewN (Below.refl _ _) 1)
theorem row_kind {k : Nat} {t : TypeId} {cs : Array Value} (h : Row W w.heap.size v R) (hb : Blk W k t cs) (ht : t ≠ 9) : ∀ b, v.ownBlock = some b → b ∉ [k] := by
  intro b hb2 hm
  rw [List.mem_singleton] at hm
  subst hm
  rcases h.2 with ⟨rfl, _⟩ | ⟨gr, cap, cur, rfl, _, hh, _⟩
  · cases hb2
  · injection hb2 with hb2
    subst hb2
    exact hb.other hh ht rfl
theorem RwS.store (h : RwS w W k7 v R) {c : Array Value} (hc : c.size = 3) : RwS w (W.setRow k7 c) k7 v R ∧ Blk (W.setRow k7 c) k7 34 c := by
  obtain ⟨c0, hc0, hO⟩ := h.own
  have hb := hO.get 0 rfl
  have hO2 := hO.row 0 rfl c
  exact ⟨⟨⟨c, hc, hO2⟩, h.row.fr (fr_setRow W k7 c) (row_kind h.row hb (by decide))⟩, hO2.get 0 rfl⟩
theorem RwS.pushed {v' : Value} {R' : List ByteArray} (h : RwS w W k7 v R) (hf : Fr v.ownBlock.toList W W') (hb : Below w.heap.size w W') (hr : Row W' w.heap.size v' R') : RwS w W' k7 v' R' := by
  obtain ⟨c, hc, hO⟩ := h.own
  have hk := hO.get 0 rfl
  refine ⟨⟨c, hc, ⟨Fr.of_below hb, fun x hx => ?_, hO.new, hO.nd⟩⟩, hr⟩
  rw [List.mem_singleton] at hx
  subst hx
  refine hk.fr hf fun hm => ?_
  exact row_kind h.row hk (by decide) k7 (by simpa using hm) (List.mem_singleton_self _)
theorem append_rowF {ops : Array Oper} {rest : List Oper} {o : Oper} {a : Act} {Q : Exit → Act → World → Prop} {w0 : World} {M : List ByteArray} (hgd : o.guard = none) (s x : Operand) (ho : o.op = .call { callee := .builtin .append, args := #[s, x], argTypes := #[40, 40] })
    (hb : Below w0.heap.size w0 w) (ht : Row w w0.heap.size v R) (hs : a.eval s = v) (ad : Addr) (m c : Nat) (hx : a.eval x = .slice (some ad) m c) (hm : m = M.length) (hrd : SRd w (some ad) M) (hsm : R.length + M.length ≤ 1000)
    (h : ∀ v' w', Row w' w0.heap.size v' (R ++ M) → Below w0.heap.size w0 w' → Fr v.ownBlock.toList w w' → wpList Tryz.prog ops Q rest (a.put o.dst v') w') : wpList Tryz.prog ops Q (o :: rest) a w := by
  obtain ⟨i0, hi0, hz0, hz1, hz2⟩ := info_parts Tryz.strInfo
  subst hm
  refine wpList_append_own w hgd s x 40 ho w0.heap.size 9 i0 (.string ⟨#[]⟩) 1 16 Tryz.underlying40 hi0 hz0 hz1 hz2 rfl (by decide) v R.length (R.map Value.string) hs ht ad M.length c (M.map Value.string) hx (by rw [List.length_map, Nat.mul_one]) (srd_news hrd) (one_cells M) (by unfold maxLen; omega) (by omega) hb.size ?_
  intro v' w' ho' hg _
  refine h v' w' ?_ (row_grow hb ht hg) ((Fr.refl _ w).grown hg (fun k hk => .inl (own_listM.2 hk)))
  unfold Row
  rw [List.length_append, List.map_append]
  exact ho'
end
def snd1 (v : Value) : Value := match v with | .tuple vs => vs.getD 1 undef | _ => undef
set_option maxHeartbeats 16000000 in
theorem rrewrite_any {w : World} (Q : QL) (A : Option Addr) (n c : Nat) (last : Int) (hn : n = Q.length) (h : MRd w A Q) (hq : ∀ q ∈ Q, QSm w q) (hl : n ≤ 900) :
    Calls Tryz.prog 17 #[.slice A n c, .int .i64 last] w (RwSays w (rwF (Q.map QV.m) last)) := by
  have hsl : SmallO (opL last) := ⟨show slash.size ≤ 65535 by decide, show e0.size ≤ 65535 by decide, show e0.size ≤ 65535 by decide, show e0.size ≤ 65535 by decide, ⟨Nat.zero_le _, (fun p hp => by cases hp), fun k => by rw [show (opL last).m.props = [] from rfl, List.take_nil]; exact Nat.zero_le _⟩⟩
  have HPL := Lib.hid (fun W : World => rput34_any (w := W) (Bp := 0) (opL last) none 0 (Nat.zero_le _) (PIn.nil _ _ _) (Nat.le_refl _) hsl)
  have HPG := Lib.hid (fun (W : World) (hb : Below w.heap.size w W) (q : QV) (hm : q ∈ Q) => rput34_any (w := W) (opG q.m) q.pa q.pc hb.size ((hq q hm).1.below hb) (hq q hm).2.1 (hq q hm).2.2)
  rw [show (opL last).agg none 0 = .agg #[.int .i64 3, .string ⟨#[47]⟩, .int .i64 last, .string ⟨#[]⟩, .string ⟨#[]⟩, .int .i64 0, .bool false, .slice none 0 0, .string ⟨#[]⟩, .int .i64 0, .int .i64 0, .string ⟨#[]⟩] from rfl] at HPL
  obtain ⟨R0, hR0⟩ : ∃ R, R = rwP (opL last) := ⟨_, rfl⟩
  have hst : rwF ((Q.map QV.m).take 0) last = R0 := by rw [hR0]; simp [rwF]
  have hr0 := hR0
  unfold rwP at hr0
  have HST := Lib.hid hst
  have HR0 := Lib.hid hr0
  have HL0 := Lib.hid (show R0.length ≤ 1 by rw [hR0]; exact rwP_len _)
  have HN := Lib.hid hn
  have HS := Lib.hid h
  have HO := Lib.hid (Own.start [] w)
  generalize ptF (opL last) = q at HPL HR0
  clear h hq hn hsl hR0 hst hr0
  go_enter Tryz.func17, Tryz.ntmps17
  go_wp2_with (first | (refine wpo_built (l := [(0, .int .i64 3), (1, .string ⟨#[47]⟩), (2, .int .i64 last)]) (c := #[.int .i64 3, .string ⟨#[47]⟩, .int .i64 last, .string ⟨#[]⟩, .string ⟨#[]⟩, .int .i64 0, .bool false, .slice none 0 0, .string ⟨#[]⟩, .int .i64 0, .int .i64 0, .string ⟨#[]⟩]) (by kernel_rfl) rfl rfl rfl ?_))
  refine (HPL.out _).mono ?_
  rintro x W1 ⟨no, fr, fa, rfl, hno, hb⟩
  have hO := HO.out.below hb
  have HNO := Lib.hid hno
  clear HO hb HPL hno
  have HO := Lib.hid hO
  clear hO
  go_upto_region 3 with (first
    | (refine wpo_alloc tyX HO.out rfl rfl ?_; clear HO; rintro k7 W2 hO; have HO := Lib.hid hO; clear hO; simp only [Act.put, List.setIfInBounds_toArray, List.set_cons_zero, List.set_cons_succ])
    | (refine wpo_store (k := k7) HO.out 0 tyX rfl _ _ rfl rfl rfl rfl rfl rfl rfl ?_; clear HO; rintro W3 hO; have HO := Lib.hid hO; clear hO; simp only [Act.put]))
  have e7 : W3.cell? ⟨k7, 0, none⟩ = some (.int .i64 (no : Int)) := (HO.out.get 0 rfl).cell 0
  have HB7 := Lib.hid (HO.out.get 0 rfl)
  by_cases h0 : no = 0
  case' pos =>
    subst h0
    have e70 : W3.cell? ⟨k7, 0, none⟩ = some (.int .i64 0) := e7
    rw [show ((0 : Nat) : Int) = 0 from rfl]
    have hx : R0 = [⟨q.L.toArray⟩] := by rw [HR0.out, if_pos HNO.out.symm]
    have hal : Below W3.heap.size W3 (W3.alloc (.cells #[.string ⟨q.L.toArray⟩] 9)) := (Below.refl _ _).alloc (Nat.le_refl _) _
    have HR1 := Lib.hid (show ∃ E : List ByteArray, E = [] ∧ RwS w (W3.alloc (.cells #[.string ⟨q.L.toArray⟩] 9)) k7 (.slice none 0 0) E from ⟨[], rfl, RwS.below ⟨⟨_, rfl, HO.out⟩, Row.nil _ _⟩ hal⟩)
    have HSR := Lib.hid (srd_one W3 ⟨q.L.toArray⟩)
    have HX := Lib.hid hx
    clear hal HR0 hx e7 HO HB7 HNO
    go_upto_region 4 with fail
    clear e70
    generalize hvn : Value.slice none 0 0 = vn at HR1 ⊢
    clear hvn
    obtain ⟨E, hE, hrw⟩ := HR1.out
    obtain ⟨a1, c1, rfl⟩ := hrw.row.form
    have hx := HX.out
    have HX2 := Lib.hid (show R0 = E ++ [⟨q.L.toArray⟩] by rw [hE]; exact hx)
    have HEL := Lib.hid (show E.length = 0 by rw [hE]; rfl)
    clear HR1 HX hx hE
    have HR1 := Lib.hid hrw
    clear hrw
    go_upto_region 5 with (first | (refine append_rowF (w0 := w) rfl _ _ rfl HR1.out.bel HR1.out.row rfl ⟨W3.heap.size, 0, none⟩ 1 1 rfl rfl HSR.out (by rw [HEL.out]; simp) ?_; intro v5 W5 hrow hbel hfr; have HV := Lib.hid (HR1.out.pushed hfr hbel hrow); clear hrow hbel hfr; simp only [Act.put, List.setIfInBounds_toArray, List.set_cons_zero, List.set_cons_succ]))
    have hv := HV.out
    rw [← HX2.out] at hv
    obtain ⟨a5, c5, rfl⟩ := hv.row.form
    clear HR1 HSR HX2 HEL HV
    have HV := Lib.hid hv
    clear hv
  case' neg =>
    have h0i : ((no : Int) == 0) = false := by simp; omega
    have hx : R0 = [] := by rw [HR0.out, if_neg (by have := HNO.out; omega)]
    have HV := Lib.hid (show RwS w W3 k7 (.slice none 0 0) R0 from ⟨⟨_, rfl, HO.out⟩, by rw [hx]; exact Row.nil _ _⟩)
    clear HR0 hx HO HB7 HNO h0
    go_upto_region 5 with fail
    clear e7 h0i
  all_goals
    go_wp2_with fail
    go_loopw [5, 8] (fun x z wr => ∃ k : Nat, ∃ R : List ByteArray, ∃ v : Value, k ≤ n ∧ z = .int .i64 k ∧ x = v ∧ rwF ((Q.map QV.m).take k) last = R ∧ R.length ≤ k + 1 ∧ RwS w wr k7 v R) (fun _ z _ => n - (intOf z).toNat)
    case atStart => exact ⟨0, R0, _, Nat.zero_le _, rfl, rfl, HST.out, HL0.out, HV.out⟩
    case round =>
      obtain ⟨k, R, v, hk, rfl, rfl, hR, hRl, hS⟩ := hrel
      by_cases hlt : k < n
      · have hkL : k < Q.length := by have := HN.out; omega
        obtain ⟨g, off, rfl, hc⟩ := HS.out (by omega)
        have hcq := fun (W : World) (hb : Below w.heap.size w W) => (hc k hkL).at (hb.block g (lt_of_cell' (hc k hkL).c0))
        have hnx := rwF_next Q last hkL
        rw [hR] at hnx
        have hmq := getD_memQ hkL
        generalize Q.getD k q0 = y at hcq hnx hmq
        have hpg2 := fun (W : World) (hb : Below w.heap.size w W) => HPG.out W hb y hmq
        have hrl := rwP_len (opG y.m)
        obtain ⟨R1, hR1⟩ : ∃ R1, R1 = rwP (opG y.m) := ⟨_, rfl⟩
        rw [← hR1] at hnx hrl
        unfold rwP at hR1
        generalize ptF (opG y.m) = q1 at hR1 hpg2
        obtain ⟨⟨m1, m2, m3, m4, m5, m6, m7, m8, m9⟩, Ap, cp⟩ := y
        obtain ⟨np, hnp⟩ : ∃ np, np = m5.length := ⟨_, rfl⟩
        have HCQ := Lib.hid (fun (W : World) (hb : Below w.heap.size w W) => show W.cell? ⟨g, off + k * 9, none⟩ = some (.string m1) ∧ W.cell? ⟨g, off + k * 9 + 1, none⟩ = some (.string m2) ∧ W.cell? ⟨g, off + k * 9 + 2, none⟩ = some (.int .i64 m3) ∧ W.cell? ⟨g, off + k * 9 + 3, none⟩ = some (.bool m4) ∧ W.cell? ⟨g, off + k * 9 + 4, none⟩ = some (.slice Ap np cp) ∧ W.cell? ⟨g, off + k * 9 + 5, none⟩ = some (.string m6) ∧ W.cell? ⟨g, off + k * 9 + 6, none⟩ = some (.int .i64 m7) ∧ W.cell? ⟨g, off + k * 9 + 7, none⟩ = some (.int .i64 m8) ∧ W.cell? ⟨g, off + k * 9 + 8, none⟩ = some (.string m9) from
          ⟨(hcq W hb).c0, (hcq W hb).c1, (hcq W hb).c2, (hcq W hb).c3, by rw [hnp]; exact (hcq W hb).c4, (hcq W hb).c5, (hcq W hb).c6, (hcq W hb).c7, (hcq W hb).c8⟩)
        have HCJ := Lib.hid (fun (W : World) (hb : Below w.heap.size w W) (j : Nat) (u : Value) (hu : (#[.string m1, .string m2, .int .i64 m3, .bool m4, .slice Ap np cp, .string m6, .int .i64 m7, .int .i64 m8, .string m9] : Array Value)[j]? = some u) => show W.cell? ⟨g, off + k * 9 + j, none⟩ = some u by
          obtain ⟨x0, x1, x2, x3, x4, x5, x6, x7, x8⟩ := HCQ.out W hb
          have hj : j < 9 := (Array.getElem?_eq_some_iff.1 hu).1
          match j, hj with
          | 0, _ => exact x0.trans hu
          | 1, _ => exact x1.trans hu
          | 2, _ => exact x2.trans hu
          | 3, _ => exact x3.trans hu
          | 4, _ => exact x4.trans hu
          | 5, _ => exact x5.trans hu
          | 6, _ => exact x6.trans hu
          | 7, _ => exact x7.trans hu
          | 8, _ => exact x8.trans hu)
        have HP := Lib.hid (fun (W : World) (hb : Below w.heap.size w W) => show Calls Tryz.prog 40 #[.agg #[.int .i64 1, .string m9, .int .i64 m8, .string m1, .string m2, .int .i64 m3, .bool m4, .slice Ap np cp, .string m6, .int .i64 m7, .int .i64 m8, .string m9]] W (RPtSays W q1) by
          rw [hnp]
          exact hpg2 W hb)
        obtain ⟨av, cv, rfl⟩ := hS.row.form
        have HSS := Lib.hid hS
        have HNX := Lib.hid hnx
        have HR1 := Lib.hid hR1
        have HRL := Lib.hid hRl
        have hlt' : (k : Int) < (n : Int) := by omega
        have hk0 : (0 : Int) ≤ (k : Int) := by omega
        clear hcq hc hpg2 hnx hmq hR1 hnp hR hRl hrl hkL hS
        go_upto_region 8 with fail
        refine wp_vcs (S := fun W => RwS w W k7 (.slice av R.length cv) R) [(29, .slice (some ⟨g, off, none⟩) n c), (30, .int .i64 k), (31, .pointer (some ⟨g, off + k * 9, none⟩)), (32, .pointer (some ⟨g, off + k * 9 + 8, none⟩)), (33, .string m9), (34, .slice (some ⟨g, off, none⟩) n c), (35, .int .i64 k), (36, .pointer (some ⟨g, off + k * 9, none⟩)), (37, .pointer (some ⟨g, off + k * 9 + 7, none⟩)), (38, .int .i64 m8), (39, .slice (some ⟨g, off, none⟩) n c), (40, .int .i64 k), (41, .pointer (some ⟨g, off + k * 9, none⟩)), (42, .agg #[.string m1, .string m2, .int .i64 m3, .bool m4, .slice Ap np cp, .string m6, .int .i64 m7, .int .i64 m8, .string m9]), (43, .agg #[.int .i64 1, .string m9, .int .i64 m8, .string m1, .string m2, .int .i64 m3, .bool m4, .slice Ap np cp, .string m6, .int .i64 m7, .int .i64 m8, .string m9])]
          (fun v => [(28, v), (45, .string ⟨q1.L.toArray⟩), (46, snd1 v), (6, .string ⟨q1.L.toArray⟩)]) 4 44
          (fun v => ∃ no : Nat, ∃ r a : Int, no = q1.no ∧ v = .tuple #[.string ⟨q1.L.toArray⟩, .agg #[.int .i64 no, .int .i64 r, .int .i64 a]])
          (fun v W => ∃ c : Array Value, snd1 v = .agg c ∧ Blk W k7 34 c)
          mixed (by kernel_rfl) (fun _ _ => rfl) HSS.out.drew (fun _ _ _ _ _ h => h) ?_ rfl rfl ?_ ?_ rfl rfl ?_ ?_
        · clear HP HSS HNX HR1 HRL HV HPG HST HL0
          refine ⟨⟨_, rfl, rfl, Or.inl ⟨rfl, fun w' _ => ?_⟩⟩, ?_⟩
          · go_simp
          simp only [Act.put, List.setIfInBounds_toArray, List.set_cons_zero, List.set_cons_succ]
          refine ⟨⟨_, rfl, rfl, Or.inl ⟨rfl, fun w' _ => ?_⟩⟩, ?_⟩
          · go_simp
          simp only [Act.put, List.setIfInBounds_toArray, List.set_cons_zero, List.set_cons_succ]
          refine ⟨⟨_, rfl, rfl, Or.inl ⟨rfl, fun w' _ => ?_⟩⟩, ?_⟩
          · go_simp
          simp only [Act.put, List.setIfInBounds_toArray, List.set_cons_zero, List.set_cons_succ]
          refine ⟨⟨_, rfl, rfl, Or.inl ⟨rfl, fun w' _ => ?_⟩⟩, ?_⟩
          · go_simp
          simp only [Act.put, List.setIfInBounds_toArray, List.set_cons_zero, List.set_cons_succ]
          refine ⟨⟨_, rfl, rfl, Or.inl ⟨rfl, fun w' hS => ?_⟩⟩, ?_⟩
          · obtain ⟨x0, x1, x2, x3, x4, x5, x6, x7, x8⟩ := HCQ.out w' hS.bel
            clear hS
            go_simp
          simp only [Act.put, List.setIfInBounds_toArray, List.set_cons_zero, List.set_cons_succ]
          refine ⟨⟨_, rfl, rfl, Or.inl ⟨rfl, fun w' _ => ?_⟩⟩, ?_⟩
          · go_simp
          simp only [Act.put, List.setIfInBounds_toArray, List.set_cons_zero, List.set_cons_succ]
          refine ⟨⟨_, rfl, rfl, Or.inl ⟨rfl, fun w' _ => ?_⟩⟩, ?_⟩
          · go_simp
          simp only [Act.put, List.setIfInBounds_toArray, List.set_cons_zero, List.set_cons_succ]
          refine ⟨⟨_, rfl, rfl, Or.inl ⟨rfl, fun w' _ => ?_⟩⟩, ?_⟩
          · go_simp
          simp only [Act.put, List.setIfInBounds_toArray, List.set_cons_zero, List.set_cons_succ]
          refine ⟨⟨_, rfl, rfl, Or.inl ⟨rfl, fun w' _ => ?_⟩⟩, ?_⟩
          · go_simp
          simp only [Act.put, List.setIfInBounds_toArray, List.set_cons_zero, List.set_cons_succ]
          refine ⟨⟨_, rfl, rfl, Or.inl ⟨rfl, fun w' hS => ?_⟩⟩, ?_⟩
          · obtain ⟨x0, x1, x2, x3, x4, x5, x6, x7, x8⟩ := HCQ.out w' hS.bel
            clear hS
            go_simp
          simp only [Act.put, List.setIfInBounds_toArray, List.set_cons_zero, List.set_cons_succ]
          refine ⟨⟨_, rfl, rfl, Or.inl ⟨rfl, fun w' _ => ?_⟩⟩, ?_⟩
          · go_simp
          simp only [Act.put, List.setIfInBounds_toArray, List.set_cons_zero, List.set_cons_succ]
          refine ⟨⟨_, rfl, rfl, Or.inl ⟨rfl, fun w' _ => ?_⟩⟩, ?_⟩
          · go_simp
          simp only [Act.put, List.setIfInBounds_toArray, List.set_cons_zero, List.set_cons_succ]
          refine ⟨⟨_, rfl, rfl, Or.inl ⟨rfl, fun w' _ => ?_⟩⟩, ?_⟩
          · go_simp
          simp only [Act.put, List.setIfInBounds_toArray, List.set_cons_zero, List.set_cons_succ]
          refine ⟨⟨_, rfl, rfl, yo_ldx rfl tyM rfl (fun W hS j u hu => HCJ.out W hS.bel j u hu) _ rfl rfl⟩, ?_⟩
          simp only [Act.put, List.setIfInBounds_toArray, List.set_cons_zero, List.set_cons_succ]
          exact ⟨⟨_, rfl, rfl, yo_built rfl (l := [(0, .int .i64 1), (1, .string m9), (2, .int .i64 m8), (3, .agg #[.string m1, .string m2, .int .i64 m3, .bool m4, .slice Ap np cp, .string m6, .int .i64 m7, .int .i64 m8, .string m9])]) (by kernel_rfl) rfl rfl⟩, trivial⟩
        · intro w1 hs K hK
          have HK := Lib.hid hK
          have HD := Lib.hid (HP.out w1 hs.bel)
          have HSB := Lib.hid hs
          clear hK hs HCQ HCJ HSS HP HNX HR1 HRL HV HPG HST HL0
          simp only [putD, Act.put, List.setIfInBounds_toArray, List.set_cons_zero, List.set_cons_succ] at HK ⊢
          go_simp
          refine HD.out.mono ?_
          rintro x w2 ⟨no2, r2, a2, rfl, hno2, hb2⟩
          have HF := Lib.hid (HK.out _ w2 (HSB.out.below hb2) ⟨no2, r2, a2, hno2, rfl⟩)
          clear HK HSB HD hb2 hno2
          go_wp2_with fail
          exact HF.out
        · rintro v ⟨no2, r2, a2, hno2, rfl⟩
          clear HCQ HCJ HSS HP HNX HR1 HRL HV HPG HST HL0
          simp only [putD, Act.put, List.setIfInBounds_toArray, List.set_cons_zero, List.set_cons_succ]
          show Ylds _ _ _ _ [(28, _), (45, _), (46, .agg #[.int .i64 no2, .int .i64 r2, .int .i64 a2]), (6, _)] _
          refine ⟨⟨_, rfl, rfl, Or.inl ⟨rfl, fun w' _ => ?_⟩⟩, ?_⟩
          · go_simp
          simp only [Act.put, List.setIfInBounds_toArray, List.set_cons_zero, List.set_cons_succ]
          refine ⟨⟨_, rfl, rfl, Or.inl ⟨rfl, fun w' _ => ?_⟩⟩, ?_⟩
          · go_simp
          simp only [Act.put, List.setIfInBounds_toArray, List.set_cons_zero, List.set_cons_succ]
          refine ⟨⟨_, rfl, rfl, Or.inl ⟨rfl, fun w' _ => ?_⟩⟩, ?_⟩
          · go_simp
          simp only [Act.put, List.setIfInBounds_toArray, List.set_cons_zero, List.set_cons_succ]
          refine ⟨⟨_, rfl, rfl, Or.inl ⟨rfl, fun w' _ => ?_⟩⟩, trivial⟩
          go_simp
        · rintro v ⟨no2, r2, a2, hno2, rfl⟩ w2 hs
          obtain ⟨h3, hb3⟩ := hs.store (c := #[.int .i64 no2, .int .i64 r2, .int .i64 a2]) rfl
          have hsn : snd1 (.tuple #[.string ⟨q1.L.toArray⟩, .agg #[.int .i64 no2, .int .i64 r2, .int .i64 a2]]) = .agg #[.int .i64 no2, .int .i64 r2, .int .i64 a2] := rfl
          refine Exists.intro (w2.setRow k7 #[.int .i64 no2, .int .i64 r2, .int .i64 a2]) ?_
          refine And.intro h3 ?_
          refine And.intro (Exists.intro #[.int .i64 no2, .int .i64 r2, .int .i64 a2] (And.intro hsn hb3)) ?_
          obtain ⟨c0, hc0, hO⟩ := hs.own
          have hb0 := hO.get 0 rfl
          clear hs h3 hb3 hO HCQ HCJ HSS HP HNX HR1 HRL HV HPG HST HL0
          simp only [putD, Act.put, List.setIfInBounds_toArray, List.set_cons_zero, List.set_cons_succ]
          exact stoAt_row tyX hb0 _ _ rfl rfl rfl hsn hc0 rfl rfl
        · rintro v W4 ⟨no2, r2, a2, hno2, rfl⟩ hs ⟨c', hc', hb'⟩
          obtain rfl : #[.int .i64 no2, .int .i64 r2, .int .i64 a2] = c' := by injection hc'
          have e7 : W4.cell? ⟨k7, 0, none⟩ = some (.int .i64 (no2 : Int)) := hb'.cell 0
          have HSB := Lib.hid hs
          have HN2 := Lib.hid hno2
          clear hs hb' hc' hno2 HCQ HCJ HSS HP
          simp only [putD, Act.put, List.setIfInBounds_toArray, List.set_cons_zero, List.set_cons_succ]
          by_cases h0 : no2 = 0
          · subst h0
            have e70 : W4.cell? ⟨k7, 0, none⟩ = some (.int .i64 0) := e7
            have hx : R1 = [⟨q1.L.toArray⟩] := by rw [HR1.out, if_pos HN2.out.symm]
            have HX := Lib.hid (show rwF ((Q.map QV.m).take (k + 1)) last = R ++ [⟨q1.L.toArray⟩] by rw [HNX.out, hx])
            have hal : Below W4.heap.size W4 (W4.alloc (.cells #[.string ⟨q1.L.toArray⟩] 9)) := (Below.refl _ _).alloc (Nat.le_refl _) _
            have HRR := Lib.hid (HSB.out.below hal)
            have HSR := Lib.hid (srd_one W4 ⟨q1.L.toArray⟩)
            clear hal hx e7 HSB HN2 HR1 HNX
            go_upto_region 10 with fail
            clear e70
            go_wp2_with (first | (refine append_rowF (w0 := w) rfl _ _ rfl HRR.out.bel HRR.out.row rfl ⟨W4.heap.size, 0, none⟩ 1 1 rfl rfl HSR.out (by have := HRL.out; have := HN.out; simp; omega) ?_; intro v5 W5 hrow hbel hfr; have HV2 := Lib.hid (HRR.out.pushed hfr hbel hrow); clear hrow hbel hfr; simp only [Act.put, List.setIfInBounds_toArray, List.set_cons_zero, List.set_cons_succ]))
            obtain ⟨a5, c5, rfl⟩ := HV2.out.row.form
            clear HRR HSR
            go_roundw
            case rel => exact ⟨k + 1, R ++ [⟨q1.L.toArray⟩], _, hlt, by go_num, rfl, HX.out, by have := HRL.out; simp; omega, HV2.out⟩
            case measure => simp [intOf]; omega
          · have h0i : ¬ (no2 : Int) = 0 := by omega
            have hx : R1 = [] := by rw [HR1.out, if_neg (by have := HN2.out; omega)]
            have HX := Lib.hid (show rwF ((Q.map QV.m).take (k + 1)) last = R by rw [HNX.out, hx, List.append_nil])
            clear h0 HR1 hx HNX HN2
            go_wp2_with fail
            clear e7 h0i
            go_roundw
            case rel => exact ⟨k + 1, R, _, hlt, by go_num, rfl, HX.out, by have := HRL.out; omega, HSB.out⟩
            case measure => simp [intOf]; omega
      · obtain rfl : k = n := by omega
        have hfull : (Q.map QV.m).take k = Q.map QV.m := List.take_of_length_le (by rw [List.length_map, HN.out]; exact Nat.le_refl _)
        rw [hfull] at hR
        obtain ⟨av, cv, rfl⟩ := hS.row.form
        have HR := Lib.hid hR
        have HRW := Lib.hid hS
        clear hR hS hfull hRl hlt hk
        go_wp2_with fail
        go_ret
        have hR := HR.out
        have hrow := HRW.out
        clear HR HRW
        subst hR
        exact ⟨av, cv, rfl, hrow.row, hrow.bel⟩
end Go.Proofs.YtnolnhpmpjgnaaaGreatDoor

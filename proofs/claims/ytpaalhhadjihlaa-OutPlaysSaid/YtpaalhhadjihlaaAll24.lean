/- What is proved here: all messages under way. Conditions: few messages. -/
import Derived.Test.YtpaalhhadjihlaaAga24
import Derived.Test.YtpaalhhadjihlaaFlr24
import Derived.Test.YtpaalhhadjihlaaOpg24
import Derived.Deep.MidRow
namespace Go.Proofs.Ytpaalhhadjihlaa
open Go.RowKit Go.Extern.Stop Go.Stop Go.Extern Go.Maps Go.Deep
set_option maxRecDepth 100000
def putN (c : Array Value) (o : Nat) : List Value → Array Value
  | [] => c
  | u :: r => putN (c.setIfInBounds o u) (o + 1) r
theorem Own.cellsN {X : List Nat} {w0 : World} {i k : Nat} {t : TypeId} : ∀ (us : List Value) {w : World} {M : OL} {old : Array Value} (_ : Own X w0 w M) (_ : M[i]? = some (k, t, old)) (o : Nat), Own X w0 (w.setCells k o us) (M.set i (k, t, putN old o us))
  | [], w, M, old, h, hi, o => by
    have e : M.set i (k, t, old) = M := List.ext_getElem? fun j => by
      by_cases hj : i = j
      · subst hj
        rw [List.getElem?_set_self (List.getElem?_eq_some_iff.1 hi).1, hi]
      · rw [List.getElem?_set_ne hj]
    show Own X w0 w (M.set i (k, t, old))
    rw [e]
    exact h
  | u :: r, w, M, old, h, hi, o => by
    have h1 := h.cell i hi o u
    have h2 := Own.cellsN r h1 (by rw [List.getElem?_set_self (List.getElem?_eq_some_iff.1 hi).1]) (o + 1)
    rw [List.set_set] at h2
    exact h2
theorem fr_cells (k : Nat) : ∀ (us : List Value) (w : World) (o : Nat), Fr [k] w (w.setCells k o us)
  | [], w, _ => Fr.refl _ w
  | u :: r, w, o => ((Fr.refl [k] w).setCell (.inl (List.mem_singleton_self _)) u).trans (fr_cells k r (w.setCell ⟨k, o, none⟩ u) (o + 1)) fun _ hb _ => hb
section
variable {P : Program} {X : List Nat} {w0 w : World} {M : OL} {k : Nat} {t : TypeId} {old : Array Value} {ops : Array Oper} {rest : List Oper} {op : Oper} {a : Act} {Q : Exit → Act → World → Prop}
/-- A struct is stored within a block of one's own. -/
theorem wpo_mid (hO : Own X w0 w M) (i : Nat) (o : Nat) {tL : TypeId} {c : Array Value} (hI : (P.info? tL).map (·.size) = some c.size) (hi : M[i]? = some (k, t, old)) (x y : Operand) (hgd : op.guard = none) (ho : op.op = .store tL x y)
    (hx : a.eval x = .pointer (some ⟨k, o, none⟩)) (hy : a.eval y = .agg c) (hl : o + c.size ≤ old.size) (h1 : c.all (·.oneCell') = true)
    (h : ∀ W, Own X w0 W (M.set i (k, t, putN old o c.toList)) → Fr [k] w W → wpList P ops Q rest (a.put op.dst undef) W) : wpList P ops Q (op :: rest) a w :=
  wpList_store_mid hgd tL x y ho k o c hx hy (fun j hj => by
    refine ⟨?_, (hO.get i hi).frozen _⟩
    rw [(hO.get i hi).cell (o + j), Array.getElem?_eq_getElem (by omega)]
    rfl) hI h1 (h _ (Own.cellsN c.toList hO hi o) (fr_cells k _ w o))
theorem ipM : (Try.prog.info? 36).map (·.size) = some 9 := by kernel_rfl
theorem tyFl : Ty Try.prog 71 f0.gcells := ty_mk (n := 11) (by kernel_rfl) rfl Try.underlying71 rfl (by kernel_rfl) rfl
/-- A message under way is loaded without its place. -/
theorem wpo_ldg (hO : Own X w0 w M) (i : Nat) {ty : TypeId} {c : Array Value} (hi : M[i]? = some (k, ty, c)) (f : FV) (hq : ∀ j u, f.gcells[j]? = some u → c[0 + j]? = some u) (x : Operand) (hgd : op.guard = none) (ho : op.op = .load 71 x) (hx : a.eval x = .pointer (some ⟨k, 0, none⟩))
    (H : wpList Try.prog ops Q rest (a.put op.dst (.agg f.gcells)) w) : wpList Try.prog ops Q (op :: rest) a w :=
  wpList_plain hgd fun _ hK => by
    obtain ⟨d, hu, hd⟩ := tyFl.un
    have hl := run_loadVar_mid (P := Try.prog) w k 0 71 f.gcells.toList d (fun j v hv => by
      rw [(hO.get i hi).cell (0 + j)]
      exact hq j v (by simpa using hv)) hu hd tyFl.ip
    rw [Array.toArray_toList] at hl
    unfold Oper.wp execOp
    simp only [ho, hx, Instr.loadAt, Instr.sureAddr, Sem.run_bind, Sem.run_pure, Result.andThen_ok, hl]
    exact hK _ _ H
end
/-- What a message under way says. -/
def says24 (f : FV) : Int × Int × MV := (f.id, f.st, f.q.m)
def withQ (f : FV) (pa : Option Addr) (pc : Nat) : FV := ⟨f.id, f.st, ⟨f.q.m, pa, pc⟩, f.pl⟩
theorem fg_at (f : FV) : ∀ j u, f.gcells[j]? = some u → f.cells.toArray[0 + j]? = some u := by
  intro j u h
  have hj : j < 11 := (Array.getElem?_eq_some_iff.1 h).1
  rw [List.getElem?_toArray, Nat.zero_add]
  show ((f.gcells.toList ++ [.int .i64 f.pl]))[j]? = some u
  rw [List.getElem?_append_left (by exact hj), Array.getElem?_toList]
  exact h
theorem put_q (f : FV) (pa : Option Addr) (pc : Nat) : putN f.cells.toArray 2 (QV.cells ⟨f.q.m, pa, pc⟩).toArray.toList = (withQ f pa pc).cells.toArray := by kernel_rfl
def AllSays (w : World) (L : FL) (x : Ending) (w' : World) : Prop := ∃ v G, x = .returned v ∧ GRow w' w.heap.size v G ∧ G.map says24 = L.map says24 ∧ (∀ y ∈ G, PIn w' 0 y.q.pa y.q.m.props) ∧ Below w.heap.size w w'
set_option maxHeartbeats 4000000 in
theorem all_any {w : World} {g gp bp bm : Nat} {L : FL} {last sent : Nat} (h : OutI w g gp bp bm L last sent) :
    Calls Try.prog 18 #[.pointer (some ⟨g, 0, none⟩)] w (AllSays w L) := by
  have HI := Lib.hid (inorder_any h)
  have HP := Lib.hid h.props
  have HL := Lib.hid (Nat.le_trans h.len h.few)
  clear h
  go_enter Try.func18, Try.ntmps18
  go_wp2_with fail
  refine HI.out.mono ?_
  rintro e w1 ⟨v, rfl, hr, hb⟩
  obtain ⟨a0, c0, rfl⟩ := hr.form
  have HR := Lib.hid hr
  have HB := Lib.hid hb
  have HP1 := Lib.hid (HP.out.below hb)
  obtain ⟨n, hn⟩ : ∃ n, n = L.length := ⟨_, rfl⟩
  have HN := Lib.hid hn
  rw [← hn] at HR ⊢
  have hnm : n ≤ 1000 := by have := HL.out; omega
  clear hr hb HI HP hn
  go_wp2_with fail
  go_loopw [3, 9] (fun v i wr => ∃ (k : Nat) (M : FL), k ≤ n ∧ i = .int .i64 k ∧ GRow wr w1.heap.size v M ∧ Hid (M.map says24 = (L.map says24).take k) ∧ Hid (∀ y ∈ M, PIn wr 0 y.q.pa y.q.m.props) ∧ Hid (M.length = k) ∧ Below w1.heap.size w1 wr) (fun _ i _ => n - (intOf i).toNat)
  case atStart => exact ⟨0, [], by omega, rfl, World.ownsRow_nil _ _ _ _, Lib.hid rfl, Lib.hid (fun y hy => by cases hy), Lib.hid rfl, Below.refl _ _⟩
  case round =>
    obtain ⟨k, M, hk, rfl, hrow, HM, HPI, HLK, hbe⟩ := hrel
    obtain ⟨a, cc, rfl⟩ := hrow.form
    have HROW := Lib.hid hrow
    have HBE := Lib.hid hbe
    by_cases hlt : k < n
    · have HKL := Lib.hid (show k < L.length by have := HN.out; omega)
      obtain ⟨gr, rfl, hg, hcc⟩ := HR.out.cell (by have := HKL.out; omega)
      have HRR := Lib.hid (own_below HR.out hbe)
      have HTK := Lib.hid (ftake_at says24 HKL.out)
      have hpq := HP1.out _ (fmem HKL.out)
      have HO := Lib.hid (Own.start [] wr)
      obtain ⟨f, hf⟩ : ∃ f, f = L.getD k f0 := ⟨_, rfl⟩
      rw [← hf] at HTK hpq
      have HPQ := Lib.hid hpq
      have HS : Hid (f.cells.toArray.size = f0.cells.toArray.size ∧ f.cells.toArray.toList.all (·.oneCell') = true) := Lib.hid ⟨rfl, by rw [List.all_eq_true]; exact fun u hu => fv_one f u (by simpa using hu)⟩
      have HML := Lib.hid (show M.length ≤ 1000 by have := HLK.out; have := HKL.out; have := HL.out; omega)
      have HLD := Lib.hid (show (L.getD k f0).cells.toArray = f.cells.toArray from by rw [hf])
      have HQ := Lib.hid (fq_at f)
      have HPQ2 := Lib.hid (put_q f)
      have HSZ := Lib.hid (show f.cells.toArray.size = 12 from rfl)
      generalize f.cells.toArray = fc at *
      clear hrow hbe hcc hpq hg hf
      go_upto_region 5 with (first
        | (refine wpf_load HRR.out HKL.out _ rfl rfl rfl (by omega) ?_; rw [HLD.out]; simp only [Act.put, List.setIfInBounds_toArray, List.set_cons_zero, List.set_cons_succ])
        | (refine wpo_alloc tyFt HO.out rfl rfl ?_; clear HO; rintro k5 W2 hO; have HO := Lib.hid hO; clear hO; simp only [Act.put, List.setIfInBounds_toArray, List.set_cons_zero, List.set_cons_succ])
        | (refine wpo_store (k := k5) HO.out 0 tyFt rfl _ _ rfl rfl rfl rfl rfl HS.out.1 HS.out.2 ?_; clear HO; rintro W3 hO; have HO := Lib.hid hO; clear hO; simp only [Act.put]))
      have HPA := Lib.hid (copy_any (w := W3) f.q ((HPQ.out.1.below HBE.out).below HO.out.bel) HPQ.out.2)
      unfold QV.agg at HPA
      go_wp2_with (refine wpo_ldq HO.out 0 rfl f.q HQ.out _ rfl rfl rfl ?_; unfold QV.agg; simp only [Act.put, List.setIfInBounds_toArray, List.set_cons_zero, List.set_cons_succ])
      refine HPA.out.mono ?_
      rintro x w4 ⟨a4, c4, rfl, hp4, hb4⟩
      have HB := Lib.hid (HO.out.below hb4)
      have HPY := Lib.hid (hp4)
      clear HO hb4 hp4 HPA
      have HO := HB
      clear HB
      have HC9 := Lib.hid (show (QV.cells ⟨f.q.m, a4, c4⟩).toArray.size = 9 ∧ (QV.cells ⟨f.q.m, a4, c4⟩).toArray.all (·.oneCell') = true from ⟨rfl, by unfold QV.cells; simp [Value.oneCell']⟩)
      have HPUT := Lib.hid (HPQ2.out a4 c4)
      have HAG := Lib.hid (show (QV.agg ⟨f.q.m, a4, c4⟩) = .agg (QV.cells ⟨f.q.m, a4, c4⟩).toArray from rfl)
      rw [HAG.out]
      obtain ⟨qc, hqc⟩ : ∃ qc, qc = (QV.cells ⟨f.q.m, a4, c4⟩).toArray := ⟨_, rfl⟩
      rw [← hqc] at HC9 ⊢
      have HPT := Lib.hid (show putN fc 2 qc.toList = (withQ f a4 c4).cells.toArray from by rw [hqc]; exact HPUT.out)
      clear hqc HAG HPUT
      obtain ⟨y, hy⟩ : ∃ y : FV, y = withQ f a4 c4 := ⟨_, rfl⟩
      rw [← hy] at HPT
      have HGA := Lib.hid (show ∀ j u, y.gcells[j]? = some u → (putN fc 2 qc.toList)[0 + j]? = some u from by rw [HPT.out]; exact fg_at y)
      have HYP := Lib.hid (show PIn w4 0 y.q.pa y.q.m.props from by rw [hy]; exact HPY.out)
      have HT3 := Lib.hid (show (M ++ [y]).map says24 = (L.map says24).take (k + 1) from by rw [HTK.out, List.map_append, HM.out, hy]; rfl)
      have HYS := Lib.hid (show y.gcells.size = 11 from rfl)
      generalize hyc : y.gcells = yc at *
      have HYC := Lib.hid hyc
      generalize hpn : putN fc 2 qc.toList = pn at *
      have HPN := Lib.hid hpn
      clear hyc hpn hy
      go_upto_region 6 with (refine wpo_mid (k := k5) HO.out 0 2 (by rw [HC9.out.1]; exact ipM) rfl _ _ rfl rfl rfl rfl (by rw [HC9.out.1, HSZ.out]; decide) HC9.out.2 ?_; rw [HPN.out]; rintro w5 hO hf5; have HP5 := Lib.hid (show PIn w5 0 y.q.pa y.q.m.props from HYP.out.fr hf5 (fun b hb => by rw [List.mem_singleton] at hb; subst hb; exact ⟨Nat.zero_le _, notp (HO.out.get 0 rfl) (by decide)⟩)); clear HO; have HO := Lib.hid hO; clear hO hf5; simp only [Act.put])
      have HW := Lib.hid (show ∀ pc : Array Value, Below w5.heap.size w5 (w5.alloc (.cells pc 71)) from fun pc => (Below.refl _ _).alloc (Nat.le_refl _) _)
      have HB3 := Lib.hid (HBE.out.trans ((HO.out.bel.trans ((HW.out yc).mono HO.out.bel.size)).mono HBE.out.size))
      have HR3 := Lib.hid ((own_below HROW.out HO.out.bel : GRow w5 w1.heap.size _ M))
      have HP3 := Lib.hid (show ∀ z ∈ M ++ [y], PIn (w5.alloc (.cells yc 71)) 0 z.q.pa z.q.m.props from fun z hz => by
        rcases List.mem_append.1 hz with e | e
        · exact ((HPI.out z e).below HO.out.bel).below (HW.out _)
        · rw [List.mem_singleton] at e
          subst e
          exact HP5.out.below (HW.out _))
      have HR4 := Lib.hid (own_below HR3.out (HW.out yc))
      go_wp2_with (first
        | (refine wpo_ldg HO.out 0 rfl y (by rw [HYC.out]; exact HGA.out) _ rfl rfl rfl ?_; rw [HYC.out]; simp only [Act.put, List.setIfInBounds_toArray, List.set_cons_zero, List.set_cons_succ])
        | (refine wpg_slice1 HYS.out rfl _ rfl rfl ?_; simp only [Act.put, List.setIfInBounds_toArray, List.set_cons_zero, List.set_cons_succ])
        | (at_builtin; go_must (refine append_g rfl _ _ rfl y HB3.out HR4.out rfl HML.out ⟨w5.heap.size, 0, none⟩ 1 rfl (fun i hi => by rw [HYC.out]; exact news_g w5 yc i hi) ?_)))
      intro a7 c7 w7 hr7 hb7 hf7
      have HPI7 := Lib.hid (show ∀ z ∈ M ++ [y], PIn w7 0 z.q.pa z.q.m.props from fun z hz => grow_pin HR4.out hf7 (HP3.out z hz))
      have HR7 := Lib.hid hr7
      have HB7 := Lib.hid hb7
      clear hr7 hb7 hf7
      go_wp2_with fail
      go_roundw
      case rel => exact ⟨k + 1, M ++ [y], by omega, by go_num, HR7.out, HT3, HPI7, Lib.hid (by rw [List.length_append, HLK.out]; rfl), HB7.out⟩
      case measure => simp [intOf]; omega
    · have HE := Lib.hid (show AllSays w L (.returned (.slice a M.length cc)) wr from by
        have e := HM.out
        rw [List.take_of_length_le (by rw [List.length_map]; have := HN.out; omega)] at e
        refine ⟨_, M, rfl, ?_, e, HPI.out, HB.out.trans (hbe.mono HB.out.size)⟩
        rcases hrow.2 with h1 | ⟨g1, cap, cur, e, hB, h3⟩
        · exact ⟨hrow.1, .inl h1⟩
        · exact ⟨hrow.1, .inr ⟨g1, cap, cur, e, Nat.le_trans HB.out.size hB, h3⟩⟩)
      clear hrow hbe
      go_wp2_with fail
      go_ret
      exact HE.out
end Go.Proofs.Ytpaalhhadjihlaa

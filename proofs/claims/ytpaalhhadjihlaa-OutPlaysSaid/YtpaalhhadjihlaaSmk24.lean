/- What is proved here: rows of equal packets are the same to the document; a statement of values, one call and one value. Conditions: the rows stand where the slices say; few of them. -/
import Derived.Test.YtpaalhhadjihlaaSmf24
import Derived.Test.YtpaalhhadjihlaaPkr24
namespace Go.Proofs.Ytpaalhhadjihlaa
open Go.RowKit Go.Extern.Stop Go.Stop Go.Extern
set_option maxRecDepth 100000
def okV (ops : Array Oper) (n : Nat) : Bool :=
  okTk ops n && (ops.size == n + 2) && (Region.ready .any ops (lstN ops n) == [n]) && (Region.ready .any ops ((lstN ops n).setIfInBounds n true) == [n + 1]) && (Region.ready .any ops (((lstN ops n).setIfInBounds n true).setIfInBounds (n + 1) true) == [])
theorem wp_vcall {P : Program} {ops : Array Oper} {Q : Exit → Act → World → Prop} {a : Act} {w : World} {id : Nat} {o2 o3 : Oper} {S : World → Prop} {v2 v3 : Value} (vs : List (Nat × Value)) (hm : P.follows .mixedOrders = true) (hok : okV ops vs.length = true) (hS : S w.drew)
    (hQ : ∀ c a (d : Tmp) v w, Q (.panic c) (Act.put a (some d) v) w → Q (.panic c) a w) (hy : Ylds P ops S 0 vs a) (h2 : ops[vs.length]? = some o2) (h3 : ops[vs.length + 1]? = some o3) (g2 : o2.guard = none) (g3 : o3.guard = none)
    (C2 : ∀ w1, S w1 → ∀ K : Act → World → Prop, (∀ w2, S w2 → K ((putD vs a).put o2.dst v2) w2) → Oper.wp P o2 (putD vs a) w1 K Q)
    (C3 : ∀ w2 (K : Act → World → Prop), K (((putD vs a).put o2.dst v2).put o3.dst v3) w2 → Oper.wp P o3 ((putD vs a).put o2.dst v2) w2 K Q)
    (H : ∀ w2, S w2 → Q .normal (((putD vs a).put o2.dst v2).put o3.dst v3) w2) : (Code.region id ops true).wp P Q a w := by
  generalize hn : vs.length = n at *
  simp only [okV, Bool.and_eq_true, beq_iff_eq] at hok
  obtain ⟨⟨⟨⟨k1, k2⟩, k6⟩, k7⟩, k9⟩ := hok
  refine wp_region_held_drew (S := S) hm hS (fun hHeld => ?_)
  suffices h : wpAnyH P .any ops Q S 2 (lstN ops n) (putD vs a) w.drew by
    have T := takes (n := n) k1 hQ hHeld vs 0 a 2 (by omega) hy h
    rw [show 2 + vs.length = ops.size by omega] at T
    exact T
  refine wpAnyH_ready (rs := [n]) k6 (by simp) ?_
  refine AllReadyH.cons (o := o2) h2 (fun K hK => ?_) AllReadyH.nil
  simp only [Region.wanted, g2, if_true]
  refine C2 _ hS K (fun w2 hs2 => hK.out _ _ hs2 (fun _ => ?_))
  refine wpAnyH_ready (rs := [n + 1]) k7 (by simp) ?_
  refine AllReadyH.cons (o := o3) h3 (fun K hK => ?_) AllReadyH.nil
  simp only [Region.wanted, g3, if_true]
  refine C3 _ K (hK.out _ _ hs2 (fun _ => ?_))
  exact wpAnyH_done k9 (H _ hs2) _
theorem yo_ldk {ops : Array Oper} {op : Oper} {a : Act} {S : World → Prop} {g of : Nat} {c : Array Value} (hw : Region.wanted op (yielded ops a.tmps) = true) (hsz : c.size = 26) (hS : ∀ W, S W → ∀ j u, c[j]? = some u → W.cell? ⟨g, of + j, none⟩ = some u) (x : Operand) (ho : op.op = .load 49 x) (hx : a.eval x = .pointer (some ⟨g, of, none⟩)) : YieldsIf Try.prog ops S op (.agg c) a :=
  .inl ⟨hw, fun w hw' => by
    obtain ⟨d, hu, hd⟩ := tyPk.un
    have hl := run_loadVar_mid (P := Try.prog) w g of 49 c.toList d (fun j v hv => hS w hw' j v (by simpa using hv)) hu hd (by rw [Array.length_toList, hsz]; exact tyPk.ip)
    rw [Array.toArray_toList] at hl
    unfold execOp
    simp only [ho, hx, Instr.loadAt, Instr.sureAddr, Sem.run_bind, Sem.run_pure, Result.andThen_ok, hl]⟩
theorem fst_at {L L2 : KL} (h : L.map Prod.fst = L2.map Prod.fst) {k : Nat} (hk : k < L.length) : (L.getD k (pk0, pa0)).1 = (L2.getD k (pk0, pa0)).1 := by
  have hl : L.length = L2.length := by simpa using congrArg List.length h
  have h2 : (L.map Prod.fst)[k]? = (L2.map Prod.fst)[k]? := by rw [h]
  rw [List.getElem?_map, List.getElem?_map, List.getElem?_eq_getElem hk, List.getElem?_eq_getElem (hl ▸ hk)] at h2
  rw [List.getD_eq_getElem?_getD, List.getD_eq_getElem?_getD, List.getElem?_eq_getElem hk, List.getElem?_eq_getElem (hl ▸ hk)]
  exact Option.some.inj h2
theorem kmem {L : KL} {k : Nat} (hk : k < L.length) : L.getD k (pk0, pa0) ∈ L := by
  rw [List.getD_eq_getElem?_getD, List.getElem?_eq_getElem hk]
  exact List.getElem_mem hk
/-- A packet without subscriptions, of few parts. -/
def PkFew (p : Pk) : Prop := p.subs = [] ∧ p.props.length ≤ 1000 ∧ p.wProps.length ≤ 1000 ∧ p.filters.length ≤ 1000 ∧ p.codes.length ≤ 1000
set_option maxHeartbeats 4000000 in
theorem ksame_any {w : World} {B1 B2 C1 C2 n c c2 : Nat} {A A2 : Option Addr} {L L2 : KL} (h : KRow w C1 (.slice A n c) L) (h2 : KRow w C2 (.slice A2 n c2) L2) (hp : ∀ y ∈ L, PkI w B1 y.2 y.1 ∧ PkFew y.1) (hp2 : ∀ y ∈ L2, PkI w B2 y.2 y.1) (hm : L.map Prod.fst = L2.map Prod.fst) (hn : n = L.length) (hl : n ≤ 900) :
    Calls Try.prog 20 #[.slice A n c, .slice A2 n c2] w fun x w' => x = .returned (.bool true) ∧ Below w.heap.size w w' := by
  have hn2 : n = L2.length := hn.trans (by simpa using congrArg List.length hm)
  have HS := Lib.hid h
  have HS2 := Lib.hid h2
  have HP := Lib.hid hp
  have HP2 := Lib.hid hp2
  have HM := Lib.hid (fun k (hk : k < L.length) => fst_at hm hk)
  have HN := Lib.hid (And.intro hn hn2)
  clear h h2 hp hp2 hm hn hn2
  go_enter Try.func20, Try.ntmps20
  go_wp2_with fail
  go_loopw [5] (fun i wr => ∃ k : Nat, k ≤ n ∧ i = .int .i64 k ∧ Below w.heap.size w wr) (fun i _ => n - (intOf i).toNat)
  case atStart => exact ⟨0, by omega, rfl, Below.refl _ _⟩
  case round =>
    obtain ⟨k, hk, rfl, hbe⟩ := hrel
    by_cases hlt : k < n
    · have hkL : k < L.length := by have := HN.out.1; omega
      have hkL2 : k < L2.length := by have := HN.out.2; omega
      obtain ⟨g1, rfl, hg1, hc1⟩ := HS.out.cell (by omega)
      obtain ⟨g2, rfl, hg2, hc2⟩ := HS2.out.cell (by omega)
      have HC1 := Lib.hid (fun W (hb : Below w.heap.size w W) i (hi : i < 26) => (World.cell?_of_block (w := w) (w' := W) (a := ⟨g1, k * 26 + i, none⟩) (hb.block g1 hg1)).trans (hc1 k i hkL hi))
      have HC2 := Lib.hid (fun W (hb : Below w.heap.size w W) i (hi : i < 26) => (World.cell?_of_block (w := w) (w' := W) (a := ⟨g2, k * 26 + i, none⟩) (hb.block g2 hg2)).trans (hc2 k i hkL2 hi))
      have hab := HM.out k hkL
      have ha1 := HP.out _ (kmem hkL)
      have hb1 := HP2.out _ (kmem hkL2)
      obtain ⟨a, ha⟩ : ∃ a, a = L.getD k (pk0, pa0) := ⟨_, rfl⟩
      obtain ⟨b, hb⟩ : ∃ b, b = L2.getD k (pk0, pa0) := ⟨_, rfl⟩
      rw [← ha] at HC1 hab ha1
      rw [← hb] at HC2 hab hb1
      have D26 := Lib.hid (show ∀ W, Below w.heap.size w W → Calls Try.prog 37 #[.agg (a.1.cells a.2), .agg (b.1.cells b.2)] W fun x w' => x = .returned (.bool true) ∧ Below w.heap.size w w' from fun W hi => by
        have h1 := same08 (ha1.1.below hi) (show PkI W B2 b.2 a.1 from by rw [hab]; exact hb1.below hi) ha1.2.1 ha1.2.2.1 ha1.2.2.2.1 ha1.2.2.2.2.1 ha1.2.2.2.2.2
        unfold Pk.agg at h1
        rw [show b.1.cells b.2 = a.1.cells b.2 by rw [hab]]
        exact h1.mono fun x w' ⟨he, hb⟩ => show x = Ending.returned (.bool true) ∧ Below w.heap.size w w' from ⟨he, hi.trans (hb.mono hi.size)⟩)
      have HL1 := Lib.hid (show (a.1.cells a.2).size = 26 ∧ ∀ W, Below w.heap.size w W → ∀ j u, (a.1.cells a.2)[j]? = some u → W.cell? ⟨g1, k * 26 + j, none⟩ = some u from ⟨rfl, fun W hb j u hu => (HC1.out W hb j (Array.getElem?_eq_some_iff.1 hu).1).trans hu⟩)
      have HL2 := Lib.hid (show (b.1.cells b.2).size = 26 ∧ ∀ W, Below w.heap.size w W → ∀ j u, (b.1.cells b.2)[j]? = some u → W.cell? ⟨g2, k * 26 + j, none⟩ = some u from ⟨rfl, fun W hb j u hu => (HC2.out W hb j (Array.getElem?_eq_some_iff.1 hu).1).trans hu⟩)
      generalize a.1.cells a.2 = ca at *
      generalize b.1.cells b.2 = cb at *
      clear hc1 hc2 hkL hkL2 ha hb hab ha1 hb1 hg1 hg2 HC1 HC2
      have hk1 : (k : Int) < (n : Int) := by omega
      have hk0 : (0 : Int) ≤ (k : Int) := by omega
      go_upto_region 6 with fail
      refine wp_vcall (S := fun W => Below w.heap.size w W) (v2 := .bool true) (v3 := .bool false) [(23, .slice (some ⟨g1, 0, none⟩) n c), (24, .int .i64 k), (25, .pointer (some ⟨g1, k * 26, none⟩)), (26, .agg ca), (27, .slice (some ⟨g2, 0, none⟩) n c2), (28, .int .i64 k), (29, .pointer (some ⟨g2, k * 26, none⟩)), (30, .agg cb)] mixed (by kernel_rfl) (show Below w.heap.size w wr.drew from ⟨hbe.os, hbe.tape, hbe.output, hbe.size, hbe.block⟩) (fun _ _ _ _ _ h => h) ?_ rfl rfl rfl rfl ?_ ?_ ?_
      · refine ⟨⟨_, rfl, rfl, Or.inl ⟨rfl, fun w' _ => ?_⟩⟩, ?_⟩
        · go_simp
        simp only [Act.put, List.setIfInBounds_toArray, List.set_cons_zero, List.set_cons_succ]
        refine ⟨⟨_, rfl, rfl, Or.inl ⟨rfl, fun w' _ => ?_⟩⟩, ?_⟩
        · go_simp
        simp only [Act.put, List.setIfInBounds_toArray, List.set_cons_zero, List.set_cons_succ]
        refine ⟨⟨_, rfl, rfl, Or.inl ⟨rfl, fun w' _ => ?_⟩⟩, ?_⟩
        · go_simp
        simp only [Act.put, List.setIfInBounds_toArray, List.set_cons_zero, List.set_cons_succ]
        refine ⟨⟨_, rfl, rfl, yo_ldk rfl HL1.out.1 HL1.out.2 _ rfl rfl⟩, ?_⟩
        simp only [Act.put, List.setIfInBounds_toArray, List.set_cons_zero, List.set_cons_succ]
        refine ⟨⟨_, rfl, rfl, Or.inl ⟨rfl, fun w' _ => ?_⟩⟩, ?_⟩
        · go_simp
        simp only [Act.put, List.setIfInBounds_toArray, List.set_cons_zero, List.set_cons_succ]
        refine ⟨⟨_, rfl, rfl, Or.inl ⟨rfl, fun w' _ => ?_⟩⟩, ?_⟩
        · go_simp
        simp only [Act.put, List.setIfInBounds_toArray, List.set_cons_zero, List.set_cons_succ]
        refine ⟨⟨_, rfl, rfl, Or.inl ⟨rfl, fun w' _ => ?_⟩⟩, ?_⟩
        · go_simp
        simp only [Act.put, List.setIfInBounds_toArray, List.set_cons_zero, List.set_cons_succ]
        exact ⟨⟨_, rfl, rfl, yo_ldk rfl HL2.out.1 HL2.out.2 _ rfl rfl⟩, trivial⟩
      · intro w1 hs K hK
        have HK := Lib.hid hK
        have HD := Lib.hid (D26.out w1 hs)
        clear hK
        simp only [putD, Act.put, List.setIfInBounds_toArray, List.set_cons_zero, List.set_cons_succ] at HK ⊢
        go_simp
        refine HD.out.mono ?_
        rintro x w2 ⟨rfl, hb2⟩
        exact HK.out _ hb2
      · intro w2 K hK
        have HK := Lib.hid hK
        clear hK
        simp only [putD, Act.put, List.setIfInBounds_toArray, List.set_cons_zero, List.set_cons_succ] at HK ⊢
        go_simp
        exact HK.out
      · intro w2 hb2
        have HB2 := Lib.hid hb2
        simp only [putD, Act.put, List.setIfInBounds_toArray, List.set_cons_zero, List.set_cons_succ]
        clear hb2 hbe
        go_wp2_with fail
        go_roundw
        case rel => exact ⟨k + 1, by omega, by go_num, HB2.out⟩
        case measure => simp [intOf]; omega
    · have HBE := Lib.hid hbe
      clear hbe
      go_wp2_with fail
      go_ret
      exact ⟨rfl, HBE.out⟩
end Go.Proofs.Ytpaalhhadjihlaa

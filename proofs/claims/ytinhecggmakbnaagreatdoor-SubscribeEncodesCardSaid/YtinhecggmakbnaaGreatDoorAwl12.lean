/- What is proved here: a packet with subscriptions is the same as itself, wherever its lists stand, to the document's function. Conditions: its lists stand where it says, few of them. What is proved here: what the statements of layer 12 hold awake. Condition: what the rows list of the package's variables. -/
import Derived.Test.YtinhecggmakbnaaGreatDoorEnc12
import Derived.Test.YtinhecggmakbnaaGreatDoorBrr08
import Derived.Test.YtinhecggmakbnaaGreatDoorEnv
import Derived.Test.YtinhecggmakbnaaGreatDoorPkx08
namespace Go.Proofs.YtinhecggmakbnaaGreatDoor
set_option maxRecDepth 100000
open Go.ChangeShapes Go.WideShapes Go.RowKit Go.Deep Go.Extern.Stop Go.Stop Go.Extern
theorem ssame_any {w : World} {B B2 : Nat} {A A2 : Option Addr} {L : List SV} (h : CIn w B 55 A (L.flatMap SV.cells)) (h2 : CIn w B2 55 A2 (L.flatMap SV.cells)) (n c c2 : Nat) (hn : n = L.length) (hm : n ≤ 1000) : Calls Tryz.prog 89 #[.slice A n c, .slice A2 n c2] w fun x w' => x = .returned (.bool true) ∧ ∃ d : Nat, w' = w.drewN d := by
  by_cases hp : n = 0
  · subst hp
    clear h h2 hm hn
    go_enter Tryz.func89, Tryz.ntmps89
    go_wp2_with fail
    go_loop [5] (fun i => i = .int .i64 0) (fun _ => 0)
    case atStart => rfl
    case round =>
      subst hrel
      go_wp2_with fail
      go_ret
      exact ⟨rfl, 0, rfl⟩
  · have hl : 0 < (L.flatMap SV.cells).length := by rw [flat_len SV.cells 5 (fun _ => rfl)]; omega
    obtain ⟨g, off, rfl, hc, _⟩ := h hl
    obtain ⟨g2, off2, rfl, hc2, _⟩ := h2 hl
    have HC := Lib.hid hc
    have HC2 := Lib.hid hc2
    have HN := Lib.hid hn
    clear hc hc2 h h2 hn hl
    go_enter Tryz.func89, Tryz.ntmps89
    go_wp2_with fail
    go_loopw [5] (fun i wr => ∃ k d : Nat, k ≤ n ∧ i = .int .i64 k ∧ wr = w.drewN d) (fun i _ => n - (intOf i).toNat)
    case atStart => exact ⟨0, 0, by omega, rfl, rfl⟩
    case round =>
      obtain ⟨k, d, hk, rfl, hwr⟩ := hrel
      have HW := Lib.hid hwr
      by_cases hlt : k < n
      · obtain ⟨g0, g1, g2', g3, g4⟩ := sv_get L k (by have := HN.out; omega)
        have hcl : ∀ j u, (L.flatMap SV.cells)[j]? = some u → wr.cell? ⟨g, off + j, none⟩ = some u := fun j u hj => (World.cell?_of_block (w := w) (w' := wr) (a := ⟨g, off + j, none⟩) (by rw [hwr]; rfl)).trans (HC.out j u hj)
        have hcl2 : ∀ j u, (L.flatMap SV.cells)[j]? = some u → wr.cell? ⟨g2, off2 + j, none⟩ = some u := fun j u hj => (World.cell?_of_block (w := w) (w' := wr) (a := ⟨g2, off2 + j, none⟩) (by rw [hwr]; rfl)).trans (HC2.out j u hj)
        have a0 := hcl _ _ g0
        have a1 := hcl _ _ g1
        have a2 := hcl _ _ g2'
        have a3 := hcl _ _ g3
        have a4 := hcl _ _ g4
        have b0 := hcl2 _ _ g0
        have b1 := hcl2 _ _ g1
        have b2 := hcl2 _ _ g2'
        have b3 := hcl2 _ _ g3
        have b4 := hcl2 _ _ g4
        rw [← Nat.add_assoc] at a1 a2 a3 a4 b1 b2 b3 b4
        obtain ⟨p, hp'⟩ : ∃ p, p = L.getD k sv0 := ⟨_, rfl⟩
        rw [← hp'] at a0 a1 a2 a3 a4 b0 b1 b2 b3 b4
        clear hp' hwr g0 g1 g2' g3 g4 hcl hcl2
        go_wp2_with fail
        go_quiet (fail)
        go_wp2_with fail
        go_roundw
        case rel => exact ⟨k + 1, _, by omega, by go_num, drew_on HW.out _⟩
        case measure => simp [intOf]; omega
      · clear hwr
        go_wp2_with fail
        go_ret
        exact ⟨rfl, d, HW.out⟩
set_option maxHeartbeats 16000000 in
theorem same12 {w : World} {B B2 : Nat} {A A2 : PkA} {p : Pk} (h : PkIn w B A p) (h2 : PkIn w B2 A2 p) (hs : p.subs.length ≤ 1000) (hL : p.props.length ≤ 1000) (hM : p.wProps.length ≤ 1000) (hF : p.filters.length ≤ 1000) (hC : p.codes.length ≤ 1000) :
    Calls Tryz.prog 38 #[p.agg A, p.agg A2] w fun x w' => x = .returned (.bool true) ∧ Below w.heap.size w w' := by
  obtain ⟨kd, id, rs, L, cl, kp, ct, wh, wt, wp, wq, wr, M, hu, us, hp, ps, pr, tp, pl, qs, rt, dp, sb, fl, cd⟩ := p
  obtain ⟨xp, xpc, xw, xwc, xs, xsc, xf, xfc, xc, xcc⟩ := A
  obtain ⟨yp, ypc, yw, ywc, ys, ysc, yf, yfc, yc, ycc⟩ := A2
  simp only at hs hL hM hF hC
  obtain ⟨nL, hnL⟩ : ∃ n, n = L.length := ⟨_, rfl⟩
  obtain ⟨nM, hnM⟩ : ∃ n, n = M.length := ⟨_, rfl⟩
  obtain ⟨nF, hnF⟩ : ∃ n, n = fl.length := ⟨_, rfl⟩
  obtain ⟨nC, hnC⟩ : ∃ n, n = cd.length := ⟨_, rfl⟩
  obtain ⟨nS, hnS⟩ : ∃ n, n = sb.length := ⟨_, rfl⟩
  unfold Pk.agg Pk.cells
  dsimp only
  rw [← hnL, ← hnM, ← hnF, ← hnC, ← hnS]
  have b1 : Below w.heap.size w (w.alloc (.cells #[.int .i64 kd, .int .i64 id, .int .i64 rs, .slice xp nL xpc, .bool cl, .int .i64 kp, .string ct, .bool wh, .string wt, .string wp, .int .i64 wq, .bool wr, .slice xw nM xwc, .bool hu, .string us, .bool hp, .string ps, .bool pr, .string tp, .string pl, .int .i64 qs, .bool rt, .bool dp, .slice xs nS xsc, .slice xf nF xfc, .slice xc nC xcc] 29)) := (Below.refl _ _).alloc (Nat.le_refl _) _
  have b2 : Below (w.alloc (.cells #[.int .i64 kd, .int .i64 id, .int .i64 rs, .slice xp nL xpc, .bool cl, .int .i64 kp, .string ct, .bool wh, .string wt, .string wp, .int .i64 wq, .bool wr, .slice xw nM xwc, .bool hu, .string us, .bool hp, .string ps, .bool pr, .string tp, .string pl, .int .i64 qs, .bool rt, .bool dp, .slice xs nS xsc, .slice xf nF xfc, .slice xc nC xcc] 29)).heap.size (w.alloc (.cells #[.int .i64 kd, .int .i64 id, .int .i64 rs, .slice xp nL xpc, .bool cl, .int .i64 kp, .string ct, .bool wh, .string wt, .string wp, .int .i64 wq, .bool wr, .slice xw nM xwc, .bool hu, .string us, .bool hp, .string ps, .bool pr, .string tp, .string pl, .int .i64 qs, .bool rt, .bool dp, .slice xs nS xsc, .slice xf nF xfc, .slice xc nC xcc] 29)) ((w.alloc (.cells #[.int .i64 kd, .int .i64 id, .int .i64 rs, .slice xp nL xpc, .bool cl, .int .i64 kp, .string ct, .bool wh, .string wt, .string wp, .int .i64 wq, .bool wr, .slice xw nM xwc, .bool hu, .string us, .bool hp, .string ps, .bool pr, .string tp, .string pl, .int .i64 qs, .bool rt, .bool dp, .slice xs nS xsc, .slice xf nF xfc, .slice xc nC xcc] 29)).alloc (.cells #[.int .i64 kd, .int .i64 id, .int .i64 rs, .slice yp nL ypc, .bool cl, .int .i64 kp, .string ct, .bool wh, .string wt, .string wp, .int .i64 wq, .bool wr, .slice yw nM ywc, .bool hu, .string us, .bool hp, .string ps, .bool pr, .string tp, .string pl, .int .i64 qs, .bool rt, .bool dp, .slice ys nS ysc, .slice yf nF yfc, .slice yc nC ycc] 29)) := (Below.refl _ _).alloc (Nat.le_refl _) _
  have K1 := (Blk.made w 29 #[.int .i64 kd, .int .i64 id, .int .i64 rs, .slice xp nL xpc, .bool cl, .int .i64 kp, .string ct, .bool wh, .string wt, .string wp, .int .i64 wq, .bool wr, .slice xw nM xwc, .bool hu, .string us, .bool hp, .string ps, .bool pr, .string tp, .string pl, .int .i64 qs, .bool rt, .bool dp, .slice xs nS xsc, .slice xf nF xfc, .slice xc nC xcc]).below b2 (by rw [World.size_alloc]; omega)
  have K2 := Blk.made (w.alloc (.cells #[.int .i64 kd, .int .i64 id, .int .i64 rs, .slice xp nL xpc, .bool cl, .int .i64 kp, .string ct, .bool wh, .string wt, .string wp, .int .i64 wq, .bool wr, .slice xw nM xwc, .bool hu, .string us, .bool hp, .string ps, .bool pr, .string tp, .string pl, .int .i64 qs, .bool rt, .bool dp, .slice xs nS xsc, .slice xf nF xfc, .slice xc nC xcc] 29)) 29 #[.int .i64 kd, .int .i64 id, .int .i64 rs, .slice yp nL ypc, .bool cl, .int .i64 kp, .string ct, .bool wh, .string wt, .string wp, .int .i64 wq, .bool wr, .slice yw nM ywc, .bool hu, .string us, .bool hp, .string ps, .bool pr, .string tp, .string pl, .int .i64 qs, .bool rt, .bool dp, .slice ys nS ysc, .slice yf nF yfc, .slice yc nC ycc]
  rw [World.size_alloc] at K2
  have hb2 := b1.trans (b2.mono b1.size)
  have H1 := (h.below b1).below b2
  have H2 := (h2.below b1).below b2
  have HB2 := Lib.hid hb2
  have HS := Lib.hid (psame_any H1.pr H2.pr nL xpc ypc hnL (by omega))
  have HK1 := Lib.hid K1
  have HK2 := Lib.hid K2
  have HP1 := Lib.hid H1
  have HP2 := Lib.hid H2
  have HN := Lib.hid (And.intro hnL (And.intro hnM (And.intro hnF hnC)))
  have HM := Lib.hid hM
  have HF := Lib.hid hF
  have HC := Lib.hid hC
  have HSB := Lib.hid (And.intro hnS hs)
  clear b1 b2 K1 K2 hb2 H1 H2 h h2 hL hM hF hC hnL hnM hnF hnC hnS hs
  go_enter Tryz.func38, Tryz.ntmps38
  go_wp2_with fail
  refine HS.out.mono ?_
  rintro x w3 ⟨rfl, d, hd⟩
  have hb3 := below_drew hd
  have k1 := HK1.out.below hb3 HK1.out.lt
  have k2 := HK2.out.below hb3 HK2.out.lt
  have HQ1 := Lib.hid (HP1.out.below hb3)
  have HQ2 := Lib.hid (HP2.out.below hb3)
  have HB3 := Lib.hid (HB2.out.trans (hb3.mono HB2.out.size))
  have HWS := Lib.hid (wsame_any HQ1.out.wr HQ2.out.wr (by have := HM.out; omega) wh wt wp wq wr xwc ywc)
  rw [← HN.out.2.1] at HWS
  have HL1 := Lib.hid k1
  have HL2 := Lib.hid k2
  have c7 : w3.cell? ⟨w.heap.size, 7, none⟩ = some (.bool wh) := k1.cell 7
  have c8 : w3.cell? ⟨w.heap.size, 8, none⟩ = some (.string wt) := k1.cell 8
  have c9 : w3.cell? ⟨w.heap.size, 9, none⟩ = some (.string wp) := k1.cell 9
  have c10 : w3.cell? ⟨w.heap.size, 10, none⟩ = some (.int .i64 wq) := k1.cell 10
  have c11 : w3.cell? ⟨w.heap.size, 11, none⟩ = some (.bool wr) := k1.cell 11
  have c12 : w3.cell? ⟨w.heap.size, 12, none⟩ = some (.slice xw nM xwc) := k1.cell 12
  have d7 : w3.cell? ⟨w.heap.size + 1, 7, none⟩ = some (.bool wh) := k2.cell 7
  have d8 : w3.cell? ⟨w.heap.size + 1, 8, none⟩ = some (.string wt) := k2.cell 8
  have d9 : w3.cell? ⟨w.heap.size + 1, 9, none⟩ = some (.string wp) := k2.cell 9
  have d10 : w3.cell? ⟨w.heap.size + 1, 10, none⟩ = some (.int .i64 wq) := k2.cell 10
  have d11 : w3.cell? ⟨w.heap.size + 1, 11, none⟩ = some (.bool wr) := k2.cell 11
  have d12 : w3.cell? ⟨w.heap.size + 1, 12, none⟩ = some (.slice yw nM ywc) := k2.cell 12
  clear hd hb3 k1 k2 HS HK1 HK2 HP1 HP2 HB2
  go_wp2_with fail
  refine HWS.out.mono ?_
  rintro x w4 ⟨rfl, hb4⟩
  have k1 := HL1.out.below hb4 HL1.out.lt
  have k2 := HL2.out.below hb4 HL2.out.lt
  have HR1 := Lib.hid (HQ1.out.below hb4)
  have HR2 := Lib.hid (HQ2.out.below hb4)
  have HB4 := Lib.hid (HB3.out.trans (hb4.mono HB3.out.size))
  have e23 : w4.cell? ⟨w.heap.size, 23, none⟩ = some (.slice xs nS xsc) := k1.cell 23
  have f23 : w4.cell? ⟨w.heap.size + 1, 23, none⟩ = some (.slice ys nS ysc) := k2.cell 23
  have HSS := Lib.hid (ssame_any HR1.out.sb HR2.out.sb nS xsc ysc HSB.out.1 (by have := HSB.out.1; have := HSB.out.2; omega))
  have HM1 := Lib.hid k1
  have HM2 := Lib.hid k2
  clear c7 c8 c9 c10 c11 c12 d7 d8 d9 d10 d11 d12 hb4 k1 k2 HWS HL1 HL2 HQ1 HQ2 HB3
  go_wp2_with fail
  refine HSS.out.mono ?_
  rintro x w5 ⟨rfl, d5, hd5⟩
  have hb5 := below_drew hd5
  have k1 := HM1.out.below hb5 HM1.out.lt
  have k2 := HM2.out.below hb5 HM2.out.lt
  have HB5 := Lib.hid (HB4.out.trans (hb5.mono HB4.out.size))
  have HT1 := Lib.hid (HR1.out.below hb5)
  have HT2 := Lib.hid (HR2.out.below hb5)
  have e24 : w5.cell? ⟨w.heap.size, 24, none⟩ = some (.slice xf nF xfc) := k1.cell 24
  have f24 : w5.cell? ⟨w.heap.size + 1, 24, none⟩ = some (.slice yf nF yfc) := k2.cell 24
  have HT := Lib.hid (tsame_any HT1.out.fl HT2.out.fl nF xfc yfc HN.out.2.2.1 (by have := HN.out.2.2.1; have := HF.out; omega))
  have HN1 := Lib.hid k1
  have HN2 := Lib.hid k2
  clear e23 f23 hd5 hb5 k1 k2 HSS HM1 HM2 HR1 HR2 HB4
  go_wp2_with fail
  refine HT.out.mono ?_
  rintro x w6 ⟨rfl, d, hd⟩
  have hb6 := below_drew hd
  have k1 := HN1.out.below hb6 HN1.out.lt
  have k2 := HN2.out.below hb6 HN2.out.lt
  have HB6 := Lib.hid (HB5.out.trans (hb6.mono HB5.out.size))
  have e25 : w6.cell? ⟨w.heap.size, 25, none⟩ = some (.slice xc nC xcc) := k1.cell 25
  have f25 : w6.cell? ⟨w.heap.size + 1, 25, none⟩ = some (.slice yc nC ycc) := k2.cell 25
  have HI := Lib.hid (isame_any (HT1.out.below hb6).cd (HT2.out.below hb6).cd nC xcc ycc HN.out.2.2.2 (by have := HN.out.2.2.2; have := HC.out; omega))
  clear e24 f24 hd hb6 k1 k2 HT HN1 HN2 HT1 HT2 HB5
  go_wp2_with fail
  refine HI.out.mono ?_
  rintro x w7 ⟨rfl, d, hd⟩
  have HB7 := Lib.hid (HB6.out.trans ((below_drew hd).mono HB6.out.size))
  clear hd HI
  go_wp2_with fail
  go_ret
  exact ⟨rfl, HB7.out⟩
theorem same_ok12 {w : World} {B B2 : Nat} {A A2 : PkA} {p : Pk} (h : PkIn w B A p) (h2 : PkIn w B2 A2 p) (hk : SmO p) :
    Calls Tryz.prog 38 #[p.agg A, p.agg A2] w fun x w' => x = .returned (.bool true) ∧ Below w.heap.size w w' := same12 h h2 hk.sb hk.pr hk.wr hk.fl hk.cd
theorem smO_zero : SmO pk0 := ⟨Nat.zero_le _, Nat.zero_le _, Nat.zero_le _, Nat.zero_le _, Nat.zero_le _⟩
end Go.Proofs.YtinhecggmakbnaaGreatDoor
namespace Go.Proofs.YtinhecggmakbnaaGreatDoor
set_option maxRecDepth 100000
open Go.ChangeShapes Go.WideShapes Go.RowKit Go.Deep Go.Extern.Stop Go.Stop Go.Extern
def sAw12 : SV := ⟨⟨#[97, 47, 35]⟩, 1, true, false, 2⟩
def awS12 : Pk := pkS 8 7 [] [sAw12] [] []
def awT12 : Pk := pkS 9 1 [] [] [] [2]
theorem aw12_e : enS awS12 = ⟨e00, 130, ⟨#[0, 7, 0, 0, 3, 97, 47, 35, 37]⟩⟩ := by kernel_rfl
theorem aw12_d : dcS 130 ⟨#[0, 7, 0, 0, 3, 97, 47, 35, 37]⟩ = (e00, awS12) := by kernel_rfl
theorem aw12_h : dcS 144 ⟨#[0, 1, 0, 2]⟩ = (e00, awT12) := by kernel_rfl
theorem smS_aw : SmS awS12 := ⟨small_of8 (fun p hp => by cases hp) (by decide) (by decide), by decide, by decide, fun x hx => by obtain rfl := List.mem_singleton.mp (show x ∈ [sAw12] from hx); decide⟩
theorem okS_aw : SmO awS12 := ⟨by decide, Nat.zero_le _, Nat.zero_le _, Nat.zero_le _, Nat.zero_le _⟩
def paS (k : Nat) : PkA := ⟨none, 0, none, 0, some ⟨k, 0, none⟩, 1, none, 0, none, 0⟩
theorem pkS_in {w : World} {k : Nat} (h : Blk w k 55 #[.string ⟨#[97, 47, 35]⟩, .int .i64 1, .bool true, .bool false, .int .i64 2]) (B : Nat) : PkIn w B (paS k) awS12 := by
  refine ⟨PIn.nil _ _ _, Nat.zero_le _, PIn.nil _ _ _, Nat.zero_le _, ?_, CIn.nil _ _ _ _, CIn.nil _ _ _ _⟩
  intro _
  refine ⟨k, 0, rfl, fun j u hj => ?_, .inr ⟨_, h⟩⟩
  rw [Nat.zero_add]
  have hj' : ([Value.string ⟨#[97, 47, 35]⟩, .int .i64 1, .bool true, .bool false, .int .i64 2] : List Value)[j]? = some u := hj
  rw [← List.getElem?_toArray] at hj'
  exact (h.cell j).trans hj'
section
variable {w w' : World} {S : Nat → Addr}
set_option maxHeartbeats 8000000 in
theorem awake12 (hE : Env w S) : Calls Tryz.prog 23 #[] w fun x w' => x = .returned (.bool true) ∧ Below w.heap.size w w' := by
  have HE := Lib.hid hE
  obtain ⟨z, hz⟩ : ∃ z, z = pk0.cells pa0 := ⟨_, rfl⟩
  have HZ := Lib.hid hz
  have HZS := Lib.hid (show z.size = 26 by rw [hz]; rfl)
  obtain ⟨w0', hw0⟩ : ∃ W, W = w.alloc (.cells #[.string ⟨#[97, 47, 35]⟩, .int .i64 1, .bool true, .bool false, .int .i64 2] 55) := ⟨_, rfl⟩
  have b0 : Below w.heap.size w w0' := by rw [hw0]; exact (Below.refl _ _).alloc (Nat.le_refl _) _
  have rs : Blk w0' w.heap.size 55 #[.string ⟨#[97, 47, 35]⟩, .int .i64 1, .bool true, .bool false, .int .i64 2] := by rw [hw0]; exact Blk.made _ _ _
  have hs0 : w0'.heap.size = w.heap.size + 1 := by rw [hw0, World.size_alloc]
  obtain ⟨c1, hc1⟩ : ∃ c, c = awS12.cells (paS w.heap.size) := ⟨_, rfl⟩
  have HC1 := Lib.hid hc1
  have HS1 := Lib.hid (show c1.size = 26 by rw [hc1]; rfl)
  have HO1 := Lib.hid (show c1.all (·.oneCell') = true by rw [hc1]; exact pk_one _ _)
  obtain ⟨W1, hW1⟩ : ∃ W, W = w0'.alloc (.cells c1 29) := ⟨_, rfl⟩
  have b01 : Below w0'.heap.size w0' W1 := by rw [hW1]; exact (Below.refl _ _).alloc (Nat.le_refl _) _
  have b1 := b0.trans (b01.mono b0.size)
  have RS := Lib.hid (rs.below b01 rs.lt)
  have hen := enc12 (p := awS12) (A := paS w.heap.size) (hE.later b1) (pkS_in RS.out _) smS_aw
  rw [aw12_e, show awS12.agg (paS w.heap.size) = .agg c1 from by rw [hc1]; rfl] at hen
  have HEN := Lib.hid hen
  have HB1 := Lib.hid b1
  have HW1 := Lib.hid hW1
  have K1 := Lib.hid (show Blk W1 (w.heap.size + 1) 29 c1 from by rw [hW1, ← hs0]; exact Blk.made w0' 29 c1)
  rw [hw0] at HW1
  have HL1 := Lib.hid (show Blk ((w.alloc (.cells #[.string ⟨#[97, 47, 35]⟩, .int .i64 1, .bool true, .bool false, .int .i64 2] 55)).alloc (.cells c1 29)) (w.heap.size + 1) 29 c1 from by rw [← HW1.out]; exact K1.out)
  have HL2 := Lib.hid (show Blk ((w.alloc (.cells #[.string ⟨#[97, 47, 35]⟩, .int .i64 1, .bool true, .bool false, .int .i64 2] 55)).alloc (.cells c1 29)) (w.alloc (.cells #[.string ⟨#[97, 47, 35]⟩, .int .i64 1, .bool true, .bool false, .int .i64 2] 55)).heap.size 29 c1 from by rw [World.size_alloc]; exact HL1.out)
  clear hE hz hc1 b0 rs hs0 b01 b1 hen hW1 hw0
  go_enter Tryz.func23, Tryz.ntmps23
  go_wp2_with (first | refine wpk_alloc HZ.out rfl rfl ?_ | refine wpk_store_new HZS.out (c := c1) HS1.out HO1.out _ _ rfl rfl rfl (by rw [HC1.out]; rfl) ?_ | refine wpk_load HL1.out HS1.out _ rfl rfl rfl ?_ | refine wpk_load HL2.out HS1.out _ rfl rfl rfl ?_)
  rw [← HW1.out]
  refine HEN.out.mono ?_
  rintro x w2 ⟨e2, rfl, he2, hb2⟩
  obtain rfl := err_zero8 he2 rfl
  simp only
  obtain ⟨W2, hW2⟩ : ∃ W, W = w2.alloc (.cells #[.int .i64 130, .string ⟨#[0, 7, 0, 0, 3, 97, 47, 35, 37]⟩] 33) := ⟨_, rfl⟩
  have hb2' : Below w2.heap.size w2 W2 := by rw [hW2]; exact (Below.refl _ _).alloc (Nat.le_refl _) _
  have HB2 := Lib.hid ((HB1.out.trans (hb2.mono HB1.out.size)).trans (hb2'.mono (HB1.out.trans (hb2.mono HB1.out.size)).size))
  have K12 := Lib.hid ((K1.out.below hb2 K1.out.lt).below hb2' (K1.out.below hb2 K1.out.lt).lt)
  have K22 := Lib.hid (show Blk W2 w2.heap.size 33 #[.int .i64 130, .string ⟨#[0, 7, 0, 0, 3, 97, 47, 35, 37]⟩] from by rw [hW2]; exact Blk.made _ _ _)
  have RS2 := Lib.hid ((RS.out.below hb2 RS.out.lt).below hb2' (RS.out.below hb2 RS.out.lt).lt)
  have hde := dec12 (HE.out.later HB2.out) (s := ⟨#[0, 7, 0, 0, 3, 97, 47, 35, 37]⟩) 130 (by decide)
  rw [aw12_d] at hde
  have HDE := Lib.hid hde
  have HW2 := Lib.hid hW2
  clear hb2 hb2' hde hW2 HEN HB1 K1
  go_wp2_with fail
  rw [← HW2.out]
  refine HDE.out.mono ?_
  rintro x w3 ⟨A3, e3, rfl, hp3, he3, hb3⟩
  obtain rfl := err_zero8 he3 rfl
  simp only at hp3 ⊢
  obtain ⟨c3, hc3⟩ : ∃ c, c = awS12.cells A3 := ⟨_, rfl⟩
  rw [show awS12.agg A3 = .agg c3 from by rw [hc3]; rfl]
  have HC3 := Lib.hid hc3
  have HS3 := Lib.hid (show c3.size = 26 by rw [hc3]; rfl)
  have HO3 := Lib.hid (show c3.all (·.oneCell') = true by rw [hc3]; exact pk_one _ _)
  obtain ⟨W3, hW3⟩ : ∃ W, W = w3.alloc (.cells c3 29) := ⟨_, rfl⟩
  have hb3' : Below w3.heap.size w3 W3 := by rw [hW3]; exact (Below.refl _ _).alloc (Nat.le_refl _) _
  have HB3 := Lib.hid ((HB2.out.trans (hb3.mono HB2.out.size)).trans (hb3'.mono (HB2.out.trans (hb3.mono HB2.out.size)).size))
  have K13 := Lib.hid ((K12.out.below hb3 K12.out.lt).below hb3' (K12.out.below hb3 K12.out.lt).lt)
  have K23 := Lib.hid ((K22.out.below hb3 K22.out.lt).below hb3' (K22.out.below hb3 K22.out.lt).lt)
  have K33 := Lib.hid (show Blk W3 w3.heap.size 29 c3 from by rw [hW3]; exact Blk.made _ _ _)
  have P3 := Lib.hid (hp3.below hb3')
  have RS3 := Lib.hid ((RS2.out.below hb3 RS2.out.lt).below hb3' (RS2.out.below hb3 RS2.out.lt).lt)
  have hde := dec12 (HE.out.later HB3.out) (s := ⟨#[0, 1, 0, 2]⟩) 144 (by decide)
  rw [aw12_h] at hde
  have HDE := Lib.hid hde
  have HW3 := Lib.hid hW3
  clear hb3 hb3' hde hW3 hp3 HB2 K12 K22 hc3
  go_wp2_with (first | refine wpk_alloc HZ.out rfl rfl ?_ | refine wpk_store_new HZS.out (c := c3) HS3.out HO3.out _ _ rfl rfl rfl rfl ?_)
  rw [← HW3.out]
  refine HDE.out.mono ?_
  rintro x w5 ⟨A5, e5, rfl, hp5, he5, hb5⟩
  obtain rfl := err_zero8 he5 rfl
  simp only
  obtain ⟨c5, hc5⟩ : ∃ c, c = awT12.cells A5 := ⟨_, rfl⟩
  rw [show awT12.agg A5 = .agg c5 from by rw [hc5]; rfl]
  have HC50 := Lib.hid (show c5[0]? = some (.int .i64 9) by rw [hc5]; rfl)
  have HC55 := Lib.hid (show c5[25]? = some (.slice A5.ca 1 A5.cc) by rw [hc5]; rfl)
  have HS5 := Lib.hid (show c5.size = 26 by rw [hc5]; rfl)
  have HO5 := Lib.hid (show c5.all (·.oneCell') = true by rw [hc5]; exact pk_one _ _)
  obtain ⟨W5, hW5⟩ : ∃ W, W = w5.alloc (.cells c5 29) := ⟨_, rfl⟩
  have hb5' : Below w5.heap.size w5 W5 := by rw [hW5]; exact (Below.refl _ _).alloc (Nat.le_refl _) _
  have HB5 := Lib.hid ((HB3.out.trans (hb5.mono HB3.out.size)).trans (hb5'.mono (HB3.out.trans (hb5.mono HB3.out.size)).size))
  have K15 := Lib.hid ((K13.out.below hb5 K13.out.lt).below hb5' (K13.out.below hb5 K13.out.lt).lt)
  have k25 := (K23.out.below hb5 K23.out.lt).below hb5' (K23.out.below hb5 K23.out.lt).lt
  have K35 := Lib.hid ((K33.out.below hb5 K33.out.lt).below hb5' (K33.out.below hb5 K33.out.lt).lt)
  have P5 := Lib.hid ((P3.out.below hb5).below hb5')
  have RS5 := Lib.hid ((RS3.out.below hb5 RS3.out.lt).below hb5' (RS3.out.below hb5 RS3.out.lt).lt)
  have K55 := Lib.hid (show Blk W5 w5.heap.size 29 c5 from by rw [hW5]; exact Blk.made _ _ _)
  have f0 : (w5.alloc (.cells c5 29)).cell? ⟨w2.heap.size, 0, none⟩ = some (.int .i64 130) := by rw [← hW5]; exact k25.cell 0
  have f1 : (w5.alloc (.cells c5 29)).cell? ⟨w2.heap.size, 1, none⟩ = some (.string ⟨#[0, 7, 0, 0, 3, 97, 47, 35, 37]⟩) := by rw [← hW5]; exact k25.cell 1
  have KX3 := Lib.hid (show Blk (w5.alloc (.cells c5 29)) w3.heap.size 29 c3 from by rw [← hW5]; exact K35.out)
  have KX1 := Lib.hid (show Blk (w5.alloc (.cells c5 29)) (w.heap.size + 1) 29 c1 from by rw [← hW5]; exact K15.out)
  have hsm := same_ok12 (p := awS12) (A2 := paS w.heap.size) P5.out (pkS_in RS5.out W5.heap.size) okS_aw
  rw [show awS12.agg A3 = .agg c3 from by rw [HC3.out]; rfl, show awS12.agg (paS w.heap.size) = .agg c1 from by rw [HC1.out]; rfl] at hsm
  have HSM := Lib.hid hsm
  have HW5 := Lib.hid hW5
  clear hb5 hb5' hW5 hp5 HB3 K13 K23 K33 P3 hc5 k25 hsm HDE
  go_wp2_with (first | refine wpk_alloc HZ.out rfl rfl ?_ | refine wpk_store_new HZS.out (c := c5) HS5.out HO5.out _ _ rfl rfl rfl rfl ?_ | refine wpk_load_g KX3.out HS3.out _ rfl rfl rfl ?_ | refine wpk_load_g KX1.out HS1.out _ rfl rfl rfl ?_)
  rw [← HW5.out]
  refine HSM.out.mono ?_
  rintro x w6 ⟨rfl, hb6⟩
  have HB6 := Lib.hid (HB5.out.trans (hb6.mono HB5.out.size))
  have k56 := K55.out.below hb6 K55.out.lt
  have g0 : w6.cell? ⟨w5.heap.size, 0, none⟩ = some (.int .i64 9) := (k56.cell 0).trans HC50.out
  have g25 : w6.cell? ⟨w5.heap.size, 25, none⟩ = some (.slice A5.ca 1 A5.cc) := (k56.cell 25).trans HC55.out
  clear hb6 f0 f1 HSM k56
  go_wp2_with fail
  go_ret
  exact ⟨rfl, HB6.out⟩
end
end Go.Proofs.YtinhecggmakbnaaGreatDoor

/- What is proved here: a packet is the same as itself, wherever its lists stand, to the document's function. Conditions: its lists stand where it says, few of them; it has no subscriptions. -/
import Derived.Test.YtkbinmjbbmejpaaPkt08
import Derived.Test.YtkbinmjbbmejpaaPsm06
namespace Go.Proofs.Ytkbinmjbbmejpaa
set_option maxRecDepth 100000
open Go.RowKit Go.Extern.Stop Go.Stop Go.Extern
section
variable {w w' : World} {B B2 : Nat} {A A2 : Option Addr}
theorem tcell_get (L : List ByteArray) : ∀ k, k < L.length → (L.flatMap tCell)[k]? = some (.string (L.getD k ⟨#[]⟩)) := by
  induction L with
  | nil => intro k hk; cases hk
  | cons x L ih =>
    intro k hk
    rw [List.flatMap_cons]
    rcases k with _ | k
    · rfl
    · exact ih k (by simpa using hk)
theorem icell_get (L : List Int) : ∀ k, k < L.length → (L.flatMap iCell)[k]? = some (.int .i64 (L.getD k 0)) := by
  induction L with
  | nil => intro k hk; cases hk
  | cons x L ih =>
    intro k hk
    rw [List.flatMap_cons]
    rcases k with _ | k
    · rfl
    · exact ih k (by simpa using hk)
theorem ssame_nil (c c2 : Nat) : Calls Try.prog 44 #[.slice A 0 c, .slice A2 0 c2] w fun x w' => x = .returned (.bool true) ∧ w = w' := by
  go_enter Try.func44, Try.ntmps44
  go_wp2_with fail
  go_loop [5] (fun i => i = .int .i64 0) (fun _ => 0)
  case atStart => rfl
  case round =>
    subst hrel
    go_wp2_with fail
    go_ret
    exact ⟨rfl, rfl⟩
theorem tsame_any {L : List ByteArray} (h : CIn w B 9 A (L.flatMap tCell)) (h2 : CIn w B2 9 A2 (L.flatMap tCell)) (n c c2 : Nat) (hn : n = L.length) (hm : n ≤ 1000) : Calls Try.prog 45 #[.slice A n c, .slice A2 n c2] w fun x w' => x = .returned (.bool true) ∧ ∃ d : Nat, w' = w.drewN d := by
  by_cases hp : n = 0
  · subst hp
    clear h h2 hm hn
    go_enter Try.func45, Try.ntmps45
    go_wp2_with fail
    go_loop [5] (fun i => i = .int .i64 0) (fun _ => 0)
    case atStart => rfl
    case round =>
      subst hrel
      go_wp2_with fail
      go_ret
      exact ⟨rfl, 0, rfl⟩
  · have hl : 0 < (L.flatMap tCell).length := by rw [flat_len tCell 1 (fun _ => rfl)]; omega
    obtain ⟨g, off, rfl, hc, _⟩ := h hl
    obtain ⟨g2, off2, rfl, hc2, _⟩ := h2 hl
    have HC := Lib.hid (fun k (hk : k < n) => hc k _ (tcell_get L k (by omega)))
    have HC2 := Lib.hid (fun k (hk : k < n) => hc2 k _ (tcell_get L k (by omega)))
    clear hc hc2 h h2 hn hl
    go_enter Try.func45, Try.ntmps45
    go_wp2_with fail
    go_loopw [5] (fun i wr => ∃ k d : Nat, k ≤ n ∧ i = .int .i64 k ∧ wr = w.drewN d) (fun i _ => n - (intOf i).toNat)
    case atStart => exact ⟨0, 0, by omega, rfl, rfl⟩
    case round =>
      obtain ⟨k, d, hk, rfl, hwr⟩ := hrel
      have HW := Lib.hid hwr
      by_cases hlt : k < n
      · have e1 := (World.cell?_of_block (w := w) (w' := wr) (a := ⟨g, off + k, none⟩) (by rw [hwr]; rfl)).trans (HC.out k hlt)
        have e2 := (World.cell?_of_block (w := w) (w' := wr) (a := ⟨g2, off2 + k, none⟩) (by rw [hwr]; rfl)).trans (HC2.out k hlt)
        generalize L.getD k ⟨#[]⟩ = x at e1 e2
        clear hwr
        go_wp2_with fail
        go_quiet (fail)
        go_wp2_with fail
        go_roundw
        case rel => exact ⟨k + 1, _, by omega, by go_num, drew_on HW.out _⟩
        case measure => simp [intOf]; omega
      · clear hwr
        go_wp2_with fail
        go_ret
        exact ⟨rfl, d, HW.out⟩
theorem isame_any {L : List Int} (h : CIn w B 3 A (L.flatMap iCell)) (h2 : CIn w B2 3 A2 (L.flatMap iCell)) (n c c2 : Nat) (hn : n = L.length) (hm : n ≤ 1000) : Calls Try.prog 46 #[.slice A n c, .slice A2 n c2] w fun x w' => x = .returned (.bool true) ∧ ∃ d : Nat, w' = w.drewN d := by
  by_cases hp : n = 0
  · subst hp
    clear h h2 hm hn
    go_enter Try.func46, Try.ntmps46
    go_wp2_with fail
    go_loop [5] (fun i => i = .int .i64 0) (fun _ => 0)
    case atStart => rfl
    case round =>
      subst hrel
      go_wp2_with fail
      go_ret
      exact ⟨rfl, 0, rfl⟩
  · have hl : 0 < (L.flatMap iCell).length := by rw [flat_len iCell 1 (fun _ => rfl)]; omega
    obtain ⟨g, off, rfl, hc, _⟩ := h hl
    obtain ⟨g2, off2, rfl, hc2, _⟩ := h2 hl
    have HC := Lib.hid (fun k (hk : k < n) => hc k _ (icell_get L k (by omega)))
    have HC2 := Lib.hid (fun k (hk : k < n) => hc2 k _ (icell_get L k (by omega)))
    clear hc hc2 h h2 hn hl
    go_enter Try.func46, Try.ntmps46
    go_wp2_with fail
    go_loopw [5] (fun i wr => ∃ k d : Nat, k ≤ n ∧ i = .int .i64 k ∧ wr = w.drewN d) (fun i _ => n - (intOf i).toNat)
    case atStart => exact ⟨0, 0, by omega, rfl, rfl⟩
    case round =>
      obtain ⟨k, d, hk, rfl, hwr⟩ := hrel
      have HW := Lib.hid hwr
      by_cases hlt : k < n
      · have e1 := (World.cell?_of_block (w := w) (w' := wr) (a := ⟨g, off + k, none⟩) (by rw [hwr]; rfl)).trans (HC.out k hlt)
        have e2 := (World.cell?_of_block (w := w) (w' := wr) (a := ⟨g2, off2 + k, none⟩) (by rw [hwr]; rfl)).trans (HC2.out k hlt)
        generalize L.getD k 0 = x at e1 e2
        clear hwr
        go_wp2_with fail
        go_quiet (fail)
        go_wp2_with fail
        go_roundw
        case rel => exact ⟨k + 1, _, by omega, by go_num, drew_on HW.out _⟩
        case measure => simp [intOf]; omega
      · clear hwr
        go_wp2_with fail
        go_ret
        exact ⟨rfl, d, HW.out⟩
end
theorem below_drew {w w' : World} {d : Nat} (h : w' = w.drewN d) : Below w.heap.size w w' := by
  subst h
  exact below_drewN (Below.refl _ _) d
set_option maxHeartbeats 4000000 in
/-- A will is the same as itself. -/
theorem wsame_any {w : World} {B B2 : Nat} {A A2 : Option Addr} {L : PL} (h : PIn w B A L) (h2 : PIn w B2 A2 L) (hm : L.length ≤ 1000) (x0 : Bool) (x1 x2 : ByteArray) (x3 : Int) (x4 : Bool) (c c2 : Nat) :
    Calls Try.prog 43 #[.agg #[.bool x0, .string x1, .string x2, .int .i64 x3, .bool x4, .slice A L.length c], .agg #[.bool x0, .string x1, .string x2, .int .i64 x3, .bool x4, .slice A2 L.length c2]] w fun x w' => x = .returned (.bool true) ∧ Below w.heap.size w w' := by
  have b1 : Below w.heap.size w (w.alloc (.cells #[.bool x0, .string x1, .string x2, .int .i64 x3, .bool x4, .slice A L.length c] 44)) := (Below.refl _ _).alloc (Nat.le_refl _) _
  have b2 : Below (w.alloc (.cells #[.bool x0, .string x1, .string x2, .int .i64 x3, .bool x4, .slice A L.length c] 44)).heap.size (w.alloc (.cells #[.bool x0, .string x1, .string x2, .int .i64 x3, .bool x4, .slice A L.length c] 44)) ((w.alloc (.cells #[.bool x0, .string x1, .string x2, .int .i64 x3, .bool x4, .slice A L.length c] 44)).alloc (.cells #[.bool x0, .string x1, .string x2, .int .i64 x3, .bool x4, .slice A2 L.length c2] 44)) := (Below.refl _ _).alloc (Nat.le_refl _) _
  have HB := Lib.hid (b1.trans (b2.mono b1.size))
  have HS := Lib.hid (psame_any ((h.below b1).below b2) ((h2.below b1).below b2) L.length c c2 rfl hm)
  generalize L.length = n at *
  clear b1 b2 h h2
  go_enter Try.func43, Try.ntmps43
  go_wp2_with fail
  refine HS.out.mono ?_
  rintro x w1 ⟨rfl, d, hd⟩
  have HB1 := Lib.hid (HB.out.trans ((below_drew hd).mono HB.out.size))
  clear hd HS
  go_wp2_with fail
  go_ret
  exact ⟨rfl, HB1.out⟩
/-- The lists of a packet, but subscriptions, stand where it says. -/
structure PkI (w : World) (B : Nat) (A : PkA) (p : Pk) : Prop where
  pr : PIn w B A.pa p.props
  wr : PIn w B A.wa p.wProps
  fl : CIn w B 9 A.fa (p.filters.flatMap tCell)
  cd : CIn w B 3 A.ca (p.codes.flatMap iCell)
theorem PkI.below {w w' : World} {B : Nat} {A : PkA} {p : Pk} (h : PkI w B A p) (hb : Below w.heap.size w w') : PkI w' B A p := ⟨h.pr.below hb, h.wr.below hb, h.fl.below hb, h.cd.below hb⟩
set_option maxHeartbeats 8000000 in
/-- A packet is the same as itself. -/
theorem same08 {w : World} {B B2 : Nat} {A A2 : PkA} {p : Pk} (h : PkI w B A p) (h2 : PkI w B2 A2 p) (hs : p.subs = []) (hL : p.props.length ≤ 1000) (hM : p.wProps.length ≤ 1000) (hF : p.filters.length ≤ 1000) (hC : p.codes.length ≤ 1000) :
    Calls Try.prog 26 #[p.agg A, p.agg A2] w fun x w' => x = .returned (.bool true) ∧ Below w.heap.size w w' := by
  obtain ⟨kd, id, rs, L, cl, kp, ct, wh, wt, wp, wq, wr, M, hu, us, hp, ps, pr, tp, pl, qs, rt, dp, sb, fl, cd⟩ := p
  obtain ⟨xp, xpc, xw, xwc, xs, xsc, xf, xfc, xc, xcc⟩ := A
  obtain ⟨yp, ypc, yw, ywc, ys, ysc, yf, yfc, yc, ycc⟩ := A2
  simp only at hs hL hM hF hC
  subst hs
  obtain ⟨nL, hnL⟩ : ∃ n, n = L.length := ⟨_, rfl⟩
  obtain ⟨nM, hnM⟩ : ∃ n, n = M.length := ⟨_, rfl⟩
  obtain ⟨nF, hnF⟩ : ∃ n, n = fl.length := ⟨_, rfl⟩
  obtain ⟨nC, hnC⟩ : ∃ n, n = cd.length := ⟨_, rfl⟩
  unfold Pk.agg Pk.cells
  simp only [List.length_nil]
  rw [← hnL, ← hnM, ← hnF, ← hnC]
  have b1 : Below w.heap.size w (w.alloc (.cells #[.int .i64 kd, .int .i64 id, .int .i64 rs, .slice xp nL xpc, .bool cl, .int .i64 kp, .string ct, .bool wh, .string wt, .string wp, .int .i64 wq, .bool wr, .slice xw nM xwc, .bool hu, .string us, .bool hp, .string ps, .bool pr, .string tp, .string pl, .int .i64 qs, .bool rt, .bool dp, .slice xs 0 xsc, .slice xf nF xfc, .slice xc nC xcc] 49)) := (Below.refl _ _).alloc (Nat.le_refl _) _
  have b2 : Below (w.alloc (.cells #[.int .i64 kd, .int .i64 id, .int .i64 rs, .slice xp nL xpc, .bool cl, .int .i64 kp, .string ct, .bool wh, .string wt, .string wp, .int .i64 wq, .bool wr, .slice xw nM xwc, .bool hu, .string us, .bool hp, .string ps, .bool pr, .string tp, .string pl, .int .i64 qs, .bool rt, .bool dp, .slice xs 0 xsc, .slice xf nF xfc, .slice xc nC xcc] 49)).heap.size (w.alloc (.cells #[.int .i64 kd, .int .i64 id, .int .i64 rs, .slice xp nL xpc, .bool cl, .int .i64 kp, .string ct, .bool wh, .string wt, .string wp, .int .i64 wq, .bool wr, .slice xw nM xwc, .bool hu, .string us, .bool hp, .string ps, .bool pr, .string tp, .string pl, .int .i64 qs, .bool rt, .bool dp, .slice xs 0 xsc, .slice xf nF xfc, .slice xc nC xcc] 49)) ((w.alloc (.cells #[.int .i64 kd, .int .i64 id, .int .i64 rs, .slice xp nL xpc, .bool cl, .int .i64 kp, .string ct, .bool wh, .string wt, .string wp, .int .i64 wq, .bool wr, .slice xw nM xwc, .bool hu, .string us, .bool hp, .string ps, .bool pr, .string tp, .string pl, .int .i64 qs, .bool rt, .bool dp, .slice xs 0 xsc, .slice xf nF xfc, .slice xc nC xcc] 49)).alloc (.cells #[.int .i64 kd, .int .i64 id, .int .i64 rs, .slice yp nL ypc, .bool cl, .int .i64 kp, .string ct, .bool wh, .string wt, .string wp, .int .i64 wq, .bool wr, .slice yw nM ywc, .bool hu, .string us, .bool hp, .string ps, .bool pr, .string tp, .string pl, .int .i64 qs, .bool rt, .bool dp, .slice ys 0 ysc, .slice yf nF yfc, .slice yc nC ycc] 49)) := (Below.refl _ _).alloc (Nat.le_refl _) _
  have K1 := (Blk.made w 49 #[.int .i64 kd, .int .i64 id, .int .i64 rs, .slice xp nL xpc, .bool cl, .int .i64 kp, .string ct, .bool wh, .string wt, .string wp, .int .i64 wq, .bool wr, .slice xw nM xwc, .bool hu, .string us, .bool hp, .string ps, .bool pr, .string tp, .string pl, .int .i64 qs, .bool rt, .bool dp, .slice xs 0 xsc, .slice xf nF xfc, .slice xc nC xcc]).below b2 (by rw [World.size_alloc]; omega)
  have K2 := Blk.made (w.alloc (.cells #[.int .i64 kd, .int .i64 id, .int .i64 rs, .slice xp nL xpc, .bool cl, .int .i64 kp, .string ct, .bool wh, .string wt, .string wp, .int .i64 wq, .bool wr, .slice xw nM xwc, .bool hu, .string us, .bool hp, .string ps, .bool pr, .string tp, .string pl, .int .i64 qs, .bool rt, .bool dp, .slice xs 0 xsc, .slice xf nF xfc, .slice xc nC xcc] 49)) 49 #[.int .i64 kd, .int .i64 id, .int .i64 rs, .slice yp nL ypc, .bool cl, .int .i64 kp, .string ct, .bool wh, .string wt, .string wp, .int .i64 wq, .bool wr, .slice yw nM ywc, .bool hu, .string us, .bool hp, .string ps, .bool pr, .string tp, .string pl, .int .i64 qs, .bool rt, .bool dp, .slice ys 0 ysc, .slice yf nF yfc, .slice yc nC ycc]
  rw [World.size_alloc] at K2
  have hb2 := b1.trans (b2.mono b1.size)
  have H1 := (h.below b1).below b2
  have H2 := (h2.below b1).below b2
  have HB2 := Lib.hid hb2
  have HS := Lib.hid (psame_any H1.pr H2.pr nL xpc ypc hnL (by omega))
  have HK1 := Lib.hid K1
  have HK2 := Lib.hid K2
  have HP1 := Lib.hid H1
  have HP2 := Lib.hid H2
  have HN := Lib.hid (And.intro hnL (And.intro hnM (And.intro hnF hnC)))
  have HM := Lib.hid hM
  have HF := Lib.hid hF
  have HC := Lib.hid hC
  clear b1 b2 K1 K2 hb2 H1 H2 h h2 hL hM hF hC hnL hnM hnF hnC
  go_enter Try.func26, Try.ntmps26
  go_wp2_with fail
  refine HS.out.mono ?_
  rintro x w3 ⟨rfl, d, hd⟩
  have hb3 := below_drew hd
  have k1 := HK1.out.below hb3 HK1.out.lt
  have k2 := HK2.out.below hb3 HK2.out.lt
  have HQ1 := Lib.hid (HP1.out.below hb3)
  have HQ2 := Lib.hid (HP2.out.below hb3)
  have HB3 := Lib.hid (HB2.out.trans (hb3.mono HB2.out.size))
  have HWS := Lib.hid (wsame_any HQ1.out.wr HQ2.out.wr (by have := HM.out; omega) wh wt wp wq wr xwc ywc)
  rw [← HN.out.2.1] at HWS
  have HL1 := Lib.hid k1
  have HL2 := Lib.hid k2
  have c7 : w3.cell? ⟨w.heap.size, 7, none⟩ = some (.bool wh) := k1.cell 7
  have c8 : w3.cell? ⟨w.heap.size, 8, none⟩ = some (.string wt) := k1.cell 8
  have c9 : w3.cell? ⟨w.heap.size, 9, none⟩ = some (.string wp) := k1.cell 9
  have c10 : w3.cell? ⟨w.heap.size, 10, none⟩ = some (.int .i64 wq) := k1.cell 10
  have c11 : w3.cell? ⟨w.heap.size, 11, none⟩ = some (.bool wr) := k1.cell 11
  have c12 : w3.cell? ⟨w.heap.size, 12, none⟩ = some (.slice xw nM xwc) := k1.cell 12
  have d7 : w3.cell? ⟨w.heap.size + 1, 7, none⟩ = some (.bool wh) := k2.cell 7
  have d8 : w3.cell? ⟨w.heap.size + 1, 8, none⟩ = some (.string wt) := k2.cell 8
  have d9 : w3.cell? ⟨w.heap.size + 1, 9, none⟩ = some (.string wp) := k2.cell 9
  have d10 : w3.cell? ⟨w.heap.size + 1, 10, none⟩ = some (.int .i64 wq) := k2.cell 10
  have d11 : w3.cell? ⟨w.heap.size + 1, 11, none⟩ = some (.bool wr) := k2.cell 11
  have d12 : w3.cell? ⟨w.heap.size + 1, 12, none⟩ = some (.slice yw nM ywc) := k2.cell 12
  clear hd hb3 k1 k2 HS HK1 HK2 HP1 HP2 HB2
  go_wp2_with fail
  refine HWS.out.mono ?_
  rintro x w4 ⟨rfl, hb4⟩
  have k1 := HL1.out.below hb4 HL1.out.lt
  have k2 := HL2.out.below hb4 HL2.out.lt
  have HR1 := Lib.hid (HQ1.out.below hb4)
  have HR2 := Lib.hid (HQ2.out.below hb4)
  have HB4 := Lib.hid (HB3.out.trans (hb4.mono HB3.out.size))
  have e23 : w4.cell? ⟨w.heap.size, 23, none⟩ = some (.slice xs 0 xsc) := k1.cell 23
  have e24 : w4.cell? ⟨w.heap.size, 24, none⟩ = some (.slice xf nF xfc) := k1.cell 24
  have f23 : w4.cell? ⟨w.heap.size + 1, 23, none⟩ = some (.slice ys 0 ysc) := k2.cell 23
  have f24 : w4.cell? ⟨w.heap.size + 1, 24, none⟩ = some (.slice yf nF yfc) := k2.cell 24
  have HT := Lib.hid (tsame_any HR1.out.fl HR2.out.fl nF xfc yfc HN.out.2.2.1 (by have := HN.out.2.2.1; have := HF.out; omega))
  have HM1 := Lib.hid k1
  have HM2 := Lib.hid k2
  clear c7 c8 c9 c10 c11 c12 d7 d8 d9 d10 d11 d12 hb4 k1 k2 HWS HL1 HL2 HQ1 HQ2 HB3
  go_wp2_with fail
  refine (ssame_nil xsc ysc).mono ?_
  rintro x w5 ⟨rfl, rfl⟩
  go_wp2_with fail
  refine HT.out.mono ?_
  rintro x w6 ⟨rfl, d, hd⟩
  have hb6 := below_drew hd
  have k1 := HM1.out.below hb6 HM1.out.lt
  have k2 := HM2.out.below hb6 HM2.out.lt
  have HB6 := Lib.hid (HB4.out.trans (hb6.mono HB4.out.size))
  have e25 : w6.cell? ⟨w.heap.size, 25, none⟩ = some (.slice xc nC xcc) := k1.cell 25
  have f25 : w6.cell? ⟨w.heap.size + 1, 25, none⟩ = some (.slice yc nC ycc) := k2.cell 25
  have HI := Lib.hid (isame_any (HR1.out.below hb6).cd (HR2.out.below hb6).cd nC xcc ycc HN.out.2.2.2 (by have := HN.out.2.2.2; have := HC.out; omega))
  clear e23 e24 f23 f24 hd hb6 k1 k2 HT HM1 HM2 HR1 HR2 HB4
  go_wp2_with fail
  refine HI.out.mono ?_
  rintro x w7 ⟨rfl, d, hd⟩
  have HB7 := Lib.hid (HB6.out.trans ((below_drew hd).mono HB6.out.size))
  clear hd HI
  go_wp2_with fail
  go_ret
  exact ⟨rfl, HB7.out⟩
end Go.Proofs.Ytkbinmjbbmejpaa

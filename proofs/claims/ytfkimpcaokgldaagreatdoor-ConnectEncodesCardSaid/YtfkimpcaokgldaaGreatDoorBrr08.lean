/- What is proved here: a packet is the same as itself, wherever its lists stand, to the document's function. Conditions: its lists stand where it says, few of them; it has no subscriptions. What is proved here: the document's Plain: properties with nothing but what their types have. Conditions: they stand where the slice says, few of them. What is proved here: what the statements of the layers of packets hold while they compare. Conditions: the packets' parts stand where they say, few of them. -/
import Derived.Test.YtfkimpcaokgldaaGreatDoorPkx08
import Derived.Test.YtfkimpcaokgldaaGreatDoorSam06
import Derived.Test.YtfkimpcaokgldaaGreatDoorPut08
import Derived.Test.YtfkimpcaokgldaaGreatDoorDcj08
namespace Go.Proofs.YtfkimpcaokgldaaGreatDoor
set_option maxRecDepth 100000
open Go.RowKit Go.Extern.Stop Go.Stop Go.Extern
section
variable {w w' : World} {B B2 : Nat} {A A2 : Option Addr}
theorem tcell_get (L : List ByteArray) : ∀ k, k < L.length → (L.flatMap tCell)[k]? = some (.string (L.getD k ⟨#[]⟩)) := by
  induction L with
  | nil => intro k hk; cases hk
  | cons x L ih =>
    intro k hk
    rw [List.flatMap_cons]
    rcases k with _ | k
    · rfl
    · exact ih k (by simpa using hk)
theorem icell_get (L : List Int) : ∀ k, k < L.length → (L.flatMap iCell)[k]? = some (.int .i64 (L.getD k 0)) := by
  induction L with
  | nil => intro k hk; cases hk
  | cons x L ih =>
    intro k hk
    rw [List.flatMap_cons]
    rcases k with _ | k
    · rfl
    · exact ih k (by simpa using hk)
theorem ssame_nil (c c2 : Nat) : Calls Tryz.prog 45 #[.slice A 0 c, .slice A2 0 c2] w fun x w' => x = .returned (.bool true) ∧ w = w' := by
  go_enter Tryz.func45, Tryz.ntmps45
  go_wp2_with fail
  go_loop [5] (fun i => i = .int .i64 0) (fun _ => 0)
  case atStart => rfl
  case round =>
    subst hrel
    go_wp2_with fail
    go_ret
    exact ⟨rfl, rfl⟩
theorem tsame_any {L : List ByteArray} (h : CIn w B 9 A (L.flatMap tCell)) (h2 : CIn w B2 9 A2 (L.flatMap tCell)) (n c c2 : Nat) (hn : n = L.length) (hm : n ≤ 1000) : Calls Tryz.prog 46 #[.slice A n c, .slice A2 n c2] w fun x w' => x = .returned (.bool true) ∧ ∃ d : Nat, w' = w.drewN d := by
  by_cases hp : n = 0
  · subst hp
    clear h h2 hm hn
    go_enter Tryz.func46, Tryz.ntmps46
    go_wp2_with fail
    go_loop [5] (fun i => i = .int .i64 0) (fun _ => 0)
    case atStart => rfl
    case round =>
      subst hrel
      go_wp2_with fail
      go_ret
      exact ⟨rfl, 0, rfl⟩
  · have hl : 0 < (L.flatMap tCell).length := by rw [flat_len tCell 1 (fun _ => rfl)]; omega
    obtain ⟨g, off, rfl, hc, _⟩ := h hl
    obtain ⟨g2, off2, rfl, hc2, _⟩ := h2 hl
    have HC := Lib.hid (fun k (hk : k < n) => hc k _ (tcell_get L k (by omega)))
    have HC2 := Lib.hid (fun k (hk : k < n) => hc2 k _ (tcell_get L k (by omega)))
    clear hc hc2 h h2 hn hl
    go_enter Tryz.func46, Tryz.ntmps46
    go_wp2_with fail
    go_loopw [5] (fun i wr => ∃ k d : Nat, k ≤ n ∧ i = .int .i64 k ∧ wr = w.drewN d) (fun i _ => n - (intOf i).toNat)
    case atStart => exact ⟨0, 0, by omega, rfl, rfl⟩
    case round =>
      obtain ⟨k, d, hk, rfl, hwr⟩ := hrel
      have HW := Lib.hid hwr
      by_cases hlt : k < n
      · have e1 := (World.cell?_of_block (w := w) (w' := wr) (a := ⟨g, off + k, none⟩) (by rw [hwr]; rfl)).trans (HC.out k hlt)
        have e2 := (World.cell?_of_block (w := w) (w' := wr) (a := ⟨g2, off2 + k, none⟩) (by rw [hwr]; rfl)).trans (HC2.out k hlt)
        generalize L.getD k ⟨#[]⟩ = x at e1 e2
        clear hwr
        go_wp2_with fail
        go_quiet (fail)
        go_wp2_with fail
        go_roundw
        case rel => exact ⟨k + 1, _, by omega, by go_num, drew_on HW.out _⟩
        case measure => simp [intOf]; omega
      · clear hwr
        go_wp2_with fail
        go_ret
        exact ⟨rfl, d, HW.out⟩
theorem isame_any {L : List Int} (h : CIn w B 3 A (L.flatMap iCell)) (h2 : CIn w B2 3 A2 (L.flatMap iCell)) (n c c2 : Nat) (hn : n = L.length) (hm : n ≤ 1000) : Calls Tryz.prog 47 #[.slice A n c, .slice A2 n c2] w fun x w' => x = .returned (.bool true) ∧ ∃ d : Nat, w' = w.drewN d := by
  by_cases hp : n = 0
  · subst hp
    clear h h2 hm hn
    go_enter Tryz.func47, Tryz.ntmps47
    go_wp2_with fail
    go_loop [5] (fun i => i = .int .i64 0) (fun _ => 0)
    case atStart => rfl
    case round =>
      subst hrel
      go_wp2_with fail
      go_ret
      exact ⟨rfl, 0, rfl⟩
  · have hl : 0 < (L.flatMap iCell).length := by rw [flat_len iCell 1 (fun _ => rfl)]; omega
    obtain ⟨g, off, rfl, hc, _⟩ := h hl
    obtain ⟨g2, off2, rfl, hc2, _⟩ := h2 hl
    have HC := Lib.hid (fun k (hk : k < n) => hc k _ (icell_get L k (by omega)))
    have HC2 := Lib.hid (fun k (hk : k < n) => hc2 k _ (icell_get L k (by omega)))
    clear hc hc2 h h2 hn hl
    go_enter Tryz.func47, Tryz.ntmps47
    go_wp2_with fail
    go_loopw [5] (fun i wr => ∃ k d : Nat, k ≤ n ∧ i = .int .i64 k ∧ wr = w.drewN d) (fun i _ => n - (intOf i).toNat)
    case atStart => exact ⟨0, 0, by omega, rfl, rfl⟩
    case round =>
      obtain ⟨k, d, hk, rfl, hwr⟩ := hrel
      have HW := Lib.hid hwr
      by_cases hlt : k < n
      · have e1 := (World.cell?_of_block (w := w) (w' := wr) (a := ⟨g, off + k, none⟩) (by rw [hwr]; rfl)).trans (HC.out k hlt)
        have e2 := (World.cell?_of_block (w := w) (w' := wr) (a := ⟨g2, off2 + k, none⟩) (by rw [hwr]; rfl)).trans (HC2.out k hlt)
        generalize L.getD k 0 = x at e1 e2
        clear hwr
        go_wp2_with fail
        go_quiet (fail)
        go_wp2_with fail
        go_roundw
        case rel => exact ⟨k + 1, _, by omega, by go_num, drew_on HW.out _⟩
        case measure => simp [intOf]; omega
      · clear hwr
        go_wp2_with fail
        go_ret
        exact ⟨rfl, d, HW.out⟩
end
theorem below_drew {w w' : World} {d : Nat} (h : w' = w.drewN d) : Below w.heap.size w w' := by
  subst h
  exact below_drewN (Below.refl _ _) d
set_option maxHeartbeats 4000000 in
/-- A will is the same as itself. -/
theorem wsame_any {w : World} {B B2 : Nat} {A A2 : Option Addr} {L : PL} (h : PIn w B A L) (h2 : PIn w B2 A2 L) (hm : L.length ≤ 1000) (x0 : Bool) (x1 x2 : ByteArray) (x3 : Int) (x4 : Bool) (c c2 : Nat) :
    Calls Tryz.prog 44 #[.agg #[.bool x0, .string x1, .string x2, .int .i64 x3, .bool x4, .slice A L.length c], .agg #[.bool x0, .string x1, .string x2, .int .i64 x3, .bool x4, .slice A2 L.length c2]] w fun x w' => x = .returned (.bool true) ∧ Below w.heap.size w w' := by
  have b1 : Below w.heap.size w (w.alloc (.cells #[.bool x0, .string x1, .string x2, .int .i64 x3, .bool x4, .slice A L.length c] 24)) := (Below.refl _ _).alloc (Nat.le_refl _) _
  have b2 : Below (w.alloc (.cells #[.bool x0, .string x1, .string x2, .int .i64 x3, .bool x4, .slice A L.length c] 24)).heap.size (w.alloc (.cells #[.bool x0, .string x1, .string x2, .int .i64 x3, .bool x4, .slice A L.length c] 24)) ((w.alloc (.cells #[.bool x0, .string x1, .string x2, .int .i64 x3, .bool x4, .slice A L.length c] 24)).alloc (.cells #[.bool x0, .string x1, .string x2, .int .i64 x3, .bool x4, .slice A2 L.length c2] 24)) := (Below.refl _ _).alloc (Nat.le_refl _) _
  have HB := Lib.hid (b1.trans (b2.mono b1.size))
  have HS := Lib.hid (psame_any ((h.below b1).below b2) ((h2.below b1).below b2) L.length c c2 rfl hm)
  generalize L.length = n at *
  clear b1 b2 h h2
  go_enter Tryz.func44, Tryz.ntmps44
  go_wp2_with fail
  refine HS.out.mono ?_
  rintro x w1 ⟨rfl, d, hd⟩
  have HB1 := Lib.hid (HB.out.trans ((below_drew hd).mono HB.out.size))
  clear hd HS
  go_wp2_with fail
  go_ret
  exact ⟨rfl, HB1.out⟩
set_option maxHeartbeats 8000000 in
/-- A packet is the same as itself. -/
theorem same08 {w : World} {B B2 : Nat} {A A2 : PkA} {p : Pk} (h : PkIn w B A p) (h2 : PkIn w B2 A2 p) (hs : p.subs = []) (hL : p.props.length ≤ 1000) (hM : p.wProps.length ≤ 1000) (hF : p.filters.length ≤ 1000) (hC : p.codes.length ≤ 1000) :
    Calls Tryz.prog 13 #[p.agg A, p.agg A2] w fun x w' => x = .returned (.bool true) ∧ Below w.heap.size w w' := by
  obtain ⟨kd, id, rs, L, cl, kp, ct, wh, wt, wp, wq, wr, M, hu, us, hp, ps, pr, tp, pl, qs, rt, dp, sb, fl, cd⟩ := p
  obtain ⟨xp, xpc, xw, xwc, xs, xsc, xf, xfc, xc, xcc⟩ := A
  obtain ⟨yp, ypc, yw, ywc, ys, ysc, yf, yfc, yc, ycc⟩ := A2
  simp only at hs hL hM hF hC
  subst hs
  obtain ⟨nL, hnL⟩ : ∃ n, n = L.length := ⟨_, rfl⟩
  obtain ⟨nM, hnM⟩ : ∃ n, n = M.length := ⟨_, rfl⟩
  obtain ⟨nF, hnF⟩ : ∃ n, n = fl.length := ⟨_, rfl⟩
  obtain ⟨nC, hnC⟩ : ∃ n, n = cd.length := ⟨_, rfl⟩
  unfold Pk.agg Pk.cells
  simp only [List.length_nil]
  rw [← hnL, ← hnM, ← hnF, ← hnC]
  have b1 : Below w.heap.size w (w.alloc (.cells #[.int .i64 kd, .int .i64 id, .int .i64 rs, .slice xp nL xpc, .bool cl, .int .i64 kp, .string ct, .bool wh, .string wt, .string wp, .int .i64 wq, .bool wr, .slice xw nM xwc, .bool hu, .string us, .bool hp, .string ps, .bool pr, .string tp, .string pl, .int .i64 qs, .bool rt, .bool dp, .slice xs 0 xsc, .slice xf nF xfc, .slice xc nC xcc] 29)) := (Below.refl _ _).alloc (Nat.le_refl _) _
  have b2 : Below (w.alloc (.cells #[.int .i64 kd, .int .i64 id, .int .i64 rs, .slice xp nL xpc, .bool cl, .int .i64 kp, .string ct, .bool wh, .string wt, .string wp, .int .i64 wq, .bool wr, .slice xw nM xwc, .bool hu, .string us, .bool hp, .string ps, .bool pr, .string tp, .string pl, .int .i64 qs, .bool rt, .bool dp, .slice xs 0 xsc, .slice xf nF xfc, .slice xc nC xcc] 29)).heap.size (w.alloc (.cells #[.int .i64 kd, .int .i64 id, .int .i64 rs, .slice xp nL xpc, .bool cl, .int .i64 kp, .string ct, .bool wh, .string wt, .string wp, .int .i64 wq, .bool wr, .slice xw nM xwc, .bool hu, .string us, .bool hp, .string ps, .bool pr, .string tp, .string pl, .int .i64 qs, .bool rt, .bool dp, .slice xs 0 xsc, .slice xf nF xfc, .slice xc nC xcc] 29)) ((w.alloc (.cells #[.int .i64 kd, .int .i64 id, .int .i64 rs, .slice xp nL xpc, .bool cl, .int .i64 kp, .string ct, .bool wh, .string wt, .string wp, .int .i64 wq, .bool wr, .slice xw nM xwc, .bool hu, .string us, .bool hp, .string ps, .bool pr, .string tp, .string pl, .int .i64 qs, .bool rt, .bool dp, .slice xs 0 xsc, .slice xf nF xfc, .slice xc nC xcc] 29)).alloc (.cells #[.int .i64 kd, .int .i64 id, .int .i64 rs, .slice yp nL ypc, .bool cl, .int .i64 kp, .string ct, .bool wh, .string wt, .string wp, .int .i64 wq, .bool wr, .slice yw nM ywc, .bool hu, .string us, .bool hp, .string ps, .bool pr, .string tp, .string pl, .int .i64 qs, .bool rt, .bool dp, .slice ys 0 ysc, .slice yf nF yfc, .slice yc nC ycc] 29)) := (Below.refl _ _).alloc (Nat.le_refl _) _
  have K1 := (Blk.made w 29 #[.int .i64 kd, .int .i64 id, .int .i64 rs, .slice xp nL xpc, .bool cl, .int .i64 kp, .string ct, .bool wh, .string wt, .string wp, .int .i64 wq, .bool wr, .slice xw nM xwc, .bool hu, .string us, .bool hp, .string ps, .bool pr, .string tp, .string pl, .int .i64 qs, .bool rt, .bool dp, .slice xs 0 xsc, .slice xf nF xfc, .slice xc nC xcc]).below b2 (by rw [World.size_alloc]; omega)
  have K2 := Blk.made (w.alloc (.cells #[.int .i64 kd, .int .i64 id, .int .i64 rs, .slice xp nL xpc, .bool cl, .int .i64 kp, .string ct, .bool wh, .string wt, .string wp, .int .i64 wq, .bool wr, .slice xw nM xwc, .bool hu, .string us, .bool hp, .string ps, .bool pr, .string tp, .string pl, .int .i64 qs, .bool rt, .bool dp, .slice xs 0 xsc, .slice xf nF xfc, .slice xc nC xcc] 29)) 29 #[.int .i64 kd, .int .i64 id, .int .i64 rs, .slice yp nL ypc, .bool cl, .int .i64 kp, .string ct, .bool wh, .string wt, .string wp, .int .i64 wq, .bool wr, .slice yw nM ywc, .bool hu, .string us, .bool hp, .string ps, .bool pr, .string tp, .string pl, .int .i64 qs, .bool rt, .bool dp, .slice ys 0 ysc, .slice yf nF yfc, .slice yc nC ycc]
  rw [World.size_alloc] at K2
  have hb2 := b1.trans (b2.mono b1.size)
  have H1 := (h.below b1).below b2
  have H2 := (h2.below b1).below b2
  have HB2 := Lib.hid hb2
  have HS := Lib.hid (psame_any H1.pr H2.pr nL xpc ypc hnL (by omega))
  have HK1 := Lib.hid K1
  have HK2 := Lib.hid K2
  have HP1 := Lib.hid H1
  have HP2 := Lib.hid H2
  have HN := Lib.hid (And.intro hnL (And.intro hnM (And.intro hnF hnC)))
  have HM := Lib.hid hM
  have HF := Lib.hid hF
  have HC := Lib.hid hC
  clear b1 b2 K1 K2 hb2 H1 H2 h h2 hL hM hF hC hnL hnM hnF hnC
  go_enter Tryz.func13, Tryz.ntmps13
  go_wp2_with fail
  refine HS.out.mono ?_
  rintro x w3 ⟨rfl, d, hd⟩
  have hb3 := below_drew hd
  have k1 := HK1.out.below hb3 HK1.out.lt
  have k2 := HK2.out.below hb3 HK2.out.lt
  have HQ1 := Lib.hid (HP1.out.below hb3)
  have HQ2 := Lib.hid (HP2.out.below hb3)
  have HB3 := Lib.hid (HB2.out.trans (hb3.mono HB2.out.size))
  have HWS := Lib.hid (wsame_any HQ1.out.wr HQ2.out.wr (by have := HM.out; omega) wh wt wp wq wr xwc ywc)
  rw [← HN.out.2.1] at HWS
  have HL1 := Lib.hid k1
  have HL2 := Lib.hid k2
  have c7 : w3.cell? ⟨w.heap.size, 7, none⟩ = some (.bool wh) := k1.cell 7
  have c8 : w3.cell? ⟨w.heap.size, 8, none⟩ = some (.string wt) := k1.cell 8
  have c9 : w3.cell? ⟨w.heap.size, 9, none⟩ = some (.string wp) := k1.cell 9
  have c10 : w3.cell? ⟨w.heap.size, 10, none⟩ = some (.int .i64 wq) := k1.cell 10
  have c11 : w3.cell? ⟨w.heap.size, 11, none⟩ = some (.bool wr) := k1.cell 11
  have c12 : w3.cell? ⟨w.heap.size, 12, none⟩ = some (.slice xw nM xwc) := k1.cell 12
  have d7 : w3.cell? ⟨w.heap.size + 1, 7, none⟩ = some (.bool wh) := k2.cell 7
  have d8 : w3.cell? ⟨w.heap.size + 1, 8, none⟩ = some (.string wt) := k2.cell 8
  have d9 : w3.cell? ⟨w.heap.size + 1, 9, none⟩ = some (.string wp) := k2.cell 9
  have d10 : w3.cell? ⟨w.heap.size + 1, 10, none⟩ = some (.int .i64 wq) := k2.cell 10
  have d11 : w3.cell? ⟨w.heap.size + 1, 11, none⟩ = some (.bool wr) := k2.cell 11
  have d12 : w3.cell? ⟨w.heap.size + 1, 12, none⟩ = some (.slice yw nM ywc) := k2.cell 12
  clear hd hb3 k1 k2 HS HK1 HK2 HP1 HP2 HB2
  go_wp2_with fail
  refine HWS.out.mono ?_
  rintro x w4 ⟨rfl, hb4⟩
  have k1 := HL1.out.below hb4 HL1.out.lt
  have k2 := HL2.out.below hb4 HL2.out.lt
  have HR1 := Lib.hid (HQ1.out.below hb4)
  have HR2 := Lib.hid (HQ2.out.below hb4)
  have HB4 := Lib.hid (HB3.out.trans (hb4.mono HB3.out.size))
  have e23 : w4.cell? ⟨w.heap.size, 23, none⟩ = some (.slice xs 0 xsc) := k1.cell 23
  have e24 : w4.cell? ⟨w.heap.size, 24, none⟩ = some (.slice xf nF xfc) := k1.cell 24
  have f23 : w4.cell? ⟨w.heap.size + 1, 23, none⟩ = some (.slice ys 0 ysc) := k2.cell 23
  have f24 : w4.cell? ⟨w.heap.size + 1, 24, none⟩ = some (.slice yf nF yfc) := k2.cell 24
  have HT := Lib.hid (tsame_any HR1.out.fl HR2.out.fl nF xfc yfc HN.out.2.2.1 (by have := HN.out.2.2.1; have := HF.out; omega))
  have HM1 := Lib.hid k1
  have HM2 := Lib.hid k2
  clear c7 c8 c9 c10 c11 c12 d7 d8 d9 d10 d11 d12 hb4 k1 k2 HWS HL1 HL2 HQ1 HQ2 HB3
  go_wp2_with fail
  refine (ssame_nil xsc ysc).mono ?_
  rintro x w5 ⟨rfl, rfl⟩
  go_wp2_with fail
  refine HT.out.mono ?_
  rintro x w6 ⟨rfl, d, hd⟩
  have hb6 := below_drew hd
  have k1 := HM1.out.below hb6 HM1.out.lt
  have k2 := HM2.out.below hb6 HM2.out.lt
  have HB6 := Lib.hid (HB4.out.trans (hb6.mono HB4.out.size))
  have e25 : w6.cell? ⟨w.heap.size, 25, none⟩ = some (.slice xc nC xcc) := k1.cell 25
  have f25 : w6.cell? ⟨w.heap.size + 1, 25, none⟩ = some (.slice yc nC ycc) := k2.cell 25
  have HI := Lib.hid (isame_any (HR1.out.below hb6).cd (HR2.out.below hb6).cd nC xcc ycc HN.out.2.2.2 (by have := HN.out.2.2.2; have := HC.out; omega))
  clear e23 e24 f23 f24 hd hb6 k1 k2 HT HM1 HM2 HR1 HR2 HB4
  go_wp2_with fail
  refine HI.out.mono ?_
  rintro x w7 ⟨rfl, d, hd⟩
  have HB7 := Lib.hid (HB6.out.trans ((below_drew hd).mono HB6.out.size))
  clear hd HI
  go_wp2_with fail
  go_ret
  exact ⟨rfl, HB7.out⟩
end Go.Proofs.YtfkimpcaokgldaaGreatDoor
namespace Go.Proofs.YtfkimpcaokgldaaGreatDoor
set_option maxRecDepth 100000
open Go.RowKit Go.Extern.Stop Go.Stop Go.Extern
theorem plL_take (L : PL) (k : Nat) (hk : k < L.length) : plL (L.take (k + 1)) = plL (L.take k) ++ [plV (L.getD k p0)] := by
  unfold plL
  rw [List.take_succ_eq_append_getElem hk, List.map_append, List.getD_eq_getElem?_getD, List.getElem?_eq_getElem hk]
  rfl
section
variable {w w' : World} {B : Nat} {A : Option Addr} {L : PL}
set_option maxHeartbeats 8000000 in
theorem rplain_any (n c : Nat) (hn : n = L.length) (h : PIn w B A L) (hm : n ≤ 1000) : Calls Tryz.prog 107 #[.slice A n c] w (WoSays w (plL L)) := by
  have HN := Lib.hid hn
  have HA := Lib.hid h
  have HI0 : Hid (WoIn w w B A L (.slice none 0 0) (plL (L.take 0))) := Lib.hid ⟨PRow.nil _ _, Below.refl _ _⟩
  clear hn h
  go_enter Tryz.func107, Tryz.ntmps107
  go_wp2_with fail
  go_loopw [3, 4] (fun u j wr => ∃ k : Nat, k ≤ n ∧ j = .int .i64 k ∧ Hid (WoIn w wr B A L u (plL (L.take k)))) (fun _ j _ => n - (intOf j).toNat)
  case atStart => exact ⟨0, by omega, rfl, HI0⟩
  case round =>
    obtain ⟨k, hk, rfl, HI⟩ := hrel
    obtain ⟨av, nv, cv, rfl, hnv, _⟩ := HI.out.row.some_form
    by_cases hlt : k < n
    · have hkL : k < L.length := by have := HN.out; omega
      obtain ⟨g, off, rfl, hc, _⟩ := HA.out (by omega)
      have hcc := hc k hkL
      have hcw := hcc.at (w' := wr) (HI.out.bel.block g (lt_of_cell hcc.c0))
      have hpl := plL_take L k hkL
      have hml : (plL (L.take k)).length ≤ 1000 := by
        rw [plL_len, List.length_take]
        omega
      have hglt := lt_of_cell hcw.c0
      generalize L.getD k p0 = p at *
      obtain ⟨pi, pn, ps, pv⟩ := p
      obtain ⟨c0, c1, c2, c3⟩ := hcw
      have hb1 : ∀ cs, Below wr.heap.size wr (wr.alloc (.cells cs 96)) := fun cs => (Below.refl _ _).alloc (Nat.le_refl _) _
      have hcell : ∀ (cs : Array Value) (o : Nat) (u : Value), wr.cell? ⟨g, o, none⟩ = some u → (wr.alloc (.cells cs 96)).cell? ⟨g, o, none⟩ = some u := fun cs o u hu => ((hb1 cs).cell (p := ⟨g, o, none⟩) hglt).trans hu
      have HI1 := Lib.hid (fun cs => HI.out.below (hb1 cs))
      have HTY := Lib.hid (fun W : World => rtype06_any pi W)
      have HCE := Lib.hid hcell
      have hty := plain_cases pi
      have hpv : plV ⟨pi, pn, ps, pv⟩ = if typeI pi = 9 then ⟨pi, 0, ps, pv⟩ else if typeI pi = 6 ∨ typeI pi = 7 then ⟨pi, 0, ps, ⟨#[]⟩⟩ else ⟨pi, pn, ⟨#[]⟩, ⟨#[]⟩⟩ := rfl
      rw [hpv] at hpl
      have hv := typeI_vals pi
      obtain ⟨t, ht⟩ : ∃ t, t = typeI pi := ⟨_, rfl⟩
      rw [← ht] at HTY hty hpl hv
      have HML := Lib.hid (show (plL (L.take k)).length ≤ 100000 from by omega)
      clear ht hpv hml hc hcc hcell hb1 HI0 hnv
      by_cases h9 : t = 9
      · rw [if_pos h9] at hpl
        subst h9
        have HPL := Lib.hid hpl
        have q0 := HCE.out #[.int .i64 pi, .int .i64 0, .string ⟨#[]⟩, .string ⟨#[]⟩] _ _ c0
        have q1 := HCE.out #[.int .i64 pi, .int .i64 0, .string ⟨#[]⟩, .string ⟨#[]⟩] _ _ c1
        have q2 := HCE.out #[.int .i64 pi, .int .i64 0, .string ⟨#[]⟩, .string ⟨#[]⟩] _ _ c2
        have q3 := HCE.out #[.int .i64 pi, .int .i64 0, .string ⟨#[]⟩, .string ⟨#[]⟩] _ _ c3
        have r3 := HCE.out #[.int .i64 pi, .int .i64 0, .string ps, .string ⟨#[]⟩] _ _ c3
        have HS1 := Lib.hid (HI1.out #[.int .i64 pi, .int .i64 0, .string ps, .string pv]).bel.size
        clear hpl hty hv
        go_wp2_with fail
        refine (HTY.out _).mono ?_
        rintro x w1 ⟨rfl, rfl⟩
        go_wp2_with (at_builtin; go_must (refine append_prop ⟨pi, 0, ps, pv⟩ rfl _ _ rfl (HI1.out #[.int .i64 pi, .int .i64 0, .string ps, .string pv]).row HS1.out rfl (wr.heap.size + 1) 1 rfl (by simp) HML.out ?_))
        intro v7 w7 hn7
        have HX := Lib.hid (show WoIn w w7 B (some ⟨g, off, none⟩) L v7 (plL (L.take (k + 1))) from by rw [HPL.out]; exact (HI1.out #[.int .i64 pi, .int .i64 0, .string ps, .string pv]).app hn7)
        clear hn7
        go_wp2_with fail
        go_roundw
        case rel => exact ⟨k + 1, by omega, by go_num, HX⟩
        case measure => simp [intOf]; omega
      · by_cases h6 : t = 6 ∨ t = 7
        · rw [if_neg h9, if_pos h6] at hpl
          rcases h6 with h6 | h6
          · subst h6
            have HPL := Lib.hid hpl
            have q0 := HCE.out #[.int .i64 pi, .int .i64 0, .string ⟨#[]⟩, .string ⟨#[]⟩] _ _ c0
            have q1 := HCE.out #[.int .i64 pi, .int .i64 0, .string ⟨#[]⟩, .string ⟨#[]⟩] _ _ c1
            have q2 := HCE.out #[.int .i64 pi, .int .i64 0, .string ⟨#[]⟩, .string ⟨#[]⟩] _ _ c2
            have q3 := HCE.out #[.int .i64 pi, .int .i64 0, .string ⟨#[]⟩, .string ⟨#[]⟩] _ _ c3
            have r3 := HCE.out #[.int .i64 pi, .int .i64 0, .string ps, .string ⟨#[]⟩] _ _ c3
            have HS1 := Lib.hid (HI1.out #[.int .i64 pi, .int .i64 0, .string ps, .string ⟨#[]⟩]).bel.size
            clear hpl hty hv
            go_wp2_with fail
            refine (HTY.out _).mono ?_
            rintro x w1 ⟨rfl, rfl⟩
            go_wp2_with (at_builtin; go_must (refine append_prop ⟨pi, 0, ps, ⟨#[]⟩⟩ rfl _ _ rfl (HI1.out #[.int .i64 pi, .int .i64 0, .string ps, .string ⟨#[]⟩]).row HS1.out rfl (wr.heap.size + 1) 1 rfl (by simp) HML.out ?_))
            intro v7 w7 hn7
            have HX := Lib.hid (show WoIn w w7 B (some ⟨g, off, none⟩) L v7 (plL (L.take (k + 1))) from by rw [HPL.out]; exact (HI1.out #[.int .i64 pi, .int .i64 0, .string ps, .string ⟨#[]⟩]).app hn7)
            clear hn7
            go_wp2_with fail
            go_roundw
            case rel => exact ⟨k + 1, by omega, by go_num, HX⟩
            case measure => simp [intOf]; omega
          · subst h6
            have HPL := Lib.hid hpl
            have q0 := HCE.out #[.int .i64 pi, .int .i64 0, .string ⟨#[]⟩, .string ⟨#[]⟩] _ _ c0
            have q1 := HCE.out #[.int .i64 pi, .int .i64 0, .string ⟨#[]⟩, .string ⟨#[]⟩] _ _ c1
            have q2 := HCE.out #[.int .i64 pi, .int .i64 0, .string ⟨#[]⟩, .string ⟨#[]⟩] _ _ c2
            have q3 := HCE.out #[.int .i64 pi, .int .i64 0, .string ⟨#[]⟩, .string ⟨#[]⟩] _ _ c3
            have r3 := HCE.out #[.int .i64 pi, .int .i64 0, .string ps, .string ⟨#[]⟩] _ _ c3
            have HS1 := Lib.hid (HI1.out #[.int .i64 pi, .int .i64 0, .string ps, .string ⟨#[]⟩]).bel.size
            clear hpl hty hv
            go_wp2_with fail
            refine (HTY.out _).mono ?_
            rintro x w1 ⟨rfl, rfl⟩
            go_wp2_with (at_builtin; go_must (refine append_prop ⟨pi, 0, ps, ⟨#[]⟩⟩ rfl _ _ rfl (HI1.out #[.int .i64 pi, .int .i64 0, .string ps, .string ⟨#[]⟩]).row HS1.out rfl (wr.heap.size + 1) 1 rfl (by simp) HML.out ?_))
            intro v7 w7 hn7
            have HX := Lib.hid (show WoIn w w7 B (some ⟨g, off, none⟩) L v7 (plL (L.take (k + 1))) from by rw [HPL.out]; exact (HI1.out #[.int .i64 pi, .int .i64 0, .string ps, .string ⟨#[]⟩]).app hn7)
            clear hn7
            go_wp2_with fail
            go_roundw
            case rel => exact ⟨k + 1, by omega, by go_num, HX⟩
            case measure => simp [intOf]; omega
        · rw [if_neg h9, if_neg h6] at hpl
          have n9 : ¬ (t : Int) = 9 := by omega
          have n6 : ¬ (t : Int) = 6 := by omega
          have n7 : ¬ (t : Int) = 7 := by omega
          have HPL := Lib.hid hpl
          have q0 := HCE.out #[.int .i64 pi, .int .i64 0, .string ⟨#[]⟩, .string ⟨#[]⟩] _ _ c0
          have q1 := HCE.out #[.int .i64 pi, .int .i64 0, .string ⟨#[]⟩, .string ⟨#[]⟩] _ _ c1
          have q2 := HCE.out #[.int .i64 pi, .int .i64 0, .string ⟨#[]⟩, .string ⟨#[]⟩] _ _ c2
          have q3 := HCE.out #[.int .i64 pi, .int .i64 0, .string ⟨#[]⟩, .string ⟨#[]⟩] _ _ c3
          have HS1 := Lib.hid (HI1.out #[.int .i64 pi, .int .i64 pn, .string ⟨#[]⟩, .string ⟨#[]⟩]).bel.size
          clear hpl hty hv
          go_wp2_with fail
          refine (HTY.out _).mono ?_
          rintro x w1 ⟨rfl, rfl⟩
          go_wp2_with (at_builtin; go_must (refine append_prop ⟨pi, pn, ⟨#[]⟩, ⟨#[]⟩⟩ rfl _ _ rfl (HI1.out #[.int .i64 pi, .int .i64 pn, .string ⟨#[]⟩, .string ⟨#[]⟩]).row HS1.out rfl (wr.heap.size + 1) 1 rfl (by simp) HML.out ?_))
          intro v7 w7 hn7
          have HX := Lib.hid (show WoIn w w7 B (some ⟨g, off, none⟩) L v7 (plL (L.take (k + 1))) from by rw [HPL.out]; exact (HI1.out #[.int .i64 pi, .int .i64 pn, .string ⟨#[]⟩, .string ⟨#[]⟩]).app hn7)
          clear hn7
          go_wp2_with fail
          go_roundw
          case rel => exact ⟨k + 1, by omega, by go_num, HX⟩
          case measure => simp [intOf]; omega
    · have HX := Lib.hid (show WoSays w (plL L) (.returned (.slice av nv cv)) wr from by
        have h1 := HI.out
        rw [List.take_of_length_le (by have := HN.out; omega)] at h1 hnv
        exact ⟨av, nv, cv, rfl, hnv, h1.row, h1.bel⟩)
      clear hnv HI0
      go_wp2_with fail
      go_ret
      exact HX.out
end
end Go.Proofs.YtfkimpcaokgldaaGreatDoor
namespace Go.Proofs.YtfkimpcaokgldaaGreatDoor
set_option maxRecDepth 100000
open Go.ChangeShapes Go.WideShapes Go.RowKit Go.Deep Go.Extern.Stop Go.Stop Go.Extern
theorem err_zero8 {w : World} {S : Nat → Addr} {r : Int} {no a : Nat} {e : Value} (h : ErrOf w S r no a e) (h0 : no = 0) : e = .nilIface := by
  unfold ErrOf at h
  rw [if_pos h0] at h
  exact h
def BrSays (w : World) (q : Pk) (x : Ending) (w' : World) : Prop := ∃ A, x = .returned (q.agg A) ∧ PkIn w' w.heap.size A q ∧ Below w.heap.size w w'
structure BrIn (w : World) (c : Array Value) (W : World) : Prop where
  bel : Below w.heap.size w W
  box : Blk W w.heap.size 29 c
  res : ∃ o, Blk W (w.heap.size + 1) 29 o ∧ o.size = 26
theorem BrIn.below {w W W' : World} {c : Array Value} (h : BrIn w c W) (hb : Below W.heap.size W W') : BrIn w c W' := by
  obtain ⟨o, ho, hs⟩ := h.res
  exact ⟨h.bel.trans (hb.mono h.bel.size), h.box.below hb h.box.lt, o, ho.below hb ho.lt, hs⟩
theorem BrIn.drewN {w W : World} {c : Array Value} (h : BrIn w c W) (d : Nat) : BrIn w c (W.drewN d) := h.below (below_drewN (Below.refl _ _) d)
theorem BrIn.row {w W : World} {c y : Array Value} (h : BrIn w c W) (hy : y.size = 26) : BrIn w c (W.setRow (w.heap.size + 1) y) := by
  obtain ⟨o, ho, hs⟩ := h.res
  exact ⟨below_row h.bel (by omega) y, h.box.fr (setRow_fr W _ y) (fun hm => by rw [List.mem_singleton] at hm; omega), y, setRow_blk ho y, hy⟩
/-- Few parts, and no subscriptions. -/
structure SmOk (p : Pk) : Prop where
  sb : p.subs = []
  pr : p.props.length ≤ 1000
  wr : p.wProps.length ≤ 1000
  fl : p.filters.length ≤ 1000
  cd : p.codes.length ≤ 1000
theorem smOk_zero : SmOk pk0 := ⟨rfl, Nat.zero_le _, Nat.zero_le _, Nat.zero_le _, Nat.zero_le _⟩
theorem same_ok {w : World} {B B2 : Nat} {A A2 : PkA} {p : Pk} (h : PkIn w B A p) (h2 : PkIn w B2 A2 p) (hk : SmOk p) :
    Calls Tryz.prog 13 #[p.agg A, p.agg A2] w fun x w' => x = .returned (.bool true) ∧ Below w.heap.size w w' := same08 h h2 hk.sb hk.pr hk.wr hk.fl hk.cd
theorem small_mem {L : PL} (h : SmallP L) : (∀ q ∈ L, q.s.size < 65536 ∧ q.v.size < 65536) ∧ (wrAll (actsL6 L)).L.length ≤ 268435455 := by
  refine ⟨fun q hq => by have := h.2.1 q hq; omega, ?_⟩
  have h1 := wr6_len h L.length
  rw [List.take_length] at h1
  omega
theorem small_few {L : PL} (h : SmallP L) : L.length ≤ 1000 := by
  have := h.1
  omega
end Go.Proofs.YtfkimpcaokgldaaGreatDoor

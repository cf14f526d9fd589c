/- What is proved here: a packet is the same as itself, wherever its lists stand, to the document's function. Conditions: its lists stand where it says, few of them; it has no subscriptions. What is proved here: the document's Plain: properties with nothing but what their types have. Conditions: they stand where the slice says, few of them. What is proved here: what the statements of the layers of packets hold while they compare. Conditions: the packets' parts stand where they say, few of them. What is proved here: how the packets with parts begin: PutHead and TakeHead of package body. Conditions: the reader, the writer and the packet are there, with few bytes; what the rows list of the package's variables. What is proved here: parts that follow one another are read: filters and codes. Conditions: the reader is there, with few bytes; what the rows list of the package's variables. What is proved here: codes are read and written, one by one. Conditions: the reader and the writer are there, with few bytes; what the rows list of the package's variables. What is proved here: Decode of package unsub tells what a plain function says. Conditions: few bytes; what the rows list of the package's variables. What is proved here: a frame that is decoded by unsub.Decode. Conditions: the writer is there; what Decode tells. What is proved here: Encode of package unsub tells what a plain function says. Conditions: few bytes, the packet's parts stand where it says; what the rows list of the package's variables. -/
import Derived.Test.YtinhecggmakbnaaGreatDoorPkx08
import Derived.Test.YtinhecggmakbnaaGreatDoorSam06
import Derived.Test.YtinhecggmakbnaaGreatDoorPut08
import Derived.Test.YtinhecggmakbnaaGreatDoorDci08
import Derived.Test.YtinhecggmakbnaaGreatDoorPlc13
import Derived.Test.YtinhecggmakbnaaGreatDoorBod08
namespace Go.Proofs.YtinhecggmakbnaaGreatDoor
set_option maxRecDepth 100000
open Go.RowKit Go.Extern.Stop Go.Stop Go.Extern
section
variable {w w' : World} {B B2 : Nat} {A A2 : Option Addr}
theorem tcell_get (L : List ByteArray) : ∀ k, k < L.length → (L.flatMap tCell)[k]? = some (.string (L.getD k ⟨#[]⟩)) := by
  induction L with
  | nil => intro k hk; cases hk
  | cons x L ih =>
    intro k hk
    rw [List.flatMap_cons]
    rcases k with _ | k
    · rfl
    · exact ih k (by simpa using hk)
theorem icell_get (L : List Int) : ∀ k, k < L.length → (L.flatMap iCell)[k]? = some (.int .i64 (L.getD k 0)) := by
  induction L with
  | nil => intro k hk; cases hk
  | cons x L ih =>
    intro k hk
    rw [List.flatMap_cons]
    rcases k with _ | k
    · rfl
    · exact ih k (by simpa using hk)
theorem ssame_nil (c c2 : Nat) : Calls Tryz.prog 89 #[.slice A 0 c, .slice A2 0 c2] w fun x w' => x = .returned (.bool true) ∧ w = w' := by
  go_enter Tryz.func89, Tryz.ntmps89
  go_wp2_with fail
  go_loop [5] (fun i => i = .int .i64 0) (fun _ => 0)
  case atStart => rfl
  case round =>
    subst hrel
    go_wp2_with fail
    go_ret
    exact ⟨rfl, rfl⟩
theorem tsame_any {L : List ByteArray} (h : CIn w B 9 A (L.flatMap tCell)) (h2 : CIn w B2 9 A2 (L.flatMap tCell)) (n c c2 : Nat) (hn : n = L.length) (hm : n ≤ 1000) : Calls Tryz.prog 90 #[.slice A n c, .slice A2 n c2] w fun x w' => x = .returned (.bool true) ∧ ∃ d : Nat, w' = w.drewN d := by
  by_cases hp : n = 0
  · subst hp
    clear h h2 hm hn
    go_enter Tryz.func90, Tryz.ntmps90
    go_wp2_with fail
    go_loop [5] (fun i => i = .int .i64 0) (fun _ => 0)
    case atStart => rfl
    case round =>
      subst hrel
      go_wp2_with fail
      go_ret
      exact ⟨rfl, 0, rfl⟩
  · have hl : 0 < (L.flatMap tCell).length := by rw [flat_len tCell 1 (fun _ => rfl)]; omega
    obtain ⟨g, off, rfl, hc, _⟩ := h hl
    obtain ⟨g2, off2, rfl, hc2, _⟩ := h2 hl
    have HC := Lib.hid (fun k (hk : k < n) => hc k _ (tcell_get L k (by omega)))
    have HC2 := Lib.hid (fun k (hk : k < n) => hc2 k _ (tcell_get L k (by omega)))
    clear hc hc2 h h2 hn hl
    go_enter Tryz.func90, Tryz.ntmps90
    go_wp2_with fail
    go_loopw [5] (fun i wr => ∃ k d : Nat, k ≤ n ∧ i = .int .i64 k ∧ wr = w.drewN d) (fun i _ => n - (intOf i).toNat)
    case atStart => exact ⟨0, 0, by omega, rfl, rfl⟩
    case round =>
      obtain ⟨k, d, hk, rfl, hwr⟩ := hrel
      have HW := Lib.hid hwr
      by_cases hlt : k < n
      · have e1 := (World.cell?_of_block (w := w) (w' := wr) (a := ⟨g, off + k, none⟩) (by rw [hwr]; rfl)).trans (HC.out k hlt)
        have e2 := (World.cell?_of_block (w := w) (w' := wr) (a := ⟨g2, off2 + k, none⟩) (by rw [hwr]; rfl)).trans (HC2.out k hlt)
        generalize L.getD k ⟨#[]⟩ = x at e1 e2
        clear hwr
        go_wp2_with fail
        go_quiet (fail)
        go_wp2_with fail
        go_roundw
        case rel => exact ⟨k + 1, _, by omega, by go_num, drew_on HW.out _⟩
        case measure => simp [intOf]; omega
      · clear hwr
        go_wp2_with fail
        go_ret
        exact ⟨rfl, d, HW.out⟩
theorem isame_any {L : List Int} (h : CIn w B 3 A (L.flatMap iCell)) (h2 : CIn w B2 3 A2 (L.flatMap iCell)) (n c c2 : Nat) (hn : n = L.length) (hm : n ≤ 1000) : Calls Tryz.prog 91 #[.slice A n c, .slice A2 n c2] w fun x w' => x = .returned (.bool true) ∧ ∃ d : Nat, w' = w.drewN d := by
  by_cases hp : n = 0
  · subst hp
    clear h h2 hm hn
    go_enter Tryz.func91, Tryz.ntmps91
    go_wp2_with fail
    go_loop [5] (fun i => i = .int .i64 0) (fun _ => 0)
    case atStart => rfl
    case round =>
      subst hrel
      go_wp2_with fail
      go_ret
      exact ⟨rfl, 0, rfl⟩
  · have hl : 0 < (L.flatMap iCell).length := by rw [flat_len iCell 1 (fun _ => rfl)]; omega
    obtain ⟨g, off, rfl, hc, _⟩ := h hl
    obtain ⟨g2, off2, rfl, hc2, _⟩ := h2 hl
    have HC := Lib.hid (fun k (hk : k < n) => hc k _ (icell_get L k (by omega)))
    have HC2 := Lib.hid (fun k (hk : k < n) => hc2 k _ (icell_get L k (by omega)))
    clear hc hc2 h h2 hn hl
    go_enter Tryz.func91, Tryz.ntmps91
    go_wp2_with fail
    go_loopw [5] (fun i wr => ∃ k d : Nat, k ≤ n ∧ i = .int .i64 k ∧ wr = w.drewN d) (fun i _ => n - (intOf i).toNat)
    case atStart => exact ⟨0, 0, by omega, rfl, rfl⟩
    case round =>
      obtain ⟨k, d, hk, rfl, hwr⟩ := hrel
      have HW := Lib.hid hwr
      by_cases hlt : k < n
      · have e1 := (World.cell?_of_block (w := w) (w' := wr) (a := ⟨g, off + k, none⟩) (by rw [hwr]; rfl)).trans (HC.out k hlt)
        have e2 := (World.cell?_of_block (w := w) (w' := wr) (a := ⟨g2, off2 + k, none⟩) (by rw [hwr]; rfl)).trans (HC2.out k hlt)
        generalize L.getD k 0 = x at e1 e2
        clear hwr
        go_wp2_with fail
        go_quiet (fail)
        go_wp2_with fail
        go_roundw
        case rel => exact ⟨k + 1, _, by omega, by go_num, drew_on HW.out _⟩
        case measure => simp [intOf]; omega
      · clear hwr
        go_wp2_with fail
        go_ret
        exact ⟨rfl, d, HW.out⟩
end
theorem below_drew {w w' : World} {d : Nat} (h : w' = w.drewN d) : Below w.heap.size w w' := by
  subst h
  exact below_drewN (Below.refl _ _) d
set_option maxHeartbeats 4000000 in
/-- A will is the same as itself. -/
theorem wsame_any {w : World} {B B2 : Nat} {A A2 : Option Addr} {L : PL} (h : PIn w B A L) (h2 : PIn w B2 A2 L) (hm : L.length ≤ 1000) (x0 : Bool) (x1 x2 : ByteArray) (x3 : Int) (x4 : Bool) (c c2 : Nat) :
    Calls Tryz.prog 88 #[.agg #[.bool x0, .string x1, .string x2, .int .i64 x3, .bool x4, .slice A L.length c], .agg #[.bool x0, .string x1, .string x2, .int .i64 x3, .bool x4, .slice A2 L.length c2]] w fun x w' => x = .returned (.bool true) ∧ Below w.heap.size w w' := by
  have b1 : Below w.heap.size w (w.alloc (.cells #[.bool x0, .string x1, .string x2, .int .i64 x3, .bool x4, .slice A L.length c] 24)) := (Below.refl _ _).alloc (Nat.le_refl _) _
  have b2 : Below (w.alloc (.cells #[.bool x0, .string x1, .string x2, .int .i64 x3, .bool x4, .slice A L.length c] 24)).heap.size (w.alloc (.cells #[.bool x0, .string x1, .string x2, .int .i64 x3, .bool x4, .slice A L.length c] 24)) ((w.alloc (.cells #[.bool x0, .string x1, .string x2, .int .i64 x3, .bool x4, .slice A L.length c] 24)).alloc (.cells #[.bool x0, .string x1, .string x2, .int .i64 x3, .bool x4, .slice A2 L.length c2] 24)) := (Below.refl _ _).alloc (Nat.le_refl _) _
  have HB := Lib.hid (b1.trans (b2.mono b1.size))
  have HS := Lib.hid (psame_any ((h.below b1).below b2) ((h2.below b1).below b2) L.length c c2 rfl hm)
  generalize L.length = n at *
  clear b1 b2 h h2
  go_enter Tryz.func88, Tryz.ntmps88
  go_wp2_with fail
  refine HS.out.mono ?_
  rintro x w1 ⟨rfl, d, hd⟩
  have HB1 := Lib.hid (HB.out.trans ((below_drew hd).mono HB.out.size))
  clear hd HS
  go_wp2_with fail
  go_ret
  exact ⟨rfl, HB1.out⟩
set_option maxHeartbeats 8000000 in
/-- A packet is the same as itself. -/
theorem same08 {w : World} {B B2 : Nat} {A A2 : PkA} {p : Pk} (h : PkIn w B A p) (h2 : PkIn w B2 A2 p) (hs : p.subs = []) (hL : p.props.length ≤ 1000) (hM : p.wProps.length ≤ 1000) (hF : p.filters.length ≤ 1000) (hC : p.codes.length ≤ 1000) :
    Calls Tryz.prog 38 #[p.agg A, p.agg A2] w fun x w' => x = .returned (.bool true) ∧ Below w.heap.size w w' := by
  obtain ⟨kd, id, rs, L, cl, kp, ct, wh, wt, wp, wq, wr, M, hu, us, hp, ps, pr, tp, pl, qs, rt, dp, sb, fl, cd⟩ := p
  obtain ⟨xp, xpc, xw, xwc, xs, xsc, xf, xfc, xc, xcc⟩ := A
  obtain ⟨yp, ypc, yw, ywc, ys, ysc, yf, yfc, yc, ycc⟩ := A2
  simp only at hs hL hM hF hC
  subst hs
  obtain ⟨nL, hnL⟩ : ∃ n, n = L.length := ⟨_, rfl⟩
  obtain ⟨nM, hnM⟩ : ∃ n, n = M.length := ⟨_, rfl⟩
  obtain ⟨nF, hnF⟩ : ∃ n, n = fl.length := ⟨_, rfl⟩
  obtain ⟨nC, hnC⟩ : ∃ n, n = cd.length := ⟨_, rfl⟩
  unfold Pk.agg Pk.cells
  simp only [List.length_nil]
  rw [← hnL, ← hnM, ← hnF, ← hnC]
  have b1 : Below w.heap.size w (w.alloc (.cells #[.int .i64 kd, .int .i64 id, .int .i64 rs, .slice xp nL xpc, .bool cl, .int .i64 kp, .string ct, .bool wh, .string wt, .string wp, .int .i64 wq, .bool wr, .slice xw nM xwc, .bool hu, .string us, .bool hp, .string ps, .bool pr, .string tp, .string pl, .int .i64 qs, .bool rt, .bool dp, .slice xs 0 xsc, .slice xf nF xfc, .slice xc nC xcc] 29)) := (Below.refl _ _).alloc (Nat.le_refl _) _
  have b2 : Below (w.alloc (.cells #[.int .i64 kd, .int .i64 id, .int .i64 rs, .slice xp nL xpc, .bool cl, .int .i64 kp, .string ct, .bool wh, .string wt, .string wp, .int .i64 wq, .bool wr, .slice xw nM xwc, .bool hu, .string us, .bool hp, .string ps, .bool pr, .string tp, .string pl, .int .i64 qs, .bool rt, .bool dp, .slice xs 0 xsc, .slice xf nF xfc, .slice xc nC xcc] 29)).heap.size (w.alloc (.cells #[.int .i64 kd, .int .i64 id, .int .i64 rs, .slice xp nL xpc, .bool cl, .int .i64 kp, .string ct, .bool wh, .string wt, .string wp, .int .i64 wq, .bool wr, .slice xw nM xwc, .bool hu, .string us, .bool hp, .string ps, .bool pr, .string tp, .string pl, .int .i64 qs, .bool rt, .bool dp, .slice xs 0 xsc, .slice xf nF xfc, .slice xc nC xcc] 29)) ((w.alloc (.cells #[.int .i64 kd, .int .i64 id, .int .i64 rs, .slice xp nL xpc, .bool cl, .int .i64 kp, .string ct, .bool wh, .string wt, .string wp, .int .i64 wq, .bool wr, .slice xw nM xwc, .bool hu, .string us, .bool hp, .string ps, .bool pr, .string tp, .string pl, .int .i64 qs, .bool rt, .bool dp, .slice xs 0 xsc, .slice xf nF xfc, .slice xc nC xcc] 29)).alloc (.cells #[.int .i64 kd, .int .i64 id, .int .i64 rs, .slice yp nL ypc, .bool cl, .int .i64 kp, .string ct, .bool wh, .string wt, .string wp, .int .i64 wq, .bool wr, .slice yw nM ywc, .bool hu, .string us, .bool hp, .string ps, .bool pr, .string tp, .string pl, .int .i64 qs, .bool rt, .bool dp, .slice ys 0 ysc, .slice yf nF yfc, .slice yc nC ycc] 29)) := (Below.refl _ _).alloc (Nat.le_refl _) _
  have K1 := (Blk.made w 29 #[.int .i64 kd, .int .i64 id, .int .i64 rs, .slice xp nL xpc, .bool cl, .int .i64 kp, .string ct, .bool wh, .string wt, .string wp, .int .i64 wq, .bool wr, .slice xw nM xwc, .bool hu, .string us, .bool hp, .string ps, .bool pr, .string tp, .string pl, .int .i64 qs, .bool rt, .bool dp, .slice xs 0 xsc, .slice xf nF xfc, .slice xc nC xcc]).below b2 (by rw [World.size_alloc]; omega)
  have K2 := Blk.made (w.alloc (.cells #[.int .i64 kd, .int .i64 id, .int .i64 rs, .slice xp nL xpc, .bool cl, .int .i64 kp, .string ct, .bool wh, .string wt, .string wp, .int .i64 wq, .bool wr, .slice xw nM xwc, .bool hu, .string us, .bool hp, .string ps, .bool pr, .string tp, .string pl, .int .i64 qs, .bool rt, .bool dp, .slice xs 0 xsc, .slice xf nF xfc, .slice xc nC xcc] 29)) 29 #[.int .i64 kd, .int .i64 id, .int .i64 rs, .slice yp nL ypc, .bool cl, .int .i64 kp, .string ct, .bool wh, .string wt, .string wp, .int .i64 wq, .bool wr, .slice yw nM ywc, .bool hu, .string us, .bool hp, .string ps, .bool pr, .string tp, .string pl, .int .i64 qs, .bool rt, .bool dp, .slice ys 0 ysc, .slice yf nF yfc, .slice yc nC ycc]
  rw [World.size_alloc] at K2
  have hb2 := b1.trans (b2.mono b1.size)
  have H1 := (h.below b1).below b2
  have H2 := (h2.below b1).below b2
  have HB2 := Lib.hid hb2
  have HS := Lib.hid (psame_any H1.pr H2.pr nL xpc ypc hnL (by omega))
  have HK1 := Lib.hid K1
  have HK2 := Lib.hid K2
  have HP1 := Lib.hid H1
  have HP2 := Lib.hid H2
  have HN := Lib.hid (And.intro hnL (And.intro hnM (And.intro hnF hnC)))
  have HM := Lib.hid hM
  have HF := Lib.hid hF
  have HC := Lib.hid hC
  clear b1 b2 K1 K2 hb2 H1 H2 h h2 hL hM hF hC hnL hnM hnF hnC
  go_enter Tryz.func38, Tryz.ntmps38
  go_wp2_with fail
  refine HS.out.mono ?_
  rintro x w3 ⟨rfl, d, hd⟩
  have hb3 := below_drew hd
  have k1 := HK1.out.below hb3 HK1.out.lt
  have k2 := HK2.out.below hb3 HK2.out.lt
  have HQ1 := Lib.hid (HP1.out.below hb3)
  have HQ2 := Lib.hid (HP2.out.below hb3)
  have HB3 := Lib.hid (HB2.out.trans (hb3.mono HB2.out.size))
  have HWS := Lib.hid (wsame_any HQ1.out.wr HQ2.out.wr (by have := HM.out; omega) wh wt wp wq wr xwc ywc)
  rw [← HN.out.2.1] at HWS
  have HL1 := Lib.hid k1
  have HL2 := Lib.hid k2
  have c7 : w3.cell? ⟨w.heap.size, 7, none⟩ = some (.bool wh) := k1.cell 7
  have c8 : w3.cell? ⟨w.heap.size, 8, none⟩ = some (.string wt) := k1.cell 8
  have c9 : w3.cell? ⟨w.heap.size, 9, none⟩ = some (.string wp) := k1.cell 9
  have c10 : w3.cell? ⟨w.heap.size, 10, none⟩ = some (.int .i64 wq) := k1.cell 10
  have c11 : w3.cell? ⟨w.heap.size, 11, none⟩ = some (.bool wr) := k1.cell 11
  have c12 : w3.cell? ⟨w.heap.size, 12, none⟩ = some (.slice xw nM xwc) := k1.cell 12
  have d7 : w3.cell? ⟨w.heap.size + 1, 7, none⟩ = some (.bool wh) := k2.cell 7
  have d8 : w3.cell? ⟨w.heap.size + 1, 8, none⟩ = some (.string wt) := k2.cell 8
  have d9 : w3.cell? ⟨w.heap.size + 1, 9, none⟩ = some (.string wp) := k2.cell 9
  have d10 : w3.cell? ⟨w.heap.size + 1, 10, none⟩ = some (.int .i64 wq) := k2.cell 10
  have d11 : w3.cell? ⟨w.heap.size + 1, 11, none⟩ = some (.bool wr) := k2.cell 11
  have d12 : w3.cell? ⟨w.heap.size + 1, 12, none⟩ = some (.slice yw nM ywc) := k2.cell 12
  clear hd hb3 k1 k2 HS HK1 HK2 HP1 HP2 HB2
  go_wp2_with fail
  refine HWS.out.mono ?_
  rintro x w4 ⟨rfl, hb4⟩
  have k1 := HL1.out.below hb4 HL1.out.lt
  have k2 := HL2.out.below hb4 HL2.out.lt
  have HR1 := Lib.hid (HQ1.out.below hb4)
  have HR2 := Lib.hid (HQ2.out.below hb4)
  have HB4 := Lib.hid (HB3.out.trans (hb4.mono HB3.out.size))
  have e23 : w4.cell? ⟨w.heap.size, 23, none⟩ = some (.slice xs 0 xsc) := k1.cell 23
  have e24 : w4.cell? ⟨w.heap.size, 24, none⟩ = some (.slice xf nF xfc) := k1.cell 24
  have f23 : w4.cell? ⟨w.heap.size + 1, 23, none⟩ = some (.slice ys 0 ysc) := k2.cell 23
  have f24 : w4.cell? ⟨w.heap.size + 1, 24, none⟩ = some (.slice yf nF yfc) := k2.cell 24
  have HT := Lib.hid (tsame_any HR1.out.fl HR2.out.fl nF xfc yfc HN.out.2.2.1 (by have := HN.out.2.2.1; have := HF.out; omega))
  have HM1 := Lib.hid k1
  have HM2 := Lib.hid k2
  clear c7 c8 c9 c10 c11 c12 d7 d8 d9 d10 d11 d12 hb4 k1 k2 HWS HL1 HL2 HQ1 HQ2 HB3
  go_wp2_with fail
  refine (ssame_nil xsc ysc).mono ?_
  rintro x w5 ⟨rfl, rfl⟩
  go_wp2_with fail
  refine HT.out.mono ?_
  rintro x w6 ⟨rfl, d, hd⟩
  have hb6 := below_drew hd
  have k1 := HM1.out.below hb6 HM1.out.lt
  have k2 := HM2.out.below hb6 HM2.out.lt
  have HB6 := Lib.hid (HB4.out.trans (hb6.mono HB4.out.size))
  have e25 : w6.cell? ⟨w.heap.size, 25, none⟩ = some (.slice xc nC xcc) := k1.cell 25
  have f25 : w6.cell? ⟨w.heap.size + 1, 25, none⟩ = some (.slice yc nC ycc) := k2.cell 25
  have HI := Lib.hid (isame_any (HR1.out.below hb6).cd (HR2.out.below hb6).cd nC xcc ycc HN.out.2.2.2 (by have := HN.out.2.2.2; have := HC.out; omega))
  clear e23 e24 f23 f24 hd hb6 k1 k2 HT HM1 HM2 HR1 HR2 HB4
  go_wp2_with fail
  refine HI.out.mono ?_
  rintro x w7 ⟨rfl, d, hd⟩
  have HB7 := Lib.hid (HB6.out.trans ((below_drew hd).mono HB6.out.size))
  clear hd HI
  go_wp2_with fail
  go_ret
  exact ⟨rfl, HB7.out⟩
end Go.Proofs.YtinhecggmakbnaaGreatDoor
namespace Go.Proofs.YtinhecggmakbnaaGreatDoor
set_option maxRecDepth 100000
open Go.RowKit Go.Extern.Stop Go.Stop Go.Extern
theorem plL_take (L : PL) (k : Nat) (hk : k < L.length) : plL (L.take (k + 1)) = plL (L.take k) ++ [plV (L.getD k p0)] := by
  unfold plL
  rw [List.take_succ_eq_append_getElem hk, List.map_append, List.getD_eq_getElem?_getD, List.getElem?_eq_getElem hk]
  rfl
section
variable {w w' : World} {B : Nat} {A : Option Addr} {L : PL}
set_option maxHeartbeats 8000000 in
theorem rplain_any (n c : Nat) (hn : n = L.length) (h : PIn w B A L) (hm : n ≤ 1000) : Calls Tryz.prog 157 #[.slice A n c] w (WoSays w (plL L)) := by
  have HN := Lib.hid hn
  have HA := Lib.hid h
  have HI0 : Hid (WoIn w w B A L (.slice none 0 0) (plL (L.take 0))) := Lib.hid ⟨PRow.nil _ _, Below.refl _ _⟩
  clear hn h
  go_enter Tryz.func157, Tryz.ntmps157
  go_wp2_with fail
  go_loopw [3, 4] (fun u j wr => ∃ k : Nat, k ≤ n ∧ j = .int .i64 k ∧ Hid (WoIn w wr B A L u (plL (L.take k)))) (fun _ j _ => n - (intOf j).toNat)
  case atStart => exact ⟨0, by omega, rfl, HI0⟩
  case round =>
    obtain ⟨k, hk, rfl, HI⟩ := hrel
    obtain ⟨av, nv, cv, rfl, hnv, _⟩ := HI.out.row.some_form
    by_cases hlt : k < n
    · have hkL : k < L.length := by have := HN.out; omega
      obtain ⟨g, off, rfl, hc, _⟩ := HA.out (by omega)
      have hcc := hc k hkL
      have hcw := hcc.at (w' := wr) (HI.out.bel.block g (lt_of_cell hcc.c0))
      have hpl := plL_take L k hkL
      have hml : (plL (L.take k)).length ≤ 1000 := by
        rw [plL_len, List.length_take]
        omega
      have hglt := lt_of_cell hcw.c0
      generalize L.getD k p0 = p at *
      obtain ⟨pi, pn, ps, pv⟩ := p
      obtain ⟨c0, c1, c2, c3⟩ := hcw
      have hb1 : ∀ cs, Below wr.heap.size wr (wr.alloc (.cells cs 102)) := fun cs => (Below.refl _ _).alloc (Nat.le_refl _) _
      have hcell : ∀ (cs : Array Value) (o : Nat) (u : Value), wr.cell? ⟨g, o, none⟩ = some u → (wr.alloc (.cells cs 102)).cell? ⟨g, o, none⟩ = some u := fun cs o u hu => ((hb1 cs).cell (p := ⟨g, o, none⟩) hglt).trans hu
      have HI1 := Lib.hid (fun cs => HI.out.below (hb1 cs))
      have HTY := Lib.hid (fun W : World => rtype06_any pi W)
      have HCE := Lib.hid hcell
      have hty := plain_cases pi
      have hpv : plV ⟨pi, pn, ps, pv⟩ = if typeI pi = 9 then ⟨pi, 0, ps, pv⟩ else if typeI pi = 6 ∨ typeI pi = 7 then ⟨pi, 0, ps, ⟨#[]⟩⟩ else ⟨pi, pn, ⟨#[]⟩, ⟨#[]⟩⟩ := rfl
      rw [hpv] at hpl
      have hv := typeI_vals pi
      obtain ⟨t, ht⟩ : ∃ t, t = typeI pi := ⟨_, rfl⟩
      rw [← ht] at HTY hty hpl hv
      have HML := Lib.hid (show (plL (L.take k)).length ≤ 100000 from by omega)
      clear ht hpv hml hc hcc hcell hb1 HI0 hnv
      by_cases h9 : t = 9
      · rw [if_pos h9] at hpl
        subst h9
        have HPL := Lib.hid hpl
        have q0 := HCE.out #[.int .i64 pi, .int .i64 0, .string ⟨#[]⟩, .string ⟨#[]⟩] _ _ c0
        have q1 := HCE.out #[.int .i64 pi, .int .i64 0, .string ⟨#[]⟩, .string ⟨#[]⟩] _ _ c1
        have q2 := HCE.out #[.int .i64 pi, .int .i64 0, .string ⟨#[]⟩, .string ⟨#[]⟩] _ _ c2
        have q3 := HCE.out #[.int .i64 pi, .int .i64 0, .string ⟨#[]⟩, .string ⟨#[]⟩] _ _ c3
        have r3 := HCE.out #[.int .i64 pi, .int .i64 0, .string ps, .string ⟨#[]⟩] _ _ c3
        have HS1 := Lib.hid (HI1.out #[.int .i64 pi, .int .i64 0, .string ps, .string pv]).bel.size
        clear hpl hty hv
        go_wp2_with fail
        refine (HTY.out _).mono ?_
        rintro x w1 ⟨rfl, rfl⟩
        go_wp2_with (at_builtin; go_must (refine append_prop ⟨pi, 0, ps, pv⟩ rfl _ _ rfl (HI1.out #[.int .i64 pi, .int .i64 0, .string ps, .string pv]).row HS1.out rfl (wr.heap.size + 1) 1 rfl (by simp) HML.out ?_))
        intro v7 w7 hn7
        have HX := Lib.hid (show WoIn w w7 B (some ⟨g, off, none⟩) L v7 (plL (L.take (k + 1))) from by rw [HPL.out]; exact (HI1.out #[.int .i64 pi, .int .i64 0, .string ps, .string pv]).app hn7)
        clear hn7
        go_wp2_with fail
        go_roundw
        case rel => exact ⟨k + 1, by omega, by go_num, HX⟩
        case measure => simp [intOf]; omega
      · by_cases h6 : t = 6 ∨ t = 7
        · rw [if_neg h9, if_pos h6] at hpl
          rcases h6 with h6 | h6
          · subst h6
            have HPL := Lib.hid hpl
            have q0 := HCE.out #[.int .i64 pi, .int .i64 0, .string ⟨#[]⟩, .string ⟨#[]⟩] _ _ c0
            have q1 := HCE.out #[.int .i64 pi, .int .i64 0, .string ⟨#[]⟩, .string ⟨#[]⟩] _ _ c1
            have q2 := HCE.out #[.int .i64 pi, .int .i64 0, .string ⟨#[]⟩, .string ⟨#[]⟩] _ _ c2
            have q3 := HCE.out #[.int .i64 pi, .int .i64 0, .string ⟨#[]⟩, .string ⟨#[]⟩] _ _ c3
            have r3 := HCE.out #[.int .i64 pi, .int .i64 0, .string ps, .string ⟨#[]⟩] _ _ c3
            have HS1 := Lib.hid (HI1.out #[.int .i64 pi, .int .i64 0, .string ps, .string ⟨#[]⟩]).bel.size
            clear hpl hty hv
            go_wp2_with fail
            refine (HTY.out _).mono ?_
            rintro x w1 ⟨rfl, rfl⟩
            go_wp2_with (at_builtin; go_must (refine append_prop ⟨pi, 0, ps, ⟨#[]⟩⟩ rfl _ _ rfl (HI1.out #[.int .i64 pi, .int .i64 0, .string ps, .string ⟨#[]⟩]).row HS1.out rfl (wr.heap.size + 1) 1 rfl (by simp) HML.out ?_))
            intro v7 w7 hn7
            have HX := Lib.hid (show WoIn w w7 B (some ⟨g, off, none⟩) L v7 (plL (L.take (k + 1))) from by rw [HPL.out]; exact (HI1.out #[.int .i64 pi, .int .i64 0, .string ps, .string ⟨#[]⟩]).app hn7)
            clear hn7
            go_wp2_with fail
            go_roundw
            case rel => exact ⟨k + 1, by omega, by go_num, HX⟩
            case measure => simp [intOf]; omega
          · subst h6
            have HPL := Lib.hid hpl
            have q0 := HCE.out #[.int .i64 pi, .int .i64 0, .string ⟨#[]⟩, .string ⟨#[]⟩] _ _ c0
            have q1 := HCE.out #[.int .i64 pi, .int .i64 0, .string ⟨#[]⟩, .string ⟨#[]⟩] _ _ c1
            have q2 := HCE.out #[.int .i64 pi, .int .i64 0, .string ⟨#[]⟩, .string ⟨#[]⟩] _ _ c2
            have q3 := HCE.out #[.int .i64 pi, .int .i64 0, .string ⟨#[]⟩, .string ⟨#[]⟩] _ _ c3
            have r3 := HCE.out #[.int .i64 pi, .int .i64 0, .string ps, .string ⟨#[]⟩] _ _ c3
            have HS1 := Lib.hid (HI1.out #[.int .i64 pi, .int .i64 0, .string ps, .string ⟨#[]⟩]).bel.size
            clear hpl hty hv
            go_wp2_with fail
            refine (HTY.out _).mono ?_
            rintro x w1 ⟨rfl, rfl⟩
            go_wp2_with (at_builtin; go_must (refine append_prop ⟨pi, 0, ps, ⟨#[]⟩⟩ rfl _ _ rfl (HI1.out #[.int .i64 pi, .int .i64 0, .string ps, .string ⟨#[]⟩]).row HS1.out rfl (wr.heap.size + 1) 1 rfl (by simp) HML.out ?_))
            intro v7 w7 hn7
            have HX := Lib.hid (show WoIn w w7 B (some ⟨g, off, none⟩) L v7 (plL (L.take (k + 1))) from by rw [HPL.out]; exact (HI1.out #[.int .i64 pi, .int .i64 0, .string ps, .string ⟨#[]⟩]).app hn7)
            clear hn7
            go_wp2_with fail
            go_roundw
            case rel => exact ⟨k + 1, by omega, by go_num, HX⟩
            case measure => simp [intOf]; omega
        · rw [if_neg h9, if_neg h6] at hpl
          have n9 : ¬ (t : Int) = 9 := by omega
          have n6 : ¬ (t : Int) = 6 := by omega
          have n7 : ¬ (t : Int) = 7 := by omega
          have HPL := Lib.hid hpl
          have q0 := HCE.out #[.int .i64 pi, .int .i64 0, .string ⟨#[]⟩, .string ⟨#[]⟩] _ _ c0
          have q1 := HCE.out #[.int .i64 pi, .int .i64 0, .string ⟨#[]⟩, .string ⟨#[]⟩] _ _ c1
          have q2 := HCE.out #[.int .i64 pi, .int .i64 0, .string ⟨#[]⟩, .string ⟨#[]⟩] _ _ c2
          have q3 := HCE.out #[.int .i64 pi, .int .i64 0, .string ⟨#[]⟩, .string ⟨#[]⟩] _ _ c3
          have HS1 := Lib.hid (HI1.out #[.int .i64 pi, .int .i64 pn, .string ⟨#[]⟩, .string ⟨#[]⟩]).bel.size
          clear hpl hty hv
          go_wp2_with fail
          refine (HTY.out _).mono ?_
          rintro x w1 ⟨rfl, rfl⟩
          go_wp2_with (at_builtin; go_must (refine append_prop ⟨pi, pn, ⟨#[]⟩, ⟨#[]⟩⟩ rfl _ _ rfl (HI1.out #[.int .i64 pi, .int .i64 pn, .string ⟨#[]⟩, .string ⟨#[]⟩]).row HS1.out rfl (wr.heap.size + 1) 1 rfl (by simp) HML.out ?_))
          intro v7 w7 hn7
          have HX := Lib.hid (show WoIn w w7 B (some ⟨g, off, none⟩) L v7 (plL (L.take (k + 1))) from by rw [HPL.out]; exact (HI1.out #[.int .i64 pi, .int .i64 pn, .string ⟨#[]⟩, .string ⟨#[]⟩]).app hn7)
          clear hn7
          go_wp2_with fail
          go_roundw
          case rel => exact ⟨k + 1, by omega, by go_num, HX⟩
          case measure => simp [intOf]; omega
    · have HX := Lib.hid (show WoSays w (plL L) (.returned (.slice av nv cv)) wr from by
        have h1 := HI.out
        rw [List.take_of_length_le (by have := HN.out; omega)] at h1 hnv
        exact ⟨av, nv, cv, rfl, hnv, h1.row, h1.bel⟩)
      clear hnv HI0
      go_wp2_with fail
      go_ret
      exact HX.out
end
end Go.Proofs.YtinhecggmakbnaaGreatDoor
namespace Go.Proofs.YtinhecggmakbnaaGreatDoor
set_option maxRecDepth 100000
open Go.ChangeShapes Go.WideShapes Go.RowKit Go.Deep Go.Extern.Stop Go.Stop Go.Extern
theorem err_zero8 {w : World} {S : Nat → Addr} {r : Int} {no a : Nat} {e : Value} (h : ErrOf w S r no a e) (h0 : no = 0) : e = .nilIface := by
  unfold ErrOf at h
  rw [if_pos h0] at h
  exact h
def BrSays (w : World) (q : Pk) (x : Ending) (w' : World) : Prop := ∃ A, x = .returned (q.agg A) ∧ PkIn w' w.heap.size A q ∧ Below w.heap.size w w'
structure BrIn (w : World) (c : Array Value) (W : World) : Prop where
  bel : Below w.heap.size w W
  box : Blk W w.heap.size 29 c
  res : ∃ o, Blk W (w.heap.size + 1) 29 o ∧ o.size = 26
theorem BrIn.below {w W W' : World} {c : Array Value} (h : BrIn w c W) (hb : Below W.heap.size W W') : BrIn w c W' := by
  obtain ⟨o, ho, hs⟩ := h.res
  exact ⟨h.bel.trans (hb.mono h.bel.size), h.box.below hb h.box.lt, o, ho.below hb ho.lt, hs⟩
theorem BrIn.drewN {w W : World} {c : Array Value} (h : BrIn w c W) (d : Nat) : BrIn w c (W.drewN d) := h.below (below_drewN (Below.refl _ _) d)
theorem BrIn.row {w W : World} {c y : Array Value} (h : BrIn w c W) (hy : y.size = 26) : BrIn w c (W.setRow (w.heap.size + 1) y) := by
  obtain ⟨o, ho, hs⟩ := h.res
  exact ⟨below_row h.bel (by omega) y, h.box.fr (setRow_fr W _ y) (fun hm => by rw [List.mem_singleton] at hm; omega), y, setRow_blk ho y, hy⟩
/-- Few parts, and no subscriptions. -/
structure SmOk (p : Pk) : Prop where
  sb : p.subs = []
  pr : p.props.length ≤ 1000
  wr : p.wProps.length ≤ 1000
  fl : p.filters.length ≤ 1000
  cd : p.codes.length ≤ 1000
theorem smOk_zero : SmOk pk0 := ⟨rfl, Nat.zero_le _, Nat.zero_le _, Nat.zero_le _, Nat.zero_le _⟩
theorem same_ok {w : World} {B B2 : Nat} {A A2 : PkA} {p : Pk} (h : PkIn w B A p) (h2 : PkIn w B2 A2 p) (hk : SmOk p) :
    Calls Tryz.prog 38 #[p.agg A, p.agg A2] w fun x w' => x = .returned (.bool true) ∧ Below w.heap.size w w' := same08 h h2 hk.sb hk.pr hk.wr hk.fl hk.cd
theorem small_mem {L : PL} (h : SmallP L) : (∀ q ∈ L, q.s.size < 65536 ∧ q.v.size < 65536) ∧ (wrAll (actsL6 L)).L.length ≤ 268435455 := by
  refine ⟨fun q hq => by have := h.2.1 q hq; omega, ?_⟩
  have h1 := wr6_len h L.length
  rw [List.take_length] at h1
  omega
theorem small_few {L : PL} (h : SmallP L) : L.length ≤ 1000 := by
  have := h.1
  omega
end Go.Proofs.YtinhecggmakbnaaGreatDoor
namespace Go.Proofs.YtinhecggmakbnaaGreatDoor
set_option maxRecDepth 100000
open Go.ChangeShapes Go.WideShapes Go.RowKit Go.Deep Go.Extern.Stop Go.Stop Go.Extern
theorem thF_id (k : Int) (s : ByteArray) : thF k s = if (idR s ⟨0, 0, 0⟩).1.no = 0 then (if (readF k s (idR s ⟨0, 0, 0⟩).2.2).1.no = 0 then ⟨e00, (idR s ⟨0, 0, 0⟩).2.1, (readF k s (idR s ⟨0, 0, 0⟩).2.2).1.L, (readF k s (idR s ⟨0, 0, 0⟩).2.2).2⟩
    else ⟨⟨(readF k s (idR s ⟨0, 0, 0⟩).2.2).1.no, (readF k s (idR s ⟨0, 0, 0⟩).2.2).1.r, (readF k s (idR s ⟨0, 0, 0⟩).2.2).1.at_⟩, 0, [], (readF k s (idR s ⟨0, 0, 0⟩).2.2).2⟩) else ⟨(idR s ⟨0, 0, 0⟩).1, 0, [], (idR s ⟨0, 0, 0⟩).2.2⟩ := by
  unfold thF idR
  by_cases c1 : (rNum s 2 ⟨0, 0, 0⟩).2.no = 0
  · rw [if_pos c1, if_pos c1]
    by_cases c2 : (rNum s 2 ⟨0, 0, 0⟩).1 = 0
    · rw [if_pos c2, if_pos c2, if_neg (show ¬ (3 : Nat) = 0 by decide)]
    · rw [if_neg c2, if_neg c2, if_pos (show e00.no = 0 from rfl)]
  · rw [if_neg c1, if_neg c1, if_neg c1]
/-- The packet that TakeHead tells. -/
def thP (k : Int) (q : TH) : Pk := if q.e.no = 0 then pkS k q.id q.L [] [] [] else pk0
theorem PkIn.ofS {w : World} {B : Nat} {k id : Int} {L : PL} {a : Option Addr} {c : Nat} (h : PIn w B a L) (hc : L.length ≤ c) : PkIn w B (paR a c) (pkS k id L [] [] []) :=
  ⟨h, hc, PIn.nil _ _ _, Nat.le_refl _, CIn.nil _ _ _ _, CIn.nil _ _ _ _, CIn.nil _ _ _ _⟩
section
variable {z' w w' W : World} {S : Nat → Addr} {g k : Nat} {s : ByteArray} {R : RV} {old : Array Value}
theorem RNext.row (h : RNext w W S g s R) (hb : Blk W k 29 old) (hk : w.heap.size ≤ k) (y : Array Value) : RNext w (W.setRow k y) S g s R :=
  ⟨h.obj.fr (setRow_fr W k y) (fun hm => by
    rw [List.mem_singleton] at hm
    exact rd_ne8 h.obj hb hm.symm) (pkt_nof hb), h.fr.trans (setRow_fr W k y) fun j hj hlt => by
    rw [List.mem_singleton] at hj
    omega⟩
def ThSays (w : World) (S : Nat → Addr) (g : Nat) (s : ByteArray) (k : Int) (q : TH) (x : Ending) (w' : World) : Prop :=
  ∃ A e, x = .returned (.tuple #[(thP k q).agg A, e]) ∧ (∀ B, B ≤ w.heap.size → PkIn w' B A (thP k q)) ∧ ErrOf w' S q.e.r q.e.no q.e.at_ e ∧ RNext w w' S g s q.R
set_option maxHeartbeats 8000000 in
theorem th_any (hE : Env z' S) (hz : Below z'.heap.size z' w) (hg : z'.heap.size ≤ g) (ho : RObj w S g s ⟨0, 0, 0⟩) (hs : s.size ≤ 900000) (k : Int) :
    Calls Tryz.prog 141 #[.pointer (some ⟨g, 0, none⟩), .int .i64 k] w (ThSays w S g s k (thF k s)) := by
  obtain ⟨z, hzz⟩ : ∃ z, z = pk0.cells pa0 := ⟨_, rfl⟩
  have HZ := Lib.hid hzz
  have HZS := Lib.hid (show z.size = 26 by rw [hzz]; rfl)
  have HZ1 := Lib.hid (show z.all (·.oneCell') = true by rw [hzz]; exact pk_one _ _)
  obtain ⟨q, hq⟩ : ∃ q, q = thF k s := ⟨_, rfl⟩
  rw [← hq]
  rw [thF_id] at hq
  obtain ⟨W1, hW1⟩ : ∃ W, W = w.alloc (.cells z 29) := ⟨_, rfl⟩
  have b1 : Below w.heap.size w W1 := by rw [hW1]; exact (Below.refl _ _).alloc (Nat.le_refl _) _
  have r1 : Blk W1 w.heap.size 29 z := by rw [hW1]; exact Blk.made _ _ _
  have hz1 := hz.trans (b1.mono hz.size)
  have hn1 := ho.step b1
  have hid := id_any hE hz1 hg hn1.obj hs
  obtain ⟨⟨ie, iv, iR⟩, hi⟩ : ∃ V, V = idR s ⟨0, 0, 0⟩ := ⟨_, rfl⟩
  rw [← hi] at hid hq
  simp only at hq
  have HID := Lib.hid hid
  have HQ := Lib.hid hq
  have HE := Lib.hid hE
  have HZ1' := Lib.hid hz1
  have HG := Lib.hid hg
  have HN1 := Lib.hid hn1
  have R1 := Lib.hid r1
  have HSZ := Lib.hid hs
  have HW1 := Lib.hid hW1
  clear hE hz hg ho hs hzz hq b1 r1 hz1 hn1 hid hi hW1
  go_enter Tryz.func141, Tryz.ntmps141
  go_wp2_with (first | refine wpk_alloc HZ.out rfl rfl ?_)
  rw [← HW1.out]
  refine HID.out.mono ?_
  rintro x w2 ⟨e2, rfl, he2, hn2⟩
  simp only at he2 hn2
  have r2 := R1.out.rnext HN1.out.obj hn2
  have HN2 := Lib.hid (HN1.out.trans hn2)
  have HZ2 := Lib.hid (hn2.later HG.out HZ1'.out.size HZ1'.out)
  have R2 := Lib.hid r2
  clear hn2 r2 HID HN1 R1 HZ1'
  have hq := HQ.out
  by_cases h0 : ie.no = 0
  · rw [if_pos h0] at hq
    unfold ErrOf at he2
    rw [if_pos h0] at he2
    subst he2
    have hrd := pread_any HE.out HZ2.out HG.out HN2.out.obj HSZ.out k
    obtain ⟨⟨⟨qn, qr, qa, M⟩, R3⟩, hrq⟩ : ∃ V, V = readF k s iR := ⟨_, rfl⟩
    rw [← hrq] at hrd hq
    simp only at hq
    have HRD := Lib.hid hrd
    have HQ2 := Lib.hid hq
    clear hrd hrq hq HQ h0
    go_wp2_with fail
    refine HRD.out.mono ?_
    rintro x w3 ⟨v3, e3, rfl, hr3, he3, hn3⟩
    simp only at hr3 he3 hn3
    have r3 := R2.out.rnext HN2.out.obj hn3
    have hn13 := HN2.out.trans hn3
    have hsz := HN2.out.fr.size
    obtain ⟨a3, n3, c3, rfl, hnn3, hcc3⟩ := hr3.some_form
    have hq := HQ2.out
    by_cases h2 : qn = 0
    · subst h2
      rw [if_pos rfl] at hq
      unfold ErrOf at he3
      rw [if_pos rfl] at he3
      subst he3
      obtain ⟨y, hy⟩ : ∃ y, y = (pkS k iv M [] [] []).cells (paR a3 c3) := ⟨_, rfl⟩
      have HYY := Lib.hid (show y = #[.int .i64 k, .int .i64 iv, .int .i64 0, .slice a3 n3 c3, .bool false, .int .i64 0, .string ⟨#[]⟩, .bool false, .string ⟨#[]⟩, .string ⟨#[]⟩, .int .i64 0, .bool false, .slice none 0 0, .bool false, .string ⟨#[]⟩, .bool false, .string ⟨#[]⟩, .bool false, .string ⟨#[]⟩, .string ⟨#[]⟩, .int .i64 0, .bool false, .bool false, .slice none 0 0, .slice none 0 0, .slice none 0 0] from by rw [hy, hnn3]; rfl)
      have HYS := Lib.hid (show y.size = 26 by rw [hy]; rfl)
      have HY1 := Lib.hid (show y.all (·.oneCell') = true by rw [hy]; exact pk_one _ _)
      have hX : ThSays w S g s k q (.returned (.tuple #[.agg y, .nilIface])) (w3.setRow w.heap.size y) := by
        have e : thP k q = pkS k iv M [] [] [] := by rw [hq]; rfl
        refine ⟨paR a3 c3, .nilIface, by rw [e, hy]; rfl, fun B hB => ?_, by rw [hq]; exact ErrOf.none, ?_⟩
        · rw [e]
          exact (PkIn.ofS (hr3.pin (B' := B)) (by omega)).row r3 hB y
        · rw [hq]
          exact hn13.row r3 (Nat.le_refl _) y
      have HX := Lib.hid hX
      have HR := Lib.hid r3
      have HL := Lib.hid (setRow_blk r3 y)
      clear hX hr3 hn3 r3 hn13 hy hq hnn3 hcc3 HRD HQ2
      go_wp2_with (first | refine wpk_store HR.out HZS.out HYS.out HY1.out _ _ rfl rfl rfl (by rw [HYY.out]; rfl) ?_)
      exact bodyPost_ret (v := .tuple #[.agg y, .nilIface]) (res_pkt (i := 4) (j := 5) rfl rfl rfl HL.out HYS.out) rfl HX.out
    · rw [if_neg h2] at hq
      obtain ⟨t3, u3, rfl⟩ := err_iface he3 h2
      have hX : ThSays w S g s k q (.returned (.tuple #[.agg z, .iface t3 u3])) (w3.setRow w.heap.size z) := by
        have e : thP k q = pk0 := by rw [hq]; unfold thP; rw [if_neg h2]
        refine ⟨pa0, .iface t3 u3, by rw [e, HZ.out]; rfl, fun B _ => by rw [e]; exact PkIn.zero _ _, by rw [hq]; exact err_row he3 r3 z, ?_⟩
        rw [hq]
        exact hn13.row r3 (Nat.le_refl _) z
      have HX := Lib.hid hX
      have HR := Lib.hid r3
      have HL := Lib.hid (setRow_blk r3 z)
      clear hX hr3 hn3 r3 hn13 hq hnn3 hcc3 he3 HRD HQ2
      go_wp2_with (first | refine wpk_build HZ.out rfl rfl ?_ | refine wpk_store HR.out HZS.out HZS.out HZ1.out _ _ rfl rfl rfl rfl ?_)
      exact bodyPost_ret (v := .tuple #[.agg z, .iface t3 u3]) (res_pkt (i := 4) (j := 5) rfl rfl rfl HL.out HZS.out) rfl HX.out
  · rw [if_neg h0] at hq
    obtain ⟨t2, u2, rfl⟩ := err_iface he2 h0
    have hX : ThSays w S g s k q (.returned (.tuple #[.agg z, .iface t2 u2])) (w2.setRow w.heap.size z) := by
      have e : thP k q = pk0 := by rw [hq]; unfold thP; rw [if_neg h0]
      refine ⟨pa0, .iface t2 u2, by rw [e, HZ.out]; rfl, fun B _ => by rw [e]; exact PkIn.zero _ _, by rw [hq]; exact err_row he2 R2.out z, ?_⟩
      rw [hq]
      exact HN2.out.row R2.out (Nat.le_refl _) z
    have HX := Lib.hid hX
    have HL := Lib.hid (setRow_blk R2.out z)
    clear hX hq he2 HQ
    go_wp2_with (first | refine wpk_build HZ.out rfl rfl ?_ | refine wpk_store R2.out HZS.out HZS.out HZ1.out _ _ rfl rfl rfl rfl ?_)
    exact bodyPost_ret (v := .tuple #[.agg z, .iface t2 u2]) (res_pkt (i := 4) (j := 5) rfl rfl rfl HL.out HZS.out) rfl HX.out
end
section
variable {w w' : World} {S : Nat → Addr} {B g : Nat} {v : Value} {A : PkA} {p : Pk}
/-- What PutHead leaves. -/
def phR (p : Pk) : Er × EV := if (encR p.kind p.props).no = 0 then (e00, phW p) else (⟨(encR p.kind p.props).no, (encR p.kind p.props).r, (encR p.kind p.props).at_⟩, w0)
set_option maxHeartbeats 8000000 in
theorem ph_any (hE : Env w S) (h : WObj w S B g v w0) (hp : PkIn w w.heap.size A p) (hS : SmallP p.props) :
    Calls Tryz.prog 69 #[.pointer (some ⟨g, 0, none⟩), p.agg A] w (PtSays w S B g v (phR p)) := by
  obtain ⟨q, hq⟩ : ∃ q, q = phR p := ⟨_, rfl⟩
  rw [← hq]
  unfold phR phW at hq
  obtain ⟨c, hc⟩ : ∃ c, c = p.cells A := ⟨_, rfl⟩
  rw [show p.agg A = .agg c from by rw [hc]; rfl]
  have HCS := Lib.hid (show c.size = 26 by rw [hc]; rfl)
  have hc0 : c[0]? = some (.int .i64 p.kind) := by rw [hc]; rfl
  have hc1 : c[1]? = some (.int .i64 p.id) := by rw [hc]; rfl
  have hc3 : c[3]? = some (.slice A.pa p.props.length A.pc) := by rw [hc]; rfl
  obtain ⟨W1, hW1⟩ : ∃ W, W = w.alloc (.cells c 29) := ⟨_, rfl⟩
  have b1 : Below w.heap.size w W1 := by rw [hW1]; exact (Below.refl _ _).alloc (Nat.le_refl _) _
  have r1 : Blk W1 w.heap.size 29 c := by rw [hW1]; exact Blk.made _ _ _
  have k0 : W1.cell? ⟨w.heap.size, 0, none⟩ = some (.int .i64 p.kind) := (r1.cell 0).trans hc0
  have k3 : W1.cell? ⟨w.heap.size, 3, none⟩ = some (.slice A.pa p.props.length A.pc) := (r1.cell 3).trans hc3
  have hec := encode_any (hE.later b1) p.kind p.props.length A.pc rfl ((hp.pr.below b1).mono b1.size) hS hp.pc
  have hel := encR_len (k := p.kind) hS
  obtain ⟨⟨en, er, ea, eb⟩, hE2⟩ : ∃ E, E = encR p.kind p.props := ⟨_, rfl⟩
  rw [← hE2] at hec hel hq
  simp only at hec hel hq
  have HEC := Lib.hid hec
  have HEL := Lib.hid hel
  have HQ := Lib.hid hq
  have HB1 := Lib.hid b1
  have R1 := Lib.hid r1
  have HO1 := Lib.hid (h.step b1)
  have HE := Lib.hid (hE.later b1)
  have HC1 := Lib.hid hc1
  have HW1 := Lib.hid hW1
  rw [hW1] at k0 k3
  clear hq hc hc0 hc1 hc3 b1 r1 hec hel hE2 hE h hp hS hW1
  go_enter Tryz.func69, Tryz.ntmps69
  go_wp2_with (refine wpk_box HCS.out _ rfl rfl rfl ?_)
  rw [← HW1.out]
  refine HEC.out.mono ?_
  rintro x w2 ⟨e2, rfl, he2, hb2⟩
  simp only at he2 ⊢
  have HN2 := Lib.hid (HO1.out.below hb2)
  have r2 := R1.out.below hb2 R1.out.lt
  have R2 := Lib.hid r2
  have HE2 := Lib.hid (HE.out.later hb2)
  have hq := HQ.out
  clear k0 k3 hb2 HEC R1 HO1 HE HW1
  by_cases h0 : en = 0
  · rw [if_pos h0] at hq
    unfold ErrOf at he2
    rw [if_pos h0] at he2
    subst he2
    have k1 : w2.cell? ⟨w.heap.size, 1, none⟩ = some (.int .i64 p.id) := (r2.cell 1).trans HC1.out
    have HU := Lib.hid (wu16_any HE2.out HN2.out.obj (by decide) p.id)
    have HQ2 := Lib.hid hq
    clear hq h0 r2 HQ
    go_wp2_with fail
    refine HU.out.mono ?_
    rintro x w3 ⟨rfl, v3, hn3⟩
    have HN3 := Lib.hid (HN2.out.trans hn3)
    have HR := Lib.hid (wraw_any hn3.obj (by
      have h1 := stepW_len w0 (numE 2 p.id)
      have h2 := numE_len 2 p.id
      have h3 : w0.L.length = 0 := rfl
      omega) ⟨eb.toArray⟩ (by rw [bsize]; have := HEL.out; omega))
    clear k1 hn3 HU HN2
    go_wp2_with fail
    refine HR.out.mono ?_
    rintro x w4 ⟨rfl, v4, hn4⟩
    have HX := Lib.hid (show PtSays w S B g v q (.returned .nilIface) w4 from by
      rw [HQ2.out]
      exact ⟨_, _, rfl, ErrOf.none, HN3.out.trans hn4⟩)
    clear hn4 HR HN3 HQ2
    go_wp2_with fail
    go_ret
    exact HX.out
  · rw [if_neg h0] at hq
    obtain ⟨t2, u2, rfl⟩ := err_iface he2 h0
    have HX := Lib.hid (show PtSays w S B g v q (.returned (.iface t2 u2)) w2 from by
      rw [hq]
      exact ⟨_, _, rfl, he2, HN2.out⟩)
    clear hq he2 r2 HQ HN2
    go_wp2_with fail
    go_ret
    exact HX.out
end
end Go.Proofs.YtinhecggmakbnaaGreatDoor
namespace Go.Proofs.YtinhecggmakbnaaGreatDoor
set_option maxRecDepth 100000
open Go.ChangeShapes Go.WideShapes Go.RowKit Go.Deep Go.Extern.Stop Go.Stop Go.Extern
section
variable {z' w w' W W' : World} {S : Nat → Addr} {g : Nat} {s : ByteArray} {R : RV}
def FiSays (w : World) (S : Nat → Addr) (g : Nat) (s : ByteArray) (R : RV) (x : Ending) (w' : World) : Prop := ∃ e, x = .returned (.tuple #[.string (rText s R).1, e]) ∧ ErrOf w' S 129 (rText s R).2.no (rText s R).2.ea e ∧ RNext w w' S g s (rText s R).2
theorem fi_any (hE : Env z' S) (hz : Below z'.heap.size z' w) (hg : z'.heap.size ≤ g) (h : RObj w S g s R) (hs : s.size ≤ 900000) : Calls Tryz.prog 149 #[.pointer (some ⟨g, 0, none⟩)] w (FiSays w S g s R) := by
  have htx := rdtext_any (env_cl hE hz hg) h hs
  unfold FiSays
  generalize rText s R = q at *
  obtain ⟨t, R1⟩ := q
  simp only at htx ⊢
  have HT := Lib.hid htx
  clear htx hE hz hg h hs
  go_enter Tryz.func149, Tryz.ntmps149
  go_wp2_with fail
  refine HT.out.mono ?_
  rintro x w1 ⟨rfl, hn1⟩
  have HRE := Lib.hid (rerr_any hn1.obj)
  have HN := Lib.hid hn1
  clear hn1 HT
  go_wp2_with fail
  refine HRE.out.mono ?_
  rintro x w2 ⟨e, rfl, he, rfl⟩
  have HX := Lib.hid he
  clear he HRE
  go_wp2_with fail
  exact bodyPost_ret (v := .tuple #[.string t, e]) (by simp [results, Tryz.results149, go_sem]) rfl ⟨e, rfl, HX.out, HN.out⟩
/-- What Parts tells of texts. -/
def PtT (w : World) (S : Nat → Addr) (g : Nat) (s : ByteArray) (q : Er × List ByteArray) (x : Ending) (w' : World) : Prop :=
  ∃ v e, x = .returned (.tuple #[v, e]) ∧ T8Row w' w.heap.size v q.2 ∧ ErrOf w' S q.1.r q.1.no q.1.at_ e ∧ ∃ R', RNext w w' S g s R'
/-- What its loop holds. -/
structure PtIn (z' w W : World) (S : Nat → Addr) (g : Nat) (s : ByteArray) (R : RV) (u : Value) (L : List ByteArray) : Prop where
  rd : RObj W S g s R
  row : T8Row W w.heap.size u L
  bel : Below z'.heap.size z' W
  fr : Fr [g] w W
  gz : z'.heap.size ≤ g
  glt : g < w.heap.size
  zw : z'.heap.size ≤ w.heap.size
section
variable {u u' : Value} {L L' : List ByteArray} {R' : RV}
theorem PtIn.below (h : PtIn z' w W S g s R u L) (hb : Below W.heap.size W W') : PtIn z' w W' S g s R u L :=
  ⟨h.rd.below hb, h.row.below hb, h.bel.trans (hb.mono h.bel.size), h.fr.trans (Y := []) (Fr.of_below hb) (fun k hk => by cases hk), h.gz, h.glt, h.zw⟩
theorem PtIn.step (h : PtIn z' w W S g s R u L) (hn : RNext W W' S g s R') : PtIn z' w W' S g s R' u L := by
  refine ⟨hn.obj, h.row.fr hn.fr fun k hk hm => ?_, hn.later h.gz h.bel.size h.bel, h.fr.trans hn.fr fun k hk _ => hk, h.gz, h.glt, h.zw⟩
  rw [List.mem_singleton] at hm
  subst hm
  have := (h.row.lt k hk).1
  have := h.glt
  omega
theorem PtIn.app (h : PtIn z' w W S g s R u L) (hn : T8Next W W' w.heap.size u u' L') : PtIn z' w W' S g s R u' L' := by
  have hf : Fr u.ownBlock.toList W W' := (Fr.refl _ W).grown hn.grown fun k hk => .inl (own_list.2 hk)
  refine ⟨h.rd.fr hf (fun hm => ?_) h.row.nof, hn.row, hf.later h.bel (fun b hm => ?_) h.bel.size, h.fr.trans hf fun k hk hlt => ?_, h.gz, h.glt, h.zw⟩
  · have := (h.row.lt _ (own_list.1 hm)).1
    have := h.glt
    omega
  · have := (h.row.lt b (own_list.1 hm)).1
    have := h.zw
    omega
  · have := (h.row.lt k (own_list.1 hk)).1
    omega
end
set_option maxHeartbeats 8000000 in
theorem partsT_any (hE : Env z' S) (hz : Below z'.heap.size z' w) (hg : z'.heap.size ≤ g) (ho : RObj w S g s R) (h0 : R.no = 0) (hs : s.size ≤ 900000) :
    Calls Tryz.prog 148 #[.pointer (some ⟨g, 0, none⟩), .func (.func 149) #[] #[]] w (PtT w S g s (ptL (rdT s) s 32 [] R)) := by
  obtain ⟨q, hq⟩ : ∃ q, q = ptL (rdT s) s 32 [] R := ⟨_, rfl⟩
  rw [← hq]
  have HE := Lib.hid hE
  have HI0 := Lib.hid (show PtIn z' w w S g s R (.slice none 0 0) [] from ⟨ho, T8Row.nil _ _, hz, Fr.refl _ _, hg, ho.lt, hz.size⟩)
  have HQ := Lib.hid hq
  have HSZ := Lib.hid hs
  have HFI := Lib.hid (fun (W : World) (R1 : RV) (hb : Below z'.heap.size z' W) (ho : RObj W S g s R1) => fi_any hE hb hg ho hs)
  have H00 := Lib.hid h0
  clear hE hz hg ho hs hq h0
  go_enter Tryz.func148, Tryz.ntmps148
  go_wp2_with fail
  go_loopg [6] 33 (fun f u wr => ∃ (L : List ByteArray) (Rt : RV), f + L.length = 33 ∧ 0 < f ∧ Rt.no = 0 ∧ Hid (PtIn z' w wr S g s Rt u L ∧ q = ptL (rdT s) s (f - 1) L Rt))
  case atStart => exact ⟨[], R, rfl, by decide, H00.out, Lib.hid ⟨HI0.out, HQ.out⟩⟩
  case round =>
    obtain ⟨L, Rt, hf, hf0, hno, HJ⟩ := hrel
    obtain ⟨hi, hqq⟩ := HJ.out
    obtain ⟨av, nv, cv, rfl, hnv, hcap⟩ := hi.row.some_form
    have hL32 : L.length ≤ 32 := by omega
    subst hnv
    have HI := Lib.hid hi
    have HL := Lib.hid (rleft_any hi.rd (by have := HSZ.out; omega))
    obtain ⟨lf, hlf⟩ : ∃ lf, lf = s.size - Rt.p := ⟨_, rfl⟩
    rw [← hlf] at HL
    obtain ⟨f, rfl⟩ : ∃ f, gk = f + 1 := ⟨gk - 1, by omega⟩
    rw [show f + 1 - 1 = f from rfl] at hqq
    by_cases hend : s.size ≤ Rt.p
    · obtain rfl : lf = 0 := by omega
      have hq2 : q = if L.length = 0 then (⟨3, 130, Rt.p⟩, []) else (e00, L) := by
        cases f <;> (unfold ptL at hqq; rw [if_pos hend] at hqq; exact hqq)
      have HQ2 := Lib.hid hq2
      clear hqq hi HJ HI0 HQ hlf hend hq2
      go_wp2_with fail
      refine HL.out.mono ?_
      rintro x w4 ⟨rfl, hb4⟩
      have HI4 := Lib.hid (HI.out.below hb4)
      clear hb4 HI HL
      by_cases hl0 : L.length = 0
      · have hq2 := HQ2.out
        rw [if_pos hl0] at hq2
        have HQ3 := Lib.hid hq2
        obtain ⟨pp, hpp⟩ : ∃ pp, pp = Rt.p := ⟨_, rfl⟩
        rw [← hpp] at HQ3
        have HPP := Lib.hid hpp
        have HN := Lib.hid (fun W : World => new_err (w := W) S 2 130 (pp : Int))
        clear hq2 HQ2 hpp
        go_wp2_with fail
        refine wp_region_held_drew (S := fun W => PtIn z' w W S g s Rt (.slice av L.length cv) L) (by kernel_rfl) ?_ (fun hHeld => ?_)
        · exact HI4.out.below (below_drewN (Below.refl _ _) 1)
        refine wpAnyH_take (i := 0) (oi := { dst := some 35, op := Op.move (Operand.tmp 0), type := 103, pos := _, after := _, guard := none }) (v := .pointer (some ⟨g, 0, none⟩)) rfl (by kernel_rfl) (by kernel_rfl) (by kernel_rfl) (fun _ _ _ h => h) (Or.inl ⟨by rfl, fun w' hs => ?_⟩) (by assumption) ?_
        · go_simp
        simp only [Act.put, List.setIfInBounds_toArray, List.set_cons_zero, List.set_cons_succ]
        refine wpAnyH_take (i := 2) (oi := { dst := some 37, op := Op.load 35 (Operand.global 3), type := 35, pos := _, after := _, guard := none }) (v := .iface 234 (.pointer (some (S 2)))) rfl (by kernel_rfl) (by kernel_rfl) (by kernel_rfl) (fun _ _ _ h => h) (Or.inl ⟨by rfl, fun w' hs => ?_⟩) (by assumption) ?_
        · have kk := (HE.out.later hs.bel).kProtocol
          go_simp
        simp only [Act.put, List.setIfInBounds_toArray, List.set_cons_zero, List.set_cons_succ]
        refine wpAnyH_ready (rs := [1]) (by kernel_rfl) (by simp) ?_
        refine AllReadyH.cons (o := { dst := some 36, op := Op.call { callee := Callee.value (Operand.func 165), args := #[Operand.tmp 35], argTypes := #[103] }, type := 3, pos := _, after := _, guard := none }) rfl (fun K hK => ?_) AllReadyH.nil
        go_simp
        have hat := rat_any hHeld.rd
        rw [← HPP.out] at hat
        refine hat.mono ?_
        rintro x w5 ⟨rfl, rfl⟩
        go_wp2_with fail
        refine hK.out _ _ ?_ (fun hHeld5 => ?_)
        · exact hHeld
        clear hK K
        try simp only [Act.put, List.setIfInBounds_toArray, List.set_cons_zero, List.set_cons_succ]
        refine wpAnyH_ready (rs := [3]) (by kernel_rfl) (by simp) ?_
        refine AllReadyH.cons (o := { dst := some 38, op := Op.call { callee := Callee.value (Operand.func 64), args := #[Operand.const (Value.int IntKind.i64 130), Operand.tmp 36, Operand.tmp 37], argTypes := #[3, 3, 35] }, type := 35, pos := _, after := _, guard := none }) rfl (fun K hK => ?_) AllReadyH.nil
        go_simp
        refine (HN.out _).mono ?_
        rintro x w6 ⟨e, rfl, he, hb⟩
        have hi6 := hHeld5.below hb
        go_wp2_with fail
        refine hK.out _ _ ?_ (fun hHeld6 => ?_)
        · exact hi6
        clear hK K
        try simp only [Act.put, List.setIfInBounds_toArray, List.set_cons_zero, List.set_cons_succ]
        refine wpAnyH_take (i := 4) (oi := { dst := some 4, op := Op.assign (Operand.const (Value.slice none 0 0)), type := 26, pos := _, after := _, guard := none }) (v := .slice none 0 0) rfl (by kernel_rfl) (by kernel_rfl) (by kernel_rfl) (fun _ _ _ h => h) (Or.inl ⟨by rfl, fun w' hs => ?_⟩) (by assumption) ?_
        · go_simp
        simp only [Act.put, List.setIfInBounds_toArray, List.set_cons_zero, List.set_cons_succ]
        refine wpAnyH_take (i := 5) (oi := { dst := some 5, op := Op.assign (Operand.tmp 38), type := 35, pos := _, after := _, guard := none }) (v := e) rfl (by kernel_rfl) (by kernel_rfl) (by kernel_rfl) (fun _ _ _ h => h) (Or.inl ⟨by rfl, fun w' hs => ?_⟩) (by assumption) ?_
        · go_simp
        simp only [Act.put, List.setIfInBounds_toArray, List.set_cons_zero, List.set_cons_succ]
        have HX := Lib.hid (show PtT w S g s q (.returned (.tuple #[.slice none 0 0, e])) w6 from by
          rw [HQ3.out]
          exact ⟨_, _, rfl, T8Row.nil _ _, ErrOf.some (no := 3) (by decide) (by decide) he, _, hi6.rd, hi6.fr⟩)
        clear he hb hi6 hHeld hHeld5 hHeld6 hat
        refine wpAnyH_done (by kernel_rfl) ?_ _
        go_wp2_with fail
        exact bodyPost_ret (v := .tuple #[.slice none 0 0, e]) (by simp [results, Tryz.results148, go_sem]) rfl HX.out
      · have hq2 := HQ2.out
        rw [if_neg hl0] at hq2
        have HX := Lib.hid (show PtT w S g s q (.returned (.tuple #[.slice av L.length cv, .nilIface])) w4 from by
          rw [hq2]
          exact ⟨_, _, rfl, HI4.out.row, ErrOf.none, _, HI4.out.rd, HI4.out.fr⟩)
        clear hq2 HQ2
        go_wp2_with fail
        exact bodyPost_ret (v := .tuple #[.slice av L.length cv, .nilIface]) (by simp [results, Tryz.results148, go_sem]) rfl HX.out
    · have hlf0 : 0 < (lf : Int) := by omega
      have hlfn : 0 < lf := by omega
      have HQ0 := Lib.hid hqq
      clear hi hqq HJ HI0 HQ hlf
      go_wp2_with fail
      refine HL.out.mono ?_
      rintro x w4 ⟨rfl, hb4⟩
      have HI4 := Lib.hid (HI.out.below hb4)
      clear hb4 HI HL
      by_cases hl32 : L.length = 32
      · have hq2 := HQ0.out
        obtain rfl : f = 0 := by omega
        unfold ptL at hq2
        rw [if_neg hend] at hq2
        have HQ3 := Lib.hid hq2
        have hli : (L.length : Int) = 32 := by omega
        obtain ⟨pp, hpp⟩ : ∃ pp, pp = Rt.p := ⟨_, rfl⟩
        rw [← hpp] at HQ3
        have HPP := Lib.hid hpp
        have HN := Lib.hid (fun W : World => new_err (w := W) S 3 149 (pp : Int))
        clear hq2 HQ0 hpp hend
        go_wp2_with fail
        refine wp_region_held_drew (S := fun W => PtIn z' w W S g s Rt (.slice av L.length cv) L) (by kernel_rfl) ?_ (fun hHeld => ?_)
        · exact HI4.out.below (below_drewN (Below.refl _ _) 1)
        refine wpAnyH_take (i := 0) (oi := { dst := some 15, op := Op.move (Operand.tmp 0), type := 103, pos := _, after := _, guard := none }) (v := .pointer (some ⟨g, 0, none⟩)) rfl (by kernel_rfl) (by kernel_rfl) (by kernel_rfl) (fun _ _ _ h => h) (Or.inl ⟨by rfl, fun w' hs => ?_⟩) (by assumption) ?_
        · go_simp
        simp only [Act.put, List.setIfInBounds_toArray, List.set_cons_zero, List.set_cons_succ]
        refine wpAnyH_take (i := 2) (oi := { dst := some 17, op := Op.load 35 (Operand.global 4), type := 35, pos := _, after := _, guard := none }) (v := .iface 234 (.pointer (some (S 3)))) rfl (by kernel_rfl) (by kernel_rfl) (by kernel_rfl) (fun _ _ _ h => h) (Or.inl ⟨by rfl, fun w' hs => ?_⟩) (by assumption) ?_
        · have kk := (HE.out.later hs.bel).kTooLarge
          go_simp
        simp only [Act.put, List.setIfInBounds_toArray, List.set_cons_zero, List.set_cons_succ]
        refine wpAnyH_ready (rs := [1]) (by kernel_rfl) (by simp) ?_
        refine AllReadyH.cons (o := { dst := some 16, op := Op.call { callee := Callee.value (Operand.func 165), args := #[Operand.tmp 15], argTypes := #[103] }, type := 3, pos := _, after := _, guard := none }) rfl (fun K hK => ?_) AllReadyH.nil
        go_simp
        have hat := rat_any hHeld.rd
        rw [← HPP.out] at hat
        refine hat.mono ?_
        rintro x w5 ⟨rfl, rfl⟩
        go_wp2_with fail
        refine hK.out _ _ ?_ (fun hHeld5 => ?_)
        · exact hHeld
        clear hK K
        try simp only [Act.put, List.setIfInBounds_toArray, List.set_cons_zero, List.set_cons_succ]
        refine wpAnyH_ready (rs := [3]) (by kernel_rfl) (by simp) ?_
        refine AllReadyH.cons (o := { dst := some 18, op := Op.call { callee := Callee.value (Operand.func 64), args := #[Operand.const (Value.int IntKind.i64 149), Operand.tmp 16, Operand.tmp 17], argTypes := #[3, 3, 35] }, type := 35, pos := _, after := _, guard := none }) rfl (fun K hK => ?_) AllReadyH.nil
        go_simp
        refine (HN.out _).mono ?_
        rintro x w6 ⟨e, rfl, he, hb⟩
        have hi6 := hHeld5.below hb
        go_wp2_with fail
        refine hK.out _ _ ?_ (fun hHeld6 => ?_)
        · exact hi6
        clear hK K
        try simp only [Act.put, List.setIfInBounds_toArray, List.set_cons_zero, List.set_cons_succ]
        refine wpAnyH_take (i := 4) (oi := { dst := some 4, op := Op.assign (Operand.const (Value.slice none 0 0)), type := 26, pos := _, after := _, guard := none }) (v := .slice none 0 0) rfl (by kernel_rfl) (by kernel_rfl) (by kernel_rfl) (fun _ _ _ h => h) (Or.inl ⟨by rfl, fun w' hs => ?_⟩) (by assumption) ?_
        · go_simp
        simp only [Act.put, List.setIfInBounds_toArray, List.set_cons_zero, List.set_cons_succ]
        refine wpAnyH_take (i := 5) (oi := { dst := some 5, op := Op.assign (Operand.tmp 18), type := 35, pos := _, after := _, guard := none }) (v := e) rfl (by kernel_rfl) (by kernel_rfl) (by kernel_rfl) (fun _ _ _ h => h) (Or.inl ⟨by rfl, fun w' hs => ?_⟩) (by assumption) ?_
        · go_simp
        simp only [Act.put, List.setIfInBounds_toArray, List.set_cons_zero, List.set_cons_succ]
        have HX := Lib.hid (show PtT w S g s q (.returned (.tuple #[.slice none 0 0, e])) w6 from by
          rw [HQ3.out]
          exact ⟨_, _, rfl, T8Row.nil _ _, ErrOf.some (no := 4) (by decide) (by decide) he, _, hi6.rd, hi6.fr⟩)
        clear he hb hi6 hHeld hHeld5 hHeld6 hat
        refine wpAnyH_done (by kernel_rfl) ?_ _
        go_wp2_with fail
        exact bodyPost_ret (v := .tuple #[.slice none 0 0, e]) (by simp [results, Tryz.results148, go_sem]) rfl HX.out
      · obtain ⟨f', rfl⟩ : ∃ f', f = f' + 1 := ⟨f - 1, by omega⟩
        have hq2 := HQ0.out
        rw [ptL, if_neg hend] at hq2
        have hli : ¬ (L.length : Int) = 32 := by omega
        have hfi := HFI.out _ Rt HI4.out.bel HI4.out.rd
        unfold FiSays at hfi
        unfold rdT at hq2
        obtain ⟨⟨t, R1⟩, ht⟩ : ∃ V, V = rText s Rt := ⟨_, rfl⟩
        rw [← ht] at hfi hq2
        simp only at hfi hq2
        have HF2 := Lib.hid hfi
        have HQ3 := Lib.hid hq2
        clear hfi hq2 ht HQ0 hend
        go_wp2_with fail
        refine HF2.out.mono ?_
        rintro x w5 ⟨e5, rfl, he5, hn5⟩
        have HI5 := Lib.hid (HI4.out.step hn5)
        clear hn5 HF2 HI4
        by_cases h1 : R1.no = 0
        · have hq2 := HQ3.out
          rw [if_pos h1] at hq2
          rw [if_pos (show e00.no = 0 from rfl)] at hq2
          unfold ErrOf at he5
          rw [if_pos h1] at he5
          subst he5
          simp only at hq2
          have HQ4 := Lib.hid hq2
          have HS6 := Lib.hid HI5.out.fr.size
          have HDL := Lib.hid (show L.length ≤ 1000 from by omega)
          clear hq2 HQ3
          go_wp2_with (at_builtin; go_must (refine T8_append t rfl _ _ rfl HI5.out.row HS6.out rfl w5.heap.size 1 rfl rfl HDL.out rfl ?_))
          intro v7 w7 hn7
          have HI7 := Lib.hid (HI5.out.app hn7)
          clear hn7
          go_wp2_with fail
          go_roundg (f' + 1)
          case rel => exact ⟨L ++ [t], R1, by rw [List.length_append, List.length_singleton]; omega, by omega, h1, Lib.hid ⟨HI7.out, HQ4.out⟩⟩
          case measure => omega
        · have hq2 := HQ3.out
          rw [if_neg h1] at hq2
          rw [if_neg (show ¬ R1.no = 0 from h1)] at hq2
          obtain ⟨t5, u5', rfl⟩ := err_iface he5 h1
          have HX := Lib.hid (show PtT w S g s q (.returned (.tuple #[.slice none 0 0, .iface t5 u5'])) w5 from by
            rw [hq2]
            exact ⟨_, _, rfl, T8Row.nil _ _, he5, _, HI5.out.rd, HI5.out.fr⟩)
          clear hq2 he5 HQ3
          go_wp2_with fail
          exact bodyPost_ret (v := .tuple #[.slice none 0 0, .iface t5 u5']) (by simp [results, Tryz.results148, go_sem]) rfl HX.out
end
end Go.Proofs.YtinhecggmakbnaaGreatDoor
namespace Go.Proofs.YtinhecggmakbnaaGreatDoor
set_option maxRecDepth 100000
open Go.ChangeShapes Go.WideShapes Go.RowKit Go.Deep Go.Extern.Stop Go.Stop Go.Extern
section
variable {z' w w' W W' : World} {S : Nat → Addr} {g kb : Nat} {s : ByteArray} {R : RV} {k : Int}
def CcSays (w : World) (S : Nat → Addr) (g : Nat) (s : ByteArray) (q : Er × Int × RV) (x : Ending) (w' : World) : Prop := ∃ e, x = .returned (.tuple #[.int .i64 q.2.1, e]) ∧ ErrOf w' S q.1.r q.1.no q.1.at_ e ∧ RNext w w' S g s q.2.2
set_option maxHeartbeats 4000000 in
theorem cc_any (hE : Env z' S) (hz : Below z'.heap.size z' w) (hg : z'.heap.size ≤ g) (h : RObj w S g s R) (_h0 : R.no = 0) (hx : Blk w kb 3 #[.int .i64 k]) (hs : s.size ≤ 900000) : Calls Tryz.prog 192 #[.pointer (some ⟨g, 0, none⟩), .pointer (some ⟨kb, 0, none⟩)] w (CcSays w S g s (rdC k s R)) := by
  obtain ⟨q, hq⟩ : ∃ q, q = rdC k s R := ⟨_, rfl⟩
  rw [← hq]
  unfold rdC at hq
  have HAT := Lib.hid (rat_any h)
  have hu := ru8_any (hE.later hz) h (by omega)
  obtain ⟨⟨n, R1⟩, hn⟩ : ∃ V, V = rNum s 1 R := ⟨_, rfl⟩
  rw [← hn] at hu hq
  simp only at hu hq
  have HU := Lib.hid hu
  have HQ := Lib.hid hq
  have HE := Lib.hid hE
  have HZ := Lib.hid hz
  have HX := Lib.hid hx
  have HNE := Lib.hid (show kb ≠ g from fun hh => by
    obtain ⟨e, h1, _⟩ := h.blk
    exact hx.other h1 (by decide) hh)
  obtain ⟨p, hp⟩ : ∃ p, p = R.p := ⟨_, rfl⟩
  rw [← hp] at HAT HQ
  clear hu hq hE hz h hs hn hp hx
  go_enter Tryz.func192, Tryz.ntmps192
  go_wp2_with fail
  refine HAT.out.mono ?_
  rintro x w1 ⟨rfl, rfl⟩
  go_wp2_with fail
  refine HU.out.mono ?_
  rintro x w2 ⟨rfl, hn2⟩
  have HN2 := Lib.hid hn2
  have HZ2 := Lib.hid (hn2.later hg HZ.out.size HZ.out)
  have x2 := HX.out.fr hn2.fr (fun hm => by rw [List.mem_singleton] at hm; exact HNE.out hm)
  have c0 := x2.cell 0
  have c0' : w2.cell? ⟨kb, 0, none⟩ = some (.int .i64 k) := c0
  clear c0 x2 hn2 HU HAT
  have HAL := Lib.hid (rs_allowed k n w2)
  go_wp2_with fail
  refine HAL.out.mono ?_
  rintro x w3 ⟨rfl, rfl⟩
  have hq := HQ.out
  by_cases ha : allowedB k n = true
  · rw [if_pos ha] at hq
    rw [ha]
    have HX2 := Lib.hid (show CcSays w S g s q (.returned (.tuple #[.int .i64 n, .nilIface])) w2 from by
      rw [hq]
      exact ⟨_, rfl, ErrOf.none, HN2.out⟩)
    clear hq HQ ha HAL c0'
    go_wp2_with fail
    exact bodyPost_ret (v := .tuple #[.int .i64 n, .nilIface]) (by simp [results, Tryz.results192, go_sem]) rfl HX2.out
  · rw [if_neg ha] at hq
    have haf : allowedB k n = false := by simpa using ha
    rw [haf]
    have HQ2 := Lib.hid hq
    have kM := (HE.out.later HZ2.out).kMalformed
    have HNW := Lib.hid (new_err (w := w2) S 1 129 (p : Int))
    clear hq HQ ha haf HAL c0'
    go_wp2_with fail
    refine HNW.out.mono ?_
    rintro x w4 ⟨e, rfl, he, hb⟩
    have HX2 := Lib.hid (show CcSays w S g s q (.returned (.tuple #[.int .i64 0, e])) w4 from by
      rw [HQ2.out]
      exact ⟨_, rfl, ErrOf.some (no := 2) (by decide) (by decide) he, HN2.out.below hb⟩)
    clear he hb HNW kM
    go_wp2_with fail
    exact bodyPost_ret (v := .tuple #[.int .i64 0, e]) (by simp [results, Tryz.results192, go_sem]) rfl HX2.out
/-- What Parts tells of codes. -/
def PtC (w : World) (S : Nat → Addr) (g : Nat) (s : ByteArray) (q : Er × List Int) (x : Ending) (w' : World) : Prop :=
  ∃ v e, x = .returned (.tuple #[v, e]) ∧ I8Row w' w.heap.size v q.2 ∧ ErrOf w' S q.1.r q.1.no q.1.at_ e ∧ ∃ R', RNext w w' S g s R'
/-- What its loop holds. -/
structure PcIn (z' w W : World) (S : Nat → Addr) (g kb : Nat) (k : Int) (s : ByteArray) (R : RV) (u : Value) (L : List Int) : Prop where
  rd : RObj W S g s R
  row : I8Row W w.heap.size u L
  bel : Below z'.heap.size z' W
  fr : Fr [g] w W
  gz : z'.heap.size ≤ g
  glt : g < w.heap.size
  bx : Blk W kb 3 #[.int .i64 k]
  blt : kb < w.heap.size
  zw : z'.heap.size ≤ w.heap.size
section
variable {u u' : Value} {L L' : List Int} {R' : RV}
theorem PcIn.below (h : PcIn z' w W S g kb k s R u L) (hb : Below W.heap.size W W') : PcIn z' w W' S g kb k s R u L :=
  ⟨h.rd.below hb, h.row.below hb, h.bel.trans (hb.mono h.bel.size), h.fr.trans (Y := []) (Fr.of_below hb) (fun k hk => by cases hk), h.gz, h.glt, h.bx.below hb h.bx.lt, h.blt, h.zw⟩
theorem PcIn.step (h : PcIn z' w W S g kb k s R u L) (hn : RNext W W' S g s R') : PcIn z' w W' S g kb k s R' u L := by
  refine ⟨hn.obj, h.row.fr hn.fr fun k hk hm => ?_, hn.later h.gz h.bel.size h.bel, h.fr.trans hn.fr fun k hk _ => hk, h.gz, h.glt, h.bx.fr hn.fr (fun hm => by
    rw [List.mem_singleton] at hm
    obtain ⟨e, h1, _⟩ := h.rd.blk
    exact h.bx.other h1 (by decide) hm), h.blt, h.zw⟩
  rw [List.mem_singleton] at hm
  subst hm
  have := (h.row.lt k hk).1
  have := h.glt
  omega
theorem PcIn.app (h : PcIn z' w W S g kb k s R u L) (hn : I8Next W W' w.heap.size u u' L') : PcIn z' w W' S g kb k s R u' L' := by
  have hf : Fr u.ownBlock.toList W W' := (Fr.refl _ W).grown hn.grown fun k hk => .inl (own_list.2 hk)
  refine ⟨h.rd.fr hf (fun hm => ?_) h.row.nof, hn.row, hf.later h.bel (fun b hm => ?_) h.bel.size, h.fr.trans hf fun k hk hlt => ?_, h.gz, h.glt, h.bx.fr hf (fun hm => by
    have := (h.row.lt _ (own_list.1 hm)).1
    have := h.blt
    omega), h.blt, h.zw⟩
  · have := (h.row.lt _ (own_list.1 hm)).1
    have := h.glt
    omega
  · have := (h.row.lt b (own_list.1 hm)).1
    have := h.zw
    omega
  · have := (h.row.lt k (own_list.1 hk)).1
    omega
end
set_option maxHeartbeats 8000000 in
theorem partsC_any (hE : Env z' S) (hz : Below z'.heap.size z' w) (hg : z'.heap.size ≤ g) (ho : RObj w S g s R) (hbx : Blk w kb 3 #[.int .i64 k]) (h0 : R.no = 0) (hs : s.size ≤ 900000) :
    Calls Tryz.prog 191 #[.pointer (some ⟨g, 0, none⟩), .func (.func 192) #[] #[.pointer (some ⟨kb, 0, none⟩)]] w (PtC w S g s (ptL (rdC k s) s 32 [] R)) := by
  obtain ⟨q, hq⟩ : ∃ q, q = ptL (rdC k s) s 32 [] R := ⟨_, rfl⟩
  rw [← hq]
  have HE := Lib.hid hE
  have HI0 := Lib.hid (show PcIn z' w w S g kb k s R (.slice none 0 0) [] from ⟨ho, I8Row.nil _ _, hz, Fr.refl _ _, hg, ho.lt, hbx, hbx.lt, hz.size⟩)
  have HQ := Lib.hid hq
  have HSZ := Lib.hid hs
  have HFI := Lib.hid (fun (W : World) (R1 : RV) (hb : Below z'.heap.size z' W) (ho : RObj W S g s R1) (h0 : R1.no = 0) (hx : Blk W kb 3 #[.int .i64 k]) => cc_any hE hb hg ho h0 hx hs)
  have H00 := Lib.hid h0
  clear hE hz hg ho hs hq h0 hbx
  go_enter Tryz.func191, Tryz.ntmps191
  go_wp2_with fail
  go_loopg [6] 33 (fun f u wr => ∃ (L : List Int) (Rt : RV), f + L.length = 33 ∧ 0 < f ∧ Rt.no = 0 ∧ Hid (PcIn z' w wr S g kb k s Rt u L ∧ q = ptL (rdC k s) s (f - 1) L Rt))
  case atStart => exact ⟨[], R, rfl, by decide, H00.out, Lib.hid ⟨HI0.out, HQ.out⟩⟩
  case round =>
    obtain ⟨L, Rt, hf, hf0, hno, HJ⟩ := hrel
    obtain ⟨hi, hqq⟩ := HJ.out
    obtain ⟨av, nv, cv, rfl, hnv, hcap⟩ := hi.row.some_form
    have hL32 : L.length ≤ 32 := by omega
    subst hnv
    have HI := Lib.hid hi
    have HL := Lib.hid (rleft_any hi.rd (by have := HSZ.out; omega))
    obtain ⟨lf, hlf⟩ : ∃ lf, lf = s.size - Rt.p := ⟨_, rfl⟩
    rw [← hlf] at HL
    obtain ⟨f, rfl⟩ : ∃ f, gk = f + 1 := ⟨gk - 1, by omega⟩
    rw [show f + 1 - 1 = f from rfl] at hqq
    by_cases hend : s.size ≤ Rt.p
    · obtain rfl : lf = 0 := by omega
      have hq2 : q = if L.length = 0 then (⟨3, 130, Rt.p⟩, []) else (e00, L) := by
        cases f <;> (unfold ptL at hqq; rw [if_pos hend] at hqq; exact hqq)
      have HQ2 := Lib.hid hq2
      clear hqq hi HJ HI0 HQ hlf hend hq2
      go_wp2_with fail
      refine HL.out.mono ?_
      rintro x w4 ⟨rfl, hb4⟩
      have HI4 := Lib.hid (HI.out.below hb4)
      clear hb4 HI HL
      by_cases hl0 : L.length = 0
      · have hq2 := HQ2.out
        rw [if_pos hl0] at hq2
        have HQ3 := Lib.hid hq2
        obtain ⟨pp, hpp⟩ : ∃ pp, pp = Rt.p := ⟨_, rfl⟩
        rw [← hpp] at HQ3
        have HPP := Lib.hid hpp
        have HN := Lib.hid (fun W : World => new_err (w := W) S 2 130 (pp : Int))
        clear hq2 HQ2 hpp
        go_wp2_with fail
        refine wp_region_held_drew (S := fun W => PcIn z' w W S g kb k s Rt (.slice av L.length cv) L) (by kernel_rfl) ?_ (fun hHeld => ?_)
        · exact HI4.out.below (below_drewN (Below.refl _ _) 1)
        refine wpAnyH_take (i := 0) (oi := { dst := some 35, op := Op.move (Operand.tmp 0), type := 103, pos := _, after := _, guard := none }) (v := .pointer (some ⟨g, 0, none⟩)) rfl (by kernel_rfl) (by kernel_rfl) (by kernel_rfl) (fun _ _ _ h => h) (Or.inl ⟨by rfl, fun w' hs => ?_⟩) (by assumption) ?_
        · go_simp
        simp only [Act.put, List.setIfInBounds_toArray, List.set_cons_zero, List.set_cons_succ]
        refine wpAnyH_take (i := 2) (oi := { dst := some 37, op := Op.load 35 (Operand.global 3), type := 35, pos := _, after := _, guard := none }) (v := .iface 234 (.pointer (some (S 2)))) rfl (by kernel_rfl) (by kernel_rfl) (by kernel_rfl) (fun _ _ _ h => h) (Or.inl ⟨by rfl, fun w' hs => ?_⟩) (by assumption) ?_
        · have kk := (HE.out.later hs.bel).kProtocol
          go_simp
        simp only [Act.put, List.setIfInBounds_toArray, List.set_cons_zero, List.set_cons_succ]
        refine wpAnyH_ready (rs := [1]) (by kernel_rfl) (by simp) ?_
        refine AllReadyH.cons (o := { dst := some 36, op := Op.call { callee := Callee.value (Operand.func 165), args := #[Operand.tmp 35], argTypes := #[103] }, type := 3, pos := _, after := _, guard := none }) rfl (fun K hK => ?_) AllReadyH.nil
        go_simp
        have hat := rat_any hHeld.rd
        rw [← HPP.out] at hat
        refine hat.mono ?_
        rintro x w5 ⟨rfl, rfl⟩
        go_wp2_with fail
        refine hK.out _ _ ?_ (fun hHeld5 => ?_)
        · exact hHeld
        clear hK K
        try simp only [Act.put, List.setIfInBounds_toArray, List.set_cons_zero, List.set_cons_succ]
        refine wpAnyH_ready (rs := [3]) (by kernel_rfl) (by simp) ?_
        refine AllReadyH.cons (o := { dst := some 38, op := Op.call { callee := Callee.value (Operand.func 64), args := #[Operand.const (Value.int IntKind.i64 130), Operand.tmp 36, Operand.tmp 37], argTypes := #[3, 3, 35] }, type := 35, pos := _, after := _, guard := none }) rfl (fun K hK => ?_) AllReadyH.nil
        go_simp
        refine (HN.out _).mono ?_
        rintro x w6 ⟨e, rfl, he, hb⟩
        have hi6 := hHeld5.below hb
        go_wp2_with fail
        refine hK.out _ _ ?_ (fun hHeld6 => ?_)
        · exact hi6
        clear hK K
        try simp only [Act.put, List.setIfInBounds_toArray, List.set_cons_zero, List.set_cons_succ]
        refine wpAnyH_take (i := 4) (oi := { dst := some 4, op := Op.assign (Operand.const (Value.slice none 0 0)), type := 27, pos := _, after := _, guard := none }) (v := .slice none 0 0) rfl (by kernel_rfl) (by kernel_rfl) (by kernel_rfl) (fun _ _ _ h => h) (Or.inl ⟨by rfl, fun w' hs => ?_⟩) (by assumption) ?_
        · go_simp
        simp only [Act.put, List.setIfInBounds_toArray, List.set_cons_zero, List.set_cons_succ]
        refine wpAnyH_take (i := 5) (oi := { dst := some 5, op := Op.assign (Operand.tmp 38), type := 35, pos := _, after := _, guard := none }) (v := e) rfl (by kernel_rfl) (by kernel_rfl) (by kernel_rfl) (fun _ _ _ h => h) (Or.inl ⟨by rfl, fun w' hs => ?_⟩) (by assumption) ?_
        · go_simp
        simp only [Act.put, List.setIfInBounds_toArray, List.set_cons_zero, List.set_cons_succ]
        have HX := Lib.hid (show PtC w S g s q (.returned (.tuple #[.slice none 0 0, e])) w6 from by
          rw [HQ3.out]
          exact ⟨_, _, rfl, I8Row.nil _ _, ErrOf.some (no := 3) (by decide) (by decide) he, _, hi6.rd, hi6.fr⟩)
        clear he hb hi6 hHeld hHeld5 hHeld6 hat
        refine wpAnyH_done (by kernel_rfl) ?_ _
        go_wp2_with fail
        exact bodyPost_ret (v := .tuple #[.slice none 0 0, e]) (by simp [results, Tryz.results191, go_sem]) rfl HX.out
      · have hq2 := HQ2.out
        rw [if_neg hl0] at hq2
        have HX := Lib.hid (show PtC w S g s q (.returned (.tuple #[.slice av L.length cv, .nilIface])) w4 from by
          rw [hq2]
          exact ⟨_, _, rfl, HI4.out.row, ErrOf.none, _, HI4.out.rd, HI4.out.fr⟩)
        clear hq2 HQ2
        go_wp2_with fail
        exact bodyPost_ret (v := .tuple #[.slice av L.length cv, .nilIface]) (by simp [results, Tryz.results191, go_sem]) rfl HX.out
    · have hlf0 : 0 < (lf : Int) := by omega
      have hlfn : 0 < lf := by omega
      have HQ0 := Lib.hid hqq
      clear hi hqq HJ HI0 HQ hlf
      go_wp2_with fail
      refine HL.out.mono ?_
      rintro x w4 ⟨rfl, hb4⟩
      have HI4 := Lib.hid (HI.out.below hb4)
      clear hb4 HI HL
      by_cases hl32 : L.length = 32
      · have hq2 := HQ0.out
        obtain rfl : f = 0 := by omega
        unfold ptL at hq2
        rw [if_neg hend] at hq2
        have HQ3 := Lib.hid hq2
        have hli : (L.length : Int) = 32 := by omega
        obtain ⟨pp, hpp⟩ : ∃ pp, pp = Rt.p := ⟨_, rfl⟩
        rw [← hpp] at HQ3
        have HPP := Lib.hid hpp
        have HN := Lib.hid (fun W : World => new_err (w := W) S 3 149 (pp : Int))
        clear hq2 HQ0 hpp hend
        go_wp2_with fail
        refine wp_region_held_drew (S := fun W => PcIn z' w W S g kb k s Rt (.slice av L.length cv) L) (by kernel_rfl) ?_ (fun hHeld => ?_)
        · exact HI4.out.below (below_drewN (Below.refl _ _) 1)
        refine wpAnyH_take (i := 0) (oi := { dst := some 15, op := Op.move (Operand.tmp 0), type := 103, pos := _, after := _, guard := none }) (v := .pointer (some ⟨g, 0, none⟩)) rfl (by kernel_rfl) (by kernel_rfl) (by kernel_rfl) (fun _ _ _ h => h) (Or.inl ⟨by rfl, fun w' hs => ?_⟩) (by assumption) ?_
        · go_simp
        simp only [Act.put, List.setIfInBounds_toArray, List.set_cons_zero, List.set_cons_succ]
        refine wpAnyH_take (i := 2) (oi := { dst := some 17, op := Op.load 35 (Operand.global 4), type := 35, pos := _, after := _, guard := none }) (v := .iface 234 (.pointer (some (S 3)))) rfl (by kernel_rfl) (by kernel_rfl) (by kernel_rfl) (fun _ _ _ h => h) (Or.inl ⟨by rfl, fun w' hs => ?_⟩) (by assumption) ?_
        · have kk := (HE.out.later hs.bel).kTooLarge
          go_simp
        simp only [Act.put, List.setIfInBounds_toArray, List.set_cons_zero, List.set_cons_succ]
        refine wpAnyH_ready (rs := [1]) (by kernel_rfl) (by simp) ?_
        refine AllReadyH.cons (o := { dst := some 16, op := Op.call { callee := Callee.value (Operand.func 165), args := #[Operand.tmp 15], argTypes := #[103] }, type := 3, pos := _, after := _, guard := none }) rfl (fun K hK => ?_) AllReadyH.nil
        go_simp
        have hat := rat_any hHeld.rd
        rw [← HPP.out] at hat
        refine hat.mono ?_
        rintro x w5 ⟨rfl, rfl⟩
        go_wp2_with fail
        refine hK.out _ _ ?_ (fun hHeld5 => ?_)
        · exact hHeld
        clear hK K
        try simp only [Act.put, List.setIfInBounds_toArray, List.set_cons_zero, List.set_cons_succ]
        refine wpAnyH_ready (rs := [3]) (by kernel_rfl) (by simp) ?_
        refine AllReadyH.cons (o := { dst := some 18, op := Op.call { callee := Callee.value (Operand.func 64), args := #[Operand.const (Value.int IntKind.i64 149), Operand.tmp 16, Operand.tmp 17], argTypes := #[3, 3, 35] }, type := 35, pos := _, after := _, guard := none }) rfl (fun K hK => ?_) AllReadyH.nil
        go_simp
        refine (HN.out _).mono ?_
        rintro x w6 ⟨e, rfl, he, hb⟩
        have hi6 := hHeld5.below hb
        go_wp2_with fail
        refine hK.out _ _ ?_ (fun hHeld6 => ?_)
        · exact hi6
        clear hK K
        try simp only [Act.put, List.setIfInBounds_toArray, List.set_cons_zero, List.set_cons_succ]
        refine wpAnyH_take (i := 4) (oi := { dst := some 4, op := Op.assign (Operand.const (Value.slice none 0 0)), type := 27, pos := _, after := _, guard := none }) (v := .slice none 0 0) rfl (by kernel_rfl) (by kernel_rfl) (by kernel_rfl) (fun _ _ _ h => h) (Or.inl ⟨by rfl, fun w' hs => ?_⟩) (by assumption) ?_
        · go_simp
        simp only [Act.put, List.setIfInBounds_toArray, List.set_cons_zero, List.set_cons_succ]
        refine wpAnyH_take (i := 5) (oi := { dst := some 5, op := Op.assign (Operand.tmp 18), type := 35, pos := _, after := _, guard := none }) (v := e) rfl (by kernel_rfl) (by kernel_rfl) (by kernel_rfl) (fun _ _ _ h => h) (Or.inl ⟨by rfl, fun w' hs => ?_⟩) (by assumption) ?_
        · go_simp
        simp only [Act.put, List.setIfInBounds_toArray, List.set_cons_zero, List.set_cons_succ]
        have HX := Lib.hid (show PtC w S g s q (.returned (.tuple #[.slice none 0 0, e])) w6 from by
          rw [HQ3.out]
          exact ⟨_, _, rfl, I8Row.nil _ _, ErrOf.some (no := 4) (by decide) (by decide) he, _, hi6.rd, hi6.fr⟩)
        clear he hb hi6 hHeld hHeld5 hHeld6 hat
        refine wpAnyH_done (by kernel_rfl) ?_ _
        go_wp2_with fail
        exact bodyPost_ret (v := .tuple #[.slice none 0 0, e]) (by simp [results, Tryz.results191, go_sem]) rfl HX.out
      · obtain ⟨f', rfl⟩ : ∃ f', f = f' + 1 := ⟨f - 1, by omega⟩
        have hq2 := HQ0.out
        rw [ptL, if_neg hend] at hq2
        have hli : ¬ (L.length : Int) = 32 := by omega
        have hfi := HFI.out _ Rt HI4.out.bel HI4.out.rd hno HI4.out.bx
        unfold CcSays at hfi
        obtain ⟨⟨re, t, R1⟩, ht⟩ : ∃ V, V = rdC k s Rt := ⟨_, rfl⟩
        rw [← ht] at hfi hq2
        simp only at hfi hq2
        have hnx : re.no = 0 → R1.no = 0 := fun hh => by
          have h1 := (partC k s).of_rd Rt hno (by omega) (by rw [← ht]; exact hh)
          rw [← ht] at h1
          exact h1.2.1
        have HNX := Lib.hid hnx
        have HF2 := Lib.hid hfi
        have HQ3 := Lib.hid hq2
        clear hnx
        clear hfi hq2 ht HQ0 hend
        go_wp2_with fail
        refine HF2.out.mono ?_
        rintro x w5 ⟨e5, rfl, he5, hn5⟩
        have HI5 := Lib.hid (HI4.out.step hn5)
        clear hn5 HF2 HI4
        by_cases h1 : re.no = 0
        · have hq2 := HQ3.out
          rw [if_pos h1] at hq2
          unfold ErrOf at he5
          rw [if_pos h1] at he5
          subst he5
          have HQ4 := Lib.hid hq2
          have HS6 := Lib.hid HI5.out.fr.size
          have HDL := Lib.hid (show L.length ≤ 1000 from by omega)
          clear hq2 HQ3
          go_wp2_with (at_builtin; go_must (refine I8_append t rfl _ _ rfl HI5.out.row HS6.out rfl w5.heap.size 1 rfl rfl HDL.out rfl ?_))
          intro v7 w7 hn7
          have HI7 := Lib.hid (HI5.out.app hn7)
          clear hn7
          go_wp2_with fail
          go_roundg (f' + 1)
          case rel => exact ⟨L ++ [t], R1, by rw [List.length_append, List.length_singleton]; omega, by omega, HNX.out h1, Lib.hid ⟨HI7.out, HQ4.out⟩⟩
          case measure => omega
        · have hq2 := HQ3.out
          rw [if_neg h1] at hq2
          obtain ⟨t5, u5', rfl⟩ := err_iface he5 h1
          have HX := Lib.hid (show PtC w S g s q (.returned (.tuple #[.slice none 0 0, .iface t5 u5'])) w5 from by
            rw [hq2]
            exact ⟨_, _, rfl, I8Row.nil _ _, he5, _, HI5.out.rd, HI5.out.fr⟩)
          clear hq2 he5 HQ3
          go_wp2_with fail
          exact bodyPost_ret (v := .tuple #[.slice none 0 0, .iface t5 u5']) (by simp [results, Tryz.results191, go_sem]) rfl HX.out
end
section
variable {z' w : World} {S : Nat → Addr} {g : Nat} {s : ByteArray} {R : RV}
set_option maxHeartbeats 4000000 in
theorem tc_any (hE : Env z' S) (hz : Below z'.heap.size z' w) (hg : z'.heap.size ≤ g) (ho : RObj w S g s R) (h0 : R.no = 0) (hs : s.size ≤ 900000) (k : Int) : Calls Tryz.prog 144 #[.pointer (some ⟨g, 0, none⟩), .int .i64 k] w (PtC w S g s (ptL (rdC k s) s 32 [] R)) := by
  have hb1 : Below w.heap.size w (w.alloc (.cells #[.int .i64 k] 3)) := (Below.refl _ _).alloc (Nat.le_refl _) _
  have hp := partsC_any hE (hz.trans (hb1.mono hz.size)) hg (ho.below hb1) (Blk.made w 3 #[.int .i64 k]) h0 hs
  generalize ptL (rdC k s) s 32 [] R = q at *
  have HP := Lib.hid hp
  have HB := Lib.hid hb1
  clear hE hz hg ho h0 hs hp hb1
  go_enter Tryz.func144, Tryz.ntmps144
  go_wp2_with fail
  refine HP.out.mono ?_
  rintro x w2 ⟨v, e, rfl, hr, he, R', hn⟩
  have HX := Lib.hid (show PtC w S g s q (.returned (.tuple #[v, e])) w2 from ⟨v, e, rfl, hr.base HB.out.size, he, R', hn.pre HB.out⟩)
  clear hr he hn HP
  go_wp2_with fail
  exact bodyPost_ret (v := .tuple #[v, e]) (by simp [results, Tryz.results144, go_sem]) rfl HX.out
end
section
variable {z w : World} {S : Nat → Addr} {B g : Nat} {v : Value} {V : EV} {L : List Int} {A : Option Addr}
theorem icell_at {w : World} {B : Nat} {A : Option Addr} {L : List Int} (h : CIn w B 3 A (L.flatMap iCell)) (hp : 0 < L.length) : ∃ x off, A = some ⟨x, off, none⟩ ∧ (∀ k, k < L.length → w.cell? ⟨x, off + k, none⟩ = some (.int .i64 (L.getD k 0))) ∧ (x < B ∨ ∃ xs, w.heap[x]? = some (.cells xs 3 (0, 0))) := by
  obtain ⟨x, off, e, hc, hg⟩ := h (by rw [flat_len iCell 1 (fun _ => rfl)]; omega)
  exact ⟨x, off, e, fun k hk => hc k _ (icell_get L k hk), hg⟩
set_option maxHeartbeats 4000000 in
theorem pc_any (hE : Env z S) (hz : Below z.heap.size z w) (hzB : z.heap.size ≤ B) (ho : WObj w S B g v V) (hA : CIn w B 3 A (L.flatMap iCell)) (n c : Nat) (hn : n = L.length) (hl : L.length ≤ 1000) (hV : V.L.length ≤ 800000) :
    Calls Tryz.prog 71 #[.pointer (some ⟨g, 0, none⟩), .slice A n c] w (WSays w S B g v (L.foldl stC V)) := by
  obtain ⟨q, hq⟩ : ∃ q, q = L.foldl stC V := ⟨_, rfl⟩
  rw [← hq]
  have HQ := Lib.hid hq
  have HE := Lib.hid hE
  have HZ := Lib.hid hz
  have HO := Lib.hid ho
  have HA := Lib.hid hA
  have HN := Lib.hid hn
  have HL := Lib.hid hl
  have HV := Lib.hid hV
  have HZB := Lib.hid hzB
  clear hE hz ho hA hq hn hl hV hzB
  go_enter Tryz.func71, Tryz.ntmps71
  go_wp2_with fail
  go_loopw [8] (fun i wr => ∃ (k : Nat) (u : Value), k ≤ n ∧ i = .int .i64 k ∧ Hid (WNext w wr S B g v u ((L.take k).foldl stC V))) (fun i _ => n - (intOf i).toNat)
  case atStart => exact ⟨0, v, by omega, rfl, Lib.hid (HO.out.step (Below.refl _ _))⟩
  case round =>
    obtain ⟨k, u, hk, rfl, HJ⟩ := hrel
    have hn1 : n ≤ 1000 := by have := HN.out; have := HL.out; omega
    by_cases hlt : k < n
    · have hkL : k < L.length := by have := HN.out; omega
      obtain ⟨x, off, rfl, hc, hx⟩ := icell_at HA.out (by omega)
      have hcx : wr.cell? ⟨x, off + k, none⟩ = some (.int .i64 (L.getD k 0)) := by
        refine (World.cell?_of_block (HJ.out.fr.block x (lt_of_cell' (hc k hkL)) (fun hm => ?_))).trans (hc k hkL)
        have hB := HO.out.own_ok x hm
        rcases hx with hx | ⟨xs, hx⟩
        · omega
        · rcases List.mem_cons.1 hm with rfl | hm
          · obtain ⟨e, hb, _⟩ := HO.out.blk
            exact hb.other hx (by decide) rfl
          · obtain ⟨_, _, cs, hh⟩ := HO.out.row.lt x (own_list.1 hm)
            rw [hh] at hx
            injection hx with h1
            injection h1 with h1 h2 h3
            exact absurd h2 (by decide)
      have hst : (L.take (k + 1)).foldl stC V = stepW ((L.take k).foldl stC V) (numE 1 (L.getD k 0)) := by
        rw [List.take_succ_eq_append_getElem hkL, List.foldl_append, List.getD_eq_getElem?_getD, List.getElem?_eq_getElem hkL]
        rfl
      have hlen : ((L.take k).foldl stC V).L.length ≤ 900000 := by
        have h1 : ∀ (M : List Int) (W : EV), (M.foldl stC W).L.length ≤ W.L.length + M.length := by
          intro M
          induction M with
          | nil => intro W; exact Nat.le_add_right _ _
          | cons x M ih =>
            intro W
            rw [List.foldl_cons, List.length_cons]
            have h1 := ih (stC W x)
            have h2 := stepW_len W (numE 1 x)
            have h3 := numE_len 1 x
            unfold stC at h1 ⊢
            omega
        have h2 := h1 (L.take k) V
        have h3 : (L.take k).length ≤ k := by rw [List.length_take]; omega
        have := HV.out
        have := HL.out
        omega
      have HU := Lib.hid (wu8_any (HE.out.later (HJ.out.fr.later HZ.out (fun b hm => Nat.le_trans HZB.out (HO.out.own_ok b hm)) HZ.out.size)) HJ.out.obj hlen (L.getD k 0))
      rw [← hst] at HU
      generalize L.getD k 0 = cd at *
      have HJ2 := Lib.hid HJ.out
      clear hst hlen hc hx
      go_wp2_with fail
      refine HU.out.mono ?_
      rintro x w3 ⟨rfl, u3, hn3⟩
      have HX := Lib.hid (HJ2.out.trans hn3)
      clear hn3 HU
      go_wp2_with fail
      go_roundw
      case rel => exact ⟨k + 1, u3, by omega, by go_num, HX⟩
      case measure => simp [intOf]; omega
    · obtain rfl : k = n := by omega
      have hj := HJ.out
      rw [List.take_of_length_le (by have := HN.out; omega), ← HQ.out] at hj
      have HX := Lib.hid hj
      clear hj
      go_wp2_with fail
      exact bodyPost_end (v := .tuple #[]) (by simp [results, Tryz.results71, go_sem]) rfl ⟨rfl, _, HX.out⟩
end
end Go.Proofs.YtinhecggmakbnaaGreatDoor
namespace Go.Proofs.YtinhecggmakbnaaGreatDoor
set_option maxRecDepth 100000
open Go.ChangeShapes Go.WideShapes Go.RowKit Go.Deep Go.Extern.Stop Go.Stop Go.Extern
section
variable {w w' : World} {S : Nat → Addr} {s : ByteArray}
set_option maxHeartbeats 8000000 in
theorem dec13_bad (hE : Env w S) (first : Int) (h1 : ¬ first = 162) (h2 : ¬ first = 176) : Calls Tryz.prog 74 #[.agg #[.int .i64 first, .string s]] w (DcSays w S (dcU first s)) := by
  obtain ⟨z, hz⟩ : ∃ z, z = pk0.cells pa0 := ⟨_, rfl⟩
  have HZ := Lib.hid hz
  have HZS := Lib.hid (show z.size = 26 by rw [hz]; rfl)
  have HZ1 := Lib.hid (show z.all (·.oneCell') = true by rw [hz]; exact pk_one _ _)
  obtain ⟨q, hq⟩ : ∃ q, q = dcU first s := ⟨_, rfl⟩
  rw [← hq]
  unfold dcU at hq
  rw [if_pos (by unfold kU; rw [if_neg h1, if_neg h2])] at hq
  have HQ := Lib.hid hq
  obtain ⟨W2, hW2⟩ : ∃ W, W = (w.alloc (.cells #[.int .i64 first, .string s] 33)).alloc (.cells z 29) := ⟨_, rfl⟩
  have a1 : Below w.heap.size w (w.alloc (.cells #[.int .i64 first, .string s] 33)) := (Below.refl _ _).alloc (Nat.le_refl _) _
  have hb2 : Below w.heap.size w W2 := by rw [hW2]; exact a1.trans (((Below.refl (w.alloc (.cells #[.int .i64 first, .string s] 33)).heap.size _).alloc (Nat.le_refl _) (.cells z 29)).mono a1.size)
  have r1 : Blk W2 (w.heap.size + 1) 29 z := by
    have h := Blk.made (w.alloc (.cells #[.int .i64 first, .string s] 33)) 29 z
    rw [World.size_alloc] at h
    rw [hW2]; exact h
  have kM := (hE.later hb2).kMalformed
  have R1 := Lib.hid r1
  have HB2 := Lib.hid hb2
  have HN := Lib.hid (new_err (w := W2) S 1 129 0)
  have HW2 := Lib.hid hW2
  rw [hW2] at kM
  clear hE hz hq a1 hb2 r1 hW2
  go_enter Tryz.func74, Tryz.ntmps74
  go_wp2_with (first | refine wpk_alloc HZ.out rfl rfl ?_ | refine wpk_build HZ.out rfl rfl ?_)
  rw [← HW2.out]
  refine HN.out.mono ?_
  rintro x w7 ⟨e, rfl, he, hb7⟩
  obtain ⟨te, ue, rfl⟩ := he.iface
  have r1 := R1.out.below hb7 R1.out.lt
  have hb := HB2.out.trans (hb7.mono HB2.out.size)
  have hbf := below_row hb (k := w.heap.size + 1) (by omega) z
  have r3 := setRow_blk r1 z
  have LD := Lib.hid (And.intro r3 HZS.out)
  have HX := Lib.hid (show DcSays w S q (.returned (.tuple #[.agg z, .iface te ue])) (w7.setRow (w.heap.size + 1) z) from by
    rw [HQ.out]
    exact DcSays.bad8 HZ.out rfl (err_row (ErrOf.some (no := 2) (by decide) (by decide) he) r1 z) hbf)
  have HR1 := Lib.hid r1
  clear hb7 hb hbf r1 r3 kM he
  go_wp2_with (first | refine wpk_build HZ.out rfl rfl ?_ | refine wpk_store HR1.out HZS.out HZS.out HZ1.out _ _ rfl rfl rfl rfl ?_)
  exact bodyPost_ret (v := .tuple #[.agg z, .iface te ue]) (res_pkt (i := 2) (j := 3) rfl rfl rfl LD.out.1 LD.out.2) rfl HX.out
set_option maxHeartbeats 16000000 in
theorem dec13_162 (hE : Env w S) (hs : s.size ≤ 900000) : Calls Tryz.prog 74 #[.agg #[.int .i64 162, .string s]] w (DcSays w S (dcU 162 s)) := by
  have HE := Lib.hid hE
  have HSZ := Lib.hid hs
  obtain ⟨z, hz⟩ : ∃ z, z = pk0.cells pa0 := ⟨_, rfl⟩
  have HZ := Lib.hid hz
  have HZS := Lib.hid (show z.size = 26 by rw [hz]; rfl)
  have HZ1 := Lib.hid (show z.all (·.oneCell') = true by rw [hz]; exact pk_one _ _)
  obtain ⟨Q, hQ⟩ : ∃ Q, Q = dcU 162 s := ⟨_, rfl⟩
  rw [← hQ]
  unfold dcU at hQ
  rw [show kU 162 = 10 from rfl, if_neg (by decide), if_pos (show (10 : Int) = 10 from rfl)] at hQ
  obtain ⟨W2, hW2⟩ : ∃ W, W = (w.alloc (.cells #[.int .i64 162, .string s] 33)).alloc (.cells z 29) := ⟨_, rfl⟩
  have a1 : Below w.heap.size w (w.alloc (.cells #[.int .i64 162, .string s] 33)) := (Below.refl _ _).alloc (Nat.le_refl _) _
  have hb2 : Below w.heap.size w W2 := by rw [hW2]; exact a1.trans (((Below.refl (w.alloc (.cells #[.int .i64 162, .string s] 33)).heap.size _).alloc (Nat.le_refl _) (.cells z 29)).mono a1.size)
  have r1 : Blk W2 (w.heap.size + 1) 29 z := by
    have h := Blk.made (w.alloc (.cells #[.int .i64 162, .string s] 33)) 29 z
    rw [World.size_alloc] at h
    rw [hW2]; exact h
  have HSZ2 := Lib.hid (show W2.heap.size = w.heap.size + 1 + 1 by rw [hW2, World.size_alloc, World.size_alloc])
  have hb3 : Below W2.heap.size W2 (W2.alloc (.cells #[.string s, .int .i64 0, .nilIface] 180)) := (Below.refl _ _).alloc (Nat.le_refl _) _
  have HI := Lib.hid (show DcI w (W2.alloc (.cells #[.string s, .int .i64 0, .nilIface] 180)) S W2.heap.size s ⟨0, 0, 0⟩ z from ⟨hb2.trans (hb3.mono hb2.size), r1.below hb3 r1.lt, RObj.made W2 S s, hb2.size⟩)
  have HW2 := Lib.hid hW2
  have hth := th_any hE HI.out.bel HI.out.low HI.out.rd hs 10
  have hthn := fun hh => th_ok (k := 10) (s := s) hh
  obtain ⟨T, hT⟩ : ∃ T, T = thF 10 s := ⟨_, rfl⟩
  have hTP := fun hh => (hthn hh).no
  rw [← hT] at hth hQ hTP
  have HTH := Lib.hid hth
  have HTP := Lib.hid hTP
  have HQ := Lib.hid hQ
  clear hE hz hs hQ a1 hb2 r1 hb3 hW2 hth hthn hT hTP
  go_enter Tryz.func74, Tryz.ntmps74
  go_wp2_with (first | refine wpk_alloc HZ.out rfl rfl ?_)
  rw [← HW2.out]
  refine (rnew_any s W2).mono ?_
  rintro x w3 ⟨rfl, hw3⟩
  rw [← hw3] at HI HTH
  have HS3 := Lib.hid (show w3.heap.size = w.heap.size + 1 + 1 + 1 by rw [hw3, World.size_alloc, HSZ2.out])
  clear hw3
  go_wp2_with fail
  refine HTH.out.mono ?_
  rintro x w4 ⟨A4, e4, rfl, hp4, he4, hn4⟩
  have hsz4 := hn4.fr.size
  obtain ⟨c4, hc4⟩ : ∃ c, c = (thP 10 T).cells A4 := ⟨_, rfl⟩
  rw [show (thP 10 T).agg A4 = .agg c4 from by rw [hc4]; rfl]
  have HC4 := Lib.hid hc4
  have HCS := Lib.hid (show c4.size = 26 by rw [hc4]; rfl)
  have HC1 := Lib.hid (show c4.all (·.oneCell') = true by rw [hc4]; exact pk_one _ _)
  have hi4 := HI.out.step hn4
  obtain ⟨W5, hW5⟩ : ∃ W, W = w4.alloc (.cells c4 29) := ⟨_, rfl⟩
  have hb5 : Below w4.heap.size w4 W5 := by rw [hW5]; exact (Below.refl _ _).alloc (Nat.le_refl _) _
  have HJ := Lib.hid (show DcJ w W5 S W2.heap.size s T.R z w4.heap.size c4 from ⟨hi4.below hb5, by rw [hW5]; exact Blk.made _ _ _, by have := HS3.out; omega⟩)
  have HP5 := Lib.hid ((hp4 w.heap.size (by have := HS3.out; omega)).below hb5)
  have HE5 := Lib.hid (he4.later hb5)
  have HHI := Lib.hid (show w.heap.size ≤ w3.heap.size by have := HS3.out; omega)
  have HW5 := Lib.hid hW5
  clear hn4 hi4 hb5 hp4 hW5 hc4 HTH HI
  have hq := HQ.out
  by_cases h0 : T.e.no = 0
  · rw [if_pos h0] at hq
    unfold ErrOf at he4
    rw [if_pos h0] at he4
    subst he4
    have hp5 := HP5.out
    have hcc := HC4.out
    have eth : thP 10 T = pkS 10 T.id T.L [] [] [] := by unfold thP; rw [if_pos h0]
    rw [eth] at hp5 hcc
    have hpt := partsT_any (z' := w) HE.out HJ.out.inn.bel HJ.out.inn.low HJ.out.inn.rd (HTP.out h0) HSZ.out
    obtain ⟨⟨pe, P⟩, hpp⟩ : ∃ V, V = ptL (rdT s) s 32 [] T.R := ⟨_, rfl⟩
    rw [← hpp] at hpt hq
    have HPT := Lib.hid hpt
    have HQ2 := Lib.hid hq
    have HPK := Lib.hid (And.intro hp5.pr hp5.pc)
    have HCC := Lib.hid hcc
    clear hp5 hcc eth hpt hpp hq HP5 HC4 HQ HE5 h0 HTP
    go_wp2_with (first | refine wpk_alloc HZ.out rfl rfl ?_ | refine wpk_store_new HZS.out (c := c4) HCS.out HC1.out _ _ rfl rfl rfl rfl ?_)
    rw [← HW5.out]
    refine HPT.out.mono ?_
    rintro x w6 ⟨v6, e6, rfl, hr6, he6, R6, hn6⟩
    simp only at hr6 he6
    obtain ⟨a6, n6, c6, rfl, hnn6, hcc6⟩ := hr6.some_form
    have hsz5 := HJ.out.inn.bel.size
    have hj6 := HJ.out.step hn6
    have hpr6 := HPK.out.1.rnext HJ.out.inn.low HJ.out.inn.rd hn6
    have cX : w6.cell? ⟨w4.heap.size, 24, none⟩ = some (.slice A4.fa 0 A4.fc) := hj6.get (by rw [HCC.out]; rfl)
    have fX := hj6.box.frozen 24
    have hj7 := hj6.cell 24 (.slice a6 n6 c6)
    have hp7 : PIn (w6.setCell ⟨w4.heap.size, 24, none⟩ (.slice a6 n6 c6)) w.heap.size A4.pa T.L := hj6.pin (Nat.le_refl _) hpr6 _ _
    have he7 := hj6.err he6 24 (.slice a6 n6 c6)
    have hci : CIn (w6.setCell ⟨w4.heap.size, 24, none⟩ (.slice a6 n6 c6)) w.heap.size 9 a6 (P.flatMap tCell) := (hr6.cin (B' := w.heap.size)).cell hj6.box (by have := hj6.low; omega) (by decide) 24 _
    obtain ⟨y, hy⟩ : ∃ y, y = c4.setIfInBounds 24 (.slice a6 n6 c6) := ⟨_, rfl⟩
    rw [← hy] at hj7
    have hq := HQ2.out
    unfold dcU10 at hq
    by_cases h1 : pe.no = 0
    · rw [if_pos h1] at hq
      unfold ErrOf at he6
      rw [if_pos h1] at he6
      subst he6
      have ey : y = Q.2.cells ⟨A4.pa, A4.pc, A4.wa, A4.wc, A4.sa, A4.sc, a6, c6, A4.ca, A4.cc⟩ := by rw [hy, HCC.out, hq, hnn6]; rfl
      have hX := hj7.inn.good (p := Q.2) (A := ⟨A4.pa, A4.pc, A4.wa, A4.wc, A4.sa, A4.sc, a6, c6, A4.ca, A4.cc⟩) (by
        rw [hq]
        exact ⟨hp7, HPK.out.2, PIn.nil _ _ _, Nat.zero_le _, CIn.nil _ _ _ _, hci, CIn.nil _ _ _ _⟩) ey
      rw [show (e00, Q.2) = Q from by rw [hq]] at hX
      have HX := Lib.hid hX
      have HYS := Lib.hid (show y.size = 26 by rw [ey]; rfl)
      have HY1 := Lib.hid (show y.all (·.oneCell') = true by rw [ey]; exact pk_one _ _)
      have HBX := Lib.hid hj7.box
      have HRX := Lib.hid hj7.inn.res
      clear hr6 hn6 hj6 hpr6 hj7 hp7 he7 hci hy hq ey hX hnn6 hcc6 HPT HQ2
      go_wp2_with (first | refine wpk_load HBX.out HYS.out _ rfl rfl rfl ?_ | refine wpk_store HRX.out HZS.out HYS.out HY1.out _ _ rfl rfl rfl rfl ?_)
      exact bodyPost_ret (v := .tuple #[.agg y, .nilIface]) (res_pkt (i := 2) (j := 3) rfl rfl rfl HX.out.1 HYS.out) rfl HX.out.2
    · rw [if_neg h1] at hq
      obtain ⟨t6, u6, rfl⟩ := err_iface he6 h1
      have hX := hj7.inn.bad HZ.out (q := Q) (by rw [hq]) (e := .iface t6 u6) (by rw [hq]; exact he7)
      have HRX := Lib.hid hj7.inn.res
      have HX := Lib.hid hX
      clear hr6 hn6 hj6 hpr6 hj7 hp7 he7 he6 hci hy hq hX hnn6 hcc6 HPT HQ2
      go_wp2_with (first | refine wpk_build HZ.out rfl rfl ?_ | refine wpk_store HRX.out HZS.out HZS.out HZ1.out _ _ rfl rfl rfl rfl ?_)
      exact bodyPost_ret (v := .tuple #[.agg z, .iface t6 u6]) (res_pkt (i := 2) (j := 3) rfl rfl rfl HX.out.1 HZS.out) rfl HX.out.2
  · rw [if_neg h0] at hq
    obtain ⟨t4, u4, rfl⟩ := err_iface he4 h0
    have hX := HJ.out.inn.bad HZ.out (q := Q) (by rw [hq]) (e := .iface t4 u4) (by rw [hq]; exact HE5.out)
    have HRX := Lib.hid HJ.out.inn.res
    have HX := Lib.hid hX
    clear hX he4 hq HQ HE5 HP5
    go_wp2_with (first | refine wpk_alloc HZ.out rfl rfl ?_ | refine wpk_store_new HZS.out (c := c4) HCS.out HC1.out _ _ rfl rfl rfl rfl ?_ | refine wpk_build HZ.out rfl rfl ?_ | refine wpk_store (show Blk (w4.alloc (.cells c4 29)) (w.heap.size + 1) 29 z from by rw [← HW5.out]; exact HRX.out) HZS.out HZS.out HZ1.out _ _ rfl rfl rfl rfl ?_)
    rw [← HW5.out]
    exact bodyPost_ret (v := .tuple #[.agg z, .iface t4 u4]) (res_pkt (i := 2) (j := 3) rfl rfl rfl HX.out.1 HZS.out) rfl HX.out.2
set_option maxHeartbeats 16000000 in
theorem dec13_176 (hE : Env w S) (hs : s.size ≤ 900000) : Calls Tryz.prog 74 #[.agg #[.int .i64 176, .string s]] w (DcSays w S (dcU 176 s)) := by
  have HE := Lib.hid hE
  have HSZ := Lib.hid hs
  obtain ⟨z, hz⟩ : ∃ z, z = pk0.cells pa0 := ⟨_, rfl⟩
  have HZ := Lib.hid hz
  have HZS := Lib.hid (show z.size = 26 by rw [hz]; rfl)
  have HZ1 := Lib.hid (show z.all (·.oneCell') = true by rw [hz]; exact pk_one _ _)
  obtain ⟨Q, hQ⟩ : ∃ Q, Q = dcU 176 s := ⟨_, rfl⟩
  rw [← hQ]
  unfold dcU at hQ
  rw [show kU 176 = 11 from rfl, if_neg (by decide), if_neg (show ¬ (11 : Int) = 10 by decide)] at hQ
  obtain ⟨W2, hW2⟩ : ∃ W, W = (w.alloc (.cells #[.int .i64 176, .string s] 33)).alloc (.cells z 29) := ⟨_, rfl⟩
  have a1 : Below w.heap.size w (w.alloc (.cells #[.int .i64 176, .string s] 33)) := (Below.refl _ _).alloc (Nat.le_refl _) _
  have hb2 : Below w.heap.size w W2 := by rw [hW2]; exact a1.trans (((Below.refl (w.alloc (.cells #[.int .i64 176, .string s] 33)).heap.size _).alloc (Nat.le_refl _) (.cells z 29)).mono a1.size)
  have r1 : Blk W2 (w.heap.size + 1) 29 z := by
    have h := Blk.made (w.alloc (.cells #[.int .i64 176, .string s] 33)) 29 z
    rw [World.size_alloc] at h
    rw [hW2]; exact h
  have HSZ2 := Lib.hid (show W2.heap.size = w.heap.size + 1 + 1 by rw [hW2, World.size_alloc, World.size_alloc])
  have hb3 : Below W2.heap.size W2 (W2.alloc (.cells #[.string s, .int .i64 0, .nilIface] 180)) := (Below.refl _ _).alloc (Nat.le_refl _) _
  have HI := Lib.hid (show DcI w (W2.alloc (.cells #[.string s, .int .i64 0, .nilIface] 180)) S W2.heap.size s ⟨0, 0, 0⟩ z from ⟨hb2.trans (hb3.mono hb2.size), r1.below hb3 r1.lt, RObj.made W2 S s, hb2.size⟩)
  have HW2 := Lib.hid hW2
  have hth := th_any hE HI.out.bel HI.out.low HI.out.rd hs 11
  have hthn := fun hh => th_ok (k := 11) (s := s) hh
  obtain ⟨T, hT⟩ : ∃ T, T = thF 11 s := ⟨_, rfl⟩
  have hTP := fun hh => (hthn hh).no
  rw [← hT] at hth hQ hTP
  have HTH := Lib.hid hth
  have HTP := Lib.hid hTP
  have HQ := Lib.hid hQ
  clear hE hz hs hQ a1 hb2 r1 hb3 hW2 hth hthn hT hTP
  go_enter Tryz.func74, Tryz.ntmps74
  go_wp2_with (first | refine wpk_alloc HZ.out rfl rfl ?_)
  rw [← HW2.out]
  refine (rnew_any s W2).mono ?_
  rintro x w3 ⟨rfl, hw3⟩
  rw [← hw3] at HI HTH
  have HS3 := Lib.hid (show w3.heap.size = w.heap.size + 1 + 1 + 1 by rw [hw3, World.size_alloc, HSZ2.out])
  clear hw3
  go_wp2_with fail
  refine HTH.out.mono ?_
  rintro x w4 ⟨A4, e4, rfl, hp4, he4, hn4⟩
  have hsz4 := hn4.fr.size
  obtain ⟨c4, hc4⟩ : ∃ c, c = (thP 11 T).cells A4 := ⟨_, rfl⟩
  rw [show (thP 11 T).agg A4 = .agg c4 from by rw [hc4]; rfl]
  have HC4 := Lib.hid hc4
  have HCS := Lib.hid (show c4.size = 26 by rw [hc4]; rfl)
  have HC1 := Lib.hid (show c4.all (·.oneCell') = true by rw [hc4]; exact pk_one _ _)
  have hi4 := HI.out.step hn4
  obtain ⟨W5, hW5⟩ : ∃ W, W = w4.alloc (.cells c4 29) := ⟨_, rfl⟩
  have hb5 : Below w4.heap.size w4 W5 := by rw [hW5]; exact (Below.refl _ _).alloc (Nat.le_refl _) _
  have HJ := Lib.hid (show DcJ w W5 S W2.heap.size s T.R z w4.heap.size c4 from ⟨hi4.below hb5, by rw [hW5]; exact Blk.made _ _ _, by have := HS3.out; omega⟩)
  have HP5 := Lib.hid ((hp4 w.heap.size (by have := HS3.out; omega)).below hb5)
  have HE5 := Lib.hid (he4.later hb5)
  have HHI := Lib.hid (show w.heap.size ≤ w3.heap.size by have := HS3.out; omega)
  have HW5 := Lib.hid hW5
  clear hn4 hi4 hb5 hp4 hW5 hc4 HTH HI
  have hq := HQ.out
  by_cases h0 : T.e.no = 0
  · rw [if_pos h0] at hq
    unfold ErrOf at he4
    rw [if_pos h0] at he4
    subst he4
    have hp5 := HP5.out
    have hcc := HC4.out
    have eth : thP 11 T = pkS 11 T.id T.L [] [] [] := by unfold thP; rw [if_pos h0]
    rw [eth] at hp5 hcc
    have hpt := tc_any (z' := w) HE.out HJ.out.inn.bel HJ.out.inn.low HJ.out.inn.rd (HTP.out h0) HSZ.out 11
    obtain ⟨⟨pe, P⟩, hpp⟩ : ∃ V, V = ptL (rdC 11 s) s 32 [] T.R := ⟨_, rfl⟩
    rw [← hpp] at hpt hq
    have HPT := Lib.hid hpt
    have HQ2 := Lib.hid hq
    have HPK := Lib.hid (And.intro hp5.pr hp5.pc)
    have HCC := Lib.hid hcc
    clear hp5 hcc eth hpt hpp hq HP5 HC4 HQ HE5 h0 HTP
    go_wp2_with (first | refine wpk_alloc HZ.out rfl rfl ?_ | refine wpk_store_new HZS.out (c := c4) HCS.out HC1.out _ _ rfl rfl rfl rfl ?_)
    rw [← HW5.out]
    refine HPT.out.mono ?_
    rintro x w6 ⟨v6, e6, rfl, hr6, he6, R6, hn6⟩
    simp only at hr6 he6
    obtain ⟨a6, n6, c6, rfl, hnn6, hcc6⟩ := hr6.some_form
    have hsz5 := HJ.out.inn.bel.size
    have hj6 := HJ.out.step hn6
    have hpr6 := HPK.out.1.rnext HJ.out.inn.low HJ.out.inn.rd hn6
    have cX : w6.cell? ⟨w4.heap.size, 25, none⟩ = some (.slice A4.ca 0 A4.cc) := hj6.get (by rw [HCC.out]; rfl)
    have fX := hj6.box.frozen 25
    have hj7 := hj6.cell 25 (.slice a6 n6 c6)
    have hp7 : PIn (w6.setCell ⟨w4.heap.size, 25, none⟩ (.slice a6 n6 c6)) w.heap.size A4.pa T.L := hj6.pin (Nat.le_refl _) hpr6 _ _
    have he7 := hj6.err he6 25 (.slice a6 n6 c6)
    have hci : CIn (w6.setCell ⟨w4.heap.size, 25, none⟩ (.slice a6 n6 c6)) w.heap.size 3 a6 (P.flatMap iCell) := (hr6.cin (B' := w.heap.size)).cell hj6.box (by have := hj6.low; omega) (by decide) 25 _
    obtain ⟨y, hy⟩ : ∃ y, y = c4.setIfInBounds 25 (.slice a6 n6 c6) := ⟨_, rfl⟩
    rw [← hy] at hj7
    have hq := HQ2.out
    unfold dcU11 at hq
    by_cases h1 : pe.no = 0
    · rw [if_pos h1] at hq
      unfold ErrOf at he6
      rw [if_pos h1] at he6
      subst he6
      have ey : y = Q.2.cells ⟨A4.pa, A4.pc, A4.wa, A4.wc, A4.sa, A4.sc, A4.fa, A4.fc, a6, c6⟩ := by rw [hy, HCC.out, hq, hnn6]; rfl
      have hX := hj7.inn.good (p := Q.2) (A := ⟨A4.pa, A4.pc, A4.wa, A4.wc, A4.sa, A4.sc, A4.fa, A4.fc, a6, c6⟩) (by
        rw [hq]
        exact ⟨hp7, HPK.out.2, PIn.nil _ _ _, Nat.zero_le _, CIn.nil _ _ _ _, CIn.nil _ _ _ _, hci⟩) ey
      rw [show (e00, Q.2) = Q from by rw [hq]] at hX
      have HX := Lib.hid hX
      have HYS := Lib.hid (show y.size = 26 by rw [ey]; rfl)
      have HY1 := Lib.hid (show y.all (·.oneCell') = true by rw [ey]; exact pk_one _ _)
      have HBX := Lib.hid hj7.box
      have HRX := Lib.hid hj7.inn.res
      clear hr6 hn6 hj6 hpr6 hj7 hp7 he7 hci hy hq ey hX hnn6 hcc6 HPT HQ2
      go_wp2_with (first | refine wpk_load HBX.out HYS.out _ rfl rfl rfl ?_ | refine wpk_store HRX.out HZS.out HYS.out HY1.out _ _ rfl rfl rfl rfl ?_)
      exact bodyPost_ret (v := .tuple #[.agg y, .nilIface]) (res_pkt (i := 2) (j := 3) rfl rfl rfl HX.out.1 HYS.out) rfl HX.out.2
    · rw [if_neg h1] at hq
      obtain ⟨t6, u6, rfl⟩ := err_iface he6 h1
      have hX := hj7.inn.bad HZ.out (q := Q) (by rw [hq]) (e := .iface t6 u6) (by rw [hq]; exact he7)
      have HRX := Lib.hid hj7.inn.res
      have HX := Lib.hid hX
      clear hr6 hn6 hj6 hpr6 hj7 hp7 he7 he6 hci hy hq hX hnn6 hcc6 HPT HQ2
      go_wp2_with (first | refine wpk_build HZ.out rfl rfl ?_ | refine wpk_store HRX.out HZS.out HZS.out HZ1.out _ _ rfl rfl rfl rfl ?_)
      exact bodyPost_ret (v := .tuple #[.agg z, .iface t6 u6]) (res_pkt (i := 2) (j := 3) rfl rfl rfl HX.out.1 HZS.out) rfl HX.out.2
  · rw [if_neg h0] at hq
    obtain ⟨t4, u4, rfl⟩ := err_iface he4 h0
    have hX := HJ.out.inn.bad HZ.out (q := Q) (by rw [hq]) (e := .iface t4 u4) (by rw [hq]; exact HE5.out)
    have HRX := Lib.hid HJ.out.inn.res
    have HX := Lib.hid hX
    clear hX he4 hq HQ HE5 HP5
    go_wp2_with (first | refine wpk_alloc HZ.out rfl rfl ?_ | refine wpk_store_new HZS.out (c := c4) HCS.out HC1.out _ _ rfl rfl rfl rfl ?_ | refine wpk_build HZ.out rfl rfl ?_ | refine wpk_store (show Blk (w4.alloc (.cells c4 29)) (w.heap.size + 1) 29 z from by rw [← HW5.out]; exact HRX.out) HZS.out HZS.out HZ1.out _ _ rfl rfl rfl rfl ?_)
    rw [← HW5.out]
    exact bodyPost_ret (v := .tuple #[.agg z, .iface t4 u4]) (res_pkt (i := 2) (j := 3) rfl rfl rfl HX.out.1 HZS.out) rfl HX.out.2
theorem dec13 (hE : Env w S) (first : Int) (hs : s.size ≤ 900000) : Calls Tryz.prog 74 #[.agg #[.int .i64 first, .string s]] w (DcSays w S (dcU first s)) := by
  by_cases h1 : first = 162
  · subst h1; exact dec13_162 hE hs
  · by_cases h2 : first = 176
    · subst h2; exact dec13_176 hE hs
    · exact dec13_bad hE first h1 h2
end
end Go.Proofs.YtinhecggmakbnaaGreatDoor
namespace Go.Proofs.YtinhecggmakbnaaGreatDoor
set_option maxRecDepth 100000
open Go.RowKit Go.Extern.Stop Go.Stop Go.Extern
section
variable {z w w' : World} {S : Nat → Addr} {B g : Nat} {s : ByteArray} {R : RV} {v : Value} {W : EV}
set_option maxHeartbeats 8000000 in
theorem frame_any13 (first : Int) (h : WObj w S B g v W) {q : Er × Pk} (hdc : ∀ W1 : World, Below w.heap.size w W1 → Calls Tryz.prog 74 #[.agg #[.int .i64 first, .string ⟨W.L.toArray⟩]] W1 (DcSays W1 S q)) :
    Calls Tryz.prog 54 #[.int .i64 first, .pointer (some ⟨g, 0, none⟩), .func (.func 74) #[] #[]] w (FrSays w S (frR W first q.1)) := by
  obtain ⟨f, hf⟩ : ∃ f, f = frR W first q.1 := ⟨_, rfl⟩
  rw [← hf]
  unfold frR at hf
  have hb1 : Below w.heap.size w (w.alloc (.cells #[.int .i64 0, .string ⟨#[]⟩] 33)) := (Below.refl _ _).alloc (Nat.le_refl _) _
  have HW := Lib.hid (wbytes_any (h.below hb1))
  have HK := Lib.hid (Blk.made w 33 #[.int .i64 0, .string ⟨#[]⟩])
  have HB1 := Lib.hid hb1
  have HD := Lib.hid hdc
  have HF := Lib.hid hf
  clear hb1 hdc h hf
  go_enter Tryz.func54, Tryz.ntmps54
  go_wp2_with fail
  refine HW.out.mono ?_
  rintro x w2 ⟨e2, rfl, he2, hb2⟩
  obtain ⟨W0, Wa, WL⟩ := W
  obtain ⟨qe, qp⟩ := q
  simp only at he2 HD HF ⊢
  have k2 := HK.out.below hb2 HK.out.lt
  have hb12 := HB1.out.trans (hb2.mono HB1.out.size)
  have HB2 := Lib.hid hb12
  have HK2 := Lib.hid k2
  have hff := HF.out
  by_cases h0 : W0 = 0
  · subst h0
    rw [if_pos rfl] at hff
    unfold ErrOf at he2
    rw [if_pos rfl] at he2
    subst he2
    obtain ⟨t, ht⟩ : ∃ t : ByteArray, t = ⟨WL.toArray⟩ := ⟨_, rfl⟩
    rw [← ht] at HD hff
    have HFF := Lib.hid hff
    have hb3 : Below w2.heap.size w2 (w2.alloc (.cells #[.int .i64 first, .string t] 33)) := (Below.refl _ _).alloc (Nat.le_refl _) _
    have hb13 := hb12.trans (hb3.mono hb12.size)
    have HDD := Lib.hid (HD.out _ hb13)
    have HB3 := Lib.hid hb13
    have HK3 := Lib.hid (k2.below hb3 k2.lt)
    have HK4 := Lib.hid (Blk.made w2 33 #[.int .i64 first, .string t])
    clear hb2 k2 hb12 hff hb3 hb13 HD HW HF HK HB1 HB2 HK2
    rw [show (⟨(EV.L ⟨0, Wa, WL⟩).toArray⟩ : ByteArray) = t from ht.symm]
    clear ht
    go_wp2_with fail
    refine HDD.out.mono ?_
    rintro x w4 ⟨A4, e4, rfl, _, he4, hb4⟩
    simp only at he4
    obtain ⟨c, hc⟩ : ∃ c, c = qp.cells A4 := ⟨_, rfl⟩
    rw [show Pk.agg (qe, qp).2 A4 = .agg c from by rw [hc]; rfl]
    have hcs : c.size = 26 := by rw [hc]; rfl
    have hst := st_pkt w4 c hcs (by rw [hc]; exact pk_one _ _)
    have hst2 := st_pktc w4 c hcs (by rw [hc]; exact pk_one _ _)
    clear hc
    have hb5 : Below w4.heap.size w4 (w4.alloc (.cells c 29)) := (Below.refl _ _).alloc (Nat.le_refl _) _
    have k3 := (HK3.out.below hb4 HK3.out.lt).below hb5 (HK3.out.below hb4 HK3.out.lt).lt
    have k4 := (HK4.out.below hb4 HK4.out.lt).below hb5 (HK4.out.below hb4 HK4.out.lt).lt
    have hb15 := (HB3.out.trans (hb4.mono HB3.out.size)).trans (hb5.mono (HB3.out.trans (hb4.mono HB3.out.size)).size)
    have c0 := k4.cell 0
    have c1 := k4.cell 1
    have h2 : ∀ {a b : Value}, (#[a, b] : Array Value)[0]? = some a ∧ (#[a, b] : Array Value)[1]? = some b := ⟨rfl, rfl⟩
    rw [h2.1] at c0
    rw [h2.2] at c1
    clear h2
    by_cases hq0 : qe.no = 0
    · have hff := HFF.out
      rw [if_pos hq0] at hff
      unfold ErrOf at he4
      rw [if_pos hq0] at he4
      subst he4
      obtain ⟨⟨z0, z1, y0, y1⟩, ⟨z2, y2⟩, ⟨f0, f1⟩, _⟩ := fr_facts (S := S) k3 (.int .i64 first) (.string t)
      have hbf := (hb15.setCell (p := ⟨w.heap.size, 0, none⟩) (Nat.le_refl _) (.int .i64 first)).setCell (p := ⟨w.heap.size, 1, none⟩) (Nat.le_refl _) (.string t)
      have HX := Lib.hid (show ∀ W, Below w.heap.size w W → FrSays w S f (.returned (.tuple #[.agg #[.int .i64 first, .string t], .nilIface])) W from fun W hb => by
        rw [hff]
        exact ⟨_, rfl, ErrOf.none, hb⟩)
      have HBF := Lib.hid hbf
      clear hff hbf hb5 k3 k4 hb15 hb4 HDD HFF HB3 HK3 HK4
      go_wp2
      exact bodyPost_ret (v := .tuple #[.agg #[.int .i64 first, .string t], .nilIface]) (by simp [results, Tryz.results54, go_sem, f0, f1]) rfl (HX.out _ HBF.out)
    · have hff := HFF.out
      rw [if_neg hq0] at hff
      obtain ⟨t4, u4, rfl⟩ := err_iface he4 hq0
      obtain ⟨⟨z0, z1, y0, y1⟩, ⟨z2, y2⟩, ⟨f0, f1⟩, ferr⟩ := fr_facts (S := S) k3 (.int .i64 0) (.string ⟨#[]⟩)
      have hbf := (hb15.setCell (p := ⟨w.heap.size, 0, none⟩) (Nat.le_refl _) (.int .i64 0)).setCell (p := ⟨w.heap.size, 1, none⟩) (Nat.le_refl _) (.string ⟨#[]⟩)
      have hee := ferr _ _ _ _ (he4.later hb5)
      have HX := Lib.hid (show FrSays w S f (.returned (.tuple #[.agg #[.int .i64 0, .string ⟨#[]⟩], .iface t4 u4])) _ from by
        rw [hff]
        exact ⟨_, rfl, hee, hbf⟩)
      clear hff hbf hb5 k3 k4 hb15 hb4 he4 hee ferr HDD HFF HB3 HK3 HK4
      go_wp2
      exact bodyPost_ret (v := .tuple #[.agg #[.int .i64 0, .string ⟨#[]⟩], .iface t4 u4]) (by simp [results, Tryz.results54, go_sem, f0, f1]) rfl HX.out
  · rw [if_neg h0] at hff
    obtain ⟨t2, u2, rfl⟩ := err_iface he2 h0
    obtain ⟨⟨z0, z1, y0, y1⟩, ⟨z2, y2⟩, ⟨f0, f1⟩, ferr⟩ := fr_facts (S := S) k2 (.int .i64 0) (.string ⟨#[]⟩)
    have hbf := (hb12.setCell (p := ⟨w.heap.size, 0, none⟩) (Nat.le_refl _) (.int .i64 0)).setCell (p := ⟨w.heap.size, 1, none⟩) (Nat.le_refl _) (.string ⟨#[]⟩)
    have hee := ferr _ _ _ _ he2
    have HX := Lib.hid (show FrSays w S f (.returned (.tuple #[.agg #[.int .i64 0, .string ⟨#[]⟩], .iface t2 u2])) _ from by
      rw [hff]
      exact ⟨_, rfl, hee, hbf⟩)
    clear hb2 hb12 hff he2 hbf hee ferr k2 HD HW HF HK HB1 HB2 HK2
    go_wp2
    exact bodyPost_ret (v := .tuple #[.agg #[.int .i64 0, .string ⟨#[]⟩], .iface t2 u2]) (by simp [results, Tryz.results54, go_sem, f0, f1]) rfl HX.out
end
end Go.Proofs.YtinhecggmakbnaaGreatDoor
namespace Go.Proofs.YtinhecggmakbnaaGreatDoor
set_option maxRecDepth 100000
open Go.ChangeShapes Go.WideShapes Go.RowKit Go.Deep Go.Extern.Stop Go.Stop Go.Extern
theorem enU_backS {p : Pk} (h : SmU p) (hno : (enU p).e.no = 0) : dcU (enU p).first (enU p).s = (e00, bareU p) := enU_back (small_mem h.1).1 (small_mem h.1).2 hno
theorem enU_lenS {p : Pk} (h : SmU p) : (enU p).s.size ≤ 150000 := enU_len h
theorem bareU_ok {p : Pk} (h : SmU p) : SmOk (bareU p) := by
  have h1 : (plL p.props).length ≤ 1000 := by rw [plL_len]; exact small_few h.1
  have h2 := h.2.1
  have h3 := h.2.2.1
  by_cases hk : p.kind = 10
  · rw [bareU_a hk]
    exact ⟨rfl, h1, Nat.zero_le _, (by show p.filters.length ≤ 1000; omega), Nat.zero_le _⟩
  · rw [bareU_b hk]
    exact ⟨rfl, h1, Nat.zero_le _, Nat.zero_le _, (by show p.codes.length ≤ 1000; omega)⟩
theorem deU_backS {first : Int} {s : ByteArray} (hss : s.size ≤ 2048) (h : (dcU first s).1.no = 0) : SmU (dcU first s).2 ∧ (enU (dcU first s).2).e.no = 0 ∧ dcU (enU (dcU first s).2).first (enU (dcU first s).2).s = (e00, (dcU first s).2) ∧ SmOk (dcU first s).2 := by
  obtain ⟨h1, h2, h3⟩ := deU_back hss h
  obtain ⟨l1, l2⟩ := dcU_lists first s
  have h4 := h1.2.1
  have h5 := h1.2.2.1
  exact ⟨h1, h2, h3, l1, small_few h1.1, (by rw [l2]; exact Nat.zero_le _), (by omega), (by omega)⟩
theorem phR_ok {p : Pk} (h : (encR p.kind p.props).no = 0) : phR p = (e00, phW p) := by
  unfold phR
  rw [if_pos h]
theorem phR_bad {p : Pk} (h : ¬ (encR p.kind p.props).no = 0) : phR p = (⟨(encR p.kind p.props).no, (encR p.kind p.props).r, (encR p.kind p.props).at_⟩, w0) := by
  unfold phR
  rw [if_neg h]
theorem tcell_at {w : World} {B : Nat} {A : Option Addr} {L : List ByteArray} (h : CIn w B 9 A (L.flatMap tCell)) (hp : 0 < L.length) : ∃ x off, A = some ⟨x, off, none⟩ ∧ (∀ k, k < L.length → w.cell? ⟨x, off + k, none⟩ = some (.string (L.getD k ⟨#[]⟩))) ∧ (x < B ∨ ∃ xs, w.heap[x]? = some (.cells xs 9 (0, 0))) := by
  obtain ⟨x, off, e, hc, hg⟩ := h (by rw [flat_len tCell 1 (fun _ => rfl)]; omega)
  exact ⟨x, off, e, fun k hk => hc k _ (tcell_get L k hk), hg⟩
section
variable {w w' : World} {S : Nat → Addr} {A : PkA} {p : Pk}
set_option maxHeartbeats 16000000 in
theorem enc13_10 (hE : Env w S) (h : PkIn w w.heap.size A p) (hS : SmU p) (hk : p.kind = 10) : Calls Tryz.prog 28 #[p.agg A] w (FrSays w S (enU p)) := by
  obtain ⟨q, hq⟩ : ∃ q, q = enU p := ⟨_, rfl⟩
  rw [← hq]
  have hwl := wrU_len hS
  have hwr : wrU p = p.filters.foldl stT (phW p) := wrU_a hk
  rw [hwr] at hwl
  unfold enU at hq
  rw [hwr, show fU p.kind = 162 from by rw [hk]; rfl, if_neg (by decide)] at hq
  obtain ⟨c, hc⟩ : ∃ c, c = p.cells A := ⟨_, rfl⟩
  rw [show p.agg A = .agg c from by rw [hc]; rfl]
  have HCS := Lib.hid (show c.size = 26 by rw [hc]; rfl)
  have hc0 : c[0]? = some (.int .i64 10) := by rw [hc, ← hk]; rfl
  have hcX : c[24]? = some (.slice A.fa p.filters.length A.fc) := by rw [hc]; rfl
  obtain ⟨W2, hW2⟩ : ∃ W, W = (w.alloc (.cells c 29)).alloc (.cells #[.int .i64 0, .string ⟨#[]⟩] 33) := ⟨_, rfl⟩
  have a1 : Below w.heap.size w (w.alloc (.cells c 29)) := (Below.refl _ _).alloc (Nat.le_refl _) _
  have hb2 : Below w.heap.size w W2 := by rw [hW2]; exact a1.trans (((Below.refl (w.alloc (.cells c 29)).heap.size _).alloc (Nat.le_refl _) (.cells #[.int .i64 0, .string ⟨#[]⟩] 33)).mono a1.size)
  have r0 : Blk W2 w.heap.size 29 c := by
    rw [hW2]; exact (Blk.made w 29 c).alloc (.cells #[.int .i64 0, .string ⟨#[]⟩] 33)
  have r1 : Blk W2 (w.heap.size + 1) 33 #[.int .i64 0, .string ⟨#[]⟩] := by
    have h := Blk.made (w.alloc (.cells c 29)) 33 #[.int .i64 0, .string ⟨#[]⟩]
    rw [World.size_alloc] at h
    rw [hW2]; exact h
  obtain ⟨W3, hW3⟩ : ∃ W, W = W2.alloc (.cells #[.slice none 0 0, .nilIface] 64) := ⟨_, rfl⟩
  have b3 : Below W2.heap.size W2 W3 := by rw [hW3]; exact (Below.refl _ _).alloc (Nat.le_refl _) _
  have hb3 := hb2.trans (b3.mono hb2.size)
  have ho : WObj W3 S w.heap.size (w.heap.size + 1 + 1) (.slice none 0 0) w0 := by
    rw [hW3, show w.heap.size + 1 + 1 = W2.heap.size from by rw [hW2, World.size_alloc, World.size_alloc]]
    exact WObj.made W2 S hb2.size
  have r03 := r0.below b3 r0.lt
  have k0 : W2.cell? ⟨w.heap.size, 0, none⟩ = some (.int .i64 10) := (r0.cell 0).trans hc0
  have hph := ph_any (A := A) (p := p) (hE.later hb3) ho ((h.below hb3).mono hb3.size) hS.1
  rw [show p.agg A = .agg c from by rw [hc]; rfl] at hph
  obtain ⟨⟨pe, V⟩, hpr⟩ : ∃ r, r = phR p := ⟨_, rfl⟩
  rw [← hpr] at hph
  have HPR := Lib.hid hpr
  have HPH := Lib.hid hph
  have HC0 := Lib.hid hc0
  have HCX := Lib.hid hcX
  have HW3 := Lib.hid hW3
  have HB3 := Lib.hid hb3
  have R0 := Lib.hid r03
  have R1 := Lib.hid (r1.below b3 r1.lt)
  have HO := Lib.hid ho
  have HE := Lib.hid hE
  have HQ := Lib.hid hq
  have HIN := Lib.hid (h.below hb3)
  have HSM := Lib.hid hS
  have HWL := Lib.hid hwl
  rw [hW2] at k0
  rw [hW2] at HW3
  clear hq hc hc0 hcX a1 hb2 r0 r1 hE h hS hW2 hW3 b3 hb3 ho r03 hph hk hwl hwr hpr
  go_enter Tryz.func28, Tryz.ntmps28
  go_wp2_with (first | refine wpk_box HCS.out _ rfl rfl rfl ?_ | refine wpk_load (show Blk (((w.alloc (.cells c 29)).alloc (.cells #[.int .i64 0, .string ⟨#[]⟩] 33)).alloc (.cells #[.slice none 0 0, .nilIface] 64)) w.heap.size 29 c from by rw [← HW3.out]; exact R0.out) HCS.out _ rfl rfl rfl ?_)
  rw [← HW3.out]
  refine HPH.out.mono ?_
  rintro x w4 ⟨e4, v4, rfl, he4, hn4⟩
  simp only at he4 hn4
  have r04 := hn4.blk HO.out R0.out (by decide) (by decide)
  have r14 := hn4.blk HO.out R1.out (by decide) (by decide)
  have hb4 := hn4.later HO.out HB3.out
  by_cases h0 : (encR p.kind p.props).no = 0
  · have hq := HQ.out
    rw [if_pos h0] at hq
    have hpr := HPR.out
    rw [phR_ok h0] at hpr
    obtain ⟨h1, h2⟩ := Prod.mk.inj hpr
    subst h1 h2
    unfold ErrOf at he4
    rw [if_pos (show e00.no = 0 from rfl)] at he4
    subst he4
    clear hpr HPR
    have HQ2 := Lib.hid hq
    have HO4 := Lib.hid hn4.obj
    have k0 : w4.cell? ⟨w.heap.size, 0, none⟩ = some (.int .i64 10) := (r04.cell 0).trans HC0.out
    have kX : w4.cell? ⟨w.heap.size, 24, none⟩ = some (.slice A.fa p.filters.length A.fc) := (r04.cell 24).trans HCX.out
    have HIN4 := Lib.hid (show CIn w4 w.heap.size 9 A.fa (p.filters.flatMap tCell) from HIN.out.fl.fr hn4.fr (fun g hg => by
      refine ⟨HO.out.own_ok g hg, fun xs hx => ?_⟩
      rcases List.mem_cons.1 hg with rfl | hg
      · obtain ⟨e, hb, _⟩ := HO.out.blk
        exact hb.other hx (by decide) rfl
      · cases hg))
    have R04 := Lib.hid r04
    have R14 := Lib.hid r14
    have HB4 := Lib.hid hb4
    clear hq hn4 r04 r14 hb4 HPH HO R0 R1 HB3 HW3 HIN HQ h0
    go_wp2_with fail
    obtain ⟨n, hn⟩ : ∃ n, n = p.filters.length := ⟨_, rfl⟩
    rw [← hn]
    have HN := Lib.hid hn
    have hn40 : n ≤ 40 := by have := HSM.out.2.1; omega
    clear hn kX k0
    go_loopw [30] (fun i wr => ∃ (k : Nat) (u : Value), k ≤ n ∧ i = .int .i64 k ∧ Hid (WNext w4 wr S w.heap.size (w.heap.size + 1 + 1) v4 u ((p.filters.take k).foldl stT (phW p)))) (fun i _ => n - (intOf i).toNat)
    case atStart => exact ⟨0, v4, by omega, rfl, Lib.hid (HO4.out.step (Below.refl _ _))⟩
    case round =>
      obtain ⟨k, u, hk, rfl, HJ⟩ := hrel
      by_cases hlt : k < n
      · have hkL : k < p.filters.length := by have := HN.out; omega
        obtain ⟨x, off, ex, hc, hx⟩ := tcell_at HIN4.out (by omega)
        have hcx : wr.cell? ⟨x, off + k, none⟩ = some (.string (p.filters.getD k ⟨#[]⟩)) := by
          refine (World.cell?_of_block (HJ.out.fr.block x (lt_of_cell' (hc k hkL)) (fun hm => ?_))).trans (hc k hkL)
          have hB := HO4.out.own_ok x hm
          rcases hx with hx | ⟨xs, hx⟩
          · omega
          · rcases List.mem_cons.1 hm with rfl | hm
            · obtain ⟨e, hb, _⟩ := HO4.out.blk
              exact hb.other hx (by decide) rfl
            · obtain ⟨_, _, cs, hh⟩ := HO4.out.row.lt x (own_list.1 hm)
              rw [hh] at hx
              injection hx with h1
              injection h1 with h1 h2 h3
              exact absurd h2 (by decide)
        have hst : (p.filters.take (k + 1)).foldl stT (phW p) = stepW ((p.filters.take k).foldl stT (phW p)) (textE (p.filters.getD k ⟨#[]⟩)) := by
          rw [List.take_succ_eq_append_getElem hkL, List.foldl_append, List.getD_eq_getElem?_getD, List.getElem?_eq_getElem hkL]
          rfl
        have hsz : (p.filters.getD k ⟨#[]⟩).size ≤ 2048 := by
          rw [List.getD_eq_getElem?_getD, List.getElem?_eq_getElem hkL]
          exact HSM.out.2.2.2 _ (List.getElem_mem hkL)
        have hlen : ((p.filters.take k).foldl stT (phW p)).L.length ≤ 800000 := by
          have h1 := foldT_len (p.filters.take k) (phW p) (fun x hx => HSM.out.2.2.2 x (List.mem_of_mem_take hx))
          have h2 := phW_len HSM.out.1
          have h3 : (p.filters.take k).length ≤ 40 := by rw [List.length_take]; omega
          omega
        have HU := Lib.hid (wtext_any (HE.out.later (HJ.out.later HO4.out HB4.out)) HJ.out.obj hlen (p.filters.getD k ⟨#[]⟩) (by omega))
        rw [← hst] at HU
        rw [ex]
        generalize p.filters.getD k ⟨#[]⟩ = cd at *
        have HJ2 := Lib.hid HJ.out
        clear hst hlen hc hx hsz ex
        go_wp2_with fail
        refine HU.out.mono ?_
        rintro x w5 ⟨rfl, u5, hn5⟩
        have HX := Lib.hid (HJ2.out.trans hn5)
        clear hn5 HU
        go_wp2_with fail
        go_roundw
        case rel => exact ⟨k + 1, u5, by omega, by go_num, HX⟩
        case measure => simp [intOf]; omega
      · obtain rfl : k = n := by omega
        have hj := HJ.out
        rw [List.take_of_length_le (by have := HN.out; omega)] at hj
        have r05 := hj.blk HO4.out R04.out (by decide) (by decide)
        have R15 := Lib.hid (hj.blk HO4.out R14.out (by decide) (by decide))
        have hb5 := hj.later HO4.out HB4.out
        have hfa := frame_any13 162 hj.obj (fun W1 hb => dec13 (HE.out.later (hb5.trans (hb.mono hb5.size))) 162 (show (⟨((p.filters.foldl stT (phW p))).L.toArray⟩ : ByteArray).size ≤ 900000 from by rw [bsize]; have := HWL.out; omega))
        rw [← HQ2.out] at hfa
        have HFA := Lib.hid hfa
        have HB5 := Lib.hid hb5
        clear hj r05 hb5 hfa
        go_wp2_with fail
        refine HFA.out.mono ?_
        rintro x wA ⟨e8, rfl, he8, hb8⟩
        have r1 := R15.out.below hb8 R15.out.lt
        have hb := HB5.out.trans (hb8.mono HB5.out.size)
        obtain ⟨⟨z0, z1, y0, y1⟩, ⟨z2, y2⟩, ⟨f0, f1⟩, ferr⟩ := fr_facts (S := S) r1 (.int .i64 q.first) (.string q.s)
        have hbf := (hb.setCell (p := ⟨w.heap.size + 1, 0, none⟩) (by show w.heap.size ≤ w.heap.size + 1; omega) (.int .i64 q.first)).setCell (p := ⟨w.heap.size + 1, 1, none⟩) (by show w.heap.size ≤ w.heap.size + 1; omega) (.string q.s)
        have HX := Lib.hid (show FrSays w S q (.returned (.tuple #[.agg #[.int .i64 q.first, .string q.s], e8])) _ from ⟨e8, rfl, ferr _ _ _ _ he8, hbf⟩)
        clear hb8 r1 hb ferr hbf he8 HFA
        go_wp2
        exact bodyPost_ret (v := .tuple #[.agg #[.int .i64 q.first, .string q.s], e8]) (by simp [results, Tryz.results28, go_sem, f0, f1]) rfl HX.out
  · have hq := HQ.out
    rw [if_neg h0] at hq
    have hpr := HPR.out
    rw [phR_bad h0] at hpr
    obtain ⟨h1, h2⟩ := Prod.mk.inj hpr
    subst h1 h2
    obtain ⟨te, ue, rfl⟩ := err_iface he4 h0
    clear hpr HPR
    obtain ⟨⟨z0, z1, y0, y1⟩, ⟨z2, y2⟩, ⟨f0, f1⟩, ferr⟩ := fr_facts (S := S) r14 (.int .i64 0) (.string ⟨#[]⟩)
    have hbf := (hb4.setCell (p := ⟨w.heap.size + 1, 0, none⟩) (by show w.heap.size ≤ w.heap.size + 1; omega) (.int .i64 0)).setCell (p := ⟨w.heap.size + 1, 1, none⟩) (by show w.heap.size ≤ w.heap.size + 1; omega) (.string ⟨#[]⟩)
    have HX := Lib.hid (show FrSays w S q (.returned (.tuple #[.agg #[.int .i64 0, .string ⟨#[]⟩], .iface te ue])) _ from by
      rw [hq]
      exact ⟨_, rfl, ferr _ _ _ _ he4, hbf⟩)
    clear ferr hbf he4 hq hn4 r04 r14 hb4 h0 HPH HQ
    go_wp2
    exact bodyPost_ret (v := .tuple #[.agg #[.int .i64 0, .string ⟨#[]⟩], .iface te ue]) (by simp [results, Tryz.results28, go_sem, f0, f1]) rfl HX.out
set_option maxHeartbeats 16000000 in
theorem enc13_11 (hE : Env w S) (h : PkIn w w.heap.size A p) (hS : SmU p) (hk : p.kind = 11) : Calls Tryz.prog 28 #[p.agg A] w (FrSays w S (enU p)) := by
  obtain ⟨q, hq⟩ : ∃ q, q = enU p := ⟨_, rfl⟩
  rw [← hq]
  have hwl := wrU_len hS
  have hwr : wrU p = p.codes.foldl stC (phW p) := wrU_b (by rw [hk]; decide)
  rw [hwr] at hwl
  unfold enU at hq
  rw [hwr, show fU p.kind = 176 from by rw [hk]; rfl, if_neg (by decide)] at hq
  obtain ⟨c, hc⟩ : ∃ c, c = p.cells A := ⟨_, rfl⟩
  rw [show p.agg A = .agg c from by rw [hc]; rfl]
  have HCS := Lib.hid (show c.size = 26 by rw [hc]; rfl)
  have hc0 : c[0]? = some (.int .i64 11) := by rw [hc, ← hk]; rfl
  have hcX : c[25]? = some (.slice A.ca p.codes.length A.cc) := by rw [hc]; rfl
  obtain ⟨W2, hW2⟩ : ∃ W, W = (w.alloc (.cells c 29)).alloc (.cells #[.int .i64 0, .string ⟨#[]⟩] 33) := ⟨_, rfl⟩
  have a1 : Below w.heap.size w (w.alloc (.cells c 29)) := (Below.refl _ _).alloc (Nat.le_refl _) _
  have hb2 : Below w.heap.size w W2 := by rw [hW2]; exact a1.trans (((Below.refl (w.alloc (.cells c 29)).heap.size _).alloc (Nat.le_refl _) (.cells #[.int .i64 0, .string ⟨#[]⟩] 33)).mono a1.size)
  have r0 : Blk W2 w.heap.size 29 c := by
    rw [hW2]; exact (Blk.made w 29 c).alloc (.cells #[.int .i64 0, .string ⟨#[]⟩] 33)
  have r1 : Blk W2 (w.heap.size + 1) 33 #[.int .i64 0, .string ⟨#[]⟩] := by
    have h := Blk.made (w.alloc (.cells c 29)) 33 #[.int .i64 0, .string ⟨#[]⟩]
    rw [World.size_alloc] at h
    rw [hW2]; exact h
  obtain ⟨W3, hW3⟩ : ∃ W, W = W2.alloc (.cells #[.slice none 0 0, .nilIface] 64) := ⟨_, rfl⟩
  have b3 : Below W2.heap.size W2 W3 := by rw [hW3]; exact (Below.refl _ _).alloc (Nat.le_refl _) _
  have hb3 := hb2.trans (b3.mono hb2.size)
  have ho : WObj W3 S w.heap.size (w.heap.size + 1 + 1) (.slice none 0 0) w0 := by
    rw [hW3, show w.heap.size + 1 + 1 = W2.heap.size from by rw [hW2, World.size_alloc, World.size_alloc]]
    exact WObj.made W2 S hb2.size
  have r03 := r0.below b3 r0.lt
  have k0 : W2.cell? ⟨w.heap.size, 0, none⟩ = some (.int .i64 11) := (r0.cell 0).trans hc0
  have hph := ph_any (A := A) (p := p) (hE.later hb3) ho ((h.below hb3).mono hb3.size) hS.1
  rw [show p.agg A = .agg c from by rw [hc]; rfl] at hph
  obtain ⟨⟨pe, V⟩, hpr⟩ : ∃ r, r = phR p := ⟨_, rfl⟩
  rw [← hpr] at hph
  have HPR := Lib.hid hpr
  have HPH := Lib.hid hph
  have HC0 := Lib.hid hc0
  have HCX := Lib.hid hcX
  have HW3 := Lib.hid hW3
  have HB3 := Lib.hid hb3
  have R0 := Lib.hid r03
  have R1 := Lib.hid (r1.below b3 r1.lt)
  have HO := Lib.hid ho
  have HE := Lib.hid hE
  have HQ := Lib.hid hq
  have HIN := Lib.hid (h.below hb3)
  have HSM := Lib.hid hS
  have HWL := Lib.hid hwl
  rw [hW2] at k0
  rw [hW2] at HW3
  clear hq hc hc0 hcX a1 hb2 r0 r1 hE h hS hW2 hW3 b3 hb3 ho r03 hph hk hwl hwr hpr
  go_enter Tryz.func28, Tryz.ntmps28
  go_wp2_with (first | refine wpk_box HCS.out _ rfl rfl rfl ?_ | refine wpk_load (show Blk (((w.alloc (.cells c 29)).alloc (.cells #[.int .i64 0, .string ⟨#[]⟩] 33)).alloc (.cells #[.slice none 0 0, .nilIface] 64)) w.heap.size 29 c from by rw [← HW3.out]; exact R0.out) HCS.out _ rfl rfl rfl ?_)
  rw [← HW3.out]
  refine HPH.out.mono ?_
  rintro x w4 ⟨e4, v4, rfl, he4, hn4⟩
  simp only at he4 hn4
  have r04 := hn4.blk HO.out R0.out (by decide) (by decide)
  have r14 := hn4.blk HO.out R1.out (by decide) (by decide)
  have hb4 := hn4.later HO.out HB3.out
  by_cases h0 : (encR p.kind p.props).no = 0
  · have hq := HQ.out
    rw [if_pos h0] at hq
    have hpr := HPR.out
    rw [phR_ok h0] at hpr
    obtain ⟨h1, h2⟩ := Prod.mk.inj hpr
    subst h1 h2
    unfold ErrOf at he4
    rw [if_pos (show e00.no = 0 from rfl)] at he4
    subst he4
    clear hpr HPR
    have HQ2 := Lib.hid hq
    have HO4 := Lib.hid hn4.obj
    have k0 : w4.cell? ⟨w.heap.size, 0, none⟩ = some (.int .i64 11) := (r04.cell 0).trans HC0.out
    have kX : w4.cell? ⟨w.heap.size, 25, none⟩ = some (.slice A.ca p.codes.length A.cc) := (r04.cell 25).trans HCX.out
    have HIN4 := Lib.hid (show CIn w4 w.heap.size 3 A.ca (p.codes.flatMap iCell) from HIN.out.cd.fr hn4.fr (fun g hg => by
      refine ⟨HO.out.own_ok g hg, fun xs hx => ?_⟩
      rcases List.mem_cons.1 hg with rfl | hg
      · obtain ⟨e, hb, _⟩ := HO.out.blk
        exact hb.other hx (by decide) rfl
      · cases hg))
    have R04 := Lib.hid r04
    have R14 := Lib.hid r14
    have HB4 := Lib.hid hb4
    clear hq hn4 r04 r14 hb4 HPH HO R0 R1 HB3 HW3 HIN HQ h0
    obtain ⟨n, hn⟩ : ∃ n, n = p.codes.length := ⟨_, rfl⟩
    rw [← hn] at kX
    have hpc := pc_any (z := w) HE.out HB4.out (Nat.le_refl _) HO4.out HIN4.out n A.cc hn (by have := HSM.out.2.2.1; omega) (by have := phW_len HSM.out.1; omega)
    have HPC := Lib.hid hpc
    clear hpc hn
    go_wp2_with fail
    refine HPC.out.mono ?_
    rintro x w5 ⟨rfl, u5, hj⟩
    have R15 := Lib.hid (hj.blk HO4.out R14.out (by decide) (by decide))
    have hb5 := hj.later HO4.out HB4.out
    have hfa := frame_any13 176 hj.obj (fun W1 hb => dec13 (HE.out.later (hb5.trans (hb.mono hb5.size))) 176 (show (⟨((p.codes.foldl stC (phW p))).L.toArray⟩ : ByteArray).size ≤ 900000 from by rw [bsize]; have := HWL.out; omega))
    rw [← HQ2.out] at hfa
    have HFA := Lib.hid hfa
    have HB5 := Lib.hid hb5
    clear hj hb5 hfa HPC kX k0
    go_wp2_with fail
    refine HFA.out.mono ?_
    rintro x wA ⟨e8, rfl, he8, hb8⟩
    have r1 := R15.out.below hb8 R15.out.lt
    have hb := HB5.out.trans (hb8.mono HB5.out.size)
    obtain ⟨⟨z0, z1, y0, y1⟩, ⟨z2, y2⟩, ⟨f0, f1⟩, ferr⟩ := fr_facts (S := S) r1 (.int .i64 q.first) (.string q.s)
    have hbf := (hb.setCell (p := ⟨w.heap.size + 1, 0, none⟩) (by show w.heap.size ≤ w.heap.size + 1; omega) (.int .i64 q.first)).setCell (p := ⟨w.heap.size + 1, 1, none⟩) (by show w.heap.size ≤ w.heap.size + 1; omega) (.string q.s)
    have HX := Lib.hid (show FrSays w S q (.returned (.tuple #[.agg #[.int .i64 q.first, .string q.s], e8])) _ from ⟨e8, rfl, ferr _ _ _ _ he8, hbf⟩)
    clear hb8 r1 hb ferr hbf he8 HFA
    go_wp2
    exact bodyPost_ret (v := .tuple #[.agg #[.int .i64 q.first, .string q.s], e8]) (by simp [results, Tryz.results28, go_sem, f0, f1]) rfl HX.out
  · have hq := HQ.out
    rw [if_neg h0] at hq
    have hpr := HPR.out
    rw [phR_bad h0] at hpr
    obtain ⟨h1, h2⟩ := Prod.mk.inj hpr
    subst h1 h2
    obtain ⟨te, ue, rfl⟩ := err_iface he4 h0
    clear hpr HPR
    obtain ⟨⟨z0, z1, y0, y1⟩, ⟨z2, y2⟩, ⟨f0, f1⟩, ferr⟩ := fr_facts (S := S) r14 (.int .i64 0) (.string ⟨#[]⟩)
    have hbf := (hb4.setCell (p := ⟨w.heap.size + 1, 0, none⟩) (by show w.heap.size ≤ w.heap.size + 1; omega) (.int .i64 0)).setCell (p := ⟨w.heap.size + 1, 1, none⟩) (by show w.heap.size ≤ w.heap.size + 1; omega) (.string ⟨#[]⟩)
    have HX := Lib.hid (show FrSays w S q (.returned (.tuple #[.agg #[.int .i64 0, .string ⟨#[]⟩], .iface te ue])) _ from by
      rw [hq]
      exact ⟨_, rfl, ferr _ _ _ _ he4, hbf⟩)
    clear ferr hbf he4 hq hn4 r04 r14 hb4 h0 HPH HQ
    go_wp2
    exact bodyPost_ret (v := .tuple #[.agg #[.int .i64 0, .string ⟨#[]⟩], .iface te ue]) (by simp [results, Tryz.results28, go_sem, f0, f1]) rfl HX.out
set_option maxHeartbeats 8000000 in
theorem enc13_other (hE : Env w S) (h1 : ¬ p.kind = 10) (h2 : ¬ p.kind = 11) : Calls Tryz.prog 28 #[p.agg A] w (FrSays w S (enU p)) := by
  obtain ⟨q, hq⟩ : ∃ q, q = enU p := ⟨_, rfl⟩
  rw [← hq]
  unfold enU at hq
  rw [if_pos (by unfold fU; rw [if_neg h1, if_neg h2])] at hq
  have HQ := Lib.hid hq
  obtain ⟨c, hc⟩ : ∃ c, c = p.cells A := ⟨_, rfl⟩
  rw [show p.agg A = .agg c from by rw [hc]; rfl]
  have hcs : c.size = 26 := by rw [hc]; rfl
  have hc0 : c[0]? = some (.int .i64 p.kind) := by rw [hc]; rfl
  have HCS := Lib.hid hcs
  generalize p.kind = kd at *
  obtain ⟨W3, hW3⟩ : ∃ W, W = (w.alloc (.cells c 29)).alloc (.cells #[.int .i64 0, .string ⟨#[]⟩] 33) := ⟨_, rfl⟩
  have a1 : Below w.heap.size w (w.alloc (.cells c 29)) := (Below.refl _ _).alloc (Nat.le_refl _) _
  have hb3 : Below w.heap.size w W3 := by rw [hW3]; exact a1.trans (((Below.refl (w.alloc (.cells c 29)).heap.size _).alloc (Nat.le_refl _) (.cells #[.int .i64 0, .string ⟨#[]⟩] 33)).mono a1.size)
  have r1 : Blk W3 (w.heap.size + 1) 33 #[.int .i64 0, .string ⟨#[]⟩] := by
    have h := Blk.made (w.alloc (.cells c 29)) 33 #[.int .i64 0, .string ⟨#[]⟩]
    rw [World.size_alloc] at h
    rw [hW3]; exact h
  have kA := (hE.later hb3).kArgument
  rw [hW3] at kA
  have HN := Lib.hid (new_err (w := W3) S 6 128 0)
  have HW3 := Lib.hid hW3
  have HB3 := Lib.hid hb3
  have R1 := Lib.hid r1
  clear hq hc hcs a1 hb3 r1 hE hW3
  go_enter Tryz.func28, Tryz.ntmps28
  go_wp2_with (refine wpk_box HCS.out _ rfl rfl rfl ?_)
  rw [← HW3.out]
  refine HN.out.mono ?_
  rintro x w5 ⟨e, rfl, he, hb⟩
  obtain ⟨te, ue, rfl⟩ := he.iface
  have r1 := R1.out.below hb R1.out.lt
  have hb5 := HB3.out.trans (hb.mono HB3.out.size)
  obtain ⟨⟨z0, z1, y0, y1⟩, ⟨z2, y2⟩, ⟨f0, f1⟩, ferr⟩ := fr_facts (S := S) r1 (.int .i64 0) (.string ⟨#[]⟩)
  have hbf := (hb5.setCell (p := ⟨w.heap.size + 1, 0, none⟩) (by show w.heap.size ≤ w.heap.size + 1; omega) (.int .i64 0)).setCell (p := ⟨w.heap.size + 1, 1, none⟩) (by show w.heap.size ≤ w.heap.size + 1; omega) (.string ⟨#[]⟩)
  have HX := Lib.hid (show FrSays w S q (.returned (.tuple #[.agg #[.int .i64 0, .string ⟨#[]⟩], .iface te ue])) _ from by
    rw [HQ.out]
    exact ⟨_, rfl, ferr _ _ _ _ (ErrOf.some (no := 7) (by decide) (by decide) he), hbf⟩)
  clear hb5 r1 ferr hbf he hb hc0 kA
  go_wp2
  exact bodyPost_ret (v := .tuple #[.agg #[.int .i64 0, .string ⟨#[]⟩], .iface te ue]) (by simp [results, Tryz.results28, go_sem, f0, f1]) rfl HX.out
theorem enc13 (hE : Env w S) (h : PkIn w w.heap.size A p) (hS : SmU p) : Calls Tryz.prog 28 #[p.agg A] w (FrSays w S (enU p)) := by
  by_cases h1 : p.kind = 10
  · exact enc13_10 hE h hS h1
  · by_cases h2 : p.kind = 11
    · exact enc13_11 hE h hS h2
    · exact enc13_other hE h1 h2
end
end Go.Proofs.YtinhecggmakbnaaGreatDoor

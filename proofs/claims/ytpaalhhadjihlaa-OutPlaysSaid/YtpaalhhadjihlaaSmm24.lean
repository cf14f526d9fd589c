/- What is proved here: equal properties are the same to the document's function. Conditions: the properties stand where the slices say, few of them. What is proved here: a packet is the same as itself, wherever its lists stand, to the document's function. Conditions: its lists stand where it says, few of them; it has no subscriptions. What is proved here: equal messages, and rows of them, are the same to the document. Conditions: the rows stand where the slices say; few of them. -/
import Derived.Test.YtpaalhhadjihlaaPkx08
import Derived.Test.YtpaalhhadjihlaaAMapIn
import Derived.Deep.QuietTactic
import Derived.BigQuiet
import Derived.Test.YtpaalhhadjihlaaMsgF
import Derived.Deep.RegionHeld3
import Derived.Deep.DeepMust
import Derived.Deep.DeepCutAuto
namespace Go.Proofs.Ytpaalhhadjihlaa
set_option maxRecDepth 100000
open Go.RowKit Go.Extern.Stop Go.Stop Go.Extern
section
variable {w w' : World} {B B2 : Nat} {A A2 : Option Addr} {L : PL}
theorem self_text6 (s : ByteArray) : (s.toList == s.toList) = true := by rw [eq_text]; exact decide_eq_true rfl
theorem psame_any (h : PIn w B A L) (h2 : PIn w B2 A2 L) (n c c2 : Nat) (hn : n = L.length) (hm : n ≤ 1000) : Calls Try.prog 34 #[.slice A n c, .slice A2 n c2] w fun x w' => x = .returned (.bool true) ∧ ∃ d : Nat, w' = w.drewN d := by
  by_cases hp : n = 0
  · subst hp
    clear h h2 hm hn
    go_enter Try.func34, Try.ntmps34
    go_wp2_with fail
    go_loop [5] (fun i => i = .int .i64 0) (fun _ => 0)
    case atStart => rfl
    case round =>
      subst hrel
      go_wp2_with fail
      go_ret
      exact ⟨rfl, 0, rfl⟩
  · obtain ⟨g, off, rfl, hc, hgB⟩ := h (by omega)
    obtain ⟨g2, off2, rfl, hc2, hgB2⟩ := h2 (by omega)
    have HC := Lib.hid hc
    have HC2 := Lib.hid hc2
    have HN := Lib.hid hn
    clear hc hc2 hgB hgB2 h h2 hn
    go_enter Try.func34, Try.ntmps34
    go_wp2_with fail
    go_loopw [5] (fun i wr => ∃ k d : Nat, k ≤ n ∧ i = .int .i64 k ∧ wr = w.drewN d) (fun i _ => n - (intOf i).toNat)
    case atStart => exact ⟨0, 0, by omega, rfl, rfl⟩
    case round =>
      obtain ⟨k, d, hk, rfl, hwr⟩ := hrel
      have HW := Lib.hid hwr
      by_cases hlt : k < n
      · have e1 := (HC.out k (by have := HN.out; omega)).at (w' := wr) (by rw [hwr]; rfl)
        have e2 := (HC2.out k (by have := HN.out; omega)).at (w' := wr) (by rw [hwr]; rfl)
        obtain ⟨p, hp'⟩ : ∃ p, p = L.getD k p0 := ⟨_, rfl⟩
        rw [← hp'] at e1 e2
        clear hp' hwr
        obtain ⟨a0, a1, a2, a3⟩ := e1
        obtain ⟨b0, b1, b2, b3⟩ := e2
        go_wp2_with fail
        go_quiet (fail)
        go_wp2_with fail
        go_roundw
        case rel => exact ⟨k + 1, _, by omega, by go_num, drew_on HW.out _⟩
        case measure => simp [intOf]; omega
      · clear hwr
        go_wp2_with fail
        go_ret
        exact ⟨rfl, d, HW.out⟩
end
end Go.Proofs.Ytpaalhhadjihlaa
namespace Go.Proofs.Ytpaalhhadjihlaa
set_option maxRecDepth 100000
open Go.RowKit Go.Extern.Stop Go.Stop Go.Extern
section
variable {w w' : World} {B B2 : Nat} {A A2 : Option Addr}
theorem tcell_get (L : List ByteArray) : ∀ k, k < L.length → (L.flatMap tCell)[k]? = some (.string (L.getD k ⟨#[]⟩)) := by
  induction L with
  | nil => intro k hk; cases hk
  | cons x L ih =>
    intro k hk
    rw [List.flatMap_cons]
    rcases k with _ | k
    · rfl
    · exact ih k (by simpa using hk)
theorem icell_get (L : List Int) : ∀ k, k < L.length → (L.flatMap iCell)[k]? = some (.int .i64 (L.getD k 0)) := by
  induction L with
  | nil => intro k hk; cases hk
  | cons x L ih =>
    intro k hk
    rw [List.flatMap_cons]
    rcases k with _ | k
    · rfl
    · exact ih k (by simpa using hk)
theorem ssame_nil (c c2 : Nat) : Calls Try.prog 52 #[.slice A 0 c, .slice A2 0 c2] w fun x w' => x = .returned (.bool true) ∧ w = w' := by
  go_enter Try.func52, Try.ntmps52
  go_wp2_with fail
  go_loop [5] (fun i => i = .int .i64 0) (fun _ => 0)
  case atStart => rfl
  case round =>
    subst hrel
    go_wp2_with fail
    go_ret
    exact ⟨rfl, rfl⟩
theorem tsame_any {L : List ByteArray} (h : CIn w B 9 A (L.flatMap tCell)) (h2 : CIn w B2 9 A2 (L.flatMap tCell)) (n c c2 : Nat) (hn : n = L.length) (hm : n ≤ 1000) : Calls Try.prog 53 #[.slice A n c, .slice A2 n c2] w fun x w' => x = .returned (.bool true) ∧ ∃ d : Nat, w' = w.drewN d := by
  by_cases hp : n = 0
  · subst hp
    clear h h2 hm hn
    go_enter Try.func53, Try.ntmps53
    go_wp2_with fail
    go_loop [5] (fun i => i = .int .i64 0) (fun _ => 0)
    case atStart => rfl
    case round =>
      subst hrel
      go_wp2_with fail
      go_ret
      exact ⟨rfl, 0, rfl⟩
  · have hl : 0 < (L.flatMap tCell).length := by rw [flat_len tCell 1 (fun _ => rfl)]; omega
    obtain ⟨g, off, rfl, hc, _⟩ := h hl
    obtain ⟨g2, off2, rfl, hc2, _⟩ := h2 hl
    have HC := Lib.hid (fun k (hk : k < n) => hc k _ (tcell_get L k (by omega)))
    have HC2 := Lib.hid (fun k (hk : k < n) => hc2 k _ (tcell_get L k (by omega)))
    clear hc hc2 h h2 hn hl
    go_enter Try.func53, Try.ntmps53
    go_wp2_with fail
    go_loopw [5] (fun i wr => ∃ k d : Nat, k ≤ n ∧ i = .int .i64 k ∧ wr = w.drewN d) (fun i _ => n - (intOf i).toNat)
    case atStart => exact ⟨0, 0, by omega, rfl, rfl⟩
    case round =>
      obtain ⟨k, d, hk, rfl, hwr⟩ := hrel
      have HW := Lib.hid hwr
      by_cases hlt : k < n
      · have e1 := (World.cell?_of_block (w := w) (w' := wr) (a := ⟨g, off + k, none⟩) (by rw [hwr]; rfl)).trans (HC.out k hlt)
        have e2 := (World.cell?_of_block (w := w) (w' := wr) (a := ⟨g2, off2 + k, none⟩) (by rw [hwr]; rfl)).trans (HC2.out k hlt)
        generalize L.getD k ⟨#[]⟩ = x at e1 e2
        clear hwr
        go_wp2_with fail
        go_quiet (fail)
        go_wp2_with fail
        go_roundw
        case rel => exact ⟨k + 1, _, by omega, by go_num, drew_on HW.out _⟩
        case measure => simp [intOf]; omega
      · clear hwr
        go_wp2_with fail
        go_ret
        exact ⟨rfl, d, HW.out⟩
theorem isame_any {L : List Int} (h : CIn w B 3 A (L.flatMap iCell)) (h2 : CIn w B2 3 A2 (L.flatMap iCell)) (n c c2 : Nat) (hn : n = L.length) (hm : n ≤ 1000) : Calls Try.prog 54 #[.slice A n c, .slice A2 n c2] w fun x w' => x = .returned (.bool true) ∧ ∃ d : Nat, w' = w.drewN d := by
  by_cases hp : n = 0
  · subst hp
    clear h h2 hm hn
    go_enter Try.func54, Try.ntmps54
    go_wp2_with fail
    go_loop [5] (fun i => i = .int .i64 0) (fun _ => 0)
    case atStart => rfl
    case round =>
      subst hrel
      go_wp2_with fail
      go_ret
      exact ⟨rfl, 0, rfl⟩
  · have hl : 0 < (L.flatMap iCell).length := by rw [flat_len iCell 1 (fun _ => rfl)]; omega
    obtain ⟨g, off, rfl, hc, _⟩ := h hl
    obtain ⟨g2, off2, rfl, hc2, _⟩ := h2 hl
    have HC := Lib.hid (fun k (hk : k < n) => hc k _ (icell_get L k (by omega)))
    have HC2 := Lib.hid (fun k (hk : k < n) => hc2 k _ (icell_get L k (by omega)))
    clear hc hc2 h h2 hn hl
    go_enter Try.func54, Try.ntmps54
    go_wp2_with fail
    go_loopw [5] (fun i wr => ∃ k d : Nat, k ≤ n ∧ i = .int .i64 k ∧ wr = w.drewN d) (fun i _ => n - (intOf i).toNat)
    case atStart => exact ⟨0, 0, by omega, rfl, rfl⟩
    case round =>
      obtain ⟨k, d, hk, rfl, hwr⟩ := hrel
      have HW := Lib.hid hwr
      by_cases hlt : k < n
      · have e1 := (World.cell?_of_block (w := w) (w' := wr) (a := ⟨g, off + k, none⟩) (by rw [hwr]; rfl)).trans (HC.out k hlt)
        have e2 := (World.cell?_of_block (w := w) (w' := wr) (a := ⟨g2, off2 + k, none⟩) (by rw [hwr]; rfl)).trans (HC2.out k hlt)
        generalize L.getD k 0 = x at e1 e2
        clear hwr
        go_wp2_with fail
        go_quiet (fail)
        go_wp2_with fail
        go_roundw
        case rel => exact ⟨k + 1, _, by omega, by go_num, drew_on HW.out _⟩
        case measure => simp [intOf]; omega
      · clear hwr
        go_wp2_with fail
        go_ret
        exact ⟨rfl, d, HW.out⟩
end
theorem below_drew {w w' : World} {d : Nat} (h : w' = w.drewN d) : Below w.heap.size w w' := by
  subst h
  exact below_drewN (Below.refl _ _) d
set_option maxHeartbeats 4000000 in
/-- A will is the same as itself. -/
theorem wsame_any {w : World} {B B2 : Nat} {A A2 : Option Addr} {L : PL} (h : PIn w B A L) (h2 : PIn w B2 A2 L) (hm : L.length ≤ 1000) (x0 : Bool) (x1 x2 : ByteArray) (x3 : Int) (x4 : Bool) (c c2 : Nat) :
    Calls Try.prog 51 #[.agg #[.bool x0, .string x1, .string x2, .int .i64 x3, .bool x4, .slice A L.length c], .agg #[.bool x0, .string x1, .string x2, .int .i64 x3, .bool x4, .slice A2 L.length c2]] w fun x w' => x = .returned (.bool true) ∧ Below w.heap.size w w' := by
  have b1 : Below w.heap.size w (w.alloc (.cells #[.bool x0, .string x1, .string x2, .int .i64 x3, .bool x4, .slice A L.length c] 44)) := (Below.refl _ _).alloc (Nat.le_refl _) _
  have b2 : Below (w.alloc (.cells #[.bool x0, .string x1, .string x2, .int .i64 x3, .bool x4, .slice A L.length c] 44)).heap.size (w.alloc (.cells #[.bool x0, .string x1, .string x2, .int .i64 x3, .bool x4, .slice A L.length c] 44)) ((w.alloc (.cells #[.bool x0, .string x1, .string x2, .int .i64 x3, .bool x4, .slice A L.length c] 44)).alloc (.cells #[.bool x0, .string x1, .string x2, .int .i64 x3, .bool x4, .slice A2 L.length c2] 44)) := (Below.refl _ _).alloc (Nat.le_refl _) _
  have HB := Lib.hid (b1.trans (b2.mono b1.size))
  have HS := Lib.hid (psame_any ((h.below b1).below b2) ((h2.below b1).below b2) L.length c c2 rfl hm)
  generalize L.length = n at *
  clear b1 b2 h h2
  go_enter Try.func51, Try.ntmps51
  go_wp2_with fail
  refine HS.out.mono ?_
  rintro x w1 ⟨rfl, d, hd⟩
  have HB1 := Lib.hid (HB.out.trans ((below_drew hd).mono HB.out.size))
  clear hd HS
  go_wp2_with fail
  go_ret
  exact ⟨rfl, HB1.out⟩
/-- The lists of a packet, but subscriptions, stand where it says. -/
structure PkI (w : World) (B : Nat) (A : PkA) (p : Pk) : Prop where
  pr : PIn w B A.pa p.props
  wr : PIn w B A.wa p.wProps
  fl : CIn w B 9 A.fa (p.filters.flatMap tCell)
  cd : CIn w B 3 A.ca (p.codes.flatMap iCell)
theorem PkI.below {w w' : World} {B : Nat} {A : PkA} {p : Pk} (h : PkI w B A p) (hb : Below w.heap.size w w') : PkI w' B A p := ⟨h.pr.below hb, h.wr.below hb, h.fl.below hb, h.cd.below hb⟩
set_option maxHeartbeats 8000000 in
/-- A packet is the same as itself. -/
theorem same08 {w : World} {B B2 : Nat} {A A2 : PkA} {p : Pk} (h : PkI w B A p) (h2 : PkI w B2 A2 p) (hs : p.subs = []) (hL : p.props.length ≤ 1000) (hM : p.wProps.length ≤ 1000) (hF : p.filters.length ≤ 1000) (hC : p.codes.length ≤ 1000) :
    Calls Try.prog 37 #[p.agg A, p.agg A2] w fun x w' => x = .returned (.bool true) ∧ Below w.heap.size w w' := by
  obtain ⟨kd, id, rs, L, cl, kp, ct, wh, wt, wp, wq, wr, M, hu, us, hp, ps, pr, tp, pl, qs, rt, dp, sb, fl, cd⟩ := p
  obtain ⟨xp, xpc, xw, xwc, xs, xsc, xf, xfc, xc, xcc⟩ := A
  obtain ⟨yp, ypc, yw, ywc, ys, ysc, yf, yfc, yc, ycc⟩ := A2
  simp only at hs hL hM hF hC
  subst hs
  obtain ⟨nL, hnL⟩ : ∃ n, n = L.length := ⟨_, rfl⟩
  obtain ⟨nM, hnM⟩ : ∃ n, n = M.length := ⟨_, rfl⟩
  obtain ⟨nF, hnF⟩ : ∃ n, n = fl.length := ⟨_, rfl⟩
  obtain ⟨nC, hnC⟩ : ∃ n, n = cd.length := ⟨_, rfl⟩
  unfold Pk.agg Pk.cells
  simp only [List.length_nil]
  rw [← hnL, ← hnM, ← hnF, ← hnC]
  have b1 : Below w.heap.size w (w.alloc (.cells #[.int .i64 kd, .int .i64 id, .int .i64 rs, .slice xp nL xpc, .bool cl, .int .i64 kp, .string ct, .bool wh, .string wt, .string wp, .int .i64 wq, .bool wr, .slice xw nM xwc, .bool hu, .string us, .bool hp, .string ps, .bool pr, .string tp, .string pl, .int .i64 qs, .bool rt, .bool dp, .slice xs 0 xsc, .slice xf nF xfc, .slice xc nC xcc] 49)) := (Below.refl _ _).alloc (Nat.le_refl _) _
  have b2 : Below (w.alloc (.cells #[.int .i64 kd, .int .i64 id, .int .i64 rs, .slice xp nL xpc, .bool cl, .int .i64 kp, .string ct, .bool wh, .string wt, .string wp, .int .i64 wq, .bool wr, .slice xw nM xwc, .bool hu, .string us, .bool hp, .string ps, .bool pr, .string tp, .string pl, .int .i64 qs, .bool rt, .bool dp, .slice xs 0 xsc, .slice xf nF xfc, .slice xc nC xcc] 49)).heap.size (w.alloc (.cells #[.int .i64 kd, .int .i64 id, .int .i64 rs, .slice xp nL xpc, .bool cl, .int .i64 kp, .string ct, .bool wh, .string wt, .string wp, .int .i64 wq, .bool wr, .slice xw nM xwc, .bool hu, .string us, .bool hp, .string ps, .bool pr, .string tp, .string pl, .int .i64 qs, .bool rt, .bool dp, .slice xs 0 xsc, .slice xf nF xfc, .slice xc nC xcc] 49)) ((w.alloc (.cells #[.int .i64 kd, .int .i64 id, .int .i64 rs, .slice xp nL xpc, .bool cl, .int .i64 kp, .string ct, .bool wh, .string wt, .string wp, .int .i64 wq, .bool wr, .slice xw nM xwc, .bool hu, .string us, .bool hp, .string ps, .bool pr, .string tp, .string pl, .int .i64 qs, .bool rt, .bool dp, .slice xs 0 xsc, .slice xf nF xfc, .slice xc nC xcc] 49)).alloc (.cells #[.int .i64 kd, .int .i64 id, .int .i64 rs, .slice yp nL ypc, .bool cl, .int .i64 kp, .string ct, .bool wh, .string wt, .string wp, .int .i64 wq, .bool wr, .slice yw nM ywc, .bool hu, .string us, .bool hp, .string ps, .bool pr, .string tp, .string pl, .int .i64 qs, .bool rt, .bool dp, .slice ys 0 ysc, .slice yf nF yfc, .slice yc nC ycc] 49)) := (Below.refl _ _).alloc (Nat.le_refl _) _
  have K1 := (Blk.made w 49 #[.int .i64 kd, .int .i64 id, .int .i64 rs, .slice xp nL xpc, .bool cl, .int .i64 kp, .string ct, .bool wh, .string wt, .string wp, .int .i64 wq, .bool wr, .slice xw nM xwc, .bool hu, .string us, .bool hp, .string ps, .bool pr, .string tp, .string pl, .int .i64 qs, .bool rt, .bool dp, .slice xs 0 xsc, .slice xf nF xfc, .slice xc nC xcc]).below b2 (by rw [World.size_alloc]; omega)
  have K2 := Blk.made (w.alloc (.cells #[.int .i64 kd, .int .i64 id, .int .i64 rs, .slice xp nL xpc, .bool cl, .int .i64 kp, .string ct, .bool wh, .string wt, .string wp, .int .i64 wq, .bool wr, .slice xw nM xwc, .bool hu, .string us, .bool hp, .string ps, .bool pr, .string tp, .string pl, .int .i64 qs, .bool rt, .bool dp, .slice xs 0 xsc, .slice xf nF xfc, .slice xc nC xcc] 49)) 49 #[.int .i64 kd, .int .i64 id, .int .i64 rs, .slice yp nL ypc, .bool cl, .int .i64 kp, .string ct, .bool wh, .string wt, .string wp, .int .i64 wq, .bool wr, .slice yw nM ywc, .bool hu, .string us, .bool hp, .string ps, .bool pr, .string tp, .string pl, .int .i64 qs, .bool rt, .bool dp, .slice ys 0 ysc, .slice yf nF yfc, .slice yc nC ycc]
  rw [World.size_alloc] at K2
  have hb2 := b1.trans (b2.mono b1.size)
  have H1 := (h.below b1).below b2
  have H2 := (h2.below b1).below b2
  have HB2 := Lib.hid hb2
  have HS := Lib.hid (psame_any H1.pr H2.pr nL xpc ypc hnL (by omega))
  have HK1 := Lib.hid K1
  have HK2 := Lib.hid K2
  have HP1 := Lib.hid H1
  have HP2 := Lib.hid H2
  have HN := Lib.hid (And.intro hnL (And.intro hnM (And.intro hnF hnC)))
  have HM := Lib.hid hM
  have HF := Lib.hid hF
  have HC := Lib.hid hC
  clear b1 b2 K1 K2 hb2 H1 H2 h h2 hL hM hF hC hnL hnM hnF hnC
  go_enter Try.func37, Try.ntmps37
  go_wp2_with fail
  refine HS.out.mono ?_
  rintro x w3 ⟨rfl, d, hd⟩
  have hb3 := below_drew hd
  have k1 := HK1.out.below hb3 HK1.out.lt
  have k2 := HK2.out.below hb3 HK2.out.lt
  have HQ1 := Lib.hid (HP1.out.below hb3)
  have HQ2 := Lib.hid (HP2.out.below hb3)
  have HB3 := Lib.hid (HB2.out.trans (hb3.mono HB2.out.size))
  have HWS := Lib.hid (wsame_any HQ1.out.wr HQ2.out.wr (by have := HM.out; omega) wh wt wp wq wr xwc ywc)
  rw [← HN.out.2.1] at HWS
  have HL1 := Lib.hid k1
  have HL2 := Lib.hid k2
  have c7 : w3.cell? ⟨w.heap.size, 7, none⟩ = some (.bool wh) := k1.cell 7
  have c8 : w3.cell? ⟨w.heap.size, 8, none⟩ = some (.string wt) := k1.cell 8
  have c9 : w3.cell? ⟨w.heap.size, 9, none⟩ = some (.string wp) := k1.cell 9
  have c10 : w3.cell? ⟨w.heap.size, 10, none⟩ = some (.int .i64 wq) := k1.cell 10
  have c11 : w3.cell? ⟨w.heap.size, 11, none⟩ = some (.bool wr) := k1.cell 11
  have c12 : w3.cell? ⟨w.heap.size, 12, none⟩ = some (.slice xw nM xwc) := k1.cell 12
  have d7 : w3.cell? ⟨w.heap.size + 1, 7, none⟩ = some (.bool wh) := k2.cell 7
  have d8 : w3.cell? ⟨w.heap.size + 1, 8, none⟩ = some (.string wt) := k2.cell 8
  have d9 : w3.cell? ⟨w.heap.size + 1, 9, none⟩ = some (.string wp) := k2.cell 9
  have d10 : w3.cell? ⟨w.heap.size + 1, 10, none⟩ = some (.int .i64 wq) := k2.cell 10
  have d11 : w3.cell? ⟨w.heap.size + 1, 11, none⟩ = some (.bool wr) := k2.cell 11
  have d12 : w3.cell? ⟨w.heap.size + 1, 12, none⟩ = some (.slice yw nM ywc) := k2.cell 12
  clear hd hb3 k1 k2 HS HK1 HK2 HP1 HP2 HB2
  go_wp2_with fail
  refine HWS.out.mono ?_
  rintro x w4 ⟨rfl, hb4⟩
  have k1 := HL1.out.below hb4 HL1.out.lt
  have k2 := HL2.out.below hb4 HL2.out.lt
  have HR1 := Lib.hid (HQ1.out.below hb4)
  have HR2 := Lib.hid (HQ2.out.below hb4)
  have HB4 := Lib.hid (HB3.out.trans (hb4.mono HB3.out.size))
  have e23 : w4.cell? ⟨w.heap.size, 23, none⟩ = some (.slice xs 0 xsc) := k1.cell 23
  have e24 : w4.cell? ⟨w.heap.size, 24, none⟩ = some (.slice xf nF xfc) := k1.cell 24
  have f23 : w4.cell? ⟨w.heap.size + 1, 23, none⟩ = some (.slice ys 0 ysc) := k2.cell 23
  have f24 : w4.cell? ⟨w.heap.size + 1, 24, none⟩ = some (.slice yf nF yfc) := k2.cell 24
  have HT := Lib.hid (tsame_any HR1.out.fl HR2.out.fl nF xfc yfc HN.out.2.2.1 (by have := HN.out.2.2.1; have := HF.out; omega))
  have HM1 := Lib.hid k1
  have HM2 := Lib.hid k2
  clear c7 c8 c9 c10 c11 c12 d7 d8 d9 d10 d11 d12 hb4 k1 k2 HWS HL1 HL2 HQ1 HQ2 HB3
  go_wp2_with fail
  refine (ssame_nil xsc ysc).mono ?_
  rintro x w5 ⟨rfl, rfl⟩
  go_wp2_with fail
  refine HT.out.mono ?_
  rintro x w6 ⟨rfl, d, hd⟩
  have hb6 := below_drew hd
  have k1 := HM1.out.below hb6 HM1.out.lt
  have k2 := HM2.out.below hb6 HM2.out.lt
  have HB6 := Lib.hid (HB4.out.trans (hb6.mono HB4.out.size))
  have e25 : w6.cell? ⟨w.heap.size, 25, none⟩ = some (.slice xc nC xcc) := k1.cell 25
  have f25 : w6.cell? ⟨w.heap.size + 1, 25, none⟩ = some (.slice yc nC ycc) := k2.cell 25
  have HI := Lib.hid (isame_any (HR1.out.below hb6).cd (HR2.out.below hb6).cd nC xcc ycc HN.out.2.2.2 (by have := HN.out.2.2.2; have := HC.out; omega))
  clear e23 e24 f23 f24 hd hb6 k1 k2 HT HM1 HM2 HR1 HR2 HB4
  go_wp2_with fail
  refine HI.out.mono ?_
  rintro x w7 ⟨rfl, d, hd⟩
  have HB7 := Lib.hid (HB6.out.trans ((below_drew hd).mono HB6.out.size))
  clear hd HI
  go_wp2_with fail
  go_ret
  exact ⟨rfl, HB7.out⟩
end Go.Proofs.Ytpaalhhadjihlaa
namespace Go.Proofs.Ytpaalhhadjihlaa
open Go.RowKit Go.Extern.Stop Go.Stop Go.Extern
set_option maxRecDepth 100000
section
variable {w w' : World} {B B2 : Nat} {A A2 : Option Addr} {L L2 : QL}
set_option maxHeartbeats 1000000 in
theorem samemsg_any (a b : QV) (hab : a.m = b.m) (h : PIn w B a.pa a.m.props) (h2 : PIn w B2 b.pa b.m.props) (hm : a.m.props.length ≤ 1000) : Calls Try.prog 13 #[a.agg, b.agg] w fun x w' => x = .returned (.bool true) ∧ Below w.heap.size w w' := by
  have hb0 : Below w.heap.size w ((w.alloc (.cells a.cells.toArray 36)).alloc (.cells b.cells.toArray 36)) := ((Below.refl _ _).alloc (Nat.le_refl _) _).alloc (by simp) _
  obtain ⟨⟨m1, m2, m3, m4, ml, m6, m7, m8, m9⟩, pa, pc⟩ := a
  obtain ⟨m, pa2, pc2⟩ := b
  dsimp only at hab
  subst hab
  dsimp only at h h2 hm
  have HC := Lib.hid (psame_any (h.below hb0) (h2.below hb0) ml.length pc pc2 rfl hm)
  have HB0 := Lib.hid (fun d => below_drewN hb0 d)
  have s1 := self_text6 m1
  have s2 := self_text6 m2
  have s6 := self_text6 m6
  have s9 := self_text6 m9
  clear h h2 hb0
  unfold QV.agg
  unfold QV.cells at HC HB0
  dsimp only at HC HB0 ⊢
  generalize ml.length = n at *
  go_enter Try.func13, Try.ntmps13
  go_wp2_with fail
  refine HC.out.mono ?_
  rintro x w1 ⟨rfl, d, rfl⟩
  go_wp2_with fail
  go_ret
  exact ⟨rfl, HB0.out d⟩
theorem maps_at {L L2 : QL} (h : L.map QV.m = L2.map QV.m) {k : Nat} (hk : k < L.length) : (L.getD k q0).m = (L2.getD k q0).m := by
  have hl : L.length = L2.length := by simpa using congrArg List.length h
  have h2 : (L.map QV.m)[k]? = (L2.map QV.m)[k]? := by rw [h]
  rw [List.getElem?_map, List.getElem?_map, List.getElem?_eq_getElem hk, List.getElem?_eq_getElem (hl ▸ hk)] at h2
  rw [List.getD_eq_getElem?_getD, List.getD_eq_getElem?_getD, List.getElem?_eq_getElem hk, List.getElem?_eq_getElem (hl ▸ hk)]
  exact Option.some.inj h2
theorem getD_mem' {L : QL} {k : Nat} (hk : k < L.length) : L.getD k q0 ∈ L := by
  rw [List.getD_eq_getElem?_getD, List.getElem?_eq_getElem hk]
  exact List.getElem_mem hk
set_option maxHeartbeats 4000000 in
theorem msame_any (h : MRd w A L) (h2 : MRd w A2 L2) (hp : ∀ q ∈ L, PIn w B q.pa q.m.props ∧ q.m.props.length ≤ 1000) (hp2 : ∀ q ∈ L2, PIn w B2 q.pa q.m.props) (hm : L.map QV.m = L2.map QV.m) (n c c2 : Nat) (hn : n = L.length) (hl : n ≤ 900) :
    Calls Try.prog 14 #[.slice A n c, .slice A2 n c2] w fun x w' => x = .returned (.bool true) ∧ Below w.heap.size w w' := by
  have hn2 : n = L2.length := hn.trans (by simpa using congrArg List.length hm)
  have HS := Lib.hid h
  have HS2 := Lib.hid h2
  have HP := Lib.hid hp
  have HP2 := Lib.hid hp2
  have HM := Lib.hid (fun k (hk : k < L.length) => maps_at hm hk)
  have HN := Lib.hid (And.intro hn hn2)
  clear h h2 hp hp2 hm hn hn2
  go_enter Try.func14, Try.ntmps14
  go_wp2_with fail
  go_loopw [5] (fun i wr => ∃ k : Nat, k ≤ n ∧ i = .int .i64 k ∧ Below w.heap.size w wr) (fun i _ => n - (intOf i).toNat)
  case atStart => exact ⟨0, by omega, rfl, Below.refl _ _⟩
  case round =>
    obtain ⟨k, hk, rfl, hbe⟩ := hrel
    by_cases hlt : k < n
    · have hkL : k < L.length := by have := HN.out.1; omega
      have hkL2 : k < L2.length := by have := HN.out.2; omega
      obtain ⟨g1, o1, rfl, hc1⟩ := HS.out (by omega)
      obtain ⟨g2, o2, rfl, hc2⟩ := HS2.out (by omega)
      have HC1 := Lib.hid (fun W (hb : Below w.heap.size w W) => (hc1 k hkL).at (hb.block g1 (lt_of_cell' (hc1 k hkL).c0)))
      have HC2 := Lib.hid (fun W (hb : Below w.heap.size w W) => (hc2 k hkL2).at (hb.block g2 (lt_of_cell' (hc2 k hkL2).c0)))
      have hab := HM.out k hkL
      have ha1 := HP.out _ (getD_mem' hkL)
      have hb1 := HP2.out _ (getD_mem' hkL2)
      obtain ⟨a, ha⟩ : ∃ a, a = L.getD k q0 := ⟨_, rfl⟩
      obtain ⟨b, hb⟩ : ∃ b, b = L2.getD k q0 := ⟨_, rfl⟩
      rw [← ha] at HC1 hab ha1
      rw [← hb] at HC2 hab hb1
      have D19 := Lib.hid (fun W (hi : Below w.heap.size w W) => (samemsg_any a b hab (ha1.1.below hi) (hb1.below hi) ha1.2).mono fun x w' ⟨he, hb⟩ => show x = Ending.returned (.bool true) ∧ Below w.heap.size w w' from ⟨he, hi.trans (hb.mono hi.size)⟩)
      have KS := Lib.hid (fun W (hi : Below w.heap.size w W) => show (W.cell? ⟨g1, o1 + k * 9, none⟩ = some (.string a.m.topic) ∧ W.cell? ⟨g1, o1 + k * 9 + 1, none⟩ = some (.string a.m.payload) ∧ W.cell? ⟨g1, o1 + k * 9 + 2, none⟩ = some (.int .i64 a.m.qos) ∧ W.cell? ⟨g1, o1 + k * 9 + 3, none⟩ = some (.bool a.m.retain) ∧ W.cell? ⟨g1, o1 + k * 9 + 4, none⟩ = some (.slice a.pa a.m.props.length a.pc) ∧ W.cell? ⟨g1, o1 + k * 9 + 5, none⟩ = some (.string a.m.frm) ∧ W.cell? ⟨g1, o1 + k * 9 + 6, none⟩ = some (.int .i64 a.m.til) ∧ W.cell? ⟨g1, o1 + k * 9 + 7, none⟩ = some (.int .i64 a.m.seq) ∧ W.cell? ⟨g1, o1 + k * 9 + 8, none⟩ = some (.string a.m.grp)) ∧ W.cell? ⟨g2, o2 + k * 9, none⟩ = some (.string b.m.topic) ∧ W.cell? ⟨g2, o2 + k * 9 + 1, none⟩ = some (.string b.m.payload) ∧ W.cell? ⟨g2, o2 + k * 9 + 2, none⟩ = some (.int .i64 b.m.qos) ∧ W.cell? ⟨g2, o2 + k * 9 + 3, none⟩ = some (.bool b.m.retain) ∧ W.cell? ⟨g2, o2 + k * 9 + 4, none⟩ = some (.slice b.pa b.m.props.length b.pc) ∧ W.cell? ⟨g2, o2 + k * 9 + 5, none⟩ = some (.string b.m.frm) ∧ W.cell? ⟨g2, o2 + k * 9 + 6, none⟩ = some (.int .i64 b.m.til) ∧ W.cell? ⟨g2, o2 + k * 9 + 7, none⟩ = some (.int .i64 b.m.seq) ∧ W.cell? ⟨g2, o2 + k * 9 + 8, none⟩ = some (.string b.m.grp) from
        ⟨⟨(HC1.out W hi).c0, (HC1.out W hi).c1, (HC1.out W hi).c2, (HC1.out W hi).c3, (HC1.out W hi).c4, (HC1.out W hi).c5, (HC1.out W hi).c6, (HC1.out W hi).c7, (HC1.out W hi).c8⟩, (HC2.out W hi).c0, (HC2.out W hi).c1, (HC2.out W hi).c2, (HC2.out W hi).c3, (HC2.out W hi).c4, (HC2.out W hi).c5, (HC2.out W hi).c6, (HC2.out W hi).c7, (HC2.out W hi).c8⟩)
      clear hc1 hc2 hkL hkL2 ha hb hab ha1 hb1
      unfold QV.agg at D19
      have hk1 : (k : Int) < (n : Int) := by omega
      have hk0 : (0 : Int) ≤ (k : Int) := by omega
      go_upto_region 6 with fail
      obtain ⟨⟨s0, s1, s2, s3, s4, s5, s6, s7, s8⟩, d0, d1, d2, d3, d4, d5, d6, d7, d8⟩ := KS.out _ hbe
      go_region_held3 (fun W => (W.cell? ⟨g1, o1 + k * 9, none⟩ = some (.string a.m.topic) ∧ W.cell? ⟨g1, o1 + k * 9 + 1, none⟩ = some (.string a.m.payload) ∧ W.cell? ⟨g1, o1 + k * 9 + 2, none⟩ = some (.int .i64 a.m.qos) ∧ W.cell? ⟨g1, o1 + k * 9 + 3, none⟩ = some (.bool a.m.retain) ∧ W.cell? ⟨g1, o1 + k * 9 + 4, none⟩ = some (.slice a.pa a.m.props.length a.pc) ∧ W.cell? ⟨g1, o1 + k * 9 + 5, none⟩ = some (.string a.m.frm) ∧ W.cell? ⟨g1, o1 + k * 9 + 6, none⟩ = some (.int .i64 a.m.til) ∧ W.cell? ⟨g1, o1 + k * 9 + 7, none⟩ = some (.int .i64 a.m.seq) ∧ W.cell? ⟨g1, o1 + k * 9 + 8, none⟩ = some (.string a.m.grp)) ∧ W.cell? ⟨g2, o2 + k * 9, none⟩ = some (.string b.m.topic) ∧ W.cell? ⟨g2, o2 + k * 9 + 1, none⟩ = some (.string b.m.payload) ∧ W.cell? ⟨g2, o2 + k * 9 + 2, none⟩ = some (.int .i64 b.m.qos) ∧ W.cell? ⟨g2, o2 + k * 9 + 3, none⟩ = some (.bool b.m.retain) ∧ W.cell? ⟨g2, o2 + k * 9 + 4, none⟩ = some (.slice b.pa b.m.props.length b.pc) ∧ W.cell? ⟨g2, o2 + k * 9 + 5, none⟩ = some (.string b.m.frm) ∧ W.cell? ⟨g2, o2 + k * 9 + 6, none⟩ = some (.int .i64 b.m.til) ∧ W.cell? ⟨g2, o2 + k * 9 + 7, none⟩ = some (.int .i64 b.m.seq) ∧ W.cell? ⟨g2, o2 + k * 9 + 8, none⟩ = some (.string b.m.grp))
        (first | assumption | exact KS.out _ (by assumption) | exact KS.out _ (below_drewN (by assumption) 1))
        (first
          | (go_at_call 13; (with_reducible refine (D19.out _ ?_).mono ?_); (first | assumption | exact below_drewN (by assumption) 1); rintro x w6 ⟨rfl, hi6⟩))
      have HI6 := Lib.hid hi6
      clear s0 s1 s2 s3 s4 s5 s6 s7 s8 d0 d1 d2 d3 d4 d5 d6 d7 d8 hbe hi6 D19 KS
      go_wp2_with fail
      go_roundw
      case rel => exact ⟨k + 1, by omega, by go_num, HI6.out⟩
      case measure => simp [intOf]; omega
    · have HBE := Lib.hid hbe
      clear hbe
      go_wp2_with fail
      go_ret
      exact ⟨rfl, HBE.out⟩
end
end Go.Proofs.Ytpaalhhadjihlaa

/- What is proved here: equal properties are the same to the document's function. Conditions: the properties stand where the slices say, few of them. What is proved here: equal messages, and rows of them, are the same to the document. Conditions: the rows stand where the slices say; few of them. What is proved here: what tells the same is the same to the document. Conditions: the properties stand where the slices say; few of them. -/
import Derived.Test.YtnolnhpmpjgnaaaGreatDoorSam06
import Derived.Test.YtnolnhpmpjgnaaaGreatDoorPrp
import Derived.Deep.QuietTactic
import Derived.BigQuiet
import Derived.Test.YtnolnhpmpjgnaaaGreatDoorMsgF
import Derived.Deep.RegionHeld3
import Derived.Deep.DeepMust
import Derived.Deep.DeepCutAuto
import Derived.Test.YtnolnhpmpjgnaaaGreatDoorSto34
namespace Go.Proofs.YtnolnhpmpjgnaaaGreatDoor
set_option maxRecDepth 100000
open Go.RowKit Go.Extern.Stop Go.Stop Go.Extern
section
variable {w w' : World} {B B2 : Nat} {A A2 : Option Addr} {L : PL}
theorem psame5_any (h : PIn w B A L) (h2 : PIn w B2 A2 L) (n c c2 : Nat) (hn : n = L.length) (hm : n ≤ 5000) : Calls Tryz.prog 42 #[.slice A n c, .slice A2 n c2] w fun x w' => x = .returned (.bool true) ∧ ∃ d : Nat, w' = w.drewN d := by
  by_cases hp : n = 0
  · subst hp
    clear h h2 hm hn
    go_enter Tryz.func42, Tryz.ntmps42
    go_wp2_with fail
    go_loop [5] (fun i => i = .int .i64 0) (fun _ => 0)
    case atStart => rfl
    case round =>
      subst hrel
      go_wp2_with fail
      go_ret
      exact ⟨rfl, 0, rfl⟩
  · obtain ⟨g, off, rfl, hc, hgB⟩ := h (by omega)
    obtain ⟨g2, off2, rfl, hc2, hgB2⟩ := h2 (by omega)
    have HC := Lib.hid hc
    have HC2 := Lib.hid hc2
    have HN := Lib.hid hn
    clear hc hc2 hgB hgB2 h h2 hn
    go_enter Tryz.func42, Tryz.ntmps42
    go_wp2_with fail
    go_loopw [5] (fun i wr => ∃ k d : Nat, k ≤ n ∧ i = .int .i64 k ∧ wr = w.drewN d) (fun i _ => n - (intOf i).toNat)
    case atStart => exact ⟨0, 0, by omega, rfl, rfl⟩
    case round =>
      obtain ⟨k, d, hk, rfl, hwr⟩ := hrel
      have HW := Lib.hid hwr
      by_cases hlt : k < n
      · have e1 := (HC.out k (by have := HN.out; omega)).at (w' := wr) (by rw [hwr]; rfl)
        have e2 := (HC2.out k (by have := HN.out; omega)).at (w' := wr) (by rw [hwr]; rfl)
        obtain ⟨p, hp'⟩ : ∃ p, p = L.getD k p0 := ⟨_, rfl⟩
        rw [← hp'] at e1 e2
        clear hp' hwr
        obtain ⟨a0, a1, a2, a3⟩ := e1
        obtain ⟨b0, b1, b2, b3⟩ := e2
        go_wp2_with fail
        go_quiet (fail)
        go_wp2_with fail
        go_roundw
        case rel => exact ⟨k + 1, _, by omega, by go_num, drew_on HW.out _⟩
        case measure => simp [intOf]; omega
      · clear hwr
        go_wp2_with fail
        go_ret
        exact ⟨rfl, d, HW.out⟩
end
end Go.Proofs.YtnolnhpmpjgnaaaGreatDoor
namespace Go.Proofs.YtnolnhpmpjgnaaaGreatDoor
open Go.RowKit Go.Extern.Stop Go.Stop Go.Extern
set_option maxRecDepth 100000
section
variable {w w' : World} {B B2 : Nat} {A A2 : Option Addr} {L L2 : QL}
set_option maxHeartbeats 1000000 in
theorem samemsg_any (a b : QV) (hab : a.m = b.m) (h : PIn w B a.pa a.m.props) (h2 : PIn w B2 b.pa b.m.props) (hm : a.m.props.length ≤ 5000) : Calls Tryz.prog 20 #[a.agg, b.agg] w fun x w' => x = .returned (.bool true) ∧ Below w.heap.size w w' := by
  have hb0 : Below w.heap.size w ((w.alloc (.cells a.cells.toArray 25)).alloc (.cells b.cells.toArray 25)) := ((Below.refl _ _).alloc (Nat.le_refl _) _).alloc (by simp) _
  obtain ⟨⟨m1, m2, m3, m4, ml, m6, m7, m8, m9⟩, pa, pc⟩ := a
  obtain ⟨m, pa2, pc2⟩ := b
  dsimp only at hab
  subst hab
  dsimp only at h h2 hm
  have HC := Lib.hid (psame5_any (h.below hb0) (h2.below hb0) ml.length pc pc2 rfl hm)
  have HB0 := Lib.hid (fun d => below_drewN hb0 d)
  have s1 := self_text6 m1
  have s2 := self_text6 m2
  have s6 := self_text6 m6
  have s9 := self_text6 m9
  clear h h2 hb0
  unfold QV.agg
  unfold QV.cells at HC HB0
  dsimp only at HC HB0 ⊢
  generalize ml.length = n at *
  go_enter Tryz.func20, Tryz.ntmps20
  go_wp2_with fail
  refine HC.out.mono ?_
  rintro x w1 ⟨rfl, d, rfl⟩
  go_wp2_with fail
  go_ret
  exact ⟨rfl, HB0.out d⟩
theorem maps_at {L L2 : QL} (h : L.map QV.m = L2.map QV.m) {k : Nat} (hk : k < L.length) : (L.getD k q0).m = (L2.getD k q0).m := by
  have hl : L.length = L2.length := by simpa using congrArg List.length h
  have h2 : (L.map QV.m)[k]? = (L2.map QV.m)[k]? := by rw [h]
  rw [List.getElem?_map, List.getElem?_map, List.getElem?_eq_getElem hk, List.getElem?_eq_getElem (hl ▸ hk)] at h2
  rw [List.getD_eq_getElem?_getD, List.getD_eq_getElem?_getD, List.getElem?_eq_getElem hk, List.getElem?_eq_getElem (hl ▸ hk)]
  exact Option.some.inj h2
theorem getD_mem' {L : QL} {k : Nat} (hk : k < L.length) : L.getD k q0 ∈ L := by
  rw [List.getD_eq_getElem?_getD, List.getElem?_eq_getElem hk]
  exact List.getElem_mem hk
set_option maxHeartbeats 4000000 in
theorem msame_any (h : MRd w A L) (h2 : MRd w A2 L2) (hp : ∀ q ∈ L, PIn w B q.pa q.m.props ∧ q.m.props.length ≤ 5000) (hp2 : ∀ q ∈ L2, PIn w B2 q.pa q.m.props) (hm : L.map QV.m = L2.map QV.m) (n c c2 : Nat) (hn : n = L.length) (hl : n ≤ 900) :
    Calls Tryz.prog 14 #[.slice A n c, .slice A2 n c2] w fun x w' => x = .returned (.bool true) ∧ Below w.heap.size w w' := by
  have hn2 : n = L2.length := hn.trans (by simpa using congrArg List.length hm)
  have HS := Lib.hid h
  have HS2 := Lib.hid h2
  have HP := Lib.hid hp
  have HP2 := Lib.hid hp2
  have HM := Lib.hid (fun k (hk : k < L.length) => maps_at hm hk)
  have HN := Lib.hid (And.intro hn hn2)
  clear h h2 hp hp2 hm hn hn2
  go_enter Tryz.func14, Tryz.ntmps14
  go_wp2_with fail
  go_loopw [5] (fun i wr => ∃ k : Nat, k ≤ n ∧ i = .int .i64 k ∧ Below w.heap.size w wr) (fun i _ => n - (intOf i).toNat)
  case atStart => exact ⟨0, by omega, rfl, Below.refl _ _⟩
  case round =>
    obtain ⟨k, hk, rfl, hbe⟩ := hrel
    by_cases hlt : k < n
    · have hkL : k < L.length := by have := HN.out.1; omega
      have hkL2 : k < L2.length := by have := HN.out.2; omega
      obtain ⟨g1, o1, rfl, hc1⟩ := HS.out (by omega)
      obtain ⟨g2, o2, rfl, hc2⟩ := HS2.out (by omega)
      have HC1 := Lib.hid (fun W (hb : Below w.heap.size w W) => (hc1 k hkL).at (hb.block g1 (lt_of_cell' (hc1 k hkL).c0)))
      have HC2 := Lib.hid (fun W (hb : Below w.heap.size w W) => (hc2 k hkL2).at (hb.block g2 (lt_of_cell' (hc2 k hkL2).c0)))
      have hab := HM.out k hkL
      have ha1 := HP.out _ (getD_mem' hkL)
      have hb1 := HP2.out _ (getD_mem' hkL2)
      obtain ⟨a, ha⟩ : ∃ a, a = L.getD k q0 := ⟨_, rfl⟩
      obtain ⟨b, hb⟩ : ∃ b, b = L2.getD k q0 := ⟨_, rfl⟩
      rw [← ha] at HC1 hab ha1
      rw [← hb] at HC2 hab hb1
      have D19 := Lib.hid (fun W (hi : Below w.heap.size w W) => (samemsg_any a b hab (ha1.1.below hi) (hb1.below hi) ha1.2).mono fun x w' ⟨he, hb⟩ => show x = Ending.returned (.bool true) ∧ Below w.heap.size w w' from ⟨he, hi.trans (hb.mono hi.size)⟩)
      have KS := Lib.hid (fun W (hi : Below w.heap.size w W) => show (W.cell? ⟨g1, o1 + k * 9, none⟩ = some (.string a.m.topic) ∧ W.cell? ⟨g1, o1 + k * 9 + 1, none⟩ = some (.string a.m.payload) ∧ W.cell? ⟨g1, o1 + k * 9 + 2, none⟩ = some (.int .i64 a.m.qos) ∧ W.cell? ⟨g1, o1 + k * 9 + 3, none⟩ = some (.bool a.m.retain) ∧ W.cell? ⟨g1, o1 + k * 9 + 4, none⟩ = some (.slice a.pa a.m.props.length a.pc) ∧ W.cell? ⟨g1, o1 + k * 9 + 5, none⟩ = some (.string a.m.frm) ∧ W.cell? ⟨g1, o1 + k * 9 + 6, none⟩ = some (.int .i64 a.m.til) ∧ W.cell? ⟨g1, o1 + k * 9 + 7, none⟩ = some (.int .i64 a.m.seq) ∧ W.cell? ⟨g1, o1 + k * 9 + 8, none⟩ = some (.string a.m.grp)) ∧ W.cell? ⟨g2, o2 + k * 9, none⟩ = some (.string b.m.topic) ∧ W.cell? ⟨g2, o2 + k * 9 + 1, none⟩ = some (.string b.m.payload) ∧ W.cell? ⟨g2, o2 + k * 9 + 2, none⟩ = some (.int .i64 b.m.qos) ∧ W.cell? ⟨g2, o2 + k * 9 + 3, none⟩ = some (.bool b.m.retain) ∧ W.cell? ⟨g2, o2 + k * 9 + 4, none⟩ = some (.slice b.pa b.m.props.length b.pc) ∧ W.cell? ⟨g2, o2 + k * 9 + 5, none⟩ = some (.string b.m.frm) ∧ W.cell? ⟨g2, o2 + k * 9 + 6, none⟩ = some (.int .i64 b.m.til) ∧ W.cell? ⟨g2, o2 + k * 9 + 7, none⟩ = some (.int .i64 b.m.seq) ∧ W.cell? ⟨g2, o2 + k * 9 + 8, none⟩ = some (.string b.m.grp) from
        ⟨⟨(HC1.out W hi).c0, (HC1.out W hi).c1, (HC1.out W hi).c2, (HC1.out W hi).c3, (HC1.out W hi).c4, (HC1.out W hi).c5, (HC1.out W hi).c6, (HC1.out W hi).c7, (HC1.out W hi).c8⟩, (HC2.out W hi).c0, (HC2.out W hi).c1, (HC2.out W hi).c2, (HC2.out W hi).c3, (HC2.out W hi).c4, (HC2.out W hi).c5, (HC2.out W hi).c6, (HC2.out W hi).c7, (HC2.out W hi).c8⟩)
      clear hc1 hc2 hkL hkL2 ha hb hab ha1 hb1
      unfold QV.agg at D19
      have hk1 : (k : Int) < (n : Int) := by omega
      have hk0 : (0 : Int) ≤ (k : Int) := by omega
      go_upto_region 6 with fail
      obtain ⟨⟨s0, s1, s2, s3, s4, s5, s6, s7, s8⟩, d0, d1, d2, d3, d4, d5, d6, d7, d8⟩ := KS.out _ hbe
      go_region_held3 (fun W => (W.cell? ⟨g1, o1 + k * 9, none⟩ = some (.string a.m.topic) ∧ W.cell? ⟨g1, o1 + k * 9 + 1, none⟩ = some (.string a.m.payload) ∧ W.cell? ⟨g1, o1 + k * 9 + 2, none⟩ = some (.int .i64 a.m.qos) ∧ W.cell? ⟨g1, o1 + k * 9 + 3, none⟩ = some (.bool a.m.retain) ∧ W.cell? ⟨g1, o1 + k * 9 + 4, none⟩ = some (.slice a.pa a.m.props.length a.pc) ∧ W.cell? ⟨g1, o1 + k * 9 + 5, none⟩ = some (.string a.m.frm) ∧ W.cell? ⟨g1, o1 + k * 9 + 6, none⟩ = some (.int .i64 a.m.til) ∧ W.cell? ⟨g1, o1 + k * 9 + 7, none⟩ = some (.int .i64 a.m.seq) ∧ W.cell? ⟨g1, o1 + k * 9 + 8, none⟩ = some (.string a.m.grp)) ∧ W.cell? ⟨g2, o2 + k * 9, none⟩ = some (.string b.m.topic) ∧ W.cell? ⟨g2, o2 + k * 9 + 1, none⟩ = some (.string b.m.payload) ∧ W.cell? ⟨g2, o2 + k * 9 + 2, none⟩ = some (.int .i64 b.m.qos) ∧ W.cell? ⟨g2, o2 + k * 9 + 3, none⟩ = some (.bool b.m.retain) ∧ W.cell? ⟨g2, o2 + k * 9 + 4, none⟩ = some (.slice b.pa b.m.props.length b.pc) ∧ W.cell? ⟨g2, o2 + k * 9 + 5, none⟩ = some (.string b.m.frm) ∧ W.cell? ⟨g2, o2 + k * 9 + 6, none⟩ = some (.int .i64 b.m.til) ∧ W.cell? ⟨g2, o2 + k * 9 + 7, none⟩ = some (.int .i64 b.m.seq) ∧ W.cell? ⟨g2, o2 + k * 9 + 8, none⟩ = some (.string b.m.grp))
        (first | assumption | exact KS.out _ (by assumption) | exact KS.out _ (below_drewN (by assumption) 1))
        (first
          | (go_at_call 20; (with_reducible refine (D19.out _ ?_).mono ?_); (first | assumption | exact below_drewN (by assumption) 1); rintro x w6 ⟨rfl, hi6⟩))
      have HI6 := Lib.hid hi6
      clear s0 s1 s2 s3 s4 s5 s6 s7 s8 d0 d1 d2 d3 d4 d5 d6 d7 d8 hbe hi6 D19 KS
      go_wp2_with fail
      go_roundw
      case rel => exact ⟨k + 1, by omega, by go_num, HI6.out⟩
      case measure => simp [intOf]; omega
    · have HBE := Lib.hid hbe
      clear hbe
      go_wp2_with fail
      go_ret
      exact ⟨rfl, HBE.out⟩
end
end Go.Proofs.YtnolnhpmpjgnaaaGreatDoor
namespace Go.Proofs.YtnolnhpmpjgnaaaGreatDoor
set_option maxRecDepth 100000
open Go.RowKit Go.Extern.Stop Go.Stop Go.Extern
set_option maxHeartbeats 4000000 in
theorem rsame34 {w : World} {B B2 : Nat} (o : OV) (A A2 : Option Addr) (c c2 : Nat) (h : PIn w B A o.m.props) (h2 : PIn w B2 A2 o.m.props) (hm : o.m.props.length ≤ 5000) :
    Calls Tryz.prog 9 #[o.agg A c, o.agg A2 c2] w fun x w' => x = .returned (.bool true) ∧ Below w.heap.size w w' := by
  obtain ⟨kd, gr, sq, ⟨m1, m2, m3, m4, m5, m6, m7, m8, m9⟩⟩ := o
  simp only at h h2 hm
  unfold OV.agg
  simp only
  have HC := Lib.hid (fun (W : World) (hb : Below w.heap.size w W) => show Calls Tryz.prog 20 #[.agg #[.string m1, .string m2, .int .i64 m3, .bool m4, .slice A m5.length c, .string m6, .int .i64 m7, .int .i64 m8, .string m9], .agg #[.string m1, .string m2, .int .i64 m3, .bool m4, .slice A2 m5.length c2, .string m6, .int .i64 m7, .int .i64 m8, .string m9]] W _ from
    samemsg_any ⟨⟨m1, m2, m3, m4, m5, m6, m7, m8, m9⟩, A, c⟩ ⟨⟨m1, m2, m3, m4, m5, m6, m7, m8, m9⟩, A2, c2⟩ rfl (h.below hb) (h2.below hb) hm)
  have s1 := self_text6 gr
  have HO := Lib.hid (Own.start [] w)
  clear h h2 hm
  generalize m5.length = n at *
  go_enter Tryz.func9, Tryz.ntmps9
  go_upto_region 1 with (first
    | (refine wpo_box (t := 27) (L := []) HO.out _ rfl rfl rfl ?_; clear HO; rintro k2 W2 hO; have HO := Lib.hid hO; clear hO; simp only [Act.put, List.setIfInBounds_toArray, List.set_cons_zero, List.set_cons_succ])
    | (refine wpo_box (t := 27) HO.out _ rfl rfl rfl ?_; clear HO; rintro k3 W3 hO; have HO := Lib.hid hO; clear hO; simp only [Act.put, List.setIfInBounds_toArray, List.set_cons_zero, List.set_cons_succ]))
  have k2f0 : W3.cell? ⟨k2, 0, none⟩ = some (.int .i64 kd) := (HO.out.get 1 rfl).cell 0
  have k2f1 : W3.cell? ⟨k2, 1, none⟩ = some (.string gr) := (HO.out.get 1 rfl).cell 1
  have k2f2 : W3.cell? ⟨k2, 2, none⟩ = some (.int .i64 sq) := (HO.out.get 1 rfl).cell 2
  have k2f3 : W3.cell? ⟨k2, 3, none⟩ = some (.string m1) := (HO.out.get 1 rfl).cell 3
  have k2f4 : W3.cell? ⟨k2, 4, none⟩ = some (.string m2) := (HO.out.get 1 rfl).cell 4
  have k2f5 : W3.cell? ⟨k2, 5, none⟩ = some (.int .i64 m3) := (HO.out.get 1 rfl).cell 5
  have k2f6 : W3.cell? ⟨k2, 6, none⟩ = some (.bool m4) := (HO.out.get 1 rfl).cell 6
  have k2f7 : W3.cell? ⟨k2, 7, none⟩ = some (.slice A n c) := (HO.out.get 1 rfl).cell 7
  have k2f8 : W3.cell? ⟨k2, 8, none⟩ = some (.string m6) := (HO.out.get 1 rfl).cell 8
  have k2f9 : W3.cell? ⟨k2, 9, none⟩ = some (.int .i64 m7) := (HO.out.get 1 rfl).cell 9
  have k2f10 : W3.cell? ⟨k2, 10, none⟩ = some (.int .i64 m8) := (HO.out.get 1 rfl).cell 10
  have k2f11 : W3.cell? ⟨k2, 11, none⟩ = some (.string m9) := (HO.out.get 1 rfl).cell 11
  have k3f0 : W3.cell? ⟨k3, 0, none⟩ = some (.int .i64 kd) := (HO.out.get 0 rfl).cell 0
  have k3f1 : W3.cell? ⟨k3, 1, none⟩ = some (.string gr) := (HO.out.get 0 rfl).cell 1
  have k3f2 : W3.cell? ⟨k3, 2, none⟩ = some (.int .i64 sq) := (HO.out.get 0 rfl).cell 2
  have k3f3 : W3.cell? ⟨k3, 3, none⟩ = some (.string m1) := (HO.out.get 0 rfl).cell 3
  have k3f4 : W3.cell? ⟨k3, 4, none⟩ = some (.string m2) := (HO.out.get 0 rfl).cell 4
  have k3f5 : W3.cell? ⟨k3, 5, none⟩ = some (.int .i64 m3) := (HO.out.get 0 rfl).cell 5
  have k3f6 : W3.cell? ⟨k3, 6, none⟩ = some (.bool m4) := (HO.out.get 0 rfl).cell 6
  have k3f7 : W3.cell? ⟨k3, 7, none⟩ = some (.slice A2 n c2) := (HO.out.get 0 rfl).cell 7
  have k3f8 : W3.cell? ⟨k3, 8, none⟩ = some (.string m6) := (HO.out.get 0 rfl).cell 8
  have k3f9 : W3.cell? ⟨k3, 9, none⟩ = some (.int .i64 m7) := (HO.out.get 0 rfl).cell 9
  have k3f10 : W3.cell? ⟨k3, 10, none⟩ = some (.int .i64 m8) := (HO.out.get 0 rfl).cell 10
  have k3f11 : W3.cell? ⟨k3, 11, none⟩ = some (.string m9) := (HO.out.get 0 rfl).cell 11
  go_wp2_with fail
  refine (HC.out _ HO.out.bel).mono ?_
  rintro x W4 ⟨rfl, hb⟩
  have HB := Lib.hid (HO.out.bel.trans (hb.mono HO.out.bel.size))
  clear k2f0 k3f0 k2f1 k3f1 k2f2 k3f2 k2f3 k3f3 k2f4 k3f4 k2f5 k3f5 k2f6 k3f6 k2f7 k3f7 k2f8 k3f8 k2f9 k3f9 k2f10 k3f10 k2f11 k3f11 hb HO HC
  go_wp2_with fail
  go_ret
  exact ⟨rfl, HB.out⟩
end Go.Proofs.YtnolnhpmpjgnaaaGreatDoor

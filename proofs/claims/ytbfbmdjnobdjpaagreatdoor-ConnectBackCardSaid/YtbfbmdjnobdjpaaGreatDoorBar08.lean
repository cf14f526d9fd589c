/- What is proved here: the document's Bare of a Connect. Conditions: the packet's parts stand where it says, few of them. -/
import Derived.Test.YtbfbmdjnobdjpaaGreatDoorEnc08
import Derived.Test.YtbfbmdjnobdjpaaGreatDoorDec08
import Derived.Test.YtbfbmdjnobdjpaaGreatDoorBra08
import Derived.Deep.DeepCutAuto
namespace Go.Proofs.YtbfbmdjnobdjpaaGreatDoor
set_option maxRecDepth 100000
open Go.ChangeShapes Go.WideShapes Go.RowKit Go.Deep Go.Extern.Stop Go.Stop Go.Extern
/-- The packet that Bare fills. -/
def pkX (p : Pk) (h : Bool) (wt wp : ByteArray) (wq : Int) (wr : Bool) (M : PL) (us ps : ByteArray) (L : PL) : Pk := ⟨1, 0, 0, L, p.clean, p.keep, p.client, h, wt, wp, wq, wr, M, p.hasUser, us, p.hasPass, ps, false, ⟨#[]⟩, ⟨#[]⟩, 0, false, false, [], [], []⟩
/-- What it holds meanwhile. -/
structure BrK (w W : World) (c y : Array Value) (k : Nat) (a aw : Option Addr) (L M : PL) : Prop where
  i : BrIn w c W
  b : Blk W k 29 y
  hk : w.heap.size + 2 ≤ k
  p1 : PIn W w.heap.size a L
  p2 : PIn W w.heap.size aw M
section
variable {w W W' : World} {c y : Array Value} {k : Nat} {a aw a' : Option Addr} {L M L' : PL}
theorem BrK.below (h : BrK w W c y k a aw L M) (hb : Below W.heap.size W W') : BrK w W' c y k a aw L M := ⟨h.i.below hb, h.b.below hb h.b.lt, h.hk, h.p1.below hb, h.p2.below hb⟩
theorem BrK.cell (h : BrK w W c y k a aw L M) (i : Nat) (u : Value) : BrK w (W.setCell ⟨k, i, none⟩ u) c (y.setIfInBounds i u) k a aw L M :=
  ⟨h.i.farc h.hk i u, h.b.store i u, h.hk, h.p1.cell h.b (by have := h.hk; omega) i u, h.p2.cell h.b (by have := h.hk; omega) i u⟩
theorem BrK.cellq (h : BrK w W c y k a aw L M) (hp : PIn W w.heap.size a' L') (i : Nat) (u : Value) : PIn (W.setCell ⟨k, i, none⟩ u) w.heap.size a' L' := hp.cell h.b (by have := h.hk; omega) i u
theorem BrK.there6 (h : BrK w W c y k a aw L M) (hy : y.size = 26) : W.there k 7 6 := fun j hj => by
  refine ⟨?_, h.b.frozen _⟩
  rw [h.b.cell (7 + j), Array.getElem?_eq_getElem (by omega)]
  rfl
theorem BrK.cells6 (h : BrK w W c y k a aw L M) (u0 u1 u2 u3 u4 u5 : Value) :
    BrK w (W.setCells k 7 (#[u0, u1, u2, u3, u4, u5] : Array Value).toList) c ((((((y.setIfInBounds 7 u0).setIfInBounds 8 u1).setIfInBounds 9 u2).setIfInBounds 10 u3).setIfInBounds 11 u4).setIfInBounds 12 u5) k a aw L M :=
  (((((h.cell 7 u0).cell 8 u1).cell 9 u2).cell 10 u3).cell 11 u4).cell 12 u5
end
section
variable {w w' : World} {A : PkA} {p : Pk}
set_option maxHeartbeats 16000000 in
theorem bare08 {B : Nat} (h : PkIn w B A p) (hBw : B ≤ w.heap.size) (hS : SmK p) : Calls Tryz.prog 19 #[p.agg A] w (BrSays w (bareK p)) := by
  have HM := Lib.hid (small_few hS.1)
  have HMW := Lib.hid (small_few hS.2.1)
  obtain ⟨q, hq⟩ : ∃ q, q = bareK p := ⟨_, rfl⟩
  rw [← hq]
  unfold bareK at hq
  obtain ⟨z, hz⟩ : ∃ z, z = pk0.cells pa0 := ⟨_, rfl⟩
  have HZ := Lib.hid hz
  have HZS := Lib.hid (show z.size = 26 by rw [hz]; rfl)
  obtain ⟨c, hc⟩ : ∃ c, c = p.cells A := ⟨_, rfl⟩
  rw [show p.agg A = .agg c from by rw [hc]; rfl]
  have HCS := Lib.hid (show c.size = 26 by rw [hc]; rfl)
  have HC := Lib.hid hc
  have a1 : Below w.heap.size w (w.alloc (.cells c 29)) := (Below.refl _ _).alloc (Nat.le_refl _) _
  obtain ⟨W2, hW2⟩ : ∃ W, W = (w.alloc (.cells c 29)).alloc (.cells z 29) := ⟨_, rfl⟩
  have hb2 : Below w.heap.size w W2 := by rw [hW2]; exact a1.trans (((Below.refl (w.alloc (.cells c 29)).heap.size _).alloc (Nat.le_refl _) (.cells z 29)).mono a1.size)
  have r0 : Blk W2 w.heap.size 29 c := by rw [hW2]; exact (Blk.made w 29 c).alloc (.cells z 29)
  have r1 : Blk W2 (w.heap.size + 1) 29 z := by
    have h := Blk.made (w.alloc (.cells c 29)) 29 z
    rw [World.size_alloc] at h
    rw [hW2]; exact h
  have hI : BrIn w c W2 := ⟨hb2, r0, z, r1, HZS.out⟩
  have k3 : W2.cell? ⟨w.heap.size, 3, none⟩ = some (.slice A.pa p.props.length A.pc) := (hI.box.cell 3).trans (by rw [hc]; rfl)
  have k4 : W2.cell? ⟨w.heap.size, 4, none⟩ = some (.bool p.clean) := (hI.box.cell 4).trans (by rw [hc]; rfl)
  have k5 : W2.cell? ⟨w.heap.size, 5, none⟩ = some (.int .i64 p.keep) := (hI.box.cell 5).trans (by rw [hc]; rfl)
  have k6 : W2.cell? ⟨w.heap.size, 6, none⟩ = some (.string p.client) := (hI.box.cell 6).trans (by rw [hc]; rfl)
  have k13 : W2.cell? ⟨w.heap.size, 13, none⟩ = some (.bool p.hasUser) := (hI.box.cell 13).trans (by rw [hc]; rfl)
  have k15 : W2.cell? ⟨w.heap.size, 15, none⟩ = some (.bool p.hasPass) := (hI.box.cell 15).trans (by rw [hc]; rfl)
  obtain ⟨y0, hy0⟩ : ∃ y, y = (pkX p false ⟨#[]⟩ ⟨#[]⟩ 0 false [] ⟨#[]⟩ ⟨#[]⟩ p.props).cells (paK A.pa A.pc none 0) := ⟨_, rfl⟩
  have HY0 := Lib.hid hy0
  have HYS := Lib.hid (show y0.size = 26 by rw [hy0]; rfl)
  have HY1 := Lib.hid (show y0.all (·.oneCell') = true by rw [hy0]; exact pk_one _ _)
  obtain ⟨W3, hW3⟩ : ∃ W, W = W2.alloc (.cells y0 29) := ⟨_, rfl⟩
  have hb3 : Below W2.heap.size W2 W3 := by rw [hW3]; exact (Below.refl _ _).alloc (Nat.le_refl _) _
  obtain ⟨k, hk⟩ : ∃ k, k = W2.heap.size := ⟨_, rfl⟩
  have hP3 : BrK w W3 c y0 k A.pa none p.props [] := ⟨hI.below hb3, by rw [hW3, hk]; exact Blk.made W2 _ y0, by
    rw [hk, hW2, World.size_alloc, World.size_alloc]; exact Nat.le_refl _, ((h.pr.mono hBw).below hb2).below hb3, PIn.nil _ _ _⟩
  have hPW : PIn W3 w.heap.size A.wa p.wProps := ((h.wr.mono hBw).below hb2).below hb3
  have HP3 := Lib.hid hP3
  have HPW := Lib.hid hPW
  have HWC := Lib.hid h.wc
  have HW2 := Lib.hid hW2
  have HW3 := Lib.hid hW3
  have HK := Lib.hid hk
  have HQ := Lib.hid hq
  clear hz hc a1 hb2 r0 r1 hW2 h hq hI hb3 hW3 hk hP3 hPW hy0
  go_enter Tryz.func19, Tryz.ntmps19
  go_upto_region 1 with (first | refine wpk_box HCS.out _ rfl rfl rfl ?_ | refine wpk_alloc HZ.out rfl rfl ?_)
  rw [← HW2.out]
  go_upto_region 2 with (first | refine wpk_alloc HZ.out rfl rfl ?_ | refine wpk_store_new HZS.out (c := y0) HYS.out HY1.out _ _ rfl rfl rfl (by rw [HY0.out]; rfl) ?_)
  rw [← HW3.out]
  try rw [← HK.out]
  have hq := HQ.out
  have c7 : W3.cell? ⟨w.heap.size, 7, none⟩ = some (.bool p.wHas) := (HP3.out.i.box.cell 7).trans (by rw [HC.out]; rfl)
  clear k3 k4 k5 k6 k13 k15 HQ HW2 HW3 HK
  by_cases h7 : p.wHas = true
  case' pos =>
    rw [h7] at c7
    rw [if_pos h7, if_pos h7, if_pos h7, if_pos h7, h7, Bool.true_and] at hq
    obtain ⟨lc, hlc⟩ : ∃ lc : Array Value, lc = #[.bool true, .string p.wTopic, .string p.wPay, .int .i64 p.wQos, .bool p.wRetain, .slice A.wa p.wProps.length A.wc] := ⟨_, rfl⟩
    have HLS := Lib.hid (show lc.size = 6 by rw [hlc]; rfl)
    have HRA := Lib.hid (show W3.rangeAt w.heap.size 7 lc.toList from fun j v hv => by
      have hj : j < 6 := by
        have := (List.getElem?_eq_some_iff.1 hv).1
        rw [hlc] at this
        exact this
      rw [HP3.out.i.box.cell (7 + j), ← hv, hlc, HC.out]
      rcases j with _ | _ | _ | _ | _ | _ | j
      · show some (Value.bool p.wHas) = _
        rw [h7]
        rfl
      all_goals first | rfl | omega)
    have HTH := Lib.hid (show W3.there k 7 lc.size by rw [HLS.out]; exact HP3.out.there6 HYS.out)
    have HIP := Lib.hid (show (Tryz.prog.info? 24).map (·.size) = some lc.size by rw [HLS.out]; exact ip_last)
    have HIL := Lib.hid (show (Tryz.prog.info? 24).map (·.size) = some lc.toList.length by rw [Array.length_toList, HLS.out]; exact ip_last)
    have HLO := Lib.hid (show lc.all (·.oneCell') = true by rw [hlc]; simp [Value.oneCell'])
    have hp4 := HP3.out.cells6 (.bool true) (.string p.wTopic) (.string p.wPay) (.int .i64 p.wQos) (.bool p.wRetain) (.slice A.wa p.wProps.length A.wc)
    have hw4 := (((((HP3.out.cell 7 (.bool true)).cell 8 (.string p.wTopic)).cell 9 (.string p.wPay)).cell 10 (.int .i64 p.wQos)).cell 11 (.bool p.wRetain)).cellq
      (((((HP3.out.cell 7 (.bool true)).cell 8 (.string p.wTopic)).cell 9 (.string p.wPay)).cell 10 (.int .i64 p.wQos)).cellq ((((HP3.out.cell 7 (.bool true)).cell 8 (.string p.wTopic)).cell 9 (.string p.wPay)).cellq
        (((HP3.out.cell 7 (.bool true)).cell 8 (.string p.wTopic)).cellq ((HP3.out.cell 7 (.bool true)).cellq (HP3.out.cellq HPW.out 7 (.bool true)) 8 (.string p.wTopic)) 9 (.string p.wPay)) 10 (.int .i64 p.wQos)) 11 (.bool p.wRetain)) 12 (.slice A.wa p.wProps.length A.wc)
    obtain ⟨WN, hWN⟩ : ∃ W, W = W3.setCells k 7 lc.toList := ⟨_, rfl⟩
    rw [show (#[Value.bool true, .string p.wTopic, .string p.wPay, .int .i64 p.wQos, .bool p.wRetain, .slice A.wa p.wProps.length A.wc] : Array Value) = lc from by rw [hlc], ← hWN] at hp4
    have hw4 : PIn WN w.heap.size A.wa p.wProps := by rw [hWN, hlc]; exact hw4
    obtain ⟨yN, hyN⟩ : ∃ y, y = ((((((y0.setIfInBounds 7 (.bool true)).setIfInBounds 8 (.string p.wTopic)).setIfInBounds 9 (.string p.wPay)).setIfInBounds 10 (.int .i64 p.wQos)).setIfInBounds 11 (.bool p.wRetain)).setIfInBounds 12 (.slice A.wa p.wProps.length A.wc)) := ⟨_, rfl⟩
    rw [← hyN] at hp4
    obtain ⟨M, hM⟩ : ∃ M, M = p.wProps := ⟨_, rfl⟩
    obtain ⟨aw, haw⟩ : ∃ a, a = A.wa := ⟨_, rfl⟩
    obtain ⟨cw, hcw⟩ : ∃ n, n = A.wc := ⟨_, rfl⟩
    obtain ⟨wt, hwt⟩ : ∃ t, t = p.wTopic := ⟨_, rfl⟩
    obtain ⟨wp, hwp⟩ : ∃ t, t = p.wPay := ⟨_, rfl⟩
    obtain ⟨wq, hwq⟩ : ∃ t, t = p.wQos := ⟨_, rfl⟩
    obtain ⟨wr, hwr⟩ : ∃ t, t = p.wRetain := ⟨_, rfl⟩
    obtain ⟨wh, hwh⟩ : ∃ t, t = true := ⟨_, rfl⟩
    have HPN := Lib.hid (show BrK w WN c yN k A.pa aw p.props M from ⟨hp4.i, hp4.b, hp4.hk, hp4.p1, by rw [haw, hM]; exact hw4⟩)
    have HYN := Lib.hid (show yN = (pkX p wh wt wp wq wr M ⟨#[]⟩ ⟨#[]⟩ p.props).cells (paK A.pa A.pc aw cw) by
      rw [hyN, HY0.out, hwh, hwt, hwp, hwq, hwr, hM, haw, hcw]
      rfl)
    have HMM := Lib.hid (show M.length ≤ 1000 by rw [hM]; exact HMW.out)
    replace hq : q = pkX p wh wt wp wq wr (plL M) (if p.hasUser = true then p.user else ⟨#[]⟩) (if p.hasPass = true then p.pass else ⟨#[]⟩) (plL p.props) := by
      rw [hq, hwh, hwt, hwp, hwq, hwr, hM]
      rfl
    have HQ5 := Lib.hid hq
    have HWN := Lib.hid hWN
    clear hlc hp4 hw4 hWN hyN hM haw hcw hwt hwp hwq hwr hwh hq h7 HPW
    go_upto_region 4 with (first | refine wpList_load_mid rfl 24 _ rfl w.heap.size 7 rfl lc.toList _ HRA.out Tryz.underlying24 rfl HIL.out ?_ | refine wpList_store_mid rfl 24 _ _ rfl k 7 lc rfl rfl HTH.out HIP.out HLO.out ?_)
    rw [← HWN.out]
    clear HWN HTH HIP HIL HLO HLS HRA c7
  case' neg =>
    have h7f : p.wHas = false := by simpa using h7
    rw [h7f] at c7
    rw [if_neg h7, if_neg h7, if_neg h7, if_neg h7, h7f, Bool.false_and] at hq
    obtain ⟨WN, hWN⟩ : ∃ W, W = W3 := ⟨_, rfl⟩
    obtain ⟨yN, hyN⟩ : ∃ y, y = y0 := ⟨_, rfl⟩
    obtain ⟨M, hM⟩ : ∃ M : PL, M = [] := ⟨_, rfl⟩
    obtain ⟨aw, haw⟩ : ∃ a : Option Addr, a = none := ⟨_, rfl⟩
    obtain ⟨cw, hcw⟩ : ∃ n : Nat, n = 0 := ⟨_, rfl⟩
    obtain ⟨wt, hwt⟩ : ∃ t : ByteArray, t = ⟨#[]⟩ := ⟨_, rfl⟩
    obtain ⟨wp, hwp⟩ : ∃ t : ByteArray, t = ⟨#[]⟩ := ⟨_, rfl⟩
    obtain ⟨wq, hwq⟩ : ∃ t : Int, t = 0 := ⟨_, rfl⟩
    obtain ⟨wr, hwr⟩ : ∃ t, t = false := ⟨_, rfl⟩
    obtain ⟨wh, hwh⟩ : ∃ t, t = false := ⟨_, rfl⟩
    have HPN := Lib.hid (show BrK w WN c yN k A.pa aw p.props M from by rw [hWN, hyN, haw, hM]; exact HP3.out)
    have HYN := Lib.hid (show yN = (pkX p wh wt wp wq wr M ⟨#[]⟩ ⟨#[]⟩ p.props).cells (paK A.pa A.pc aw cw) by
      rw [hyN, HY0.out, hwh, hwt, hwp, hwq, hwr, hM, haw, hcw])
    have HMM := Lib.hid (show M.length ≤ 1000 by rw [hM]; exact Nat.zero_le _)
    replace hq : q = pkX p wh wt wp wq wr (plL M) (if p.hasUser = true then p.user else ⟨#[]⟩) (if p.hasPass = true then p.pass else ⟨#[]⟩) (plL p.props) := by
      rw [hq, hwh, hwt, hwp, hwq, hwr, hM]
      rfl
    have HQ5 := Lib.hid hq
    have HWN := Lib.hid hWN
    clear hWN hyN hM haw hcw hwt hwp hwq hwr hwh hq h7 h7f HPW
    go_upto_region 4 with fail
    rw [← HWN.out]
    clear HWN c7
  all_goals
    have hq := HQ5.out
    have c13 : WN.cell? ⟨w.heap.size, 13, none⟩ = some (.bool p.hasUser) := (HPN.out.i.box.cell 13).trans (by rw [HC.out]; rfl)
    clear HQ5 HP3
    by_cases h8 : p.hasUser = true
    case' pos =>
      rw [h8] at c13
      rw [if_pos h8] at hq
      have c14 : WN.cell? ⟨w.heap.size, 14, none⟩ = some (.string p.user) := (HPN.out.i.box.cell 14).trans (by rw [HC.out]; rfl)
      have d14 : WN.cell? ⟨k, 14, none⟩ = some (.string ⟨#[]⟩) := (HPN.out.b.cell 14).trans (by rw [HYN.out]; rfl)
      have f14 := HPN.out.b.frozen 14
      obtain ⟨us, hus⟩ : ∃ t, t = p.user := ⟨_, rfl⟩
      rw [← hus] at c14 hq
      obtain ⟨W8, hW8⟩ : ∃ W, W = WN.setCell ⟨k, 14, none⟩ (.string us) := ⟨_, rfl⟩
      obtain ⟨yU, hyU⟩ : ∃ y, y = yN.setIfInBounds 14 (.string us) := ⟨_, rfl⟩
      have hpu := HPN.out.cell 14 (.string us)
      rw [← hW8, ← hyU] at hpu
      have HPU := Lib.hid hpu
      have HYU := Lib.hid (show yU = (pkX p wh wt wp wq wr M us ⟨#[]⟩ p.props).cells (paK A.pa A.pc aw cw) by
        rw [hyU, HYN.out]
        rfl)
      have HQ6 := Lib.hid hq
      have HW8 := Lib.hid hW8
      clear hus hW8 hyU hpu hq h8 HPN HYN
      go_upto_region 6 with fail
      rw [← HW8.out]
      clear HW8 c13 c14 d14 f14
    case' neg =>
      have h8f : p.hasUser = false := by simpa using h8
      rw [h8f] at c13
      rw [if_neg h8] at hq
      obtain ⟨us, hus⟩ : ∃ t : ByteArray, t = ⟨#[]⟩ := ⟨_, rfl⟩
      replace hq : q = pkX p wh wt wp wq wr (plL M) us (if p.hasPass = true then p.pass else ⟨#[]⟩) (plL p.props) := by rw [hq, hus]
      obtain ⟨W8, hW8⟩ : ∃ W, W = WN := ⟨_, rfl⟩
      obtain ⟨yU, hyU⟩ : ∃ y, y = yN := ⟨_, rfl⟩
      have HPU := Lib.hid (show BrK w W8 c yU k A.pa aw p.props M from by rw [hW8, hyU]; exact HPN.out)
      have HYU := Lib.hid (show yU = (pkX p wh wt wp wq wr M us ⟨#[]⟩ p.props).cells (paK A.pa A.pc aw cw) by
        rw [hyU, HYN.out, hus])
      have HQ6 := Lib.hid hq
      have HW8 := Lib.hid hW8
      clear hus hW8 hyU hq h8 h8f HPN HYN
      go_upto_region 6 with fail
      rw [← HW8.out]
      clear HW8 c13
    all_goals
      have hq := HQ6.out
      have c15 : W8.cell? ⟨w.heap.size, 15, none⟩ = some (.bool p.hasPass) := (HPU.out.i.box.cell 15).trans (by rw [HC.out]; rfl)
      clear HQ6
      by_cases h9 : p.hasPass = true
      case' pos =>
        rw [h9] at c15
        rw [if_pos h9] at hq
        have c16 : W8.cell? ⟨w.heap.size, 16, none⟩ = some (.string p.pass) := (HPU.out.i.box.cell 16).trans (by rw [HC.out]; rfl)
        have d16 : W8.cell? ⟨k, 16, none⟩ = some (.string ⟨#[]⟩) := (HPU.out.b.cell 16).trans (by rw [HYU.out]; rfl)
        have f16 := HPU.out.b.frozen 16
        obtain ⟨ps, hps⟩ : ∃ t, t = p.pass := ⟨_, rfl⟩
        rw [← hps] at c16 hq
        obtain ⟨W9, hW9⟩ : ∃ W, W = W8.setCell ⟨k, 16, none⟩ (.string ps) := ⟨_, rfl⟩
        obtain ⟨yV, hyV⟩ : ∃ y, y = yU.setIfInBounds 16 (.string ps) := ⟨_, rfl⟩
        have hpu := HPU.out.cell 16 (.string ps)
        rw [← hW9, ← hyV] at hpu
        have HPV := Lib.hid hpu
        have HYV := Lib.hid (show yV = (pkX p wh wt wp wq wr M us ps p.props).cells (paK A.pa A.pc aw cw) by
          rw [hyV, HYU.out]
          rfl)
        have HQ7 := Lib.hid hq
        have HW9 := Lib.hid hW9
        clear hps hW9 hyV hpu hq h9 HPU HYU
        go_upto_region 8 with fail
        rw [← HW9.out]
        clear HW9 c15 c16 d16 f16
      case' neg =>
        have h9f : p.hasPass = false := by simpa using h9
        rw [h9f] at c15
        rw [if_neg h9] at hq
        obtain ⟨ps, hps⟩ : ∃ t : ByteArray, t = ⟨#[]⟩ := ⟨_, rfl⟩
        rw [← hps] at hq
        obtain ⟨W9, hW9⟩ : ∃ W, W = W8 := ⟨_, rfl⟩
        obtain ⟨yV, hyV⟩ : ∃ y, y = yU := ⟨_, rfl⟩
        have HPV := Lib.hid (show BrK w W9 c yV k A.pa aw p.props M from by rw [hW9, hyV]; exact HPU.out)
        have HYV := Lib.hid (show yV = (pkX p wh wt wp wq wr M us ps p.props).cells (paK A.pa A.pc aw cw) by
          rw [hyV, HYU.out, hps])
        have HQ7 := Lib.hid hq
        have HW9 := Lib.hid hW9
        clear hps hW9 hyV hq h9 h9f HPU HYU
        go_upto_region 8 with fail
        rw [← HW9.out]
        clear HW9 c15
      all_goals
        have c3 : W9.cell? ⟨k, 3, none⟩ = some (.slice A.pa p.props.length A.pc) := (HPV.out.b.cell 3).trans (by rw [HYV.out]; rfl)
        have HR3 := Lib.hid (rplain_any p.props.length A.pc rfl HPV.out.p1 HM.out)
        go_wp2_with fail
        refine HR3.out.mono ?_
        rintro x w5 ⟨a5, n5, c5, rfl, hn5, hr5, hb5⟩
        have hp5 := HPV.out.below hb5
        have e3 : w5.cell? ⟨k, 3, none⟩ = some (.slice A.pa p.props.length A.pc) := (hp5.b.cell 3).trans (by rw [HYV.out]; rfl)
        have f3 := hp5.b.frozen 3
        have hp6 := hp5.cell 3 (.slice a5 n5 c5)
        have hr6 := hp5.cellq (hr5.pin (B' := w.heap.size)) 3 (.slice a5 n5 c5)
        have e12 : (w5.setCell ⟨k, 3, none⟩ (.slice a5 n5 c5)).cell? ⟨k, 12, none⟩ = some (.slice aw M.length cw) := (hp6.b.cell 12).trans (by rw [HYV.out]; rfl)
        have HR12 := Lib.hid (rplain_any M.length cw rfl hp6.p2 HMM.out)
        have HLN := Lib.hid (show (plL p.props).length ≤ c5 by
          obtain ⟨a', n', c', e', hn', hc'⟩ := hr5.some_form
          injection e' with e1 e2 e3
          omega)
        have HP6 := Lib.hid hp6
        have HR6 := Lib.hid hr6
        have HN5 := Lib.hid hn5
        clear hb5 hp5 hp6 hr5 hr6 hn5 HR3 c3
        go_wp2_with fail
        refine HR12.out.mono ?_
        rintro x w7 ⟨a7, n7, c7, rfl, hn7, hr7, hb7⟩
        have hp7 := HP6.out.below hb7
        have g12 : w7.cell? ⟨k, 12, none⟩ = some (.slice aw M.length cw) := (hp7.b.cell 12).trans (by rw [HYV.out]; rfl)
        have f12 := hp7.b.frozen 12
        have hp8 := hp7.cell 12 (.slice a7 n7 c7)
        have hl8 := hp7.cellq (HR6.out.below hb7) 12 (.slice a7 n7 c7)
        have hm8 := hp7.cellq (hr7.pin (B' := w.heap.size)) 12 (.slice a7 n7 c7)
        have hlm : (plL M).length ≤ c7 := by
          obtain ⟨a', n', c', e', hn', hc'⟩ := hr7.some_form
          injection e' with e1 e2 e3
          omega
        obtain ⟨y2, hy2⟩ : ∃ y2, y2 = (yV.setIfInBounds 3 (.slice a5 n5 c5)).setIfInBounds 12 (.slice a7 n7 c7) := ⟨_, rfl⟩
        rw [← hy2] at hp8
        have ey : y2 = q.cells (paK a5 c5 a7 c7) := by
          rw [hy2, HYV.out, HQ7.out, HN5.out, hn7]
          rfl
        have hX := hp8.i.good (r := q) (A' := paK a5 c5 a7 c7) (by
          rw [HQ7.out]
          exact ⟨hl8, HLN.out, hm8, hlm, CIn.nil _ _ _ _, CIn.nil _ _ _ _, CIn.nil _ _ _ _⟩) ey
        obtain ⟨o, ho, hos⟩ := hp8.i.res
        have HO := Lib.hid ho
        have HOS := Lib.hid hos
        have HX := Lib.hid hX
        have HBX := Lib.hid hp8.b
        have HYS2 := Lib.hid (show y2.size = 26 by rw [ey]; rfl)
        have HYO := Lib.hid (show y2.all (·.oneCell') = true by rw [ey]; exact pk_one _ _)
        clear hb7 hp7 hp8 hl8 hm8 hr7 hn7 hy2 ey hX ho hos hlm HP6 HR6 HR12 HQ7 e3 f3 e12
        go_wp2_with (first | refine wpk_load HBX.out HYS2.out _ rfl rfl rfl ?_ | refine wpk_store HO.out HOS.out HYS2.out HYO.out _ _ rfl rfl rfl rfl ?_)
        exact bodyPost_ret (v := .agg y2) (res_pkt1 (i := 2) rfl rfl HX.out.1 HYS2.out) rfl HX.out.2
end
end Go.Proofs.YtbfbmdjnobdjpaaGreatDoor

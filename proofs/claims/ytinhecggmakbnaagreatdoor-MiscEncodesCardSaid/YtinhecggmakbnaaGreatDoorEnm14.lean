/- What is proved here: a frame that is decoded by misc.Decode. Conditions: the writer is there; what Decode tells. What is proved here: Decode and Encode of package misc tell what plain functions say. Conditions: few bytes, the packet's parts stand where it says; what the rows list of the package's variables. What is proved here: Encode of package misc tells what a plain function says. Conditions: few bytes, the packet's parts stand where it says; what the rows list of the package's variables. -/
import Derived.Test.YtinhecggmakbnaaGreatDoorBod08
import Derived.Test.YtinhecggmakbnaaGreatDoorPkx08
namespace Go.Proofs.YtinhecggmakbnaaGreatDoor
set_option maxRecDepth 100000
open Go.RowKit Go.Extern.Stop Go.Stop Go.Extern
section
variable {z w w' : World} {S : Nat → Addr} {B g : Nat} {s : ByteArray} {R : RV} {v : Value} {W : EV}
set_option maxHeartbeats 8000000 in
theorem frame_any14 (first : Int) (h : WObj w S B g v W) {q : Er × Pk} (hdc : ∀ W1 : World, Below w.heap.size w W1 → Calls Tryz.prog 76 #[.agg #[.int .i64 first, .string ⟨W.L.toArray⟩]] W1 (DcSays W1 S q)) :
    Calls Tryz.prog 54 #[.int .i64 first, .pointer (some ⟨g, 0, none⟩), .func (.func 76) #[] #[]] w (FrSays w S (frR W first q.1)) := by
  obtain ⟨f, hf⟩ : ∃ f, f = frR W first q.1 := ⟨_, rfl⟩
  rw [← hf]
  unfold frR at hf
  have hb1 : Below w.heap.size w (w.alloc (.cells #[.int .i64 0, .string ⟨#[]⟩] 33)) := (Below.refl _ _).alloc (Nat.le_refl _) _
  have HW := Lib.hid (wbytes_any (h.below hb1))
  have HK := Lib.hid (Blk.made w 33 #[.int .i64 0, .string ⟨#[]⟩])
  have HB1 := Lib.hid hb1
  have HD := Lib.hid hdc
  have HF := Lib.hid hf
  clear hb1 hdc h hf
  go_enter Tryz.func54, Tryz.ntmps54
  go_wp2_with fail
  refine HW.out.mono ?_
  rintro x w2 ⟨e2, rfl, he2, hb2⟩
  obtain ⟨W0, Wa, WL⟩ := W
  obtain ⟨qe, qp⟩ := q
  simp only at he2 HD HF ⊢
  have k2 := HK.out.below hb2 HK.out.lt
  have hb12 := HB1.out.trans (hb2.mono HB1.out.size)
  have HB2 := Lib.hid hb12
  have HK2 := Lib.hid k2
  have hff := HF.out
  by_cases h0 : W0 = 0
  · subst h0
    rw [if_pos rfl] at hff
    unfold ErrOf at he2
    rw [if_pos rfl] at he2
    subst he2
    obtain ⟨t, ht⟩ : ∃ t : ByteArray, t = ⟨WL.toArray⟩ := ⟨_, rfl⟩
    rw [← ht] at HD hff
    have HFF := Lib.hid hff
    have hb3 : Below w2.heap.size w2 (w2.alloc (.cells #[.int .i64 first, .string t] 33)) := (Below.refl _ _).alloc (Nat.le_refl _) _
    have hb13 := hb12.trans (hb3.mono hb12.size)
    have HDD := Lib.hid (HD.out _ hb13)
    have HB3 := Lib.hid hb13
    have HK3 := Lib.hid (k2.below hb3 k2.lt)
    have HK4 := Lib.hid (Blk.made w2 33 #[.int .i64 first, .string t])
    clear hb2 k2 hb12 hff hb3 hb13 HD HW HF HK HB1 HB2 HK2
    rw [show (⟨(EV.L ⟨0, Wa, WL⟩).toArray⟩ : ByteArray) = t from ht.symm]
    clear ht
    go_wp2_with fail
    refine HDD.out.mono ?_
    rintro x w4 ⟨A4, e4, rfl, _, he4, hb4⟩
    simp only at he4
    obtain ⟨c, hc⟩ : ∃ c, c = qp.cells A4 := ⟨_, rfl⟩
    rw [show Pk.agg (qe, qp).2 A4 = .agg c from by rw [hc]; rfl]
    have hcs : c.size = 26 := by rw [hc]; rfl
    have hst := st_pkt w4 c hcs (by rw [hc]; exact pk_one _ _)
    have hst2 := st_pktc w4 c hcs (by rw [hc]; exact pk_one _ _)
    clear hc
    have hb5 : Below w4.heap.size w4 (w4.alloc (.cells c 29)) := (Below.refl _ _).alloc (Nat.le_refl _) _
    have k3 := (HK3.out.below hb4 HK3.out.lt).below hb5 (HK3.out.below hb4 HK3.out.lt).lt
    have k4 := (HK4.out.below hb4 HK4.out.lt).below hb5 (HK4.out.below hb4 HK4.out.lt).lt
    have hb15 := (HB3.out.trans (hb4.mono HB3.out.size)).trans (hb5.mono (HB3.out.trans (hb4.mono HB3.out.size)).size)
    have c0 := k4.cell 0
    have c1 := k4.cell 1
    have h2 : ∀ {a b : Value}, (#[a, b] : Array Value)[0]? = some a ∧ (#[a, b] : Array Value)[1]? = some b := ⟨rfl, rfl⟩
    rw [h2.1] at c0
    rw [h2.2] at c1
    clear h2
    by_cases hq0 : qe.no = 0
    · have hff := HFF.out
      rw [if_pos hq0] at hff
      unfold ErrOf at he4
      rw [if_pos hq0] at he4
      subst he4
      obtain ⟨⟨z0, z1, y0, y1⟩, ⟨z2, y2⟩, ⟨f0, f1⟩, _⟩ := fr_facts (S := S) k3 (.int .i64 first) (.string t)
      have hbf := (hb15.setCell (p := ⟨w.heap.size, 0, none⟩) (Nat.le_refl _) (.int .i64 first)).setCell (p := ⟨w.heap.size, 1, none⟩) (Nat.le_refl _) (.string t)
      have HX := Lib.hid (show ∀ W, Below w.heap.size w W → FrSays w S f (.returned (.tuple #[.agg #[.int .i64 first, .string t], .nilIface])) W from fun W hb => by
        rw [hff]
        exact ⟨_, rfl, ErrOf.none, hb⟩)
      have HBF := Lib.hid hbf
      clear hff hbf hb5 k3 k4 hb15 hb4 HDD HFF HB3 HK3 HK4
      go_wp2
      exact bodyPost_ret (v := .tuple #[.agg #[.int .i64 first, .string t], .nilIface]) (by simp [results, Tryz.results54, go_sem, f0, f1]) rfl (HX.out _ HBF.out)
    · have hff := HFF.out
      rw [if_neg hq0] at hff
      obtain ⟨t4, u4, rfl⟩ := err_iface he4 hq0
      obtain ⟨⟨z0, z1, y0, y1⟩, ⟨z2, y2⟩, ⟨f0, f1⟩, ferr⟩ := fr_facts (S := S) k3 (.int .i64 0) (.string ⟨#[]⟩)
      have hbf := (hb15.setCell (p := ⟨w.heap.size, 0, none⟩) (Nat.le_refl _) (.int .i64 0)).setCell (p := ⟨w.heap.size, 1, none⟩) (Nat.le_refl _) (.string ⟨#[]⟩)
      have hee := ferr _ _ _ _ (he4.later hb5)
      have HX := Lib.hid (show FrSays w S f (.returned (.tuple #[.agg #[.int .i64 0, .string ⟨#[]⟩], .iface t4 u4])) _ from by
        rw [hff]
        exact ⟨_, rfl, hee, hbf⟩)
      clear hff hbf hb5 k3 k4 hb15 hb4 he4 hee ferr HDD HFF HB3 HK3 HK4
      go_wp2
      exact bodyPost_ret (v := .tuple #[.agg #[.int .i64 0, .string ⟨#[]⟩], .iface t4 u4]) (by simp [results, Tryz.results54, go_sem, f0, f1]) rfl HX.out
  · rw [if_neg h0] at hff
    obtain ⟨t2, u2, rfl⟩ := err_iface he2 h0
    obtain ⟨⟨z0, z1, y0, y1⟩, ⟨z2, y2⟩, ⟨f0, f1⟩, ferr⟩ := fr_facts (S := S) k2 (.int .i64 0) (.string ⟨#[]⟩)
    have hbf := (hb12.setCell (p := ⟨w.heap.size, 0, none⟩) (Nat.le_refl _) (.int .i64 0)).setCell (p := ⟨w.heap.size, 1, none⟩) (Nat.le_refl _) (.string ⟨#[]⟩)
    have hee := ferr _ _ _ _ he2
    have HX := Lib.hid (show FrSays w S f (.returned (.tuple #[.agg #[.int .i64 0, .string ⟨#[]⟩], .iface t2 u2])) _ from by
      rw [hff]
      exact ⟨_, rfl, hee, hbf⟩)
    clear hb2 hb12 hff he2 hbf hee ferr k2 HD HW HF HK HB1 HB2 HK2
    go_wp2
    exact bodyPost_ret (v := .tuple #[.agg #[.int .i64 0, .string ⟨#[]⟩], .iface t2 u2]) (by simp [results, Tryz.results54, go_sem, f0, f1]) rfl HX.out
end
end Go.Proofs.YtinhecggmakbnaaGreatDoor
namespace Go.Proofs.YtinhecggmakbnaaGreatDoor
set_option maxRecDepth 100000
open Go.RowKit Go.Extern.Stop Go.Stop Go.Extern
def kM (first : Int) : Int := if first = 192 then 12 else if first = 208 then 13 else if first = 224 then 14 else if first = 240 then 15 else 0
def fM (kind : Int) : Int := if kind = 12 then 192 else if kind = 13 then 208 else if kind = 14 then 224 else if kind = 15 then 240 else 0
/-- What Decode tells of any bytes. -/
def dcM (first : Int) (s : ByteArray) : Er × Pk :=
  if kM first = 0 then (⟨2, 129, 0⟩, pk0)
  else if kM first < 14 then (if s.size = 0 then (e00, pkR (kM first) 0 0 []) else (⟨2, 129, 0⟩, pk0))
  else if (tkR (kM first) s ⟨0, 0, 0⟩).e.no = 0 then (e00, pkR (kM first) 0 (tkR (kM first) s ⟨0, 0, 0⟩).code (tkR (kM first) s ⟨0, 0, 0⟩).L) else ((tkR (kM first) s ⟨0, 0, 0⟩).e, pk0)
theorem hr14 (k : Int) (w : World) : Calls Tryz.prog 77 #[.int .i64 k] w fun x w' => x = .returned (.bool (decide (k = 14) || decide (k = 15))) ∧ w = w' := by
  by_cases h1 : k = 14
  · subst h1
    go_enter Tryz.func77, Tryz.ntmps77
    go_wp2
    go_ret
    exact ⟨rfl, rfl⟩
  · by_cases h2 : k = 15
    · subst h2
      go_enter Tryz.func77, Tryz.ntmps77
      go_wp2
      go_ret
      exact ⟨rfl, rfl⟩
    · have e : (decide (k = 14) || decide (k = 15)) = false := by rw [decide_eq_false h1, decide_eq_false h2]; rfl
      rw [e]
      go_enter Tryz.func77, Tryz.ntmps77
      go_wp2
      go_ret
      exact ⟨by simp [h1, h2], rfl⟩
section
variable {w w' : World} {S : Nat → Addr} {s : ByteArray}
/-- Decode's end with an error: nothing is told. -/
theorem DcSays.bad {q : Er × Pk} {z : Array Value} {e : Value} (hz : z = pk0.cells pa0) (hq : q.2 = pk0) (he : ErrOf w' S q.1.r q.1.no q.1.at_ e) (hb : Below w.heap.size w w') : DcSays w S q (.returned (.tuple #[.agg z, e])) w' :=
  ⟨pa0, e, by rw [hq, hz]; rfl, by rw [hq]; exact PkIn.zero _ _, he, hb⟩
theorem rd_ne {W : World} {g k : Nat} {R : RV} {c : Array Value} (ho : RObj W S g s R) (hb : Blk W k 29 c) (h : k = g) : False := by
  obtain ⟨e, h1, _⟩ := ho.blk
  exact hb.other h1 (by decide) h
set_option maxHeartbeats 8000000 in
theorem dec14_192 (hE : Env w S) (hs : s.size ≤ 900000) : Calls Tryz.prog 76 #[.agg #[.int .i64 192, .string s]] w (DcSays w S (dcM 192 s)) := by
  have HE := Lib.hid hE
  have HSZ := Lib.hid hs
  obtain ⟨z, hz⟩ : ∃ z, z = pk0.cells pa0 := ⟨_, rfl⟩
  have HZ := Lib.hid hz
  have hzs : z.size = 26 := by rw [hz]; rfl
  have HZS := Lib.hid hzs
  have HZ1 := Lib.hid (show z.all (·.oneCell') = true by rw [hz]; exact pk_one _ _)
  have hz0 : z[0]? = some (.int .i64 0) := by rw [hz]; rfl
  obtain ⟨q, hq⟩ : ∃ q, q = dcM 192 s := ⟨_, rfl⟩
  rw [← hq]
  unfold dcM at hq
  rw [show kM 192 = 12 from rfl, if_neg (by decide), if_pos (by decide)] at hq
  have HQ := Lib.hid hq
  clear hE hz hs hq
  go_enter Tryz.func76, Tryz.ntmps76
  go_wp2_with (first | refine wpk_alloc HZ.out rfl rfl ?_ | refine wpk_build HZ.out rfl rfl ?_ | refine wpk_store_new HZS.out HZS.out HZ1.out _ _ rfl rfl rfl rfl ?_)
  obtain ⟨y, hy⟩ : ∃ y, y = z.setIfInBounds 0 (.int .i64 12) := ⟨_, rfl⟩
  rw [← hy]
  obtain ⟨W4, hW4⟩ : ∃ W, W = ((w.alloc (.cells #[.int .i64 192, .string s] 33)).alloc (.cells z 29)).alloc (.cells y 29) := ⟨_, rfl⟩
  rw [← hW4]
  have a1 : Below w.heap.size w (w.alloc (.cells #[.int .i64 192, .string s] 33)) := (Below.refl _ _).alloc (Nat.le_refl _) _
  have a2 := a1.trans (((Below.refl (w.alloc (.cells #[.int .i64 192, .string s] 33)).heap.size _).alloc (Nat.le_refl _) (.cells z 29)).mono a1.size)
  have hb4 : Below w.heap.size w W4 := by rw [hW4]; exact a2.trans (((Below.refl ((w.alloc (.cells #[.int .i64 192, .string s] 33)).alloc (.cells z 29)).heap.size _).alloc (Nat.le_refl _) (.cells y 29)).mono a2.size)
  have r1 : Blk W4 (w.heap.size + 1) 29 z := by
    have h := (Blk.made (w.alloc (.cells #[.int .i64 192, .string s] 33)) 29 z).alloc (.cells y 29)
    rw [World.size_alloc] at h
    rw [hW4]; exact h
  have r2 : Blk W4 (w.heap.size + 1 + 1) 29 y := by
    have h := Blk.made ((w.alloc (.cells #[.int .i64 192, .string s] 33)).alloc (.cells z 29)) 29 y
    rw [World.size_alloc, World.size_alloc] at h
    rw [hW4]; exact h
  have hb5 : Below W4.heap.size W4 (W4.alloc (.cells #[.string s, .int .i64 0, .nilIface] 180)) := (Below.refl _ _).alloc (Nat.le_refl _) _
  have y0 : y[0]? = some (.int .i64 12) := by rw [hy]; simp [hzs]
  have hys : y.size = 26 := by rw [hy]; simpa using hzs
  have R1 := Lib.hid (r1.below hb5 r1.lt)
  have R2 := Lib.hid (r2.below hb5 r2.lt)
  have HB5 := Lib.hid (hb4.trans (hb5.mono hb4.size))
  have HSZ4 := Lib.hid hb4.size
  have HO := Lib.hid (RObj.made W4 S s)
  have k0 : (W4.alloc (.cells #[.string s, .int .i64 0, .nilIface] 180)).cell? ⟨w.heap.size + 1 + 1, 0, none⟩ = some (.int .i64 12) := (R2.out.cell 0).trans y0
  have HY := Lib.hid hy
  have HYS := Lib.hid hys
  clear hW4 a1 a2 hb4 r1 r2 hb5 hy hz0 y0 hzs hys
  refine (rnew_any s W4).mono ?_
  rintro x w5 ⟨rfl, hw5⟩
  rw [← hw5] at R1 R2 HB5 HO k0
  have hg5 : w5.heap.size = W4.heap.size + 1 := by rw [hw5, World.size_alloc]
  clear hw5
  go_wp2_with fail
  refine (hr14 12 w5).mono ?_
  rintro x w6 ⟨rfl, rfl⟩
  by_cases h0 : s.size = 0
  · have hq := HQ.out
    rw [if_pos h0] at hq
    have HD := Lib.hid (rdone_end HO.out rfl (by have := HSZ.out; omega) h0.symm)
    have HQ2 := Lib.hid hq
    clear hq HQ
    go_wp2_with fail
    refine HD.out.mono ?_
    rintro x w7 ⟨rfl, hb7⟩
    have r1 := R1.out.below hb7 R1.out.lt
    have r2 := R2.out.below hb7 R2.out.lt
    have hb := HB5.out.trans (hb7.mono HB5.out.size)
    have hbf := below_row hb (k := w.heap.size + 1) (by omega) y
    have r3 := setRow_blk r1 y
    have LD := Lib.hid (And.intro r3 HYS.out)
    have HX := Lib.hid (show DcSays w S q (.returned (.tuple #[.agg y, .nilIface])) (w7.setRow (w.heap.size + 1) y) from by
      rw [HQ2.out]
      exact ⟨paR none 0, _, by rw [HY.out, HZ.out]; rfl, PkIn.ofR (PIn.nil _ _ _) (Nat.le_refl _), ErrOf.none, hbf⟩)
    have HR1 := Lib.hid r1
    have HR2 := Lib.hid r2
    have HY1 := Lib.hid (show y.all (·.oneCell') = true by rw [HY.out]; exact one_set HZ1.out _ _ rfl)
    clear hb7 hb hbf r1 r2 r3 HD k0
    go_wp2_with (first | refine wpk_load HR2.out HYS.out _ rfl rfl rfl ?_ | refine wpk_store HR1.out HZS.out HYS.out HY1.out _ _ rfl rfl rfl rfl ?_)
    exact bodyPost_ret (v := .tuple #[.agg y, .nilIface]) (res_pkt (i := 2) (j := 3) rfl rfl rfl LD.out.1 LD.out.2) rfl HX.out
  · have hq := HQ.out
    rw [if_neg h0] at hq
    have HD := Lib.hid (rdone_left (HE.out.later HB5.out) HO.out rfl (by have := HSZ.out; omega) (by show 0 < s.size; omega))
    have HQ2 := Lib.hid hq
    clear hq HQ
    go_wp2_with fail
    refine HD.out.mono ?_
    rintro x w7 ⟨e, rfl, he, hb7⟩
    obtain ⟨te, ue, rfl⟩ := err_iface he (by decide)
    have r1 := R1.out.below hb7 R1.out.lt
    have hb := HB5.out.trans (hb7.mono HB5.out.size)
    have hbf := below_row hb (k := w.heap.size + 1) (by omega) z
    have r3 := setRow_blk r1 z
    have LD := Lib.hid (And.intro r3 HZS.out)
    have HX := Lib.hid (show DcSays w S q (.returned (.tuple #[.agg z, .iface te ue])) (w7.setRow (w.heap.size + 1) z) from by
      rw [HQ2.out]
      exact DcSays.bad HZ.out rfl (err_row he r1 z) hbf)
    have HR1 := Lib.hid r1
    clear hb7 hb hbf r1 r3 HD k0 he
    go_wp2_with (first | refine wpk_build HZ.out rfl rfl ?_ | refine wpk_store HR1.out HZS.out HZS.out HZ1.out _ _ rfl rfl rfl rfl ?_)
    exact bodyPost_ret (v := .tuple #[.agg z, .iface te ue]) (res_pkt (i := 2) (j := 3) rfl rfl rfl LD.out.1 LD.out.2) rfl HX.out
set_option maxHeartbeats 8000000 in
theorem dec14_208 (hE : Env w S) (hs : s.size ≤ 900000) : Calls Tryz.prog 76 #[.agg #[.int .i64 208, .string s]] w (DcSays w S (dcM 208 s)) := by
  have HE := Lib.hid hE
  have HSZ := Lib.hid hs
  obtain ⟨z, hz⟩ : ∃ z, z = pk0.cells pa0 := ⟨_, rfl⟩
  have HZ := Lib.hid hz
  have hzs : z.size = 26 := by rw [hz]; rfl
  have HZS := Lib.hid hzs
  have HZ1 := Lib.hid (show z.all (·.oneCell') = true by rw [hz]; exact pk_one _ _)
  have hz0 : z[0]? = some (.int .i64 0) := by rw [hz]; rfl
  obtain ⟨q, hq⟩ : ∃ q, q = dcM 208 s := ⟨_, rfl⟩
  rw [← hq]
  unfold dcM at hq
  rw [show kM 208 = 13 from rfl, if_neg (by decide), if_pos (by decide)] at hq
  have HQ := Lib.hid hq
  clear hE hz hs hq
  go_enter Tryz.func76, Tryz.ntmps76
  go_wp2_with (first | refine wpk_alloc HZ.out rfl rfl ?_ | refine wpk_build HZ.out rfl rfl ?_ | refine wpk_store_new HZS.out HZS.out HZ1.out _ _ rfl rfl rfl rfl ?_)
  obtain ⟨y, hy⟩ : ∃ y, y = z.setIfInBounds 0 (.int .i64 13) := ⟨_, rfl⟩
  rw [← hy]
  obtain ⟨W4, hW4⟩ : ∃ W, W = ((w.alloc (.cells #[.int .i64 208, .string s] 33)).alloc (.cells z 29)).alloc (.cells y 29) := ⟨_, rfl⟩
  rw [← hW4]
  have a1 : Below w.heap.size w (w.alloc (.cells #[.int .i64 208, .string s] 33)) := (Below.refl _ _).alloc (Nat.le_refl _) _
  have a2 := a1.trans (((Below.refl (w.alloc (.cells #[.int .i64 208, .string s] 33)).heap.size _).alloc (Nat.le_refl _) (.cells z 29)).mono a1.size)
  have hb4 : Below w.heap.size w W4 := by rw [hW4]; exact a2.trans (((Below.refl ((w.alloc (.cells #[.int .i64 208, .string s] 33)).alloc (.cells z 29)).heap.size _).alloc (Nat.le_refl _) (.cells y 29)).mono a2.size)
  have r1 : Blk W4 (w.heap.size + 1) 29 z := by
    have h := (Blk.made (w.alloc (.cells #[.int .i64 208, .string s] 33)) 29 z).alloc (.cells y 29)
    rw [World.size_alloc] at h
    rw [hW4]; exact h
  have r2 : Blk W4 (w.heap.size + 1 + 1) 29 y := by
    have h := Blk.made ((w.alloc (.cells #[.int .i64 208, .string s] 33)).alloc (.cells z 29)) 29 y
    rw [World.size_alloc, World.size_alloc] at h
    rw [hW4]; exact h
  have hb5 : Below W4.heap.size W4 (W4.alloc (.cells #[.string s, .int .i64 0, .nilIface] 180)) := (Below.refl _ _).alloc (Nat.le_refl _) _
  have y0 : y[0]? = some (.int .i64 13) := by rw [hy]; simp [hzs]
  have hys : y.size = 26 := by rw [hy]; simpa using hzs
  have R1 := Lib.hid (r1.below hb5 r1.lt)
  have R2 := Lib.hid (r2.below hb5 r2.lt)
  have HB5 := Lib.hid (hb4.trans (hb5.mono hb4.size))
  have HSZ4 := Lib.hid hb4.size
  have HO := Lib.hid (RObj.made W4 S s)
  have k0 : (W4.alloc (.cells #[.string s, .int .i64 0, .nilIface] 180)).cell? ⟨w.heap.size + 1 + 1, 0, none⟩ = some (.int .i64 13) := (R2.out.cell 0).trans y0
  have HY := Lib.hid hy
  have HYS := Lib.hid hys
  clear hW4 a1 a2 hb4 r1 r2 hb5 hy hz0 y0 hzs hys
  refine (rnew_any s W4).mono ?_
  rintro x w5 ⟨rfl, hw5⟩
  rw [← hw5] at R1 R2 HB5 HO k0
  have hg5 : w5.heap.size = W4.heap.size + 1 := by rw [hw5, World.size_alloc]
  clear hw5
  go_wp2_with fail
  refine (hr14 13 w5).mono ?_
  rintro x w6 ⟨rfl, rfl⟩
  by_cases h0 : s.size = 0
  · have hq := HQ.out
    rw [if_pos h0] at hq
    have HD := Lib.hid (rdone_end HO.out rfl (by have := HSZ.out; omega) h0.symm)
    have HQ2 := Lib.hid hq
    clear hq HQ
    go_wp2_with fail
    refine HD.out.mono ?_
    rintro x w7 ⟨rfl, hb7⟩
    have r1 := R1.out.below hb7 R1.out.lt
    have r2 := R2.out.below hb7 R2.out.lt
    have hb := HB5.out.trans (hb7.mono HB5.out.size)
    have hbf := below_row hb (k := w.heap.size + 1) (by omega) y
    have r3 := setRow_blk r1 y
    have LD := Lib.hid (And.intro r3 HYS.out)
    have HX := Lib.hid (show DcSays w S q (.returned (.tuple #[.agg y, .nilIface])) (w7.setRow (w.heap.size + 1) y) from by
      rw [HQ2.out]
      exact ⟨paR none 0, _, by rw [HY.out, HZ.out]; rfl, PkIn.ofR (PIn.nil _ _ _) (Nat.le_refl _), ErrOf.none, hbf⟩)
    have HR1 := Lib.hid r1
    have HR2 := Lib.hid r2
    have HY1 := Lib.hid (show y.all (·.oneCell') = true by rw [HY.out]; exact one_set HZ1.out _ _ rfl)
    clear hb7 hb hbf r1 r2 r3 HD k0
    go_wp2_with (first | refine wpk_load HR2.out HYS.out _ rfl rfl rfl ?_ | refine wpk_store HR1.out HZS.out HYS.out HY1.out _ _ rfl rfl rfl rfl ?_)
    exact bodyPost_ret (v := .tuple #[.agg y, .nilIface]) (res_pkt (i := 2) (j := 3) rfl rfl rfl LD.out.1 LD.out.2) rfl HX.out
  · have hq := HQ.out
    rw [if_neg h0] at hq
    have HD := Lib.hid (rdone_left (HE.out.later HB5.out) HO.out rfl (by have := HSZ.out; omega) (by show 0 < s.size; omega))
    have HQ2 := Lib.hid hq
    clear hq HQ
    go_wp2_with fail
    refine HD.out.mono ?_
    rintro x w7 ⟨e, rfl, he, hb7⟩
    obtain ⟨te, ue, rfl⟩ := err_iface he (by decide)
    have r1 := R1.out.below hb7 R1.out.lt
    have hb := HB5.out.trans (hb7.mono HB5.out.size)
    have hbf := below_row hb (k := w.heap.size + 1) (by omega) z
    have r3 := setRow_blk r1 z
    have LD := Lib.hid (And.intro r3 HZS.out)
    have HX := Lib.hid (show DcSays w S q (.returned (.tuple #[.agg z, .iface te ue])) (w7.setRow (w.heap.size + 1) z) from by
      rw [HQ2.out]
      exact DcSays.bad HZ.out rfl (err_row he r1 z) hbf)
    have HR1 := Lib.hid r1
    clear hb7 hb hbf r1 r3 HD k0 he
    go_wp2_with (first | refine wpk_build HZ.out rfl rfl ?_ | refine wpk_store HR1.out HZS.out HZS.out HZ1.out _ _ rfl rfl rfl rfl ?_)
    exact bodyPost_ret (v := .tuple #[.agg z, .iface te ue]) (res_pkt (i := 2) (j := 3) rfl rfl rfl LD.out.1 LD.out.2) rfl HX.out
set_option maxHeartbeats 8000000 in
theorem dec14_224 (hE : Env w S) (hs : s.size ≤ 900000) : Calls Tryz.prog 76 #[.agg #[.int .i64 224, .string s]] w (DcSays w S (dcM 224 s)) := by
  have HE := Lib.hid hE
  have HSZ := Lib.hid hs
  obtain ⟨z, hz⟩ : ∃ z, z = pk0.cells pa0 := ⟨_, rfl⟩
  have HZ := Lib.hid hz
  have hzs : z.size = 26 := by rw [hz]; rfl
  have HZS := Lib.hid hzs
  have HZ1 := Lib.hid (show z.all (·.oneCell') = true by rw [hz]; exact pk_one _ _)
  have hz0 : z[0]? = some (.int .i64 0) := by rw [hz]; rfl
  obtain ⟨q, hq⟩ : ∃ q, q = dcM 224 s := ⟨_, rfl⟩
  rw [← hq]
  unfold dcM at hq
  rw [show kM 224 = 14 from rfl, if_neg (by decide), if_neg (by decide)] at hq
  have HQ := Lib.hid hq
  clear hE hz hs hq
  go_enter Tryz.func76, Tryz.ntmps76
  go_wp2_with (first | refine wpk_alloc HZ.out rfl rfl ?_ | refine wpk_build HZ.out rfl rfl ?_ | refine wpk_store_new HZS.out HZS.out HZ1.out _ _ rfl rfl rfl rfl ?_)
  obtain ⟨y, hy⟩ : ∃ y, y = z.setIfInBounds 0 (.int .i64 14) := ⟨_, rfl⟩
  rw [← hy]
  obtain ⟨W4, hW4⟩ : ∃ W, W = ((w.alloc (.cells #[.int .i64 224, .string s] 33)).alloc (.cells z 29)).alloc (.cells y 29) := ⟨_, rfl⟩
  rw [← hW4]
  have a1 : Below w.heap.size w (w.alloc (.cells #[.int .i64 224, .string s] 33)) := (Below.refl _ _).alloc (Nat.le_refl _) _
  have a2 := a1.trans (((Below.refl (w.alloc (.cells #[.int .i64 224, .string s] 33)).heap.size _).alloc (Nat.le_refl _) (.cells z 29)).mono a1.size)
  have hb4 : Below w.heap.size w W4 := by rw [hW4]; exact a2.trans (((Below.refl ((w.alloc (.cells #[.int .i64 224, .string s] 33)).alloc (.cells z 29)).heap.size _).alloc (Nat.le_refl _) (.cells y 29)).mono a2.size)
  have r1 : Blk W4 (w.heap.size + 1) 29 z := by
    have h := (Blk.made (w.alloc (.cells #[.int .i64 224, .string s] 33)) 29 z).alloc (.cells y 29)
    rw [World.size_alloc] at h
    rw [hW4]; exact h
  have r2 : Blk W4 (w.heap.size + 1 + 1) 29 y := by
    have h := Blk.made ((w.alloc (.cells #[.int .i64 224, .string s] 33)).alloc (.cells z 29)) 29 y
    rw [World.size_alloc, World.size_alloc] at h
    rw [hW4]; exact h
  have hb5 : Below W4.heap.size W4 (W4.alloc (.cells #[.string s, .int .i64 0, .nilIface] 180)) := (Below.refl _ _).alloc (Nat.le_refl _) _
  have y0 : y[0]? = some (.int .i64 14) := by rw [hy]; simp [hzs]
  have hys : y.size = 26 := by rw [hy]; simpa using hzs
  have R1 := Lib.hid (r1.below hb5 r1.lt)
  have R2 := Lib.hid (r2.below hb5 r2.lt)
  have HB5 := Lib.hid (hb4.trans (hb5.mono hb4.size))
  have HSZ4 := Lib.hid hb4.size
  have HO := Lib.hid (RObj.made W4 S s)
  have k0 : (W4.alloc (.cells #[.string s, .int .i64 0, .nilIface] 180)).cell? ⟨w.heap.size + 1 + 1, 0, none⟩ = some (.int .i64 14) := (R2.out.cell 0).trans y0
  have HY := Lib.hid hy
  have HYS := Lib.hid hys
  clear hW4 a1 a2 hb4 r1 r2 hb5 hy hz0 y0 hzs hys
  refine (rnew_any s W4).mono ?_
  rintro x w5 ⟨rfl, hw5⟩
  rw [← hw5] at R1 R2 HB5 HO k0
  have hg5 : w5.heap.size = W4.heap.size + 1 := by rw [hw5, World.size_alloc]
  clear hw5
  go_wp2_with fail
  refine (hr14 14 w5).mono ?_
  rintro x w6 ⟨rfl, rfl⟩
  have htk := take_any HE.out HB5.out HSZ4.out HO.out rfl HSZ.out 14
  have htp := take_put (k := 14) (s := s) (R := ⟨0, 0, 0⟩) rfl (Nat.zero_le _)
  obtain ⟨⟨te, tc, M⟩, ht⟩ : ∃ t, t = tkR 14 s ⟨0, 0, 0⟩ := ⟨_, rfl⟩
  rw [← ht] at htk
  have hq := HQ.out
  rw [← ht] at hq
  simp only at hq
  have HTK := Lib.hid htk
  have HQ2 := Lib.hid hq
  clear htk ht hq HQ htp
  go_wp2_with fail
  refine HTK.out.mono ?_
  rintro x w7 ⟨v7, e7, rfl, hr7, he7, hf7⟩
  simp only at hr7 he7
  obtain ⟨a7, n7, c7, rfl, hn7, hcc7⟩ := hr7.some_form
  have hnm : ∀ m, m < W4.heap.size → m ∉ [W4.heap.size] := fun m hm h => by rw [List.mem_singleton] at h; omega
  have hl1 : w.heap.size + 1 + 1 < W4.heap.size := by
    have := R2.out.lt
    have := hg5
    rcases Nat.lt_or_ge (w.heap.size + 1 + 1) W4.heap.size with h | h
    · exact h
    · exfalso; exact rd_ne HO.out R2.out (by omega)
  have r1 := R1.out.fr hf7 (hnm _ (by omega))
  have r2 := R2.out.fr hf7 (hnm _ hl1)
  have hb7 := hf7.later HB5.out (fun b hb => by rw [List.mem_singleton] at hb; have := HSZ4.out; omega) HB5.out.size
  have hp7 := hr7.pin (B' := w.heap.size)
  have y2 := r2.cell 2
  have y2' : w7.cell? ⟨w.heap.size + 1 + 1, 2, none⟩ = some (.int .i64 0) := by rw [y2, HY.out, HZ.out]; rfl
  have f2 := r2.frozen 2
  have r2a := r2.store 2 (.int .i64 tc)
  have y3 : (w7.setCell ⟨w.heap.size + 1 + 1, 2, none⟩ (.int .i64 tc)).cell? ⟨w.heap.size + 1 + 1, 3, none⟩ = some (.slice none 0 0) := by rw [r2a.cell 3, HY.out, HZ.out]; rfl
  have f3 := r2a.frozen 3
  have r2b := r2a.store 3 (.slice a7 n7 c7)
  obtain ⟨y', hy'⟩ : ∃ y', y' = (y.setIfInBounds 2 (.int .i64 tc)).setIfInBounds 3 (.slice a7 n7 c7) := ⟨_, rfl⟩
  rw [← hy'] at r2b
  have r1b := (r1.far (p := ⟨w.heap.size + 1 + 1, 2, none⟩) (by show w.heap.size + 1 ≠ w.heap.size + 1 + 1; omega) (.int .i64 tc)).far (p := ⟨w.heap.size + 1 + 1, 3, none⟩) (by show w.heap.size + 1 ≠ w.heap.size + 1 + 1; omega) (.slice a7 n7 c7)
  have hp8 := PIn.cell (PIn.cell hp7 r2 (by omega) 2 (.int .i64 tc)) r2a (by omega) 3 (.slice a7 n7 c7)
  have he8 := err_cell (err_cell he7 r2 2 (.int .i64 tc)) r2a 3 (.slice a7 n7 c7)
  have hb8 := (hb7.setCell (p := ⟨w.heap.size + 1 + 1, 2, none⟩) (by show _ ≤ w.heap.size + 1 + 1; omega) (.int .i64 tc)).setCell (p := ⟨w.heap.size + 1 + 1, 3, none⟩) (by show _ ≤ w.heap.size + 1 + 1; omega) (.slice a7 n7 c7)
  have HR1 := Lib.hid r1b
  have HR2 := Lib.hid r2b
  have HP8 := Lib.hid hp8
  have HE8 := Lib.hid he8
  have HB8 := Lib.hid hb8
  have HN7 := Lib.hid hn7
  have HC7 := Lib.hid hcc7
  have HY' := Lib.hid hy'
  have HYS' := Lib.hid (show y'.size = 26 by rw [hy']; simpa using HYS.out)
  have HY1 := Lib.hid (show y'.all (·.oneCell') = true by rw [hy', HY.out]; exact one_set (one_set (one_set HZ1.out _ _ rfl) _ _ rfl) _ _ rfl)
  clear hf7 hr7 hnm hl1 r1 r2 hb7 hp7 y2 r2a r2b r1b hp8 he8 hb8 hn7 hcc7 hy' HTK k0
  by_cases h0 : te.no = 0
  · have hq := HQ2.out
    rw [if_pos h0] at hq
    unfold ErrOf at he7
    rw [if_pos h0] at he7
    subst he7
    have hbf := below_row HB8.out (k := w.heap.size + 1) (by omega) y'
    have r3 := setRow_blk HR1.out y'
    have LD := Lib.hid (And.intro r3 HYS'.out)
    have HX := Lib.hid (show DcSays w S q (.returned (.tuple #[.agg y', .nilIface])) _ from by
      rw [hq]
      exact ⟨paR a7 c7, _, by rw [HY'.out, HY.out, HZ.out, HN7.out]; rfl, PkIn.ofR (PIn.row HP8.out HR1.out (by omega) y') (by have := HN7.out; have := HC7.out; omega), ErrOf.none, hbf⟩)
    clear hbf hq r3
    go_wp2_with (first | refine wpk_load HR2.out HYS'.out _ rfl rfl rfl ?_ | refine wpk_store HR1.out HZS.out HYS'.out HY1.out _ _ rfl rfl rfl rfl ?_)
    exact bodyPost_ret (v := .tuple #[.agg y', .nilIface]) (res_pkt (i := 2) (j := 3) rfl rfl rfl LD.out.1 LD.out.2) rfl HX.out
  · have hq := HQ2.out
    rw [if_neg h0] at hq
    obtain ⟨t7, u7, rfl⟩ := err_iface he7 h0
    have hbf := below_row HB8.out (k := w.heap.size + 1) (by omega) z
    have r3 := setRow_blk HR1.out z
    have LD := Lib.hid (And.intro r3 HZS.out)
    have HX := Lib.hid (show DcSays w S q (.returned (.tuple #[.agg z, .iface t7 u7])) _ from by
      rw [hq]
      exact DcSays.bad HZ.out rfl (err_row HE8.out HR1.out z) hbf)
    clear hbf hq r3 he7
    go_wp2_with (first | refine wpk_build HZ.out rfl rfl ?_ | refine wpk_store HR1.out HZS.out HZS.out HZ1.out _ _ rfl rfl rfl rfl ?_)
    exact bodyPost_ret (v := .tuple #[.agg z, .iface t7 u7]) (res_pkt (i := 2) (j := 3) rfl rfl rfl LD.out.1 LD.out.2) rfl HX.out
set_option maxHeartbeats 8000000 in
theorem dec14_240 (hE : Env w S) (hs : s.size ≤ 900000) : Calls Tryz.prog 76 #[.agg #[.int .i64 240, .string s]] w (DcSays w S (dcM 240 s)) := by
  have HE := Lib.hid hE
  have HSZ := Lib.hid hs
  obtain ⟨z, hz⟩ : ∃ z, z = pk0.cells pa0 := ⟨_, rfl⟩
  have HZ := Lib.hid hz
  have hzs : z.size = 26 := by rw [hz]; rfl
  have HZS := Lib.hid hzs
  have HZ1 := Lib.hid (show z.all (·.oneCell') = true by rw [hz]; exact pk_one _ _)
  have hz0 : z[0]? = some (.int .i64 0) := by rw [hz]; rfl
  obtain ⟨q, hq⟩ : ∃ q, q = dcM 240 s := ⟨_, rfl⟩
  rw [← hq]
  unfold dcM at hq
  rw [show kM 240 = 15 from rfl, if_neg (by decide), if_neg (by decide)] at hq
  have HQ := Lib.hid hq
  clear hE hz hs hq
  go_enter Tryz.func76, Tryz.ntmps76
  go_wp2_with (first | refine wpk_alloc HZ.out rfl rfl ?_ | refine wpk_build HZ.out rfl rfl ?_ | refine wpk_store_new HZS.out HZS.out HZ1.out _ _ rfl rfl rfl rfl ?_)
  obtain ⟨y, hy⟩ : ∃ y, y = z.setIfInBounds 0 (.int .i64 15) := ⟨_, rfl⟩
  rw [← hy]
  obtain ⟨W4, hW4⟩ : ∃ W, W = ((w.alloc (.cells #[.int .i64 240, .string s] 33)).alloc (.cells z 29)).alloc (.cells y 29) := ⟨_, rfl⟩
  rw [← hW4]
  have a1 : Below w.heap.size w (w.alloc (.cells #[.int .i64 240, .string s] 33)) := (Below.refl _ _).alloc (Nat.le_refl _) _
  have a2 := a1.trans (((Below.refl (w.alloc (.cells #[.int .i64 240, .string s] 33)).heap.size _).alloc (Nat.le_refl _) (.cells z 29)).mono a1.size)
  have hb4 : Below w.heap.size w W4 := by rw [hW4]; exact a2.trans (((Below.refl ((w.alloc (.cells #[.int .i64 240, .string s] 33)).alloc (.cells z 29)).heap.size _).alloc (Nat.le_refl _) (.cells y 29)).mono a2.size)
  have r1 : Blk W4 (w.heap.size + 1) 29 z := by
    have h := (Blk.made (w.alloc (.cells #[.int .i64 240, .string s] 33)) 29 z).alloc (.cells y 29)
    rw [World.size_alloc] at h
    rw [hW4]; exact h
  have r2 : Blk W4 (w.heap.size + 1 + 1) 29 y := by
    have h := Blk.made ((w.alloc (.cells #[.int .i64 240, .string s] 33)).alloc (.cells z 29)) 29 y
    rw [World.size_alloc, World.size_alloc] at h
    rw [hW4]; exact h
  have hb5 : Below W4.heap.size W4 (W4.alloc (.cells #[.string s, .int .i64 0, .nilIface] 180)) := (Below.refl _ _).alloc (Nat.le_refl _) _
  have y0 : y[0]? = some (.int .i64 15) := by rw [hy]; simp [hzs]
  have hys : y.size = 26 := by rw [hy]; simpa using hzs
  have R1 := Lib.hid (r1.below hb5 r1.lt)
  have R2 := Lib.hid (r2.below hb5 r2.lt)
  have HB5 := Lib.hid (hb4.trans (hb5.mono hb4.size))
  have HSZ4 := Lib.hid hb4.size
  have HO := Lib.hid (RObj.made W4 S s)
  have k0 : (W4.alloc (.cells #[.string s, .int .i64 0, .nilIface] 180)).cell? ⟨w.heap.size + 1 + 1, 0, none⟩ = some (.int .i64 15) := (R2.out.cell 0).trans y0
  have HY := Lib.hid hy
  have HYS := Lib.hid hys
  clear hW4 a1 a2 hb4 r1 r2 hb5 hy hz0 y0 hzs hys
  refine (rnew_any s W4).mono ?_
  rintro x w5 ⟨rfl, hw5⟩
  rw [← hw5] at R1 R2 HB5 HO k0
  have hg5 : w5.heap.size = W4.heap.size + 1 := by rw [hw5, World.size_alloc]
  clear hw5
  go_wp2_with fail
  refine (hr14 15 w5).mono ?_
  rintro x w6 ⟨rfl, rfl⟩
  have htk := take_any HE.out HB5.out HSZ4.out HO.out rfl HSZ.out 15
  have htp := take_put (k := 15) (s := s) (R := ⟨0, 0, 0⟩) rfl (Nat.zero_le _)
  obtain ⟨⟨te, tc, M⟩, ht⟩ : ∃ t, t = tkR 15 s ⟨0, 0, 0⟩ := ⟨_, rfl⟩
  rw [← ht] at htk
  have hq := HQ.out
  rw [← ht] at hq
  simp only at hq
  have HTK := Lib.hid htk
  have HQ2 := Lib.hid hq
  clear htk ht hq HQ htp
  go_wp2_with fail
  refine HTK.out.mono ?_
  rintro x w7 ⟨v7, e7, rfl, hr7, he7, hf7⟩
  simp only at hr7 he7
  obtain ⟨a7, n7, c7, rfl, hn7, hcc7⟩ := hr7.some_form
  have hnm : ∀ m, m < W4.heap.size → m ∉ [W4.heap.size] := fun m hm h => by rw [List.mem_singleton] at h; omega
  have hl1 : w.heap.size + 1 + 1 < W4.heap.size := by
    have := R2.out.lt
    have := hg5
    rcases Nat.lt_or_ge (w.heap.size + 1 + 1) W4.heap.size with h | h
    · exact h
    · exfalso; exact rd_ne HO.out R2.out (by omega)
  have r1 := R1.out.fr hf7 (hnm _ (by omega))
  have r2 := R2.out.fr hf7 (hnm _ hl1)
  have hb7 := hf7.later HB5.out (fun b hb => by rw [List.mem_singleton] at hb; have := HSZ4.out; omega) HB5.out.size
  have hp7 := hr7.pin (B' := w.heap.size)
  have y2 := r2.cell 2
  have y2' : w7.cell? ⟨w.heap.size + 1 + 1, 2, none⟩ = some (.int .i64 0) := by rw [y2, HY.out, HZ.out]; rfl
  have f2 := r2.frozen 2
  have r2a := r2.store 2 (.int .i64 tc)
  have y3 : (w7.setCell ⟨w.heap.size + 1 + 1, 2, none⟩ (.int .i64 tc)).cell? ⟨w.heap.size + 1 + 1, 3, none⟩ = some (.slice none 0 0) := by rw [r2a.cell 3, HY.out, HZ.out]; rfl
  have f3 := r2a.frozen 3
  have r2b := r2a.store 3 (.slice a7 n7 c7)
  obtain ⟨y', hy'⟩ : ∃ y', y' = (y.setIfInBounds 2 (.int .i64 tc)).setIfInBounds 3 (.slice a7 n7 c7) := ⟨_, rfl⟩
  rw [← hy'] at r2b
  have r1b := (r1.far (p := ⟨w.heap.size + 1 + 1, 2, none⟩) (by show w.heap.size + 1 ≠ w.heap.size + 1 + 1; omega) (.int .i64 tc)).far (p := ⟨w.heap.size + 1 + 1, 3, none⟩) (by show w.heap.size + 1 ≠ w.heap.size + 1 + 1; omega) (.slice a7 n7 c7)
  have hp8 := PIn.cell (PIn.cell hp7 r2 (by omega) 2 (.int .i64 tc)) r2a (by omega) 3 (.slice a7 n7 c7)
  have he8 := err_cell (err_cell he7 r2 2 (.int .i64 tc)) r2a 3 (.slice a7 n7 c7)
  have hb8 := (hb7.setCell (p := ⟨w.heap.size + 1 + 1, 2, none⟩) (by show _ ≤ w.heap.size + 1 + 1; omega) (.int .i64 tc)).setCell (p := ⟨w.heap.size + 1 + 1, 3, none⟩) (by show _ ≤ w.heap.size + 1 + 1; omega) (.slice a7 n7 c7)
  have HR1 := Lib.hid r1b
  have HR2 := Lib.hid r2b
  have HP8 := Lib.hid hp8
  have HE8 := Lib.hid he8
  have HB8 := Lib.hid hb8
  have HN7 := Lib.hid hn7
  have HC7 := Lib.hid hcc7
  have HY' := Lib.hid hy'
  have HYS' := Lib.hid (show y'.size = 26 by rw [hy']; simpa using HYS.out)
  have HY1 := Lib.hid (show y'.all (·.oneCell') = true by rw [hy', HY.out]; exact one_set (one_set (one_set HZ1.out _ _ rfl) _ _ rfl) _ _ rfl)
  clear hf7 hr7 hnm hl1 r1 r2 hb7 hp7 y2 r2a r2b r1b hp8 he8 hb8 hn7 hcc7 hy' HTK k0
  by_cases h0 : te.no = 0
  · have hq := HQ2.out
    rw [if_pos h0] at hq
    unfold ErrOf at he7
    rw [if_pos h0] at he7
    subst he7
    have hbf := below_row HB8.out (k := w.heap.size + 1) (by omega) y'
    have r3 := setRow_blk HR1.out y'
    have LD := Lib.hid (And.intro r3 HYS'.out)
    have HX := Lib.hid (show DcSays w S q (.returned (.tuple #[.agg y', .nilIface])) _ from by
      rw [hq]
      exact ⟨paR a7 c7, _, by rw [HY'.out, HY.out, HZ.out, HN7.out]; rfl, PkIn.ofR (PIn.row HP8.out HR1.out (by omega) y') (by have := HN7.out; have := HC7.out; omega), ErrOf.none, hbf⟩)
    clear hbf hq r3
    go_wp2_with (first | refine wpk_load HR2.out HYS'.out _ rfl rfl rfl ?_ | refine wpk_store HR1.out HZS.out HYS'.out HY1.out _ _ rfl rfl rfl rfl ?_)
    exact bodyPost_ret (v := .tuple #[.agg y', .nilIface]) (res_pkt (i := 2) (j := 3) rfl rfl rfl LD.out.1 LD.out.2) rfl HX.out
  · have hq := HQ2.out
    rw [if_neg h0] at hq
    obtain ⟨t7, u7, rfl⟩ := err_iface he7 h0
    have hbf := below_row HB8.out (k := w.heap.size + 1) (by omega) z
    have r3 := setRow_blk HR1.out z
    have LD := Lib.hid (And.intro r3 HZS.out)
    have HX := Lib.hid (show DcSays w S q (.returned (.tuple #[.agg z, .iface t7 u7])) _ from by
      rw [hq]
      exact DcSays.bad HZ.out rfl (err_row HE8.out HR1.out z) hbf)
    clear hbf hq r3 he7
    go_wp2_with (first | refine wpk_build HZ.out rfl rfl ?_ | refine wpk_store HR1.out HZS.out HZS.out HZ1.out _ _ rfl rfl rfl rfl ?_)
    exact bodyPost_ret (v := .tuple #[.agg z, .iface t7 u7]) (res_pkt (i := 2) (j := 3) rfl rfl rfl LD.out.1 LD.out.2) rfl HX.out
set_option maxHeartbeats 8000000 in
theorem dec14_other (hE : Env w S) (first : Int) (h1 : ¬ first = 192) (h2 : ¬ first = 208) (h3 : ¬ first = 224) (h4 : ¬ first = 240) : Calls Tryz.prog 76 #[.agg #[.int .i64 first, .string s]] w (DcSays w S (dcM first s)) := by
  obtain ⟨z, hz⟩ : ∃ z, z = pk0.cells pa0 := ⟨_, rfl⟩
  have HZ := Lib.hid hz
  have HZS := Lib.hid (show z.size = 26 by rw [hz]; rfl)
  have HZ1 := Lib.hid (show z.all (·.oneCell') = true by rw [hz]; exact pk_one _ _)
  obtain ⟨q, hq⟩ : ∃ q, q = dcM first s := ⟨_, rfl⟩
  rw [← hq]
  unfold dcM at hq
  rw [if_pos (by unfold kM; rw [if_neg h1, if_neg h2, if_neg h3, if_neg h4])] at hq
  have HQ := Lib.hid hq
  obtain ⟨W4, hW4⟩ : ∃ W, W = ((w.alloc (.cells #[.int .i64 first, .string s] 33)).alloc (.cells z 29)).alloc (.cells z 29) := ⟨_, rfl⟩
  have a1 : Below w.heap.size w (w.alloc (.cells #[.int .i64 first, .string s] 33)) := (Below.refl _ _).alloc (Nat.le_refl _) _
  have a2 := a1.trans (((Below.refl (w.alloc (.cells #[.int .i64 first, .string s] 33)).heap.size _).alloc (Nat.le_refl _) (.cells z 29)).mono a1.size)
  have hb4 : Below w.heap.size w W4 := by rw [hW4]; exact a2.trans (((Below.refl ((w.alloc (.cells #[.int .i64 first, .string s] 33)).alloc (.cells z 29)).heap.size _).alloc (Nat.le_refl _) (.cells z 29)).mono a2.size)
  have r1 : Blk W4 (w.heap.size + 1) 29 z := by
    have h := (Blk.made (w.alloc (.cells #[.int .i64 first, .string s] 33)) 29 z).alloc (.cells z 29)
    rw [World.size_alloc] at h
    rw [hW4]; exact h
  have kM := (hE.later hb4).kMalformed
  have R1 := Lib.hid r1
  have HB4 := Lib.hid hb4
  have HN := Lib.hid (new_err (w := W4) S 1 129 0)
  have HW4 := Lib.hid hW4
  rw [hW4] at kM
  clear hE hz hq a1 a2 hb4 r1 hW4
  go_enter Tryz.func76, Tryz.ntmps76
  go_wp2_with (first | refine wpk_alloc HZ.out rfl rfl ?_ | refine wpk_build HZ.out rfl rfl ?_ | refine wpk_store_new HZS.out HZS.out HZ1.out _ _ rfl rfl rfl rfl ?_)
  rw [← HW4.out]
  refine HN.out.mono ?_
  rintro x w7 ⟨e, rfl, he, hb7⟩
  obtain ⟨te, ue, rfl⟩ := he.iface
  have r1 := R1.out.below hb7 R1.out.lt
  have hb := HB4.out.trans (hb7.mono HB4.out.size)
  have hbf := below_row hb (k := w.heap.size + 1) (by omega) z
  have r3 := setRow_blk r1 z
  have LD := Lib.hid (And.intro r3 HZS.out)
  have HX := Lib.hid (show DcSays w S q (.returned (.tuple #[.agg z, .iface te ue])) (w7.setRow (w.heap.size + 1) z) from by
    rw [HQ.out]
    exact DcSays.bad HZ.out rfl (err_row (ErrOf.some (no := 2) (by decide) (by decide) he) r1 z) hbf)
  have HR1 := Lib.hid r1
  clear hb7 hb hbf r1 r3 kM he
  go_wp2_with (first | refine wpk_build HZ.out rfl rfl ?_ | refine wpk_store HR1.out HZS.out HZS.out HZ1.out _ _ rfl rfl rfl rfl ?_)
  exact bodyPost_ret (v := .tuple #[.agg z, .iface te ue]) (res_pkt (i := 2) (j := 3) rfl rfl rfl LD.out.1 LD.out.2) rfl HX.out
theorem dec14 (hE : Env w S) (first : Int) (hs : s.size ≤ 900000) : Calls Tryz.prog 76 #[.agg #[.int .i64 first, .string s]] w (DcSays w S (dcM first s)) := by
  by_cases h1 : first = 192
  · subst h1; exact dec14_192 hE hs
  · by_cases h2 : first = 208
    · subst h2; exact dec14_208 hE hs
    · by_cases h3 : first = 224
      · subst h3; exact dec14_224 hE hs
      · by_cases h4 : first = 240
        · subst h4; exact dec14_240 hE hs
        · exact dec14_other hE first h1 h2 h3 h4
end
end Go.Proofs.YtinhecggmakbnaaGreatDoor
namespace Go.Proofs.YtinhecggmakbnaaGreatDoor
set_option maxRecDepth 100000
open Go.RowKit Go.Extern.Stop Go.Stop Go.Extern
/-- What Encode tells of any packet. -/
def enM (p : Pk) : FrR :=
  if fM p.kind = 0 then ⟨⟨7, 128, 0⟩, 0, ⟨#[]⟩⟩
  else if p.kind < 14 then frR w0 (fM p.kind) (dcM (fM p.kind) ⟨w0.L.toArray⟩).1
  else if (putR w0 p.kind p.reason p.props).1.no = 0 then frR (putR w0 p.kind p.reason p.props).2 (fM p.kind) (dcM (fM p.kind) ⟨(putR w0 p.kind p.reason p.props).2.L.toArray⟩).1
  else ⟨(putR w0 p.kind p.reason p.props).1, 0, ⟨#[]⟩⟩
theorem putR_len {W : EV} {k r : Int} {L : PL} (hS : SmallP L) : (putR W k r L).2.L.length ≤ W.L.length + 63845 := by
  unfold putR
  have h1 := stepW_num_len W r
  split
  · simp only
    split <;> omega
  · split
    · have h2 := stepW_len (stepW W (numE 1 r)) ⟨0, 0, (encR k L).L⟩
      have h3 := encR_len (k := k) hS
      simp only at h2 ⊢
      omega
    · simp only
      omega
section
variable {w w' : World} {S : Nat → Addr} {A : PkA} {p : Pk}
set_option maxHeartbeats 8000000 in
theorem enc14_12 (hE : Env w S) (h : PkIn w w.heap.size A p) (hS : SmallP p.props) (hk : p.kind = 12) : Calls Tryz.prog 32 #[p.agg A] w (FrSays w S (enM p)) := by
  obtain ⟨q, hq⟩ : ∃ q, q = enM p := ⟨_, rfl⟩
  rw [← hq]
  unfold enM at hq
  rw [hk, show fM 12 = 192 from rfl, if_neg (by decide), if_pos (by decide)] at hq
  have HQ := Lib.hid hq
  obtain ⟨c, hc⟩ : ∃ c, c = p.cells A := ⟨_, rfl⟩
  rw [show p.agg A = .agg c from by rw [hc]; rfl]
  have hcs : c.size = 26 := by rw [hc]; rfl
  have hc0 : c[0]? = some (.int .i64 p.kind) := by rw [hc]; rfl
  rw [hk] at hc0
  have HC := Lib.hid hc
  have HCS := Lib.hid hcs
  obtain ⟨W3, hW3⟩ : ∃ W, W = ((w.alloc (.cells c 29)).alloc (.cells #[.int .i64 0, .string ⟨#[]⟩] 33)).alloc (.cells #[.slice none 0 0, .nilIface] 64) := ⟨_, rfl⟩
  have a1 : Below w.heap.size w (w.alloc (.cells c 29)) := (Below.refl _ _).alloc (Nat.le_refl _) _
  have a2 := a1.trans (((Below.refl (w.alloc (.cells c 29)).heap.size _).alloc (Nat.le_refl _) (.cells #[.int .i64 0, .string ⟨#[]⟩] 33)).mono a1.size)
  have hb3 : Below w.heap.size w W3 := by rw [hW3]; exact a2.trans (((Below.refl ((w.alloc (.cells c 29)).alloc (.cells #[.int .i64 0, .string ⟨#[]⟩] 33)).heap.size _).alloc (Nat.le_refl _) (.cells #[.slice none 0 0, .nilIface] 64)).mono a2.size)
  have r0 : Blk W3 w.heap.size 29 c := by
    have h := ((Blk.made w 29 c).alloc (.cells #[.int .i64 0, .string ⟨#[]⟩] 33)).alloc (.cells #[.slice none 0 0, .nilIface] 64)
    rw [hW3]; exact h
  have r1 : Blk W3 (w.heap.size + 1) 33 #[.int .i64 0, .string ⟨#[]⟩] := by
    have h := (Blk.made (w.alloc (.cells c 29)) 33 #[.int .i64 0, .string ⟨#[]⟩]).alloc (.cells #[.slice none 0 0, .nilIface] 64)
    rw [World.size_alloc] at h
    rw [hW3]; exact h
  have ho : WObj W3 S w.heap.size (w.heap.size + 1 + 1) (.slice none 0 0) w0 := by
    have h := WObj.made ((w.alloc (.cells c 29)).alloc (.cells #[.int .i64 0, .string ⟨#[]⟩] 33)) S (B := w.heap.size) a2.size
    rw [World.size_alloc, World.size_alloc] at h
    rw [hW3]; exact h
  have k0 : W3.cell? ⟨w.heap.size, 0, none⟩ = some (.int .i64 12) := (r0.cell 0).trans hc0
  have HW3 := Lib.hid hW3
  have HB3 := Lib.hid hb3
  have R0 := Lib.hid r0
  have R1 := Lib.hid r1
  have HO := Lib.hid ho
  have HE := Lib.hid hE
  have HP := Lib.hid (h.below hb3)
  have HSM := Lib.hid hS
  have HKD := Lib.hid hk
  clear hq hc hcs hc0 a1 a2 hb3 r0 r1 ho hE h hS hW3 hk k0
  go_enter Tryz.func32, Tryz.ntmps32
  have hc0 : c[0]? = some (.int .i64 12) := by rw [HC.out, ← HKD.out]; rfl
  go_wp2_with (refine wpk_box HCS.out _ rfl rfl rfl ?_)
  rw [← HW3.out]
  clear hc0
  refine (hr14 12 W3).mono ?_
  rintro x w4 ⟨rfl, rfl⟩
  have HFA := Lib.hid (frame_any14 192 HO.out (fun W1 hb => dec14 (HE.out.later (HB3.out.trans (hb.mono HB3.out.size))) 192 (show (⟨w0.L.toArray⟩ : ByteArray).size ≤ 900000 from by decide)))
  go_wp2_with fail
  refine HFA.out.mono ?_
  rintro x w6 ⟨e6, rfl, he6, hb6⟩
  have r1 := R1.out.below hb6 R1.out.lt
  have hb := HB3.out.trans (hb6.mono HB3.out.size)
  obtain ⟨⟨z0, z1, y0, y1⟩, ⟨z2, y2⟩, ⟨f0, f1⟩, ferr⟩ := fr_facts (S := S) r1 (.int .i64 q.first) (.string q.s)
  have hbf := (hb.setCell (p := ⟨w.heap.size + 1, 0, none⟩) (by show w.heap.size ≤ w.heap.size + 1; omega) (.int .i64 q.first)).setCell (p := ⟨w.heap.size + 1, 1, none⟩) (by show w.heap.size ≤ w.heap.size + 1; omega) (.string q.s)
  rw [← HQ.out] at he6 ⊢
  have HX := Lib.hid (show FrSays w S q (.returned (.tuple #[.agg #[.int .i64 q.first, .string q.s], e6])) _ from ⟨e6, rfl, ferr _ _ _ _ he6, hbf⟩)
  clear hb6 r1 hb ferr hbf he6 HFA
  go_wp2
  exact bodyPost_ret (v := .tuple #[.agg #[.int .i64 q.first, .string q.s], e6]) (by simp [results, Tryz.results32, go_sem, f0, f1]) rfl HX.out
set_option maxHeartbeats 8000000 in
theorem enc14_13 (hE : Env w S) (h : PkIn w w.heap.size A p) (hS : SmallP p.props) (hk : p.kind = 13) : Calls Tryz.prog 32 #[p.agg A] w (FrSays w S (enM p)) := by
  obtain ⟨q, hq⟩ : ∃ q, q = enM p := ⟨_, rfl⟩
  rw [← hq]
  unfold enM at hq
  rw [hk, show fM 13 = 208 from rfl, if_neg (by decide), if_pos (by decide)] at hq
  have HQ := Lib.hid hq
  obtain ⟨c, hc⟩ : ∃ c, c = p.cells A := ⟨_, rfl⟩
  rw [show p.agg A = .agg c from by rw [hc]; rfl]
  have hcs : c.size = 26 := by rw [hc]; rfl
  have hc0 : c[0]? = some (.int .i64 p.kind) := by rw [hc]; rfl
  rw [hk] at hc0
  have HC := Lib.hid hc
  have HCS := Lib.hid hcs
  obtain ⟨W3, hW3⟩ : ∃ W, W = ((w.alloc (.cells c 29)).alloc (.cells #[.int .i64 0, .string ⟨#[]⟩] 33)).alloc (.cells #[.slice none 0 0, .nilIface] 64) := ⟨_, rfl⟩
  have a1 : Below w.heap.size w (w.alloc (.cells c 29)) := (Below.refl _ _).alloc (Nat.le_refl _) _
  have a2 := a1.trans (((Below.refl (w.alloc (.cells c 29)).heap.size _).alloc (Nat.le_refl _) (.cells #[.int .i64 0, .string ⟨#[]⟩] 33)).mono a1.size)
  have hb3 : Below w.heap.size w W3 := by rw [hW3]; exact a2.trans (((Below.refl ((w.alloc (.cells c 29)).alloc (.cells #[.int .i64 0, .string ⟨#[]⟩] 33)).heap.size _).alloc (Nat.le_refl _) (.cells #[.slice none 0 0, .nilIface] 64)).mono a2.size)
  have r0 : Blk W3 w.heap.size 29 c := by
    have h := ((Blk.made w 29 c).alloc (.cells #[.int .i64 0, .string ⟨#[]⟩] 33)).alloc (.cells #[.slice none 0 0, .nilIface] 64)
    rw [hW3]; exact h
  have r1 : Blk W3 (w.heap.size + 1) 33 #[.int .i64 0, .string ⟨#[]⟩] := by
    have h := (Blk.made (w.alloc (.cells c 29)) 33 #[.int .i64 0, .string ⟨#[]⟩]).alloc (.cells #[.slice none 0 0, .nilIface] 64)
    rw [World.size_alloc] at h
    rw [hW3]; exact h
  have ho : WObj W3 S w.heap.size (w.heap.size + 1 + 1) (.slice none 0 0) w0 := by
    have h := WObj.made ((w.alloc (.cells c 29)).alloc (.cells #[.int .i64 0, .string ⟨#[]⟩] 33)) S (B := w.heap.size) a2.size
    rw [World.size_alloc, World.size_alloc] at h
    rw [hW3]; exact h
  have k0 : W3.cell? ⟨w.heap.size, 0, none⟩ = some (.int .i64 13) := (r0.cell 0).trans hc0
  have HW3 := Lib.hid hW3
  have HB3 := Lib.hid hb3
  have R0 := Lib.hid r0
  have R1 := Lib.hid r1
  have HO := Lib.hid ho
  have HE := Lib.hid hE
  have HP := Lib.hid (h.below hb3)
  have HSM := Lib.hid hS
  have HKD := Lib.hid hk
  clear hq hc hcs hc0 a1 a2 hb3 r0 r1 ho hE h hS hW3 hk k0
  go_enter Tryz.func32, Tryz.ntmps32
  have hc0 : c[0]? = some (.int .i64 13) := by rw [HC.out, ← HKD.out]; rfl
  go_wp2_with (refine wpk_box HCS.out _ rfl rfl rfl ?_)
  rw [← HW3.out]
  clear hc0
  refine (hr14 13 W3).mono ?_
  rintro x w4 ⟨rfl, rfl⟩
  have HFA := Lib.hid (frame_any14 208 HO.out (fun W1 hb => dec14 (HE.out.later (HB3.out.trans (hb.mono HB3.out.size))) 208 (show (⟨w0.L.toArray⟩ : ByteArray).size ≤ 900000 from by decide)))
  go_wp2_with fail
  refine HFA.out.mono ?_
  rintro x w6 ⟨e6, rfl, he6, hb6⟩
  have r1 := R1.out.below hb6 R1.out.lt
  have hb := HB3.out.trans (hb6.mono HB3.out.size)
  obtain ⟨⟨z0, z1, y0, y1⟩, ⟨z2, y2⟩, ⟨f0, f1⟩, ferr⟩ := fr_facts (S := S) r1 (.int .i64 q.first) (.string q.s)
  have hbf := (hb.setCell (p := ⟨w.heap.size + 1, 0, none⟩) (by show w.heap.size ≤ w.heap.size + 1; omega) (.int .i64 q.first)).setCell (p := ⟨w.heap.size + 1, 1, none⟩) (by show w.heap.size ≤ w.heap.size + 1; omega) (.string q.s)
  rw [← HQ.out] at he6 ⊢
  have HX := Lib.hid (show FrSays w S q (.returned (.tuple #[.agg #[.int .i64 q.first, .string q.s], e6])) _ from ⟨e6, rfl, ferr _ _ _ _ he6, hbf⟩)
  clear hb6 r1 hb ferr hbf he6 HFA
  go_wp2
  exact bodyPost_ret (v := .tuple #[.agg #[.int .i64 q.first, .string q.s], e6]) (by simp [results, Tryz.results32, go_sem, f0, f1]) rfl HX.out
set_option maxHeartbeats 8000000 in
theorem enc14_14 (hE : Env w S) (h : PkIn w w.heap.size A p) (hS : SmallP p.props) (hk : p.kind = 14) : Calls Tryz.prog 32 #[p.agg A] w (FrSays w S (enM p)) := by
  obtain ⟨q, hq⟩ : ∃ q, q = enM p := ⟨_, rfl⟩
  rw [← hq]
  unfold enM at hq
  rw [hk, show fM 14 = 224 from rfl, if_neg (by decide), if_neg (by decide)] at hq
  have HQ := Lib.hid hq
  obtain ⟨c, hc⟩ : ∃ c, c = p.cells A := ⟨_, rfl⟩
  rw [show p.agg A = .agg c from by rw [hc]; rfl]
  have hcs : c.size = 26 := by rw [hc]; rfl
  have hc0 : c[0]? = some (.int .i64 p.kind) := by rw [hc]; rfl
  rw [hk] at hc0
  have HC := Lib.hid hc
  have HCS := Lib.hid hcs
  obtain ⟨W3, hW3⟩ : ∃ W, W = ((w.alloc (.cells c 29)).alloc (.cells #[.int .i64 0, .string ⟨#[]⟩] 33)).alloc (.cells #[.slice none 0 0, .nilIface] 64) := ⟨_, rfl⟩
  have a1 : Below w.heap.size w (w.alloc (.cells c 29)) := (Below.refl _ _).alloc (Nat.le_refl _) _
  have a2 := a1.trans (((Below.refl (w.alloc (.cells c 29)).heap.size _).alloc (Nat.le_refl _) (.cells #[.int .i64 0, .string ⟨#[]⟩] 33)).mono a1.size)
  have hb3 : Below w.heap.size w W3 := by rw [hW3]; exact a2.trans (((Below.refl ((w.alloc (.cells c 29)).alloc (.cells #[.int .i64 0, .string ⟨#[]⟩] 33)).heap.size _).alloc (Nat.le_refl _) (.cells #[.slice none 0 0, .nilIface] 64)).mono a2.size)
  have r0 : Blk W3 w.heap.size 29 c := by
    have h := ((Blk.made w 29 c).alloc (.cells #[.int .i64 0, .string ⟨#[]⟩] 33)).alloc (.cells #[.slice none 0 0, .nilIface] 64)
    rw [hW3]; exact h
  have r1 : Blk W3 (w.heap.size + 1) 33 #[.int .i64 0, .string ⟨#[]⟩] := by
    have h := (Blk.made (w.alloc (.cells c 29)) 33 #[.int .i64 0, .string ⟨#[]⟩]).alloc (.cells #[.slice none 0 0, .nilIface] 64)
    rw [World.size_alloc] at h
    rw [hW3]; exact h
  have ho : WObj W3 S w.heap.size (w.heap.size + 1 + 1) (.slice none 0 0) w0 := by
    have h := WObj.made ((w.alloc (.cells c 29)).alloc (.cells #[.int .i64 0, .string ⟨#[]⟩] 33)) S (B := w.heap.size) a2.size
    rw [World.size_alloc, World.size_alloc] at h
    rw [hW3]; exact h
  have k0 : W3.cell? ⟨w.heap.size, 0, none⟩ = some (.int .i64 14) := (r0.cell 0).trans hc0
  have HW3 := Lib.hid hW3
  have HB3 := Lib.hid hb3
  have R0 := Lib.hid r0
  have R1 := Lib.hid r1
  have HO := Lib.hid ho
  have HE := Lib.hid hE
  have HP := Lib.hid (h.below hb3)
  have HSM := Lib.hid hS
  have HKD := Lib.hid hk
  clear hq hc hcs hc0 a1 a2 hb3 r0 r1 ho hE h hS hW3 hk k0
  go_enter Tryz.func32, Tryz.ntmps32
  have hc0 : c[0]? = some (.int .i64 14) := by rw [HC.out, ← HKD.out]; rfl
  go_wp2_with (refine wpk_box HCS.out _ rfl rfl rfl ?_)
  rw [← HW3.out]
  clear hc0
  refine (hr14 14 W3).mono ?_
  rintro x w4 ⟨rfl, rfl⟩
  have hpt := put_any (HE.out.later HB3.out) HO.out (by decide) (HP.out.mono HB3.out.size) HSM.out
  rw [HKD.out] at hpt
  have hln := putR_len (W := w0) (k := 14) (r := p.reason) HSM.out
  obtain ⟨⟨pe, V⟩, hpr⟩ : ∃ r, r = putR w0 14 p.reason p.props := ⟨_, rfl⟩
  rw [← hpr] at hpt hln
  have hq := HQ.out
  rw [← hpr] at hq
  simp only at hq hln
  rw [show p.agg A = .agg c from by rw [HC.out]; rfl] at hpt
  have HPT := Lib.hid hpt
  have HQ2 := Lib.hid hq
  have HLN := Lib.hid (show V.L.length ≤ 63845 from by have : w0.L.length = 0 := rfl; omega)
  clear hpt hpr hq hln HQ
  go_wp2_with (refine wpk_load R0.out HCS.out _ rfl rfl rfl ?_)
  refine HPT.out.mono ?_
  rintro x w5 ⟨e5, v5, rfl, he5, hn5⟩
  simp only at he5 hn5
  have r1 := R1.out.fr hn5.fr (by
    rw [show (Value.slice none 0 0).ownBlock.toList = [] from rfl, List.mem_singleton]
    omega)
  have hb5 := hn5.later HO.out HB3.out
  by_cases h0 : pe.no = 0
  · have hq := HQ2.out
    rw [if_pos h0] at hq
    unfold ErrOf at he5
    rw [if_pos h0] at he5
    subst he5
    have HFA := Lib.hid (frame_any14 224 hn5.obj (fun W1 hb => dec14 (HE.out.later (hb5.trans (hb.mono hb5.size))) 224 (show (⟨V.L.toArray⟩ : ByteArray).size ≤ 900000 from by rw [bsize]; have := HLN.out; omega)))
    have HQ3 := Lib.hid hq
    have HR1 := Lib.hid r1
    have HB5 := Lib.hid hb5
    clear hq r1 hb5 hn5 HPT HQ2
    go_wp2_with fail
    refine HFA.out.mono ?_
    rintro x w6 ⟨e6, rfl, he6, hb6⟩
    have r1 := HR1.out.below hb6 HR1.out.lt
    have hb := HB5.out.trans (hb6.mono HB5.out.size)
    obtain ⟨⟨z0, z1, y0, y1⟩, ⟨z2, y2⟩, ⟨f0, f1⟩, ferr⟩ := fr_facts (S := S) r1 (.int .i64 q.first) (.string q.s)
    have hbf := (hb.setCell (p := ⟨w.heap.size + 1, 0, none⟩) (by show w.heap.size ≤ w.heap.size + 1; omega) (.int .i64 q.first)).setCell (p := ⟨w.heap.size + 1, 1, none⟩) (by show w.heap.size ≤ w.heap.size + 1; omega) (.string q.s)
    rw [← HQ3.out] at he6 ⊢
    have HX := Lib.hid (show FrSays w S q (.returned (.tuple #[.agg #[.int .i64 q.first, .string q.s], e6])) _ from ⟨e6, rfl, ferr _ _ _ _ he6, hbf⟩)
    clear hb6 r1 hb ferr hbf he6 HFA
    go_wp2
    exact bodyPost_ret (v := .tuple #[.agg #[.int .i64 q.first, .string q.s], e6]) (by simp [results, Tryz.results32, go_sem, f0, f1]) rfl HX.out
  · have hq := HQ2.out
    rw [if_neg h0] at hq
    obtain ⟨te, ue, rfl⟩ := err_iface he5 h0
    obtain ⟨⟨z0, z1, y0, y1⟩, ⟨z2, y2⟩, ⟨f0, f1⟩, ferr⟩ := fr_facts (S := S) r1 (.int .i64 0) (.string ⟨#[]⟩)
    have hbf := (hb5.setCell (p := ⟨w.heap.size + 1, 0, none⟩) (by show w.heap.size ≤ w.heap.size + 1; omega) (.int .i64 0)).setCell (p := ⟨w.heap.size + 1, 1, none⟩) (by show w.heap.size ≤ w.heap.size + 1; omega) (.string ⟨#[]⟩)
    have HX := Lib.hid (show FrSays w S q (.returned (.tuple #[.agg #[.int .i64 0, .string ⟨#[]⟩], .iface te ue])) _ from by
      rw [hq]
      exact ⟨_, rfl, ferr _ _ _ _ he5, hbf⟩)
    clear hb5 r1 ferr hbf he5 hq hn5 HPT
    go_wp2
    exact bodyPost_ret (v := .tuple #[.agg #[.int .i64 0, .string ⟨#[]⟩], .iface te ue]) (by simp [results, Tryz.results32, go_sem, f0, f1]) rfl HX.out
set_option maxHeartbeats 8000000 in
theorem enc14_15 (hE : Env w S) (h : PkIn w w.heap.size A p) (hS : SmallP p.props) (hk : p.kind = 15) : Calls Tryz.prog 32 #[p.agg A] w (FrSays w S (enM p)) := by
  obtain ⟨q, hq⟩ : ∃ q, q = enM p := ⟨_, rfl⟩
  rw [← hq]
  unfold enM at hq
  rw [hk, show fM 15 = 240 from rfl, if_neg (by decide), if_neg (by decide)] at hq
  have HQ := Lib.hid hq
  obtain ⟨c, hc⟩ : ∃ c, c = p.cells A := ⟨_, rfl⟩
  rw [show p.agg A = .agg c from by rw [hc]; rfl]
  have hcs : c.size = 26 := by rw [hc]; rfl
  have hc0 : c[0]? = some (.int .i64 p.kind) := by rw [hc]; rfl
  rw [hk] at hc0
  have HC := Lib.hid hc
  have HCS := Lib.hid hcs
  obtain ⟨W3, hW3⟩ : ∃ W, W = ((w.alloc (.cells c 29)).alloc (.cells #[.int .i64 0, .string ⟨#[]⟩] 33)).alloc (.cells #[.slice none 0 0, .nilIface] 64) := ⟨_, rfl⟩
  have a1 : Below w.heap.size w (w.alloc (.cells c 29)) := (Below.refl _ _).alloc (Nat.le_refl _) _
  have a2 := a1.trans (((Below.refl (w.alloc (.cells c 29)).heap.size _).alloc (Nat.le_refl _) (.cells #[.int .i64 0, .string ⟨#[]⟩] 33)).mono a1.size)
  have hb3 : Below w.heap.size w W3 := by rw [hW3]; exact a2.trans (((Below.refl ((w.alloc (.cells c 29)).alloc (.cells #[.int .i64 0, .string ⟨#[]⟩] 33)).heap.size _).alloc (Nat.le_refl _) (.cells #[.slice none 0 0, .nilIface] 64)).mono a2.size)
  have r0 : Blk W3 w.heap.size 29 c := by
    have h := ((Blk.made w 29 c).alloc (.cells #[.int .i64 0, .string ⟨#[]⟩] 33)).alloc (.cells #[.slice none 0 0, .nilIface] 64)
    rw [hW3]; exact h
  have r1 : Blk W3 (w.heap.size + 1) 33 #[.int .i64 0, .string ⟨#[]⟩] := by
    have h := (Blk.made (w.alloc (.cells c 29)) 33 #[.int .i64 0, .string ⟨#[]⟩]).alloc (.cells #[.slice none 0 0, .nilIface] 64)
    rw [World.size_alloc] at h
    rw [hW3]; exact h
  have ho : WObj W3 S w.heap.size (w.heap.size + 1 + 1) (.slice none 0 0) w0 := by
    have h := WObj.made ((w.alloc (.cells c 29)).alloc (.cells #[.int .i64 0, .string ⟨#[]⟩] 33)) S (B := w.heap.size) a2.size
    rw [World.size_alloc, World.size_alloc] at h
    rw [hW3]; exact h
  have k0 : W3.cell? ⟨w.heap.size, 0, none⟩ = some (.int .i64 15) := (r0.cell 0).trans hc0
  have HW3 := Lib.hid hW3
  have HB3 := Lib.hid hb3
  have R0 := Lib.hid r0
  have R1 := Lib.hid r1
  have HO := Lib.hid ho
  have HE := Lib.hid hE
  have HP := Lib.hid (h.below hb3)
  have HSM := Lib.hid hS
  have HKD := Lib.hid hk
  clear hq hc hcs hc0 a1 a2 hb3 r0 r1 ho hE h hS hW3 hk k0
  go_enter Tryz.func32, Tryz.ntmps32
  have hc0 : c[0]? = some (.int .i64 15) := by rw [HC.out, ← HKD.out]; rfl
  go_wp2_with (refine wpk_box HCS.out _ rfl rfl rfl ?_)
  rw [← HW3.out]
  clear hc0
  refine (hr14 15 W3).mono ?_
  rintro x w4 ⟨rfl, rfl⟩
  have hpt := put_any (HE.out.later HB3.out) HO.out (by decide) (HP.out.mono HB3.out.size) HSM.out
  rw [HKD.out] at hpt
  have hln := putR_len (W := w0) (k := 15) (r := p.reason) HSM.out
  obtain ⟨⟨pe, V⟩, hpr⟩ : ∃ r, r = putR w0 15 p.reason p.props := ⟨_, rfl⟩
  rw [← hpr] at hpt hln
  have hq := HQ.out
  rw [← hpr] at hq
  simp only at hq hln
  rw [show p.agg A = .agg c from by rw [HC.out]; rfl] at hpt
  have HPT := Lib.hid hpt
  have HQ2 := Lib.hid hq
  have HLN := Lib.hid (show V.L.length ≤ 63845 from by have : w0.L.length = 0 := rfl; omega)
  clear hpt hpr hq hln HQ
  go_wp2_with (refine wpk_load R0.out HCS.out _ rfl rfl rfl ?_)
  refine HPT.out.mono ?_
  rintro x w5 ⟨e5, v5, rfl, he5, hn5⟩
  simp only at he5 hn5
  have r1 := R1.out.fr hn5.fr (by
    rw [show (Value.slice none 0 0).ownBlock.toList = [] from rfl, List.mem_singleton]
    omega)
  have hb5 := hn5.later HO.out HB3.out
  by_cases h0 : pe.no = 0
  · have hq := HQ2.out
    rw [if_pos h0] at hq
    unfold ErrOf at he5
    rw [if_pos h0] at he5
    subst he5
    have HFA := Lib.hid (frame_any14 240 hn5.obj (fun W1 hb => dec14 (HE.out.later (hb5.trans (hb.mono hb5.size))) 240 (show (⟨V.L.toArray⟩ : ByteArray).size ≤ 900000 from by rw [bsize]; have := HLN.out; omega)))
    have HQ3 := Lib.hid hq
    have HR1 := Lib.hid r1
    have HB5 := Lib.hid hb5
    clear hq r1 hb5 hn5 HPT HQ2
    go_wp2_with fail
    refine HFA.out.mono ?_
    rintro x w6 ⟨e6, rfl, he6, hb6⟩
    have r1 := HR1.out.below hb6 HR1.out.lt
    have hb := HB5.out.trans (hb6.mono HB5.out.size)
    obtain ⟨⟨z0, z1, y0, y1⟩, ⟨z2, y2⟩, ⟨f0, f1⟩, ferr⟩ := fr_facts (S := S) r1 (.int .i64 q.first) (.string q.s)
    have hbf := (hb.setCell (p := ⟨w.heap.size + 1, 0, none⟩) (by show w.heap.size ≤ w.heap.size + 1; omega) (.int .i64 q.first)).setCell (p := ⟨w.heap.size + 1, 1, none⟩) (by show w.heap.size ≤ w.heap.size + 1; omega) (.string q.s)
    rw [← HQ3.out] at he6 ⊢
    have HX := Lib.hid (show FrSays w S q (.returned (.tuple #[.agg #[.int .i64 q.first, .string q.s], e6])) _ from ⟨e6, rfl, ferr _ _ _ _ he6, hbf⟩)
    clear hb6 r1 hb ferr hbf he6 HFA
    go_wp2
    exact bodyPost_ret (v := .tuple #[.agg #[.int .i64 q.first, .string q.s], e6]) (by simp [results, Tryz.results32, go_sem, f0, f1]) rfl HX.out
  · have hq := HQ2.out
    rw [if_neg h0] at hq
    obtain ⟨te, ue, rfl⟩ := err_iface he5 h0
    obtain ⟨⟨z0, z1, y0, y1⟩, ⟨z2, y2⟩, ⟨f0, f1⟩, ferr⟩ := fr_facts (S := S) r1 (.int .i64 0) (.string ⟨#[]⟩)
    have hbf := (hb5.setCell (p := ⟨w.heap.size + 1, 0, none⟩) (by show w.heap.size ≤ w.heap.size + 1; omega) (.int .i64 0)).setCell (p := ⟨w.heap.size + 1, 1, none⟩) (by show w.heap.size ≤ w.heap.size + 1; omega) (.string ⟨#[]⟩)
    have HX := Lib.hid (show FrSays w S q (.returned (.tuple #[.agg #[.int .i64 0, .string ⟨#[]⟩], .iface te ue])) _ from by
      rw [hq]
      exact ⟨_, rfl, ferr _ _ _ _ he5, hbf⟩)
    clear hb5 r1 ferr hbf he5 hq hn5 HPT
    go_wp2
    exact bodyPost_ret (v := .tuple #[.agg #[.int .i64 0, .string ⟨#[]⟩], .iface te ue]) (by simp [results, Tryz.results32, go_sem, f0, f1]) rfl HX.out
set_option maxHeartbeats 8000000 in
theorem enc14_other (hE : Env w S) (h1 : ¬ p.kind = 12) (h2 : ¬ p.kind = 13) (h3 : ¬ p.kind = 14) (h4 : ¬ p.kind = 15) : Calls Tryz.prog 32 #[p.agg A] w (FrSays w S (enM p)) := by
  obtain ⟨q, hq⟩ : ∃ q, q = enM p := ⟨_, rfl⟩
  rw [← hq]
  unfold enM at hq
  rw [if_pos (by unfold fM; rw [if_neg h1, if_neg h2, if_neg h3, if_neg h4])] at hq
  have HQ := Lib.hid hq
  obtain ⟨c, hc⟩ : ∃ c, c = p.cells A := ⟨_, rfl⟩
  rw [show p.agg A = .agg c from by rw [hc]; rfl]
  have hcs : c.size = 26 := by rw [hc]; rfl
  have hc0 : c[0]? = some (.int .i64 p.kind) := by rw [hc]; rfl
  have HC := Lib.hid hc
  have HCS := Lib.hid hcs
  generalize p.kind = kd at *
  obtain ⟨W3, hW3⟩ : ∃ W, W = (w.alloc (.cells c 29)).alloc (.cells #[.int .i64 0, .string ⟨#[]⟩] 33) := ⟨_, rfl⟩
  have a1 : Below w.heap.size w (w.alloc (.cells c 29)) := (Below.refl _ _).alloc (Nat.le_refl _) _
  have hb3 : Below w.heap.size w W3 := by rw [hW3]; exact a1.trans (((Below.refl (w.alloc (.cells c 29)).heap.size _).alloc (Nat.le_refl _) (.cells #[.int .i64 0, .string ⟨#[]⟩] 33)).mono a1.size)
  have r1 : Blk W3 (w.heap.size + 1) 33 #[.int .i64 0, .string ⟨#[]⟩] := by
    have h := Blk.made (w.alloc (.cells c 29)) 33 #[.int .i64 0, .string ⟨#[]⟩]
    rw [World.size_alloc] at h
    rw [hW3]; exact h
  have kA := (hE.later hb3).kArgument
  rw [hW3] at kA
  have HN := Lib.hid (new_err (w := W3) S 6 128 0)
  have HW3 := Lib.hid hW3
  have HB3 := Lib.hid hb3
  have R1 := Lib.hid r1
  clear hq hc hcs a1 hb3 r1 hE hW3
  go_enter Tryz.func32, Tryz.ntmps32
  go_wp2_with (refine wpk_box HCS.out _ rfl rfl rfl ?_)
  rw [← HW3.out]
  refine HN.out.mono ?_
  rintro x w5 ⟨e, rfl, he, hb⟩
  obtain ⟨te, ue, rfl⟩ := he.iface
  have r1 := R1.out.below hb R1.out.lt
  have hb5 := HB3.out.trans (hb.mono HB3.out.size)
  obtain ⟨⟨z0, z1, y0, y1⟩, ⟨z2, y2⟩, ⟨f0, f1⟩, ferr⟩ := fr_facts (S := S) r1 (.int .i64 0) (.string ⟨#[]⟩)
  have hbf := (hb5.setCell (p := ⟨w.heap.size + 1, 0, none⟩) (by show w.heap.size ≤ w.heap.size + 1; omega) (.int .i64 0)).setCell (p := ⟨w.heap.size + 1, 1, none⟩) (by show w.heap.size ≤ w.heap.size + 1; omega) (.string ⟨#[]⟩)
  have HX := Lib.hid (show FrSays w S q (.returned (.tuple #[.agg #[.int .i64 0, .string ⟨#[]⟩], .iface te ue])) _ from by
    rw [HQ.out]
    exact ⟨_, rfl, ferr _ _ _ _ (ErrOf.some (no := 7) (by decide) (by decide) he), hbf⟩)
  clear hb5 r1 ferr hbf he hb hc0 kA
  go_wp2
  exact bodyPost_ret (v := .tuple #[.agg #[.int .i64 0, .string ⟨#[]⟩], .iface te ue]) (by simp [results, Tryz.results32, go_sem, f0, f1]) rfl HX.out
theorem enc14 (hE : Env w S) (h : PkIn w w.heap.size A p) (hS : SmallP p.props) : Calls Tryz.prog 32 #[p.agg A] w (FrSays w S (enM p)) := by
  by_cases h1 : p.kind = 12
  · exact enc14_12 hE h hS h1
  · by_cases h2 : p.kind = 13
    · exact enc14_13 hE h hS h2
    · by_cases h3 : p.kind = 14
      · exact enc14_14 hE h hS h3
      · by_cases h4 : p.kind = 15
        · exact enc14_15 hE h hS h4
        · exact enc14_other hE h1 h2 h3 h4
end
end Go.Proofs.YtinhecggmakbnaaGreatDoor

/- What is proved here: a frame that is decoded by ack.Decode. Conditions: the writer is there; what Decode tells. What is proved here: the number of a packet is read; Decode of package ack tells what a plain function says. Conditions: few bytes; what the rows list of the package's variables. -/
import Derived.Test.YtinhecggmakbnaaGreatDoorBod08
import Derived.Test.YtinhecggmakbnaaGreatDoorPkx08
namespace Go.Proofs.YtinhecggmakbnaaGreatDoor
set_option maxRecDepth 100000
open Go.RowKit Go.Extern.Stop Go.Stop Go.Extern
section
variable {z w w' : World} {S : Nat → Addr} {B g : Nat} {s : ByteArray} {R : RV} {v : Value} {W : EV}
set_option maxHeartbeats 8000000 in
theorem frame_any11 (first : Int) (h : WObj w S B g v W) {q : Er × Pk} (hdc : ∀ W1 : World, Below w.heap.size w W1 → Calls Tryz.prog 63 #[.agg #[.int .i64 first, .string ⟨W.L.toArray⟩]] W1 (DcSays W1 S q)) :
    Calls Tryz.prog 54 #[.int .i64 first, .pointer (some ⟨g, 0, none⟩), .func (.func 63) #[] #[]] w (FrSays w S (frR W first q.1)) := by
  obtain ⟨f, hf⟩ : ∃ f, f = frR W first q.1 := ⟨_, rfl⟩
  rw [← hf]
  unfold frR at hf
  have hb1 : Below w.heap.size w (w.alloc (.cells #[.int .i64 0, .string ⟨#[]⟩] 33)) := (Below.refl _ _).alloc (Nat.le_refl _) _
  have HW := Lib.hid (wbytes_any (h.below hb1))
  have HK := Lib.hid (Blk.made w 33 #[.int .i64 0, .string ⟨#[]⟩])
  have HB1 := Lib.hid hb1
  have HD := Lib.hid hdc
  have HF := Lib.hid hf
  clear hb1 hdc h hf
  go_enter Tryz.func54, Tryz.ntmps54
  go_wp2_with fail
  refine HW.out.mono ?_
  rintro x w2 ⟨e2, rfl, he2, hb2⟩
  obtain ⟨W0, Wa, WL⟩ := W
  obtain ⟨qe, qp⟩ := q
  simp only at he2 HD HF ⊢
  have k2 := HK.out.below hb2 HK.out.lt
  have hb12 := HB1.out.trans (hb2.mono HB1.out.size)
  have HB2 := Lib.hid hb12
  have HK2 := Lib.hid k2
  have hff := HF.out
  by_cases h0 : W0 = 0
  · subst h0
    rw [if_pos rfl] at hff
    unfold ErrOf at he2
    rw [if_pos rfl] at he2
    subst he2
    obtain ⟨t, ht⟩ : ∃ t : ByteArray, t = ⟨WL.toArray⟩ := ⟨_, rfl⟩
    rw [← ht] at HD hff
    have HFF := Lib.hid hff
    have hb3 : Below w2.heap.size w2 (w2.alloc (.cells #[.int .i64 first, .string t] 33)) := (Below.refl _ _).alloc (Nat.le_refl _) _
    have hb13 := hb12.trans (hb3.mono hb12.size)
    have HDD := Lib.hid (HD.out _ hb13)
    have HB3 := Lib.hid hb13
    have HK3 := Lib.hid (k2.below hb3 k2.lt)
    have HK4 := Lib.hid (Blk.made w2 33 #[.int .i64 first, .string t])
    clear hb2 k2 hb12 hff hb3 hb13 HD HW HF HK HB1 HB2 HK2
    rw [show (⟨(EV.L ⟨0, Wa, WL⟩).toArray⟩ : ByteArray) = t from ht.symm]
    clear ht
    go_wp2_with fail
    refine HDD.out.mono ?_
    rintro x w4 ⟨A4, e4, rfl, _, he4, hb4⟩
    simp only at he4
    obtain ⟨c, hc⟩ : ∃ c, c = qp.cells A4 := ⟨_, rfl⟩
    rw [show Pk.agg (qe, qp).2 A4 = .agg c from by rw [hc]; rfl]
    have hcs : c.size = 26 := by rw [hc]; rfl
    have hst := st_pkt w4 c hcs (by rw [hc]; exact pk_one _ _)
    have hst2 := st_pktc w4 c hcs (by rw [hc]; exact pk_one _ _)
    clear hc
    have hb5 : Below w4.heap.size w4 (w4.alloc (.cells c 29)) := (Below.refl _ _).alloc (Nat.le_refl _) _
    have k3 := (HK3.out.below hb4 HK3.out.lt).below hb5 (HK3.out.below hb4 HK3.out.lt).lt
    have k4 := (HK4.out.below hb4 HK4.out.lt).below hb5 (HK4.out.below hb4 HK4.out.lt).lt
    have hb15 := (HB3.out.trans (hb4.mono HB3.out.size)).trans (hb5.mono (HB3.out.trans (hb4.mono HB3.out.size)).size)
    have c0 := k4.cell 0
    have c1 := k4.cell 1
    have h2 : ∀ {a b : Value}, (#[a, b] : Array Value)[0]? = some a ∧ (#[a, b] : Array Value)[1]? = some b := ⟨rfl, rfl⟩
    rw [h2.1] at c0
    rw [h2.2] at c1
    clear h2
    by_cases hq0 : qe.no = 0
    · have hff := HFF.out
      rw [if_pos hq0] at hff
      unfold ErrOf at he4
      rw [if_pos hq0] at he4
      subst he4
      obtain ⟨⟨z0, z1, y0, y1⟩, ⟨z2, y2⟩, ⟨f0, f1⟩, _⟩ := fr_facts (S := S) k3 (.int .i64 first) (.string t)
      have hbf := (hb15.setCell (p := ⟨w.heap.size, 0, none⟩) (Nat.le_refl _) (.int .i64 first)).setCell (p := ⟨w.heap.size, 1, none⟩) (Nat.le_refl _) (.string t)
      have HX := Lib.hid (show ∀ W, Below w.heap.size w W → FrSays w S f (.returned (.tuple #[.agg #[.int .i64 first, .string t], .nilIface])) W from fun W hb => by
        rw [hff]
        exact ⟨_, rfl, ErrOf.none, hb⟩)
      have HBF := Lib.hid hbf
      clear hff hbf hb5 k3 k4 hb15 hb4 HDD HFF HB3 HK3 HK4
      go_wp2
      exact bodyPost_ret (v := .tuple #[.agg #[.int .i64 first, .string t], .nilIface]) (by simp [results, Tryz.results54, go_sem, f0, f1]) rfl (HX.out _ HBF.out)
    · have hff := HFF.out
      rw [if_neg hq0] at hff
      obtain ⟨t4, u4, rfl⟩ := err_iface he4 hq0
      obtain ⟨⟨z0, z1, y0, y1⟩, ⟨z2, y2⟩, ⟨f0, f1⟩, ferr⟩ := fr_facts (S := S) k3 (.int .i64 0) (.string ⟨#[]⟩)
      have hbf := (hb15.setCell (p := ⟨w.heap.size, 0, none⟩) (Nat.le_refl _) (.int .i64 0)).setCell (p := ⟨w.heap.size, 1, none⟩) (Nat.le_refl _) (.string ⟨#[]⟩)
      have hee := ferr _ _ _ _ (he4.later hb5)
      have HX := Lib.hid (show FrSays w S f (.returned (.tuple #[.agg #[.int .i64 0, .string ⟨#[]⟩], .iface t4 u4])) _ from by
        rw [hff]
        exact ⟨_, rfl, hee, hbf⟩)
      clear hff hbf hb5 k3 k4 hb15 hb4 he4 hee ferr HDD HFF HB3 HK3 HK4
      go_wp2
      exact bodyPost_ret (v := .tuple #[.agg #[.int .i64 0, .string ⟨#[]⟩], .iface t4 u4]) (by simp [results, Tryz.results54, go_sem, f0, f1]) rfl HX.out
  · rw [if_neg h0] at hff
    obtain ⟨t2, u2, rfl⟩ := err_iface he2 h0
    obtain ⟨⟨z0, z1, y0, y1⟩, ⟨z2, y2⟩, ⟨f0, f1⟩, ferr⟩ := fr_facts (S := S) k2 (.int .i64 0) (.string ⟨#[]⟩)
    have hbf := (hb12.setCell (p := ⟨w.heap.size, 0, none⟩) (Nat.le_refl _) (.int .i64 0)).setCell (p := ⟨w.heap.size, 1, none⟩) (Nat.le_refl _) (.string ⟨#[]⟩)
    have hee := ferr _ _ _ _ he2
    have HX := Lib.hid (show FrSays w S f (.returned (.tuple #[.agg #[.int .i64 0, .string ⟨#[]⟩], .iface t2 u2])) _ from by
      rw [hff]
      exact ⟨_, rfl, hee, hbf⟩)
    clear hb2 hb12 hff he2 hbf hee ferr k2 HD HW HF HK HB1 HB2 HK2
    go_wp2
    exact bodyPost_ret (v := .tuple #[.agg #[.int .i64 0, .string ⟨#[]⟩], .iface t2 u2]) (by simp [results, Tryz.results54, go_sem, f0, f1]) rfl HX.out
end
end Go.Proofs.YtinhecggmakbnaaGreatDoor
namespace Go.Proofs.YtinhecggmakbnaaGreatDoor
set_option maxRecDepth 100000
open Go.RowKit Go.Extern.Stop Go.Stop Go.Extern
/-- What Id tells: the error, the number, and where the reader is. -/
structure IR where
  e : Er
  id : Nat
  R2 : RV
def idR (s : ByteArray) (R : RV) : IR :=
  if (rNum s 2 R).2.no = 0 then if (rNum s 2 R).1 = 0 then ⟨⟨3, 130, R.p⟩, 0, (rNum s 2 R).2⟩ else ⟨e00, (rNum s 2 R).1, (rNum s 2 R).2⟩ else ⟨⟨(rNum s 2 R).2.no, 129, (rNum s 2 R).2.ea⟩, 0, (rNum s 2 R).2⟩
def IdSays (w : World) (S : Nat → Addr) (g : Nat) (s : ByteArray) (q : IR) (x : Ending) (w' : World) : Prop := ∃ e, x = .returned (.tuple #[.int .i64 q.id, e]) ∧ ErrOf w' S q.e.r q.e.no q.e.at_ e ∧ RNext w w' S g s q.R2
section
variable {z w w' : World} {S : Nat → Addr} {B g : Nat} {s : ByteArray} {R : RV}
set_option maxHeartbeats 8000000 in
theorem id_any (hE : Env z S) (hz : Below z.heap.size z w) (hg : z.heap.size ≤ g) (ho : RObj w S g s R) (hs : s.size ≤ 900000) : Calls Tryz.prog 139 #[.pointer (some ⟨g, 0, none⟩)] w (IdSays w S g s (idR s R)) := by
  obtain ⟨q, hq⟩ : ∃ q, q = idR s R := ⟨_, rfl⟩
  rw [← hq]
  unfold idR at hq
  have HAT := Lib.hid (rat_any ho)
  have hu := ru16_any (hE.later hz) ho (by omega)
  have HE := Lib.hid hE
  have HZ := Lib.hid hz
  have HG := Lib.hid hg
  obtain ⟨⟨n, R1⟩, hn⟩ : ∃ c, c = rNum s 2 R := ⟨_, rfl⟩
  rw [← hn] at hu hq
  simp only at hu hq
  have HU := Lib.hid hu
  have HQ := Lib.hid hq
  obtain ⟨p, hp⟩ : ∃ p, p = R.p := ⟨_, rfl⟩
  rw [← hp] at HAT HQ
  clear hE hz hg ho hu hn hq hp hs
  go_enter Tryz.func139, Tryz.ntmps139
  go_wp2_with fail
  refine HAT.out.mono ?_
  rintro x w1 ⟨rfl, rfl⟩
  go_wp2_with fail
  refine HU.out.mono ?_
  rintro x w2 ⟨rfl, hn2⟩
  have HN2 := Lib.hid hn2
  have HRE := Lib.hid (rerr_any hn2.obj)
  clear hn2 HU HAT
  go_wp2_with fail
  refine HRE.out.mono ?_
  rintro x w3 ⟨e3, rfl, he3, rfl⟩
  clear HRE
  by_cases h0 : R1.no = 0
  · have hq := HQ.out
    rw [if_pos h0] at hq
    unfold ErrOf at he3
    rw [if_pos h0] at he3
    subst he3
    by_cases h1 : n = 0
    · rw [if_pos h1] at hq
      subst h1
      have HQ2 := Lib.hid hq
      have kP := (HE.out.later (HN2.out.later HG.out HZ.out.size HZ.out)).kProtocol
      have HNW := Lib.hid (new_err (w := w2) S 2 130 (p : Int))
      clear hq HQ
      go_wp2_with fail
      refine HNW.out.mono ?_
      rintro x w4 ⟨e, rfl, he, hb4⟩
      have HX := Lib.hid (show IdSays w S g s q (.returned (.tuple #[.int .i64 0, e])) w4 from by
        rw [HQ2.out]
        exact ⟨e, rfl, ErrOf.some (no := 3) (by decide) (by decide) he, HN2.out.below hb4⟩)
      clear he hb4 HNW kP
      go_wp2_with fail
      go_ret2
      exact HX.out
    · rw [if_neg h1] at hq
      have hn0 : ¬ (n : Int) = 0 := by omega
      have HX := Lib.hid (show IdSays w S g s q (.returned (.tuple #[.int .i64 n, .nilIface])) w2 from by
        rw [hq]
        exact ⟨_, rfl, ErrOf.none, HN2.out⟩)
      clear hq HQ h1
      go_wp2_with fail
      go_ret2
      exact HX.out
  · have hq := HQ.out
    rw [if_neg h0] at hq
    obtain ⟨te, ue, rfl⟩ := err_iface he3 h0
    have HX := Lib.hid (show IdSays w S g s q (.returned (.tuple #[.int .i64 0, .iface te ue])) w2 from by
      rw [hq]
      exact ⟨_, rfl, he3, HN2.out⟩)
    clear hq HQ he3
    go_wp2_with fail
    go_ret2
    exact HX.out
end
def kA (first : Int) : Int := if first = 64 then 4 else if first = 80 then 5 else if first = 98 then 6 else if first = 112 then 7 else 0
def fA (kind : Int) : Int := if kind = 4 then 64 else if kind = 5 then 80 else if kind = 6 then 98 else if kind = 7 then 112 else 0
/-- What Decode tells of any bytes. -/
def dcA (first : Int) (s : ByteArray) : Er × Pk :=
  if kA first = 0 then (⟨2, 129, 0⟩, pk0)
  else if (idR s ⟨0, 0, 0⟩).e.no = 0 then
    if (tkR (kA first) s (idR s ⟨0, 0, 0⟩).R2).e.no = 0 then (e00, pkR (kA first) (idR s ⟨0, 0, 0⟩).id (tkR (kA first) s (idR s ⟨0, 0, 0⟩).R2).code (tkR (kA first) s (idR s ⟨0, 0, 0⟩).R2).L) else ((tkR (kA first) s (idR s ⟨0, 0, 0⟩).R2).e, pk0)
  else ((idR s ⟨0, 0, 0⟩).e, pk0)
theorem idR_no {s : ByteArray} {R : RV} (h : (idR s R).e.no = 0) : (idR s R).R2.no = 0 := by
  unfold idR at h ⊢
  split
  · rename_i h1
    split <;> exact h1
  · rename_i h1
    rw [if_neg h1] at h
    exact absurd h h1
section
variable {w w' : World} {S : Nat → Addr} {s : ByteArray}
/-- Decode's end with an error: nothing is told. -/
theorem DcSays.badA {q : Er × Pk} {z : Array Value} {e : Value} (hz : z = pk0.cells pa0) (hq : q.2 = pk0) (he : ErrOf w' S q.1.r q.1.no q.1.at_ e) (hb : Below w.heap.size w w') : DcSays w S q (.returned (.tuple #[.agg z, e])) w' :=
  ⟨pa0, e, by rw [hq, hz]; rfl, by rw [hq]; exact PkIn.zero _ _, he, hb⟩
theorem rd_neA {W : World} {g k : Nat} {R : RV} {c : Array Value} (ho : RObj W S g s R) (hb : Blk W k 29 c) (h : k = g) : False := by
  obtain ⟨e, h1, _⟩ := ho.blk
  exact hb.other h1 (by decide) h
set_option maxHeartbeats 8000000 in
theorem dec11_64 (hE : Env w S) (hs : s.size ≤ 900000) : Calls Tryz.prog 63 #[.agg #[.int .i64 64, .string s]] w (DcSays w S (dcA 64 s)) := by
  have HE := Lib.hid hE
  have HSZ := Lib.hid hs
  obtain ⟨z, hz⟩ : ∃ z, z = pk0.cells pa0 := ⟨_, rfl⟩
  have HZ := Lib.hid hz
  have hzs : z.size = 26 := by rw [hz]; rfl
  have HZS := Lib.hid hzs
  have HZ1 := Lib.hid (show z.all (·.oneCell') = true by rw [hz]; exact pk_one _ _)
  have hz0 : z[0]? = some (.int .i64 0) := by rw [hz]; rfl
  obtain ⟨q, hq⟩ : ∃ q, q = dcA 64 s := ⟨_, rfl⟩
  rw [← hq]
  unfold dcA at hq
  rw [show kA 64 = 4 from rfl, if_neg (by decide)] at hq
  have HQ := Lib.hid hq
  clear hE hz hs hq
  go_enter Tryz.func63, Tryz.ntmps63
  go_wp2_with (first | refine wpk_alloc HZ.out rfl rfl ?_ | refine wpk_build HZ.out rfl rfl ?_ | refine wpk_store_new HZS.out HZS.out HZ1.out _ _ rfl rfl rfl rfl ?_)
  obtain ⟨y, hy⟩ : ∃ y, y = z.setIfInBounds 0 (.int .i64 4) := ⟨_, rfl⟩
  rw [← hy]
  obtain ⟨W4, hW4⟩ : ∃ W, W = ((w.alloc (.cells #[.int .i64 64, .string s] 33)).alloc (.cells z 29)).alloc (.cells y 29) := ⟨_, rfl⟩
  rw [← hW4]
  have a1 : Below w.heap.size w (w.alloc (.cells #[.int .i64 64, .string s] 33)) := (Below.refl _ _).alloc (Nat.le_refl _) _
  have a2 := a1.trans (((Below.refl (w.alloc (.cells #[.int .i64 64, .string s] 33)).heap.size _).alloc (Nat.le_refl _) (.cells z 29)).mono a1.size)
  have hb4 : Below w.heap.size w W4 := by rw [hW4]; exact a2.trans (((Below.refl ((w.alloc (.cells #[.int .i64 64, .string s] 33)).alloc (.cells z 29)).heap.size _).alloc (Nat.le_refl _) (.cells y 29)).mono a2.size)
  have r1 : Blk W4 (w.heap.size + 1) 29 z := by
    have h := (Blk.made (w.alloc (.cells #[.int .i64 64, .string s] 33)) 29 z).alloc (.cells y 29)
    rw [World.size_alloc] at h
    rw [hW4]; exact h
  have r2 : Blk W4 (w.heap.size + 1 + 1) 29 y := by
    have h := Blk.made ((w.alloc (.cells #[.int .i64 64, .string s] 33)).alloc (.cells z 29)) 29 y
    rw [World.size_alloc, World.size_alloc] at h
    rw [hW4]; exact h
  have hb5 : Below W4.heap.size W4 (W4.alloc (.cells #[.string s, .int .i64 0, .nilIface] 180)) := (Below.refl _ _).alloc (Nat.le_refl _) _
  have y0 : y[0]? = some (.int .i64 4) := by rw [hy]; simp [hzs]
  have y1 : y[1]? = some (.int .i64 0) := by rw [hy, HZ.out]; rfl
  have hys : y.size = 26 := by rw [hy]; simpa using hzs
  have R1 := Lib.hid (r1.below hb5 r1.lt)
  have R2 := Lib.hid (r2.below hb5 r2.lt)
  have HB5 := Lib.hid (hb4.trans (hb5.mono hb4.size))
  have HSZ4 := Lib.hid hb4.size
  have HO := Lib.hid (RObj.made W4 S s)
  have HY := Lib.hid hy
  have HYS := Lib.hid hys
  have HY0 := Lib.hid y0
  have HY1 := Lib.hid y1
  clear hW4 a1 a2 hb4 r1 r2 hb5 hy hz0 y0 y1 hzs hys
  refine (rnew_any s W4).mono ?_
  rintro x w5 ⟨rfl, hw5⟩
  rw [← hw5] at R1 R2 HB5 HO
  have hg5 : w5.heap.size = W4.heap.size + 1 := by rw [hw5, World.size_alloc]
  have hl1 : w.heap.size + 1 + 1 < W4.heap.size := by
    have := R2.out.lt
    rcases Nat.lt_or_ge (w.heap.size + 1 + 1) W4.heap.size with h | h
    · exact h
    · exfalso; exact rd_neA HO.out R2.out (by omega)
  have hid := id_any HE.out HB5.out HSZ4.out HO.out HSZ.out
  have hin := idR_no (s := s) (R := ⟨0, 0, 0⟩)
  obtain ⟨⟨ie, im, iR⟩, hi⟩ : ∃ i, i = idR s ⟨0, 0, 0⟩ := ⟨_, rfl⟩
  rw [← hi] at hid hin
  have hq := HQ.out
  rw [← hi] at hq
  simp only at hq hin
  have HID := Lib.hid hid
  have HIN := Lib.hid hin
  have HQ1 := Lib.hid hq
  have HL1 := Lib.hid hl1
  clear hw5 hid hin hi hq HQ hl1
  go_wp2_with fail
  refine HID.out.mono ?_
  rintro x w6 ⟨e6, rfl, he6, hn6⟩
  simp only at he6 hn6
  have hnm : ∀ m, m < W4.heap.size → m ∉ [W4.heap.size] := fun m hm h => by rw [List.mem_singleton] at h; omega
  have r1 := R1.out.fr hn6.fr (hnm _ (by have := HL1.out; omega))
  have r2 := R2.out.fr hn6.fr (hnm _ HL1.out)
  have hb6 := hn6.later HSZ4.out HB5.out.size HB5.out
  have c1 : w6.cell? ⟨w.heap.size + 1 + 1, 1, none⟩ = some (.int .i64 0) := (r2.cell 1).trans HY1.out
  have z1 := r2.frozen 1
  have r2a := r2.store 1 (.int .i64 im)
  obtain ⟨ya, hya⟩ : ∃ y', y' = y.setIfInBounds 1 (.int .i64 im) := ⟨_, rfl⟩
  rw [← hya] at r2a
  have hf6 : Fr [w.heap.size + 1 + 1] w6 (w6.setCell ⟨w.heap.size + 1 + 1, 1, none⟩ (.int .i64 im)) := (Fr.refl [w.heap.size + 1 + 1] w6).setCell (p := ⟨w.heap.size + 1 + 1, 1, none⟩) (.inl (List.mem_singleton_self _)) (.int .i64 im)
  have r1a := r1.far (p := ⟨w.heap.size + 1 + 1, 1, none⟩) (by show w.heap.size + 1 ≠ w.heap.size + 1 + 1; omega) (.int .i64 im)
  have hoa := hn6.obj.fr hf6 (fun h => by rw [List.mem_singleton] at h; have := HL1.out; omega) (pkt_nof r2)
  have hba := hb6.setCell (p := ⟨w.heap.size + 1 + 1, 1, none⟩) (by show w.heap.size ≤ w.heap.size + 1 + 1; omega) (.int .i64 im)
  have hea := err_cell he6 r2 1 (.int .i64 im)
  obtain ⟨w6a, hw6a⟩ : ∃ W, W = w6.setCell ⟨w.heap.size + 1 + 1, 1, none⟩ (.int .i64 im) := ⟨_, rfl⟩
  rw [← hw6a] at r2a r1a hoa hba hea
  have RA1 := Lib.hid r1a
  have RA2 := Lib.hid r2a
  have HOA := Lib.hid hoa
  have HBA := Lib.hid hba
  have HEA := Lib.hid hea
  have HYA := Lib.hid hya
  have HYAS := Lib.hid (show ya.size = 26 by rw [hya]; simpa using HYS.out)
  have HW6 := Lib.hid hw6a
  clear hnm r1 r2 hb6 r2a hya hf6 r1a hoa hba hea hn6 hw6a HID R1 R2 HO HB5
  by_cases hi0 : ie.no = 0
  · unfold ErrOf at he6
    rw [if_pos hi0] at he6
    subst he6
    have hq := HQ1.out
    rw [if_pos hi0] at hq
    have htk := take_any HE.out HBA.out HSZ4.out HOA.out (HIN.out hi0) HSZ.out 4
    obtain ⟨⟨te, tc, M⟩, ht⟩ : ∃ t, t = tkR 4 s iR := ⟨_, rfl⟩
    rw [← ht] at htk hq
    simp only at hq
    have HTK := Lib.hid htk
    have HQ2 := Lib.hid hq
    have ka : (w6.setCell ⟨w.heap.size + 1 + 1, 1, none⟩ (.int .i64 im)).cell? ⟨w.heap.size + 1 + 1, 0, none⟩ = some (.int .i64 4) := by
      rw [← HW6.out, RA2.out.cell 0, HYA.out, HY.out, HZ.out]; rfl
    clear htk ht hq HQ1 hi0
    go_wp2_with fail
    rw [← HW6.out]
    refine HTK.out.mono ?_
    rintro x w7 ⟨v7, e7, rfl, hr7, he7, hf7⟩
    simp only at hr7 he7
    obtain ⟨a7, n7, c7, rfl, hn7, hcc7⟩ := hr7.some_form
    have hnm : ∀ m, m < W4.heap.size → m ∉ [W4.heap.size] := fun m hm h => by rw [List.mem_singleton] at h; omega
    have r1 := RA1.out.fr hf7 (hnm _ (by have := HL1.out; omega))
    have r2 := RA2.out.fr hf7 (hnm _ HL1.out)
    have hb7 := hf7.later HBA.out (fun b hb => by rw [List.mem_singleton] at hb; have := HSZ4.out; omega) HBA.out.size
    have hp7 := hr7.pin (B' := w.heap.size)
    have y2' : w7.cell? ⟨w.heap.size + 1 + 1, 2, none⟩ = some (.int .i64 0) := by rw [r2.cell 2, HYA.out, HY.out, HZ.out]; rfl
    have f2 := r2.frozen 2
    have r2a := r2.store 2 (.int .i64 tc)
    have y3 : (w7.setCell ⟨w.heap.size + 1 + 1, 2, none⟩ (.int .i64 tc)).cell? ⟨w.heap.size + 1 + 1, 3, none⟩ = some (.slice none 0 0) := by rw [r2a.cell 3, HYA.out, HY.out, HZ.out]; rfl
    have f3 := r2a.frozen 3
    have r2b := r2a.store 3 (.slice a7 n7 c7)
    obtain ⟨y', hy'⟩ : ∃ y', y' = (ya.setIfInBounds 2 (.int .i64 tc)).setIfInBounds 3 (.slice a7 n7 c7) := ⟨_, rfl⟩
    rw [← hy'] at r2b
    have r1b := (r1.far (p := ⟨w.heap.size + 1 + 1, 2, none⟩) (by show w.heap.size + 1 ≠ w.heap.size + 1 + 1; omega) (.int .i64 tc)).far (p := ⟨w.heap.size + 1 + 1, 3, none⟩) (by show w.heap.size + 1 ≠ w.heap.size + 1 + 1; omega) (.slice a7 n7 c7)
    have hp8 := PIn.cell (PIn.cell hp7 r2 (by omega) 2 (.int .i64 tc)) r2a (by omega) 3 (.slice a7 n7 c7)
    have he8 := err_cell (err_cell he7 r2 2 (.int .i64 tc)) r2a 3 (.slice a7 n7 c7)
    have hb8 := (hb7.setCell (p := ⟨w.heap.size + 1 + 1, 2, none⟩) (by show _ ≤ w.heap.size + 1 + 1; omega) (.int .i64 tc)).setCell (p := ⟨w.heap.size + 1 + 1, 3, none⟩) (by show _ ≤ w.heap.size + 1 + 1; omega) (.slice a7 n7 c7)
    have HR1 := Lib.hid r1b
    have HR2 := Lib.hid r2b
    have HP8 := Lib.hid hp8
    have HE8 := Lib.hid he8
    have HB8 := Lib.hid hb8
    have HN7 := Lib.hid hn7
    have HC7 := Lib.hid hcc7
    have HY' := Lib.hid hy'
    have HYS' := Lib.hid (show y'.size = 26 by rw [hy']; simpa using HYAS.out)
    have HYO := Lib.hid (show y'.all (·.oneCell') = true by rw [hy', HYA.out, HY.out]; exact one_set (one_set (one_set (one_set HZ1.out _ _ rfl) _ _ rfl) _ _ rfl) _ _ rfl)
    clear hf7 hr7 hnm r1 r2 hb7 hp7 r2a r2b r1b hp8 he8 hb8 hn7 hcc7 hy' HTK ka
    by_cases h0 : te.no = 0
    · have hq := HQ2.out
      rw [if_pos h0] at hq
      unfold ErrOf at he7
      rw [if_pos h0] at he7
      subst he7
      have hbf := below_row HB8.out (k := w.heap.size + 1) (by omega) y'
      have r3 := setRow_blk HR1.out y'
      have LD := Lib.hid (And.intro r3 HYS'.out)
      have HX := Lib.hid (show DcSays w S q (.returned (.tuple #[.agg y', .nilIface])) _ from by
        rw [hq]
        exact ⟨paR a7 c7, _, by rw [HY'.out, HYA.out, HY.out, HZ.out, HN7.out]; rfl, PkIn.ofR (PIn.row HP8.out HR1.out (by omega) y') (by have := HN7.out; have := HC7.out; omega), ErrOf.none, hbf⟩)
      clear hbf hq r3
      go_wp2_with (first | refine wpk_load HR2.out HYS'.out _ rfl rfl rfl ?_ | refine wpk_store HR1.out HZS.out HYS'.out HYO.out _ _ rfl rfl rfl rfl ?_)
      exact bodyPost_ret (v := .tuple #[.agg y', .nilIface]) (res_pkt (i := 2) (j := 3) rfl rfl rfl LD.out.1 LD.out.2) rfl HX.out
    · have hq := HQ2.out
      rw [if_neg h0] at hq
      obtain ⟨t7, u7, rfl⟩ := err_iface he7 h0
      have hbf := below_row HB8.out (k := w.heap.size + 1) (by omega) z
      have r3 := setRow_blk HR1.out z
      have LD := Lib.hid (And.intro r3 HZS.out)
      have HX := Lib.hid (show DcSays w S q (.returned (.tuple #[.agg z, .iface t7 u7])) _ from by
        rw [hq]
        exact DcSays.badA HZ.out rfl (err_row HE8.out HR1.out z) hbf)
      clear hbf hq r3 he7
      go_wp2_with (first | refine wpk_build HZ.out rfl rfl ?_ | refine wpk_store HR1.out HZS.out HZS.out HZ1.out _ _ rfl rfl rfl rfl ?_)
      exact bodyPost_ret (v := .tuple #[.agg z, .iface t7 u7]) (res_pkt (i := 2) (j := 3) rfl rfl rfl LD.out.1 LD.out.2) rfl HX.out
  · have hq := HQ1.out
    rw [if_neg hi0] at hq
    obtain ⟨t6, u6, rfl⟩ := err_iface he6 hi0
    have hbf := below_row HBA.out (k := w.heap.size + 1) (by omega) z
    have r3 := setRow_blk RA1.out z
    have LD := Lib.hid (And.intro r3 HZS.out)
    have HX := Lib.hid (show DcSays w S q (.returned (.tuple #[.agg z, .iface t6 u6])) (w6a.setRow (w.heap.size + 1) z) from by
      rw [hq]
      exact DcSays.badA HZ.out rfl (err_row HEA.out RA1.out z) hbf)
    have RX1 := Lib.hid (show Blk (w6.setCell ⟨w.heap.size + 1 + 1, 1, none⟩ (.int .i64 im)) (w.heap.size + 1) 29 z from by rw [← HW6.out]; exact RA1.out)
    rw [HW6.out] at LD HX
    clear hbf hq r3 he6 hi0
    go_wp2_with (first | refine wpk_build HZ.out rfl rfl ?_ | refine wpk_store RX1.out HZS.out HZS.out HZ1.out _ _ rfl rfl rfl rfl ?_)
    exact bodyPost_ret (v := .tuple #[.agg z, .iface t6 u6]) (res_pkt (i := 2) (j := 3) rfl rfl rfl LD.out.1 LD.out.2) rfl HX.out
set_option maxHeartbeats 8000000 in
theorem dec11_80 (hE : Env w S) (hs : s.size ≤ 900000) : Calls Tryz.prog 63 #[.agg #[.int .i64 80, .string s]] w (DcSays w S (dcA 80 s)) := by
  have HE := Lib.hid hE
  have HSZ := Lib.hid hs
  obtain ⟨z, hz⟩ : ∃ z, z = pk0.cells pa0 := ⟨_, rfl⟩
  have HZ := Lib.hid hz
  have hzs : z.size = 26 := by rw [hz]; rfl
  have HZS := Lib.hid hzs
  have HZ1 := Lib.hid (show z.all (·.oneCell') = true by rw [hz]; exact pk_one _ _)
  have hz0 : z[0]? = some (.int .i64 0) := by rw [hz]; rfl
  obtain ⟨q, hq⟩ : ∃ q, q = dcA 80 s := ⟨_, rfl⟩
  rw [← hq]
  unfold dcA at hq
  rw [show kA 80 = 5 from rfl, if_neg (by decide)] at hq
  have HQ := Lib.hid hq
  clear hE hz hs hq
  go_enter Tryz.func63, Tryz.ntmps63
  go_wp2_with (first | refine wpk_alloc HZ.out rfl rfl ?_ | refine wpk_build HZ.out rfl rfl ?_ | refine wpk_store_new HZS.out HZS.out HZ1.out _ _ rfl rfl rfl rfl ?_)
  obtain ⟨y, hy⟩ : ∃ y, y = z.setIfInBounds 0 (.int .i64 5) := ⟨_, rfl⟩
  rw [← hy]
  obtain ⟨W4, hW4⟩ : ∃ W, W = ((w.alloc (.cells #[.int .i64 80, .string s] 33)).alloc (.cells z 29)).alloc (.cells y 29) := ⟨_, rfl⟩
  rw [← hW4]
  have a1 : Below w.heap.size w (w.alloc (.cells #[.int .i64 80, .string s] 33)) := (Below.refl _ _).alloc (Nat.le_refl _) _
  have a2 := a1.trans (((Below.refl (w.alloc (.cells #[.int .i64 80, .string s] 33)).heap.size _).alloc (Nat.le_refl _) (.cells z 29)).mono a1.size)
  have hb4 : Below w.heap.size w W4 := by rw [hW4]; exact a2.trans (((Below.refl ((w.alloc (.cells #[.int .i64 80, .string s] 33)).alloc (.cells z 29)).heap.size _).alloc (Nat.le_refl _) (.cells y 29)).mono a2.size)
  have r1 : Blk W4 (w.heap.size + 1) 29 z := by
    have h := (Blk.made (w.alloc (.cells #[.int .i64 80, .string s] 33)) 29 z).alloc (.cells y 29)
    rw [World.size_alloc] at h
    rw [hW4]; exact h
  have r2 : Blk W4 (w.heap.size + 1 + 1) 29 y := by
    have h := Blk.made ((w.alloc (.cells #[.int .i64 80, .string s] 33)).alloc (.cells z 29)) 29 y
    rw [World.size_alloc, World.size_alloc] at h
    rw [hW4]; exact h
  have hb5 : Below W4.heap.size W4 (W4.alloc (.cells #[.string s, .int .i64 0, .nilIface] 180)) := (Below.refl _ _).alloc (Nat.le_refl _) _
  have y0 : y[0]? = some (.int .i64 5) := by rw [hy]; simp [hzs]
  have y1 : y[1]? = some (.int .i64 0) := by rw [hy, HZ.out]; rfl
  have hys : y.size = 26 := by rw [hy]; simpa using hzs
  have R1 := Lib.hid (r1.below hb5 r1.lt)
  have R2 := Lib.hid (r2.below hb5 r2.lt)
  have HB5 := Lib.hid (hb4.trans (hb5.mono hb4.size))
  have HSZ4 := Lib.hid hb4.size
  have HO := Lib.hid (RObj.made W4 S s)
  have HY := Lib.hid hy
  have HYS := Lib.hid hys
  have HY0 := Lib.hid y0
  have HY1 := Lib.hid y1
  clear hW4 a1 a2 hb4 r1 r2 hb5 hy hz0 y0 y1 hzs hys
  refine (rnew_any s W4).mono ?_
  rintro x w5 ⟨rfl, hw5⟩
  rw [← hw5] at R1 R2 HB5 HO
  have hg5 : w5.heap.size = W4.heap.size + 1 := by rw [hw5, World.size_alloc]
  have hl1 : w.heap.size + 1 + 1 < W4.heap.size := by
    have := R2.out.lt
    rcases Nat.lt_or_ge (w.heap.size + 1 + 1) W4.heap.size with h | h
    · exact h
    · exfalso; exact rd_neA HO.out R2.out (by omega)
  have hid := id_any HE.out HB5.out HSZ4.out HO.out HSZ.out
  have hin := idR_no (s := s) (R := ⟨0, 0, 0⟩)
  obtain ⟨⟨ie, im, iR⟩, hi⟩ : ∃ i, i = idR s ⟨0, 0, 0⟩ := ⟨_, rfl⟩
  rw [← hi] at hid hin
  have hq := HQ.out
  rw [← hi] at hq
  simp only at hq hin
  have HID := Lib.hid hid
  have HIN := Lib.hid hin
  have HQ1 := Lib.hid hq
  have HL1 := Lib.hid hl1
  clear hw5 hid hin hi hq HQ hl1
  go_wp2_with fail
  refine HID.out.mono ?_
  rintro x w6 ⟨e6, rfl, he6, hn6⟩
  simp only at he6 hn6
  have hnm : ∀ m, m < W4.heap.size → m ∉ [W4.heap.size] := fun m hm h => by rw [List.mem_singleton] at h; omega
  have r1 := R1.out.fr hn6.fr (hnm _ (by have := HL1.out; omega))
  have r2 := R2.out.fr hn6.fr (hnm _ HL1.out)
  have hb6 := hn6.later HSZ4.out HB5.out.size HB5.out
  have c1 : w6.cell? ⟨w.heap.size + 1 + 1, 1, none⟩ = some (.int .i64 0) := (r2.cell 1).trans HY1.out
  have z1 := r2.frozen 1
  have r2a := r2.store 1 (.int .i64 im)
  obtain ⟨ya, hya⟩ : ∃ y', y' = y.setIfInBounds 1 (.int .i64 im) := ⟨_, rfl⟩
  rw [← hya] at r2a
  have hf6 : Fr [w.heap.size + 1 + 1] w6 (w6.setCell ⟨w.heap.size + 1 + 1, 1, none⟩ (.int .i64 im)) := (Fr.refl [w.heap.size + 1 + 1] w6).setCell (p := ⟨w.heap.size + 1 + 1, 1, none⟩) (.inl (List.mem_singleton_self _)) (.int .i64 im)
  have r1a := r1.far (p := ⟨w.heap.size + 1 + 1, 1, none⟩) (by show w.heap.size + 1 ≠ w.heap.size + 1 + 1; omega) (.int .i64 im)
  have hoa := hn6.obj.fr hf6 (fun h => by rw [List.mem_singleton] at h; have := HL1.out; omega) (pkt_nof r2)
  have hba := hb6.setCell (p := ⟨w.heap.size + 1 + 1, 1, none⟩) (by show w.heap.size ≤ w.heap.size + 1 + 1; omega) (.int .i64 im)
  have hea := err_cell he6 r2 1 (.int .i64 im)
  obtain ⟨w6a, hw6a⟩ : ∃ W, W = w6.setCell ⟨w.heap.size + 1 + 1, 1, none⟩ (.int .i64 im) := ⟨_, rfl⟩
  rw [← hw6a] at r2a r1a hoa hba hea
  have RA1 := Lib.hid r1a
  have RA2 := Lib.hid r2a
  have HOA := Lib.hid hoa
  have HBA := Lib.hid hba
  have HEA := Lib.hid hea
  have HYA := Lib.hid hya
  have HYAS := Lib.hid (show ya.size = 26 by rw [hya]; simpa using HYS.out)
  have HW6 := Lib.hid hw6a
  clear hnm r1 r2 hb6 r2a hya hf6 r1a hoa hba hea hn6 hw6a HID R1 R2 HO HB5
  by_cases hi0 : ie.no = 0
  · unfold ErrOf at he6
    rw [if_pos hi0] at he6
    subst he6
    have hq := HQ1.out
    rw [if_pos hi0] at hq
    have htk := take_any HE.out HBA.out HSZ4.out HOA.out (HIN.out hi0) HSZ.out 5
    obtain ⟨⟨te, tc, M⟩, ht⟩ : ∃ t, t = tkR 5 s iR := ⟨_, rfl⟩
    rw [← ht] at htk hq
    simp only at hq
    have HTK := Lib.hid htk
    have HQ2 := Lib.hid hq
    have ka : (w6.setCell ⟨w.heap.size + 1 + 1, 1, none⟩ (.int .i64 im)).cell? ⟨w.heap.size + 1 + 1, 0, none⟩ = some (.int .i64 5) := by
      rw [← HW6.out, RA2.out.cell 0, HYA.out, HY.out, HZ.out]; rfl
    clear htk ht hq HQ1 hi0
    go_wp2_with fail
    rw [← HW6.out]
    refine HTK.out.mono ?_
    rintro x w7 ⟨v7, e7, rfl, hr7, he7, hf7⟩
    simp only at hr7 he7
    obtain ⟨a7, n7, c7, rfl, hn7, hcc7⟩ := hr7.some_form
    have hnm : ∀ m, m < W4.heap.size → m ∉ [W4.heap.size] := fun m hm h => by rw [List.mem_singleton] at h; omega
    have r1 := RA1.out.fr hf7 (hnm _ (by have := HL1.out; omega))
    have r2 := RA2.out.fr hf7 (hnm _ HL1.out)
    have hb7 := hf7.later HBA.out (fun b hb => by rw [List.mem_singleton] at hb; have := HSZ4.out; omega) HBA.out.size
    have hp7 := hr7.pin (B' := w.heap.size)
    have y2' : w7.cell? ⟨w.heap.size + 1 + 1, 2, none⟩ = some (.int .i64 0) := by rw [r2.cell 2, HYA.out, HY.out, HZ.out]; rfl
    have f2 := r2.frozen 2
    have r2a := r2.store 2 (.int .i64 tc)
    have y3 : (w7.setCell ⟨w.heap.size + 1 + 1, 2, none⟩ (.int .i64 tc)).cell? ⟨w.heap.size + 1 + 1, 3, none⟩ = some (.slice none 0 0) := by rw [r2a.cell 3, HYA.out, HY.out, HZ.out]; rfl
    have f3 := r2a.frozen 3
    have r2b := r2a.store 3 (.slice a7 n7 c7)
    obtain ⟨y', hy'⟩ : ∃ y', y' = (ya.setIfInBounds 2 (.int .i64 tc)).setIfInBounds 3 (.slice a7 n7 c7) := ⟨_, rfl⟩
    rw [← hy'] at r2b
    have r1b := (r1.far (p := ⟨w.heap.size + 1 + 1, 2, none⟩) (by show w.heap.size + 1 ≠ w.heap.size + 1 + 1; omega) (.int .i64 tc)).far (p := ⟨w.heap.size + 1 + 1, 3, none⟩) (by show w.heap.size + 1 ≠ w.heap.size + 1 + 1; omega) (.slice a7 n7 c7)
    have hp8 := PIn.cell (PIn.cell hp7 r2 (by omega) 2 (.int .i64 tc)) r2a (by omega) 3 (.slice a7 n7 c7)
    have he8 := err_cell (err_cell he7 r2 2 (.int .i64 tc)) r2a 3 (.slice a7 n7 c7)
    have hb8 := (hb7.setCell (p := ⟨w.heap.size + 1 + 1, 2, none⟩) (by show _ ≤ w.heap.size + 1 + 1; omega) (.int .i64 tc)).setCell (p := ⟨w.heap.size + 1 + 1, 3, none⟩) (by show _ ≤ w.heap.size + 1 + 1; omega) (.slice a7 n7 c7)
    have HR1 := Lib.hid r1b
    have HR2 := Lib.hid r2b
    have HP8 := Lib.hid hp8
    have HE8 := Lib.hid he8
    have HB8 := Lib.hid hb8
    have HN7 := Lib.hid hn7
    have HC7 := Lib.hid hcc7
    have HY' := Lib.hid hy'
    have HYS' := Lib.hid (show y'.size = 26 by rw [hy']; simpa using HYAS.out)
    have HYO := Lib.hid (show y'.all (·.oneCell') = true by rw [hy', HYA.out, HY.out]; exact one_set (one_set (one_set (one_set HZ1.out _ _ rfl) _ _ rfl) _ _ rfl) _ _ rfl)
    clear hf7 hr7 hnm r1 r2 hb7 hp7 r2a r2b r1b hp8 he8 hb8 hn7 hcc7 hy' HTK ka
    by_cases h0 : te.no = 0
    · have hq := HQ2.out
      rw [if_pos h0] at hq
      unfold ErrOf at he7
      rw [if_pos h0] at he7
      subst he7
      have hbf := below_row HB8.out (k := w.heap.size + 1) (by omega) y'
      have r3 := setRow_blk HR1.out y'
      have LD := Lib.hid (And.intro r3 HYS'.out)
      have HX := Lib.hid (show DcSays w S q (.returned (.tuple #[.agg y', .nilIface])) _ from by
        rw [hq]
        exact ⟨paR a7 c7, _, by rw [HY'.out, HYA.out, HY.out, HZ.out, HN7.out]; rfl, PkIn.ofR (PIn.row HP8.out HR1.out (by omega) y') (by have := HN7.out; have := HC7.out; omega), ErrOf.none, hbf⟩)
      clear hbf hq r3
      go_wp2_with (first | refine wpk_load HR2.out HYS'.out _ rfl rfl rfl ?_ | refine wpk_store HR1.out HZS.out HYS'.out HYO.out _ _ rfl rfl rfl rfl ?_)
      exact bodyPost_ret (v := .tuple #[.agg y', .nilIface]) (res_pkt (i := 2) (j := 3) rfl rfl rfl LD.out.1 LD.out.2) rfl HX.out
    · have hq := HQ2.out
      rw [if_neg h0] at hq
      obtain ⟨t7, u7, rfl⟩ := err_iface he7 h0
      have hbf := below_row HB8.out (k := w.heap.size + 1) (by omega) z
      have r3 := setRow_blk HR1.out z
      have LD := Lib.hid (And.intro r3 HZS.out)
      have HX := Lib.hid (show DcSays w S q (.returned (.tuple #[.agg z, .iface t7 u7])) _ from by
        rw [hq]
        exact DcSays.badA HZ.out rfl (err_row HE8.out HR1.out z) hbf)
      clear hbf hq r3 he7
      go_wp2_with (first | refine wpk_build HZ.out rfl rfl ?_ | refine wpk_store HR1.out HZS.out HZS.out HZ1.out _ _ rfl rfl rfl rfl ?_)
      exact bodyPost_ret (v := .tuple #[.agg z, .iface t7 u7]) (res_pkt (i := 2) (j := 3) rfl rfl rfl LD.out.1 LD.out.2) rfl HX.out
  · have hq := HQ1.out
    rw [if_neg hi0] at hq
    obtain ⟨t6, u6, rfl⟩ := err_iface he6 hi0
    have hbf := below_row HBA.out (k := w.heap.size + 1) (by omega) z
    have r3 := setRow_blk RA1.out z
    have LD := Lib.hid (And.intro r3 HZS.out)
    have HX := Lib.hid (show DcSays w S q (.returned (.tuple #[.agg z, .iface t6 u6])) (w6a.setRow (w.heap.size + 1) z) from by
      rw [hq]
      exact DcSays.badA HZ.out rfl (err_row HEA.out RA1.out z) hbf)
    have RX1 := Lib.hid (show Blk (w6.setCell ⟨w.heap.size + 1 + 1, 1, none⟩ (.int .i64 im)) (w.heap.size + 1) 29 z from by rw [← HW6.out]; exact RA1.out)
    rw [HW6.out] at LD HX
    clear hbf hq r3 he6 hi0
    go_wp2_with (first | refine wpk_build HZ.out rfl rfl ?_ | refine wpk_store RX1.out HZS.out HZS.out HZ1.out _ _ rfl rfl rfl rfl ?_)
    exact bodyPost_ret (v := .tuple #[.agg z, .iface t6 u6]) (res_pkt (i := 2) (j := 3) rfl rfl rfl LD.out.1 LD.out.2) rfl HX.out
set_option maxHeartbeats 8000000 in
theorem dec11_98 (hE : Env w S) (hs : s.size ≤ 900000) : Calls Tryz.prog 63 #[.agg #[.int .i64 98, .string s]] w (DcSays w S (dcA 98 s)) := by
  have HE := Lib.hid hE
  have HSZ := Lib.hid hs
  obtain ⟨z, hz⟩ : ∃ z, z = pk0.cells pa0 := ⟨_, rfl⟩
  have HZ := Lib.hid hz
  have hzs : z.size = 26 := by rw [hz]; rfl
  have HZS := Lib.hid hzs
  have HZ1 := Lib.hid (show z.all (·.oneCell') = true by rw [hz]; exact pk_one _ _)
  have hz0 : z[0]? = some (.int .i64 0) := by rw [hz]; rfl
  obtain ⟨q, hq⟩ : ∃ q, q = dcA 98 s := ⟨_, rfl⟩
  rw [← hq]
  unfold dcA at hq
  rw [show kA 98 = 6 from rfl, if_neg (by decide)] at hq
  have HQ := Lib.hid hq
  clear hE hz hs hq
  go_enter Tryz.func63, Tryz.ntmps63
  go_wp2_with (first | refine wpk_alloc HZ.out rfl rfl ?_ | refine wpk_build HZ.out rfl rfl ?_ | refine wpk_store_new HZS.out HZS.out HZ1.out _ _ rfl rfl rfl rfl ?_)
  obtain ⟨y, hy⟩ : ∃ y, y = z.setIfInBounds 0 (.int .i64 6) := ⟨_, rfl⟩
  rw [← hy]
  obtain ⟨W4, hW4⟩ : ∃ W, W = ((w.alloc (.cells #[.int .i64 98, .string s] 33)).alloc (.cells z 29)).alloc (.cells y 29) := ⟨_, rfl⟩
  rw [← hW4]
  have a1 : Below w.heap.size w (w.alloc (.cells #[.int .i64 98, .string s] 33)) := (Below.refl _ _).alloc (Nat.le_refl _) _
  have a2 := a1.trans (((Below.refl (w.alloc (.cells #[.int .i64 98, .string s] 33)).heap.size _).alloc (Nat.le_refl _) (.cells z 29)).mono a1.size)
  have hb4 : Below w.heap.size w W4 := by rw [hW4]; exact a2.trans (((Below.refl ((w.alloc (.cells #[.int .i64 98, .string s] 33)).alloc (.cells z 29)).heap.size _).alloc (Nat.le_refl _) (.cells y 29)).mono a2.size)
  have r1 : Blk W4 (w.heap.size + 1) 29 z := by
    have h := (Blk.made (w.alloc (.cells #[.int .i64 98, .string s] 33)) 29 z).alloc (.cells y 29)
    rw [World.size_alloc] at h
    rw [hW4]; exact h
  have r2 : Blk W4 (w.heap.size + 1 + 1) 29 y := by
    have h := Blk.made ((w.alloc (.cells #[.int .i64 98, .string s] 33)).alloc (.cells z 29)) 29 y
    rw [World.size_alloc, World.size_alloc] at h
    rw [hW4]; exact h
  have hb5 : Below W4.heap.size W4 (W4.alloc (.cells #[.string s, .int .i64 0, .nilIface] 180)) := (Below.refl _ _).alloc (Nat.le_refl _) _
  have y0 : y[0]? = some (.int .i64 6) := by rw [hy]; simp [hzs]
  have y1 : y[1]? = some (.int .i64 0) := by rw [hy, HZ.out]; rfl
  have hys : y.size = 26 := by rw [hy]; simpa using hzs
  have R1 := Lib.hid (r1.below hb5 r1.lt)
  have R2 := Lib.hid (r2.below hb5 r2.lt)
  have HB5 := Lib.hid (hb4.trans (hb5.mono hb4.size))
  have HSZ4 := Lib.hid hb4.size
  have HO := Lib.hid (RObj.made W4 S s)
  have HY := Lib.hid hy
  have HYS := Lib.hid hys
  have HY0 := Lib.hid y0
  have HY1 := Lib.hid y1
  clear hW4 a1 a2 hb4 r1 r2 hb5 hy hz0 y0 y1 hzs hys
  refine (rnew_any s W4).mono ?_
  rintro x w5 ⟨rfl, hw5⟩
  rw [← hw5] at R1 R2 HB5 HO
  have hg5 : w5.heap.size = W4.heap.size + 1 := by rw [hw5, World.size_alloc]
  have hl1 : w.heap.size + 1 + 1 < W4.heap.size := by
    have := R2.out.lt
    rcases Nat.lt_or_ge (w.heap.size + 1 + 1) W4.heap.size with h | h
    · exact h
    · exfalso; exact rd_neA HO.out R2.out (by omega)
  have hid := id_any HE.out HB5.out HSZ4.out HO.out HSZ.out
  have hin := idR_no (s := s) (R := ⟨0, 0, 0⟩)
  obtain ⟨⟨ie, im, iR⟩, hi⟩ : ∃ i, i = idR s ⟨0, 0, 0⟩ := ⟨_, rfl⟩
  rw [← hi] at hid hin
  have hq := HQ.out
  rw [← hi] at hq
  simp only at hq hin
  have HID := Lib.hid hid
  have HIN := Lib.hid hin
  have HQ1 := Lib.hid hq
  have HL1 := Lib.hid hl1
  clear hw5 hid hin hi hq HQ hl1
  go_wp2_with fail
  refine HID.out.mono ?_
  rintro x w6 ⟨e6, rfl, he6, hn6⟩
  simp only at he6 hn6
  have hnm : ∀ m, m < W4.heap.size → m ∉ [W4.heap.size] := fun m hm h => by rw [List.mem_singleton] at h; omega
  have r1 := R1.out.fr hn6.fr (hnm _ (by have := HL1.out; omega))
  have r2 := R2.out.fr hn6.fr (hnm _ HL1.out)
  have hb6 := hn6.later HSZ4.out HB5.out.size HB5.out
  have c1 : w6.cell? ⟨w.heap.size + 1 + 1, 1, none⟩ = some (.int .i64 0) := (r2.cell 1).trans HY1.out
  have z1 := r2.frozen 1
  have r2a := r2.store 1 (.int .i64 im)
  obtain ⟨ya, hya⟩ : ∃ y', y' = y.setIfInBounds 1 (.int .i64 im) := ⟨_, rfl⟩
  rw [← hya] at r2a
  have hf6 : Fr [w.heap.size + 1 + 1] w6 (w6.setCell ⟨w.heap.size + 1 + 1, 1, none⟩ (.int .i64 im)) := (Fr.refl [w.heap.size + 1 + 1] w6).setCell (p := ⟨w.heap.size + 1 + 1, 1, none⟩) (.inl (List.mem_singleton_self _)) (.int .i64 im)
  have r1a := r1.far (p := ⟨w.heap.size + 1 + 1, 1, none⟩) (by show w.heap.size + 1 ≠ w.heap.size + 1 + 1; omega) (.int .i64 im)
  have hoa := hn6.obj.fr hf6 (fun h => by rw [List.mem_singleton] at h; have := HL1.out; omega) (pkt_nof r2)
  have hba := hb6.setCell (p := ⟨w.heap.size + 1 + 1, 1, none⟩) (by show w.heap.size ≤ w.heap.size + 1 + 1; omega) (.int .i64 im)
  have hea := err_cell he6 r2 1 (.int .i64 im)
  obtain ⟨w6a, hw6a⟩ : ∃ W, W = w6.setCell ⟨w.heap.size + 1 + 1, 1, none⟩ (.int .i64 im) := ⟨_, rfl⟩
  rw [← hw6a] at r2a r1a hoa hba hea
  have RA1 := Lib.hid r1a
  have RA2 := Lib.hid r2a
  have HOA := Lib.hid hoa
  have HBA := Lib.hid hba
  have HEA := Lib.hid hea
  have HYA := Lib.hid hya
  have HYAS := Lib.hid (show ya.size = 26 by rw [hya]; simpa using HYS.out)
  have HW6 := Lib.hid hw6a
  clear hnm r1 r2 hb6 r2a hya hf6 r1a hoa hba hea hn6 hw6a HID R1 R2 HO HB5
  by_cases hi0 : ie.no = 0
  · unfold ErrOf at he6
    rw [if_pos hi0] at he6
    subst he6
    have hq := HQ1.out
    rw [if_pos hi0] at hq
    have htk := take_any HE.out HBA.out HSZ4.out HOA.out (HIN.out hi0) HSZ.out 6
    obtain ⟨⟨te, tc, M⟩, ht⟩ : ∃ t, t = tkR 6 s iR := ⟨_, rfl⟩
    rw [← ht] at htk hq
    simp only at hq
    have HTK := Lib.hid htk
    have HQ2 := Lib.hid hq
    have ka : (w6.setCell ⟨w.heap.size + 1 + 1, 1, none⟩ (.int .i64 im)).cell? ⟨w.heap.size + 1 + 1, 0, none⟩ = some (.int .i64 6) := by
      rw [← HW6.out, RA2.out.cell 0, HYA.out, HY.out, HZ.out]; rfl
    clear htk ht hq HQ1 hi0
    go_wp2_with fail
    rw [← HW6.out]
    refine HTK.out.mono ?_
    rintro x w7 ⟨v7, e7, rfl, hr7, he7, hf7⟩
    simp only at hr7 he7
    obtain ⟨a7, n7, c7, rfl, hn7, hcc7⟩ := hr7.some_form
    have hnm : ∀ m, m < W4.heap.size → m ∉ [W4.heap.size] := fun m hm h => by rw [List.mem_singleton] at h; omega
    have r1 := RA1.out.fr hf7 (hnm _ (by have := HL1.out; omega))
    have r2 := RA2.out.fr hf7 (hnm _ HL1.out)
    have hb7 := hf7.later HBA.out (fun b hb => by rw [List.mem_singleton] at hb; have := HSZ4.out; omega) HBA.out.size
    have hp7 := hr7.pin (B' := w.heap.size)
    have y2' : w7.cell? ⟨w.heap.size + 1 + 1, 2, none⟩ = some (.int .i64 0) := by rw [r2.cell 2, HYA.out, HY.out, HZ.out]; rfl
    have f2 := r2.frozen 2
    have r2a := r2.store 2 (.int .i64 tc)
    have y3 : (w7.setCell ⟨w.heap.size + 1 + 1, 2, none⟩ (.int .i64 tc)).cell? ⟨w.heap.size + 1 + 1, 3, none⟩ = some (.slice none 0 0) := by rw [r2a.cell 3, HYA.out, HY.out, HZ.out]; rfl
    have f3 := r2a.frozen 3
    have r2b := r2a.store 3 (.slice a7 n7 c7)
    obtain ⟨y', hy'⟩ : ∃ y', y' = (ya.setIfInBounds 2 (.int .i64 tc)).setIfInBounds 3 (.slice a7 n7 c7) := ⟨_, rfl⟩
    rw [← hy'] at r2b
    have r1b := (r1.far (p := ⟨w.heap.size + 1 + 1, 2, none⟩) (by show w.heap.size + 1 ≠ w.heap.size + 1 + 1; omega) (.int .i64 tc)).far (p := ⟨w.heap.size + 1 + 1, 3, none⟩) (by show w.heap.size + 1 ≠ w.heap.size + 1 + 1; omega) (.slice a7 n7 c7)
    have hp8 := PIn.cell (PIn.cell hp7 r2 (by omega) 2 (.int .i64 tc)) r2a (by omega) 3 (.slice a7 n7 c7)
    have he8 := err_cell (err_cell he7 r2 2 (.int .i64 tc)) r2a 3 (.slice a7 n7 c7)
    have hb8 := (hb7.setCell (p := ⟨w.heap.size + 1 + 1, 2, none⟩) (by show _ ≤ w.heap.size + 1 + 1; omega) (.int .i64 tc)).setCell (p := ⟨w.heap.size + 1 + 1, 3, none⟩) (by show _ ≤ w.heap.size + 1 + 1; omega) (.slice a7 n7 c7)
    have HR1 := Lib.hid r1b
    have HR2 := Lib.hid r2b
    have HP8 := Lib.hid hp8
    have HE8 := Lib.hid he8
    have HB8 := Lib.hid hb8
    have HN7 := Lib.hid hn7
    have HC7 := Lib.hid hcc7
    have HY' := Lib.hid hy'
    have HYS' := Lib.hid (show y'.size = 26 by rw [hy']; simpa using HYAS.out)
    have HYO := Lib.hid (show y'.all (·.oneCell') = true by rw [hy', HYA.out, HY.out]; exact one_set (one_set (one_set (one_set HZ1.out _ _ rfl) _ _ rfl) _ _ rfl) _ _ rfl)
    clear hf7 hr7 hnm r1 r2 hb7 hp7 r2a r2b r1b hp8 he8 hb8 hn7 hcc7 hy' HTK ka
    by_cases h0 : te.no = 0
    · have hq := HQ2.out
      rw [if_pos h0] at hq
      unfold ErrOf at he7
      rw [if_pos h0] at he7
      subst he7
      have hbf := below_row HB8.out (k := w.heap.size + 1) (by omega) y'
      have r3 := setRow_blk HR1.out y'
      have LD := Lib.hid (And.intro r3 HYS'.out)
      have HX := Lib.hid (show DcSays w S q (.returned (.tuple #[.agg y', .nilIface])) _ from by
        rw [hq]
        exact ⟨paR a7 c7, _, by rw [HY'.out, HYA.out, HY.out, HZ.out, HN7.out]; rfl, PkIn.ofR (PIn.row HP8.out HR1.out (by omega) y') (by have := HN7.out; have := HC7.out; omega), ErrOf.none, hbf⟩)
      clear hbf hq r3
      go_wp2_with (first | refine wpk_load HR2.out HYS'.out _ rfl rfl rfl ?_ | refine wpk_store HR1.out HZS.out HYS'.out HYO.out _ _ rfl rfl rfl rfl ?_)
      exact bodyPost_ret (v := .tuple #[.agg y', .nilIface]) (res_pkt (i := 2) (j := 3) rfl rfl rfl LD.out.1 LD.out.2) rfl HX.out
    · have hq := HQ2.out
      rw [if_neg h0] at hq
      obtain ⟨t7, u7, rfl⟩ := err_iface he7 h0
      have hbf := below_row HB8.out (k := w.heap.size + 1) (by omega) z
      have r3 := setRow_blk HR1.out z
      have LD := Lib.hid (And.intro r3 HZS.out)
      have HX := Lib.hid (show DcSays w S q (.returned (.tuple #[.agg z, .iface t7 u7])) _ from by
        rw [hq]
        exact DcSays.badA HZ.out rfl (err_row HE8.out HR1.out z) hbf)
      clear hbf hq r3 he7
      go_wp2_with (first | refine wpk_build HZ.out rfl rfl ?_ | refine wpk_store HR1.out HZS.out HZS.out HZ1.out _ _ rfl rfl rfl rfl ?_)
      exact bodyPost_ret (v := .tuple #[.agg z, .iface t7 u7]) (res_pkt (i := 2) (j := 3) rfl rfl rfl LD.out.1 LD.out.2) rfl HX.out
  · have hq := HQ1.out
    rw [if_neg hi0] at hq
    obtain ⟨t6, u6, rfl⟩ := err_iface he6 hi0
    have hbf := below_row HBA.out (k := w.heap.size + 1) (by omega) z
    have r3 := setRow_blk RA1.out z
    have LD := Lib.hid (And.intro r3 HZS.out)
    have HX := Lib.hid (show DcSays w S q (.returned (.tuple #[.agg z, .iface t6 u6])) (w6a.setRow (w.heap.size + 1) z) from by
      rw [hq]
      exact DcSays.badA HZ.out rfl (err_row HEA.out RA1.out z) hbf)
    have RX1 := Lib.hid (show Blk (w6.setCell ⟨w.heap.size + 1 + 1, 1, none⟩ (.int .i64 im)) (w.heap.size + 1) 29 z from by rw [← HW6.out]; exact RA1.out)
    rw [HW6.out] at LD HX
    clear hbf hq r3 he6 hi0
    go_wp2_with (first | refine wpk_build HZ.out rfl rfl ?_ | refine wpk_store RX1.out HZS.out HZS.out HZ1.out _ _ rfl rfl rfl rfl ?_)
    exact bodyPost_ret (v := .tuple #[.agg z, .iface t6 u6]) (res_pkt (i := 2) (j := 3) rfl rfl rfl LD.out.1 LD.out.2) rfl HX.out
set_option maxHeartbeats 8000000 in
theorem dec11_112 (hE : Env w S) (hs : s.size ≤ 900000) : Calls Tryz.prog 63 #[.agg #[.int .i64 112, .string s]] w (DcSays w S (dcA 112 s)) := by
  have HE := Lib.hid hE
  have HSZ := Lib.hid hs
  obtain ⟨z, hz⟩ : ∃ z, z = pk0.cells pa0 := ⟨_, rfl⟩
  have HZ := Lib.hid hz
  have hzs : z.size = 26 := by rw [hz]; rfl
  have HZS := Lib.hid hzs
  have HZ1 := Lib.hid (show z.all (·.oneCell') = true by rw [hz]; exact pk_one _ _)
  have hz0 : z[0]? = some (.int .i64 0) := by rw [hz]; rfl
  obtain ⟨q, hq⟩ : ∃ q, q = dcA 112 s := ⟨_, rfl⟩
  rw [← hq]
  unfold dcA at hq
  rw [show kA 112 = 7 from rfl, if_neg (by decide)] at hq
  have HQ := Lib.hid hq
  clear hE hz hs hq
  go_enter Tryz.func63, Tryz.ntmps63
  go_wp2_with (first | refine wpk_alloc HZ.out rfl rfl ?_ | refine wpk_build HZ.out rfl rfl ?_ | refine wpk_store_new HZS.out HZS.out HZ1.out _ _ rfl rfl rfl rfl ?_)
  obtain ⟨y, hy⟩ : ∃ y, y = z.setIfInBounds 0 (.int .i64 7) := ⟨_, rfl⟩
  rw [← hy]
  obtain ⟨W4, hW4⟩ : ∃ W, W = ((w.alloc (.cells #[.int .i64 112, .string s] 33)).alloc (.cells z 29)).alloc (.cells y 29) := ⟨_, rfl⟩
  rw [← hW4]
  have a1 : Below w.heap.size w (w.alloc (.cells #[.int .i64 112, .string s] 33)) := (Below.refl _ _).alloc (Nat.le_refl _) _
  have a2 := a1.trans (((Below.refl (w.alloc (.cells #[.int .i64 112, .string s] 33)).heap.size _).alloc (Nat.le_refl _) (.cells z 29)).mono a1.size)
  have hb4 : Below w.heap.size w W4 := by rw [hW4]; exact a2.trans (((Below.refl ((w.alloc (.cells #[.int .i64 112, .string s] 33)).alloc (.cells z 29)).heap.size _).alloc (Nat.le_refl _) (.cells y 29)).mono a2.size)
  have r1 : Blk W4 (w.heap.size + 1) 29 z := by
    have h := (Blk.made (w.alloc (.cells #[.int .i64 112, .string s] 33)) 29 z).alloc (.cells y 29)
    rw [World.size_alloc] at h
    rw [hW4]; exact h
  have r2 : Blk W4 (w.heap.size + 1 + 1) 29 y := by
    have h := Blk.made ((w.alloc (.cells #[.int .i64 112, .string s] 33)).alloc (.cells z 29)) 29 y
    rw [World.size_alloc, World.size_alloc] at h
    rw [hW4]; exact h
  have hb5 : Below W4.heap.size W4 (W4.alloc (.cells #[.string s, .int .i64 0, .nilIface] 180)) := (Below.refl _ _).alloc (Nat.le_refl _) _
  have y0 : y[0]? = some (.int .i64 7) := by rw [hy]; simp [hzs]
  have y1 : y[1]? = some (.int .i64 0) := by rw [hy, HZ.out]; rfl
  have hys : y.size = 26 := by rw [hy]; simpa using hzs
  have R1 := Lib.hid (r1.below hb5 r1.lt)
  have R2 := Lib.hid (r2.below hb5 r2.lt)
  have HB5 := Lib.hid (hb4.trans (hb5.mono hb4.size))
  have HSZ4 := Lib.hid hb4.size
  have HO := Lib.hid (RObj.made W4 S s)
  have HY := Lib.hid hy
  have HYS := Lib.hid hys
  have HY0 := Lib.hid y0
  have HY1 := Lib.hid y1
  clear hW4 a1 a2 hb4 r1 r2 hb5 hy hz0 y0 y1 hzs hys
  refine (rnew_any s W4).mono ?_
  rintro x w5 ⟨rfl, hw5⟩
  rw [← hw5] at R1 R2 HB5 HO
  have hg5 : w5.heap.size = W4.heap.size + 1 := by rw [hw5, World.size_alloc]
  have hl1 : w.heap.size + 1 + 1 < W4.heap.size := by
    have := R2.out.lt
    rcases Nat.lt_or_ge (w.heap.size + 1 + 1) W4.heap.size with h | h
    · exact h
    · exfalso; exact rd_neA HO.out R2.out (by omega)
  have hid := id_any HE.out HB5.out HSZ4.out HO.out HSZ.out
  have hin := idR_no (s := s) (R := ⟨0, 0, 0⟩)
  obtain ⟨⟨ie, im, iR⟩, hi⟩ : ∃ i, i = idR s ⟨0, 0, 0⟩ := ⟨_, rfl⟩
  rw [← hi] at hid hin
  have hq := HQ.out
  rw [← hi] at hq
  simp only at hq hin
  have HID := Lib.hid hid
  have HIN := Lib.hid hin
  have HQ1 := Lib.hid hq
  have HL1 := Lib.hid hl1
  clear hw5 hid hin hi hq HQ hl1
  go_wp2_with fail
  refine HID.out.mono ?_
  rintro x w6 ⟨e6, rfl, he6, hn6⟩
  simp only at he6 hn6
  have hnm : ∀ m, m < W4.heap.size → m ∉ [W4.heap.size] := fun m hm h => by rw [List.mem_singleton] at h; omega
  have r1 := R1.out.fr hn6.fr (hnm _ (by have := HL1.out; omega))
  have r2 := R2.out.fr hn6.fr (hnm _ HL1.out)
  have hb6 := hn6.later HSZ4.out HB5.out.size HB5.out
  have c1 : w6.cell? ⟨w.heap.size + 1 + 1, 1, none⟩ = some (.int .i64 0) := (r2.cell 1).trans HY1.out
  have z1 := r2.frozen 1
  have r2a := r2.store 1 (.int .i64 im)
  obtain ⟨ya, hya⟩ : ∃ y', y' = y.setIfInBounds 1 (.int .i64 im) := ⟨_, rfl⟩
  rw [← hya] at r2a
  have hf6 : Fr [w.heap.size + 1 + 1] w6 (w6.setCell ⟨w.heap.size + 1 + 1, 1, none⟩ (.int .i64 im)) := (Fr.refl [w.heap.size + 1 + 1] w6).setCell (p := ⟨w.heap.size + 1 + 1, 1, none⟩) (.inl (List.mem_singleton_self _)) (.int .i64 im)
  have r1a := r1.far (p := ⟨w.heap.size + 1 + 1, 1, none⟩) (by show w.heap.size + 1 ≠ w.heap.size + 1 + 1; omega) (.int .i64 im)
  have hoa := hn6.obj.fr hf6 (fun h => by rw [List.mem_singleton] at h; have := HL1.out; omega) (pkt_nof r2)
  have hba := hb6.setCell (p := ⟨w.heap.size + 1 + 1, 1, none⟩) (by show w.heap.size ≤ w.heap.size + 1 + 1; omega) (.int .i64 im)
  have hea := err_cell he6 r2 1 (.int .i64 im)
  obtain ⟨w6a, hw6a⟩ : ∃ W, W = w6.setCell ⟨w.heap.size + 1 + 1, 1, none⟩ (.int .i64 im) := ⟨_, rfl⟩
  rw [← hw6a] at r2a r1a hoa hba hea
  have RA1 := Lib.hid r1a
  have RA2 := Lib.hid r2a
  have HOA := Lib.hid hoa
  have HBA := Lib.hid hba
  have HEA := Lib.hid hea
  have HYA := Lib.hid hya
  have HYAS := Lib.hid (show ya.size = 26 by rw [hya]; simpa using HYS.out)
  have HW6 := Lib.hid hw6a
  clear hnm r1 r2 hb6 r2a hya hf6 r1a hoa hba hea hn6 hw6a HID R1 R2 HO HB5
  by_cases hi0 : ie.no = 0
  · unfold ErrOf at he6
    rw [if_pos hi0] at he6
    subst he6
    have hq := HQ1.out
    rw [if_pos hi0] at hq
    have htk := take_any HE.out HBA.out HSZ4.out HOA.out (HIN.out hi0) HSZ.out 7
    obtain ⟨⟨te, tc, M⟩, ht⟩ : ∃ t, t = tkR 7 s iR := ⟨_, rfl⟩
    rw [← ht] at htk hq
    simp only at hq
    have HTK := Lib.hid htk
    have HQ2 := Lib.hid hq
    have ka : (w6.setCell ⟨w.heap.size + 1 + 1, 1, none⟩ (.int .i64 im)).cell? ⟨w.heap.size + 1 + 1, 0, none⟩ = some (.int .i64 7) := by
      rw [← HW6.out, RA2.out.cell 0, HYA.out, HY.out, HZ.out]; rfl
    clear htk ht hq HQ1 hi0
    go_wp2_with fail
    rw [← HW6.out]
    refine HTK.out.mono ?_
    rintro x w7 ⟨v7, e7, rfl, hr7, he7, hf7⟩
    simp only at hr7 he7
    obtain ⟨a7, n7, c7, rfl, hn7, hcc7⟩ := hr7.some_form
    have hnm : ∀ m, m < W4.heap.size → m ∉ [W4.heap.size] := fun m hm h => by rw [List.mem_singleton] at h; omega
    have r1 := RA1.out.fr hf7 (hnm _ (by have := HL1.out; omega))
    have r2 := RA2.out.fr hf7 (hnm _ HL1.out)
    have hb7 := hf7.later HBA.out (fun b hb => by rw [List.mem_singleton] at hb; have := HSZ4.out; omega) HBA.out.size
    have hp7 := hr7.pin (B' := w.heap.size)
    have y2' : w7.cell? ⟨w.heap.size + 1 + 1, 2, none⟩ = some (.int .i64 0) := by rw [r2.cell 2, HYA.out, HY.out, HZ.out]; rfl
    have f2 := r2.frozen 2
    have r2a := r2.store 2 (.int .i64 tc)
    have y3 : (w7.setCell ⟨w.heap.size + 1 + 1, 2, none⟩ (.int .i64 tc)).cell? ⟨w.heap.size + 1 + 1, 3, none⟩ = some (.slice none 0 0) := by rw [r2a.cell 3, HYA.out, HY.out, HZ.out]; rfl
    have f3 := r2a.frozen 3
    have r2b := r2a.store 3 (.slice a7 n7 c7)
    obtain ⟨y', hy'⟩ : ∃ y', y' = (ya.setIfInBounds 2 (.int .i64 tc)).setIfInBounds 3 (.slice a7 n7 c7) := ⟨_, rfl⟩
    rw [← hy'] at r2b
    have r1b := (r1.far (p := ⟨w.heap.size + 1 + 1, 2, none⟩) (by show w.heap.size + 1 ≠ w.heap.size + 1 + 1; omega) (.int .i64 tc)).far (p := ⟨w.heap.size + 1 + 1, 3, none⟩) (by show w.heap.size + 1 ≠ w.heap.size + 1 + 1; omega) (.slice a7 n7 c7)
    have hp8 := PIn.cell (PIn.cell hp7 r2 (by omega) 2 (.int .i64 tc)) r2a (by omega) 3 (.slice a7 n7 c7)
    have he8 := err_cell (err_cell he7 r2 2 (.int .i64 tc)) r2a 3 (.slice a7 n7 c7)
    have hb8 := (hb7.setCell (p := ⟨w.heap.size + 1 + 1, 2, none⟩) (by show _ ≤ w.heap.size + 1 + 1; omega) (.int .i64 tc)).setCell (p := ⟨w.heap.size + 1 + 1, 3, none⟩) (by show _ ≤ w.heap.size + 1 + 1; omega) (.slice a7 n7 c7)
    have HR1 := Lib.hid r1b
    have HR2 := Lib.hid r2b
    have HP8 := Lib.hid hp8
    have HE8 := Lib.hid he8
    have HB8 := Lib.hid hb8
    have HN7 := Lib.hid hn7
    have HC7 := Lib.hid hcc7
    have HY' := Lib.hid hy'
    have HYS' := Lib.hid (show y'.size = 26 by rw [hy']; simpa using HYAS.out)
    have HYO := Lib.hid (show y'.all (·.oneCell') = true by rw [hy', HYA.out, HY.out]; exact one_set (one_set (one_set (one_set HZ1.out _ _ rfl) _ _ rfl) _ _ rfl) _ _ rfl)
    clear hf7 hr7 hnm r1 r2 hb7 hp7 r2a r2b r1b hp8 he8 hb8 hn7 hcc7 hy' HTK ka
    by_cases h0 : te.no = 0
    · have hq := HQ2.out
      rw [if_pos h0] at hq
      unfold ErrOf at he7
      rw [if_pos h0] at he7
      subst he7
      have hbf := below_row HB8.out (k := w.heap.size + 1) (by omega) y'
      have r3 := setRow_blk HR1.out y'
      have LD := Lib.hid (And.intro r3 HYS'.out)
      have HX := Lib.hid (show DcSays w S q (.returned (.tuple #[.agg y', .nilIface])) _ from by
        rw [hq]
        exact ⟨paR a7 c7, _, by rw [HY'.out, HYA.out, HY.out, HZ.out, HN7.out]; rfl, PkIn.ofR (PIn.row HP8.out HR1.out (by omega) y') (by have := HN7.out; have := HC7.out; omega), ErrOf.none, hbf⟩)
      clear hbf hq r3
      go_wp2_with (first | refine wpk_load HR2.out HYS'.out _ rfl rfl rfl ?_ | refine wpk_store HR1.out HZS.out HYS'.out HYO.out _ _ rfl rfl rfl rfl ?_)
      exact bodyPost_ret (v := .tuple #[.agg y', .nilIface]) (res_pkt (i := 2) (j := 3) rfl rfl rfl LD.out.1 LD.out.2) rfl HX.out
    · have hq := HQ2.out
      rw [if_neg h0] at hq
      obtain ⟨t7, u7, rfl⟩ := err_iface he7 h0
      have hbf := below_row HB8.out (k := w.heap.size + 1) (by omega) z
      have r3 := setRow_blk HR1.out z
      have LD := Lib.hid (And.intro r3 HZS.out)
      have HX := Lib.hid (show DcSays w S q (.returned (.tuple #[.agg z, .iface t7 u7])) _ from by
        rw [hq]
        exact DcSays.badA HZ.out rfl (err_row HE8.out HR1.out z) hbf)
      clear hbf hq r3 he7
      go_wp2_with (first | refine wpk_build HZ.out rfl rfl ?_ | refine wpk_store HR1.out HZS.out HZS.out HZ1.out _ _ rfl rfl rfl rfl ?_)
      exact bodyPost_ret (v := .tuple #[.agg z, .iface t7 u7]) (res_pkt (i := 2) (j := 3) rfl rfl rfl LD.out.1 LD.out.2) rfl HX.out
  · have hq := HQ1.out
    rw [if_neg hi0] at hq
    obtain ⟨t6, u6, rfl⟩ := err_iface he6 hi0
    have hbf := below_row HBA.out (k := w.heap.size + 1) (by omega) z
    have r3 := setRow_blk RA1.out z
    have LD := Lib.hid (And.intro r3 HZS.out)
    have HX := Lib.hid (show DcSays w S q (.returned (.tuple #[.agg z, .iface t6 u6])) (w6a.setRow (w.heap.size + 1) z) from by
      rw [hq]
      exact DcSays.badA HZ.out rfl (err_row HEA.out RA1.out z) hbf)
    have RX1 := Lib.hid (show Blk (w6.setCell ⟨w.heap.size + 1 + 1, 1, none⟩ (.int .i64 im)) (w.heap.size + 1) 29 z from by rw [← HW6.out]; exact RA1.out)
    rw [HW6.out] at LD HX
    clear hbf hq r3 he6 hi0
    go_wp2_with (first | refine wpk_build HZ.out rfl rfl ?_ | refine wpk_store RX1.out HZS.out HZS.out HZ1.out _ _ rfl rfl rfl rfl ?_)
    exact bodyPost_ret (v := .tuple #[.agg z, .iface t6 u6]) (res_pkt (i := 2) (j := 3) rfl rfl rfl LD.out.1 LD.out.2) rfl HX.out
set_option maxHeartbeats 8000000 in
theorem dec11_other (hE : Env w S) (first : Int) (h1 : ¬ first = 64) (h2 : ¬ first = 80) (h3 : ¬ first = 98) (h4 : ¬ first = 112) : Calls Tryz.prog 63 #[.agg #[.int .i64 first, .string s]] w (DcSays w S (dcA first s)) := by
  obtain ⟨z, hz⟩ : ∃ z, z = pk0.cells pa0 := ⟨_, rfl⟩
  have HZ := Lib.hid hz
  have HZS := Lib.hid (show z.size = 26 by rw [hz]; rfl)
  have HZ1 := Lib.hid (show z.all (·.oneCell') = true by rw [hz]; exact pk_one _ _)
  obtain ⟨q, hq⟩ : ∃ q, q = dcA first s := ⟨_, rfl⟩
  rw [← hq]
  unfold dcA at hq
  rw [if_pos (by unfold kA; rw [if_neg h1, if_neg h2, if_neg h3, if_neg h4])] at hq
  have HQ := Lib.hid hq
  obtain ⟨W4, hW4⟩ : ∃ W, W = ((w.alloc (.cells #[.int .i64 first, .string s] 33)).alloc (.cells z 29)).alloc (.cells z 29) := ⟨_, rfl⟩
  have a1 : Below w.heap.size w (w.alloc (.cells #[.int .i64 first, .string s] 33)) := (Below.refl _ _).alloc (Nat.le_refl _) _
  have a2 := a1.trans (((Below.refl (w.alloc (.cells #[.int .i64 first, .string s] 33)).heap.size _).alloc (Nat.le_refl _) (.cells z 29)).mono a1.size)
  have hb4 : Below w.heap.size w W4 := by rw [hW4]; exact a2.trans (((Below.refl ((w.alloc (.cells #[.int .i64 first, .string s] 33)).alloc (.cells z 29)).heap.size _).alloc (Nat.le_refl _) (.cells z 29)).mono a2.size)
  have r1 : Blk W4 (w.heap.size + 1) 29 z := by
    have h := (Blk.made (w.alloc (.cells #[.int .i64 first, .string s] 33)) 29 z).alloc (.cells z 29)
    rw [World.size_alloc] at h
    rw [hW4]; exact h
  have kA := (hE.later hb4).kMalformed
  have R1 := Lib.hid r1
  have HB4 := Lib.hid hb4
  have HN := Lib.hid (new_err (w := W4) S 1 129 0)
  have HW4 := Lib.hid hW4
  rw [hW4] at kA
  clear hE hz hq a1 a2 hb4 r1 hW4
  go_enter Tryz.func63, Tryz.ntmps63
  go_wp2_with (first | refine wpk_alloc HZ.out rfl rfl ?_ | refine wpk_build HZ.out rfl rfl ?_ | refine wpk_store_new HZS.out HZS.out HZ1.out _ _ rfl rfl rfl rfl ?_)
  rw [← HW4.out]
  refine HN.out.mono ?_
  rintro x w7 ⟨e, rfl, he, hb7⟩
  obtain ⟨te, ue, rfl⟩ := he.iface
  have r1 := R1.out.below hb7 R1.out.lt
  have hb := HB4.out.trans (hb7.mono HB4.out.size)
  have hbf := below_row hb (k := w.heap.size + 1) (by omega) z
  have r3 := setRow_blk r1 z
  have LD := Lib.hid (And.intro r3 HZS.out)
  have HX := Lib.hid (show DcSays w S q (.returned (.tuple #[.agg z, .iface te ue])) (w7.setRow (w.heap.size + 1) z) from by
    rw [HQ.out]
    exact DcSays.badA HZ.out rfl (err_row (ErrOf.some (no := 2) (by decide) (by decide) he) r1 z) hbf)
  have HR1 := Lib.hid r1
  clear hb7 hb hbf r1 r3 kA he
  go_wp2_with (first | refine wpk_build HZ.out rfl rfl ?_ | refine wpk_store HR1.out HZS.out HZS.out HZ1.out _ _ rfl rfl rfl rfl ?_)
  exact bodyPost_ret (v := .tuple #[.agg z, .iface te ue]) (res_pkt (i := 2) (j := 3) rfl rfl rfl LD.out.1 LD.out.2) rfl HX.out
theorem dec11 (hE : Env w S) (first : Int) (hs : s.size ≤ 900000) : Calls Tryz.prog 63 #[.agg #[.int .i64 first, .string s]] w (DcSays w S (dcA first s)) := by
  by_cases h1 : first = 64
  · subst h1; exact dec11_64 hE hs
  · by_cases h2 : first = 80
    · subst h2; exact dec11_80 hE hs
    · by_cases h3 : first = 98
      · subst h3; exact dec11_98 hE hs
      · by_cases h4 : first = 112
        · subst h4; exact dec11_112 hE hs
        · exact dec11_other hE first h1 h2 h3 h4
end
end Go.Proofs.YtinhecggmakbnaaGreatDoor

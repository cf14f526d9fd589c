/- What is proved here: what package script takes of bytes. Conditions: those that each theorem names. -/
import Derived.Test.YtaoaoobabjepnaaDoorTak43
import Derived.Test.YtaoaoobabjepnaaDoorPut43
import Derived.Test.YtaoaoobabjepnaaDoorEnv
import Derived.Test.YtaoaoobabjepnaaDoorOwg43
import Derived.Test.YtaoaoobabjepnaaDoorRaw04
import Derived.Test.YtaoaoobabjepnaaDoorRtx04
import Derived.Deep.QuietTactic
import Derived.Deep.RegionHeld3
import Derived.BigQuiet
import Derived.Deep.DeepMust
import Derived.Deep.DeepCutAuto
namespace Go.Proofs.YtaoaoobabjepnaaDoor
set_option maxRecDepth 100000
open Go.ChangeShapes Go.WideShapes Go.RowKit Go.Deep Go.Extern.Stop Go.Stop Go.Extern
def usC (i : Nat) : Int := ([8, 1024, 8, 4, 16, 16, 4096, 65536, 8, 16, 0, 0, 1000] : List Int).getD i 0
def evA : ET := ⟨2, 1, 0, ⟨#[120]⟩⟩
def criex : ByteArray := ⟨#[67, 82, 73, 69, 88]⟩
theorem us_cells : cfgC usC = #[.int .i64 8, .int .i64 1024, .int .i64 8, .int .i64 4, .int .i64 16, .int .i64 16, .int .i64 4096, .int .i64 65536, .int .i64 8, .int .i64 16, .int .i64 0, .int .i64 0, .int .i64 1000] := rfl
theorem aw_pt1 : (ptS usC [evA]).1 = er0 := by decide +kernel
theorem aw_pt2 : (ptS usC [evA]).2.length = 68 := by decide +kernel
theorem aw_pt3 : ∀ i, ((([evA] : List ET).take i).foldl wE (wH usC 1)).L.length ≤ 100000
  | 0 => by decide +kernel
  | 1 => by decide +kernel
  | i + 2 => by
    rw [show ([evA] : List ET).take (i + 2) = [evA] from rfl]
    decide +kernel
theorem aw_tk : (tkS criex).e = (2, 129, 0) := by decide +kernel
theorem us_any (w : World) : Calls Tryd.prog 12 #[] w fun x w' => x = .returned (.agg #[.int .i64 8, .int .i64 1024, .int .i64 8, .int .i64 4, .int .i64 16, .int .i64 16, .int .i64 4096, .int .i64 65536, .int .i64 8, .int .i64 16, .int .i64 0, .int .i64 0, .int .i64 1000]) ∧ Below w.heap.size w w' := by
  go_enter Tryd.func12, Tryd.ntmps12
  go_wp2
  exact bodyPost_ret (res_blk1 tyC (Blk.made _ _ _) rfl rfl rfl) rfl ⟨rfl, (Below.refl _ _).alloc (Nat.le_refl _) _⟩
/-- What the statements hold awake. -/
structure AwI43 (w W : World) (S : Nat → Addr) (k3 gl ol : Nat) (e : Value) : Prop where
  bk : Blk W k3 24 #[.int .i64 8, .int .i64 1024, .int .i64 8, .int .i64 4, .int .i64 16, .int .i64 16, .int .i64 4096, .int .i64 65536, .int .i64 8, .int .i64 16, .int .i64 0, .int .i64 0, .int .i64 1000]
  lb : W.cell? ⟨gl, ol + 2, none⟩ = some (.string ⟨#[120]⟩)
  env : EnvN W S
  er : ErrT W S (2, 129, 0) e
  bel : Below w.heap.size w W
theorem AwI43.below {w W W' : World} {S : Nat → Addr} {k3 gl ol : Nat} {e : Value} (h : AwI43 w W S k3 gl ol e) (hb : Below W.heap.size W W') : AwI43 w W' S k3 gl ol e := ⟨h.bk.below hb h.bk.lt, (hb.cell (lt_of_cell' h.lb)).trans h.lb, h.env.later hb, h.er.later hb, h.bel.trans (hb.mono h.bel.size)⟩
theorem AwI43.drewN {w W : World} {S : Nat → Addr} {k3 gl ol : Nat} {e : Value} (h : AwI43 w W S k3 gl ol e) (d : Nat) : AwI43 w (W.drewN d) S k3 gl ol e := h.below (below_drewN (Below.refl _ _) d)
section
variable {w w' : World} {S : Nat → Addr}
set_option maxHeartbeats 16000000 in
theorem awake43 (hE : EnvN w S) : Calls Tryd.prog 5 #[] w fun x w' => x = .returned (.bool true) ∧ Below w.heap.size w w' := by
  have HE := Lib.hid hE
  have HO := Lib.hid (Own.start [] w)
  clear hE
  go_enter Tryd.func5, Tryd.ntmps5
  go_wp2_with fail
  refine (us_any _).mono ?_
  rintro x V1 ⟨rfl, hb⟩
  have HB := Lib.hid (HO.out.below hb)
  clear HO hb
  have HO := HB
  clear HB
  obtain ⟨W2, hW2⟩ : ∃ W, W = V1.alloc (.cells #[.int .i64 2, .int .i64 1, .string ⟨#[120]⟩, .int .i64 0] 44) := ⟨_, rfl⟩
  have hb2 : Below V1.heap.size V1 W2 := by rw [hW2]; exact (Below.refl _ _).alloc (Nat.le_refl _) _
  have hk2 : Blk W2 V1.heap.size 44 #[.int .i64 2, .int .i64 1, .string ⟨#[120]⟩, .int .i64 0] := by rw [hW2]; exact Blk.made _ _ _
  have hrd : ERd W2 (some ⟨V1.heap.size, 0, none⟩) [evA] := fun _ => ⟨V1.heap.size, 0, rfl, fun k hk => by obtain rfl : k = 0 := (by simpa using hk); exact ⟨hk2.cell 0, hk2.cell 1, hk2.cell 2, hk2.cell 3⟩⟩
  have HB := Lib.hid (HO.out.below hb2)
  have HPT := Lib.hid (put_any (C := usC) ((HE.out.later HB.out.bel).env) 1 hrd (by decide) (fun k hk => by obtain rfl : k = 0 := (by simpa using hk); decide) aw_pt3)
  rw [us_cells] at HPT
  have HW2 := Lib.hid hW2
  clear HO hb2 hk2 hrd hW2
  have HO := HB
  clear HB
  go_wp2_with fail
  rw [← HW2.out]
  refine HPT.out.mono ?_
  rintro x V3 ⟨e, rfl, he, hb⟩
  rw [aw_pt1] at he
  have hen := he.isNil rfl
  subst hen
  have HB := Lib.hid (HO.out.below hb)
  clear HO hb he HPT HW2
  have HO := HB
  clear HB
  obtain ⟨sP, hsP⟩ : ∃ s : ByteArray, s = ⟨(ptS usC [evA]).2.toArray⟩ := ⟨_, rfl⟩
  rw [← hsP]
  have hsz : sP.size = 68 := by rw [hsP, bsize, aw_pt2]
  obtain ⟨p1, p2, p3⟩ := put_take (C := usC) (L := [evA]) (by rw [aw_pt1]; rfl) (fun x hx => by obtain rfl := List.mem_singleton.1 hx; decide) hsP
  have HTK := Lib.hid (tak_any (s := sP) ((HE.out.later HO.out.bel).env) (by omega))
  generalize tkS sP = T at *
  obtain ⟨Te, TC, TL⟩ := T
  simp only at p1 p2 p3
  subst p1 p3
  have HP2 := Lib.hid p2
  clear p2 hsP
  go_wp2_with fail
  refine HTK.out.mono ?_
  rintro x V4 ⟨a, c, e, rfl, hr, he, hb⟩
  have hen := he.isNil rfl
  subst hen
  simp only at hr
  have HB := Lib.hid (HO.out.below hb)
  have HG := Lib.hid hr
  clear HO hb he HTK hr
  have HO := HB
  clear HB
  simp only [HP2.out, us_cells]
  rw [us_cells] at HP2
  clear HP2
  go_upto_region 3 with (first | (refine wps_alloc (stab_row a [evA]) HG.out tyC HO.out rfl rfl ?_; clear HO HG; rintro k3 W5 hO hG; have HO := Lib.hid hO; have HG := Lib.hid hG; clear hO hG; simp only [Act.put, List.setIfInBounds_toArray, List.set_cons_zero, List.set_cons_succ]) | (refine wps_store (k := k3) (c := #[.int .i64 8, .int .i64 1024, .int .i64 8, .int .i64 4, .int .i64 16, .int .i64 16, .int .i64 4096, .int .i64 65536, .int .i64 8, .int .i64 16, .int .i64 0, .int .i64 0, .int .i64 1000]) (stab_row a [evA]) HG.out HO.out 0 tyC rfl (by decide) (by decide) (by decide) _ _ rfl rfl rfl rfl rfl rfl rfl ?_; clear HO HG; rintro W6 hO hG; have HO := Lib.hid hO; have HG := Lib.hid hG; clear hO hG; simp only [Act.put]))
  simp only [List.set_cons_zero] at HO
  have HTK := Lib.hid (tak_any (s := criex) ((HE.out.later HO.out.bel).env) (by decide))
  go_wp2_with fail
  refine HTK.out.mono ?_
  rintro x V7 ⟨a7, c7, e7, rfl, -, he, hb⟩
  rw [aw_tk] at he
  have HB := Lib.hid (HO.out.below hb)
  have HG2 := Lib.hid (And.intro (ERow.below HG.out hb) he)
  clear HO hb he HTK HG
  have HO := HB
  have HG := HG2
  clear HB HG2
  obtain ⟨cz, hcz⟩ : ∃ c, c = cfgC (tkS criex).C := ⟨_, rfl⟩
  have HZS := Lib.hid (show cz.size = 13 by rw [hcz]; rfl)
  have HZ1 := Lib.hid (show cz.toList.all (·.oneCell') = true by rw [hcz]; exact cfg_one _)
  rw [← hcz]
  clear hcz
  have ST7 := (stab_row a [evA]).and (stab_er S (2, 129, 0) e7)
  go_upto_region 4 with (first | (refine wps_alloc ST7 HG.out tyC HO.out rfl rfl ?_; clear HO HG; rintro k6 W8 hO hG; have HO := Lib.hid hO; have HG := Lib.hid hG; clear hO hG; simp only [Act.put, List.setIfInBounds_toArray, List.set_cons_zero, List.set_cons_succ]) | (refine wps_store (k := k6) ST7 HG.out HO.out 0 tyC rfl (by decide) (by decide) (by decide) _ _ rfl rfl rfl rfl rfl HZS.out HZ1.out ?_; clear HO HG; rintro W9 hO hG; have HO := Lib.hid hO; have HG := Lib.hid hG; clear hO hG; simp only [Act.put]))
  simp only [List.set_cons_zero] at HO
  obtain ⟨gl, ol, hA, hc⟩ := HG.out.1.rd (by decide)
  subst hA
  obtain ⟨-, -, hc2, -⟩ := hc 0 (by decide)
  have hc2 : W9.cell? ⟨gl, ol + 2, none⟩ = some (.string ⟨#[120]⟩) := hc2
  have hi0 : AwI43 w W9 S k3 gl ol e7 := ⟨HO.out.get 1 rfl, hc2, HE.out.later HO.out.bel, HG.out.2, HO.out.bel⟩
  clear hc2 hc HG HO ST7
  have KT := Lib.hid (fun (W : World) (h : AwI43 w W S k3 gl ol e7) => show W.cell? ⟨k3, 0, none⟩ = some (.int .i64 8) ∧ W.cell? ⟨k3, 1, none⟩ = some (.int .i64 1024) ∧ W.cell? ⟨k3, 2, none⟩ = some (.int .i64 8) ∧ W.cell? ⟨k3, 3, none⟩ = some (.int .i64 4) ∧ W.cell? ⟨k3, 4, none⟩ = some (.int .i64 16) ∧ W.cell? ⟨k3, 5, none⟩ = some (.int .i64 16) ∧ W.cell? ⟨k3, 6, none⟩ = some (.int .i64 4096) ∧ W.cell? ⟨k3, 7, none⟩ = some (.int .i64 65536) ∧ W.cell? ⟨k3, 8, none⟩ = some (.int .i64 8) ∧ W.cell? ⟨k3, 9, none⟩ = some (.int .i64 16) ∧ W.cell? ⟨k3, 10, none⟩ = some (.int .i64 0) ∧ W.cell? ⟨k3, 11, none⟩ = some (.int .i64 0) ∧ W.cell? ⟨k3, 12, none⟩ = some (.int .i64 1000) ∧ W.cell? ⟨gl, ol + 2, none⟩ = some (.string ⟨#[120]⟩) from ⟨h.bk.cell 0, h.bk.cell 1, h.bk.cell 2, h.bk.cell 3, h.bk.cell 4, h.bk.cell 5, h.bk.cell 6, h.bk.cell 7, h.bk.cell 8, h.bk.cell 9, h.bk.cell 10, h.bk.cell 11, h.bk.cell 12, h.lb⟩)
  have DU := Lib.hid (fun (W : World) (h : AwI43 w W S k3 gl ol e7) => (us_any W).mono fun x w' hx => show x = Ending.returned (.agg #[.int .i64 8, .int .i64 1024, .int .i64 8, .int .i64 4, .int .i64 16, .int .i64 16, .int .i64 4096, .int .i64 65536, .int .i64 8, .int .i64 16, .int .i64 0, .int .i64 0, .int .i64 1000]) ∧ AwI43 w w' S k3 gl ol e7 from ⟨hx.1, h.below hx.2⟩)
  have DN := Lib.hid (fun (W : World) (h : AwI43 w W S k3 gl ol e7) => (number_of h.env h.er).mono fun x w' hx => show x = Ending.returned (.int .i64 ((2 : Nat) : Int)) ∧ AwI43 w w' S k3 gl ol e7 from ⟨hx.1, h.below hx.2⟩)
  have hsi : (sP.size : Int) = 68 := by omega
  clear hsz
  obtain ⟨t0, t1, t2, t3, t4, t5, t6, t7, t8, t9, t10, t11, t12, t13⟩ := KT.out _ hi0
  go_region_held3 (fun W => W.cell? ⟨k3, 0, none⟩ = some (.int .i64 8) ∧ W.cell? ⟨k3, 1, none⟩ = some (.int .i64 1024) ∧ W.cell? ⟨k3, 2, none⟩ = some (.int .i64 8) ∧ W.cell? ⟨k3, 3, none⟩ = some (.int .i64 4) ∧ W.cell? ⟨k3, 4, none⟩ = some (.int .i64 16) ∧ W.cell? ⟨k3, 5, none⟩ = some (.int .i64 16) ∧ W.cell? ⟨k3, 6, none⟩ = some (.int .i64 4096) ∧ W.cell? ⟨k3, 7, none⟩ = some (.int .i64 65536) ∧ W.cell? ⟨k3, 8, none⟩ = some (.int .i64 8) ∧ W.cell? ⟨k3, 9, none⟩ = some (.int .i64 16) ∧ W.cell? ⟨k3, 10, none⟩ = some (.int .i64 0) ∧ W.cell? ⟨k3, 11, none⟩ = some (.int .i64 0) ∧ W.cell? ⟨k3, 12, none⟩ = some (.int .i64 1000) ∧ W.cell? ⟨gl, ol + 2, none⟩ = some (.string ⟨#[120]⟩))
    (first | assumption | (exact KT.out _ (by assumption)) | (exact KT.out _ (AwI43.drewN (by assumption) 1)))
    (first
      | (go_at_call 12; (with_reducible refine (DU.out _ ?_).mono ?_); (first | assumption | exact AwI43.drewN (by assumption) 1); rintro x w6 ⟨rfl, hi6⟩)
      | (go_at_call 13; (with_reducible refine (DN.out _ ?_).mono ?_); (first | assumption | exact AwI43.drewN (by assumption) 1); rintro x w7 ⟨rfl, hi7⟩))
  go_wp2_with fail
  go_ret
  exact ⟨rfl, hi7.bel⟩
end
end Go.Proofs.YtaoaoobabjepnaaDoor

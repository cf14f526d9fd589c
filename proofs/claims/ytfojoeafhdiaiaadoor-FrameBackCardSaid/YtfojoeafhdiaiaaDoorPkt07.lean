/- What is proved here: the packet that a Splitter of package frame gives. Conditions: the splitter is there, with few bytes; what the rows list of the package's variables. -/
import Derived.Test.YtfojoeafhdiaiaaDoorNxt07
namespace Go.Proofs.YtfojoeafhdiaiaaDoor
set_option maxRecDepth 100000
open Go.RowKit Go.Extern.Stop Go.Stop Go.Extern
section
variable {w w' w2 : World} {S : Nat → Addr} {B g p p' : Nat} {v v' v2 : Value} {V V' V2 : SV} {X : List Nat} {L L' : List UInt8}
theorem sleft_raw {a : Option Addr} {nv cv : Nat} {m lost : Int} (hb : Blk w g 121 #[.int .i64 m, .slice a nv cv, .int .i64 p, .nilIface, .int .i64 lost]) (hp : p ≤ nv) (hn : nv ≤ 1000000) :
    Calls Tryd.prog 42 #[.pointer (some ⟨g, 0, none⟩)] w fun x w' => x = .returned (.int .i64 ((nv - p : Nat) : Int)) ∧ Below w.heap.size w w' := by
  have c1 : w.cell? ⟨g, 1, none⟩ = some (.slice a nv cv) := hb.cell 1
  have c2 : w.cell? ⟨g, 2, none⟩ = some (.int .i64 p) := hb.cell 2
  have c3 : w.cell? ⟨g, 3, none⟩ = some .nilIface := hb.cell 3
  have e1 : ((nv - p : Nat) : Int) = (nv : Int) - (p : Int) := by omega
  rw [e1]
  clear hb e1
  go_enter Tryd.func42, Tryd.ntmps42
  go_wp2_with fail
  go_quiet (fail)
  go_wp2
  go_ret
  exact ⟨rfl, below_drewN (Below.refl _ _) _⟩
theorem headT_bd (most : Int) (f : Nat × Nat × Nat × Nat) : (headT most f).h ≤ (headT most f).z := by
  unfold headT
  split
  · exact Nat.le_refl _
  · split
    · split
      · exact Nat.le_refl _
      · simp only; omega
    · exact Nat.le_refl _
theorem headF_bd (most : Int) (R : List UInt8) : (headF most R).h ≤ (headF most R).z := by
  cases R with
  | nil => exact Nat.le_refl _
  | cons b t =>
    have hd : headF most (b :: t) = if mayI (b.toNat : Int) = true then headT most (vt ⟨t.toArray⟩ 4 0 0 1) else ⟨0, 0, 2, 129, 0⟩ := rfl
    rw [hd]
    split
    · exact headT_bd _ _
    · exact Nat.le_refl _
theorem BRow.conv {W : World} {k nv cv : Nat} (h : BRow W B (.slice (some ⟨k, 0, none⟩) nv cv) L) (hn : nv = L.length) (i j c : Nat) (ad : Addr) (had : ad = ⟨k, i, none⟩ ∨ j = 0) (hj : i + j ≤ nv) :
    (convert 26 9 (.slice (some ad) j c)).run Tryd.prog W = .ok (.string ⟨((L.drop i).take j).toArray⟩) W := by
  have hlen : ((L.drop i).take j).length = j := by rw [List.length_take, List.length_drop]; omega
  have key : ∀ q (hq : q < ((L.drop i).take j).length), W.cell? (ad.add q) = some (byteV ((L.drop i).take j)[q]) := fun q hq => by
    rw [hlen] at hq
    rcases had with rfl | h0
    · rw [Go.WideShapes.add_plain, h.at_ hn (by omega), List.getElem_take, List.getElem_drop, List.getD_eq_getElem?_getD, List.getElem?_eq_getElem (by omega)]
      rfl
    · omega
  have := run_convert_bytes_back (P := Tryd.prog) W 26 9 5 ad c ((L.drop i).take j) Tryd.underlying26 Tryd.underlying5 Tryd.underlying9 key
  rw [hlen] at this
  exact this
theorem BRow.far {W : World} {r i : Nat} (h : BRow W B v L) (hr : ∀ q, v.ownBlock = some q → q ≠ r) (u : Value) : BRow (W.setCell ⟨r, i, none⟩ u) B v L :=
  h.fr (X := [r]) ((Fr.refl [r] W).setCell (p := ⟨r, i, none⟩) (.inl (List.mem_singleton_self r)) _) fun q hq hm => hr q hq (List.mem_singleton.1 hm)
/-- What Next says where it gives a packet. -/
def PkSays (w : World) (S : Nat → Addr) (B g : Nat) (v : Value) (m : Nat) (c : Nat) (body : List UInt8) (V' : SV) (x : Ending) (w' : World) : Prop :=
  x = .returned (.tuple #[frV c body, .bool true, .nilIface]) ∧ ∃ v' L' p', SNext w w' S B g v v' L' p' V' ∧ L'.length ≤ m
set_option maxHeartbeats 8000000 in
theorem next_some (hE : Env w S) (h : SObj w S B g v L p V) (h0 : V.no = 0) (hl : L.length ≤ 900000) (q : HV) (hq : headF V.most V.R = q) (hno : q.no = 0) (hz : 0 < q.z) (hzl : q.z ≤ V.R.length) :
    Calls Tryd.prog 43 #[.pointer (some ⟨g, 0, none⟩)] w (PkSays w S B g v L.length (V.R.getD 0 0).toNat ((V.R.take q.z).drop q.h) ⟨V.most, V.R.drop q.z, 0, V.r, V.a, V.lost⟩) := by
  have hqh := headF_bd V.most V.R
  rw [hq] at hqh
  obtain ⟨av, nv, cv, rfl, hnv⟩ := h.row.some_form
  have hdr := h.rest h0
  have hlr : V.R.length = nv - p := by rw [hdr, List.length_drop, hnv]
  have hpn : p < nv := by omega
  obtain ⟨k, rfl⟩ := h.row.addr (by omega)
  have hcap : nv ≤ cv := by have := h.row.cap; omega
  have hb0 : Below w.heap.size w (w.alloc (.cells #[.int .i64 0, .string ⟨#[]⟩] 61)) := (Below.refl _ _).alloc (Nat.le_refl _) _
  have h2 := h.below hb0
  have hi0 : NIn w (w.alloc (.cells #[.int .i64 0, .string ⟨#[]⟩] 61)) S B g (.slice (some ⟨k, 0, none⟩) nv cv) L p V w.heap.size := ⟨h2, Blk.made w _ _, hb0, Nat.le_refl _⟩
  have c3 := (h2.nil_err h0).cell 3
  have HH := Lib.hid (head_any (hE.later hb0) h2 h0 hl)
  have HG := Lib.hid h.lt
  have HI0 := Lib.hid hi0
  have HL := Lib.hid (fun (W : World) (hi : NIn w W S B g (.slice (some ⟨k, 0, none⟩) nv cv) L p V w.heap.size) => sleft_any hi.obj (by omega))
  have e1 : leftV V = nv - p := by unfold leftV; rw [if_pos h0, hlr]
  rw [e1] at HL
  rw [hq] at HH
  obtain ⟨qh, qz, qno, qr, qa⟩ := q
  simp only at hno hz hzl hqh ⊢
  subst hno
  rw [hlr] at hzl
  have HNV := Lib.hid hnv
  have hnn : nv ≤ 900000 := by omega
  have HDR := Lib.hid hdr
  obtain ⟨cc, hcc⟩ : ∃ cc, (V.R.getD 0 0).toNat = cc := ⟨_, rfl⟩
  obtain ⟨bd, hbd⟩ : ∃ bd, (V.R.take qz).drop qh = bd := ⟨_, rfl⟩
  obtain ⟨V1, hV1⟩ : ∃ V1 : SV, (⟨V.most, V.R.drop qz, 0, V.r, V.a, V.lost⟩ : SV) = V1 := ⟨_, rfl⟩
  rw [hcc, hbd, hV1]
  have HV1 := Lib.hid hV1
  have hccb : cc < 256 := by rw [← hcc]; exact UInt8.toNat_lt _
  have hc0 : L.getD p 0 = V.R.getD 0 0 := by rw [hdr, List.getD_eq_getElem?_getD, List.getD_eq_getElem?_getD, List.getElem?_drop]; rfl
  have HCC := Lib.hid (show byteV (L.getD p 0) = .int .u8 (cc : Int) by rw [hc0, ← hcc]; rfl)
  have HBD := Lib.hid (show ((L.drop (p + qh)).take (qz - qh)) = bd by rw [← hbd, hdr, List.drop_take, List.drop_drop])
  have hzn : p + qz ≤ nv := by omega
  clear h h2 hb0 hi0 hE e1 hq hnv hdr hlr hc0 hcc hbd hV1
  go_enter Tryd.func43, Tryd.ntmps43
  go_wp2_with fail
  refine HH.out.mono ?_
  rintro x w1 ⟨e, rfl, he, hb⟩
  obtain rfl : e = .nilIface := he
  have HI1 := Lib.hid (HI0.out.below hb)
  clear hb HH
  have hne : ((qz : Int) == 0) = false := beq_eq_false_iff_ne.2 (by omega)
  go_wp2_with fail
  refine (HL.out _ HI1.out).mono ?_
  rintro x w2 ⟨rfl, hb2⟩
  have HI2 := Lib.hid (HI1.out.below hb2)
  have hbk := HI2.out.obj.nil_err h0
  have HBK := Lib.hid hbk
  have t1 := hbk.cell 1
  have t2 := hbk.cell 2
  have t3 := hbk.frozen 2
  have q1 : IntKind.i64.wrap ((p : Int) + (qz : Int)) = (p : Int) + (qz : Int) := IntWalk.i64_in _ (by omega)
  have x1 : (p : Int) ≤ (p : Int) + (qz : Int) := by omega
  have x2 : (p : Int) + (qz : Int) ≤ (cv : Int) := by omega
  have x3 : ¬ cv = p := by omega
  clear hb2 HI1 hbk
  go_wp2_with fail
  go_quiet (fail)
  go_wp2_with fail
  generalize hw5 : World.drewN w2 _ = w5
  have hb5 : Below w2.heap.size w2 w5 := by rw [← hw5]; exact below_drewN (Below.refl _ _) _
  have HI5 := Lib.hid (HI2.out.below hb5)
  have hbk5 := HBK.out.below hb5 HBK.out.lt
  have hbk6 := hbk5.store 2 (.int .i64 ((p + qz : Nat) : Int))
  have HBK6 := Lib.hid hbk6
  have HL6 := Lib.hid (sleft_raw (p := p + qz) hbk6 hzn (by omega))
  clear hw5 hb5 hbk5 hbk6 t1 t2 t3 HBK HI2
  refine HL6.out.mono ?_
  rintro x w8 ⟨rfl, hb8⟩
  rw [Nat.add_sub_cancel_left]
  have HB8 := Lib.hid hb8
  have hne2 : w.heap.size ≠ g := by have := HG.out; omega
  have hrow6 : BRow (w5.setCell ⟨g, 2, none⟩ (.int .i64 ((p + qz : Nat) : Int))) B (.slice (some ⟨k, 0, none⟩) nv cv) L := HI5.out.obj.row.far (fun q hq e => HI5.out.obj.ne hq e.symm) _
  have hbx6 := HI5.out.box.far (p := ⟨g, 2, none⟩) hne2 (.int .i64 ((p + qz : Nat) : Int))
  have hbk8 := HBK6.out.below hb8 HBK6.out.lt
  have hrow8 := hrow6.below hb8
  have hbx8 := hbx6.below hb8 hbx6.lt
  have hkr : ∀ q, (Value.slice (some ⟨k, 0, none⟩) nv cv).ownBlock = some q → q ≠ w.heap.size := fun q hq e => by
    obtain ⟨_, _, cs, hh⟩ := hrow8.lt q hq
    exact hbx8.other (e ▸ hh) (by decide) rfl
  have hkg : ∀ q, (Value.slice (some ⟨k, 0, none⟩) nv cv).ownBlock = some q → q ≠ g := fun q hq e => HI5.out.obj.ne hq e.symm
  have HKR := Lib.hid hkr
  have hfr8 : Fr [g] w5 w8 := ((Fr.refl [g] w5).setCell (p := ⟨g, 2, none⟩) (.inl (List.mem_singleton_self g)) _).then (Fr.of_below hb8)
  have hlow := HI5.out.obj.low
  have w1' : IntKind.i64.wrap (cc : Int) = (cc : Int) := IntWalk.i64_in _ (by omega)
  have w2' : (0 : Int) < (qz : Int) := by omega
  have w3' : (qh : Int) ≤ (qz : Int) := by omega
  have w4' : (0 : Int) ≤ (qh : Int) := by omega
  have w5' : (qz : Int) ≤ ((cv - p : Nat) : Int) := by omega
  by_cases hlast : nv = p + qz
  · have hz0 : nv - (p + qz) = 0 := by omega
    rw [hz0]
    have hR : V.R.drop qz = [] := by rw [HDR.out, List.drop_drop, List.drop_eq_nil_iff]; have := HNV.out; omega
    have a1 := hbk8.cell 1
    have d1 := hbk8.frozen 1
    have hbk9 := hbk8.store 1 (.slice none 0 0)
    have a2 := hbk9.cell 2
    have d2 := hbk9.frozen 2
    have hbk10 := hbk9.store 2 (.int .i64 0)
    have hS : SNext w5 ((w8.setCell ⟨g, 1, none⟩ (.slice none 0 0)).setCell ⟨g, 2, none⟩ (.int .i64 0)) S B g (.slice (some ⟨k, 0, none⟩) nv cv) (.slice none 0 0) [] 0 V1 := by
      rw [← HV1.out, hR]
      exact ⟨⟨hlow, ⟨_, hbk10, ErrOf.none⟩, BRow.nil _ _, fun _ => rfl, fun _ => .inl rfl⟩, ((hfr8.setCell (p := ⟨g, 1, none⟩) (.inl (List.mem_singleton_self g)) _).setCell (p := ⟨g, 2, none⟩) (.inl (List.mem_singleton_self g)) _).mono (fun b hb _ => by rw [List.mem_singleton] at hb; subst hb; exact List.mem_cons_self ..), fun q hq => by cases hq⟩
    have hbx9 := (hbx8.far (p := ⟨g, 1, none⟩) hne2 (.slice none 0 0)).far (p := ⟨g, 2, none⟩) hne2 (.int .i64 0)
    have hrow9 := (hrow8.far (i := 1) hkg (.slice none 0 0)).far (i := 2) hkg (.int .i64 0)
    have hfin := hS.boxed HI5.out.bel hbx9 (Nat.le_refl _) (fun e => hne2 e.symm) (.int .i64 cc) (.string ⟨bd.toArray⟩)
    have HN := Lib.hid (hfin.1.below (below_drewN (Below.refl _ _) 1))
    have HK9 := Lib.hid hrow9
    obtain ⟨b0, b1, y0, y1, b2, y2, b3, b4⟩ := box_facts hbx9 (.int .i64 cc) (.string ⟨bd.toArray⟩)
    clear hb8 hrow6 hbx6 hbk8 hrow8 hbx8 hkr hkg hfr8 hlow hbk9 hbk10 hS hbx9 hrow9 hfin hR HL6 HBK6
    have f3 : (((((w8.setCell ⟨g, 1, none⟩ (.slice none 0 0)).setCell ⟨g, 2, none⟩ (.int .i64 0)).setCell ⟨w.heap.size, 0, none⟩ (.int .i64 cc)).setCell ⟨w.heap.size, 1, none⟩ (.string ⟨bd.toArray⟩)).drew).cell? ⟨w.heap.size, 0, none⟩ = some (.int .i64 cc) := b3
    have f4 : (((((w8.setCell ⟨g, 1, none⟩ (.slice none 0 0)).setCell ⟨g, 2, none⟩ (.int .i64 0)).setCell ⟨w.heap.size, 0, none⟩ (.int .i64 cc)).setCell ⟨w.heap.size, 1, none⟩ (.string ⟨bd.toArray⟩)).drew).cell? ⟨w.heap.size, 1, none⟩ = some (.string ⟨bd.toArray⟩) := b4
    have hi0 := HK9.out
    clear b3 b4
    by_cases hcq : cv - p = qh
    · have hq0 : qz - qh = 0 := by omega
      have KT := Lib.hid (fun (W : World) (h : BRow W B (.slice (some ⟨k, 0, none⟩) nv cv) L) => show W.cell? ⟨k, p, none⟩ = some (.int .u8 (cc : Int)) ∧ (convert 26 9 (.slice (some ⟨k, p, none⟩) (0) (0))).run Tryd.prog W = .ok (.string ⟨bd.toArray⟩) W from by
        have q1 := h.at_ HNV.out (j := p) (by have := HNV.out; omega)
        rw [HCC.out] at q1
        have q2 := h.conv HNV.out (p + qh) (qz - qh) (0) ⟨k, p, none⟩ (.inr hq0) (by omega)
        rw [HBD.out] at q2
        rw [hq0] at q2
        exact ⟨q1, q2⟩)
      have hs0 := KT.out _ hi0
      go_wp2_with fail
      go_region_held3 (fun W => W.cell? ⟨k, p, none⟩ = some (.int .u8 (cc : Int)) ∧ (convert 26 9 (.slice (some ⟨k, p, none⟩) (0) (0))).run Tryd.prog W = .ok (.string ⟨bd.toArray⟩) W)
        (first | assumption | (exact KT.out _ (by assumption)) | (exact KT.out _ (BRow.below (by assumption) (below_drewN (Below.refl _ _) 1))) | (exact KT.out _ (BRow.far (BRow.far (by assumption) HKR.out _) HKR.out _)) | (exact KT.out _ (BRow.far (BRow.far (BRow.below (by assumption) (below_drewN (Below.refl _ _) 1)) HKR.out _) HKR.out _)))
        (fail)
      go_wp2
      exact bodyPost_ret (v := .tuple #[frV cc bd, .bool true, .nilIface]) (by simp [results, Tryd.results43, go_sem, f3, f4, frV]) rfl ⟨rfl, _, _, _, HN.out, Nat.zero_le _⟩
    · have KT := Lib.hid (fun (W : World) (h : BRow W B (.slice (some ⟨k, 0, none⟩) nv cv) L) => show W.cell? ⟨k, p, none⟩ = some (.int .u8 (cc : Int)) ∧ (convert 26 9 (.slice (some ⟨k, p + qh, none⟩) (qz - qh) (cv - p - qh))).run Tryd.prog W = .ok (.string ⟨bd.toArray⟩) W from by
        have q1 := h.at_ HNV.out (j := p) (by have := HNV.out; omega)
        rw [HCC.out] at q1
        have q2 := h.conv HNV.out (p + qh) (qz - qh) (cv - p - qh) ⟨k, p + qh, none⟩ (.inl rfl) (by omega)
        rw [HBD.out] at q2
        exact ⟨q1, q2⟩)
      have hs0 := KT.out _ hi0
      go_wp2_with fail
      go_region_held3 (fun W => W.cell? ⟨k, p, none⟩ = some (.int .u8 (cc : Int)) ∧ (convert 26 9 (.slice (some ⟨k, p + qh, none⟩) (qz - qh) (cv - p - qh))).run Tryd.prog W = .ok (.string ⟨bd.toArray⟩) W)
        (first | assumption | (exact KT.out _ (by assumption)) | (exact KT.out _ (BRow.below (by assumption) (below_drewN (Below.refl _ _) 1))) | (exact KT.out _ (BRow.far (BRow.far (by assumption) HKR.out _) HKR.out _)) | (exact KT.out _ (BRow.far (BRow.far (BRow.below (by assumption) (below_drewN (Below.refl _ _) 1)) HKR.out _) HKR.out _)))
        (fail)
      go_wp2
      exact bodyPost_ret (v := .tuple #[frV cc bd, .bool true, .nilIface]) (by simp [results, Tryd.results43, go_sem, f3, f4, frV]) rfl ⟨rfl, _, _, _, HN.out, Nat.zero_le _⟩
  · have hlt : p + qz < nv := by omega
    have hz0 : (((nv - (p + qz) : Nat) : Int) == 0) = false := beq_eq_false_iff_ne.2 (by omega)
    have hR : V.R.drop qz = L.drop (p + qz) := by rw [HDR.out, List.drop_drop]
    have hS : SNext w5 w8 S B g (.slice (some ⟨k, 0, none⟩) nv cv) (.slice (some ⟨k, 0, none⟩) nv cv) L (p + qz) V1 := by
      rw [← HV1.out, hR]
      exact ⟨⟨hlow, ⟨_, hbk8, ErrOf.none⟩, hrow8, fun _ => rfl, fun _ => .inr (by have := HNV.out; omega)⟩, hfr8.mono (fun b hb _ => by rw [List.mem_singleton] at hb; subst hb; exact List.mem_cons_self ..), fun q hq => .inl hq⟩
    have hfin := hS.boxed HI5.out.bel hbx8 (Nat.le_refl _) (fun e => hne2 e.symm) (.int .i64 cc) (.string ⟨bd.toArray⟩)
    have HN := Lib.hid (hfin.1.below (below_drewN (Below.refl _ _) 1))
    have hi0 := hrow8
    obtain ⟨b0, b1, y0, y1, b2, y2, b3, b4⟩ := box_facts hbx8 (.int .i64 cc) (.string ⟨bd.toArray⟩)
    clear hb8 hrow6 hbx6 hbk8 hrow8 hbx8 hkr hkg hfr8 hlow hS hfin hR HL6 HBK6
    have f3 : ((((w8).setCell ⟨w.heap.size, 0, none⟩ (.int .i64 cc)).setCell ⟨w.heap.size, 1, none⟩ (.string ⟨bd.toArray⟩)).drew).cell? ⟨w.heap.size, 0, none⟩ = some (.int .i64 cc) := b3
    have f4 : ((((w8).setCell ⟨w.heap.size, 0, none⟩ (.int .i64 cc)).setCell ⟨w.heap.size, 1, none⟩ (.string ⟨bd.toArray⟩)).drew).cell? ⟨w.heap.size, 1, none⟩ = some (.string ⟨bd.toArray⟩) := b4
    clear b3 b4
    by_cases hcq : cv - p = qh
    · have hq0 : qz - qh = 0 := by omega
      have KT := Lib.hid (fun (W : World) (h : BRow W B (.slice (some ⟨k, 0, none⟩) nv cv) L) => show W.cell? ⟨k, p, none⟩ = some (.int .u8 (cc : Int)) ∧ (convert 26 9 (.slice (some ⟨k, p, none⟩) (0) (0))).run Tryd.prog W = .ok (.string ⟨bd.toArray⟩) W from by
        have q1 := h.at_ HNV.out (j := p) (by have := HNV.out; omega)
        rw [HCC.out] at q1
        have q2 := h.conv HNV.out (p + qh) (qz - qh) (0) ⟨k, p, none⟩ (.inr hq0) (by omega)
        rw [HBD.out] at q2
        rw [hq0] at q2
        exact ⟨q1, q2⟩)
      have hs0 := KT.out _ hi0
      go_wp2_with fail
      go_region_held3 (fun W => W.cell? ⟨k, p, none⟩ = some (.int .u8 (cc : Int)) ∧ (convert 26 9 (.slice (some ⟨k, p, none⟩) (0) (0))).run Tryd.prog W = .ok (.string ⟨bd.toArray⟩) W)
        (first | assumption | (exact KT.out _ (by assumption)) | (exact KT.out _ (BRow.below (by assumption) (below_drewN (Below.refl _ _) 1))) | (exact KT.out _ (BRow.far (BRow.far (by assumption) HKR.out _) HKR.out _)) | (exact KT.out _ (BRow.far (BRow.far (BRow.below (by assumption) (below_drewN (Below.refl _ _) 1)) HKR.out _) HKR.out _)))
        (fail)
      go_wp2
      exact bodyPost_ret (v := .tuple #[frV cc bd, .bool true, .nilIface]) (by simp [results, Tryd.results43, go_sem, f3, f4, frV]) rfl ⟨rfl, _, _, _, HN.out, Nat.le_refl _⟩
    · have KT := Lib.hid (fun (W : World) (h : BRow W B (.slice (some ⟨k, 0, none⟩) nv cv) L) => show W.cell? ⟨k, p, none⟩ = some (.int .u8 (cc : Int)) ∧ (convert 26 9 (.slice (some ⟨k, p + qh, none⟩) (qz - qh) (cv - p - qh))).run Tryd.prog W = .ok (.string ⟨bd.toArray⟩) W from by
        have q1 := h.at_ HNV.out (j := p) (by have := HNV.out; omega)
        rw [HCC.out] at q1
        have q2 := h.conv HNV.out (p + qh) (qz - qh) (cv - p - qh) ⟨k, p + qh, none⟩ (.inl rfl) (by omega)
        rw [HBD.out] at q2
        exact ⟨q1, q2⟩)
      have hs0 := KT.out _ hi0
      go_wp2_with fail
      go_region_held3 (fun W => W.cell? ⟨k, p, none⟩ = some (.int .u8 (cc : Int)) ∧ (convert 26 9 (.slice (some ⟨k, p + qh, none⟩) (qz - qh) (cv - p - qh))).run Tryd.prog W = .ok (.string ⟨bd.toArray⟩) W)
        (first | assumption | (exact KT.out _ (by assumption)) | (exact KT.out _ (BRow.below (by assumption) (below_drewN (Below.refl _ _) 1))) | (exact KT.out _ (BRow.far (BRow.far (by assumption) HKR.out _) HKR.out _)) | (exact KT.out _ (BRow.far (BRow.far (BRow.below (by assumption) (below_drewN (Below.refl _ _) 1)) HKR.out _) HKR.out _)))
        (fail)
      go_wp2
      exact bodyPost_ret (v := .tuple #[frV cc bd, .bool true, .nilIface]) (by simp [results, Tryd.results43, go_sem, f3, f4, frV]) rfl ⟨rfl, _, _, _, HN.out, Nat.le_refl _⟩
end
end Go.Proofs.YtfojoeafhdiaiaaDoor

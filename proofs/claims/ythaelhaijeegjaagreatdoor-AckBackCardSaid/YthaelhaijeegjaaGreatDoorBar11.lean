/- What is proved here: the document's Bare of package ack. Conditions: the packet's parts stand where it says, few properties. -/
import Derived.Test.YthaelhaijeegjaaGreatDoorEnk11
import Derived.Test.YthaelhaijeegjaaGreatDoorBak14
import Derived.Test.YthaelhaijeegjaaGreatDoorPkx08
namespace Go.Proofs.YthaelhaijeegjaaGreatDoor
set_option maxRecDepth 100000
open Go.RowKit Go.Extern.Stop Go.Stop Go.Extern
/-- A packet with nothing of what its kind has not. -/
def bareA (p : Pk) : Pk := pkR p.kind p.id p.reason (plL p.props)
section
variable {w w' : World} {A : PkA} {p : Pk}
set_option maxHeartbeats 8000000 in
theorem bare11 {B : Nat} (h : PkIn w B A p) (hm : p.props.length ≤ 1000) : Calls Tryz.prog 16 #[p.agg A] w (BrSays w (bareA p)) := by
  obtain ⟨z, hz⟩ : ∃ z, z = pk0.cells pa0 := ⟨_, rfl⟩
  have HZ := Lib.hid hz
  have HZS := Lib.hid (show z.size = 26 by rw [hz]; rfl)
  obtain ⟨c, hc⟩ : ∃ c, c = p.cells A := ⟨_, rfl⟩
  rw [show p.agg A = .agg c from by rw [hc]; rfl]
  have hcs : c.size = 26 := by rw [hc]; rfl
  have HC0 := Lib.hid (show c[0]? = some (.int .i64 p.kind) by rw [hc]; rfl)
  have HC1 := Lib.hid (show c[1]? = some (.int .i64 p.id) by rw [hc]; rfl)
  have HC2 := Lib.hid (show c[2]? = some (.int .i64 p.reason) by rw [hc]; rfl)
  have HC3 := Lib.hid (show c[3]? = some (.slice A.pa p.props.length A.pc) by rw [hc]; rfl)
  have HCS := Lib.hid hcs
  have a1 : Below w.heap.size w (w.alloc (.cells c 29)) := (Below.refl _ _).alloc (Nat.le_refl _) _
  obtain ⟨W2, hW2⟩ : ∃ W, W = (w.alloc (.cells c 29)).alloc (.cells z 29) := ⟨_, rfl⟩
  have hb2 : Below w.heap.size w W2 := by rw [hW2]; exact a1.trans (((Below.refl (w.alloc (.cells c 29)).heap.size _).alloc (Nat.le_refl _) (.cells z 29)).mono a1.size)
  have r0 : Blk W2 w.heap.size 29 c := by rw [hW2]; exact (Blk.made w 29 c).alloc (.cells z 29)
  have r1 : Blk W2 (w.heap.size + 1) 29 z := by
    have h := Blk.made (w.alloc (.cells c 29)) 29 z
    rw [World.size_alloc] at h
    rw [hW2]; exact h
  have HI := Lib.hid (show BrIn w c W2 from ⟨hb2, r0, z, r1, HZS.out⟩)
  have HW2 := Lib.hid hW2
  have HP := Lib.hid h
  clear hz hc hcs a1 hb2 r0 r1 hW2 h
  go_enter Tryz.func16, Tryz.ntmps16
  go_wp2_with (first | refine wpk_box HCS.out _ rfl rfl rfl ?_ | refine wpk_alloc HZ.out rfl rfl ?_)
  rw [← HW2.out]
  refine wp_region_held_drew (S := fun W => BrIn w c W) (by kernel_rfl) ?_ (fun hHeld => ?_)
  · first | exact HI.out | exact HI.out.drewN 1
  refine wpAnyH_take (i := 0) (oi := { dst := some 3, op := Op.fieldAddr 29 (Operand.tmp 1) 0, type := 0, pos := _, after := _, guard := none }) (v := .pointer (some ⟨w.heap.size, 0, none⟩)) rfl (by kernel_rfl) (by kernel_rfl) (by kernel_rfl) (fun _ _ _ h => h) (Or.inl ⟨by rfl, fun w' hs => ?_⟩) (by assumption) ?_
  · go_simp
  simp only [Act.put, List.setIfInBounds_toArray, List.set_cons_zero, List.set_cons_succ]
  refine wpAnyH_take (i := 1) (oi := { dst := some 4, op := Op.load 3 (Operand.tmp 3), type := 3, pos := _, after := _, guard := none }) (v := .int .i64 p.kind) rfl (by kernel_rfl) (by kernel_rfl) (by kernel_rfl) (fun _ _ _ h => h) (Or.inl ⟨by rfl, fun w' hs => ?_⟩) (by assumption) ?_
  · have hh : w'.cell? ⟨w.heap.size, 0, none⟩ = some (.int .i64 p.kind) := (hs.box.cell 0).trans HC0.out
    go_simp
  simp only [Act.put, List.setIfInBounds_toArray, List.set_cons_zero, List.set_cons_succ]
  refine wpAnyH_take (i := 2) (oi := { dst := some 5, op := Op.fieldAddr 29 (Operand.tmp 1) 1, type := 0, pos := _, after := _, guard := none }) (v := .pointer (some ⟨w.heap.size, 1, none⟩)) rfl (by kernel_rfl) (by kernel_rfl) (by kernel_rfl) (fun _ _ _ h => h) (Or.inl ⟨by rfl, fun w' hs => ?_⟩) (by assumption) ?_
  · go_simp
  simp only [Act.put, List.setIfInBounds_toArray, List.set_cons_zero, List.set_cons_succ]
  refine wpAnyH_take (i := 3) (oi := { dst := some 6, op := Op.load 3 (Operand.tmp 5), type := 3, pos := _, after := _, guard := none }) (v := .int .i64 p.id) rfl (by kernel_rfl) (by kernel_rfl) (by kernel_rfl) (fun _ _ _ h => h) (Or.inl ⟨by rfl, fun w' hs => ?_⟩) (by assumption) ?_
  · have hh : w'.cell? ⟨w.heap.size, 1, none⟩ = some (.int .i64 p.id) := (hs.box.cell 1).trans HC1.out
    go_simp
  simp only [Act.put, List.setIfInBounds_toArray, List.set_cons_zero, List.set_cons_succ]
  refine wpAnyH_take (i := 4) (oi := { dst := some 7, op := Op.fieldAddr 29 (Operand.tmp 1) 2, type := 0, pos := _, after := _, guard := none }) (v := .pointer (some ⟨w.heap.size, 2, none⟩)) rfl (by kernel_rfl) (by kernel_rfl) (by kernel_rfl) (fun _ _ _ h => h) (Or.inl ⟨by rfl, fun w' hs => ?_⟩) (by assumption) ?_
  · go_simp
  simp only [Act.put, List.setIfInBounds_toArray, List.set_cons_zero, List.set_cons_succ]
  refine wpAnyH_take (i := 5) (oi := { dst := some 8, op := Op.load 3 (Operand.tmp 7), type := 3, pos := _, after := _, guard := none }) (v := .int .i64 p.reason) rfl (by kernel_rfl) (by kernel_rfl) (by kernel_rfl) (fun _ _ _ h => h) (Or.inl ⟨by rfl, fun w' hs => ?_⟩) (by assumption) ?_
  · have hh : w'.cell? ⟨w.heap.size, 2, none⟩ = some (.int .i64 p.reason) := (hs.box.cell 2).trans HC2.out
    go_simp
  simp only [Act.put, List.setIfInBounds_toArray, List.set_cons_zero, List.set_cons_succ]
  refine wpAnyH_take (i := 6) (oi := { dst := some 9, op := Op.fieldAddr 29 (Operand.tmp 1) 3, type := 0, pos := _, after := _, guard := none }) (v := .pointer (some ⟨w.heap.size, 3, none⟩)) rfl (by kernel_rfl) (by kernel_rfl) (by kernel_rfl) (fun _ _ _ h => h) (Or.inl ⟨by rfl, fun w' hs => ?_⟩) (by assumption) ?_
  · go_simp
  simp only [Act.put, List.setIfInBounds_toArray, List.set_cons_zero, List.set_cons_succ]
  refine wpAnyH_take (i := 7) (oi := { dst := some 10, op := Op.load 22 (Operand.tmp 9), type := 22, pos := _, after := _, guard := none }) (v := .slice A.pa p.props.length A.pc) rfl (by kernel_rfl) (by kernel_rfl) (by kernel_rfl) (fun _ _ _ h => h) (Or.inl ⟨by rfl, fun w' hs => ?_⟩) (by assumption) ?_
  · have hh : w'.cell? ⟨w.heap.size, 3, none⟩ = some (.slice A.pa p.props.length A.pc) := (hs.box.cell 3).trans HC3.out
    go_simp
  simp only [Act.put, List.setIfInBounds_toArray, List.set_cons_zero, List.set_cons_succ]
  refine wpAnyH_ready (rs := [8]) (by kernel_rfl) (by simp) ?_
  refine AllReadyH.cons (o := { dst := some 11, op := Op.call { callee := Callee.value (Operand.func 50), args := #[Operand.tmp 10], argTypes := #[22] }, type := 22, pos := _, after := _, guard := none }) rfl (fun K hK => ?_) AllReadyH.nil
  go_simp
  refine (rplain_any p.props.length A.pc rfl (HP.out.pr.below hHeld.bel) hm).mono ?_
  rintro x w5 ⟨a5, n5, c5, rfl, hn5, hr5, hb5⟩
  have hi5 := hHeld.below hb5
  have HI5 := Lib.hid hi5
  have HR5 := Lib.hid hr5
  have HN5 := Lib.hid hn5
  clear hn5 hr5 hb5 hHeld
  go_wp2_with fail
  refine hK.out _ _ ?_ (fun hHeld6 => ?_)
  · exact hi5
  clear hK K
  try simp only [Act.put, List.setIfInBounds_toArray, List.set_cons_zero, List.set_cons_succ]
  refine wpAnyH_take (i := 9) (oi := { dst := some 12, op := Op.build 29 #[(0, Operand.tmp 4), (1, Operand.tmp 6), (2, Operand.tmp 8), (3, Operand.tmp 11)], type := 29, pos := _, after := _, guard := none }) (v := .agg #[.int .i64 p.kind, .int .i64 p.id, .int .i64 p.reason, .slice a5 n5 c5, .bool false, .int .i64 0, .string ⟨#[]⟩, .bool false, .string ⟨#[]⟩, .string ⟨#[]⟩, .int .i64 0, .bool false, .slice none 0 0, .bool false, .string ⟨#[]⟩, .bool false, .string ⟨#[]⟩, .bool false, .string ⟨#[]⟩, .string ⟨#[]⟩, .int .i64 0, .bool false, .bool false, .slice none 0 0, .slice none 0 0, .slice none 0 0]) rfl (by kernel_rfl) (by kernel_rfl) (by kernel_rfl) (fun _ _ _ h => h) (Or.inl ⟨by rfl, fun w' hs => ?_⟩) (by assumption) ?_
  · go_simp
  simp only [Act.put, List.setIfInBounds_toArray, List.set_cons_zero, List.set_cons_succ]
  refine wpAnyH_ready (rs := [10]) (by kernel_rfl) (by simp) ?_
  refine AllReadyH.cons (o := { dst := none, op := Op.store 29 (Operand.tmp 2) (Operand.tmp 12), type := 0, pos := _, after := _, guard := none }) rfl (fun K hK => ?_) AllReadyH.nil
  obtain ⟨o, ho, hos⟩ := hHeld6.res
  rw [if_pos (by kernel_rfl)]
  obtain ⟨y, hy⟩ : ∃ y, y = (bareA p).cells (paR a5 c5) := ⟨_, rfl⟩
  have hys : y.size = 26 := by rw [hy]; rfl
  refine wp_store_row 29 (Operand.tmp 2) (Operand.tmp 12) rfl (w.heap.size + 1) y rfl (by rw [hy, HN5.out]; rfl) 29 o ho (by rw [hys]; exact ip_pkt) (by rw [hos, hys]) (by rw [hy]; exact pk_one _ _) ?_
  refine hK _ _ ?_ (fun hHeld8 => ?_)
  · exact hHeld6.row hys
  have r3 := setRow_blk ho y
  have hbf := below_row hHeld6.bel (k := w.heap.size + 1) (by omega) y
  have hpi := (HR5.out.pin (B' := w.heap.size)).row ho (by omega) y
  have hlen : (plL p.props).length ≤ c5 := by
    obtain ⟨a', n', c', e', hn', hc'⟩ := HR5.out.some_form
    injection e' with e1 e2 e3
    omega
  have LD := Lib.hid (And.intro r3 hys)
  have HX := Lib.hid (show BrSays w (bareA p) (.returned (.agg y)) _ from ⟨paR a5 c5, by rw [hy]; rfl, PkIn.ofR hpi hlen, hbf⟩)
  clear hK K r3 hbf hpi hlen hHeld6 hHeld8 ho hos hi5
  refine wpAnyH_done (by kernel_rfl) ?_ _
  go_wp2_with fail
  exact bodyPost_ret (v := .agg y) (res_pkt1 (i := 2) rfl rfl LD.out.1 LD.out.2) rfl HX.out
end
end Go.Proofs.YthaelhaijeegjaaGreatDoor

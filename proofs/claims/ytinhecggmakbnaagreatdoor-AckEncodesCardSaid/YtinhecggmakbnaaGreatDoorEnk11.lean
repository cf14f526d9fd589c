/- What is proved here: Encode of package ack tells what a plain function says. Conditions: few bytes, the packet's parts stand where it says; what the rows list of the package's variables. -/
import Derived.Test.YtinhecggmakbnaaGreatDoorAck11
namespace Go.Proofs.YtinhecggmakbnaaGreatDoor
set_option maxRecDepth 100000
open Go.RowKit Go.Extern.Stop Go.Stop Go.Extern
/-- What Encode tells of any packet. -/
def wA (p : Pk) : EV := stepW w0 (numE 2 p.id)
def enA (p : Pk) : FrR :=
  if fA p.kind = 0 then ⟨⟨7, 128, 0⟩, 0, ⟨#[]⟩⟩
  else if (putR (wA p) p.kind p.reason p.props).1.no = 0 then frR (putR (wA p) p.kind p.reason p.props).2 (fA p.kind) (dcA (fA p.kind) ⟨(putR (wA p) p.kind p.reason p.props).2.L.toArray⟩).1
  else ⟨(putR (wA p) p.kind p.reason p.props).1, 0, ⟨#[]⟩⟩
theorem putA_len {W : EV} {k r : Int} {L : PL} (hS : SmallP L) : (putR W k r L).2.L.length ≤ W.L.length + 63845 := by
  unfold putR
  have h1 := stepW_num_len W r
  split
  · simp only
    split <;> omega
  · split
    · have h2 := stepW_len (stepW W (numE 1 r)) ⟨0, 0, (encR k L).L⟩
      have h3 := encR_len (k := k) hS
      simp only at h2 ⊢
      omega
    · simp only
      omega
theorem wA_len (p : Pk) : (wA p).L.length ≤ 2 := by
  unfold wA
  have h1 := stepW_len w0 (numE 2 p.id)
  have h2 := numE_len 2 p.id
  have h3 : w0.L.length = 0 := rfl
  omega
section
variable {w w' : World} {S : Nat → Addr} {A : PkA} {p : Pk}
set_option maxHeartbeats 8000000 in
theorem enc11_4 (hE : Env w S) (h : PkIn w w.heap.size A p) (hS : SmallP p.props) (hk : p.kind = 4) : Calls Tryz.prog 20 #[p.agg A] w (FrSays w S (enA p)) := by
  obtain ⟨q, hq⟩ : ∃ q, q = enA p := ⟨_, rfl⟩
  rw [← hq]
  unfold enA at hq
  rw [hk, show fA 4 = 64 from rfl, if_neg (by decide)] at hq
  have HQ := Lib.hid hq
  obtain ⟨c, hc⟩ : ∃ c, c = p.cells A := ⟨_, rfl⟩
  rw [show p.agg A = .agg c from by rw [hc]; rfl]
  have hcs : c.size = 26 := by rw [hc]; rfl
  have hc0 : c[0]? = some (.int .i64 p.kind) := by rw [hc]; rfl
  have hc1 : c[1]? = some (.int .i64 p.id) := by rw [hc]; rfl
  rw [hk] at hc0
  have HC := Lib.hid hc
  have HCS := Lib.hid hcs
  obtain ⟨W3, hW3⟩ : ∃ W, W = ((w.alloc (.cells c 29)).alloc (.cells #[.int .i64 0, .string ⟨#[]⟩] 33)).alloc (.cells #[.slice none 0 0, .nilIface] 64) := ⟨_, rfl⟩
  have a1 : Below w.heap.size w (w.alloc (.cells c 29)) := (Below.refl _ _).alloc (Nat.le_refl _) _
  have a2 := a1.trans (((Below.refl (w.alloc (.cells c 29)).heap.size _).alloc (Nat.le_refl _) (.cells #[.int .i64 0, .string ⟨#[]⟩] 33)).mono a1.size)
  have hb3 : Below w.heap.size w W3 := by rw [hW3]; exact a2.trans (((Below.refl ((w.alloc (.cells c 29)).alloc (.cells #[.int .i64 0, .string ⟨#[]⟩] 33)).heap.size _).alloc (Nat.le_refl _) (.cells #[.slice none 0 0, .nilIface] 64)).mono a2.size)
  have r0 : Blk W3 w.heap.size 29 c := by
    have h := ((Blk.made w 29 c).alloc (.cells #[.int .i64 0, .string ⟨#[]⟩] 33)).alloc (.cells #[.slice none 0 0, .nilIface] 64)
    rw [hW3]; exact h
  have r1 : Blk W3 (w.heap.size + 1) 33 #[.int .i64 0, .string ⟨#[]⟩] := by
    have h := (Blk.made (w.alloc (.cells c 29)) 33 #[.int .i64 0, .string ⟨#[]⟩]).alloc (.cells #[.slice none 0 0, .nilIface] 64)
    rw [World.size_alloc] at h
    rw [hW3]; exact h
  have ho : WObj W3 S w.heap.size (w.heap.size + 1 + 1) (.slice none 0 0) w0 := by
    have h := WObj.made ((w.alloc (.cells c 29)).alloc (.cells #[.int .i64 0, .string ⟨#[]⟩] 33)) S (B := w.heap.size) a2.size
    rw [World.size_alloc, World.size_alloc] at h
    rw [hW3]; exact h
  have HW3 := Lib.hid hW3
  have HB3 := Lib.hid hb3
  have R0 := Lib.hid r0
  have R1 := Lib.hid r1
  have HO := Lib.hid ho
  have HE := Lib.hid hE
  have HP := Lib.hid h
  have HSM := Lib.hid hS
  have HKD := Lib.hid hk
  have HC1 := Lib.hid hc1
  have HU := Lib.hid (wu16_any (hE.later hb3) ho (by decide) p.id)
  clear hq hc hcs hc0 a1 a2 hb3 r0 r1 ho hE h hS hW3 hk hc1
  go_enter Tryz.func20, Tryz.ntmps20
  have hc0 : c[0]? = some (.int .i64 4) := by rw [HC.out, ← HKD.out]; rfl
  have hc1 : c[1]? = some (.int .i64 p.id) := HC1.out
  go_wp2_with (refine wpk_box HCS.out _ rfl rfl rfl ?_)
  rw [← HW3.out]
  clear hc0 hc1
  refine HU.out.mono ?_
  rintro x w4 ⟨rfl, v4, hn4⟩
  rw [show stepW w0 (numE 2 p.id) = wA p from rfl] at hn4
  have hnot : ∀ m, m < w.heap.size + 1 + 1 → m ∉ (w.heap.size + 1 + 1) :: (Value.slice none 0 0).ownBlock.toList := fun m hm h => by
    rw [show (Value.slice none 0 0).ownBlock.toList = [] from rfl, List.mem_singleton] at h
    omega
  have r0 := R0.out.fr hn4.fr (hnot _ (by omega))
  have r1 := R1.out.fr hn4.fr (hnot _ (by omega))
  have hb4 := hn4.later HO.out HB3.out
  have hown : ∀ k, v4.ownBlock = some k → w.heap.size + 1 < k := fun k hk => by
    rcases hn4.own k hk with h | h
    · cases h
    · have := R1.out.lt; omega
  have hpt := put_any (HE.out.later hb4) hn4.obj (by have := wA_len p; omega) ((HP.out.below hb4).mono hb4.size) HSM.out
  rw [HKD.out] at hpt
  have hln := putA_len (W := wA p) (k := 4) (r := p.reason) HSM.out
  have hwl := wA_len p
  obtain ⟨⟨pe, V⟩, hpr⟩ : ∃ r, r = putR (wA p) 4 p.reason p.props := ⟨_, rfl⟩
  rw [← hpr] at hpt hln
  have hq := HQ.out
  rw [← hpr] at hq
  simp only at hq hln
  rw [show p.agg A = .agg c from by rw [HC.out]; rfl] at hpt
  have HPT := Lib.hid hpt
  have HQ2 := Lib.hid hq
  have HLN := Lib.hid (show V.L.length ≤ 63847 from by omega)
  have RA0 := Lib.hid r0
  have RA1 := Lib.hid r1
  have HB4 := Lib.hid hb4
  have HOW := Lib.hid hown
  have HO4 := Lib.hid hn4.obj
  clear hpt hpr hq hln HQ hnot r0 r1 hb4 hown hn4 hwl HU HO HB3 R0 R1
  go_wp2_with (refine wpk_load RA0.out HCS.out _ rfl rfl rfl ?_)
  refine HPT.out.mono ?_
  rintro x w5 ⟨e5, v5, rfl, he5, hn5⟩
  simp only at he5 hn5
  have r1 := RA1.out.fr hn5.fr (fun hm => by
    rcases List.mem_cons.1 hm with h | h
    · omega
    · have := HOW.out _ (own_list.1 h)
      omega)
  have hb5 := hn5.later HO4.out HB4.out
  by_cases h0 : pe.no = 0
  · have hq := HQ2.out
    rw [if_pos h0] at hq
    unfold ErrOf at he5
    rw [if_pos h0] at he5
    subst he5
    have HFA := Lib.hid (frame_any11 64 hn5.obj (fun W1 hb => dec11 (HE.out.later (hb5.trans (hb.mono hb5.size))) 64 (show (⟨V.L.toArray⟩ : ByteArray).size ≤ 900000 from by rw [bsize]; have := HLN.out; omega)))
    have HQ3 := Lib.hid hq
    have HR1 := Lib.hid r1
    have HB5 := Lib.hid hb5
    clear hq r1 hb5 hn5 HPT HQ2
    go_wp2_with fail
    refine HFA.out.mono ?_
    rintro x w6 ⟨e6, rfl, he6, hb6⟩
    have r1 := HR1.out.below hb6 HR1.out.lt
    have hb := HB5.out.trans (hb6.mono HB5.out.size)
    obtain ⟨⟨z0, z1, y0, y1⟩, ⟨z2, y2⟩, ⟨f0, f1⟩, ferr⟩ := fr_facts (S := S) r1 (.int .i64 q.first) (.string q.s)
    have hbf := (hb.setCell (p := ⟨w.heap.size + 1, 0, none⟩) (by show w.heap.size ≤ w.heap.size + 1; omega) (.int .i64 q.first)).setCell (p := ⟨w.heap.size + 1, 1, none⟩) (by show w.heap.size ≤ w.heap.size + 1; omega) (.string q.s)
    rw [← HQ3.out] at he6 ⊢
    have HX := Lib.hid (show FrSays w S q (.returned (.tuple #[.agg #[.int .i64 q.first, .string q.s], e6])) _ from ⟨e6, rfl, ferr _ _ _ _ he6, hbf⟩)
    clear hb6 r1 hb ferr hbf he6 HFA
    go_wp2
    exact bodyPost_ret (v := .tuple #[.agg #[.int .i64 q.first, .string q.s], e6]) (by simp [results, Tryz.results20, go_sem, f0, f1]) rfl HX.out
  · have hq := HQ2.out
    rw [if_neg h0] at hq
    obtain ⟨te, ue, rfl⟩ := err_iface he5 h0
    obtain ⟨⟨z0, z1, y0, y1⟩, ⟨z2, y2⟩, ⟨f0, f1⟩, ferr⟩ := fr_facts (S := S) r1 (.int .i64 0) (.string ⟨#[]⟩)
    have hbf := (hb5.setCell (p := ⟨w.heap.size + 1, 0, none⟩) (by show w.heap.size ≤ w.heap.size + 1; omega) (.int .i64 0)).setCell (p := ⟨w.heap.size + 1, 1, none⟩) (by show w.heap.size ≤ w.heap.size + 1; omega) (.string ⟨#[]⟩)
    have HX := Lib.hid (show FrSays w S q (.returned (.tuple #[.agg #[.int .i64 0, .string ⟨#[]⟩], .iface te ue])) _ from by
      rw [hq]
      exact ⟨_, rfl, ferr _ _ _ _ he5, hbf⟩)
    clear hb5 r1 ferr hbf he5 hq hn5 HPT
    go_wp2
    exact bodyPost_ret (v := .tuple #[.agg #[.int .i64 0, .string ⟨#[]⟩], .iface te ue]) (by simp [results, Tryz.results20, go_sem, f0, f1]) rfl HX.out
set_option maxHeartbeats 8000000 in
theorem enc11_5 (hE : Env w S) (h : PkIn w w.heap.size A p) (hS : SmallP p.props) (hk : p.kind = 5) : Calls Tryz.prog 20 #[p.agg A] w (FrSays w S (enA p)) := by
  obtain ⟨q, hq⟩ : ∃ q, q = enA p := ⟨_, rfl⟩
  rw [← hq]
  unfold enA at hq
  rw [hk, show fA 5 = 80 from rfl, if_neg (by decide)] at hq
  have HQ := Lib.hid hq
  obtain ⟨c, hc⟩ : ∃ c, c = p.cells A := ⟨_, rfl⟩
  rw [show p.agg A = .agg c from by rw [hc]; rfl]
  have hcs : c.size = 26 := by rw [hc]; rfl
  have hc0 : c[0]? = some (.int .i64 p.kind) := by rw [hc]; rfl
  have hc1 : c[1]? = some (.int .i64 p.id) := by rw [hc]; rfl
  rw [hk] at hc0
  have HC := Lib.hid hc
  have HCS := Lib.hid hcs
  obtain ⟨W3, hW3⟩ : ∃ W, W = ((w.alloc (.cells c 29)).alloc (.cells #[.int .i64 0, .string ⟨#[]⟩] 33)).alloc (.cells #[.slice none 0 0, .nilIface] 64) := ⟨_, rfl⟩
  have a1 : Below w.heap.size w (w.alloc (.cells c 29)) := (Below.refl _ _).alloc (Nat.le_refl _) _
  have a2 := a1.trans (((Below.refl (w.alloc (.cells c 29)).heap.size _).alloc (Nat.le_refl _) (.cells #[.int .i64 0, .string ⟨#[]⟩] 33)).mono a1.size)
  have hb3 : Below w.heap.size w W3 := by rw [hW3]; exact a2.trans (((Below.refl ((w.alloc (.cells c 29)).alloc (.cells #[.int .i64 0, .string ⟨#[]⟩] 33)).heap.size _).alloc (Nat.le_refl _) (.cells #[.slice none 0 0, .nilIface] 64)).mono a2.size)
  have r0 : Blk W3 w.heap.size 29 c := by
    have h := ((Blk.made w 29 c).alloc (.cells #[.int .i64 0, .string ⟨#[]⟩] 33)).alloc (.cells #[.slice none 0 0, .nilIface] 64)
    rw [hW3]; exact h
  have r1 : Blk W3 (w.heap.size + 1) 33 #[.int .i64 0, .string ⟨#[]⟩] := by
    have h := (Blk.made (w.alloc (.cells c 29)) 33 #[.int .i64 0, .string ⟨#[]⟩]).alloc (.cells #[.slice none 0 0, .nilIface] 64)
    rw [World.size_alloc] at h
    rw [hW3]; exact h
  have ho : WObj W3 S w.heap.size (w.heap.size + 1 + 1) (.slice none 0 0) w0 := by
    have h := WObj.made ((w.alloc (.cells c 29)).alloc (.cells #[.int .i64 0, .string ⟨#[]⟩] 33)) S (B := w.heap.size) a2.size
    rw [World.size_alloc, World.size_alloc] at h
    rw [hW3]; exact h
  have HW3 := Lib.hid hW3
  have HB3 := Lib.hid hb3
  have R0 := Lib.hid r0
  have R1 := Lib.hid r1
  have HO := Lib.hid ho
  have HE := Lib.hid hE
  have HP := Lib.hid h
  have HSM := Lib.hid hS
  have HKD := Lib.hid hk
  have HC1 := Lib.hid hc1
  have HU := Lib.hid (wu16_any (hE.later hb3) ho (by decide) p.id)
  clear hq hc hcs hc0 a1 a2 hb3 r0 r1 ho hE h hS hW3 hk hc1
  go_enter Tryz.func20, Tryz.ntmps20
  have hc0 : c[0]? = some (.int .i64 5) := by rw [HC.out, ← HKD.out]; rfl
  have hc1 : c[1]? = some (.int .i64 p.id) := HC1.out
  go_wp2_with (refine wpk_box HCS.out _ rfl rfl rfl ?_)
  rw [← HW3.out]
  clear hc0 hc1
  refine HU.out.mono ?_
  rintro x w4 ⟨rfl, v4, hn4⟩
  rw [show stepW w0 (numE 2 p.id) = wA p from rfl] at hn4
  have hnot : ∀ m, m < w.heap.size + 1 + 1 → m ∉ (w.heap.size + 1 + 1) :: (Value.slice none 0 0).ownBlock.toList := fun m hm h => by
    rw [show (Value.slice none 0 0).ownBlock.toList = [] from rfl, List.mem_singleton] at h
    omega
  have r0 := R0.out.fr hn4.fr (hnot _ (by omega))
  have r1 := R1.out.fr hn4.fr (hnot _ (by omega))
  have hb4 := hn4.later HO.out HB3.out
  have hown : ∀ k, v4.ownBlock = some k → w.heap.size + 1 < k := fun k hk => by
    rcases hn4.own k hk with h | h
    · cases h
    · have := R1.out.lt; omega
  have hpt := put_any (HE.out.later hb4) hn4.obj (by have := wA_len p; omega) ((HP.out.below hb4).mono hb4.size) HSM.out
  rw [HKD.out] at hpt
  have hln := putA_len (W := wA p) (k := 5) (r := p.reason) HSM.out
  have hwl := wA_len p
  obtain ⟨⟨pe, V⟩, hpr⟩ : ∃ r, r = putR (wA p) 5 p.reason p.props := ⟨_, rfl⟩
  rw [← hpr] at hpt hln
  have hq := HQ.out
  rw [← hpr] at hq
  simp only at hq hln
  rw [show p.agg A = .agg c from by rw [HC.out]; rfl] at hpt
  have HPT := Lib.hid hpt
  have HQ2 := Lib.hid hq
  have HLN := Lib.hid (show V.L.length ≤ 63847 from by omega)
  have RA0 := Lib.hid r0
  have RA1 := Lib.hid r1
  have HB4 := Lib.hid hb4
  have HOW := Lib.hid hown
  have HO4 := Lib.hid hn4.obj
  clear hpt hpr hq hln HQ hnot r0 r1 hb4 hown hn4 hwl HU HO HB3 R0 R1
  go_wp2_with (refine wpk_load RA0.out HCS.out _ rfl rfl rfl ?_)
  refine HPT.out.mono ?_
  rintro x w5 ⟨e5, v5, rfl, he5, hn5⟩
  simp only at he5 hn5
  have r1 := RA1.out.fr hn5.fr (fun hm => by
    rcases List.mem_cons.1 hm with h | h
    · omega
    · have := HOW.out _ (own_list.1 h)
      omega)
  have hb5 := hn5.later HO4.out HB4.out
  by_cases h0 : pe.no = 0
  · have hq := HQ2.out
    rw [if_pos h0] at hq
    unfold ErrOf at he5
    rw [if_pos h0] at he5
    subst he5
    have HFA := Lib.hid (frame_any11 80 hn5.obj (fun W1 hb => dec11 (HE.out.later (hb5.trans (hb.mono hb5.size))) 80 (show (⟨V.L.toArray⟩ : ByteArray).size ≤ 900000 from by rw [bsize]; have := HLN.out; omega)))
    have HQ3 := Lib.hid hq
    have HR1 := Lib.hid r1
    have HB5 := Lib.hid hb5
    clear hq r1 hb5 hn5 HPT HQ2
    go_wp2_with fail
    refine HFA.out.mono ?_
    rintro x w6 ⟨e6, rfl, he6, hb6⟩
    have r1 := HR1.out.below hb6 HR1.out.lt
    have hb := HB5.out.trans (hb6.mono HB5.out.size)
    obtain ⟨⟨z0, z1, y0, y1⟩, ⟨z2, y2⟩, ⟨f0, f1⟩, ferr⟩ := fr_facts (S := S) r1 (.int .i64 q.first) (.string q.s)
    have hbf := (hb.setCell (p := ⟨w.heap.size + 1, 0, none⟩) (by show w.heap.size ≤ w.heap.size + 1; omega) (.int .i64 q.first)).setCell (p := ⟨w.heap.size + 1, 1, none⟩) (by show w.heap.size ≤ w.heap.size + 1; omega) (.string q.s)
    rw [← HQ3.out] at he6 ⊢
    have HX := Lib.hid (show FrSays w S q (.returned (.tuple #[.agg #[.int .i64 q.first, .string q.s], e6])) _ from ⟨e6, rfl, ferr _ _ _ _ he6, hbf⟩)
    clear hb6 r1 hb ferr hbf he6 HFA
    go_wp2
    exact bodyPost_ret (v := .tuple #[.agg #[.int .i64 q.first, .string q.s], e6]) (by simp [results, Tryz.results20, go_sem, f0, f1]) rfl HX.out
  · have hq := HQ2.out
    rw [if_neg h0] at hq
    obtain ⟨te, ue, rfl⟩ := err_iface he5 h0
    obtain ⟨⟨z0, z1, y0, y1⟩, ⟨z2, y2⟩, ⟨f0, f1⟩, ferr⟩ := fr_facts (S := S) r1 (.int .i64 0) (.string ⟨#[]⟩)
    have hbf := (hb5.setCell (p := ⟨w.heap.size + 1, 0, none⟩) (by show w.heap.size ≤ w.heap.size + 1; omega) (.int .i64 0)).setCell (p := ⟨w.heap.size + 1, 1, none⟩) (by show w.heap.size ≤ w.heap.size + 1; omega) (.string ⟨#[]⟩)
    have HX := Lib.hid (show FrSays w S q (.returned (.tuple #[.agg #[.int .i64 0, .string ⟨#[]⟩], .iface te ue])) _ from by
      rw [hq]
      exact ⟨_, rfl, ferr _ _ _ _ he5, hbf⟩)
    clear hb5 r1 ferr hbf he5 hq hn5 HPT
    go_wp2
    exact bodyPost_ret (v := .tuple #[.agg #[.int .i64 0, .string ⟨#[]⟩], .iface te ue]) (by simp [results, Tryz.results20, go_sem, f0, f1]) rfl HX.out
set_option maxHeartbeats 8000000 in
theorem enc11_6 (hE : Env w S) (h : PkIn w w.heap.size A p) (hS : SmallP p.props) (hk : p.kind = 6) : Calls Tryz.prog 20 #[p.agg A] w (FrSays w S (enA p)) := by
  obtain ⟨q, hq⟩ : ∃ q, q = enA p := ⟨_, rfl⟩
  rw [← hq]
  unfold enA at hq
  rw [hk, show fA 6 = 98 from rfl, if_neg (by decide)] at hq
  have HQ := Lib.hid hq
  obtain ⟨c, hc⟩ : ∃ c, c = p.cells A := ⟨_, rfl⟩
  rw [show p.agg A = .agg c from by rw [hc]; rfl]
  have hcs : c.size = 26 := by rw [hc]; rfl
  have hc0 : c[0]? = some (.int .i64 p.kind) := by rw [hc]; rfl
  have hc1 : c[1]? = some (.int .i64 p.id) := by rw [hc]; rfl
  rw [hk] at hc0
  have HC := Lib.hid hc
  have HCS := Lib.hid hcs
  obtain ⟨W3, hW3⟩ : ∃ W, W = ((w.alloc (.cells c 29)).alloc (.cells #[.int .i64 0, .string ⟨#[]⟩] 33)).alloc (.cells #[.slice none 0 0, .nilIface] 64) := ⟨_, rfl⟩
  have a1 : Below w.heap.size w (w.alloc (.cells c 29)) := (Below.refl _ _).alloc (Nat.le_refl _) _
  have a2 := a1.trans (((Below.refl (w.alloc (.cells c 29)).heap.size _).alloc (Nat.le_refl _) (.cells #[.int .i64 0, .string ⟨#[]⟩] 33)).mono a1.size)
  have hb3 : Below w.heap.size w W3 := by rw [hW3]; exact a2.trans (((Below.refl ((w.alloc (.cells c 29)).alloc (.cells #[.int .i64 0, .string ⟨#[]⟩] 33)).heap.size _).alloc (Nat.le_refl _) (.cells #[.slice none 0 0, .nilIface] 64)).mono a2.size)
  have r0 : Blk W3 w.heap.size 29 c := by
    have h := ((Blk.made w 29 c).alloc (.cells #[.int .i64 0, .string ⟨#[]⟩] 33)).alloc (.cells #[.slice none 0 0, .nilIface] 64)
    rw [hW3]; exact h
  have r1 : Blk W3 (w.heap.size + 1) 33 #[.int .i64 0, .string ⟨#[]⟩] := by
    have h := (Blk.made (w.alloc (.cells c 29)) 33 #[.int .i64 0, .string ⟨#[]⟩]).alloc (.cells #[.slice none 0 0, .nilIface] 64)
    rw [World.size_alloc] at h
    rw [hW3]; exact h
  have ho : WObj W3 S w.heap.size (w.heap.size + 1 + 1) (.slice none 0 0) w0 := by
    have h := WObj.made ((w.alloc (.cells c 29)).alloc (.cells #[.int .i64 0, .string ⟨#[]⟩] 33)) S (B := w.heap.size) a2.size
    rw [World.size_alloc, World.size_alloc] at h
    rw [hW3]; exact h
  have HW3 := Lib.hid hW3
  have HB3 := Lib.hid hb3
  have R0 := Lib.hid r0
  have R1 := Lib.hid r1
  have HO := Lib.hid ho
  have HE := Lib.hid hE
  have HP := Lib.hid h
  have HSM := Lib.hid hS
  have HKD := Lib.hid hk
  have HC1 := Lib.hid hc1
  have HU := Lib.hid (wu16_any (hE.later hb3) ho (by decide) p.id)
  clear hq hc hcs hc0 a1 a2 hb3 r0 r1 ho hE h hS hW3 hk hc1
  go_enter Tryz.func20, Tryz.ntmps20
  have hc0 : c[0]? = some (.int .i64 6) := by rw [HC.out, ← HKD.out]; rfl
  have hc1 : c[1]? = some (.int .i64 p.id) := HC1.out
  go_wp2_with (refine wpk_box HCS.out _ rfl rfl rfl ?_)
  rw [← HW3.out]
  clear hc0 hc1
  refine HU.out.mono ?_
  rintro x w4 ⟨rfl, v4, hn4⟩
  rw [show stepW w0 (numE 2 p.id) = wA p from rfl] at hn4
  have hnot : ∀ m, m < w.heap.size + 1 + 1 → m ∉ (w.heap.size + 1 + 1) :: (Value.slice none 0 0).ownBlock.toList := fun m hm h => by
    rw [show (Value.slice none 0 0).ownBlock.toList = [] from rfl, List.mem_singleton] at h
    omega
  have r0 := R0.out.fr hn4.fr (hnot _ (by omega))
  have r1 := R1.out.fr hn4.fr (hnot _ (by omega))
  have hb4 := hn4.later HO.out HB3.out
  have hown : ∀ k, v4.ownBlock = some k → w.heap.size + 1 < k := fun k hk => by
    rcases hn4.own k hk with h | h
    · cases h
    · have := R1.out.lt; omega
  have hpt := put_any (HE.out.later hb4) hn4.obj (by have := wA_len p; omega) ((HP.out.below hb4).mono hb4.size) HSM.out
  rw [HKD.out] at hpt
  have hln := putA_len (W := wA p) (k := 6) (r := p.reason) HSM.out
  have hwl := wA_len p
  obtain ⟨⟨pe, V⟩, hpr⟩ : ∃ r, r = putR (wA p) 6 p.reason p.props := ⟨_, rfl⟩
  rw [← hpr] at hpt hln
  have hq := HQ.out
  rw [← hpr] at hq
  simp only at hq hln
  rw [show p.agg A = .agg c from by rw [HC.out]; rfl] at hpt
  have HPT := Lib.hid hpt
  have HQ2 := Lib.hid hq
  have HLN := Lib.hid (show V.L.length ≤ 63847 from by omega)
  have RA0 := Lib.hid r0
  have RA1 := Lib.hid r1
  have HB4 := Lib.hid hb4
  have HOW := Lib.hid hown
  have HO4 := Lib.hid hn4.obj
  clear hpt hpr hq hln HQ hnot r0 r1 hb4 hown hn4 hwl HU HO HB3 R0 R1
  go_wp2_with (refine wpk_load RA0.out HCS.out _ rfl rfl rfl ?_)
  refine HPT.out.mono ?_
  rintro x w5 ⟨e5, v5, rfl, he5, hn5⟩
  simp only at he5 hn5
  have r1 := RA1.out.fr hn5.fr (fun hm => by
    rcases List.mem_cons.1 hm with h | h
    · omega
    · have := HOW.out _ (own_list.1 h)
      omega)
  have hb5 := hn5.later HO4.out HB4.out
  by_cases h0 : pe.no = 0
  · have hq := HQ2.out
    rw [if_pos h0] at hq
    unfold ErrOf at he5
    rw [if_pos h0] at he5
    subst he5
    have HFA := Lib.hid (frame_any11 98 hn5.obj (fun W1 hb => dec11 (HE.out.later (hb5.trans (hb.mono hb5.size))) 98 (show (⟨V.L.toArray⟩ : ByteArray).size ≤ 900000 from by rw [bsize]; have := HLN.out; omega)))
    have HQ3 := Lib.hid hq
    have HR1 := Lib.hid r1
    have HB5 := Lib.hid hb5
    clear hq r1 hb5 hn5 HPT HQ2
    go_wp2_with fail
    refine HFA.out.mono ?_
    rintro x w6 ⟨e6, rfl, he6, hb6⟩
    have r1 := HR1.out.below hb6 HR1.out.lt
    have hb := HB5.out.trans (hb6.mono HB5.out.size)
    obtain ⟨⟨z0, z1, y0, y1⟩, ⟨z2, y2⟩, ⟨f0, f1⟩, ferr⟩ := fr_facts (S := S) r1 (.int .i64 q.first) (.string q.s)
    have hbf := (hb.setCell (p := ⟨w.heap.size + 1, 0, none⟩) (by show w.heap.size ≤ w.heap.size + 1; omega) (.int .i64 q.first)).setCell (p := ⟨w.heap.size + 1, 1, none⟩) (by show w.heap.size ≤ w.heap.size + 1; omega) (.string q.s)
    rw [← HQ3.out] at he6 ⊢
    have HX := Lib.hid (show FrSays w S q (.returned (.tuple #[.agg #[.int .i64 q.first, .string q.s], e6])) _ from ⟨e6, rfl, ferr _ _ _ _ he6, hbf⟩)
    clear hb6 r1 hb ferr hbf he6 HFA
    go_wp2
    exact bodyPost_ret (v := .tuple #[.agg #[.int .i64 q.first, .string q.s], e6]) (by simp [results, Tryz.results20, go_sem, f0, f1]) rfl HX.out
  · have hq := HQ2.out
    rw [if_neg h0] at hq
    obtain ⟨te, ue, rfl⟩ := err_iface he5 h0
    obtain ⟨⟨z0, z1, y0, y1⟩, ⟨z2, y2⟩, ⟨f0, f1⟩, ferr⟩ := fr_facts (S := S) r1 (.int .i64 0) (.string ⟨#[]⟩)
    have hbf := (hb5.setCell (p := ⟨w.heap.size + 1, 0, none⟩) (by show w.heap.size ≤ w.heap.size + 1; omega) (.int .i64 0)).setCell (p := ⟨w.heap.size + 1, 1, none⟩) (by show w.heap.size ≤ w.heap.size + 1; omega) (.string ⟨#[]⟩)
    have HX := Lib.hid (show FrSays w S q (.returned (.tuple #[.agg #[.int .i64 0, .string ⟨#[]⟩], .iface te ue])) _ from by
      rw [hq]
      exact ⟨_, rfl, ferr _ _ _ _ he5, hbf⟩)
    clear hb5 r1 ferr hbf he5 hq hn5 HPT
    go_wp2
    exact bodyPost_ret (v := .tuple #[.agg #[.int .i64 0, .string ⟨#[]⟩], .iface te ue]) (by simp [results, Tryz.results20, go_sem, f0, f1]) rfl HX.out
set_option maxHeartbeats 8000000 in
theorem enc11_7 (hE : Env w S) (h : PkIn w w.heap.size A p) (hS : SmallP p.props) (hk : p.kind = 7) : Calls Tryz.prog 20 #[p.agg A] w (FrSays w S (enA p)) := by
  obtain ⟨q, hq⟩ : ∃ q, q = enA p := ⟨_, rfl⟩
  rw [← hq]
  unfold enA at hq
  rw [hk, show fA 7 = 112 from rfl, if_neg (by decide)] at hq
  have HQ := Lib.hid hq
  obtain ⟨c, hc⟩ : ∃ c, c = p.cells A := ⟨_, rfl⟩
  rw [show p.agg A = .agg c from by rw [hc]; rfl]
  have hcs : c.size = 26 := by rw [hc]; rfl
  have hc0 : c[0]? = some (.int .i64 p.kind) := by rw [hc]; rfl
  have hc1 : c[1]? = some (.int .i64 p.id) := by rw [hc]; rfl
  rw [hk] at hc0
  have HC := Lib.hid hc
  have HCS := Lib.hid hcs
  obtain ⟨W3, hW3⟩ : ∃ W, W = ((w.alloc (.cells c 29)).alloc (.cells #[.int .i64 0, .string ⟨#[]⟩] 33)).alloc (.cells #[.slice none 0 0, .nilIface] 64) := ⟨_, rfl⟩
  have a1 : Below w.heap.size w (w.alloc (.cells c 29)) := (Below.refl _ _).alloc (Nat.le_refl _) _
  have a2 := a1.trans (((Below.refl (w.alloc (.cells c 29)).heap.size _).alloc (Nat.le_refl _) (.cells #[.int .i64 0, .string ⟨#[]⟩] 33)).mono a1.size)
  have hb3 : Below w.heap.size w W3 := by rw [hW3]; exact a2.trans (((Below.refl ((w.alloc (.cells c 29)).alloc (.cells #[.int .i64 0, .string ⟨#[]⟩] 33)).heap.size _).alloc (Nat.le_refl _) (.cells #[.slice none 0 0, .nilIface] 64)).mono a2.size)
  have r0 : Blk W3 w.heap.size 29 c := by
    have h := ((Blk.made w 29 c).alloc (.cells #[.int .i64 0, .string ⟨#[]⟩] 33)).alloc (.cells #[.slice none 0 0, .nilIface] 64)
    rw [hW3]; exact h
  have r1 : Blk W3 (w.heap.size + 1) 33 #[.int .i64 0, .string ⟨#[]⟩] := by
    have h := (Blk.made (w.alloc (.cells c 29)) 33 #[.int .i64 0, .string ⟨#[]⟩]).alloc (.cells #[.slice none 0 0, .nilIface] 64)
    rw [World.size_alloc] at h
    rw [hW3]; exact h
  have ho : WObj W3 S w.heap.size (w.heap.size + 1 + 1) (.slice none 0 0) w0 := by
    have h := WObj.made ((w.alloc (.cells c 29)).alloc (.cells #[.int .i64 0, .string ⟨#[]⟩] 33)) S (B := w.heap.size) a2.size
    rw [World.size_alloc, World.size_alloc] at h
    rw [hW3]; exact h
  have HW3 := Lib.hid hW3
  have HB3 := Lib.hid hb3
  have R0 := Lib.hid r0
  have R1 := Lib.hid r1
  have HO := Lib.hid ho
  have HE := Lib.hid hE
  have HP := Lib.hid h
  have HSM := Lib.hid hS
  have HKD := Lib.hid hk
  have HC1 := Lib.hid hc1
  have HU := Lib.hid (wu16_any (hE.later hb3) ho (by decide) p.id)
  clear hq hc hcs hc0 a1 a2 hb3 r0 r1 ho hE h hS hW3 hk hc1
  go_enter Tryz.func20, Tryz.ntmps20
  have hc0 : c[0]? = some (.int .i64 7) := by rw [HC.out, ← HKD.out]; rfl
  have hc1 : c[1]? = some (.int .i64 p.id) := HC1.out
  go_wp2_with (refine wpk_box HCS.out _ rfl rfl rfl ?_)
  rw [← HW3.out]
  clear hc0 hc1
  refine HU.out.mono ?_
  rintro x w4 ⟨rfl, v4, hn4⟩
  rw [show stepW w0 (numE 2 p.id) = wA p from rfl] at hn4
  have hnot : ∀ m, m < w.heap.size + 1 + 1 → m ∉ (w.heap.size + 1 + 1) :: (Value.slice none 0 0).ownBlock.toList := fun m hm h => by
    rw [show (Value.slice none 0 0).ownBlock.toList = [] from rfl, List.mem_singleton] at h
    omega
  have r0 := R0.out.fr hn4.fr (hnot _ (by omega))
  have r1 := R1.out.fr hn4.fr (hnot _ (by omega))
  have hb4 := hn4.later HO.out HB3.out
  have hown : ∀ k, v4.ownBlock = some k → w.heap.size + 1 < k := fun k hk => by
    rcases hn4.own k hk with h | h
    · cases h
    · have := R1.out.lt; omega
  have hpt := put_any (HE.out.later hb4) hn4.obj (by have := wA_len p; omega) ((HP.out.below hb4).mono hb4.size) HSM.out
  rw [HKD.out] at hpt
  have hln := putA_len (W := wA p) (k := 7) (r := p.reason) HSM.out
  have hwl := wA_len p
  obtain ⟨⟨pe, V⟩, hpr⟩ : ∃ r, r = putR (wA p) 7 p.reason p.props := ⟨_, rfl⟩
  rw [← hpr] at hpt hln
  have hq := HQ.out
  rw [← hpr] at hq
  simp only at hq hln
  rw [show p.agg A = .agg c from by rw [HC.out]; rfl] at hpt
  have HPT := Lib.hid hpt
  have HQ2 := Lib.hid hq
  have HLN := Lib.hid (show V.L.length ≤ 63847 from by omega)
  have RA0 := Lib.hid r0
  have RA1 := Lib.hid r1
  have HB4 := Lib.hid hb4
  have HOW := Lib.hid hown
  have HO4 := Lib.hid hn4.obj
  clear hpt hpr hq hln HQ hnot r0 r1 hb4 hown hn4 hwl HU HO HB3 R0 R1
  go_wp2_with (refine wpk_load RA0.out HCS.out _ rfl rfl rfl ?_)
  refine HPT.out.mono ?_
  rintro x w5 ⟨e5, v5, rfl, he5, hn5⟩
  simp only at he5 hn5
  have r1 := RA1.out.fr hn5.fr (fun hm => by
    rcases List.mem_cons.1 hm with h | h
    · omega
    · have := HOW.out _ (own_list.1 h)
      omega)
  have hb5 := hn5.later HO4.out HB4.out
  by_cases h0 : pe.no = 0
  · have hq := HQ2.out
    rw [if_pos h0] at hq
    unfold ErrOf at he5
    rw [if_pos h0] at he5
    subst he5
    have HFA := Lib.hid (frame_any11 112 hn5.obj (fun W1 hb => dec11 (HE.out.later (hb5.trans (hb.mono hb5.size))) 112 (show (⟨V.L.toArray⟩ : ByteArray).size ≤ 900000 from by rw [bsize]; have := HLN.out; omega)))
    have HQ3 := Lib.hid hq
    have HR1 := Lib.hid r1
    have HB5 := Lib.hid hb5
    clear hq r1 hb5 hn5 HPT HQ2
    go_wp2_with fail
    refine HFA.out.mono ?_
    rintro x w6 ⟨e6, rfl, he6, hb6⟩
    have r1 := HR1.out.below hb6 HR1.out.lt
    have hb := HB5.out.trans (hb6.mono HB5.out.size)
    obtain ⟨⟨z0, z1, y0, y1⟩, ⟨z2, y2⟩, ⟨f0, f1⟩, ferr⟩ := fr_facts (S := S) r1 (.int .i64 q.first) (.string q.s)
    have hbf := (hb.setCell (p := ⟨w.heap.size + 1, 0, none⟩) (by show w.heap.size ≤ w.heap.size + 1; omega) (.int .i64 q.first)).setCell (p := ⟨w.heap.size + 1, 1, none⟩) (by show w.heap.size ≤ w.heap.size + 1; omega) (.string q.s)
    rw [← HQ3.out] at he6 ⊢
    have HX := Lib.hid (show FrSays w S q (.returned (.tuple #[.agg #[.int .i64 q.first, .string q.s], e6])) _ from ⟨e6, rfl, ferr _ _ _ _ he6, hbf⟩)
    clear hb6 r1 hb ferr hbf he6 HFA
    go_wp2
    exact bodyPost_ret (v := .tuple #[.agg #[.int .i64 q.first, .string q.s], e6]) (by simp [results, Tryz.results20, go_sem, f0, f1]) rfl HX.out
  · have hq := HQ2.out
    rw [if_neg h0] at hq
    obtain ⟨te, ue, rfl⟩ := err_iface he5 h0
    obtain ⟨⟨z0, z1, y0, y1⟩, ⟨z2, y2⟩, ⟨f0, f1⟩, ferr⟩ := fr_facts (S := S) r1 (.int .i64 0) (.string ⟨#[]⟩)
    have hbf := (hb5.setCell (p := ⟨w.heap.size + 1, 0, none⟩) (by show w.heap.size ≤ w.heap.size + 1; omega) (.int .i64 0)).setCell (p := ⟨w.heap.size + 1, 1, none⟩) (by show w.heap.size ≤ w.heap.size + 1; omega) (.string ⟨#[]⟩)
    have HX := Lib.hid (show FrSays w S q (.returned (.tuple #[.agg #[.int .i64 0, .string ⟨#[]⟩], .iface te ue])) _ from by
      rw [hq]
      exact ⟨_, rfl, ferr _ _ _ _ he5, hbf⟩)
    clear hb5 r1 ferr hbf he5 hq hn5 HPT
    go_wp2
    exact bodyPost_ret (v := .tuple #[.agg #[.int .i64 0, .string ⟨#[]⟩], .iface te ue]) (by simp [results, Tryz.results20, go_sem, f0, f1]) rfl HX.out
set_option maxHeartbeats 8000000 in
theorem enc11_other (hE : Env w S) (h1 : ¬ p.kind = 4) (h2 : ¬ p.kind = 5) (h3 : ¬ p.kind = 6) (h4 : ¬ p.kind = 7) : Calls Tryz.prog 20 #[p.agg A] w (FrSays w S (enA p)) := by
  obtain ⟨q, hq⟩ : ∃ q, q = enA p := ⟨_, rfl⟩
  rw [← hq]
  unfold enA at hq
  rw [if_pos (by unfold fA; rw [if_neg h1, if_neg h2, if_neg h3, if_neg h4])] at hq
  have HQ := Lib.hid hq
  obtain ⟨c, hc⟩ : ∃ c, c = p.cells A := ⟨_, rfl⟩
  rw [show p.agg A = .agg c from by rw [hc]; rfl]
  have hcs : c.size = 26 := by rw [hc]; rfl
  have hc0 : c[0]? = some (.int .i64 p.kind) := by rw [hc]; rfl
  have HC := Lib.hid hc
  have HCS := Lib.hid hcs
  generalize p.kind = kd at *
  obtain ⟨W3, hW3⟩ : ∃ W, W = (w.alloc (.cells c 29)).alloc (.cells #[.int .i64 0, .string ⟨#[]⟩] 33) := ⟨_, rfl⟩
  have a1 : Below w.heap.size w (w.alloc (.cells c 29)) := (Below.refl _ _).alloc (Nat.le_refl _) _
  have hb3 : Below w.heap.size w W3 := by rw [hW3]; exact a1.trans (((Below.refl (w.alloc (.cells c 29)).heap.size _).alloc (Nat.le_refl _) (.cells #[.int .i64 0, .string ⟨#[]⟩] 33)).mono a1.size)
  have r1 : Blk W3 (w.heap.size + 1) 33 #[.int .i64 0, .string ⟨#[]⟩] := by
    have h := Blk.made (w.alloc (.cells c 29)) 33 #[.int .i64 0, .string ⟨#[]⟩]
    rw [World.size_alloc] at h
    rw [hW3]; exact h
  have kA := (hE.later hb3).kArgument
  rw [hW3] at kA
  have HN := Lib.hid (new_err (w := W3) S 6 128 0)
  have HW3 := Lib.hid hW3
  have HB3 := Lib.hid hb3
  have R1 := Lib.hid r1
  clear hq hc hcs a1 hb3 r1 hE hW3
  go_enter Tryz.func20, Tryz.ntmps20
  go_wp2_with (refine wpk_box HCS.out _ rfl rfl rfl ?_)
  rw [← HW3.out]
  refine HN.out.mono ?_
  rintro x w5 ⟨e, rfl, he, hb⟩
  obtain ⟨te, ue, rfl⟩ := he.iface
  have r1 := R1.out.below hb R1.out.lt
  have hb5 := HB3.out.trans (hb.mono HB3.out.size)
  obtain ⟨⟨z0, z1, y0, y1⟩, ⟨z2, y2⟩, ⟨f0, f1⟩, ferr⟩ := fr_facts (S := S) r1 (.int .i64 0) (.string ⟨#[]⟩)
  have hbf := (hb5.setCell (p := ⟨w.heap.size + 1, 0, none⟩) (by show w.heap.size ≤ w.heap.size + 1; omega) (.int .i64 0)).setCell (p := ⟨w.heap.size + 1, 1, none⟩) (by show w.heap.size ≤ w.heap.size + 1; omega) (.string ⟨#[]⟩)
  have HX := Lib.hid (show FrSays w S q (.returned (.tuple #[.agg #[.int .i64 0, .string ⟨#[]⟩], .iface te ue])) _ from by
    rw [HQ.out]
    exact ⟨_, rfl, ferr _ _ _ _ (ErrOf.some (no := 7) (by decide) (by decide) he), hbf⟩)
  clear hb5 r1 ferr hbf he hb hc0 kA
  go_wp2
  exact bodyPost_ret (v := .tuple #[.agg #[.int .i64 0, .string ⟨#[]⟩], .iface te ue]) (by simp [results, Tryz.results20, go_sem, f0, f1]) rfl HX.out
theorem enc11 (hE : Env w S) (h : PkIn w w.heap.size A p) (hS : SmallP p.props) : Calls Tryz.prog 20 #[p.agg A] w (FrSays w S (enA p)) := by
  by_cases h1 : p.kind = 4
  · exact enc11_4 hE h hS h1
  · by_cases h2 : p.kind = 5
    · exact enc11_5 hE h hS h2
    · by_cases h3 : p.kind = 6
      · exact enc11_6 hE h hS h3
      · by_cases h4 : p.kind = 7
        · exact enc11_7 hE h hS h4
        · exact enc11_other hE h1 h2 h3 h4
end
end Go.Proofs.YtinhecggmakbnaaGreatDoor

/- What is proved here: what a Splitter of package frame gives next: a packet, nothing yet, or its first error. Conditions: the splitter is there, with few bytes; what the rows list of the package's variables. -/
import Derived.Test.YtfojoeafhdiaiaaDoorHed07
namespace Go.Proofs.YtfojoeafhdiaiaaDoor
set_option maxRecDepth 100000
open Go.RowKit Go.Extern.Stop Go.Stop Go.Extern
/-- A packet as a value. -/
def frV (c : Nat) (body : List UInt8) : Value := .agg #[.int .i64 c, .string ⟨body.toArray⟩]
def fr0 : Value := .agg #[.int .i64 0, .string ⟨#[]⟩]
section
variable {w w' w2 : World} {S : Nat → Addr} {B g p p' : Nat} {v v' v2 : Value} {V V' V2 : SV} {X : List Nat} {L L' : List UInt8}
theorem next_nil (w : World) : Calls Tryd.prog 43 #[.pointer none] w fun x w' => x = .returned (.tuple #[fr0, .bool false, .nilIface]) ∧ Below w.heap.size w w' := by
  have hr := Blk.made w 61 #[.int .i64 0, .string ⟨#[]⟩]
  have e0 := hr.cell 0
  have e1 := hr.cell 1
  have d0 := hr.frozen 0
  have d1 := hr.frozen 1
  go_enter Tryd.func43, Tryd.ntmps43
  go_wp2
  exact bodyPost_ret (v := .tuple #[fr0, .bool false, .nilIface]) (by simp [results, Tryd.results43, go_sem, e0, e1, fr0]) rfl ⟨rfl, (Below.refl _ _).alloc (Nat.le_refl _) _⟩
/-- What Next says where it gives nothing. -/
def NoSays (w : World) (S : Nat → Addr) (B g : Nat) (v : Value) (m : Nat) (V' : SV) (x : Ending) (w' : World) : Prop :=
  ∃ e, x = .returned (.tuple #[fr0, .bool false, e]) ∧ ErrOf w' S V'.r V'.no V'.a e ∧ ∃ v' L' p', SNext w w' S B g v v' L' p' V' ∧ L'.length ≤ m
/-- The world of a Next that gives nothing: its answer's cells are as they were made. -/
structure NIn (w W : World) (S : Nat → Addr) (B g : Nat) (v : Value) (L : List UInt8) (p : Nat) (V : SV) (r : Nat) : Prop where
  obj : SObj W S B g v L p V
  box : Blk W r 61 #[.int .i64 0, .string ⟨#[]⟩]
  bel : Below w.heap.size w W
  low : w.heap.size ≤ r
theorem NIn.below {W W' : World} {r : Nat} (h : NIn w W S B g v L p V r) (hb : Below W.heap.size W W') : NIn w W' S B g v L p V r := ⟨h.obj.below hb, h.box.below hb h.box.lt, h.bel.trans (hb.mono h.bel.size), h.low⟩
theorem NIn.drewN {W : World} {r : Nat} (h : NIn w W S B g v L p V r) (d : Nat) : NIn w (W.drewN d) S B g v L p V r := h.below (below_drewN (Below.refl _ _) d)
theorem NIn.stored {W : World} {r : Nat} (h : NIn w W S B g v L p V r) : NIn w ((W.setCell ⟨r, 0, none⟩ (.int .i64 0)).setCell ⟨r, 1, none⟩ (.string ⟨#[]⟩)) S B g v L p V r := by
  obtain ⟨e, hb, _⟩ := h.obj.blk
  have hne : g ≠ r := hb.other h.box (by decide)
  have hf : Fr [r] W ((W.setCell ⟨r, 0, none⟩ (.int .i64 0)).setCell ⟨r, 1, none⟩ (.string ⟨#[]⟩)) := ((Fr.refl [r] W).setCell (p := ⟨r, 0, none⟩) (.inl (List.mem_singleton_self r)) _).setCell (p := ⟨r, 1, none⟩) (.inl (List.mem_singleton_self r)) _
  refine ⟨h.obj.fr hf (fun hm => hne (List.mem_singleton.1 hm)) (fun k hk hm => ?_) (NoF.of fun k hk => ?_), (h.box.store 0 _).store 1 _, (h.bel.setCell h.low _).setCell h.low _, h.low⟩
  · rw [List.mem_singleton] at hm
    subst hm
    obtain ⟨_, _, cs, hh⟩ := h.obj.row.lt _ hk
    exact h.box.other hh (by decide) rfl
  · rw [List.mem_singleton] at hk
    subst hk
    exact ⟨_, _, h.box, by decide⟩
/-- Nothing was done to the splitter. -/
theorem NIn.next {W : World} {r : Nat} (h : NIn w W S B g v L p V r) (h0 : SObj w S B g v L p V) : SNext w W S B g v v L p V := h0.step h.bel
theorem NIn.boxes {W : World} {r : Nat} (h : NIn w W S B g v L p V r) : W.cell? ⟨r, 0, none⟩ = some (.int .i64 0) ∧ W.cell? ⟨r, 1, none⟩ = some (.string ⟨#[]⟩) ∧ W.frozen? ⟨r, 0, none⟩ = false ∧ W.frozen? ⟨r, 1, none⟩ = false ∧
    (W.setCell ⟨r, 0, none⟩ (.int .i64 0)).cell? ⟨r, 1, none⟩ = some (.string ⟨#[]⟩) ∧ (W.setCell ⟨r, 0, none⟩ (.int .i64 0)).frozen? ⟨r, 1, none⟩ = false ∧
    ((W.setCell ⟨r, 0, none⟩ (.int .i64 0)).setCell ⟨r, 1, none⟩ (.string ⟨#[]⟩)).cell? ⟨r, 0, none⟩ = some (.int .i64 0) ∧ ((W.setCell ⟨r, 0, none⟩ (.int .i64 0)).setCell ⟨r, 1, none⟩ (.string ⟨#[]⟩)).cell? ⟨r, 1, none⟩ = some (.string ⟨#[]⟩) := by
  have h1 := h.box.store 0 (.int .i64 0)
  have h2 := h1.store 1 (.string ⟨#[]⟩)
  exact ⟨h.box.cell 0, h.box.cell 1, h.box.frozen 0, h.box.frozen 1, h1.cell 1, h1.frozen 1, h2.cell 0, h2.cell 1⟩
theorem next_err (h : SObj w S B g v L p V) (h0 : V.no ≠ 0) : Calls Tryd.prog 43 #[.pointer (some ⟨g, 0, none⟩)] w (NoSays w S B g v L.length V) := by
  have hb0 : Below w.heap.size w (w.alloc (.cells #[.int .i64 0, .string ⟨#[]⟩] 61)) := (Below.refl _ _).alloc (Nat.le_refl _) _
  have h2 := h.below hb0
  obtain ⟨t, u, hb, he⟩ := h2.has_err h0
  have hi0 : NIn w (w.alloc (.cells #[.int .i64 0, .string ⟨#[]⟩] 61)) S B g v L p V w.heap.size := ⟨h2, Blk.made w _ _, hb0, Nat.le_refl _⟩
  have HO := Lib.hid h
  have hee : Hid (∀ W : World, NIn w W S B g v L p V w.heap.size → W.cell? ⟨g, 3, none⟩ = some (.iface t u)) := Lib.hid fun W hi => by
    have e3 := (World.cell?_of_block (w := w) (hi.bel.block g h.lt) (a := ⟨g, 3, none⟩))
    have e4 := (World.cell?_of_block (w := w) (hb0.block g h.lt) (a := ⟨g, 3, none⟩))
    exact e3.trans (e4.symm.trans (hb.cell 3))
  have KT := Lib.hid (fun (W : World) (h : NIn w W S B g v L p V w.heap.size) => show W.cell? ⟨g, 3, none⟩ = some (.iface t u) ∧ W.cell? ⟨w.heap.size, 0, none⟩ = some (.int .i64 0) ∧ W.cell? ⟨w.heap.size, 1, none⟩ = some (.string ⟨#[]⟩) ∧ W.frozen? ⟨w.heap.size, 0, none⟩ = false ∧ W.frozen? ⟨w.heap.size, 1, none⟩ = false from ⟨hee.out W h, h.box.cell 0, h.box.cell 1, h.box.frozen 0, h.box.frozen 1⟩)
  have HER := Lib.hid (fun (W : World) (hi : NIn w W S B g v L p V w.heap.size) => show ErrOf W S V.r V.no V.a (.iface t u) from by
    obtain ⟨t', u', hb', he'⟩ := hi.obj.has_err h0
    have q := hb'.cell 3
    rw [hee.out W hi] at q
    injection q with q
    rw [q]
    exact he')
  obtain ⟨c3, e0, e1, d0, d1⟩ := KT.out _ hi0
  clear h h2 hb0 hb he
  go_enter Tryd.func43, Tryd.ntmps43
  go_wp2
  go_region_held3 (fun W => W.cell? ⟨g, 3, none⟩ = some (.iface t u) ∧ W.cell? ⟨w.heap.size, 0, none⟩ = some (.int .i64 0) ∧ W.cell? ⟨w.heap.size, 1, none⟩ = some (.string ⟨#[]⟩) ∧ W.frozen? ⟨w.heap.size, 0, none⟩ = false ∧ W.frozen? ⟨w.heap.size, 1, none⟩ = false)
    (first | assumption | (exact KT.out _ (by assumption)) | (exact KT.out _ (NIn.drewN (by assumption) 1)) | (exact KT.out _ (NIn.stored (by assumption))) | (exact KT.out _ (NIn.stored (NIn.drewN (by assumption) 1))))
    (fail)
  have hi1 := hi0.drewN 1
  obtain ⟨_, f0, f1, _, _⟩ := KT.out _ hi1
  have HX := Lib.hid (HER.out _ hi1)
  have HN := Lib.hid (hi1.next HO.out)
  have f2 : (w.alloc (.cells #[.int .i64 0, .string ⟨#[]⟩] 61)).drew.cell? ⟨w.heap.size, 0, none⟩ = some (.int .i64 0) := f0
  have f3 : (w.alloc (.cells #[.int .i64 0, .string ⟨#[]⟩] 61)).drew.cell? ⟨w.heap.size, 1, none⟩ = some (.string ⟨#[]⟩) := f1
  clear c3 e0 e1 d0 d1 hi0 hi1 f0 f1
  go_wp2
  exact bodyPost_ret (v := .tuple #[fr0, .bool false, .iface t u]) (by simp [results, Tryd.results43, go_sem, f2, f3, fr0]) rfl ⟨_, rfl, HX.out, _, _, _, HN.out, Nat.le_refl _⟩
theorem next_none (hE : Env w S) (h : SObj w S B g v L p V) (h0 : V.no = 0) (hl : L.length ≤ 900000) (q : HV) (hq : headF V.most V.R = q) (hno : q.no = 0) (hz : q.z = 0 ∨ V.R.length < q.z) : Calls Tryd.prog 43 #[.pointer (some ⟨g, 0, none⟩)] w (NoSays w S B g v L.length V) := by
  have hb0 : Below w.heap.size w (w.alloc (.cells #[.int .i64 0, .string ⟨#[]⟩] 61)) := (Below.refl _ _).alloc (Nat.le_refl _) _
  have h2 := h.below hb0
  have hi0 : NIn w (w.alloc (.cells #[.int .i64 0, .string ⟨#[]⟩] 61)) S B g v L p V w.heap.size := ⟨h2, Blk.made w _ _, hb0, Nat.le_refl _⟩
  have c3 := (h2.nil_err h0).cell 3
  have HH := Lib.hid (head_any (hE.later hb0) h2 h0 hl)
  have HO := Lib.hid h
  have HI0 := Lib.hid hi0
  have HL := Lib.hid (fun (W : World) (hi : NIn w W S B g v L p V w.heap.size) => sleft_any hi.obj (by omega))
  have e1 : leftV V = V.R.length := by unfold leftV; rw [if_pos h0]
  rw [e1] at HL
  have HER : Hid (ErrOf w S V.r V.no V.a .nilIface) := Lib.hid (by unfold ErrOf; rw [if_pos h0])
  rw [hq] at HH
  obtain ⟨qh, qz, qno, qr, qa⟩ := q
  simp only at hno hz
  subst hno
  generalize V.R.length = rl at *
  clear h h2 hb0 hi0 hE e1 hq
  go_enter Tryd.func43, Tryd.ntmps43
  go_wp2_with fail
  refine HH.out.mono ?_
  rintro x w1 ⟨e, rfl, he, hb⟩
  obtain rfl : e = .nilIface := he
  have HI1 := Lib.hid (HI0.out.below hb)
  clear hb HH
  rcases Nat.eq_zero_or_pos qz with hqz | hqz
  · subst hqz
    obtain ⟨x0, x1, y0, y1, x2, y2, x3, x4⟩ := HI1.out.boxes
    have HN := Lib.hid (HI1.out.stored.next HO.out)
    clear hz
    go_wp2_with fail
    exact bodyPost_ret (v := .tuple #[fr0, .bool false, .nilIface]) (by simp [results, Tryd.results43, go_sem, x3, x4, fr0]) rfl ⟨_, rfl, by unfold ErrOf; rw [if_pos h0], _, _, _, HN.out, Nat.le_refl _⟩
  · have hlt : rl < qz := by omega
    have hne : ((qz : Int) == 0) = false := beq_eq_false_iff_ne.2 (by omega)
    clear hz
    go_wp2_with fail
    refine (HL.out _ HI1.out).mono ?_
    rintro x w2 ⟨rfl, hb2⟩
    have HI2 := Lib.hid (HI1.out.below hb2)
    obtain ⟨x0, x1, y0, y1, x2, y2, x3, x4⟩ := HI2.out.boxes
    have HN := Lib.hid (HI2.out.stored.next HO.out)
    clear hb2 HI1
    go_wp2_with fail
    exact bodyPost_ret (v := .tuple #[fr0, .bool false, .nilIface]) (by simp [results, Tryd.results43, go_sem, x3, x4, fr0]) rfl ⟨_, rfl, by unfold ErrOf; rw [if_pos h0], _, _, _, HN.out, Nat.le_refl _⟩
/-- The first error: it is kept, with how many bytes are left, and the bytes are gone. -/
theorem SObj.failed (h : SObj w S B g v L p V) {r : Int} {no a lost : Nat} {e : Value} (he : ErrOf w S r no a e) (hn : no ≠ 0) :
    SNext w (((w.setCell ⟨g, 4, none⟩ (.int .i64 lost)).setCell ⟨g, 3, none⟩ e).setCell ⟨g, 1, none⟩ (.slice none 0 0)) S B g v (.slice none 0 0) [] p ⟨V.most, V.R, no, r, a, lost⟩ := by
  obtain ⟨e0, hb, _⟩ := h.blk
  have hf : Fr [g] w (((w.setCell ⟨g, 4, none⟩ (.int .i64 lost)).setCell ⟨g, 3, none⟩ e).setCell ⟨g, 1, none⟩ (.slice none 0 0)) := (((Fr.refl [g] w).setCell (p := ⟨g, 4, none⟩) (.inl (List.mem_singleton_self g)) _).setCell (p := ⟨g, 3, none⟩) (.inl (List.mem_singleton_self g)) _).setCell (p := ⟨g, 1, none⟩) (.inl (List.mem_singleton_self g)) _
  exact ⟨⟨h.low, ⟨e, ((hb.store 4 _).store 3 e).store 1 _, err_fr he hf h.nof⟩, BRow.nil _ _, fun h' => absurd h' hn, fun h' => absurd h' hn⟩, hf.mono (fun b hb _ => by rw [List.mem_singleton] at hb; subst hb; exact List.mem_cons_self ..), fun k hk => by cases hk⟩
theorem box_facts {W : World} {r : Nat} (h : Blk W r 61 #[.int .i64 0, .string ⟨#[]⟩]) (a b : Value) : W.cell? ⟨r, 0, none⟩ = some (.int .i64 0) ∧ W.cell? ⟨r, 1, none⟩ = some (.string ⟨#[]⟩) ∧ W.frozen? ⟨r, 0, none⟩ = false ∧ W.frozen? ⟨r, 1, none⟩ = false ∧
    (W.setCell ⟨r, 0, none⟩ a).cell? ⟨r, 1, none⟩ = some (.string ⟨#[]⟩) ∧ (W.setCell ⟨r, 0, none⟩ a).frozen? ⟨r, 1, none⟩ = false ∧
    ((W.setCell ⟨r, 0, none⟩ a).setCell ⟨r, 1, none⟩ b).cell? ⟨r, 0, none⟩ = some a ∧ ((W.setCell ⟨r, 0, none⟩ a).setCell ⟨r, 1, none⟩ b).cell? ⟨r, 1, none⟩ = some b := by
  have h1 := h.store 0 a
  have h2 := h1.store 1 b
  exact ⟨h.cell 0, h.cell 1, h.frozen 0, h.frozen 1, h1.cell 1, h1.frozen 1, h2.cell 0, h2.cell 1⟩
/-- The answer is stored in its own cells. -/
theorem SNext.boxed {W3 : World} {r : Nat} (hb2 : Below w.heap.size w w2) (hn : SNext w2 W3 S B g v v' L' p' V') (hbx : Blk W3 r 61 #[.int .i64 0, .string ⟨#[]⟩]) (hr : w.heap.size ≤ r) (hgr : g ≠ r) (a b : Value) :
    SNext w ((W3.setCell ⟨r, 0, none⟩ a).setCell ⟨r, 1, none⟩ b) S B g v v' L' p' V' ∧ ∀ {rr : Int} {no aa : Nat} {e : Value}, ErrOf W3 S rr no aa e → ErrOf ((W3.setCell ⟨r, 0, none⟩ a).setCell ⟨r, 1, none⟩ b) S rr no aa e := by
  have hf : Fr [r] W3 ((W3.setCell ⟨r, 0, none⟩ a).setCell ⟨r, 1, none⟩ b) := ((Fr.refl [r] W3).setCell (p := ⟨r, 0, none⟩) (.inl (List.mem_singleton_self r)) _).setCell (p := ⟨r, 1, none⟩) (.inl (List.mem_singleton_self r)) _
  have hX : NoF W3 [r] := NoF.of fun k hk => by
    rw [List.mem_singleton] at hk
    subst hk
    exact ⟨_, _, hbx, by decide⟩
  have hv : ∀ k, v'.ownBlock = some k → k ∉ [r] := fun k hk hm => by
    rw [List.mem_singleton] at hm
    subst hm
    obtain ⟨_, _, cs, hh⟩ := hn.obj.row.lt _ hk
    exact hbx.other hh (by decide) rfl
  have hp := hn.pre hb2
  refine ⟨⟨hn.obj.fr hf (fun hm => hgr (List.mem_singleton.1 hm)) hv hX, (hp.fr.setCell (.inr hr) _).setCell (.inr hr) _, hp.own⟩, fun he => err_fr he hf hX⟩
set_option maxHeartbeats 4000000 in
theorem next_bad (hE : Env w S) (h : SObj w S B g v L p V) (h0 : V.no = 0) (hl : L.length ≤ 900000) (q : HV) (hq : headF V.most V.R = q) (hno : q.no ≠ 0) : Calls Tryd.prog 43 #[.pointer (some ⟨g, 0, none⟩)] w (NoSays w S B g v 0 ⟨V.most, V.R, q.no, q.r, q.a, V.R.length⟩) := by
  have hb0 : Below w.heap.size w (w.alloc (.cells #[.int .i64 0, .string ⟨#[]⟩] 61)) := (Below.refl _ _).alloc (Nat.le_refl _) _
  have h2 := h.below hb0
  have hi0 : NIn w (w.alloc (.cells #[.int .i64 0, .string ⟨#[]⟩] 61)) S B g v L p V w.heap.size := ⟨h2, Blk.made w _ _, hb0, Nat.le_refl _⟩
  have c3 := (h2.nil_err h0).cell 3
  have HH := Lib.hid (head_any (hE.later hb0) h2 h0 hl)
  have HG := Lib.hid h.lt
  have HI0 := Lib.hid hi0
  have HL := Lib.hid (fun (W : World) (hi : NIn w W S B g v L p V w.heap.size) => sleft_any hi.obj (by omega))
  have e1 : leftV V = V.R.length := by unfold leftV; rw [if_pos h0]
  rw [e1] at HL
  rw [hq] at HH
  obtain ⟨qh, qz, qno, qr, qa⟩ := q
  simp only at hno ⊢
  generalize V.R.length = rl at *
  clear h h2 hb0 hi0 hE e1 hq
  go_enter Tryd.func43, Tryd.ntmps43
  go_wp2_with fail
  refine HH.out.mono ?_
  rintro x w1 ⟨e, rfl, he, hb⟩
  obtain ⟨t1, u1, rfl⟩ := err_iface he hno
  have HI1 := Lib.hid (HI0.out.below hb)
  have HX1 := Lib.hid he
  clear hb HH he
  go_wp2_with fail
  refine (HL.out _ HI1.out).mono ?_
  rintro x w2 ⟨rfl, hb2⟩
  have HI2 := Lib.hid (HI1.out.below hb2)
  have HX2 := Lib.hid (HX1.out.later hb2)
  have hN := HI2.out.obj.failed (lost := rl) HX2.out hno
  have hob := HI2.out.obj.nil_err h0
  have hne : w.heap.size ≠ g := by have := HG.out; omega
  have a4 := hob.cell 4
  have b4 := hob.frozen 4
  have hob2 := hob.store 4 (.int .i64 rl)
  have a3 := hob2.cell 3
  have b3 := hob2.frozen 3
  have hob3 := hob2.store 3 (.iface t1 u1)
  have a1 := hob3.cell 1
  have b1 := hob3.frozen 1
  have hbx := ((HI2.out.box.far (p := ⟨g, 4, none⟩) hne (.int .i64 rl)).far (p := ⟨g, 3, none⟩) hne (.iface t1 u1)).far (p := ⟨g, 1, none⟩) hne (.slice none 0 0)
  have hfin := hN.boxed HI2.out.bel hbx (Nat.le_refl _) (fun e => hne e.symm) (.int .i64 0) (.string ⟨#[]⟩)
  have her : ErrOf (((w2.setCell ⟨g, 4, none⟩ (.int .i64 rl)).setCell ⟨g, 3, none⟩ (.iface t1 u1)).setCell ⟨g, 1, none⟩ (.slice none 0 0)) S qr qno qa (.iface t1 u1) := by
    obtain ⟨e', hb', he'⟩ := hN.obj.blk
    have q3 := hb'.cell 3
    have q4 := (hob3.store 1 (.slice none 0 0)).cell 3
    have e3 : e' = .iface t1 u1 := by
      have hh := q3.symm.trans q4
      simpa using hh
    rw [e3] at he'
    exact he'
  have HE := Lib.hid (hfin.2 her)
  have HN := Lib.hid hfin.1
  obtain ⟨x0, x1, y0, y1, x2, y2, x3, x4⟩ := box_facts hbx (.int .i64 0) (.string ⟨#[]⟩)
  clear hN hob hob2 hob3 hb2 HI1 HX1 hfin her hbx
  go_wp2_with fail
  exact bodyPost_ret (v := .tuple #[fr0, .bool false, .iface t1 u1]) (by simp [results, Tryd.results43, go_sem, x3, x4, fr0]) rfl ⟨_, rfl, HE.out, _, _, _, HN.out, Nat.le_refl _⟩
end
end Go.Proofs.YtfojoeafhdiaiaaDoor

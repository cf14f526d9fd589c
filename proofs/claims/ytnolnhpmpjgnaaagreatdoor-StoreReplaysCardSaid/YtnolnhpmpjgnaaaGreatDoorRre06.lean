/- What is proved here: what the document reads of a property. Conditions: the reader is there, with few bytes; the property has a type. What is proved here: what the document reads of properties. Conditions: the reader is there, with few bytes. -/
import Derived.Test.YtnolnhpmpjgnaaaGreatDoorFil06
import Derived.Test.YtnolnhpmpjgnaaaGreatDoorRru04
import Derived.Test.YtnolnhpmpjgnaaaGreatDoorRea06
import Derived.Test.YtnolnhpmpjgnaaaGreatDoorRck06
import Derived.Deep.DeepCutAuto
namespace Go.Proofs.YtnolnhpmpjgnaaaGreatDoor
set_option maxRecDepth 100000
open Go.RowKit Go.Extern.Stop Go.Stop Go.Extern
/-- What value holds. -/
structure VlIn (w W : World) (g bx : Nat) (s : ByteArray) (R : RV) (p : PV) : Prop where
  obj : RRObj W g s R
  rbox : Blk W w.heap.size 98 #[.int .i64 0, .int .i64 0, .string ⟨#[]⟩, .string ⟨#[]⟩]
  box : Blk W bx 98 #[.int .i64 p.id, .int .i64 p.n, .string p.s, .string p.v]
  fr : Fr [g] w W
  ne : w.heap.size < bx
  gl : g < w.heap.size
section
variable {w W W' : World} {g bx : Nat} {s : ByteArray} {R R' : RV} {p : PV}
theorem VlIn.below (h : VlIn w W g bx s R p) (hb : Below W.heap.size W W') : VlIn w W' g bx s R p :=
  ⟨h.obj.below hb, h.rbox.below hb h.rbox.lt, h.box.below hb h.box.lt, h.fr.trans (Y := []) (Fr.of_below hb) (fun k hk => by cases hk), h.ne, h.gl⟩
theorem VlIn.step (h : VlIn w W g bx s R p) (hn : RRNext W W' g s R') : VlIn w W' g bx s R' p := by
  have hl := h.gl
  have hne := h.ne
  refine ⟨hn.obj, h.rbox.fr hn.fr fun hm => ?_, h.box.fr hn.fr fun hm => ?_, h.fr.trans hn.fr fun k hk _ => hk, h.ne, h.gl⟩
  · rw [List.mem_singleton] at hm
    omega
  · rw [List.mem_singleton] at hm
    omega
theorem VlIn.put (h : VlIn w W g bx s R p) (hf : Fr [bx] W W') (q : PV) (hb : Blk W' bx 98 #[.int .i64 q.id, .int .i64 q.n, .string q.s, .string q.v]) : VlIn w W' g bx s R q := by
  have hl := h.gl
  have hne := h.ne
  refine ⟨h.obj.fr hf fun hm => ?_, h.rbox.fr hf fun hm => ?_, hb, h.fr.trans hf fun k hk hlt => ?_, h.ne, h.gl⟩
  · rw [List.mem_singleton] at hm
    omega
  · rw [List.mem_singleton] at hm
    omega
  · rw [List.mem_singleton] at hk
    omega
theorem VlIn.set1 (h : VlIn w W g bx s R p) (n : Int) : VlIn w (W.setCell ⟨bx, 1, none⟩ (.int .i64 n)) g bx s R ⟨p.id, n, p.s, p.v⟩ :=
  h.put ((Fr.refl [bx] W).setCell (p := ⟨bx, 1, none⟩) (.inl (List.mem_singleton_self _)) _) ⟨p.id, n, p.s, p.v⟩ (h.box.store 1 (.int .i64 n))
theorem VlIn.set2 (h : VlIn w W g bx s R p) (x : ByteArray) : VlIn w (W.setCell ⟨bx, 2, none⟩ (.string x)) g bx s R ⟨p.id, p.n, x, p.v⟩ :=
  h.put ((Fr.refl [bx] W).setCell (p := ⟨bx, 2, none⟩) (.inl (List.mem_singleton_self _)) _) ⟨p.id, p.n, x, p.v⟩ (h.box.store 2 (.string x))
theorem VlIn.set3 (h : VlIn w W g bx s R p) (x : ByteArray) : VlIn w (W.setCell ⟨bx, 3, none⟩ (.string x)) g bx s R ⟨p.id, p.n, p.s, x⟩ :=
  h.put ((Fr.refl [bx] W).setCell (p := ⟨bx, 3, none⟩) (.inl (List.mem_singleton_self _)) _) ⟨p.id, p.n, p.s, x⟩ (h.box.store 3 (.string x))
theorem VlIn.done (h : VlIn w W g bx s R p) (a b c d : Value) : RRNext w ((((W.setCell ⟨w.heap.size, 0, none⟩ a).setCell ⟨w.heap.size, 1, none⟩ b).setCell ⟨w.heap.size, 2, none⟩ c).setCell ⟨w.heap.size, 3, none⟩ d) g s R := by
  have hl := h.gl
  have hf : Fr [w.heap.size] W ((((W.setCell ⟨w.heap.size, 0, none⟩ a).setCell ⟨w.heap.size, 1, none⟩ b).setCell ⟨w.heap.size, 2, none⟩ c).setCell ⟨w.heap.size, 3, none⟩ d) :=
    ((((Fr.refl [w.heap.size] W).setCell (p := ⟨w.heap.size, 0, none⟩) (.inl (List.mem_singleton_self _)) _).setCell (p := ⟨w.heap.size, 1, none⟩) (.inl (List.mem_singleton_self _)) _).setCell (p := ⟨w.heap.size, 2, none⟩) (.inl (List.mem_singleton_self _)) _).setCell (p := ⟨w.heap.size, 3, none⟩) (.inl (List.mem_singleton_self _)) _
  refine ⟨h.obj.fr hf fun hm => ?_, h.fr.trans hf fun k hk hlt => ?_⟩
  · rw [List.mem_singleton] at hm
    omega
  · rw [List.mem_singleton] at hk
    omega
def RvSays (w : World) (g : Nat) (s : ByteArray) (q : PV × RV) (x : Ending) (w' : World) : Prop := x = .returned q.1.agg ∧ RRNext w w' g s q.2
theorem type_of (i : Int) (h9 : typeI i ≠ 9) (h0 : typeI i ≠ 0) : (typeI i : Int) = 1 ∨ (typeI i : Int) = 2 ∨ (typeI i : Int) = 4 ∨ (typeI i : Int) = 5 ∨ (typeI i : Int) = 6 ∨ (typeI i : Int) = 7 := by
  rcases typeI_vals i with ht | ht | ht | ht | ht | ht | ht | ht <;> rw [ht] at h9 h0 ⊢ <;> simp_all
set_option maxHeartbeats 2000000 in
theorem rvalue_any (h : RRObj w g s R) (hs : s.size ≤ 900000) (i : Int) (h0 : typeI i ≠ 0) :
    Calls Tryz.prog 58 #[.pointer (some ⟨g, 0, none⟩), .int .i64 i] w (RvSays w g s (valF i s R)) := by
  have hb0 : Below w.heap.size w (w.alloc (.cells #[.int .i64 0, .int .i64 0, .string ⟨#[]⟩, .string ⟨#[]⟩] 98)) := (Below.refl _ _).alloc (Nat.le_refl _) _
  have hb1 : Below (w.alloc (.cells #[.int .i64 0, .int .i64 0, .string ⟨#[]⟩, .string ⟨#[]⟩] 98)).heap.size (w.alloc (.cells #[.int .i64 0, .int .i64 0, .string ⟨#[]⟩, .string ⟨#[]⟩] 98)) ((w.alloc (.cells #[.int .i64 0, .int .i64 0, .string ⟨#[]⟩, .string ⟨#[]⟩] 98)).alloc (.cells #[.int .i64 i, .int .i64 0, .string ⟨#[]⟩, .string ⟨#[]⟩] 98)) := (Below.refl _ _).alloc (Nat.le_refl _) _
  have hr0 := Blk.made w 98 #[.int .i64 0, .int .i64 0, .string ⟨#[]⟩, .string ⟨#[]⟩]
  have hx0 := Blk.made (w.alloc (.cells #[.int .i64 0, .int .i64 0, .string ⟨#[]⟩, .string ⟨#[]⟩] 98)) 98 #[.int .i64 i, .int .i64 0, .string ⟨#[]⟩, .string ⟨#[]⟩]
  rw [World.size_alloc] at hx0
  have hi0 : VlIn w ((w.alloc (.cells #[.int .i64 0, .int .i64 0, .string ⟨#[]⟩, .string ⟨#[]⟩] 98)).alloc (.cells #[.int .i64 i, .int .i64 0, .string ⟨#[]⟩, .string ⟨#[]⟩] 98)) g (w.heap.size + 1) s R ⟨i, 0, ⟨#[]⟩, ⟨#[]⟩⟩ :=
    ⟨(h.below hb0).below hb1, hr0.below hb1 hr0.lt, hx0, (Fr.of_below hb0).trans (Y := []) (Fr.of_below hb1) (fun k hk => by cases hk), Nat.lt_succ_self _, h.lt⟩
  have HI0 := Lib.hid hi0
  have HTY := Lib.hid (fun W : World => rtype06_any i W)
  obtain ⟨q, hq⟩ : ∃ q, q = valF i s R := ⟨_, rfl⟩
  rw [← hq]
  by_cases h9 : typeI i = 9
  · rw [val_9 s R h9] at hq
    have HT := Lib.hid (rrtext_any hi0.obj hs)
    have HT2 := Lib.hid (fun (W1 : World) (R1 : RV) (h : RRObj W1 g s R1) => rrtext_any h hs)
    obtain ⟨⟨t1, R1⟩, h1⟩ : ∃ b, b = rText s R := ⟨_, rfl⟩
    rw [← h1] at HT hq
    simp only at HT hq
    obtain ⟨⟨t2, R2⟩, h2⟩ : ∃ b, b = rText s R1 := ⟨_, rfl⟩
    rw [← h2] at hq
    simp only at hq
    have HQ := Lib.hid hq
    have HR2 := Lib.hid h2
    rw [h9] at HTY
    clear hb0 hb1 hr0 hx0 hi0 h hq h1 h2 h0 h9
    go_enter Tryz.func58, Tryz.ntmps58
    go_wp2_with fail
    refine (HTY.out _).mono ?_
    rintro x w1 ⟨rfl, rfl⟩
    go_wp2_with fail
    refine HT.out.mono ?_
    rintro x w2 ⟨rfl, hN2⟩
    have HI2 := Lib.hid (HI0.out.step hN2)
    have a0 : w2.cell? ⟨w.heap.size + 1, 2, none⟩ = some (.string ⟨#[]⟩) := HI2.out.box.cell 2
    have a1 : w2.frozen? ⟨w.heap.size + 1, 2, none⟩ = false := HI2.out.box.frozen 2
    have HI3 := Lib.hid (HI2.out.set2 t1)
    have HT3 := Lib.hid (HT2.out _ _ HI3.out.obj)
    rw [← HR2.out] at HT3
    simp only at HT3
    clear hN2 HT HT2
    go_wp2_with fail
    refine HT3.out.mono ?_
    rintro x w3 ⟨rfl, hN3⟩
    have HI4 := Lib.hid (HI3.out.step hN3)
    have b0 : w3.cell? ⟨w.heap.size + 1, 3, none⟩ = some (.string ⟨#[]⟩) := HI4.out.box.cell 3
    have b1 : w3.frozen? ⟨w.heap.size + 1, 3, none⟩ = false := HI4.out.box.frozen 3
    have HI5 := Lib.hid (HI4.out.set3 t2)
    have c0 := HI5.out.box.cell 0
    have c1 := HI5.out.box.cell 1
    have c2 := HI5.out.box.cell 2
    have c3 := HI5.out.box.cell 3
    obtain ⟨⟨q0, q1, q2, q3, p0', p1', p2', p3'⟩, ⟨x1, y1, x2, y2, x3, y3⟩, ⟨k2, l2, k3, l3, m3, n3⟩, z0, z1, z2, z3⟩ := box4 HI5.out.rbox (.int .i64 i) (.int .i64 0) (.string t1) (.string t2)
    have HX := Lib.hid (HI5.out.done (.int .i64 i) (.int .i64 0) (.string t1) (.string t2))
    clear hN3 HT3 a0 a1
    go_wp2_with fail
    refine bodyPost_ret (v := .agg #[.int .i64 i, .int .i64 0, .string t1, .string t2]) (by simp [results, Tryz.results58, go_sem, z0, z1, z2, z3]) rfl ?_
    rw [HQ.out]
    exact ⟨rfl, HX.out⟩
  · have hk := type_of i h9 h0
    have HD := Lib.hid (rrdo_any hi0.obj hs (typeI i : Int) 0 ⟨#[]⟩ hk)
    unfold valF at hq
    rw [if_neg h9, if_neg h0] at hq
    have hn9 : ¬ ((typeI i : Int) = 9) := by omega
    generalize typeI i = t at *
    obtain ⟨⟨n, x, R2⟩, hr⟩ : ∃ b, b = rdA (t : Int) s R := ⟨_, rfl⟩
    rw [← hr] at HD hq
    simp only at HD hq
    have HQ := Lib.hid hq
    clear hb0 hb1 hr0 hx0 hi0 h hq hr h0 h9 hk
    go_enter Tryz.func58, Tryz.ntmps58
    go_wp2_with fail
    refine (HTY.out _).mono ?_
    rintro x w1 ⟨rfl, rfl⟩
    go_wp2_with fail
    refine HD.out.mono ?_
    rintro y w2 ⟨rfl, hN2⟩
    have HI2 := Lib.hid (HI0.out.step hN2)
    have a0 : w2.cell? ⟨w.heap.size + 1, 1, none⟩ = some (.int .i64 0) := HI2.out.box.cell 1
    have a1 : w2.frozen? ⟨w.heap.size + 1, 1, none⟩ = false := HI2.out.box.frozen 1
    have HI3 := Lib.hid (HI2.out.set1 n)
    have b0 : (w2.setCell ⟨w.heap.size + 1, 1, none⟩ (.int .i64 n)).cell? ⟨w.heap.size + 1, 2, none⟩ = some (.string ⟨#[]⟩) := HI3.out.box.cell 2
    have b1 : (w2.setCell ⟨w.heap.size + 1, 1, none⟩ (.int .i64 n)).frozen? ⟨w.heap.size + 1, 2, none⟩ = false := HI3.out.box.frozen 2
    have HI5 := Lib.hid (HI3.out.set2 x)
    have c0 := HI5.out.box.cell 0
    have c1 := HI5.out.box.cell 1
    have c2 := HI5.out.box.cell 2
    have c3 := HI5.out.box.cell 3
    obtain ⟨⟨q0, q1, q2, q3, p0', p1', p2', p3'⟩, ⟨x1, y1, x2, y2, x3, y3⟩, ⟨k2, l2, k3, l3, m3, n3⟩, z0, z1, z2, z3⟩ := box4 HI5.out.rbox (.int .i64 i) (.int .i64 n) (.string x) (.string ⟨#[]⟩)
    have HX := Lib.hid (HI5.out.done (.int .i64 i) (.int .i64 n) (.string x) (.string ⟨#[]⟩))
    clear hN2 HD
    go_wp2_with fail
    refine bodyPost_ret (v := .agg #[.int .i64 i, .int .i64 n, .string x, .string ⟨#[]⟩]) (by simp [results, Tryz.results58, go_sem, z0, z1, z2, z3]) rfl ?_
    rw [HQ.out]
    exact ⟨rfl, HX.out⟩
end
end Go.Proofs.YtnolnhpmpjgnaaaGreatDoor
namespace Go.Proofs.YtnolnhpmpjgnaaaGreatDoor
set_option maxRecDepth 100000
open Go.RowKit Go.Extern.Stop Go.Stop Go.Extern
/-- What the document's Read holds. -/
structure RRdIn (w W : World) (g g2 : Nat) (s : ByteArray) (R2 : RV) (t : ByteArray) (Rt : RV) (u : Value) (L : PL) : Prop where
  inn : RRObj W g2 t Rt
  out : RRObj W g s R2
  row : PRow W w.heap.size u L
  fb : Blk W w.heap.size 34 #[.int .i64 0, .int .i64 0, .int .i64 0]
  fr : Fr [g] w W
  g2w : w.heap.size < g2
  glt : g < w.heap.size
section
variable {w W W' : World} {g g2 fx : Nat} {s t : ByteArray} {R R' R2 Rt Rt' : RV} {u u' : Value} {L L' : PL}
theorem RRdIn.below (h : RRdIn w W g g2 s R2 t Rt u L) (hb : Below W.heap.size W W') : RRdIn w W' g g2 s R2 t Rt u L :=
  ⟨h.inn.below hb, h.out.below hb, h.row.below hb, h.fb.below hb h.fb.lt, h.fr.trans (Y := []) (Fr.of_below hb) (fun k hk => by cases hk), h.g2w, h.glt⟩
theorem RRdIn.step (h : RRdIn w W g g2 s R2 t Rt u L) (hn : RRNext W W' g2 t Rt') : RRdIn w W' g g2 s R2 t Rt' u L := by
  have h1 := h.glt
  have h2 := h.g2w
  refine ⟨hn.obj, h.out.fr hn.fr (fun hm => ?_), h.row.fr hn.fr fun k hk hm => ?_, h.fb.fr hn.fr fun hm => ?_, h.fr.trans hn.fr fun k hk hlt => ?_, h.g2w, h.glt⟩
  · rw [List.mem_singleton] at hm
    omega
  · rw [List.mem_singleton] at hm
    subst hm
    obtain ⟨_, _, cs, hh⟩ := h.row.lt k hk
    exact h.inn.blk.other hh (by decide) rfl
  · rw [List.mem_singleton] at hm
    omega
  · rw [List.mem_singleton] at hk
    omega
/-- A block of its own changes. -/
theorem RRdIn.put (h : RRdIn w W g g2 s R2 t Rt u L) (hf : Fr [fx] W W') (h1 : w.heap.size < fx) (h2 : fx ≠ g2) (h3 : ∀ k, u.ownBlock = some k → k ≠ fx) : RRdIn w W' g g2 s R2 t Rt u L := by
  have h4 := h.glt
  refine ⟨h.inn.fr hf (fun hm => ?_), h.out.fr hf (fun hm => ?_), h.row.fr hf fun k hk hm => ?_, h.fb.fr hf fun hm => ?_, h.fr.trans hf fun k hk hlt => ?_, h.g2w, h.glt⟩
  · rw [List.mem_singleton] at hm
    exact h2 hm.symm
  · rw [List.mem_singleton] at hm
    omega
  · rw [List.mem_singleton] at hm
    exact h3 k hk hm
  · rw [List.mem_singleton] at hm
    omega
  · rw [List.mem_singleton] at hk
    omega
theorem RRdIn.app (h : RRdIn w W g g2 s R2 t Rt u L) (hn : PNext W W' w.heap.size u u' L') : RRdIn w W' g g2 s R2 t Rt u' L' := by
  have hf : Fr u.ownBlock.toList W W' := (Fr.refl _ W).grown hn.grown fun k hk => .inl (own_list.2 hk)
  have hne : ∀ {x : Nat} {sx : ByteArray} {Rx : RV}, RRObj W x sx Rx → x ∉ u.ownBlock.toList := fun ho hm => by
    obtain ⟨_, _, cs, hh⟩ := h.row.lt _ (own_list.1 hm)
    exact ho.blk.other hh (by decide) rfl
  refine ⟨h.inn.fr hf (hne h.inn), h.out.fr hf (hne h.out), hn.row, h.fb.fr hf (fun hm => ?_), h.fr.trans hf fun k hk hlt => ?_, h.g2w, h.glt⟩
  · obtain ⟨_, _, cs, hh⟩ := h.row.lt _ (own_list.1 hm)
    exact h.fb.other hh (by decide) rfl
  · have := (h.row.lt k (own_list.1 hk)).1
    omega
def RRdSays (w : World) (g : Nat) (s : ByteArray) (q : RR × RV) (x : Ending) (w' : World) : Prop :=
  ∃ v, x = .returned (.tuple #[v, fltV (q.1.no, q.1.r, q.1.at_)]) ∧ PRow w' w.heap.size v q.1.L ∧ RRNext w w' g s q.2
theorem take_p {s : ByteArray} {n : Nat} {R : RV} (h : (rTake s n R).2.no = 0) : (rTake s n R).2.p = R.p + (rTake s n R).1.size := by
  unfold rTake at h ⊢
  by_cases h0 : R.no = 0
  · rw [if_pos h0] at h ⊢
    by_cases h1 : s.size < R.p + n
    · rw [if_pos h1] at h
      exact absurd h (by simp)
    · rw [if_neg h1]
      simp
      omega
  · rw [if_neg h0] at h
    exact absurd h h0
theorem id_type {place : Int} {L : PL} {i : Int} (h : (idErr place L i).1 = 0) : typeI i ≠ 0 := by
  intro h0
  unfold idErr at h
  split at h
  · cases h
  · rw [if_pos (Or.inl h0)] at h
    cases h
/-- A fault's cells are stored: nothing else changes. -/
theorem put3 (W : World) (fx : Nat) (a b c : Value) : Fr [fx] W (((W.setCell ⟨fx, 0, none⟩ a).setCell ⟨fx, 1, none⟩ b).setCell ⟨fx, 2, none⟩ c) :=
  (((Fr.refl [fx] W).setCell (p := ⟨fx, 0, none⟩) (.inl (List.mem_singleton_self _)) _).setCell (p := ⟨fx, 1, none⟩) (.inl (List.mem_singleton_self _)) _).setCell (p := ⟨fx, 2, none⟩) (.inl (List.mem_singleton_self _)) _
theorem put4 (W : World) (fx : Nat) (a b c d : Value) : Fr [fx] W ((((W.setCell ⟨fx, 0, none⟩ a).setCell ⟨fx, 1, none⟩ b).setCell ⟨fx, 2, none⟩ c).setCell ⟨fx, 3, none⟩ d) :=
  (put3 W fx a b c).setCell (p := ⟨fx, 3, none⟩) (.inl (List.mem_singleton_self _)) _
/-- The end: the answer's fault is stored. -/
theorem RRNext.flt (h : RRNext w W g s R') (hl : g < w.heap.size) (a b c : Value) : RRNext w (((W.setCell ⟨w.heap.size, 0, none⟩ a).setCell ⟨w.heap.size, 1, none⟩ b).setCell ⟨w.heap.size, 2, none⟩ c) g s R' := by
  refine ⟨h.obj.fr (put3 W w.heap.size a b c) fun hm => ?_, h.fr.trans (put3 W w.heap.size a b c) fun k hk hlt => ?_⟩
  · rw [List.mem_singleton] at hm
    omega
  · rw [List.mem_singleton] at hk
    omega
theorem prow_put3 {B : Nat} {v : Value} (h : PRow W B v L) (fx : Nat) (hne : ∀ k, v.ownBlock = some k → k ≠ fx) (a b c : Value) : PRow (((W.setCell ⟨fx, 0, none⟩ a).setCell ⟨fx, 1, none⟩ b).setCell ⟨fx, 2, none⟩ c) B v L :=
  h.fr (put3 W fx a b c) fun k hk hm => by
    rw [List.mem_singleton] at hm
    exact hne k hk hm
set_option maxHeartbeats 8000000 in
theorem rread_any (h : RRObj w g s R) (hs : s.size ≤ 900000) (place : Int) :
    Calls Tryz.prog 33 #[.pointer (some ⟨g, 0, none⟩), .int .i64 place] w (RRdSays w g s (readF place s R)) := by
  obtain ⟨q, hq⟩ : ∃ q, q = readF place s R := ⟨_, rfl⟩
  rw [← hq]
  unfold readF at hq
  have hb0 : Below w.heap.size w (w.alloc (.cells #[.int .i64 0, .int .i64 0, .int .i64 0] 34)) := (Below.refl _ _).alloc (Nat.le_refl _) _
  have hf0 := Blk.made w 34 #[.int .i64 0, .int .i64 0, .int .i64 0]
  have HB0 := Lib.hid hb0
  have HF0 := Lib.hid hf0
  have HV := Lib.hid (rrvar_any (h.below hb0) hs)
  obtain ⟨⟨m, R1⟩, hv⟩ : ∃ V, V = rVar s R := ⟨_, rfl⟩
  rw [← hv] at hq HV
  simp only at hq
  have htp := take_p (s := s) (n := m) (R := R1)
  obtain ⟨⟨t, R2⟩, ht⟩ : ∃ T, T = rTake s m R1 := ⟨_, rfl⟩
  rw [← ht] at hq htp
  simp only at hq htp
  have HT := Lib.hid ht
  have hts : t.size ≤ 900000 := by
    have h := take_small s m R1
    rw [← ht] at h
    exact Nat.le_trans h hs
  have HTS := Lib.hid hts
  have glt := h.lt
  have HTP := Lib.hid htp
  have HQ := Lib.hid hq
  clear h hq hv ht hb0 hf0 htp
  go_enter Tryz.func33, Tryz.ntmps33
  go_wp2_with fail
  refine HV.out.mono ?_
  rintro x w1 ⟨rfl, hN1⟩
  have HN1 := Lib.hid hN1
  have HW := Lib.hid (rrraw_any hN1.obj (by omega) m)
  have hp1 := hN1.obj.le
  rw [← HT.out] at HW
  obtain ⟨base, hbase⟩ : ∃ b, b = R1.p := ⟨_, rfl⟩
  rw [← hbase] at HQ HTP
  have hb9 : base ≤ 900000 := by omega
  clear hN1 HV hbase hp1
  go_wp2_with fail
  refine HW.out.mono ?_
  rintro x w2 ⟨rfl, hN2⟩
  have HN2 := Lib.hid ((HN1.out.trans hN2).pre HB0.out)
  have HF2 := Lib.hid (HF0.out.fr (HN1.out.trans hN2).fr (fun hm => by rw [List.mem_singleton] at hm; omega))
  clear hN2 HW HN1 HF0
  by_cases h0 : R2.no = 0
  · have hq := HQ.out
    rw [if_pos h0] at hq
    have HQ2 := Lib.hid hq
    have c1 : w2.cell? ⟨g, 2, none⟩ = some (.int .i64 R2.no) := HN2.out.obj.blk.cell 2
    rw [h0] at c1
    have c2 : w2.cell? ⟨g, 1, none⟩ = some (.int .i64 R2.p) := HN2.out.obj.blk.cell 1
    have hp2 := HTP.out h0
    have q1 : IntKind.i64.wrap ((R2.p : Int) - (t.size : Int)) = (base : Int) := by rw [IntWalk.i64_in _ (by omega)]; omega
    have hb3 : Below w2.heap.size w2 (w2.alloc (.cells #[.string t, .int .i64 0, .int .i64 0, .int .i64 0] 66)) := (Below.refl _ _).alloc (Nat.le_refl _) _
    have hlt2 := HF2.out.lt
    have HI0 : Hid (RRdIn w (w2.alloc (.cells #[.string t, .int .i64 0, .int .i64 0, .int .i64 0] 66)) g w2.heap.size s R2 t ⟨0, 0, 0⟩ (.slice none 0 0) []) :=
      Lib.hid ⟨RRObj.made w2 t, (HN2.out.below hb3).obj, PRow.nil _ _, HF2.out.below hb3 HF2.out.lt, (HN2.out.below hb3).fr, hlt2, glt⟩
    clear hq HQ HT HTP HF2 HN2 hb3 hp2
    go_wp2_with fail
    go_loopg [9] (t.size + 1) (fun f u wr => ∃ (L : PL) (Rt : RV), t.size - Rt.p < f ∧ Rt.no = 0 ∧ L.length ≤ 64 ∧ Hid (RRdIn w wr g w2.heap.size s R2 t Rt u L ∧ q = (rdLoop place base t f L Rt, R2)))
    case atStart => exact ⟨[], ⟨0, 0, 0⟩, by show t.size - 0 < _; omega, rfl, Nat.zero_le _, Lib.hid ⟨HI0.out, HQ2.out⟩⟩
    case round =>
      obtain ⟨L, Rt, hf, hno, hL64, HJ⟩ := hrel
      obtain ⟨hi, hqq⟩ := HJ.out
      obtain ⟨av, nv, cv, rfl, rfl, hcap⟩ := hi.row.some_form
      obtain ⟨f, rfl⟩ : ∃ f, gk = f + 1 := ⟨gk - 1, by omega⟩
      have d1 : wr.cell? ⟨w2.heap.size, 1, none⟩ = some (.int .i64 Rt.p) := hi.inn.blk.cell 1
      rw [rdLoop] at hqq
      have HI := Lib.hid hi
      by_cases hend : t.size ≤ Rt.p
      · rw [if_pos hend] at hqq
        obtain ⟨r0, r1, r2, s0, s1, s2, u1, v1, u2, v2, m2, n2, o0, o1, o2⟩ := fcell3 hi.fb (.int .i64 0) (.int .i64 0) (.int .i64 0)
        have hne : ∀ k, (Value.slice av L.length cv).ownBlock = some k → k ≠ w.heap.size := fun k hk he => by
          obtain ⟨_, _, cs, hh⟩ := hi.row.lt k hk
          subst he
          exact hi.fb.other hh (by decide) rfl
        have HX := Lib.hid (show RRdSays w g s q (.returned (.tuple #[.slice av L.length cv, .agg #[.int .i64 0, .int .i64 0, .int .i64 0]])) (((wr.setCell ⟨w.heap.size, 0, none⟩ (.int .i64 0)).setCell ⟨w.heap.size, 1, none⟩ (.int .i64 0)).setCell ⟨w.heap.size, 2, none⟩ (.int .i64 0)) from by
          rw [hqq]
          exact ⟨_, rfl, prow_put3 hi.row w.heap.size hne _ _ _, RRNext.flt ⟨hi.out, hi.fr⟩ hi.glt _ _ _⟩)
        have hge : ¬ ((Rt.p : Int) < (t.size : Int)) := by omega
        clear hi hqq HJ HI0 HI hne hend
        go_wp2_with fail
        exact bodyPost_ret (v := .tuple #[.slice av L.length cv, .agg #[.int .i64 0, .int .i64 0, .int .i64 0]]) (by simp [results, Tryz.results33, go_sem, o0, o1, o2]) rfl HX.out
      · rw [if_neg hend] at hqq
        have hlt : (Rt.p : Int) < (t.size : Int) := by omega
        have HQQ := Lib.hid hqq
        have HV := Lib.hid (rrvar_any hi.inn HTS.out)
        have HEA := Lib.hid (ea_var (s := t) (R := Rt) (fun h => absurd hno h) hi.inn.le)
        have HNX := Lib.hid (fun h => next_ok (place := place) (L := L) (base := base) (s := t) (R := Rt) h hno)
        have hpt : Rt.p ≤ 900000 := by omega
        have hpe := hi.inn.le
        obtain ⟨⟨i, Rv⟩, hv⟩ : ∃ b, b = rVar t Rt := ⟨_, rfl⟩
        rw [← hv] at HV HEA
        have HV0 := Lib.hid hv
        have hsum : IntKind.i64.wrap ((base : Int) + (Rt.p : Int)) = ((base + Rt.p : Nat) : Int) := by rw [IntWalk.i64_in _ (by omega)]; omega
        obtain ⟨at_, hat⟩ : ∃ a, a = base + Rt.p := ⟨_, rfl⟩
        rw [← hat] at hsum
        have HAT := Lib.hid hat
        obtain ⟨rp, hrp⟩ : ∃ r, r = Rt.p := ⟨_, rfl⟩
        rw [← hrp] at d1 hlt hsum hpt
        have HF := Lib.hid hf
        have HEN := Lib.hid hend
        clear hi hqq HJ HI0 hv hend hat hrp hf hpe
        go_wp2_with fail
        refine HV.out.mono ?_
        rintro x w4 ⟨rfl, hn4⟩
        have HI4 := Lib.hid (HI.out.step hn4)
        have hb5 : Below w4.heap.size w4 (w4.alloc (.cells #[.int .i64 0, .int .i64 0, .int .i64 0] 34)) := (Below.refl _ _).alloc (Nat.le_refl _) _
        have hb6 : Below (w4.alloc (.cells #[.int .i64 0, .int .i64 0, .int .i64 0] 34)).heap.size (w4.alloc (.cells #[.int .i64 0, .int .i64 0, .int .i64 0] 34)) ((w4.alloc (.cells #[.int .i64 0, .int .i64 0, .int .i64 0] 34)).alloc (.cells #[.int .i64 0, .int .i64 0, .string ⟨#[]⟩, .string ⟨#[]⟩] 98)) := (Below.refl _ _).alloc (Nat.le_refl _) _
        have hff := Blk.made w4 34 #[.int .i64 0, .int .i64 0, .int .i64 0]
        have hpp := Blk.made (w4.alloc (.cells #[.int .i64 0, .int .i64 0, .int .i64 0] 34)) 98 #[.int .i64 0, .int .i64 0, .string ⟨#[]⟩, .string ⟨#[]⟩]
        rw [World.size_alloc] at hpp
        have HF6 := Lib.hid (hff.below hb6 hff.lt)
        have HP6 := Lib.hid hpp
        have HI6 := Lib.hid ((HI4.out.below hb5).below hb6)
        have hz1 : w2.heap.size < w4.heap.size := HI4.out.inn.lt
        have hz2 : w.heap.size < w4.heap.size := HI4.out.fb.lt
        have HOB := Lib.hid (fun k (hk : (Value.slice av L.length cv).ownBlock = some k) => (HI4.out.row.lt k hk).2.1)
        have e2 : ((w4.alloc (.cells #[.int .i64 0, .int .i64 0, .int .i64 0] 34)).alloc (.cells #[.int .i64 0, .int .i64 0, .string ⟨#[]⟩, .string ⟨#[]⟩] 98)).cell? ⟨w2.heap.size, 2, none⟩ = some (.int .i64 Rv.no) := HI6.out.inn.blk.cell 2
        clear hb5 hb6 hff hpp hn4 HI HV HI4
        obtain ⟨W6, hW6⟩ : ∃ W, W = (w4.alloc (.cells #[.int .i64 0, .int .i64 0, .int .i64 0] 34)).alloc (.cells #[.int .i64 0, .int .i64 0, .string ⟨#[]⟩, .string ⟨#[]⟩] 98) := ⟨_, rfl⟩
        rw [← hW6] at HF6 HP6 HI6 e2
        have HW6 := Lib.hid hW6
        clear hW6
        go_upto_region 12 with fail
        rw [← HW6.out]
        clear HW6
        have HFX := Lib.hid (show w4.heap.size = w4.heap.size from rfl)
        generalize w4.heap.size = fx at *
        clear HFX
        by_cases h1 : Rv.no = 0
        · rw [h1] at e2
          have HG := Lib.hid (ground_any (B := 0) place i L.length cv rfl HI6.out.row.pin (by omega))
          have hty := id_type (place := place) (L := L) (i := i)
          obtain ⟨⟨zn, zr⟩, hz⟩ : ∃ z, z = idErr place L i := ⟨_, rfl⟩
          rw [← hz] at HG hty
          simp only at hty
          have HZ0 := Lib.hid hz
          clear hz
          by_cases hz0 : zn = 0
          · subst hz0
            have hty2 := hty rfl
            have HVL := Lib.hid (fun (W : World) (h : RRObj W w2.heap.size t Rv) => rvalue_any h HTS.out i hty2)
            have HEV := Lib.hid (ea_val (i : Int) HEA.out HI6.out.inn.le)
            obtain ⟨⟨⟨pi, pn, ps, pv⟩, Rw⟩, hF⟩ : ∃ b, b = valF (i : Int) t Rv := ⟨_, rfl⟩
            rw [← hF] at HVL HEV
            have HF0 := Lib.hid hF
            clear hF hty hty2
            go_wp2_with fail
            refine HG.out.mono ?_
            rintro x w7 ⟨rfl, hb7⟩
            have hf7 := HF6.out.below hb7 HF6.out.lt
            have hp7 := HP6.out.below hb7 HP6.out.lt
            obtain ⟨a0, a1, a2, A0, A1, A2, b1, B1, b2, B2, b3, B3, z0, z1, z2⟩ := fcell3 hf7 (.int .i64 0) (.int .i64 zr) (.int .i64 0)
            have hfr8 := put3 w7 fx (.int .i64 0) (.int .i64 zr) (.int .i64 0)
            have HI8 := Lib.hid ((HI6.out.below hb7).put hfr8 hz2 (by omega) (fun k hk => Nat.ne_of_lt (HOB.out k hk)))
            have HF8 := Lib.hid (((hf7.store 0 (.int .i64 0)).store 1 (.int .i64 zr)).store 2 (.int .i64 0))
            have HP8 := Lib.hid (hp7.fr hfr8 (fun hm => by rw [List.mem_singleton] at hm; omega))
            obtain ⟨W8, hW8⟩ : ∃ W, W = ((w7.setCell ⟨fx, 0, none⟩ (.int .i64 0)).setCell ⟨fx, 1, none⟩ (.int .i64 zr)).setCell ⟨fx, 2, none⟩ (.int .i64 0) := ⟨_, rfl⟩
            rw [← hW8] at HI8 HF8 HP8
            have HVL2 := Lib.hid (HVL.out W8 HI8.out.inn)
            have f8 : W8.cell? ⟨fx, 0, none⟩ = some (.int .i64 0) := HF8.out.cell 0
            have HW8 := Lib.hid hW8
            clear hf7 hp7 hfr8 hb7 HG HVL HI6 HF6 HP6 hW8 e2
            go_upto_region 14 with fail
            rw [← HW8.out]
            clear a0 a1 a2 A0 A1 A2 b1 B1 b2 B2 b3 B3 z0 z1 z2 HW8
            go_wp2_with fail
            refine HVL2.out.mono ?_
            rintro x w9 ⟨rfl, hn9⟩
            have hi9 := HI8.out.step hn9
            have hf9 := HF8.out.fr hn9.fr (fun hm => by rw [List.mem_singleton] at hm; omega)
            have hp9 := HP8.out.fr hn9.fr (fun hm => by rw [List.mem_singleton] at hm; omega)
            clear HVL2 f8
            rw [show PV.agg (⟨pi, pn, ps, pv⟩, Rw).1 = .agg #[.int .i64 pi, .int .i64 pn, .string ps, .string pv] from rfl]
            obtain ⟨⟨q0, q1', q2, q3, p0', p1', p2', p3'⟩, ⟨x1, y1, x2, y2, x3, y3⟩, ⟨k2, l2, k3, l3, m3, n3⟩, z0, z1, z2, z3⟩ := box4 hp9 (.int .i64 pi) (.int .i64 pn) (.string ps) (.string pv)
            have hfr10 := put4 w9 (fx + 1) (.int .i64 pi) (.int .i64 pn) (.string ps) (.string pv)
            have HI10 := Lib.hid (hi9.put hfr10 (by omega) (by omega) (fun k hk => by have := HOB.out k hk; omega))
            have HF10 := Lib.hid (hf9.fr hfr10 (fun hm => by rw [List.mem_singleton] at hm; omega))
            have HP10 := Lib.hid ((((hp9.store 0 (.int .i64 pi)).store 1 (.int .i64 pn)).store 2 (.string ps)).store 3 (.string pv))
            obtain ⟨W10, hW10⟩ : ∃ W, W = (((w9.setCell ⟨fx + 1, 0, none⟩ (.int .i64 pi)).setCell ⟨fx + 1, 1, none⟩ (.int .i64 pn)).setCell ⟨fx + 1, 2, none⟩ (.string ps)).setCell ⟨fx + 1, 3, none⟩ (.string pv) := ⟨_, rfl⟩
            rw [← hW10] at HI10 HF10 HP10
            have e10 : W10.cell? ⟨w2.heap.size, 2, none⟩ = some (.int .i64 Rw.no) := HI10.out.inn.blk.cell 2
            have HW10 := Lib.hid hW10
            clear hW10
            go_upto_region 16 with fail
            rw [← HW10.out]
            clear HW10 q0 q1' q2 q3 p0' p1' p2' p3' x1 y1 x2 y2 x3 y3 k2 l2 k3 l3 m3 n3 z0 z1 z2 z3
            have f10 : W10.cell? ⟨fx, 0, none⟩ = some (.int .i64 0) := HF10.out.cell 0
            have g0 : W10.cell? ⟨fx + 1, 0, none⟩ = some (.int .i64 pi) := HP10.out.cell 0
            have g1 : W10.cell? ⟨fx + 1, 1, none⟩ = some (.int .i64 pn) := HP10.out.cell 1
            have g2' : W10.cell? ⟨fx + 1, 2, none⟩ = some (.string ps) := HP10.out.cell 2
            have g3 : W10.cell? ⟨fx + 1, 3, none⟩ = some (.string pv) := HP10.out.cell 3
            clear hi9 hf9 hp9 hfr10 hn9 HI8 HF8 HP8
            by_cases h3 : Rw.no = 0
            · rw [h3] at e10
              have HNU := Lib.hid (numbered_any ⟨pi, pn, ps, pv⟩ W10)
              cases hnum : numI pi pn with
              | true =>
                have hN : nextF place L base t Rt = ⟨0, 0, 0, ⟨pi, pn, ps, pv⟩, Rw⟩ := by
                  unfold nextF
                  rw [← HV0.out]
                  simp only
                  rw [if_pos h1, ← HZ0.out, ← HF0.out]
                  simp only
                  rw [if_pos trivial, if_pos h3, hnum, if_pos rfl]
                have HQN := Lib.hid (show q = (rdLoop place base t f (L ++ [⟨pi, pn, ps, pv⟩]) Rw, R2) from by rw [HQQ.out, hN]; rfl)
                have hnx := HNX.out
                rw [hN] at hnx
                obtain ⟨hm1, hm2, hm3⟩ := hnx rfl
                simp only at hm1 hm2
                rw [show numI (PV.id ⟨pi, pn, ps, pv⟩) (PV.n ⟨pi, pn, ps, pv⟩) = true from hnum] at HNU
                clear hN hnum hnx
                go_wp2_with fail
                refine HNU.out.mono ?_
                rintro x w11 ⟨rfl, hb11⟩
                have HI11 := Lib.hid (HI10.out.below hb11)
                have hf11 := HF10.out.below hb11 HF10.out.lt
                have f11 : w11.cell? ⟨fx, 0, none⟩ = some (.int .i64 0) := hf11.cell 0
                have hp11 := HP10.out.below hb11 HP10.out.lt
                have j0 : w11.cell? ⟨fx + 1, 0, none⟩ = some (.int .i64 pi) := hp11.cell 0
                have j1 : w11.cell? ⟨fx + 1, 1, none⟩ = some (.int .i64 pn) := hp11.cell 1
                have j2 : w11.cell? ⟨fx + 1, 2, none⟩ = some (.string ps) := hp11.cell 2
                have j3 : w11.cell? ⟨fx + 1, 3, none⟩ = some (.string pv) := hp11.cell 3
                have HS11 := Lib.hid HI11.out.fr.size
                have HDL := Lib.hid (show L.length ≤ 100000 by omega)
                clear hf11 hp11 hb11 HI10 HF10 HP10 HNU f10 g0 g1 g2' g3 e10
                go_wp2_with (at_builtin; go_must (refine append_prop ⟨pi, pn, ps, pv⟩ rfl _ _ rfl HI11.out.row HS11.out rfl w11.heap.size 1 rfl rfl HDL.out ?_))
                intro v12 w12 hn12
                have HI12 := Lib.hid (HI11.out.app hn12)
                clear hn12
                go_wp2_with fail
                go_roundg f
                case rel => exact ⟨L ++ [⟨pi, pn, ps, pv⟩], Rw, by have := HF.out; have := HEN.out; omega, hm2, by rw [List.length_append, List.length_singleton]; omega, Lib.hid ⟨HI12.out, HQN.out⟩⟩
                case measure => omega
              | false =>
                have hN : nextF place L base t Rt = ⟨3, 130, at_, p0, Rw⟩ := by
                  unfold nextF
                  rw [← HV0.out, HAT.out]
                  simp only
                  rw [if_pos h1, ← HZ0.out, ← HF0.out]
                  simp only
                  rw [if_pos trivial, if_pos h3, hnum, if_neg (by decide)]
                have HQN := Lib.hid (show q = (⟨3, 130, at_, []⟩, R2) from by rw [HQQ.out, hN]; rfl)
                rw [show numI (PV.id ⟨pi, pn, ps, pv⟩) (PV.n ⟨pi, pn, ps, pv⟩) = false from hnum] at HNU
                clear hN hnum
                go_wp2_with fail
                refine HNU.out.mono ?_
                rintro x w11 ⟨rfl, hb11⟩
                have hi11 := HI10.out.below hb11
                have hf11 := HF10.out.below hb11 HF10.out.lt
                have f11 : w11.cell? ⟨fx, 0, none⟩ = some (.int .i64 0) := hf11.cell 0
                obtain ⟨a0, a1, a2, A0, A1, A2, b1, B1, b2, B2, b3, B3, _, _, _⟩ := fcell3 hf11 (.int .i64 3) (.int .i64 130) (.int .i64 0)
                have HI12 := Lib.hid (hi11.put (put3 w11 fx (.int .i64 3) (.int .i64 130) (.int .i64 0)) hz2 (by omega) (fun k hk => Nat.ne_of_lt (HOB.out k hk)))
                have HF12 := Lib.hid (((hf11.store 0 (.int .i64 3)).store 1 (.int .i64 130)).store 2 (.int .i64 0))
                obtain ⟨WX, hWX⟩ : ∃ W, W = ((w11.setCell ⟨fx, 0, none⟩ (.int .i64 3)).setCell ⟨fx, 1, none⟩ (.int .i64 130)).setCell ⟨fx, 2, none⟩ (.int .i64 0) := ⟨_, rfl⟩
                rw [← hWX] at HI12 HF12
                have HWX := Lib.hid hWX
                clear hi11 hf11 hb11 HI10 HF10 HNU hWX f10 g0 g1 g2' g3 e10 HP10
                go_upto_region 20 with fail
                rw [← HWX.out]
                clear HWX a0 a1 a2 A0 A1 A2 b1 B1 b2 B2 b3 B3 f11
                have t0 : WX.cell? ⟨fx, 0, none⟩ = some (.int .i64 3) := HF12.out.cell 0
                have t1 : WX.cell? ⟨fx, 1, none⟩ = some (.int .i64 130) := HF12.out.cell 1
                obtain ⟨r0, r1, r2, s0, s1, s2, u1, v1, u2, v2, m2, n2, o0, o1, o2⟩ := fcell3 HI12.out.fb (.int .i64 3) (.int .i64 130) (.int .i64 (at_ : Int))
                have hend := (RRNext.flt ⟨HI12.out.out, HI12.out.fr⟩ HI12.out.glt (.int .i64 3) (.int .i64 130) (.int .i64 (at_ : Int))).below (below_drewN (Below.refl _ _) 1)
                have HX := Lib.hid (show RRdSays w g s q (.returned (.tuple #[.slice none 0 0, .agg #[.int .i64 3, .int .i64 130, .int .i64 (at_ : Int)]])) _ from by
                  rw [HQN.out]
                  exact ⟨_, rfl, PRow.nil _ _, hend⟩)
                clear hend
                go_wp2_with fail
                go_region
                go_wp2_with fail
                exact bodyPost_ret (v := .tuple #[.slice none 0 0, .agg #[.int .i64 3, .int .i64 130, .int .i64 (at_ : Int)]]) (by simp [results, Tryz.results33, go_sem, o0, o1, o2]) rfl HX.out
            · have h3i : ¬ (Rw.no : Int) = 0 := by omega
              have hea := HEV.out h3
              have hN : nextF place L base t Rt = ⟨Rw.no, 129, Rw.ea + base, p0, Rw⟩ := by
                unfold nextF
                rw [← HV0.out]
                simp only
                rw [if_pos h1, ← HZ0.out, ← HF0.out]
                simp only
                rw [if_pos trivial, if_neg h3]
              have e11 : W10.cell? ⟨w2.heap.size, 3, none⟩ = some (.int .i64 Rw.ea) := HI10.out.inn.blk.cell 3
              have hs9 : IntKind.i64.wrap ((base : Int) + (Rw.ea : Int)) = ((Rw.ea + base : Nat) : Int) := by rw [IntWalk.i64_in _ (by omega)]; omega
              obtain ⟨a9, ha9⟩ : ∃ a, a = Rw.ea + base := ⟨_, rfl⟩
              rw [← ha9] at hN hs9
              have HQN := Lib.hid (show q = (⟨Rw.no, 129, a9, []⟩, R2) from by rw [HQQ.out, hN]; simp only; rw [if_neg h3])
              clear hN ha9
              obtain ⟨r0, r1, r2, s0, s1, s2, u1, v1, u2, v2, m2, n2, o0, o1, o2⟩ := fcell3 HI10.out.fb (.int .i64 (Rw.no : Int)) (.int .i64 129) (.int .i64 (a9 : Int))
              have hend := (RRNext.flt ⟨HI10.out.out, HI10.out.fr⟩ HI10.out.glt (.int .i64 (Rw.no : Int)) (.int .i64 129) (.int .i64 (a9 : Int))).below (below_drewN (Below.refl _ _) 1)
              have HX := Lib.hid (show RRdSays w g s q (.returned (.tuple #[.slice none 0 0, .agg #[.int .i64 (Rw.no : Int), .int .i64 129, .int .i64 (a9 : Int)]])) _ from by
                rw [HQN.out]
                exact ⟨_, rfl, PRow.nil _ _, hend⟩)
              clear hend
              go_wp2_with fail
              go_region
              go_wp2_with fail
              exact bodyPost_ret (v := .tuple #[.slice none 0 0, .agg #[.int .i64 (Rw.no : Int), .int .i64 129, .int .i64 (a9 : Int)]]) (by simp [results, Tryz.results33, go_sem, o0, o1, o2]) rfl HX.out
          · have hzi : ¬ ((zn : Nat) : Int) = 0 := by omega
            have hN : nextF place L base t Rt = ⟨zn, zr, at_, p0, Rv⟩ := by
              unfold nextF
              rw [← HV0.out, HAT.out]
              simp only
              rw [if_pos h1, ← HZ0.out]
              simp only
              rw [if_neg hz0]
            have HQN := Lib.hid (show q = (⟨zn, zr, at_, []⟩, R2) from by rw [HQQ.out, hN]; simp only; rw [if_neg hz0])
            clear hN hty
            go_wp2_with fail
            refine HG.out.mono ?_
            rintro x w7 ⟨rfl, hb7⟩
            have hf7 := HF6.out.below hb7 HF6.out.lt
            obtain ⟨a0, a1, a2, A0, A1, A2, b1, B1, b2, B2, b3, B3, z0, z1, z2⟩ := fcell3 hf7 (.int .i64 (zn : Int)) (.int .i64 zr) (.int .i64 0)
            have HI8 := Lib.hid ((HI6.out.below hb7).put (put3 w7 fx (.int .i64 (zn : Int)) (.int .i64 zr) (.int .i64 0)) hz2 (by omega) (fun k hk => Nat.ne_of_lt (HOB.out k hk)))
            have HF8 := Lib.hid (((hf7.store 0 (.int .i64 (zn : Int))).store 1 (.int .i64 zr)).store 2 (.int .i64 0))
            obtain ⟨WX, hWX⟩ : ∃ W, W = ((w7.setCell ⟨fx, 0, none⟩ (.int .i64 (zn : Int))).setCell ⟨fx, 1, none⟩ (.int .i64 zr)).setCell ⟨fx, 2, none⟩ (.int .i64 0) := ⟨_, rfl⟩
            rw [← hWX] at HI8 HF8
            have HWX := Lib.hid hWX
            clear hf7 hb7 HG HI6 HF6 HP6 hWX e2
            go_upto_region 14 with fail
            rw [← HWX.out]
            clear HWX a0 a1 a2 A0 A1 A2 b1 B1 b2 B2 b3 B3 z0 z1 z2
            have e8 : WX.cell? ⟨w2.heap.size, 2, none⟩ = some (.int .i64 Rv.no) := HI8.out.inn.blk.cell 2
            rw [h1] at e8
            have t0 : WX.cell? ⟨fx, 0, none⟩ = some (.int .i64 (zn : Int)) := HF8.out.cell 0
            have t1 : WX.cell? ⟨fx, 1, none⟩ = some (.int .i64 zr) := HF8.out.cell 1
            obtain ⟨r0, r1, r2, s0, s1, s2, u1, v1, u2, v2, m2, n2, o0, o1, o2⟩ := fcell3 HI8.out.fb (.int .i64 (zn : Int)) (.int .i64 zr) (.int .i64 (at_ : Int))
            have hend := (RRNext.flt ⟨HI8.out.out, HI8.out.fr⟩ HI8.out.glt (.int .i64 (zn : Int)) (.int .i64 zr) (.int .i64 (at_ : Int))).below (below_drewN (Below.refl _ _) 1)
            have HX := Lib.hid (show RRdSays w g s q (.returned (.tuple #[.slice none 0 0, .agg #[.int .i64 (zn : Int), .int .i64 zr, .int .i64 (at_ : Int)]])) _ from by
              rw [HQN.out]
              exact ⟨_, rfl, PRow.nil _ _, hend⟩)
            clear hend
            go_wp2_with fail
            go_region
            go_wp2_with fail
            exact bodyPost_ret (v := .tuple #[.slice none 0 0, .agg #[.int .i64 (zn : Int), .int .i64 zr, .int .i64 (at_ : Int)]]) (by simp [results, Tryz.results33, go_sem, o0, o1, o2]) rfl HX.out
        · have h1i : ¬ (Rv.no : Int) = 0 := by omega
          have hea := HEA.out h1
          have hN : nextF place L base t Rt = ⟨Rv.no, 129, Rv.ea + base, p0, Rv⟩ := by
            unfold nextF
            rw [← HV0.out]
            simp only
            rw [if_neg h1]
          have e3 : W6.cell? ⟨w2.heap.size, 3, none⟩ = some (.int .i64 Rv.ea) := HI6.out.inn.blk.cell 3
          have hs9 : IntKind.i64.wrap ((base : Int) + (Rv.ea : Int)) = ((Rv.ea + base : Nat) : Int) := by rw [IntWalk.i64_in _ (by omega)]; omega
          obtain ⟨a9, ha9⟩ : ∃ a, a = Rv.ea + base := ⟨_, rfl⟩
          rw [← ha9] at hN hs9
          have HQN := Lib.hid (show q = (⟨Rv.no, 129, a9, []⟩, R2) from by rw [HQQ.out, hN]; simp only; rw [if_neg h1])
          clear hN ha9
          obtain ⟨r0, r1, r2, s0, s1, s2, u1, v1, u2, v2, m2, n2, o0, o1, o2⟩ := fcell3 HI6.out.fb (.int .i64 (Rv.no : Int)) (.int .i64 129) (.int .i64 (a9 : Int))
          have hend := (RRNext.flt ⟨HI6.out.out, HI6.out.fr⟩ HI6.out.glt (.int .i64 (Rv.no : Int)) (.int .i64 129) (.int .i64 (a9 : Int))).below (below_drewN (Below.refl _ _) 1)
          have HX := Lib.hid (show RRdSays w g s q (.returned (.tuple #[.slice none 0 0, .agg #[.int .i64 (Rv.no : Int), .int .i64 129, .int .i64 (a9 : Int)]])) _ from by
            rw [HQN.out]
            exact ⟨_, rfl, PRow.nil _ _, hend⟩)
          clear hend
          go_wp2_with fail
          go_region
          go_wp2_with fail
          exact bodyPost_ret (v := .tuple #[.slice none 0 0, .agg #[.int .i64 (Rv.no : Int), .int .i64 129, .int .i64 (a9 : Int)]]) (by simp [results, Tryz.results33, go_sem, o0, o1, o2]) rfl HX.out
  · have hq := HQ.out
    rw [if_neg h0] at hq
    have h1 : ¬ (R2.no : Int) = 0 := by omega
    have c1 : w2.cell? ⟨g, 2, none⟩ = some (.int .i64 R2.no) := HN2.out.obj.blk.cell 2
    have c2 : w2.cell? ⟨g, 3, none⟩ = some (.int .i64 R2.ea) := HN2.out.obj.blk.cell 3
    obtain ⟨r0, r1, r2, s0, s1, s2, u1, v1, u2, v2, m2, n2, o0, o1, o2⟩ := fcell3 HF2.out (.int .i64 R2.no) (.int .i64 129) (.int .i64 R2.ea)
    have hb := (HN2.out.flt glt (.int .i64 R2.no) (.int .i64 129) (.int .i64 R2.ea)).below (below_drewN (Below.refl _ _) 1)
    have HX := Lib.hid (show RRdSays w g s q (.returned (.tuple #[.slice none 0 0, .agg #[.int .i64 R2.no, .int .i64 129, .int .i64 R2.ea]])) _ from by
      rw [hq]
      exact ⟨_, rfl, PRow.nil _ _, hb⟩)
    clear HQ HT hb hq HTP HF2 HN2
    go_wp2_with fail
    go_region
    go_wp2_with fail
    exact bodyPost_ret (v := .tuple #[.slice none 0 0, .agg #[.int .i64 R2.no, .int .i64 129, .int .i64 R2.ea]]) (by simp [results, Tryz.results33, go_sem, o0, o1, o2]) rfl HX.out
end
end Go.Proofs.YtnolnhpmpjgnaaaGreatDoor

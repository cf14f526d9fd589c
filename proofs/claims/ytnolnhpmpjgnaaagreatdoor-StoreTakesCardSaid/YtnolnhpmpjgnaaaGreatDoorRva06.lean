/- What is proved here: what the document reads of a property. Conditions: the reader is there, with few bytes; the property has a type. -/
import Derived.Test.YtnolnhpmpjgnaaaGreatDoorFil06
import Derived.Test.YtnolnhpmpjgnaaaGreatDoorRru04
namespace Go.Proofs.YtnolnhpmpjgnaaaGreatDoor
set_option maxRecDepth 100000
open Go.RowKit Go.Extern.Stop Go.Stop Go.Extern
/-- What value holds. -/
structure VlIn (w W : World) (g bx : Nat) (s : ByteArray) (R : RV) (p : PV) : Prop where
  obj : RRObj W g s R
  rbox : Blk W w.heap.size 98 #[.int .i64 0, .int .i64 0, .string ⟨#[]⟩, .string ⟨#[]⟩]
  box : Blk W bx 98 #[.int .i64 p.id, .int .i64 p.n, .string p.s, .string p.v]
  fr : Fr [g] w W
  ne : w.heap.size < bx
  gl : g < w.heap.size
section
variable {w W W' : World} {g bx : Nat} {s : ByteArray} {R R' : RV} {p : PV}
theorem VlIn.below (h : VlIn w W g bx s R p) (hb : Below W.heap.size W W') : VlIn w W' g bx s R p :=
  ⟨h.obj.below hb, h.rbox.below hb h.rbox.lt, h.box.below hb h.box.lt, h.fr.trans (Y := []) (Fr.of_below hb) (fun k hk => by cases hk), h.ne, h.gl⟩
theorem VlIn.step (h : VlIn w W g bx s R p) (hn : RRNext W W' g s R') : VlIn w W' g bx s R' p := by
  have hl := h.gl
  have hne := h.ne
  refine ⟨hn.obj, h.rbox.fr hn.fr fun hm => ?_, h.box.fr hn.fr fun hm => ?_, h.fr.trans hn.fr fun k hk _ => hk, h.ne, h.gl⟩
  · rw [List.mem_singleton] at hm
    omega
  · rw [List.mem_singleton] at hm
    omega
theorem VlIn.put (h : VlIn w W g bx s R p) (hf : Fr [bx] W W') (q : PV) (hb : Blk W' bx 98 #[.int .i64 q.id, .int .i64 q.n, .string q.s, .string q.v]) : VlIn w W' g bx s R q := by
  have hl := h.gl
  have hne := h.ne
  refine ⟨h.obj.fr hf fun hm => ?_, h.rbox.fr hf fun hm => ?_, hb, h.fr.trans hf fun k hk hlt => ?_, h.ne, h.gl⟩
  · rw [List.mem_singleton] at hm
    omega
  · rw [List.mem_singleton] at hm
    omega
  · rw [List.mem_singleton] at hk
    omega
theorem VlIn.set1 (h : VlIn w W g bx s R p) (n : Int) : VlIn w (W.setCell ⟨bx, 1, none⟩ (.int .i64 n)) g bx s R ⟨p.id, n, p.s, p.v⟩ :=
  h.put ((Fr.refl [bx] W).setCell (p := ⟨bx, 1, none⟩) (.inl (List.mem_singleton_self _)) _) ⟨p.id, n, p.s, p.v⟩ (h.box.store 1 (.int .i64 n))
theorem VlIn.set2 (h : VlIn w W g bx s R p) (x : ByteArray) : VlIn w (W.setCell ⟨bx, 2, none⟩ (.string x)) g bx s R ⟨p.id, p.n, x, p.v⟩ :=
  h.put ((Fr.refl [bx] W).setCell (p := ⟨bx, 2, none⟩) (.inl (List.mem_singleton_self _)) _) ⟨p.id, p.n, x, p.v⟩ (h.box.store 2 (.string x))
theorem VlIn.set3 (h : VlIn w W g bx s R p) (x : ByteArray) : VlIn w (W.setCell ⟨bx, 3, none⟩ (.string x)) g bx s R ⟨p.id, p.n, p.s, x⟩ :=
  h.put ((Fr.refl [bx] W).setCell (p := ⟨bx, 3, none⟩) (.inl (List.mem_singleton_self _)) _) ⟨p.id, p.n, p.s, x⟩ (h.box.store 3 (.string x))
theorem VlIn.done (h : VlIn w W g bx s R p) (a b c d : Value) : RRNext w ((((W.setCell ⟨w.heap.size, 0, none⟩ a).setCell ⟨w.heap.size, 1, none⟩ b).setCell ⟨w.heap.size, 2, none⟩ c).setCell ⟨w.heap.size, 3, none⟩ d) g s R := by
  have hl := h.gl
  have hf : Fr [w.heap.size] W ((((W.setCell ⟨w.heap.size, 0, none⟩ a).setCell ⟨w.heap.size, 1, none⟩ b).setCell ⟨w.heap.size, 2, none⟩ c).setCell ⟨w.heap.size, 3, none⟩ d) :=
    ((((Fr.refl [w.heap.size] W).setCell (p := ⟨w.heap.size, 0, none⟩) (.inl (List.mem_singleton_self _)) _).setCell (p := ⟨w.heap.size, 1, none⟩) (.inl (List.mem_singleton_self _)) _).setCell (p := ⟨w.heap.size, 2, none⟩) (.inl (List.mem_singleton_self _)) _).setCell (p := ⟨w.heap.size, 3, none⟩) (.inl (List.mem_singleton_self _)) _
  refine ⟨h.obj.fr hf fun hm => ?_, h.fr.trans hf fun k hk hlt => ?_⟩
  · rw [List.mem_singleton] at hm
    omega
  · rw [List.mem_singleton] at hk
    omega
def RvSays (w : World) (g : Nat) (s : ByteArray) (q : PV × RV) (x : Ending) (w' : World) : Prop := x = .returned q.1.agg ∧ RRNext w w' g s q.2
theorem type_of (i : Int) (h9 : typeI i ≠ 9) (h0 : typeI i ≠ 0) : (typeI i : Int) = 1 ∨ (typeI i : Int) = 2 ∨ (typeI i : Int) = 4 ∨ (typeI i : Int) = 5 ∨ (typeI i : Int) = 6 ∨ (typeI i : Int) = 7 := by
  rcases typeI_vals i with ht | ht | ht | ht | ht | ht | ht | ht <;> rw [ht] at h9 h0 ⊢ <;> simp_all
set_option maxHeartbeats 2000000 in
theorem rvalue_any (h : RRObj w g s R) (hs : s.size ≤ 900000) (i : Int) (h0 : typeI i ≠ 0) :
    Calls Tryz.prog 58 #[.pointer (some ⟨g, 0, none⟩), .int .i64 i] w (RvSays w g s (valF i s R)) := by
  have hb0 : Below w.heap.size w (w.alloc (.cells #[.int .i64 0, .int .i64 0, .string ⟨#[]⟩, .string ⟨#[]⟩] 98)) := (Below.refl _ _).alloc (Nat.le_refl _) _
  have hb1 : Below (w.alloc (.cells #[.int .i64 0, .int .i64 0, .string ⟨#[]⟩, .string ⟨#[]⟩] 98)).heap.size (w.alloc (.cells #[.int .i64 0, .int .i64 0, .string ⟨#[]⟩, .string ⟨#[]⟩] 98)) ((w.alloc (.cells #[.int .i64 0, .int .i64 0, .string ⟨#[]⟩, .string ⟨#[]⟩] 98)).alloc (.cells #[.int .i64 i, .int .i64 0, .string ⟨#[]⟩, .string ⟨#[]⟩] 98)) := (Below.refl _ _).alloc (Nat.le_refl _) _
  have hr0 := Blk.made w 98 #[.int .i64 0, .int .i64 0, .string ⟨#[]⟩, .string ⟨#[]⟩]
  have hx0 := Blk.made (w.alloc (.cells #[.int .i64 0, .int .i64 0, .string ⟨#[]⟩, .string ⟨#[]⟩] 98)) 98 #[.int .i64 i, .int .i64 0, .string ⟨#[]⟩, .string ⟨#[]⟩]
  rw [World.size_alloc] at hx0
  have hi0 : VlIn w ((w.alloc (.cells #[.int .i64 0, .int .i64 0, .string ⟨#[]⟩, .string ⟨#[]⟩] 98)).alloc (.cells #[.int .i64 i, .int .i64 0, .string ⟨#[]⟩, .string ⟨#[]⟩] 98)) g (w.heap.size + 1) s R ⟨i, 0, ⟨#[]⟩, ⟨#[]⟩⟩ :=
    ⟨(h.below hb0).below hb1, hr0.below hb1 hr0.lt, hx0, (Fr.of_below hb0).trans (Y := []) (Fr.of_below hb1) (fun k hk => by cases hk), Nat.lt_succ_self _, h.lt⟩
  have HI0 := Lib.hid hi0
  have HTY := Lib.hid (fun W : World => rtype06_any i W)
  obtain ⟨q, hq⟩ : ∃ q, q = valF i s R := ⟨_, rfl⟩
  rw [← hq]
  by_cases h9 : typeI i = 9
  · rw [val_9 s R h9] at hq
    have HT := Lib.hid (rrtext_any hi0.obj hs)
    have HT2 := Lib.hid (fun (W1 : World) (R1 : RV) (h : RRObj W1 g s R1) => rrtext_any h hs)
    obtain ⟨⟨t1, R1⟩, h1⟩ : ∃ b, b = rText s R := ⟨_, rfl⟩
    rw [← h1] at HT hq
    simp only at HT hq
    obtain ⟨⟨t2, R2⟩, h2⟩ : ∃ b, b = rText s R1 := ⟨_, rfl⟩
    rw [← h2] at hq
    simp only at hq
    have HQ := Lib.hid hq
    have HR2 := Lib.hid h2
    rw [h9] at HTY
    clear hb0 hb1 hr0 hx0 hi0 h hq h1 h2 h0 h9
    go_enter Tryz.func58, Tryz.ntmps58
    go_wp2_with fail
    refine (HTY.out _).mono ?_
    rintro x w1 ⟨rfl, rfl⟩
    go_wp2_with fail
    refine HT.out.mono ?_
    rintro x w2 ⟨rfl, hN2⟩
    have HI2 := Lib.hid (HI0.out.step hN2)
    have a0 : w2.cell? ⟨w.heap.size + 1, 2, none⟩ = some (.string ⟨#[]⟩) := HI2.out.box.cell 2
    have a1 : w2.frozen? ⟨w.heap.size + 1, 2, none⟩ = false := HI2.out.box.frozen 2
    have HI3 := Lib.hid (HI2.out.set2 t1)
    have HT3 := Lib.hid (HT2.out _ _ HI3.out.obj)
    rw [← HR2.out] at HT3
    simp only at HT3
    clear hN2 HT HT2
    go_wp2_with fail
    refine HT3.out.mono ?_
    rintro x w3 ⟨rfl, hN3⟩
    have HI4 := Lib.hid (HI3.out.step hN3)
    have b0 : w3.cell? ⟨w.heap.size + 1, 3, none⟩ = some (.string ⟨#[]⟩) := HI4.out.box.cell 3
    have b1 : w3.frozen? ⟨w.heap.size + 1, 3, none⟩ = false := HI4.out.box.frozen 3
    have HI5 := Lib.hid (HI4.out.set3 t2)
    have c0 := HI5.out.box.cell 0
    have c1 := HI5.out.box.cell 1
    have c2 := HI5.out.box.cell 2
    have c3 := HI5.out.box.cell 3
    obtain ⟨⟨q0, q1, q2, q3, p0', p1', p2', p3'⟩, ⟨x1, y1, x2, y2, x3, y3⟩, ⟨k2, l2, k3, l3, m3, n3⟩, z0, z1, z2, z3⟩ := box4 HI5.out.rbox (.int .i64 i) (.int .i64 0) (.string t1) (.string t2)
    have HX := Lib.hid (HI5.out.done (.int .i64 i) (.int .i64 0) (.string t1) (.string t2))
    clear hN3 HT3 a0 a1
    go_wp2_with fail
    refine bodyPost_ret (v := .agg #[.int .i64 i, .int .i64 0, .string t1, .string t2]) (by simp [results, Tryz.results58, go_sem, z0, z1, z2, z3]) rfl ?_
    rw [HQ.out]
    exact ⟨rfl, HX.out⟩
  · have hk := type_of i h9 h0
    have HD := Lib.hid (rrdo_any hi0.obj hs (typeI i : Int) 0 ⟨#[]⟩ hk)
    unfold valF at hq
    rw [if_neg h9, if_neg h0] at hq
    have hn9 : ¬ ((typeI i : Int) = 9) := by omega
    generalize typeI i = t at *
    obtain ⟨⟨n, x, R2⟩, hr⟩ : ∃ b, b = rdA (t : Int) s R := ⟨_, rfl⟩
    rw [← hr] at HD hq
    simp only at HD hq
    have HQ := Lib.hid hq
    clear hb0 hb1 hr0 hx0 hi0 h hq hr h0 h9 hk
    go_enter Tryz.func58, Tryz.ntmps58
    go_wp2_with fail
    refine (HTY.out _).mono ?_
    rintro x w1 ⟨rfl, rfl⟩
    go_wp2_with fail
    refine HD.out.mono ?_
    rintro y w2 ⟨rfl, hN2⟩
    have HI2 := Lib.hid (HI0.out.step hN2)
    have a0 : w2.cell? ⟨w.heap.size + 1, 1, none⟩ = some (.int .i64 0) := HI2.out.box.cell 1
    have a1 : w2.frozen? ⟨w.heap.size + 1, 1, none⟩ = false := HI2.out.box.frozen 1
    have HI3 := Lib.hid (HI2.out.set1 n)
    have b0 : (w2.setCell ⟨w.heap.size + 1, 1, none⟩ (.int .i64 n)).cell? ⟨w.heap.size + 1, 2, none⟩ = some (.string ⟨#[]⟩) := HI3.out.box.cell 2
    have b1 : (w2.setCell ⟨w.heap.size + 1, 1, none⟩ (.int .i64 n)).frozen? ⟨w.heap.size + 1, 2, none⟩ = false := HI3.out.box.frozen 2
    have HI5 := Lib.hid (HI3.out.set2 x)
    have c0 := HI5.out.box.cell 0
    have c1 := HI5.out.box.cell 1
    have c2 := HI5.out.box.cell 2
    have c3 := HI5.out.box.cell 3
    obtain ⟨⟨q0, q1, q2, q3, p0', p1', p2', p3'⟩, ⟨x1, y1, x2, y2, x3, y3⟩, ⟨k2, l2, k3, l3, m3, n3⟩, z0, z1, z2, z3⟩ := box4 HI5.out.rbox (.int .i64 i) (.int .i64 n) (.string x) (.string ⟨#[]⟩)
    have HX := Lib.hid (HI5.out.done (.int .i64 i) (.int .i64 n) (.string x) (.string ⟨#[]⟩))
    clear hN2 HD
    go_wp2_with fail
    refine bodyPost_ret (v := .agg #[.int .i64 i, .int .i64 n, .string x, .string ⟨#[]⟩]) (by simp [results, Tryz.results58, go_sem, z0, z1, z2, z3]) rfl ?_
    rw [HQ.out]
    exact ⟨rfl, HX.out⟩
end
end Go.Proofs.YtnolnhpmpjgnaaaGreatDoor

/- What is proved here: what the program writes of a record (removed, added, Put). Conditions: the writer is there; texts and properties that fit; what the rows list of the package's variables. What is proved here: what the program writes of a message that is recorded (added). Conditions: the writer is there; texts and properties that fit; a message that may be recorded; what the rows list of the package's variables. What is proved here: the record that tells something (the program's Put). Conditions: texts and properties that fit; what the rows list of the package's variables. -/
import Derived.Test.YtnolnhpmpjgnaaaGreatDoorPlt34
import Derived.Test.YtnolnhpmpjgnaaaGreatDoorWlw04
import Derived.Test.YtnolnhpmpjgnaaaGreatDoorMsg34
import Derived.Test.YtnolnhpmpjgnaaaGreatDoorMay34
namespace Go.Proofs.YtnolnhpmpjgnaaaGreatDoor
set_option maxRecDepth 100000
open Go.RowKit Go.Extern.Stop Go.Stop Go.Extern
/-- What a record's writer holds: the writer, and blocks of other kinds. -/
structure WrIn (z w W : World) (S : Nat → Addr) (g : Nat) (v0 v : Value) (V : EV) (L : OL) : Prop where
  obj : WObj W S z.heap.size g v V
  bel : Below z.heap.size z W
  blk : ∀ x ∈ L, Blk W x.1 x.2.1 x.2.2
  ty : (L.all fun x => !decide (x.2.1 = 82) && !decide (x.2.1 = 5)) = true
  nxt : WNext w W S z.heap.size g v0 v V
theorem WrIn.step {z w W0 W1 : World} {S : Nat → Addr} {g : Nat} {v0 v v' : Value} {V V' : EV} {L : OL} (h : WrIn z w W0 S g v0 v V L) (hn : WNext W0 W1 S z.heap.size g v v' V') : WrIn z w W1 S g v0 v' V' L := by
  refine ⟨hn.obj, hn.later h.obj h.bel, fun x hx => ?_, h.ty, h.nxt.trans hn⟩
  have ht := List.all_eq_true.1 h.ty x hx
  simp only [Bool.and_eq_true, Bool.not_eq_true', decide_eq_false_iff_not] at ht
  exact hn.blk h.obj (h.blk x hx) ht.1 ht.2
theorem WrIn.below {z w W0 W1 : World} {S : Nat → Addr} {g : Nat} {v0 v : Value} {V : EV} {L : OL} (h : WrIn z w W0 S g v0 v V L) (hb : Below W0.heap.size W0 W1) : WrIn z w W1 S g v0 v V L := h.step (h.obj.step hb)
theorem WrIn.get {z w W0 : World} {S : Nat → Addr} {g : Nat} {v0 v : Value} {V : EV} {L : OL} (h : WrIn z w W0 S g v0 v V L) (i : Nat) {k : Nat} {t : TypeId} {c : Array Value} (hi : L[i]? = some (k, t, c)) : Blk W0 k t c := h.blk _ (List.mem_of_getElem? hi)
theorem WrIn.alloc {z w W0 : World} {S : Nat → Addr} {g : Nat} {v0 v : Value} {V : EV} {L : OL} (h : WrIn z w W0 S g v0 v V L) (t : TypeId) (c : Array Value) (h1 : t ≠ 82) (h2 : t ≠ 5) : WrIn z w (W0.alloc (.cells c t)) S g v0 v V ((W0.heap.size, t, c) :: L) := by
  have hb := h.below ((Below.refl W0.heap.size W0).alloc (Nat.le_refl _) (.cells c t))
  refine ⟨hb.obj, hb.bel, fun x hx => ?_, ?_, hb.nxt⟩
  · rcases List.mem_cons.1 hx with rfl | hx
    · exact Blk.made W0 t c
    · exact hb.blk x hx
  · rw [List.all_cons, h.ty]
    simp [h1, h2]
theorem step_le (V : EV) (e : EV) (m k : Nat) (hV : V.L.length ≤ m) (he : e.L.length ≤ k) : (stepW V e).L.length ≤ m + k := Nat.le_trans (stepW_len V e) (Nat.add_le_add hV he)
theorem encA_v1 (n : Int) (s : ByteArray) : encA ⟨1, n, s⟩ = numE 1 n := rfl
theorem encA_v4 (n : Int) (s : ByteArray) : encA ⟨4, n, s⟩ = numE 4 n := rfl
theorem encA_v7 (n : Int) (s : ByteArray) : encA ⟨7, n, s⟩ = binE s := rfl
theorem encA_v8 (n : Int) (l : List UInt8) : encA ⟨8, n, ⟨l.toArray⟩⟩ = ⟨0, 0, l⟩ := by unfold encA; simp
section
variable {z w : World} {S : Nat → Addr} {g : Nat} {v : Value} {W : EV}
set_option maxHeartbeats 4000000 in
theorem removed_any (hE : Env z S) (hz : Below z.heap.size z w) (h : WObj w S z.heap.size g v W) (hl : W.L.length ≤ 600000) (o : OV) (A : Option Addr) (c : Nat) (hg : o.grp.size ≤ 65535) :
    Calls Tryz.prog 52 #[.pointer (some ⟨g, 0, none⟩), o.agg A c] w fun x w' => x = .returned .nilIface ∧ ∃ v', WNext w w' S z.heap.size g v v' (stepL W (ptA o)) := by
  obtain ⟨V3, hV3⟩ : ∃ V, V = stepL W (ptA o) := ⟨_, rfl⟩
  rw [← hV3]
  unfold ptA stepL at hV3
  simp only [List.foldl_cons, List.foldl_nil, encA_v1, encA_v4, encA_v7] at hV3
  unfold OV.agg
  obtain ⟨kd, gr, sq, ⟨m1, m2, m3, m4, m5, m6, m7, m8, m9⟩⟩ := o
  simp only at hg hV3 ⊢
  obtain ⟨V1, hV1⟩ : ∃ V, V = stepW W (numE 1 kd) := ⟨_, rfl⟩
  obtain ⟨V2, hV2⟩ : ∃ V, V = stepW V1 (binE gr) := ⟨_, rfl⟩
  rw [← hV1, ← hV2] at hV3
  have l1 : V1.L.length ≤ 600001 := by rw [hV1]; exact step_le _ _ 600000 1 hl (numE_len 1 _)
  have l2 : V2.L.length ≤ 670000 := by have := step_le V1 (binE gr) 600001 65537 l1 (by rw [binE_len]; omega); rw [← hV2] at this; omega
  obtain ⟨C, hC⟩ : ∃ C : Array Value, C = #[.int .i64 kd, .string gr, .int .i64 sq, .string m1, .string m2, .int .i64 m3, .bool m4, .slice A m5.length c, .string m6, .int .i64 m7, .int .i64 m8, .string m9] := ⟨_, rfl⟩
  have hI0 : WrIn z w w S g v v W [] := ⟨h, hz, (fun _ hx => by cases hx), rfl, h.step (Below.refl _ _)⟩
  have hI1 := hI0.alloc 27 C (by decide) (by decide)
  have HU8 := Lib.hid (fun (W1 : World) (v1 : Value) (h : WrIn z w W1 S g v v1 W [(w.heap.size, 27, C)]) => (wu8_any (hE.later h.bel) h.obj (by omega) kd))
  have HBIN := Lib.hid (fun (W1 : World) (v1 : Value) (h : WrIn z w W1 S g v v1 V1 [(w.heap.size, 27, C)]) => (wbin_any (hE.later h.bel) h.obj (by omega) gr hg))
  have HU32 := Lib.hid (fun (W1 : World) (v1 : Value) (h : WrIn z w W1 S g v v1 V2 [(w.heap.size, 27, C)]) => (wu32_any (hE.later h.bel) h.obj (by omega) sq))
  have KC := Lib.hid (fun (W1 : World) (v1 : Value) (V : EV) (h : WrIn z w W1 S g v v1 V [(w.heap.size, 27, C)]) => show W1.cell? ⟨w.heap.size, 0, none⟩ = some (.int .i64 kd) ∧ W1.cell? ⟨w.heap.size, 1, none⟩ = some (.string gr) ∧ W1.cell? ⟨w.heap.size, 2, none⟩ = some (.int .i64 sq) from
    ⟨((h.get 0 rfl).cell 0).trans (by rw [hC]; rfl), ((h.get 0 rfl).cell 1).trans (by rw [hC]; rfl), ((h.get 0 rfl).cell 2).trans (by rw [hC]; rfl)⟩)
  rw [← hV1] at HU8
  rw [← hV2] at HBIN
  rw [← hV3] at HU32
  rw [← hC]
  obtain ⟨k0, k1, k2⟩ := KC.out _ _ _ hI1
  have HI := Lib.hid hI1
  clear hI0 hI1 hE hz h hl hg hV1 hV2 hV3 l1 l2 hC
  go_enter Tryz.func52, Tryz.ntmps52
  go_wp2_with fail
  refine (HU8.out _ _ HI.out).mono ?_
  rintro x w1 ⟨rfl, v1, hN⟩
  have hI := HI.out.step hN
  obtain ⟨k0, k1, k2⟩ := KC.out _ _ _ hI
  clear HI hN HU8
  have HI := Lib.hid hI
  clear hI
  go_wp2_with fail
  refine (HBIN.out _ _ HI.out).mono ?_
  rintro x w2 ⟨rfl, v2, hN⟩
  have hI := HI.out.step hN
  obtain ⟨k0, k1, k2⟩ := KC.out _ _ _ hI
  clear HI hN HBIN
  have HI := Lib.hid hI
  clear hI
  go_wp2_with fail
  refine (HU32.out _ _ HI.out).mono ?_
  rintro x w3 ⟨rfl, v3, hN⟩
  have hI := HI.out.step hN
  clear HI hN HU32
  have HI := Lib.hid hI
  clear hI
  go_wp2_with fail
  go_ret
  exact ⟨rfl, _, HI.out.nxt⟩
end
end Go.Proofs.YtnolnhpmpjgnaaaGreatDoor
namespace Go.Proofs.YtnolnhpmpjgnaaaGreatDoor
set_option maxRecDepth 100000
open Go.RowKit Go.Extern.Stop Go.Stop Go.Extern
theorem and_low (n : Int) (h0 : 0 ≤ n) (h1 : n ≤ 9007199254740992) : bits BinOp.and IntKind.i64 n 4294967295 = n % 4294967296 := by
  obtain ⟨m, rfl⟩ : ∃ m : Nat, n = (m : Int) := ⟨n.toNat, by omega⟩
  have ha : (BitVec.ofInt 64 (m : Int)).toNat = m := by
    rw [BitVec.ofInt_natCast, BitVec.toNat_ofNat]; exact Nat.mod_eq_of_lt (by omega)
  have hb : (BitVec.ofInt 64 (4294967295 : Int)).toNat = 2 ^ 32 - 1 := by decide
  show IntKind.i64.wrap ((BitVec.ofInt 64 (m : Int) &&& BitVec.ofInt 64 4294967295).toNat : Int) = _
  rw [BitVec.toNat_and, ha, hb, Nat.and_two_pow_sub_one_eq_mod, IntKind.wrap_i64]
  omega
theorem or_four (n : Int) (h0 : 0 ≤ n) (h1 : n ≤ 2) : bits BinOp.or IntKind.i64 n 4 = n + 4 := by
  have : n = 0 ∨ n = 1 ∨ n = 2 := by omega
  rcases this with rfl | rfl | rfl <;> decide
theorem err_any3 {z w W1 W2 : World} {S : Nat → Addr} {g : Nat} {v0 v : Value} {V : EV} {L : OL} {r : Int} {no a : Nat} (he : ErrOf W1 S r no a .nilIface) (_h : WrIn z w W2 S g v0 v V L) : ErrOf W2 S r no a .nilIface := by
  unfold ErrOf at he ⊢
  by_cases h0 : no = 0
  · rw [if_pos h0]
  · rw [if_neg h0] at he
    obtain ⟨t, u, e⟩ := he.2.iface
    cases e
def AdSays (z w : World) (S : Nat → Addr) (g : Nat) (v : Value) (q : EnR) (V : EV) (x : Ending) (w' : World) : Prop :=
  ∃ e, x = .returned e ∧ ErrOf w' S q.r q.no q.at_ e ∧ Below z.heap.size z w' ∧ (q.no = 0 → ∃ v', WNext w w' S z.heap.size g v v' V)
section
variable {z w : World} {S : Nat → Addr} {g : Nat} {v : Value} {W : EV}
set_option maxHeartbeats 8000000 in
theorem added_any (hE : Env z S) (hz : Below z.heap.size z w) (h : WObj w S z.heap.size g v W) (hl : W.L.length ≤ 100000) (o : OV) (A : Option Addr) (c : Nat) (hg : o.grp.size ≤ 65535)
    (ht : o.m.topic.size ≤ 65535) (hp : o.m.payload.size ≤ 65535) (hf : o.m.frm.size ≤ 65535) {Bp : Nat} (hBp : Bp ≤ w.heap.size) (hP : PIn w Bp A o.m.props) (hS : SmallP o.m.props) (hcap : o.m.props.length ≤ c)
    (hq0 : 0 ≤ o.m.qos) (hq1 : o.m.qos ≤ 2) (ht0 : 0 ≤ o.m.til) (ht1 : o.m.til ≤ 9007199254740992) (hel : (encR 3 o.m.props).L.length ≤ 65535) :
    Calls Tryz.prog 51 #[.pointer (some ⟨g, 0, none⟩), o.agg A c] w (AdSays z w S g v (encR 3 o.m.props) (stepL (stepL W (ptA o)) (ptB o.m (encR 3 o.m.props).L))) := by
  obtain ⟨kd, gr, sq, ⟨m1, m2, m3, m4, m5, m6, m7, m8, m9⟩⟩ := o
  simp only at hg ht hp hf hP hS hcap hq0 hq1 ht0 ht1 hel ⊢
  unfold OV.agg
  simp only
  obtain ⟨n, hn⟩ : ∃ n, n = m5.length := ⟨_, rfl⟩
  rw [← hn] at hcap ⊢
  have HEN := Lib.hid (fun (W1 : World) (h : PIn W1 W1.heap.size A m5) (he : Env W1 S) => encode_any he 3 n c hn h hS hcap)
  obtain ⟨q, hq⟩ : ∃ q, q = encR 3 m5 := ⟨_, rfl⟩
  rw [← hq] at HEN hel ⊢
  clear hq hS hcap hn
  obtain ⟨Va, hVa⟩ : ∃ V, V = stepW W (numE 1 kd) := ⟨_, rfl⟩
  obtain ⟨Vb, hVb⟩ : ∃ V, V = stepW Va (binE gr) := ⟨_, rfl⟩
  obtain ⟨Vc, hVc⟩ : ∃ V, V = stepW Vb (numE 4 sq) := ⟨_, rfl⟩
  obtain ⟨Vd, hVd⟩ : ∃ V, V = stepW Vc (binE m1) := ⟨_, rfl⟩
  obtain ⟨Ve, hVe⟩ : ∃ V, V = stepW Vd (binE m2) := ⟨_, rfl⟩
  obtain ⟨fl, hfl⟩ : ∃ fl : Int, fl = m3 + (if m4 = true then 4 else 0) := ⟨_, rfl⟩
  obtain ⟨Vf, hVf⟩ : ∃ V, V = stepW Ve (numE 1 fl) := ⟨_, rfl⟩
  obtain ⟨Vg, hVg⟩ : ∃ V, V = stepW Vf (binE m6) := ⟨_, rfl⟩
  obtain ⟨Vh, hVh⟩ : ∃ V, V = stepW Vg (numE 4 (m7 / 4294967296)) := ⟨_, rfl⟩
  obtain ⟨Vi, hVi⟩ : ∃ V, V = stepW Vh (numE 4 (m7 % 4294967296)) := ⟨_, rfl⟩
  obtain ⟨Vj, hVj⟩ : ∃ V, V = stepW Vi ⟨0, 0, q.L⟩ := ⟨_, rfl⟩
  have hfin : stepL (stepL W (ptA ⟨kd, gr, sq, ⟨m1, m2, m3, m4, m5, m6, m7, m8, m9⟩⟩)) (ptB ⟨m1, m2, m3, m4, m5, m6, m7, m8, m9⟩ q.L) = Vj := by
    unfold ptA ptB flB stepL
    simp only [List.foldl_cons, List.foldl_nil, encA_v1, encA_v4, encA_v7, encA_v8]
    rw [hVj, hVi, hVh, hVg, hVf, hfl, hVe, hVd, hVc, hVb, hVa]
  rw [hfin]
  have la : Va.L.length ≤ 100001 := by rw [hVa]; exact step_le _ _ 100000 1 hl (numE_len 1 _)
  have lb : Vb.L.length ≤ 165538 := by rw [hVb]; exact step_le _ _ 100001 65537 la (by rw [binE_len]; omega)
  have lc : Vc.L.length ≤ 165542 := by rw [hVc]; exact step_le _ _ 165538 4 lb (numE_len 4 _)
  have ld : Vd.L.length ≤ 231079 := by rw [hVd]; exact step_le _ _ 165542 65537 lc (by rw [binE_len]; omega)
  have le : Ve.L.length ≤ 296616 := by rw [hVe]; exact step_le _ _ 231079 65537 ld (by rw [binE_len]; omega)
  have lf : Vf.L.length ≤ 296617 := by rw [hVf]; exact step_le _ _ 296616 1 le (numE_len 1 _)
  have lg : Vg.L.length ≤ 362154 := by rw [hVg]; exact step_le _ _ 296617 65537 lf (by rw [binE_len]; omega)
  have lh : Vh.L.length ≤ 362158 := by rw [hVh]; exact step_le _ _ 362154 4 lg (numE_len 4 _)
  have li : Vi.L.length ≤ 362162 := by rw [hVi]; exact step_le _ _ 362158 4 lh (numE_len 4 _)
  obtain ⟨C, hC⟩ : ∃ C : Array Value, C = #[.int .i64 kd, .string gr, .int .i64 sq, .string m1, .string m2, .int .i64 m3, .bool m4, .slice A n c, .string m6, .int .i64 m7, .int .i64 m8, .string m9] := ⟨_, rfl⟩
  obtain ⟨D, hD⟩ : ∃ D : Array Value, D = #[.string m1, .string m2, .int .i64 m3, .bool m4, .slice A n c, .string m6, .int .i64 m7, .int .i64 m8, .string m9] := ⟨_, rfl⟩
  have HMID := Lib.hid (show ∀ j, j < D.size → C[3 + j]? = D[j]? by
    rw [hC, hD]; intro j hj; have hj : j < 9 := hj; match j, hj with | 0, _ => rfl | 1, _ => rfl | 2, _ => rfl | 3, _ => rfl | 4, _ => rfl | 5, _ => rfl | 6, _ => rfl | 7, _ => rfl | 8, _ => rfl)
  have HDS := Lib.hid (show D.size = 9 by rw [hD]; rfl)
  have HD1 := Lib.hid (show D.toList.all (·.oneCell') = true by rw [hD]; rfl)
  rw [← hC]
  have KC := Lib.hid (fun (W1 : World) (k : Nat) (h : Blk W1 k 27 C) => show W1.cell? ⟨k, 0, none⟩ = some (.int .i64 kd) ∧ W1.cell? ⟨k, 1, none⟩ = some (.string gr) ∧ W1.cell? ⟨k, 2, none⟩ = some (.int .i64 sq) from
    ⟨(h.cell 0).trans (by rw [hC]; rfl), (h.cell 1).trans (by rw [hC]; rfl), (h.cell 2).trans (by rw [hC]; rfl)⟩)
  have KD := Lib.hid (fun (W1 : World) (k : Nat) (h : Blk W1 k 25 D) => show W1.cell? ⟨k, 0, none⟩ = some (.string m1) ∧ W1.cell? ⟨k, 1, none⟩ = some (.string m2) ∧ W1.cell? ⟨k, 2, none⟩ = some (.int .i64 m3) ∧ W1.cell? ⟨k, 3, none⟩ = some (.bool m4) ∧ W1.cell? ⟨k, 4, none⟩ = some (.slice A n c) ∧ W1.cell? ⟨k, 5, none⟩ = some (.string m6) ∧ W1.cell? ⟨k, 6, none⟩ = some (.int .i64 m7) from
    ⟨(h.cell 0).trans (by rw [hD]; rfl), (h.cell 1).trans (by rw [hD]; rfl), (h.cell 2).trans (by rw [hD]; rfl), (h.cell 3).trans (by rw [hD]; rfl), (h.cell 4).trans (by rw [hD]; rfl), (h.cell 5).trans (by rw [hD]; rfl), (h.cell 6).trans (by rw [hD]; rfl)⟩)
  have HO := Lib.hid (Own.start [] w)
  have START := Lib.hid (fun (W1 : World) (k3 k5 : Nat) (hO : Own [] w W1 [(k5, 25, D), (k3, 27, C)]) => show WrIn z w W1 S g v v W [(k5, 25, D), (k3, 27, C)] ∧ PIn W1 W1.heap.size A m5 ∧ Env W1 S from
    ⟨⟨h.below hO.bel, hz.trans (hO.bel.mono hz.size), hO.blk, rfl, h.step hO.bel⟩, (hP.below hO.bel).mono (Nat.le_trans hBp hO.bel.size), hE.later (hz.trans (hO.bel.mono hz.size))⟩)
  have HA := Lib.hid (fun (W1 : World) (v1 : Value) (L : OL) (h : WrIn z w W1 S g v v1 W L) => wu8_any (hE.later h.bel) h.obj (by omega) kd)
  have HB := Lib.hid (fun (W1 : World) (v1 : Value) (L : OL) (h : WrIn z w W1 S g v v1 Va L) => wbin_any (hE.later h.bel) h.obj (by omega) gr hg)
  have HCc := Lib.hid (fun (W1 : World) (v1 : Value) (L : OL) (h : WrIn z w W1 S g v v1 Vb L) => wu32_any (hE.later h.bel) h.obj (by omega) sq)
  have HDd := Lib.hid (fun (W1 : World) (v1 : Value) (L : OL) (h : WrIn z w W1 S g v v1 Vc L) => wbin_any (hE.later h.bel) h.obj (by omega) m1 ht)
  have HEe := Lib.hid (fun (W1 : World) (v1 : Value) (L : OL) (h : WrIn z w W1 S g v v1 Vd L) => wbin_any (hE.later h.bel) h.obj (by omega) m2 hp)
  have HF := Lib.hid (fun (W1 : World) (v1 : Value) (L : OL) (h : WrIn z w W1 S g v v1 Ve L) => wu8_any (hE.later h.bel) h.obj (by omega) fl)
  have HG := Lib.hid (fun (W1 : World) (v1 : Value) (L : OL) (h : WrIn z w W1 S g v v1 Vf L) => wbin_any (hE.later h.bel) h.obj (by omega) m6 hf)
  have HH := Lib.hid (fun (W1 : World) (v1 : Value) (L : OL) (h : WrIn z w W1 S g v v1 Vg L) => wu32_any (hE.later h.bel) h.obj (by omega) (m7 / 4294967296))
  have HI := Lib.hid (fun (W1 : World) (v1 : Value) (L : OL) (h : WrIn z w W1 S g v v1 Vh L) => wu32_any (hE.later h.bel) h.obj (by omega) (m7 % 4294967296))
  have HJ := Lib.hid (fun (W1 : World) (v1 : Value) (L : OL) (h : WrIn z w W1 S g v v1 Vi L) => wraw_any h.obj (by omega) (⟨q.L.toArray⟩ : ByteArray) (by rw [bsize]; exact hel))
  rw [← hVa] at HA
  rw [← hVb] at HB
  rw [← hVc] at HCc
  rw [← hVd] at HDd
  rw [← hVe] at HEe
  rw [← hVf] at HF
  rw [← hVg] at HG
  rw [← hVh] at HH
  rw [← hVi] at HI
  have hj2 : stepW Vi ⟨0, 0, (⟨q.L.toArray⟩ : ByteArray).data.toList⟩ = Vj := hVj.symm
  rw [hj2] at HJ
  have b1 := or_four m3 hq0 hq1
  have b2 := and_low m7 ht0 ht1
  clear hE hz h hl hg ht hp hf hP hBp hfin hVa hVb hVc hVd hVe hVf hVg hVh hVi hVj la lb lc ld le lf lg lh li hC hD hel hj2
  go_enter Tryz.func51, Tryz.ntmps51
  go_upto_region 2 with (first | (refine wpo_box (t := 27) HO.out _ rfl rfl rfl ?_; clear HO; rintro k3 W1 hO; have HO := Lib.hid hO; clear hO; simp only [Act.put, List.setIfInBounds_toArray, List.set_cons_zero, List.set_cons_succ]) | (refine wpo_ldm tyM (HO.out.get 0 rfl) 3 HDS.out HMID.out _ rfl rfl rfl ?_) | (refine wpo_alloc tyM HO.out rfl rfl ?_; clear HO; rintro k5 W4 hO; have HO := Lib.hid hO; clear hO; simp only [Act.put, List.setIfInBounds_toArray, List.set_cons_zero, List.set_cons_succ]) | (refine wpo_store (k := k5) HO.out 0 tyM rfl _ _ rfl rfl rfl rfl rfl HDS.out HD1.out ?_; clear HO; rintro W5 hO; have HO := Lib.hid hO; clear hO; simp only [Act.put]))
  obtain ⟨hI, hP1, hE1⟩ := START.out _ _ _ HO.out
  have HW := Lib.hid hI
  have HEC := Lib.hid (HEN.out _ hP1 hE1)
  clear HO START HEN hI hP1 hE1
  obtain ⟨k0, k1, k2⟩ := KC.out _ _ (HW.out.get 1 rfl)
  obtain ⟨d0, d1, d2, d3, d4, d5, d6⟩ := KD.out _ _ (HW.out.get 0 rfl)
  go_wp2_with fail
  refine HEC.out.mono ?_
  rintro x W6 ⟨e, rfl, he, hb⟩
  have hI := HW.out.below hb
  clear HW hb HEC k0 k1 k2 d0 d1 d2 d3 d4 d5 d6
  have HW := Lib.hid hI
  clear hI
  obtain ⟨k0, k1, k2⟩ := KC.out _ _ (HW.out.get 1 rfl)
  obtain ⟨d0, d1, d2, d3, d4, d5, d6⟩ := KD.out _ _ (HW.out.get 0 rfl)
  by_cases h0 : q.no = 0
  case neg =>
    obtain ⟨te, ue, rfl⟩ := err_iface he h0
    have HE := Lib.hid he
    have H0 := Lib.hid h0
    clear h0 he
    go_wp2_with fail
    go_ret
    exact ⟨_, rfl, HE.out, HW.out.bel, fun h => absurd h H0.out⟩
  case pos =>
    have he2 := he
    unfold ErrOf at he
    rw [if_pos h0] at he
    subst he
    have HE := Lib.hid he2
    clear he2 h0
    have hfl2 : (m4 = false ∧ m3 = fl) ∨ (m4 = true ∧ bits BinOp.or IntKind.i64 m3 4 = fl) := by
      cases m4
      · left; exact ⟨rfl, by rw [hfl]; simp⟩
      · right; exact ⟨rfl, by rw [b1, hfl]; simp⟩
    clear b1 hfl
    rcases hfl2 with ⟨rfl, rfl⟩ | ⟨rfl, b1⟩
    · go_wp2_with fail
      refine (HA.out _ _ _ HW.out).mono ?_
      rintro x w7 ⟨rfl, v7, hN⟩
      have hI := HW.out.step hN
      clear HW hN HA k0 k1 k2 d0 d1 d2 d3 d4 d5 d6
      have HW := Lib.hid hI
      clear hI
      obtain ⟨k0, k1, k2⟩ := KC.out _ _ (HW.out.get 1 rfl)
      obtain ⟨d0, d1, d2, d3, d4, d5, d6⟩ := KD.out _ _ (HW.out.get 0 rfl)
      go_wp2_with fail
      refine (HB.out _ _ _ HW.out).mono ?_
      rintro x w8 ⟨rfl, v8, hN⟩
      have hI := HW.out.step hN
      clear HW hN HB k0 k1 k2 d0 d1 d2 d3 d4 d5 d6
      have HW := Lib.hid hI
      clear hI
      obtain ⟨k0, k1, k2⟩ := KC.out _ _ (HW.out.get 1 rfl)
      obtain ⟨d0, d1, d2, d3, d4, d5, d6⟩ := KD.out _ _ (HW.out.get 0 rfl)
      go_wp2_with fail
      refine (HCc.out _ _ _ HW.out).mono ?_
      rintro x w9 ⟨rfl, v9, hN⟩
      have hI := HW.out.step hN
      clear HW hN HCc k0 k1 k2 d0 d1 d2 d3 d4 d5 d6
      have HW := Lib.hid hI
      clear hI
      obtain ⟨k0, k1, k2⟩ := KC.out _ _ (HW.out.get 1 rfl)
      obtain ⟨d0, d1, d2, d3, d4, d5, d6⟩ := KD.out _ _ (HW.out.get 0 rfl)
      go_wp2_with fail
      refine (HDd.out _ _ _ HW.out).mono ?_
      rintro x w10 ⟨rfl, v10, hN⟩
      have hI := HW.out.step hN
      clear HW hN HDd k0 k1 k2 d0 d1 d2 d3 d4 d5 d6
      have HW := Lib.hid hI
      clear hI
      obtain ⟨k0, k1, k2⟩ := KC.out _ _ (HW.out.get 1 rfl)
      obtain ⟨d0, d1, d2, d3, d4, d5, d6⟩ := KD.out _ _ (HW.out.get 0 rfl)
      go_wp2_with fail
      refine (HEe.out _ _ _ HW.out).mono ?_
      rintro x w11 ⟨rfl, v11, hN⟩
      have hI := HW.out.step hN
      clear HW hN HEe k0 k1 k2 d0 d1 d2 d3 d4 d5 d6
      have HW := Lib.hid hI
      clear hI
      obtain ⟨k0, k1, k2⟩ := KC.out _ _ (HW.out.get 1 rfl)
      obtain ⟨d0, d1, d2, d3, d4, d5, d6⟩ := KD.out _ _ (HW.out.get 0 rfl)
      go_wp2_with fail
      refine (HF.out _ _ _ HW.out).mono ?_
      rintro x w12 ⟨rfl, v12, hN⟩
      have hI := HW.out.step hN
      clear HW hN HF k0 k1 k2 d0 d1 d2 d3 d4 d5 d6
      have HW := Lib.hid hI
      clear hI
      obtain ⟨k0, k1, k2⟩ := KC.out _ _ (HW.out.get 1 rfl)
      obtain ⟨d0, d1, d2, d3, d4, d5, d6⟩ := KD.out _ _ (HW.out.get 0 rfl)
      go_wp2_with fail
      refine (HG.out _ _ _ HW.out).mono ?_
      rintro x w13 ⟨rfl, v13, hN⟩
      have hI := HW.out.step hN
      clear HW hN HG k0 k1 k2 d0 d1 d2 d3 d4 d5 d6
      have HW := Lib.hid hI
      clear hI
      obtain ⟨k0, k1, k2⟩ := KC.out _ _ (HW.out.get 1 rfl)
      obtain ⟨d0, d1, d2, d3, d4, d5, d6⟩ := KD.out _ _ (HW.out.get 0 rfl)
      go_wp2_with fail
      refine (HH.out _ _ _ HW.out).mono ?_
      rintro x w14 ⟨rfl, v14, hN⟩
      have hI := HW.out.step hN
      clear HW hN HH k0 k1 k2 d0 d1 d2 d3 d4 d5 d6
      have HW := Lib.hid hI
      clear hI
      obtain ⟨k0, k1, k2⟩ := KC.out _ _ (HW.out.get 1 rfl)
      obtain ⟨d0, d1, d2, d3, d4, d5, d6⟩ := KD.out _ _ (HW.out.get 0 rfl)
      go_wp2_with fail
      refine (HI.out _ _ _ HW.out).mono ?_
      rintro x w15 ⟨rfl, v15, hN⟩
      have hI := HW.out.step hN
      clear HW hN HI k0 k1 k2 d0 d1 d2 d3 d4 d5 d6
      have HW := Lib.hid hI
      clear hI
      obtain ⟨k0, k1, k2⟩ := KC.out _ _ (HW.out.get 1 rfl)
      obtain ⟨d0, d1, d2, d3, d4, d5, d6⟩ := KD.out _ _ (HW.out.get 0 rfl)
      go_wp2_with fail
      refine (HJ.out _ _ _ HW.out).mono ?_
      rintro x w16 ⟨rfl, v16, hN⟩
      have hI := HW.out.step hN
      clear HW hN HJ k0 k1 k2 d0 d1 d2 d3 d4 d5 d6
      have HW := Lib.hid hI
      clear hI
      obtain ⟨k0, k1, k2⟩ := KC.out _ _ (HW.out.get 1 rfl)
      obtain ⟨d0, d1, d2, d3, d4, d5, d6⟩ := KD.out _ _ (HW.out.get 0 rfl)
      go_wp2_with fail
      go_ret
      exact ⟨_, rfl, err_any3 HE.out HW.out, HW.out.bel, fun _ => ⟨_, HW.out.nxt⟩⟩
    · go_wp2_with fail
      refine (HA.out _ _ _ HW.out).mono ?_
      rintro x w7 ⟨rfl, v7, hN⟩
      have hI := HW.out.step hN
      clear HW hN HA k0 k1 k2 d0 d1 d2 d3 d4 d5 d6
      have HW := Lib.hid hI
      clear hI
      obtain ⟨k0, k1, k2⟩ := KC.out _ _ (HW.out.get 1 rfl)
      obtain ⟨d0, d1, d2, d3, d4, d5, d6⟩ := KD.out _ _ (HW.out.get 0 rfl)
      go_wp2_with fail
      refine (HB.out _ _ _ HW.out).mono ?_
      rintro x w8 ⟨rfl, v8, hN⟩
      have hI := HW.out.step hN
      clear HW hN HB k0 k1 k2 d0 d1 d2 d3 d4 d5 d6
      have HW := Lib.hid hI
      clear hI
      obtain ⟨k0, k1, k2⟩ := KC.out _ _ (HW.out.get 1 rfl)
      obtain ⟨d0, d1, d2, d3, d4, d5, d6⟩ := KD.out _ _ (HW.out.get 0 rfl)
      go_wp2_with fail
      refine (HCc.out _ _ _ HW.out).mono ?_
      rintro x w9 ⟨rfl, v9, hN⟩
      have hI := HW.out.step hN
      clear HW hN HCc k0 k1 k2 d0 d1 d2 d3 d4 d5 d6
      have HW := Lib.hid hI
      clear hI
      obtain ⟨k0, k1, k2⟩ := KC.out _ _ (HW.out.get 1 rfl)
      obtain ⟨d0, d1, d2, d3, d4, d5, d6⟩ := KD.out _ _ (HW.out.get 0 rfl)
      go_wp2_with fail
      refine (HDd.out _ _ _ HW.out).mono ?_
      rintro x w10 ⟨rfl, v10, hN⟩
      have hI := HW.out.step hN
      clear HW hN HDd k0 k1 k2 d0 d1 d2 d3 d4 d5 d6
      have HW := Lib.hid hI
      clear hI
      obtain ⟨k0, k1, k2⟩ := KC.out _ _ (HW.out.get 1 rfl)
      obtain ⟨d0, d1, d2, d3, d4, d5, d6⟩ := KD.out _ _ (HW.out.get 0 rfl)
      go_wp2_with fail
      refine (HEe.out _ _ _ HW.out).mono ?_
      rintro x w11 ⟨rfl, v11, hN⟩
      have hI := HW.out.step hN
      clear HW hN HEe k0 k1 k2 d0 d1 d2 d3 d4 d5 d6
      have HW := Lib.hid hI
      clear hI
      obtain ⟨k0, k1, k2⟩ := KC.out _ _ (HW.out.get 1 rfl)
      obtain ⟨d0, d1, d2, d3, d4, d5, d6⟩ := KD.out _ _ (HW.out.get 0 rfl)
      go_wp2_with fail
      refine (HF.out _ _ _ HW.out).mono ?_
      rintro x w12 ⟨rfl, v12, hN⟩
      have hI := HW.out.step hN
      clear HW hN HF k0 k1 k2 d0 d1 d2 d3 d4 d5 d6
      have HW := Lib.hid hI
      clear hI
      obtain ⟨k0, k1, k2⟩ := KC.out _ _ (HW.out.get 1 rfl)
      obtain ⟨d0, d1, d2, d3, d4, d5, d6⟩ := KD.out _ _ (HW.out.get 0 rfl)
      go_wp2_with fail
      refine (HG.out _ _ _ HW.out).mono ?_
      rintro x w13 ⟨rfl, v13, hN⟩
      have hI := HW.out.step hN
      clear HW hN HG k0 k1 k2 d0 d1 d2 d3 d4 d5 d6
      have HW := Lib.hid hI
      clear hI
      obtain ⟨k0, k1, k2⟩ := KC.out _ _ (HW.out.get 1 rfl)
      obtain ⟨d0, d1, d2, d3, d4, d5, d6⟩ := KD.out _ _ (HW.out.get 0 rfl)
      go_wp2_with fail
      refine (HH.out _ _ _ HW.out).mono ?_
      rintro x w14 ⟨rfl, v14, hN⟩
      have hI := HW.out.step hN
      clear HW hN HH k0 k1 k2 d0 d1 d2 d3 d4 d5 d6
      have HW := Lib.hid hI
      clear hI
      obtain ⟨k0, k1, k2⟩ := KC.out _ _ (HW.out.get 1 rfl)
      obtain ⟨d0, d1, d2, d3, d4, d5, d6⟩ := KD.out _ _ (HW.out.get 0 rfl)
      go_wp2_with fail
      refine (HI.out _ _ _ HW.out).mono ?_
      rintro x w15 ⟨rfl, v15, hN⟩
      have hI := HW.out.step hN
      clear HW hN HI k0 k1 k2 d0 d1 d2 d3 d4 d5 d6
      have HW := Lib.hid hI
      clear hI
      obtain ⟨k0, k1, k2⟩ := KC.out _ _ (HW.out.get 1 rfl)
      obtain ⟨d0, d1, d2, d3, d4, d5, d6⟩ := KD.out _ _ (HW.out.get 0 rfl)
      go_wp2_with fail
      refine (HJ.out _ _ _ HW.out).mono ?_
      rintro x w16 ⟨rfl, v16, hN⟩
      have hI := HW.out.step hN
      clear HW hN HJ k0 k1 k2 d0 d1 d2 d3 d4 d5 d6
      have HW := Lib.hid hI
      clear hI
      obtain ⟨k0, k1, k2⟩ := KC.out _ _ (HW.out.get 1 rfl)
      obtain ⟨d0, d1, d2, d3, d4, d5, d6⟩ := KD.out _ _ (HW.out.get 0 rfl)
      go_wp2_with fail
      go_ret
      exact ⟨_, rfl, err_any3 HE.out HW.out, HW.out.bel, fun _ => ⟨_, HW.out.nxt⟩⟩
end
end Go.Proofs.YtnolnhpmpjgnaaaGreatDoor
namespace Go.Proofs.YtnolnhpmpjgnaaaGreatDoor
set_option maxRecDepth 100000
open Go.RowKit Go.Extern.Stop Go.Stop Go.Extern
def PtSays (w : World) (S : Nat → Addr) (q : PtR) (x : Ending) (w' : World) : Prop :=
  ∃ e, x = .returned (.tuple #[.string ⟨q.L.toArray⟩, e]) ∧ ErrOf w' S q.r q.no q.at_ e ∧ Below w.heap.size w w'
/-- Something whose parts fit. -/
structure SmallO (o : OV) : Prop where
  grp : o.grp.size ≤ 65535
  topic : o.m.topic.size ≤ 65535
  payload : o.m.payload.size ≤ 65535
  frm : o.m.frm.size ≤ 65535
  props : SmallP o.m.props
theorem enc_len (place : Int) {L : PL} (h : SmallP L) : (encR place L).L.length ≤ 65535 := by
  unfold encR
  split
  · split
    · have h2 := wr6_len h L.length
      rw [List.take_length] at h2
      have h3 := (vb_len (wrAll (actsL6 L)).L.length (by omega)).2
      simp only [List.length_append]
      omega
    · simp
  · simp
set_option maxHeartbeats 8000000 in
theorem put34_any {w : World} {S : Nat → Addr} (hE : Env w S) (o : OV) (A : Option Addr) (c : Nat) {Bp : Nat} (hBp : Bp ≤ w.heap.size) (hP : PIn w Bp A o.m.props) (hcap : o.m.props.length ≤ c) (hS : SmallO o) :
    Calls Tryz.prog 19 #[o.agg A c] w (PtSays w S (ptF o)) := by
  obtain ⟨q, hq⟩ : ∃ q, q = ptF o := ⟨_, rfl⟩
  rw [← hq]
  unfold ptF at hq
  have HQ := Lib.hid hq
  have HOV := Lib.hid (show o.agg A c = .agg #[.int .i64 o.kind, .string o.grp, .int .i64 o.seq, .string o.m.topic, .string o.m.payload, .int .i64 o.m.qos, .bool o.m.retain, .slice A o.m.props.length c, .string o.m.frm, .int .i64 o.m.til, .int .i64 o.m.seq, .string o.m.grp] from rfl)
  have HO := Lib.hid (Own.start [] w)
  have HMY := Lib.hid (fun W => may_any o A c W)
  have HMF := Lib.hid (fun (W : World) (L : OL) (hO : Own [] w W L) => (hE.later hO.bel).kArgument)
  have HRM := Lib.hid (fun (W W2 : World) (L : OL) (hO : Own [] w W L) (hO2 : Own [] w W2 L) (h : WObj W2 S w.heap.size W.heap.size (.slice none 0 0) w0) => removed_any hE hO2.bel h (Nat.zero_le _) o A c hS.grp)
  have HAD := Lib.hid (fun (W W2 : World) (L : OL) (hO : Own [] w W L) (hO2 : Own [] w W2 L) (h : WObj W2 S w.heap.size W.heap.size (.slice none 0 0) w0) (hm : mayM o = true) => added_any hE hO2.bel h (Nat.zero_le _) o A c hS.grp hS.topic hS.payload hS.frm (Nat.le_trans hBp hO2.bel.size) (hP.below hO2.bel) hS.props hcap
    (by unfold mayM at hm; simp at hm; omega) (by unfold mayM at hm; simp at hm; omega) (by unfold mayM at hm; simp at hm; omega) (by unfold mayM at hm; simp at hm; omega) (enc_len 3 hS.props))
  rw [HOV.out] at HMY HRM HAD
  rw [HOV.out]
  clear hq hE hP hBp hcap hS
  go_enter Tryz.func19, Tryz.ntmps19
  go_upto_region 1 with (first | (refine wpo_box (t := 27) HO.out _ rfl rfl rfl ?_; clear HO; rintro k1 W1 hO; have HO := Lib.hid hO; clear hO; simp only [Act.put, List.setIfInBounds_toArray, List.set_cons_zero, List.set_cons_succ]))
  have kd := (HO.out.get 0 rfl).cell 0
  replace kd : W1.cell? ⟨k1, 0, none⟩ = some (.int .i64 o.kind) := kd
  go_wp2_with fail
  refine (writer_any _ W1).mono ?_
  rintro x W2 ⟨rfl, rfl⟩
  by_cases hk : 1 ≤ o.kind ∧ o.kind ≤ 3
  case neg =>
    have hw : wrK o.kind = .nilFunc := by
      unfold wrK
      rw [if_neg (by omega), if_neg (by omega)]
    rw [hw]
    have hF := nil_eqF W1
    have HX := Lib.hid (show q = ⟨7, 128, 0, []⟩ by rw [HQ.out, if_neg]; unfold knO; rw [decide_eq_false hk]; simp)
    have kM := HMF.out _ _ HO.out
    clear HQ hk hw kd
    go_wp2_with fail
    refine (new_err S 6 128 0).mono ?_
    rintro x W12 ⟨e, rfl, he, hb⟩
    have hO := HO.out.below hb
    have he2 : ErrOf W12 S 128 7 0 e := ErrOf.some (no := 7) (by decide) (by decide) he
    clear HO he hb kM
    have HO := Lib.hid hO
    have HG := Lib.hid he2
    clear hO he2
    go_wp2_with fail
    exact bodyPost_ret (v := .tuple #[.string ⟨#[]⟩, e]) (by simp [results, Tryz.results19, go_sem]) rfl ⟨e, by rw [HX.out], by rw [HX.out]; exact HG.out, HO.out.bel⟩
  case pos =>
  obtain ⟨f, hw, hwf⟩ : ∃ f, wrK o.kind = .func (.func f) #[] #[] ∧ ((o.kind = 1 ∧ f = 51) ∨ (o.kind ≠ 1 ∧ f = 52)) := by
    unfold wrK
    by_cases h : o.kind = 1
    · exact ⟨_, if_pos h, .inl ⟨h, rfl⟩⟩
    · exact ⟨_, by rw [if_neg h, if_pos (by omega)], .inr ⟨h, rfl⟩⟩
  rw [hw]
  have hF := fn_eqF f W1
  have HKN := Lib.hid (show knO o = true by unfold knO; exact decide_eq_true hk)
  have HWF := Lib.hid hwf
  clear hw hk hwf kd
  have kc0 : W1.cell? ⟨k1, 0, none⟩ = some (.int .i64 o.kind) := (HO.out.get 0 rfl).cell 0
  have kc1 : W1.cell? ⟨k1, 1, none⟩ = some (.string o.grp) := (HO.out.get 0 rfl).cell 1
  have kc2 : W1.cell? ⟨k1, 2, none⟩ = some (.int .i64 o.seq) := (HO.out.get 0 rfl).cell 2
  have kc3 : W1.cell? ⟨k1, 3, none⟩ = some (.string o.m.topic) := (HO.out.get 0 rfl).cell 3
  have kc4 : W1.cell? ⟨k1, 4, none⟩ = some (.string o.m.payload) := (HO.out.get 0 rfl).cell 4
  have kc5 : W1.cell? ⟨k1, 5, none⟩ = some (.int .i64 o.m.qos) := (HO.out.get 0 rfl).cell 5
  have kc6 : W1.cell? ⟨k1, 6, none⟩ = some (.bool o.m.retain) := (HO.out.get 0 rfl).cell 6
  have kc7 : W1.cell? ⟨k1, 7, none⟩ = some (.slice A o.m.props.length c) := (HO.out.get 0 rfl).cell 7
  have kc8 : W1.cell? ⟨k1, 8, none⟩ = some (.string o.m.frm) := (HO.out.get 0 rfl).cell 8
  have kc9 : W1.cell? ⟨k1, 9, none⟩ = some (.int .i64 o.m.til) := (HO.out.get 0 rfl).cell 9
  have kc10 : W1.cell? ⟨k1, 10, none⟩ = some (.int .i64 o.m.seq) := (HO.out.get 0 rfl).cell 10
  have kc11 : W1.cell? ⟨k1, 11, none⟩ = some (.string o.m.grp) := (HO.out.get 0 rfl).cell 11
  go_wp2_with fail
  refine (HMY.out _).mono ?_
  rintro x W14 ⟨rfl, hb⟩
  have hO := HO.out.below hb
  clear HO hb HMY hF kc0 kc1 kc2 kc3 kc4 kc5 kc6 kc7 kc8 kc9 kc10 kc11
  have HO := Lib.hid hO
  clear hO
  by_cases hm : mayO o = true
  case neg =>
    have hm0 : mayO o = false := by simpa using hm
    rw [hm0]
    have HX := Lib.hid (show q = ⟨7, 128, 0, []⟩ by rw [HQ.out, if_neg]; rw [hm0]; simp)
    have kM := HMF.out _ _ HO.out
    clear HQ hm hm0
    go_wp2_with fail
    refine (new_err S 6 128 0).mono ?_
    rintro x W12 ⟨e, rfl, he, hb⟩
    have hO := HO.out.below hb
    have he2 : ErrOf W12 S 128 7 0 e := ErrOf.some (no := 7) (by decide) (by decide) he
    clear HO he hb kM
    have HO := Lib.hid hO
    have HG := Lib.hid he2
    clear hO he2
    go_wp2_with fail
    exact bodyPost_ret (v := .tuple #[.string ⟨#[]⟩, e]) (by simp [results, Tryz.results19, go_sem]) rfl ⟨e, by rw [HX.out], by rw [HX.out]; exact HG.out, HO.out.bel⟩
  case pos =>
  rw [hm]
  have HQ2 := Lib.hid (show q = if o.kind = 1 then (if (encR 3 o.m.props).no = 0 then ptW (stepL (stepL w0 (ptA o)) (ptB o.m (encR 3 o.m.props).L)) else ⟨(encR 3 o.m.props).no, (encR 3 o.m.props).r, (encR 3 o.m.props).at_, []⟩) else ptW (stepL w0 (ptA o)) by rw [HQ.out, if_pos (by rw [HKN.out, hm]; rfl)])
  have HMM := Lib.hid (show o.kind = 1 → mayM o = true by
    intro h1
    unfold mayO at hm
    simp only [h1, ne_eq, not_true_eq_false, decide_false, Bool.false_or, Bool.and_eq_true] at hm
    exact hm.2)
  clear HQ HKN hm
  go_upto_region 5 with (fail)
  have hg := WObj.made (B := w.heap.size) W14 S HO.out.size
  have hO := HO.out.below ((Below.refl W14.heap.size W14).alloc (Nat.le_refl _) (.cells #[.slice none 0 0, .nilIface] 82))
  have HO1 := Lib.hid HO.out
  clear HO
  generalize W14.alloc (.cells #[.slice none 0 0, .nilIface] 82) = W15 at *
  have HO := Lib.hid hO
  have HG := Lib.hid hg
  clear hO hg
  rcases HWF.out with ⟨h1, rfl⟩ | ⟨h1, rfl⟩
  · have hq := HQ2.out
    rw [if_pos h1] at hq
    have HC := Lib.hid (HAD.out _ _ _ HO1.out HO.out HG.out (HMM.out h1))
    clear HQ2 HRM HAD HWF HMM HO1
    generalize encR 3 o.m.props = E at hq HC
    generalize stepL (stepL w0 (ptA o)) (ptB o.m E.L) = V at hq HC
    obtain ⟨gw, hgw⟩ : ∃ gw, gw = W14.heap.size := ⟨_, rfl⟩
    rw [← hgw] at HC HG ⊢
    have HQ := Lib.hid hq
    clear hq hgw h1
    go_wp2_with (first | (refine wpo_load HO.out 0 tyO rfl rfl _ rfl rfl rfl ?_))
    refine HC.out.mono ?_
    rintro x W16 ⟨e, rfl, he, hb, hn⟩
    clear HC
    by_cases h0 : E.no = 0
    case neg =>
      have HX := Lib.hid (show q = ⟨E.no, E.r, E.at_, []⟩ by rw [HQ.out, if_neg h0])
      obtain ⟨te, ue, rfl⟩ := err_iface he h0
      have HE := Lib.hid he
      have HB := Lib.hid hb
      clear h0 hn he hb HQ
      go_wp2_with fail
      exact bodyPost_ret (v := .tuple #[.string ⟨#[]⟩, .iface te ue]) (by simp [results, Tryz.results19, go_sem]) rfl ⟨_, by rw [HX.out], by rw [HX.out]; exact HE.out, HB.out⟩
    case pos =>
      obtain ⟨v', hN⟩ := hn h0
      unfold ErrOf at he
      rw [if_pos h0] at he
      subst he
      have HX := Lib.hid (show q = ptW V by rw [HQ.out, if_pos h0])
      have HY := Lib.hid hN.obj
      have HB := Lib.hid hb
      clear h0 hn hN hb HQ HG
      go_wp2_with fail
      refine (wbytes_any HY.out).mono ?_
      rintro x W17 ⟨e, rfl, he, hb⟩
      have HE := Lib.hid he
      have HB2 := Lib.hid (HB.out.trans (hb.mono HB.out.size))
      clear he hb HB
      go_wp2_with fail
      exact bodyPost_ret (v := .tuple #[.string ⟨V.L.toArray⟩, e]) (by simp [results, Tryz.results19, go_sem]) rfl ⟨_, by rw [HX.out] <;> rfl, by rw [HX.out]; exact HE.out, HB2.out⟩
  · have hq := HQ2.out
    rw [if_neg h1] at hq
    have HC := Lib.hid (HRM.out _ _ _ HO1.out HO.out HG.out)
    clear HQ2 HRM HAD HWF HMM HO1
    generalize stepL w0 (ptA o) = V at hq HC
    have HBG := Lib.hid (fun (W' : World) (v' : Value) (hn : WNext W15 W' S w.heap.size W14.heap.size (.slice none 0 0) v' V) => hn.later HG.out HO.out.bel)
    obtain ⟨gw, hgw⟩ : ∃ gw, gw = W14.heap.size := ⟨_, rfl⟩
    rw [← hgw] at HC HG HBG ⊢
    have HX := Lib.hid hq
    clear hq hgw h1
    go_wp2_with (first | (refine wpo_load HO.out 0 tyO rfl rfl _ rfl rfl rfl ?_))
    refine HC.out.mono ?_
    rintro x W16 ⟨rfl, v', hN⟩
    have HY := Lib.hid hN.obj
    have HB := Lib.hid (HBG.out _ _ hN)
    clear HC hN HBG HG
    go_wp2_with fail
    refine (wbytes_any HY.out).mono ?_
    rintro x W17 ⟨e, rfl, he, hb⟩
    have HE := Lib.hid he
    have HB2 := Lib.hid (HB.out.trans (hb.mono HB.out.size))
    clear he hb HB
    go_wp2_with fail
    exact bodyPost_ret (v := .tuple #[.string ⟨V.L.toArray⟩, e]) (by simp [results, Tryz.results19, go_sem]) rfl ⟨_, by rw [HX.out] <;> rfl, by rw [HX.out]; exact HE.out, HB2.out⟩
end Go.Proofs.YtnolnhpmpjgnaaaGreatDoor

/- What is proved here: what making and storing a whole will does, as laws for a walk; will of package connect tells what a plain function says. Conditions: the reader is there, with few bytes; what the rows list of the package's variables. -/
import Derived.Test.YtbfbmdjnobdjpaaGreatDoorHed08
namespace Go.Proofs.YtbfbmdjnobdjpaaGreatDoor
set_option maxRecDepth 100000
open Go.ChangeShapes Go.WideShapes Go.RowKit Go.Deep Go.Extern.Stop Go.Stop Go.Extern
def lv0 : Array Value := #[.bool false, .string ⟨#[]⟩, .string ⟨#[]⟩, .int .i64 0, .bool false, .slice none 0 0]
theorem ip_last : (Tryz.prog.info? 24).map (·.size) = some 6 := by kernel_rfl
theorem zv_last (w : World) : (zeroValue 24).run Tryz.prog w = .ok (.agg lv0) w :=
  (zero_of_info (P := Tryz.prog) (t := 24) (v := .agg lv0) (n := 6) (by kernel_rfl)).1 w
section
variable {ops : Array Oper} {rest : List Oper} {op : Oper} {a : Act} {w : World} {Q : Exit → Act → World → Prop} {z c old : Array Value} {k : Nat}
theorem wpl_alloc (hz : z = lv0) (hgd : op.guard = none) (ho : op.op = .alloc 24)
    (h : wpList Tryz.prog ops Q rest (a.put op.dst (.pointer (some ⟨w.heap.size, 0, none⟩))) (w.alloc (.cells z 24))) : wpList Tryz.prog ops Q (op :: rest) a w :=
  wpList_plain hgd fun _ hK => by
    subst hz
    unfold Oper.wp execOp
    simp only [ho, Instr.alloc, Sem.run_bind, zv_last, Result.andThen_ok, newVar, nr_pkt, Value.cells, Sem.run_pure]
    exact hK _ _ h
theorem wpl_build (hz : z = lv0) (hgd : op.guard = none) (ho : op.op = .build 24 #[])
    (h : wpList Tryz.prog ops Q rest (a.put op.dst (.agg z)) w) : wpList Tryz.prog ops Q (op :: rest) a w :=
  wpList_build hgd _ _ ho (by kernel_rfl) (by
    have e : Tryz.prog.built 24 [] = some lv0 := by kernel_rfl
    subst hz
    simpa [e] using h)
theorem wpl_store (hb : Blk w k 24 old) (ho' : old.size = 6) (hs : c.size = 6) (h1 : c.all (·.oneCell') = true) (x y : Operand) (hgd : op.guard = none) (ho : op.op = .store 24 x y)
    (hx : a.eval x = .pointer (some ⟨k, 0, none⟩)) (hy : a.eval y = .agg c)
    (h : wpList Tryz.prog ops Q rest (a.put op.dst undef) (w.setRow k c)) : wpList Tryz.prog ops Q (op :: rest) a w :=
  wpList_plain hgd fun _ hK => wp_store_row 24 x y ho k c hx hy 24 old hb (by rw [hs]; exact ip_last) (by rw [ho', hs]) h1 (hK _ _ h)
end
section
variable {w W W' : World} {S : Nat → Addr} {g k B : Nat} {s : ByteArray} {R R' : RV} {c old : Array Value} {r : Int} {no at_ : Nat} {e : Value} {A : Option Addr} {L : PL}
theorem setRow_blkl (hb : Blk w k 24 old) (c : Array Value) : Blk (w.setRow k c) k 24 c := by
  unfold Blk at hb ⊢
  simp [World.setRow, Array.getElem?_modify, hb]
theorem ldv_last (hb : Blk w k 24 c) (hs : c.size = 6) : (loadVar 24 ⟨k, 0, none⟩).run Tryz.prog w = .ok (.agg c) w := by
  have h := run_loadVar_mid (P := Tryz.prog) w k 0 24 c.toList _ (fun j v hv => by
    rw [Nat.zero_add, hb.cell j]
    simpa using hv) Tryz.underlying24 rfl (by rw [Array.length_toList, hs]; exact ip_last)
  simpa using h
theorem res_last8 {fn : Func} {tmps : Array Value} {i j : Nat} (hr : fn.results = #[.cell i 24, .tmp j]) (hi : tmps.getD i undef = .pointer (some ⟨k, 0, none⟩)) {v : Value} (hj : tmps.getD j undef = v) (hb : Blk w k 24 c) (hs : c.size = 6) :
    (results fn tmps).run Tryz.prog w = .ok (.tuple #[.agg c, v]) w := by
  subst hj
  have h := ldv_last hb hs
  have hi' : tmps[i]?.getD undef = .pointer (some ⟨k, 0, none⟩) := by simpa using hi
  simp [results, hr, hi', asAddr, h]
theorem last_nof (hb : Blk w k 24 old) : NoF w [k] := NoF.of fun j hj => by
  rw [List.mem_singleton] at hj
  subst hj
  exact ⟨_, _, hb, by decide⟩
theorem rd_ne8l (ho : RObj W S g s R) (hb : Blk W k 24 c) : k ≠ g := fun h => by
  obtain ⟨e, h1, _⟩ := ho.blk
  exact hb.other h1 (by decide) h
theorem Blk.rnextl (hb : Blk W k 24 c) (ho : RObj W S g s R) (hn : RNext W W' S g s R') : Blk W' k 24 c :=
  hb.fr hn.fr fun hm => by
    rw [List.mem_singleton] at hm
    exact rd_ne8l ho hb hm
theorem err_rowl (h : ErrOf w S r no at_ e) (hb : Blk w k 24 old) (c : Array Value) : ErrOf (w.setRow k c) S r no at_ e := err_fr h (setRow_fr w k c) (last_nof hb)
theorem RNext.rowl (h : RNext w W S g s R) (hb : Blk W k 24 old) (hk : w.heap.size ≤ k) (y : Array Value) : RNext w (W.setRow k y) S g s R :=
  ⟨h.obj.fr (setRow_fr W k y) (fun hm => by
    rw [List.mem_singleton] at hm
    exact rd_ne8l h.obj hb hm.symm) (last_nof hb), h.fr.trans (setRow_fr W k y) fun j hj hlt => by
    rw [List.mem_singleton] at hj
    omega⟩
theorem PIn.rowl (h : PIn w B A L) (hb : Blk w k 24 old) (hB : B ≤ k) (c : Array Value) : PIn (w.setRow k c) B A L :=
  h.fr (setRow_fr w k c) fun g hg => by
    rw [List.mem_singleton] at hg
    subst hg
    exact ⟨hB, fun cs hc => hb.other hc (by decide) rfl⟩
end
/-- A will's six cells. -/
def lvO (t p : ByteArray) (q : Nat) (rt : Bool) (a : Option Addr) (n c : Nat) : Array Value := #[.bool true, .string t, .string p, .int .i64 q, .bool rt, .slice a n c]
/-- What will tells: an error, or what stands there. -/
def WlSays (W : World) (S : Nat → Addr) (g : Nat) (s : ByteArray) (n : Nat) (R : RV) (x : Ending) (W' : World) : Prop :=
  ((readF 16 s R).1.no = 0 ∧ ∃ a m c, x = .returned (.tuple #[.agg (lvO (rText s (readF 16 s R).2).1 (rBin s (rText s (readF 16 s R).2).2).1 (qosK n) (has32 n) a m c), .nilIface]) ∧ (∀ B', PIn W' B' a (readF 16 s R).1.L) ∧ m = (readF 16 s R).1.L.length ∧ m ≤ c ∧ RNext W W' S g s (rBin s (rText s (readF 16 s R).2).2).2) ∨
  ((readF 16 s R).1.no ≠ 0 ∧ ∃ t u, x = .returned (.tuple #[.agg lv0, .iface t u]) ∧ ErrOf W' S (readF 16 s R).1.r (readF 16 s R).1.no (readF 16 s R).1.at_ (.iface t u) ∧ RNext W W' S g s (readF 16 s R).2)
theorem PIn.any {W : World} {a : Option Addr} {L : PL} {B : Nat} (h : PIn W 0 a L) : PIn W B a L := h.mono (Nat.zero_le _)
section
variable {w w' z' W : World} {S : Nat → Addr} {s : ByteArray} {g : Nat} {R : RV}
set_option maxHeartbeats 16000000 in
theorem will08 (hE : Env z' S) (hz : Below z'.heap.size z' W) (hg : z'.heap.size ≤ g) (h : RObj W S g s R) (hs : s.size ≤ 900000) (n : Nat) (hn : n < 256) : Calls Tryz.prog 71 #[.pointer (some ⟨g, 0, none⟩), .int .i64 n] W (WlSays W S g s n R) := by
  obtain ⟨z, hzz⟩ : ∃ z, z = lv0 := ⟨_, rfl⟩
  have HZ := Lib.hid hzz
  have HZS := Lib.hid (show z.size = 6 by rw [hzz]; rfl)
  have HZ1 := Lib.hid (show z.all (·.oneCell') = true by rw [hzz]; simp [lv0, Value.oneCell'])
  obtain ⟨P, hP⟩ : ∃ P, P = WlSays W S g s n R := ⟨_, rfl⟩
  rw [← hP]
  unfold WlSays at hP
  obtain ⟨W1, hW1⟩ : ∃ X, X = W.alloc (.cells z 24) := ⟨_, rfl⟩
  have b1 : Below W.heap.size W W1 := by rw [hW1]; exact (Below.refl _ _).alloc (Nat.le_refl _) _
  have r1 : Blk W1 W.heap.size 24 z := by rw [hW1]; exact Blk.made _ _ _
  have hz1 := hz.trans (b1.mono hz.size)
  have hn1 := h.step b1
  have hrd := pread_any hE hz1 hg hn1.obj hs 16
  obtain ⟨⟨⟨qn, qr, qa, M⟩, R2⟩, hrq⟩ : ∃ V, V = readF 16 s R := ⟨_, rfl⟩
  rw [← hrq] at hrd hP
  simp only at hP
  obtain ⟨⟨t, R3⟩, ht⟩ : ∃ V, V = rText s R2 := ⟨_, rfl⟩
  rw [← ht] at hP
  simp only at hP
  obtain ⟨⟨py, R4⟩, hp⟩ : ∃ V, V = rBin s R3 := ⟨_, rfl⟩
  rw [← hp] at hP
  simp only at hP
  obtain ⟨qk, hqk⟩ : ∃ k, k = qosK n := ⟨_, rfl⟩
  have bq := bk_q n hn
  have b32 := bk_32 n hn
  rw [← hqk] at bq hP
  obtain ⟨rt, hrt⟩ : ∃ k, k = has32 n := ⟨_, rfl⟩
  rw [← hrt] at b32 hP
  have HRD := Lib.hid hrd
  have HP := Lib.hid hP
  have HT := Lib.hid ht
  have HPY := Lib.hid hp
  have HE := Lib.hid hE
  have HZZ := Lib.hid hz1
  have HG := Lib.hid hg
  have HN1 := Lib.hid hn1
  have RR1 := Lib.hid r1
  have HSZ := Lib.hid hs
  have HW1 := Lib.hid hW1
  clear hE hz hg h hs hzz hrd hP hrq ht hp hqk hrt b1 r1 hz1 hn1 hW1
  go_enter Tryz.func71, Tryz.ntmps71
  go_wp2_with (first | refine wpl_alloc HZ.out rfl rfl ?_)
  rw [← HW1.out]
  refine HRD.out.mono ?_
  rintro x w3 ⟨v3, e3, rfl, hr3, he3, hn3⟩
  simp only at hr3 he3 hn3
  obtain ⟨a3, n3, c3, rfl, hnn3, hcc3⟩ := hr3.some_form
  have HZ3 := Lib.hid (hn3.later HG.out HZZ.out.size HZZ.out)
  have HN3 := Lib.hid (HN1.out.trans hn3)
  have RR3 := Lib.hid (RR1.out.rnextl HN1.out.obj hn3)
  clear HRD HN1 RR1 HZZ hn3
  by_cases h0 : qn = 0
  · subst h0
    unfold ErrOf at he3
    rw [if_pos rfl] at he3
    subst he3
    have HP3 := Lib.hid (hr3.pin (B' := 0))
    have HNN := Lib.hid hnn3
    have HCC := Lib.hid hcc3
    have htx := rdtext_any (env_cl HE.out HZ3.out HG.out) HN3.out.obj HSZ.out
    rw [← HT.out] at htx
    have HTX := Lib.hid htx
    obtain ⟨y, hy⟩ : ∃ y, y = lvO t py qk rt a3 n3 c3 := ⟨_, rfl⟩
    have HYY := Lib.hid (show y = #[.bool true, .string t, .string py, .int .i64 qk, .bool rt, .slice a3 n3 c3] by rw [hy]; rfl)
    have HYS := Lib.hid (show y.size = 6 by rw [hy]; rfl)
    have HY1 := Lib.hid (show y.all (·.oneCell') = true by rw [hy]; simp [lvO, Value.oneCell'])
    clear htx hr3 hnn3 hcc3 hy
    cases rt <;> (first
      | replace b32 : bits BinOp.and IntKind.i64 (n : Int) 32 = 0 := b32
      | replace b32 : bits BinOp.and IntKind.i64 (n : Int) 32 = 32 := b32)
    all_goals
      go_wp2_with fail
      refine HTX.out.mono ?_
      rintro x w4 ⟨rfl, hn4⟩
      have HZ4 := Lib.hid (hn4.later HG.out HZ3.out.size HZ3.out)
      have HN4 := Lib.hid (HN3.out.trans hn4)
      have RR4 := Lib.hid (RR3.out.rnextl HN3.out.obj hn4)
      have HP4 := Lib.hid (HP3.out.rnext (Nat.zero_le _) HN3.out.obj hn4)
      have hbn := rbin_any (env_cl HE.out HZ4.out HG.out) HN4.out.obj HSZ.out
      rw [← HPY.out] at hbn
      have HBN := Lib.hid hbn
      clear hbn hn4 HTX HN3 RR3 HP3 HZ3
      go_wp2_with fail
      refine HBN.out.mono ?_
      rintro x w5 ⟨rfl, hn5⟩
      have HN5 := Lib.hid (HN4.out.trans hn5)
      have RR5 := Lib.hid (RR4.out.rnextl HN4.out.obj hn5)
      have HP5 := Lib.hid (HP4.out.rnext (Nat.zero_le _) HN4.out.obj hn5)
      clear hn5 HBN HN4 RR4 HP4 HZ4
      have HX := Lib.hid (show P (.returned (.tuple #[.agg y, .nilIface])) (w5.setRow W.heap.size y) from by
        rw [HP.out]
        exact .inl ⟨by first | trivial | rfl, a3, n3, c3, by rw [HYY.out]; rfl, fun B' => (HP5.out.rowl RR5.out (Nat.zero_le _) y).any, HNN.out, HCC.out, HN5.out.rowl RR5.out (Nat.le_refl _) _⟩)
      have HL := Lib.hid (setRow_blkl RR5.out y)
      clear HP5 HN5
      go_wp2_with (first | refine wpl_store RR5.out HZS.out HYS.out HY1.out _ _ rfl rfl rfl (congrArg Value.agg HYY.out.symm) ?_)
      exact bodyPost_ret (v := .tuple #[.agg y, .nilIface]) (res_last8 (i := 4) (j := 5) rfl rfl rfl HL.out HYS.out) rfl HX.out
  · obtain ⟨t3, u3, rfl⟩ := err_iface he3 h0
    have HX := Lib.hid (show P (.returned (.tuple #[.agg z, .iface t3 u3])) (w3.setRow W.heap.size z) from by
      rw [HP.out]
      refine .inr ⟨h0, t3, u3, by rw [HZ.out], err_rowl he3 RR3.out _, HN3.out.rowl RR3.out (Nat.le_refl _) _⟩)
    have HL := Lib.hid (setRow_blkl RR3.out z)
    clear he3 hr3 hnn3 hcc3
    go_wp2_with (first | refine wpl_build HZ.out rfl rfl ?_ | refine wpl_store RR3.out HZS.out HZS.out HZ1.out _ _ rfl rfl rfl rfl ?_)
    exact bodyPost_ret (v := .tuple #[.agg z, .iface t3 u3]) (res_last8 (i := 4) (j := 5) rfl rfl rfl HL.out HZS.out) rfl HX.out
end
end Go.Proofs.YtbfbmdjnobdjpaaGreatDoor

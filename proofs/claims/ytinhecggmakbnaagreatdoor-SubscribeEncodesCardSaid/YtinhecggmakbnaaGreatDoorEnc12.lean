/- What is proved here: what making, storing and loading a whole subscription does, as laws for a walk; what the small functions of package subscribe tell. Conditions: the reader is there, with few bytes; what the rows list of the package's variables. What is proved here: a subscription is read. Conditions: the reader is there, with few bytes; what the rows list of the package's variables. What is proved here: parts that follow one another are read: subscriptions. Conditions: the reader is there, with few bytes; what the rows list of the package's variables. What is proved here: Decode of package subscribe tells what a plain function says. Conditions: few bytes; what the rows list of the package's variables. What is proved here: a frame that is decoded by subscribe.Decode. Conditions: the writer is there; what Decode tells. What is proved here: Encode of package subscribe tells what a plain function says. Conditions: few bytes, the packet's parts stand where it says; what the rows list of the package's variables. -/
import Derived.Test.YtinhecggmakbnaaGreatDoorCod13
import Derived.Test.YtinhecggmakbnaaGreatDoorRop12
import Derived.Test.YtinhecggmakbnaaGreatDoorBod08
namespace Go.Proofs.YtinhecggmakbnaaGreatDoor
set_option maxRecDepth 100000
open Go.ChangeShapes Go.WideShapes Go.RowKit Go.Deep Go.Extern.Stop Go.Stop Go.Extern
theorem ip_sub8 : (Tryz.prog.info? 55).map (·.size) = some 5 := by kernel_rfl
theorem zv_sub8 (w : World) : (zeroValue 55).run Tryz.prog w = .ok (.agg (sv0.cells.toArray)) w :=
  (zero_of_info (P := Tryz.prog) (t := 55) (v := .agg (sv0.cells.toArray)) (n := 5) (by kernel_rfl)).1 w
section
variable {ops : Array Oper} {rest : List Oper} {op : Oper} {a : Act} {w : World} {Q : Exit → Act → World → Prop} {z c old : Array Value} {k : Nat}
/-- A subscription is made. -/
theorem wpv_alloc (hz : z = sv0.cells.toArray) (hgd : op.guard = none) (ho : op.op = .alloc 55)
    (h : wpList Tryz.prog ops Q rest (a.put op.dst (.pointer (some ⟨w.heap.size, 0, none⟩))) (w.alloc (.cells z 55))) : wpList Tryz.prog ops Q (op :: rest) a w :=
  wpList_plain hgd fun _ hK => by
    subst hz
    unfold Oper.wp execOp
    simp only [ho, Instr.alloc, Sem.run_bind, zv_sub8, Result.andThen_ok, newVar, nr_pkt, Value.cells, Sem.run_pure]
    exact hK _ _ h
theorem wpv_build (hz : z = sv0.cells.toArray) (hgd : op.guard = none) (ho : op.op = .build 55 #[])
    (h : wpList Tryz.prog ops Q rest (a.put op.dst (.agg z)) w) : wpList Tryz.prog ops Q (op :: rest) a w :=
  wpList_build hgd _ _ ho (by kernel_rfl) (by
    have e : Tryz.prog.built 55 [] = some (sv0.cells.toArray) := by kernel_rfl
    subst hz
    simpa [e] using h)
/-- A subscription is stored. -/
theorem wpv_store (hb : Blk w k 55 old) (ho' : old.size = 5) (hs : c.size = 5) (h1 : c.all (·.oneCell') = true) (x y : Operand) (hgd : op.guard = none) (ho : op.op = .store 55 x y)
    (hx : a.eval x = .pointer (some ⟨k, 0, none⟩)) (hy : a.eval y = .agg c)
    (h : wpList Tryz.prog ops Q rest (a.put op.dst undef) (w.setRow k c)) : wpList Tryz.prog ops Q (op :: rest) a w :=
  wpList_plain hgd fun _ hK => wp_store_row 55 x y ho k c hx hy 55 old hb (by rw [hs]; exact ip_sub8) (by rw [ho', hs]) h1 (hK _ _ h)
/-- Into the block that was made last. -/
theorem wpv_store_new (ho' : old.size = 5) (hs : c.size = 5) (h1 : c.all (·.oneCell') = true) (x y : Operand) (hgd : op.guard = none) (ho : op.op = .store 55 x y)
    (hx : a.eval x = .pointer (some ⟨w.heap.size, 0, none⟩)) (hy : a.eval y = .agg c)
    (h : wpList Tryz.prog ops Q rest (a.put op.dst undef) (w.alloc (.cells c 55))) : wpList Tryz.prog ops Q (op :: rest) a (w.alloc (.cells old 55)) :=
  wpv_store (Blk.made w _ old) ho' hs h1 x y hgd ho hx hy (by rw [World.setRow_alloc_new]; exact h)
/-- A subscription is loaded. -/
theorem wpv_load (hb : Blk w k 55 c) (hs : c.size = 5) (x : Operand) (hgd : op.guard = none) (ho : op.op = .load 55 x)
    (hx : a.eval x = .pointer (some ⟨k, 0, none⟩)) (h : wpList Tryz.prog ops Q rest (a.put op.dst (.agg c)) w) : wpList Tryz.prog ops Q (op :: rest) a w := by
  have hl := wpList_load_mid (P := Tryz.prog) (ops := ops) (rest := rest) (op := op) (a := a) (w := w) (Q := Q) hgd 55 x ho k 0 hx c.toList _ (fun j v hv => by
    rw [Nat.zero_add, hb.cell j]
    simpa using hv) Tryz.underlying55 rfl (by rw [Array.length_toList, hs]; exact ip_sub8)
  refine hl ?_
  simpa using h
/-- A subscription that came in is put into a block. -/
theorem wpv_box (_hs : c.size = 5) (x : Operand) (hgd : op.guard = none) (ho : op.op = .box 55 x) (hx : a.eval x = .agg c)
    (h : wpList Tryz.prog ops Q rest (a.put op.dst (.pointer (some ⟨w.heap.size, 0, none⟩))) (w.alloc (.cells c 55))) : wpList Tryz.prog ops Q (op :: rest) a w :=
  wpList_plain hgd fun _ hK => by
    unfold Oper.wp execOp
    simp only [ho, hx, Instr.box, Sem.run_bind, newVar, nr_pkt, Value.cells, Result.andThen_ok, Sem.run_pure]
    exact hK _ _ h
end
section
variable {w : World} {k : Nat} {c old : Array Value}
theorem setRow_blkv (hb : Blk w k 55 old) (c : Array Value) : Blk (w.setRow k c) k 55 c := by
  unfold Blk at hb ⊢
  simp [World.setRow, Array.getElem?_modify, hb]
theorem ldv_sub8 (hb : Blk w k 55 c) (hs : c.size = 5) : (loadVar 55 ⟨k, 0, none⟩).run Tryz.prog w = .ok (.agg c) w := by
  have h := run_loadVar_mid (P := Tryz.prog) w k 0 55 c.toList _ (fun j v hv => by
    rw [Nat.zero_add, hb.cell j]
    simpa using hv) Tryz.underlying55 rfl (by rw [Array.length_toList, hs]; exact ip_sub8)
  simpa using h
/-- A subscription and what stands in a slot, as results. -/
theorem res_sub8 {fn : Func} {tmps : Array Value} {i j : Nat} (hr : fn.results = #[.cell i 55, .tmp j]) (hi : tmps.getD i undef = .pointer (some ⟨k, 0, none⟩)) {v : Value} (hj : tmps.getD j undef = v) (hb : Blk w k 55 c) (hs : c.size = 5) :
    (results fn tmps).run Tryz.prog w = .ok (.tuple #[.agg c, v]) w := by
  subst hj
  have h := ldv_sub8 hb hs
  have hi' : tmps[i]?.getD undef = .pointer (some ⟨k, 0, none⟩) := by simpa using hi
  simp [results, hr, hi', asAddr, h]
end
/-- A subscription as a value. -/
def SV.agg (x : SV) : Value := .agg x.cells.toArray
theorem sv_size (x : SV) : x.cells.toArray.size = 5 := rfl
theorem sv_one (x : SV) : x.cells.toArray.all (·.oneCell') = true := by simp [SV.cells, Value.oneCell']
section
variable {z' w w' W W' : World} {S : Nat → Addr} {g : Nat} {s : ByteArray} {R : RV}
set_option maxHeartbeats 8000000 in
theorem opt12_bad (x : SV) (w : World) (h : x.qos < 0 ∨ 3 < x.qos ∨ x.retain < 0 ∨ 3 < x.retain) : Calls Tryz.prog 70 #[x.agg] w fun r w' => r = .returned (.int .i64 (-1)) ∧ Below w.heap.size w w' := by
  obtain ⟨f, q, a, b, r⟩ := x
  simp only at h
  show Calls Tryz.prog 70 #[.agg #[.string f, .int .i64 q, .bool a, .bool b, .int .i64 r]] w _
  by_cases h1 : q < 0
  · clear h
    go_enter Tryz.func70, Tryz.ntmps70
    go_wp2
    go_ret
    exact ⟨rfl, (Below.refl _ _).alloc (Nat.le_refl _) _⟩
  · by_cases h2 : 3 < q
    · clear h
      go_enter Tryz.func70, Tryz.ntmps70
      go_wp2
      go_ret
      exact ⟨rfl, (Below.refl _ _).alloc (Nat.le_refl _) _⟩
    · by_cases h3 : r < 0
      · clear h
        go_enter Tryz.func70, Tryz.ntmps70
        go_wp2
        go_ret
        exact ⟨rfl, (Below.refl _ _).alloc (Nat.le_refl _) _⟩
      · have h4 : 3 < r := by omega
        clear h
        go_enter Tryz.func70, Tryz.ntmps70
        go_wp2
        go_ret
        exact ⟨rfl, (Below.refl _ _).alloc (Nat.le_refl _) _⟩
set_option maxHeartbeats 16000000 in
theorem opt12_good (f : ByteArray) (q : Nat) (a b : Bool) (r : Nat) (w : World) (hq : q < 4) (hr : r < 4) : Calls Tryz.prog 70 #[.agg #[.string f, .int .i64 q, .bool a, .bool b, .int .i64 r]] w fun x w' => x = .returned (.int .i64 (opN q a b r : Nat)) ∧ Below w.heap.size w w' := by
  obtain rfl | rfl | rfl | rfl : q = 0 ∨ q = 1 ∨ q = 2 ∨ q = 3 := by omega
  all_goals
    obtain rfl | rfl | rfl | rfl : r = 0 ∨ r = 1 ∨ r = 2 ∨ r = 3 := by omega
    all_goals
      clear hq hr
      cases a <;> cases b
      all_goals
        go_enter Tryz.func70, Tryz.ntmps70
        go_wp2
        go_ret
        exact ⟨rfl, (Below.refl _ _).alloc (Nat.le_refl _) _⟩
theorem opt12 (x : SV) (w : World) : Calls Tryz.prog 70 #[x.agg] w fun r w' => r = .returned (.int .i64 (opI x)) ∧ Below w.heap.size w w' := by
  by_cases h : x.qos < 0 ∨ 3 < x.qos ∨ x.retain < 0 ∨ 3 < x.retain
  · unfold opI
    rw [if_pos h]
    exact opt12_bad x w h
  · unfold opI
    rw [if_neg h]
    obtain ⟨f, q, a, b, r⟩ := x
    simp only at h ⊢
    have h1 := opt12_good f q.toNat a b r.toNat w (by omega) (by omega)
    rw [show ((q.toNat : Nat) : Int) = q by omega, show ((r.toNat : Nat) : Int) = r by omega] at h1
    exact h1
end
end Go.Proofs.YtinhecggmakbnaaGreatDoor
namespace Go.Proofs.YtinhecggmakbnaaGreatDoor
set_option maxRecDepth 100000
open Go.ChangeShapes Go.WideShapes Go.RowKit Go.Deep Go.Extern.Stop Go.Stop Go.Extern
theorem bits_s3 : ∀ n : Nat, n < 64 → bits BinOp.and IntKind.i64 (n : Int) 3 = ((n % 4 : Nat) : Int) := by decide +kernel
theorem bits_s4 : ∀ n : Nat, n < 64 → bits BinOp.and IntKind.i64 (n : Int) 4 = if n / 4 % 2 = 1 then 4 else 0 := by decide +kernel
theorem bits_s8 : ∀ n : Nat, n < 64 → bits BinOp.and IntKind.i64 (n : Int) 8 = if n / 8 % 2 = 1 then 8 else 0 := by decide +kernel
section
variable {z' w w' W W' : World} {S : Nat → Addr} {g k : Nat} {s : ByteArray} {R R' : RV} {c old : Array Value} {r : Int} {no at_ : Nat} {e : Value}
theorem sv_nof (hb : Blk w k 55 old) : NoF w [k] := NoF.of fun j hj => by
  rw [List.mem_singleton] at hj
  subst hj
  exact ⟨_, _, hb, by decide⟩
theorem rd_ne8v (ho : RObj W S g s R) (hb : Blk W k 55 c) : k ≠ g := fun h => by
  obtain ⟨e, h1, _⟩ := ho.blk
  exact hb.other h1 (by decide) h
theorem Blk.rnextv (hb : Blk W k 55 c) (ho : RObj W S g s R) (hn : RNext W W' S g s R') : Blk W' k 55 c :=
  hb.fr hn.fr fun hm => by
    rw [List.mem_singleton] at hm
    exact rd_ne8v ho hb hm
theorem err_rowv (h : ErrOf w S r no at_ e) (hb : Blk w k 55 old) (c : Array Value) : ErrOf (w.setRow k c) S r no at_ e := err_fr h (setRow_fr w k c) (sv_nof hb)
theorem RNext.rowv (h : RNext w W S g s R) (hb : Blk W k 55 old) (hk : w.heap.size ≤ k) (y : Array Value) : RNext w (W.setRow k y) S g s R :=
  ⟨h.obj.fr (setRow_fr W k y) (fun hm => by
    rw [List.mem_singleton] at hm
    exact rd_ne8v h.obj hb hm.symm) (sv_nof hb), h.fr.trans (setRow_fr W k y) fun j hj hlt => by
    rw [List.mem_singleton] at hj
    omega⟩
def SuSays (w : World) (S : Nat → Addr) (g : Nat) (s : ByteArray) (q : Er × SV × RV) (x : Ending) (w' : World) : Prop := ∃ e, x = .returned (.tuple #[q.2.1.agg, e]) ∧ ErrOf w' S q.1.r q.1.no q.1.at_ e ∧ RNext w w' S g s q.2.2
set_option maxHeartbeats 8000000 in
theorem sub12 (hE : Env z' S) (hz : Below z'.heap.size z' w) (hg : z'.heap.size ≤ g) (ho : RObj w S g s R) (hs : s.size ≤ 900000) :
    Calls Tryz.prog 143 #[.pointer (some ⟨g, 0, none⟩)] w (SuSays w S g s (rdS s R)) := by
  obtain ⟨z, hzz⟩ : ∃ z, z = sv0.cells.toArray := ⟨_, rfl⟩
  have HZ := Lib.hid hzz
  have HZS := Lib.hid (show z.size = 5 by rw [hzz]; rfl)
  have HZ1 := Lib.hid (show z.all (·.oneCell') = true by rw [hzz]; exact sv_one _)
  obtain ⟨q, hq⟩ : ∃ q, q = rdS s R := ⟨_, rfl⟩
  rw [← hq]
  unfold rdS at hq
  obtain ⟨W1, hW1⟩ : ∃ W, W = w.alloc (.cells z 55) := ⟨_, rfl⟩
  have b1 : Below w.heap.size w W1 := by rw [hW1]; exact (Below.refl _ _).alloc (Nat.le_refl _) _
  have r1 : Blk W1 w.heap.size 55 z := by rw [hW1]; exact Blk.made _ _ _
  have hz1 := hz.trans (b1.mono hz.size)
  have hn1 := ho.step b1
  have htx := rdtext_any (env_cl hE hz1 hg) hn1.obj hs
  obtain ⟨⟨t, R1⟩, ht⟩ : ∃ V, V = rText s R := ⟨_, rfl⟩
  rw [← ht] at htx hq
  simp only at htx hq
  have HTX := Lib.hid htx
  have HQ := Lib.hid hq
  have HE := Lib.hid hE
  have HZZ := Lib.hid hz1
  have HG := Lib.hid hg
  have HN1 := Lib.hid hn1
  have RR1 := Lib.hid r1
  have HSZ := Lib.hid hs
  have HW1 := Lib.hid hW1
  clear hE hz hg ho hs hzz hq b1 r1 hz1 hn1 htx ht hW1
  go_enter Tryz.func143, Tryz.ntmps143
  go_wp2_with (first | refine wpv_alloc HZ.out rfl rfl ?_)
  rw [← HW1.out]
  refine HTX.out.mono ?_
  rintro x w2 ⟨rfl, hn2⟩
  have hz2 := hn2.later HG.out HZZ.out.size HZZ.out
  have HN2 := Lib.hid (HN1.out.trans hn2)
  have RR2 := Lib.hid (RR1.out.rnextv HN1.out.obj hn2)
  have HAT := Lib.hid (rat_any hn2.obj)
  have hu8 := ru8_any (HE.out.later hz2) hn2.obj (by have := HSZ.out; omega)
  obtain ⟨⟨n, R2⟩, hn⟩ : ∃ V, V = rNum s 1 R1 := ⟨_, rfl⟩
  have hlt : R2.no = 0 → n < 256 := fun h0 => by
    have h1 : R1.no = 0 := no_of (show (rNum s 1 R1).2.no = 0 by rw [← hn]; exact h0) fun hh => by rw [rNum_stuck hh]
    have := (rNum_is (s := s) (n := 1) h1 (by rw [← hn]; exact h0)).1
    rw [← hn] at this
    omega
  rw [← hn] at hu8
  have hq := HQ.out
  rw [← hn] at hq
  simp only at hu8 hq
  have HU8 := Lib.hid hu8
  have HQ2 := Lib.hid hq
  have HZ2 := Lib.hid hz2
  have HLT := Lib.hid hlt
  clear hn2 hz2 hu8 hq hn hlt HQ HTX HN1 RR1 HZZ
  go_wp2_with fail
  refine HAT.out.mono ?_
  rintro x w2' ⟨rfl, rfl⟩
  clear HAT
  go_wp2_with fail
  refine HU8.out.mono ?_
  rintro x w3 ⟨rfl, hn3⟩
  have HZ3 := Lib.hid (hn3.later HG.out HZ2.out.size HZ2.out)
  have HN3 := Lib.hid (HN2.out.trans hn3)
  have RR3 := Lib.hid (RR2.out.rnextv HN2.out.obj hn3)
  have HRE := Lib.hid (rerr_any hn3.obj)
  clear hn3 HU8 HN2 RR2 HZ2
  go_wp2_with fail
  refine HRE.out.mono ?_
  rintro x w3' ⟨e3, rfl, he3, rfl⟩
  clear HRE
  have hq := HQ2.out
  by_cases h0 : R2.no = 0
  · rw [if_pos h0] at hq
    unfold ErrOf at he3
    rw [if_pos h0] at he3
    subst he3
    have hnb := HLT.out h0
    by_cases h63 : 63 < n
    · rw [if_pos h63] at hq
      have hni : (63 : Int) < n := by omega
      have kM := (HE.out.later HZ3.out).kMalformed
      have HNE := Lib.hid (new_err (w := w3) S 1 129 (R1.p : Int))
      have HQ3 := Lib.hid hq
      clear hq HQ2 HLT
      go_wp2_with (first | refine wpv_build HZ.out rfl rfl ?_)
      refine HNE.out.mono ?_
      rintro x w4 ⟨e, rfl, he, hb4⟩
      have RR4 := Lib.hid (RR3.out.below hb4 RR3.out.lt)
      have hn4 := HN3.out.below hb4
      have HX := Lib.hid (show SuSays w S g s q (.returned (.tuple #[.agg z, e])) (w4.setRow w.heap.size z) from by
        rw [HQ3.out, HZ.out]
        exact ⟨e, rfl, err_rowv (ErrOf.some (no := 2) (by decide) (by decide) he) RR4.out _, hn4.rowv RR4.out (Nat.le_refl _) _⟩)
      have HL := Lib.hid (setRow_blkv RR4.out z)
      clear he hb4 hn4 HNE kM
      go_wp2_with (first | refine wpv_store RR4.out HZS.out HZS.out HZ1.out _ _ rfl rfl rfl rfl ?_)
      exact bodyPost_ret (v := .tuple #[.agg z, e]) (res_sub8 (i := 2) (j := 3) rfl rfl rfl HL.out HZS.out) rfl HX.out
    · rw [if_neg h63] at hq
      have hni : ¬ (63 : Int) < n := by omega
      have hb3 := bits_s3 n (by omega)
      have hb4 := bits_s4 n (by omega)
      have hb8 := bits_s8 n (by omega)
      have hrt : (n : Int) / 16 = ((n / 16 : Nat) : Int) := rfl
      obtain ⟨y, hy⟩ : ∃ y, y = (svO t n).cells.toArray := ⟨_, rfl⟩
      have hyy : y = #[.string t, .int .i64 ((n % 4 : Nat) : Int), .bool (decide (n / 4 % 2 = 1)), .bool (decide (n / 8 % 2 = 1)), .int .i64 ((n / 16 : Nat) : Int)] := by rw [hy]; rfl
      have HYS := Lib.hid (show y.size = 5 by rw [hy]; rfl)
      have HY1 := Lib.hid (show y.all (·.oneCell') = true by rw [hy]; exact sv_one _)
      have k1 : (w3.alloc (.cells y 55)).cell? ⟨w3.heap.size, 1, none⟩ = some (.int .i64 ((n % 4 : Nat) : Int)) := ((Blk.made w3 55 y).cell 1).trans (by rw [hyy]; rfl)
      have k4 : (w3.alloc (.cells y 55)).cell? ⟨w3.heap.size, 4, none⟩ = some (.int .i64 ((n / 16 : Nat) : Int)) := ((Blk.made w3 55 y).cell 4).trans (by rw [hyy]; rfl)
      have a3 : Below w3.heap.size w3 (w3.alloc (.cells y 55)) := (Below.refl _ _).alloc (Nat.le_refl _) _
      have HY := Lib.hid hy
      have HQ3 := Lib.hid hq
      have RR4 := Lib.hid (RR3.out.below a3 RR3.out.lt)
      have HN4 := Lib.hid (HN3.out.below a3)
      have HZ4 := Lib.hid (HZ3.out.trans (a3.mono HZ3.out.size))
      generalize hqq : n % 4 = qq at *
      generalize hrr : n / 16 = rr at *
      clear hy hq HQ2 HLT a3
      obtain ⟨m4, hm4⟩ : ∃ m : Int, m = if n / 4 % 2 = 1 then 4 else 0 := ⟨_, rfl⟩
      rw [← hm4] at hb4
      obtain ⟨m8, hm8⟩ : ∃ m : Int, m = if n / 8 % 2 = 1 then 8 else 0 := ⟨_, rfl⟩
      rw [← hm8] at hb8
      have e4 : decide (n / 4 % 2 = 1) = (m4 != 0) := by
        rw [hm4]
        by_cases d : n / 4 % 2 = 1
        · rw [if_pos d, decide_eq_true d]; rfl
        · rw [if_neg d, decide_eq_false d]; rfl
      have e8 : decide (n / 8 % 2 = 1) = (m8 != 0) := by
        rw [hm8]
        by_cases d : n / 8 % 2 = 1
        · rw [if_pos d, decide_eq_true d]; rfl
        · rw [if_neg d, decide_eq_false d]; rfl
      rw [e4, e8] at hyy
      have HYY := Lib.hid hyy
      clear hm4 hm8 hyy e4 e8
      by_cases hc : qq = 3 ∨ rr = 3
      · have hq := HQ3.out
        rw [if_pos hc] at hq
        have HQ4 := Lib.hid hq
        have kM := (HE.out.later HZ4.out).kProtocol
        have HNE := Lib.hid (new_err (w := w3.alloc (.cells y 55)) S 2 130 (R1.p : Int))
        have hX : ∀ (w4 : World) (e : Value), ErrIs w4 S 2 130 (R1.p : Int) e → Below (w3.alloc (.cells y 55)).heap.size (w3.alloc (.cells y 55)) w4 → Blk w4 w.heap.size 55 z ∧ SuSays w S g s q (.returned (.tuple #[.agg z, e])) (w4.setRow w.heap.size z) := fun w4 e he hb4 => by
          have r4 := RR4.out.below hb4 RR4.out.lt
          refine ⟨r4, ?_⟩
          rw [HQ4.out, HZ.out]
          exact ⟨e, rfl, err_rowv (ErrOf.some (no := 3) (by decide) (by decide) he) r4 _, (HN4.out.below hb4).rowv r4 (Nat.le_refl _) _⟩
        have HXX := Lib.hid hX
        clear hq hX
        by_cases hq3 : qq = 3
        all_goals
          first
            | (have hqi : (qq : Int) = 3 := by omega
               have hy3 := HYY.out
               rw [hqi] at hy3)
            | (have hqi : ¬ (qq : Int) = 3 := by omega
               have hri : (rr : Int) = 3 := by omega
               have hy3 := HYY.out
               rw [hri] at hy3)
          have HY3 := Lib.hid hy3
          clear hc hq3 hy3
          go_wp2_with (first | refine wpv_alloc HZ.out rfl rfl ?_ | refine wpv_store_new HZS.out HYS.out HY1.out _ _ rfl rfl rfl (congrArg Value.agg HY3.out.symm) ?_ | refine wpv_build HZ.out rfl rfl ?_)
          refine HNE.out.mono ?_
          rintro x w4 ⟨e, rfl, he, hb4⟩
          obtain ⟨r4, hx⟩ := HXX.out _ _ he hb4
          have RR5 := Lib.hid r4
          have HX := Lib.hid hx
          have HL := Lib.hid (setRow_blkv RR5.out z)
          clear he hb4 r4 hx
          go_wp2_with (first | refine wpv_store RR5.out HZS.out HZS.out HZ1.out _ _ rfl rfl rfl rfl ?_)
          exact bodyPost_ret (v := .tuple #[.agg z, e]) (res_sub8 (i := 2) (j := 3) rfl rfl rfl HL.out HZS.out) rfl HX.out
      · have hq := HQ3.out
        rw [if_neg hc] at hq
        have hqi : ¬ (qq : Int) = 3 := by omega
        have hri : ¬ (rr : Int) = 3 := by omega
        have hqb : ((qq : Int) == 3) = false := beq_eq_false_iff_ne.2 hqi
        have hrb : ((rr : Int) == 3) = false := beq_eq_false_iff_ne.2 hri
        have HX := Lib.hid (show SuSays w S g s q (.returned (.tuple #[.agg y, .nilIface])) ((w3.alloc (.cells y 55)).setRow w.heap.size y) from by
          rw [hq, HY.out]
          exact ⟨_, rfl, ErrOf.none, by rw [← HY.out]; exact HN4.out.rowv RR4.out (Nat.le_refl _) _⟩)
        have HL := Lib.hid (setRow_blkv RR4.out y)
        clear hq hc
        go_wp2_with (first | refine wpv_alloc HZ.out rfl rfl ?_ | refine wpv_store_new HZS.out HYS.out HY1.out _ _ rfl rfl rfl (congrArg Value.agg HYY.out.symm) ?_ | refine wpv_load (Blk.made w3 55 y) HYS.out _ rfl rfl rfl ?_ | refine wpv_store RR4.out HZS.out HYS.out HY1.out _ _ rfl rfl rfl rfl ?_)
        exact bodyPost_ret (v := .tuple #[.agg y, .nilIface]) (res_sub8 (i := 2) (j := 3) rfl rfl rfl HL.out HYS.out) rfl HX.out
  · rw [if_neg h0] at hq
    obtain ⟨t3, u3, rfl⟩ := err_iface he3 h0
    have HX := Lib.hid (show SuSays w S g s q (.returned (.tuple #[.agg z, .iface t3 u3])) (w3.setRow w.heap.size z) from by
      rw [hq, HZ.out]
      exact ⟨_, rfl, err_rowv he3 RR3.out _, HN3.out.rowv RR3.out (Nat.le_refl _) _⟩)
    have HL := Lib.hid (setRow_blkv RR3.out z)
    clear hq he3 HQ2 HLT
    go_wp2_with (first | refine wpv_build HZ.out rfl rfl ?_ | refine wpv_store RR3.out HZS.out HZS.out HZ1.out _ _ rfl rfl rfl rfl ?_)
    exact bodyPost_ret (v := .tuple #[.agg z, .iface t3 u3]) (res_sub8 (i := 2) (j := 3) rfl rfl rfl HL.out HZS.out) rfl HX.out
end
end Go.Proofs.YtinhecggmakbnaaGreatDoor
namespace Go.Proofs.YtinhecggmakbnaaGreatDoor
set_option maxRecDepth 100000
open Go.ChangeShapes Go.WideShapes Go.RowKit Go.Deep Go.Extern.Stop Go.Stop Go.Extern
section
variable {z' w w' W W' : World} {S : Nat → Addr} {g : Nat} {s : ByteArray} {R : RV}
/-- What Parts tells of subscriptions. -/
def PtV (w : World) (S : Nat → Addr) (g : Nat) (s : ByteArray) (q : Er × List SV) (x : Ending) (w' : World) : Prop :=
  ∃ v e, x = .returned (.tuple #[v, e]) ∧ V8Row w' w.heap.size v q.2 ∧ ErrOf w' S q.1.r q.1.no q.1.at_ e ∧ ∃ R', RNext w w' S g s R'
/-- What its loop holds. -/
structure PvIn (z' w W : World) (S : Nat → Addr) (g : Nat) (s : ByteArray) (R : RV) (u : Value) (L : List SV) : Prop where
  rd : RObj W S g s R
  row : V8Row W w.heap.size u L
  bel : Below z'.heap.size z' W
  fr : Fr [g] w W
  gz : z'.heap.size ≤ g
  glt : g < w.heap.size
  zw : z'.heap.size ≤ w.heap.size
section
variable {u u' : Value} {L L' : List SV} {R' : RV}
theorem PvIn.below (h : PvIn z' w W S g s R u L) (hb : Below W.heap.size W W') : PvIn z' w W' S g s R u L :=
  ⟨h.rd.below hb, h.row.below hb, h.bel.trans (hb.mono h.bel.size), h.fr.trans (Y := []) (Fr.of_below hb) (fun k hk => by cases hk), h.gz, h.glt, h.zw⟩
theorem PvIn.step (h : PvIn z' w W S g s R u L) (hn : RNext W W' S g s R') : PvIn z' w W' S g s R' u L := by
  refine ⟨hn.obj, h.row.fr hn.fr fun k hk hm => ?_, hn.later h.gz h.bel.size h.bel, h.fr.trans hn.fr fun k hk _ => hk, h.gz, h.glt, h.zw⟩
  rw [List.mem_singleton] at hm
  subst hm
  have := (h.row.lt k hk).1
  have := h.glt
  omega
theorem PvIn.app (h : PvIn z' w W S g s R u L) (hn : V8Next W W' w.heap.size u u' L') : PvIn z' w W' S g s R u' L' := by
  have hf : Fr u.ownBlock.toList W W' := (Fr.refl _ W).grown hn.grown fun k hk => .inl (own_list.2 hk)
  refine ⟨h.rd.fr hf (fun hm => ?_) h.row.nof, hn.row, hf.later h.bel (fun b hm => ?_) h.bel.size, h.fr.trans hf fun k hk hlt => ?_, h.gz, h.glt, h.zw⟩
  · have := (h.row.lt _ (own_list.1 hm)).1
    have := h.glt
    omega
  · have := (h.row.lt b (own_list.1 hm)).1
    have := h.zw
    omega
  · have := (h.row.lt k (own_list.1 hk)).1
    omega
end
set_option maxHeartbeats 8000000 in
theorem partsS_any (hE : Env z' S) (hz : Below z'.heap.size z' w) (hg : z'.heap.size ≤ g) (ho : RObj w S g s R) (h0 : R.no = 0) (hs : s.size ≤ 900000) :
    Calls Tryz.prog 142 #[.pointer (some ⟨g, 0, none⟩), .func (.func 143) #[] #[]] w (PtV w S g s (ptL (rdS s) s 32 [] R)) := by
  obtain ⟨q, hq⟩ : ∃ q, q = ptL (rdS s) s 32 [] R := ⟨_, rfl⟩
  rw [← hq]
  have HE := Lib.hid hE
  have HI0 := Lib.hid (show PvIn z' w w S g s R (.slice none 0 0) [] from ⟨ho, V8Row.nil _ _, hz, Fr.refl _ _, hg, ho.lt, hz.size⟩)
  have HQ := Lib.hid hq
  have HSZ := Lib.hid hs
  have HFI := Lib.hid (fun (W : World) (R1 : RV) (hb : Below z'.heap.size z' W) (ho : RObj W S g s R1) => sub12 hE hb hg ho hs)
  have H00 := Lib.hid h0
  clear hE hz hg ho hs hq h0
  go_enter Tryz.func142, Tryz.ntmps142
  go_wp2_with fail
  go_loopg [6] 33 (fun f u wr => ∃ (L : List SV) (Rt : RV), f + L.length = 33 ∧ 0 < f ∧ Rt.no = 0 ∧ Hid (PvIn z' w wr S g s Rt u L ∧ q = ptL (rdS s) s (f - 1) L Rt))
  case atStart => exact ⟨[], R, rfl, by decide, H00.out, Lib.hid ⟨HI0.out, HQ.out⟩⟩
  case round =>
    obtain ⟨L, Rt, hf, hf0, hno, HJ⟩ := hrel
    obtain ⟨hi, hqq⟩ := HJ.out
    obtain ⟨av, nv, cv, rfl, hnv, hcap⟩ := hi.row.some_form
    have hL32 : L.length ≤ 32 := by omega
    subst hnv
    have HI := Lib.hid hi
    have HL := Lib.hid (rleft_any hi.rd (by have := HSZ.out; omega))
    obtain ⟨lf, hlf⟩ : ∃ lf, lf = s.size - Rt.p := ⟨_, rfl⟩
    rw [← hlf] at HL
    obtain ⟨f, rfl⟩ : ∃ f, gk = f + 1 := ⟨gk - 1, by omega⟩
    rw [show f + 1 - 1 = f from rfl] at hqq
    by_cases hend : s.size ≤ Rt.p
    · obtain rfl : lf = 0 := by omega
      have hq2 : q = if L.length = 0 then (⟨3, 130, Rt.p⟩, []) else (e00, L) := by
        cases f <;> (unfold ptL at hqq; rw [if_pos hend] at hqq; exact hqq)
      have HQ2 := Lib.hid hq2
      clear hqq hi HJ HI0 HQ hlf hend hq2
      go_wp2_with fail
      refine HL.out.mono ?_
      rintro x w4 ⟨rfl, hb4⟩
      have HI4 := Lib.hid (HI.out.below hb4)
      clear hb4 HI HL
      by_cases hl0 : L.length = 0
      · have hq2 := HQ2.out
        rw [if_pos hl0] at hq2
        have HQ3 := Lib.hid hq2
        obtain ⟨pp, hpp⟩ : ∃ pp, pp = Rt.p := ⟨_, rfl⟩
        rw [← hpp] at HQ3
        have HPP := Lib.hid hpp
        have HN := Lib.hid (fun W : World => new_err (w := W) S 2 130 (pp : Int))
        clear hq2 HQ2 hpp
        go_wp2_with fail
        refine wp_region_held_drew (S := fun W => PvIn z' w W S g s Rt (.slice av L.length cv) L) (by kernel_rfl) ?_ (fun hHeld => ?_)
        · exact HI4.out.below (below_drewN (Below.refl _ _) 1)
        refine wpAnyH_take (i := 0) (oi := { dst := some 35, op := Op.move (Operand.tmp 0), type := 103, pos := _, after := _, guard := none }) (v := .pointer (some ⟨g, 0, none⟩)) rfl (by kernel_rfl) (by kernel_rfl) (by kernel_rfl) (fun _ _ _ h => h) (Or.inl ⟨by rfl, fun w' hs => ?_⟩) (by assumption) ?_
        · go_simp
        simp only [Act.put, List.setIfInBounds_toArray, List.set_cons_zero, List.set_cons_succ]
        refine wpAnyH_take (i := 2) (oi := { dst := some 37, op := Op.load 35 (Operand.global 3), type := 35, pos := _, after := _, guard := none }) (v := .iface 234 (.pointer (some (S 2)))) rfl (by kernel_rfl) (by kernel_rfl) (by kernel_rfl) (fun _ _ _ h => h) (Or.inl ⟨by rfl, fun w' hs => ?_⟩) (by assumption) ?_
        · have kk := (HE.out.later hs.bel).kProtocol
          go_simp
        simp only [Act.put, List.setIfInBounds_toArray, List.set_cons_zero, List.set_cons_succ]
        refine wpAnyH_ready (rs := [1]) (by kernel_rfl) (by simp) ?_
        refine AllReadyH.cons (o := { dst := some 36, op := Op.call { callee := Callee.value (Operand.func 165), args := #[Operand.tmp 35], argTypes := #[103] }, type := 3, pos := _, after := _, guard := none }) rfl (fun K hK => ?_) AllReadyH.nil
        go_simp
        have hat := rat_any hHeld.rd
        rw [← HPP.out] at hat
        refine hat.mono ?_
        rintro x w5 ⟨rfl, rfl⟩
        go_wp2_with fail
        refine hK.out _ _ ?_ (fun hHeld5 => ?_)
        · exact hHeld
        clear hK K
        try simp only [Act.put, List.setIfInBounds_toArray, List.set_cons_zero, List.set_cons_succ]
        refine wpAnyH_ready (rs := [3]) (by kernel_rfl) (by simp) ?_
        refine AllReadyH.cons (o := { dst := some 38, op := Op.call { callee := Callee.value (Operand.func 64), args := #[Operand.const (Value.int IntKind.i64 130), Operand.tmp 36, Operand.tmp 37], argTypes := #[3, 3, 35] }, type := 35, pos := _, after := _, guard := none }) rfl (fun K hK => ?_) AllReadyH.nil
        go_simp
        refine (HN.out _).mono ?_
        rintro x w6 ⟨e, rfl, he, hb⟩
        have hi6 := hHeld5.below hb
        go_wp2_with fail
        refine hK.out _ _ ?_ (fun hHeld6 => ?_)
        · exact hi6
        clear hK K
        try simp only [Act.put, List.setIfInBounds_toArray, List.set_cons_zero, List.set_cons_succ]
        refine wpAnyH_take (i := 4) (oi := { dst := some 4, op := Op.assign (Operand.const (Value.slice none 0 0)), type := 25, pos := _, after := _, guard := none }) (v := .slice none 0 0) rfl (by kernel_rfl) (by kernel_rfl) (by kernel_rfl) (fun _ _ _ h => h) (Or.inl ⟨by rfl, fun w' hs => ?_⟩) (by assumption) ?_
        · go_simp
        simp only [Act.put, List.setIfInBounds_toArray, List.set_cons_zero, List.set_cons_succ]
        refine wpAnyH_take (i := 5) (oi := { dst := some 5, op := Op.assign (Operand.tmp 38), type := 35, pos := _, after := _, guard := none }) (v := e) rfl (by kernel_rfl) (by kernel_rfl) (by kernel_rfl) (fun _ _ _ h => h) (Or.inl ⟨by rfl, fun w' hs => ?_⟩) (by assumption) ?_
        · go_simp
        simp only [Act.put, List.setIfInBounds_toArray, List.set_cons_zero, List.set_cons_succ]
        have HX := Lib.hid (show PtV w S g s q (.returned (.tuple #[.slice none 0 0, e])) w6 from by
          rw [HQ3.out]
          exact ⟨_, _, rfl, V8Row.nil _ _, ErrOf.some (no := 3) (by decide) (by decide) he, _, hi6.rd, hi6.fr⟩)
        clear he hb hi6 hHeld hHeld5 hHeld6 hat
        refine wpAnyH_done (by kernel_rfl) ?_ _
        go_wp2_with fail
        exact bodyPost_ret (v := .tuple #[.slice none 0 0, e]) (by simp [results, Tryz.results142, go_sem]) rfl HX.out
      · have hq2 := HQ2.out
        rw [if_neg hl0] at hq2
        have HX := Lib.hid (show PtV w S g s q (.returned (.tuple #[.slice av L.length cv, .nilIface])) w4 from by
          rw [hq2]
          exact ⟨_, _, rfl, HI4.out.row, ErrOf.none, _, HI4.out.rd, HI4.out.fr⟩)
        clear hq2 HQ2
        go_wp2_with fail
        exact bodyPost_ret (v := .tuple #[.slice av L.length cv, .nilIface]) (by simp [results, Tryz.results142, go_sem]) rfl HX.out
    · have hlf0 : 0 < (lf : Int) := by omega
      have hlfn : 0 < lf := by omega
      have HQ0 := Lib.hid hqq
      clear hi hqq HJ HI0 HQ hlf
      go_wp2_with fail
      refine HL.out.mono ?_
      rintro x w4 ⟨rfl, hb4⟩
      have HI4 := Lib.hid (HI.out.below hb4)
      clear hb4 HI HL
      by_cases hl32 : L.length = 32
      · have hq2 := HQ0.out
        obtain rfl : f = 0 := by omega
        unfold ptL at hq2
        rw [if_neg hend] at hq2
        have HQ3 := Lib.hid hq2
        have hli : (L.length : Int) = 32 := by omega
        obtain ⟨pp, hpp⟩ : ∃ pp, pp = Rt.p := ⟨_, rfl⟩
        rw [← hpp] at HQ3
        have HPP := Lib.hid hpp
        have HN := Lib.hid (fun W : World => new_err (w := W) S 3 149 (pp : Int))
        clear hq2 HQ0 hpp hend
        go_wp2_with fail
        refine wp_region_held_drew (S := fun W => PvIn z' w W S g s Rt (.slice av L.length cv) L) (by kernel_rfl) ?_ (fun hHeld => ?_)
        · exact HI4.out.below (below_drewN (Below.refl _ _) 1)
        refine wpAnyH_take (i := 0) (oi := { dst := some 15, op := Op.move (Operand.tmp 0), type := 103, pos := _, after := _, guard := none }) (v := .pointer (some ⟨g, 0, none⟩)) rfl (by kernel_rfl) (by kernel_rfl) (by kernel_rfl) (fun _ _ _ h => h) (Or.inl ⟨by rfl, fun w' hs => ?_⟩) (by assumption) ?_
        · go_simp
        simp only [Act.put, List.setIfInBounds_toArray, List.set_cons_zero, List.set_cons_succ]
        refine wpAnyH_take (i := 2) (oi := { dst := some 17, op := Op.load 35 (Operand.global 4), type := 35, pos := _, after := _, guard := none }) (v := .iface 234 (.pointer (some (S 3)))) rfl (by kernel_rfl) (by kernel_rfl) (by kernel_rfl) (fun _ _ _ h => h) (Or.inl ⟨by rfl, fun w' hs => ?_⟩) (by assumption) ?_
        · have kk := (HE.out.later hs.bel).kTooLarge
          go_simp
        simp only [Act.put, List.setIfInBounds_toArray, List.set_cons_zero, List.set_cons_succ]
        refine wpAnyH_ready (rs := [1]) (by kernel_rfl) (by simp) ?_
        refine AllReadyH.cons (o := { dst := some 16, op := Op.call { callee := Callee.value (Operand.func 165), args := #[Operand.tmp 15], argTypes := #[103] }, type := 3, pos := _, after := _, guard := none }) rfl (fun K hK => ?_) AllReadyH.nil
        go_simp
        have hat := rat_any hHeld.rd
        rw [← HPP.out] at hat
        refine hat.mono ?_
        rintro x w5 ⟨rfl, rfl⟩
        go_wp2_with fail
        refine hK.out _ _ ?_ (fun hHeld5 => ?_)
        · exact hHeld
        clear hK K
        try simp only [Act.put, List.setIfInBounds_toArray, List.set_cons_zero, List.set_cons_succ]
        refine wpAnyH_ready (rs := [3]) (by kernel_rfl) (by simp) ?_
        refine AllReadyH.cons (o := { dst := some 18, op := Op.call { callee := Callee.value (Operand.func 64), args := #[Operand.const (Value.int IntKind.i64 149), Operand.tmp 16, Operand.tmp 17], argTypes := #[3, 3, 35] }, type := 35, pos := _, after := _, guard := none }) rfl (fun K hK => ?_) AllReadyH.nil
        go_simp
        refine (HN.out _).mono ?_
        rintro x w6 ⟨e, rfl, he, hb⟩
        have hi6 := hHeld5.below hb
        go_wp2_with fail
        refine hK.out _ _ ?_ (fun hHeld6 => ?_)
        · exact hi6
        clear hK K
        try simp only [Act.put, List.setIfInBounds_toArray, List.set_cons_zero, List.set_cons_succ]
        refine wpAnyH_take (i := 4) (oi := { dst := some 4, op := Op.assign (Operand.const (Value.slice none 0 0)), type := 25, pos := _, after := _, guard := none }) (v := .slice none 0 0) rfl (by kernel_rfl) (by kernel_rfl) (by kernel_rfl) (fun _ _ _ h => h) (Or.inl ⟨by rfl, fun w' hs => ?_⟩) (by assumption) ?_
        · go_simp
        simp only [Act.put, List.setIfInBounds_toArray, List.set_cons_zero, List.set_cons_succ]
        refine wpAnyH_take (i := 5) (oi := { dst := some 5, op := Op.assign (Operand.tmp 18), type := 35, pos := _, after := _, guard := none }) (v := e) rfl (by kernel_rfl) (by kernel_rfl) (by kernel_rfl) (fun _ _ _ h => h) (Or.inl ⟨by rfl, fun w' hs => ?_⟩) (by assumption) ?_
        · go_simp
        simp only [Act.put, List.setIfInBounds_toArray, List.set_cons_zero, List.set_cons_succ]
        have HX := Lib.hid (show PtV w S g s q (.returned (.tuple #[.slice none 0 0, e])) w6 from by
          rw [HQ3.out]
          exact ⟨_, _, rfl, V8Row.nil _ _, ErrOf.some (no := 4) (by decide) (by decide) he, _, hi6.rd, hi6.fr⟩)
        clear he hb hi6 hHeld hHeld5 hHeld6 hat
        refine wpAnyH_done (by kernel_rfl) ?_ _
        go_wp2_with fail
        exact bodyPost_ret (v := .tuple #[.slice none 0 0, e]) (by simp [results, Tryz.results142, go_sem]) rfl HX.out
      · obtain ⟨f', rfl⟩ : ∃ f', f = f' + 1 := ⟨f - 1, by omega⟩
        have hq2 := HQ0.out
        rw [ptL, if_neg hend] at hq2
        have hli : ¬ (L.length : Int) = 32 := by omega
        have hfi := HFI.out _ Rt HI4.out.bel HI4.out.rd
        unfold SuSays at hfi
        have hrn := ((partS s).of_rd Rt hno (by omega))
        obtain ⟨⟨e1, ⟨f1, q1, b1, d1, t1⟩, R1⟩, ht⟩ : ∃ V, V = rdS s Rt := ⟨_, rfl⟩
        rw [← ht] at hfi hq2 hrn
        simp only at hfi hq2 hrn
        rw [show SV.agg ⟨f1, q1, b1, d1, t1⟩ = .agg #[.string f1, .int .i64 q1, .bool b1, .bool d1, .int .i64 t1] from rfl] at hfi
        have HF2 := Lib.hid hfi
        have HQ3 := Lib.hid hq2
        have HRN := Lib.hid hrn
        clear hfi hq2 ht HQ0 hend hrn
        go_wp2_with fail
        refine HF2.out.mono ?_
        rintro x w5 ⟨e5, rfl, he5, hn5⟩
        have a5 : Below w5.heap.size w5 (w5.alloc (.cells #[.string f1, .int .i64 q1, .bool b1, .bool d1, .int .i64 t1] 55)) := (Below.refl _ _).alloc (Nat.le_refl _) _
        have HI5 := Lib.hid ((HI4.out.step hn5).below a5)
        clear hn5 HF2 HI4
        by_cases h1 : e1.no = 0
        · have hq2 := HQ3.out
          rw [if_pos h1] at hq2
          unfold ErrOf at he5
          rw [if_pos h1] at he5
          subst he5
          have hr1 : R1.no = 0 := (HRN.out h1).2.1
          have HQ4 := Lib.hid hq2
          have HS6 := Lib.hid HI5.out.fr.size
          have HDL := Lib.hid (show L.length ≤ 1000 from by omega)
          clear hq2 HQ3 a5
          go_wp2_with (at_builtin; go_must (refine V8_append ⟨f1, q1, b1, d1, t1⟩ rfl _ _ rfl HI5.out.row HS6.out rfl _ 1 rfl (by first | rfl | simp [World.size_alloc]) HDL.out rfl ?_))
          intro v7 w7 hn7
          have HI7 := Lib.hid (HI5.out.app hn7)
          clear hn7
          go_wp2_with fail
          go_roundg (f' + 1)
          case rel => exact ⟨L ++ [(⟨f1, q1, b1, d1, t1⟩ : SV)], R1, by rw [List.length_append, List.length_singleton]; omega, by omega, hr1, Lib.hid ⟨HI7.out, HQ4.out⟩⟩
          case measure => omega
        · have hq2 := HQ3.out
          rw [if_neg h1] at hq2
          obtain ⟨t5, u5', rfl⟩ := err_iface he5 h1
          have HX := Lib.hid (show PtV w S g s q (.returned (.tuple #[.slice none 0 0, .iface t5 u5'])) (w5.alloc (.cells #[.string f1, .int .i64 q1, .bool b1, .bool d1, .int .i64 t1] 55)) from by
            rw [hq2]
            exact ⟨_, _, rfl, V8Row.nil _ _, he5.later a5, _, HI5.out.rd, HI5.out.fr⟩)
          clear hq2 he5 HQ3 a5
          go_wp2_with fail
          exact bodyPost_ret (v := .tuple #[.slice none 0 0, .iface t5 u5']) (by simp [results, Tryz.results142, go_sem]) rfl HX.out
end
end Go.Proofs.YtinhecggmakbnaaGreatDoor
namespace Go.Proofs.YtinhecggmakbnaaGreatDoor
set_option maxRecDepth 100000
open Go.ChangeShapes Go.WideShapes Go.RowKit Go.Deep Go.Extern.Stop Go.Stop Go.Extern
section
variable {w w' : World} {S : Nat → Addr} {s : ByteArray}
set_option maxHeartbeats 8000000 in
theorem dec12_bad (hE : Env w S) (first : Int) (h1 : ¬ first = 130) (h2 : ¬ first = 144) : Calls Tryz.prog 68 #[.agg #[.int .i64 first, .string s]] w (DcSays w S (dcS first s)) := by
  obtain ⟨z, hz⟩ : ∃ z, z = pk0.cells pa0 := ⟨_, rfl⟩
  have HZ := Lib.hid hz
  have HZS := Lib.hid (show z.size = 26 by rw [hz]; rfl)
  have HZ1 := Lib.hid (show z.all (·.oneCell') = true by rw [hz]; exact pk_one _ _)
  obtain ⟨q, hq⟩ : ∃ q, q = dcS first s := ⟨_, rfl⟩
  rw [← hq]
  unfold dcS at hq
  rw [if_pos (by unfold kS; rw [if_neg h1, if_neg h2])] at hq
  have HQ := Lib.hid hq
  obtain ⟨W2, hW2⟩ : ∃ W, W = (w.alloc (.cells #[.int .i64 first, .string s] 33)).alloc (.cells z 29) := ⟨_, rfl⟩
  have a1 : Below w.heap.size w (w.alloc (.cells #[.int .i64 first, .string s] 33)) := (Below.refl _ _).alloc (Nat.le_refl _) _
  have hb2 : Below w.heap.size w W2 := by rw [hW2]; exact a1.trans (((Below.refl (w.alloc (.cells #[.int .i64 first, .string s] 33)).heap.size _).alloc (Nat.le_refl _) (.cells z 29)).mono a1.size)
  have r1 : Blk W2 (w.heap.size + 1) 29 z := by
    have h := Blk.made (w.alloc (.cells #[.int .i64 first, .string s] 33)) 29 z
    rw [World.size_alloc] at h
    rw [hW2]; exact h
  have kM := (hE.later hb2).kMalformed
  have R1 := Lib.hid r1
  have HB2 := Lib.hid hb2
  have HN := Lib.hid (new_err (w := W2) S 1 129 0)
  have HW2 := Lib.hid hW2
  rw [hW2] at kM
  clear hE hz hq a1 hb2 r1 hW2
  go_enter Tryz.func68, Tryz.ntmps68
  go_wp2_with (first | refine wpk_alloc HZ.out rfl rfl ?_ | refine wpk_build HZ.out rfl rfl ?_)
  rw [← HW2.out]
  refine HN.out.mono ?_
  rintro x w7 ⟨e, rfl, he, hb7⟩
  obtain ⟨te, ue, rfl⟩ := he.iface
  have r1 := R1.out.below hb7 R1.out.lt
  have hb := HB2.out.trans (hb7.mono HB2.out.size)
  have hbf := below_row hb (k := w.heap.size + 1) (by omega) z
  have r3 := setRow_blk r1 z
  have LD := Lib.hid (And.intro r3 HZS.out)
  have HX := Lib.hid (show DcSays w S q (.returned (.tuple #[.agg z, .iface te ue])) (w7.setRow (w.heap.size + 1) z) from by
    rw [HQ.out]
    exact DcSays.bad8 HZ.out rfl (err_row (ErrOf.some (no := 2) (by decide) (by decide) he) r1 z) hbf)
  have HR1 := Lib.hid r1
  clear hb7 hb hbf r1 r3 kM he
  go_wp2_with (first | refine wpk_build HZ.out rfl rfl ?_ | refine wpk_store HR1.out HZS.out HZS.out HZ1.out _ _ rfl rfl rfl rfl ?_)
  exact bodyPost_ret (v := .tuple #[.agg z, .iface te ue]) (res_pkt (i := 2) (j := 3) rfl rfl rfl LD.out.1 LD.out.2) rfl HX.out
set_option maxHeartbeats 16000000 in
theorem dec12_130 (hE : Env w S) (hs : s.size ≤ 900000) : Calls Tryz.prog 68 #[.agg #[.int .i64 130, .string s]] w (DcSays w S (dcS 130 s)) := by
  have HE := Lib.hid hE
  have HSZ := Lib.hid hs
  obtain ⟨z, hz⟩ : ∃ z, z = pk0.cells pa0 := ⟨_, rfl⟩
  have HZ := Lib.hid hz
  have HZS := Lib.hid (show z.size = 26 by rw [hz]; rfl)
  have HZ1 := Lib.hid (show z.all (·.oneCell') = true by rw [hz]; exact pk_one _ _)
  obtain ⟨Q, hQ⟩ : ∃ Q, Q = dcS 130 s := ⟨_, rfl⟩
  rw [← hQ]
  unfold dcS at hQ
  rw [show kS 130 = 8 from rfl, if_neg (by decide), if_pos (show (8 : Int) = 8 from rfl)] at hQ
  obtain ⟨W2, hW2⟩ : ∃ W, W = (w.alloc (.cells #[.int .i64 130, .string s] 33)).alloc (.cells z 29) := ⟨_, rfl⟩
  have a1 : Below w.heap.size w (w.alloc (.cells #[.int .i64 130, .string s] 33)) := (Below.refl _ _).alloc (Nat.le_refl _) _
  have hb2 : Below w.heap.size w W2 := by rw [hW2]; exact a1.trans (((Below.refl (w.alloc (.cells #[.int .i64 130, .string s] 33)).heap.size _).alloc (Nat.le_refl _) (.cells z 29)).mono a1.size)
  have r1 : Blk W2 (w.heap.size + 1) 29 z := by
    have h := Blk.made (w.alloc (.cells #[.int .i64 130, .string s] 33)) 29 z
    rw [World.size_alloc] at h
    rw [hW2]; exact h
  have HSZ2 := Lib.hid (show W2.heap.size = w.heap.size + 1 + 1 by rw [hW2, World.size_alloc, World.size_alloc])
  have hb3 : Below W2.heap.size W2 (W2.alloc (.cells #[.string s, .int .i64 0, .nilIface] 180)) := (Below.refl _ _).alloc (Nat.le_refl _) _
  have HI := Lib.hid (show DcI w (W2.alloc (.cells #[.string s, .int .i64 0, .nilIface] 180)) S W2.heap.size s ⟨0, 0, 0⟩ z from ⟨hb2.trans (hb3.mono hb2.size), r1.below hb3 r1.lt, RObj.made W2 S s, hb2.size⟩)
  have HW2 := Lib.hid hW2
  have hth := th_any hE HI.out.bel HI.out.low HI.out.rd hs 8
  have hthn := fun hh => th_ok (k := 8) (s := s) hh
  obtain ⟨T, hT⟩ : ∃ T, T = thF 8 s := ⟨_, rfl⟩
  have hTP := fun hh => (hthn hh).no
  rw [← hT] at hth hQ hTP
  have HTH := Lib.hid hth
  have HTP := Lib.hid hTP
  have HQ := Lib.hid hQ
  clear hE hz hs hQ a1 hb2 r1 hb3 hW2 hth hthn hT hTP
  go_enter Tryz.func68, Tryz.ntmps68
  go_wp2_with (first | refine wpk_alloc HZ.out rfl rfl ?_)
  rw [← HW2.out]
  refine (rnew_any s W2).mono ?_
  rintro x w3 ⟨rfl, hw3⟩
  rw [← hw3] at HI HTH
  have HS3 := Lib.hid (show w3.heap.size = w.heap.size + 1 + 1 + 1 by rw [hw3, World.size_alloc, HSZ2.out])
  clear hw3
  go_wp2_with fail
  refine HTH.out.mono ?_
  rintro x w4 ⟨A4, e4, rfl, hp4, he4, hn4⟩
  have hsz4 := hn4.fr.size
  obtain ⟨c4, hc4⟩ : ∃ c, c = (thP 8 T).cells A4 := ⟨_, rfl⟩
  rw [show (thP 8 T).agg A4 = .agg c4 from by rw [hc4]; rfl]
  have HC4 := Lib.hid hc4
  have HCS := Lib.hid (show c4.size = 26 by rw [hc4]; rfl)
  have HC1 := Lib.hid (show c4.all (·.oneCell') = true by rw [hc4]; exact pk_one _ _)
  have hi4 := HI.out.step hn4
  obtain ⟨W5, hW5⟩ : ∃ W, W = w4.alloc (.cells c4 29) := ⟨_, rfl⟩
  have hb5 : Below w4.heap.size w4 W5 := by rw [hW5]; exact (Below.refl _ _).alloc (Nat.le_refl _) _
  have HJ := Lib.hid (show DcJ w W5 S W2.heap.size s T.R z w4.heap.size c4 from ⟨hi4.below hb5, by rw [hW5]; exact Blk.made _ _ _, by have := HS3.out; omega⟩)
  have HP5 := Lib.hid ((hp4 w.heap.size (by have := HS3.out; omega)).below hb5)
  have HE5 := Lib.hid (he4.later hb5)
  have HHI := Lib.hid (show w.heap.size ≤ w3.heap.size by have := HS3.out; omega)
  have HW5 := Lib.hid hW5
  clear hn4 hi4 hb5 hp4 hW5 hc4 HTH HI
  have hq := HQ.out
  by_cases h0 : T.e.no = 0
  · rw [if_pos h0] at hq
    unfold ErrOf at he4
    rw [if_pos h0] at he4
    subst he4
    have hp5 := HP5.out
    have hcc := HC4.out
    have eth : thP 8 T = pkS 8 T.id T.L [] [] [] := by unfold thP; rw [if_pos h0]
    rw [eth] at hp5 hcc
    have hpt := partsS_any (z' := w) HE.out HJ.out.inn.bel HJ.out.inn.low HJ.out.inn.rd (HTP.out h0) HSZ.out
    obtain ⟨⟨pe, P⟩, hpp⟩ : ∃ V, V = ptL (rdS s) s 32 [] T.R := ⟨_, rfl⟩
    rw [← hpp] at hpt hq
    have HPT := Lib.hid hpt
    have HQ2 := Lib.hid hq
    have HPK := Lib.hid (And.intro hp5.pr hp5.pc)
    have HCC := Lib.hid hcc
    clear hp5 hcc eth hpt hpp hq HP5 HC4 HQ HE5 h0 HTP
    go_wp2_with (first | refine wpk_alloc HZ.out rfl rfl ?_ | refine wpk_store_new HZS.out (c := c4) HCS.out HC1.out _ _ rfl rfl rfl rfl ?_)
    rw [← HW5.out]
    refine HPT.out.mono ?_
    rintro x w6 ⟨v6, e6, rfl, hr6, he6, R6, hn6⟩
    simp only at hr6 he6
    obtain ⟨a6, n6, c6, rfl, hnn6, hcc6⟩ := hr6.some_form
    have hsz5 := HJ.out.inn.bel.size
    have hj6 := HJ.out.step hn6
    have hpr6 := HPK.out.1.rnext HJ.out.inn.low HJ.out.inn.rd hn6
    have cX : w6.cell? ⟨w4.heap.size, 23, none⟩ = some (.slice A4.sa 0 A4.sc) := hj6.get (by rw [HCC.out]; rfl)
    have fX := hj6.box.frozen 23
    have hj7 := hj6.cell 23 (.slice a6 n6 c6)
    have hp7 : PIn (w6.setCell ⟨w4.heap.size, 23, none⟩ (.slice a6 n6 c6)) w.heap.size A4.pa T.L := hj6.pin (Nat.le_refl _) hpr6 _ _
    have he7 := hj6.err he6 23 (.slice a6 n6 c6)
    have hci : CIn (w6.setCell ⟨w4.heap.size, 23, none⟩ (.slice a6 n6 c6)) w.heap.size 55 a6 (P.flatMap SV.cells) := (hr6.cin (B' := w.heap.size)).cell hj6.box (by have := hj6.low; omega) (by decide) 23 _
    obtain ⟨y, hy⟩ : ∃ y, y = c4.setIfInBounds 23 (.slice a6 n6 c6) := ⟨_, rfl⟩
    rw [← hy] at hj7
    have hq := HQ2.out
    unfold dcS_a at hq
    by_cases h1 : pe.no = 0
    · rw [if_pos h1] at hq
      unfold ErrOf at he6
      rw [if_pos h1] at he6
      subst he6
      have ey : y = Q.2.cells ⟨A4.pa, A4.pc, A4.wa, A4.wc, a6, c6, A4.fa, A4.fc, A4.ca, A4.cc⟩ := by rw [hy, HCC.out, hq, hnn6]; rfl
      have hX := hj7.inn.good (p := Q.2) (A := ⟨A4.pa, A4.pc, A4.wa, A4.wc, a6, c6, A4.fa, A4.fc, A4.ca, A4.cc⟩) (by
        rw [hq]
        exact ⟨hp7, HPK.out.2, PIn.nil _ _ _, Nat.zero_le _, hci, CIn.nil _ _ _ _, CIn.nil _ _ _ _⟩) ey
      rw [show (e00, Q.2) = Q from by rw [hq]] at hX
      have HX := Lib.hid hX
      have HYS := Lib.hid (show y.size = 26 by rw [ey]; rfl)
      have HY1 := Lib.hid (show y.all (·.oneCell') = true by rw [ey]; exact pk_one _ _)
      have HBX := Lib.hid hj7.box
      have HRX := Lib.hid hj7.inn.res
      clear hr6 hn6 hj6 hpr6 hj7 hp7 he7 hci hy hq ey hX hnn6 hcc6 HPT HQ2
      go_wp2_with (first | refine wpk_load HBX.out HYS.out _ rfl rfl rfl ?_ | refine wpk_store HRX.out HZS.out HYS.out HY1.out _ _ rfl rfl rfl rfl ?_)
      exact bodyPost_ret (v := .tuple #[.agg y, .nilIface]) (res_pkt (i := 2) (j := 3) rfl rfl rfl HX.out.1 HYS.out) rfl HX.out.2
    · rw [if_neg h1] at hq
      obtain ⟨t6, u6, rfl⟩ := err_iface he6 h1
      have hX := hj7.inn.bad HZ.out (q := Q) (by rw [hq]) (e := .iface t6 u6) (by rw [hq]; exact he7)
      have HRX := Lib.hid hj7.inn.res
      have HX := Lib.hid hX
      clear hr6 hn6 hj6 hpr6 hj7 hp7 he7 he6 hci hy hq hX hnn6 hcc6 HPT HQ2
      go_wp2_with (first | refine wpk_build HZ.out rfl rfl ?_ | refine wpk_store HRX.out HZS.out HZS.out HZ1.out _ _ rfl rfl rfl rfl ?_)
      exact bodyPost_ret (v := .tuple #[.agg z, .iface t6 u6]) (res_pkt (i := 2) (j := 3) rfl rfl rfl HX.out.1 HZS.out) rfl HX.out.2
  · rw [if_neg h0] at hq
    obtain ⟨t4, u4, rfl⟩ := err_iface he4 h0
    have hX := HJ.out.inn.bad HZ.out (q := Q) (by rw [hq]) (e := .iface t4 u4) (by rw [hq]; exact HE5.out)
    have HRX := Lib.hid HJ.out.inn.res
    have HX := Lib.hid hX
    clear hX he4 hq HQ HE5 HP5
    go_wp2_with (first | refine wpk_alloc HZ.out rfl rfl ?_ | refine wpk_store_new HZS.out (c := c4) HCS.out HC1.out _ _ rfl rfl rfl rfl ?_ | refine wpk_build HZ.out rfl rfl ?_ | refine wpk_store (show Blk (w4.alloc (.cells c4 29)) (w.heap.size + 1) 29 z from by rw [← HW5.out]; exact HRX.out) HZS.out HZS.out HZ1.out _ _ rfl rfl rfl rfl ?_)
    rw [← HW5.out]
    exact bodyPost_ret (v := .tuple #[.agg z, .iface t4 u4]) (res_pkt (i := 2) (j := 3) rfl rfl rfl HX.out.1 HZS.out) rfl HX.out.2
set_option maxHeartbeats 16000000 in
theorem dec12_144 (hE : Env w S) (hs : s.size ≤ 900000) : Calls Tryz.prog 68 #[.agg #[.int .i64 144, .string s]] w (DcSays w S (dcS 144 s)) := by
  have HE := Lib.hid hE
  have HSZ := Lib.hid hs
  obtain ⟨z, hz⟩ : ∃ z, z = pk0.cells pa0 := ⟨_, rfl⟩
  have HZ := Lib.hid hz
  have HZS := Lib.hid (show z.size = 26 by rw [hz]; rfl)
  have HZ1 := Lib.hid (show z.all (·.oneCell') = true by rw [hz]; exact pk_one _ _)
  obtain ⟨Q, hQ⟩ : ∃ Q, Q = dcS 144 s := ⟨_, rfl⟩
  rw [← hQ]
  unfold dcS at hQ
  rw [show kS 144 = 9 from rfl, if_neg (by decide), if_neg (show ¬ (9 : Int) = 8 by decide)] at hQ
  obtain ⟨W2, hW2⟩ : ∃ W, W = (w.alloc (.cells #[.int .i64 144, .string s] 33)).alloc (.cells z 29) := ⟨_, rfl⟩
  have a1 : Below w.heap.size w (w.alloc (.cells #[.int .i64 144, .string s] 33)) := (Below.refl _ _).alloc (Nat.le_refl _) _
  have hb2 : Below w.heap.size w W2 := by rw [hW2]; exact a1.trans (((Below.refl (w.alloc (.cells #[.int .i64 144, .string s] 33)).heap.size _).alloc (Nat.le_refl _) (.cells z 29)).mono a1.size)
  have r1 : Blk W2 (w.heap.size + 1) 29 z := by
    have h := Blk.made (w.alloc (.cells #[.int .i64 144, .string s] 33)) 29 z
    rw [World.size_alloc] at h
    rw [hW2]; exact h
  have HSZ2 := Lib.hid (show W2.heap.size = w.heap.size + 1 + 1 by rw [hW2, World.size_alloc, World.size_alloc])
  have hb3 : Below W2.heap.size W2 (W2.alloc (.cells #[.string s, .int .i64 0, .nilIface] 180)) := (Below.refl _ _).alloc (Nat.le_refl _) _
  have HI := Lib.hid (show DcI w (W2.alloc (.cells #[.string s, .int .i64 0, .nilIface] 180)) S W2.heap.size s ⟨0, 0, 0⟩ z from ⟨hb2.trans (hb3.mono hb2.size), r1.below hb3 r1.lt, RObj.made W2 S s, hb2.size⟩)
  have HW2 := Lib.hid hW2
  have hth := th_any hE HI.out.bel HI.out.low HI.out.rd hs 9
  have hthn := fun hh => th_ok (k := 9) (s := s) hh
  obtain ⟨T, hT⟩ : ∃ T, T = thF 9 s := ⟨_, rfl⟩
  have hTP := fun hh => (hthn hh).no
  rw [← hT] at hth hQ hTP
  have HTH := Lib.hid hth
  have HTP := Lib.hid hTP
  have HQ := Lib.hid hQ
  clear hE hz hs hQ a1 hb2 r1 hb3 hW2 hth hthn hT hTP
  go_enter Tryz.func68, Tryz.ntmps68
  go_wp2_with (first | refine wpk_alloc HZ.out rfl rfl ?_)
  rw [← HW2.out]
  refine (rnew_any s W2).mono ?_
  rintro x w3 ⟨rfl, hw3⟩
  rw [← hw3] at HI HTH
  have HS3 := Lib.hid (show w3.heap.size = w.heap.size + 1 + 1 + 1 by rw [hw3, World.size_alloc, HSZ2.out])
  clear hw3
  go_wp2_with fail
  refine HTH.out.mono ?_
  rintro x w4 ⟨A4, e4, rfl, hp4, he4, hn4⟩
  have hsz4 := hn4.fr.size
  obtain ⟨c4, hc4⟩ : ∃ c, c = (thP 9 T).cells A4 := ⟨_, rfl⟩
  rw [show (thP 9 T).agg A4 = .agg c4 from by rw [hc4]; rfl]
  have HC4 := Lib.hid hc4
  have HCS := Lib.hid (show c4.size = 26 by rw [hc4]; rfl)
  have HC1 := Lib.hid (show c4.all (·.oneCell') = true by rw [hc4]; exact pk_one _ _)
  have hi4 := HI.out.step hn4
  obtain ⟨W5, hW5⟩ : ∃ W, W = w4.alloc (.cells c4 29) := ⟨_, rfl⟩
  have hb5 : Below w4.heap.size w4 W5 := by rw [hW5]; exact (Below.refl _ _).alloc (Nat.le_refl _) _
  have HJ := Lib.hid (show DcJ w W5 S W2.heap.size s T.R z w4.heap.size c4 from ⟨hi4.below hb5, by rw [hW5]; exact Blk.made _ _ _, by have := HS3.out; omega⟩)
  have HP5 := Lib.hid ((hp4 w.heap.size (by have := HS3.out; omega)).below hb5)
  have HE5 := Lib.hid (he4.later hb5)
  have HHI := Lib.hid (show w.heap.size ≤ w3.heap.size by have := HS3.out; omega)
  have HW5 := Lib.hid hW5
  clear hn4 hi4 hb5 hp4 hW5 hc4 HTH HI
  have hq := HQ.out
  by_cases h0 : T.e.no = 0
  · rw [if_pos h0] at hq
    unfold ErrOf at he4
    rw [if_pos h0] at he4
    subst he4
    have hp5 := HP5.out
    have hcc := HC4.out
    have eth : thP 9 T = pkS 9 T.id T.L [] [] [] := by unfold thP; rw [if_pos h0]
    rw [eth] at hp5 hcc
    have hpt := tc_any (z' := w) HE.out HJ.out.inn.bel HJ.out.inn.low HJ.out.inn.rd (HTP.out h0) HSZ.out 9
    obtain ⟨⟨pe, P⟩, hpp⟩ : ∃ V, V = ptL (rdC 9 s) s 32 [] T.R := ⟨_, rfl⟩
    rw [← hpp] at hpt hq
    have HPT := Lib.hid hpt
    have HQ2 := Lib.hid hq
    have HPK := Lib.hid (And.intro hp5.pr hp5.pc)
    have HCC := Lib.hid hcc
    clear hp5 hcc eth hpt hpp hq HP5 HC4 HQ HE5 h0 HTP
    go_wp2_with (first | refine wpk_alloc HZ.out rfl rfl ?_ | refine wpk_store_new HZS.out (c := c4) HCS.out HC1.out _ _ rfl rfl rfl rfl ?_)
    rw [← HW5.out]
    refine HPT.out.mono ?_
    rintro x w6 ⟨v6, e6, rfl, hr6, he6, R6, hn6⟩
    simp only at hr6 he6
    obtain ⟨a6, n6, c6, rfl, hnn6, hcc6⟩ := hr6.some_form
    have hsz5 := HJ.out.inn.bel.size
    have hj6 := HJ.out.step hn6
    have hpr6 := HPK.out.1.rnext HJ.out.inn.low HJ.out.inn.rd hn6
    have cX : w6.cell? ⟨w4.heap.size, 25, none⟩ = some (.slice A4.ca 0 A4.cc) := hj6.get (by rw [HCC.out]; rfl)
    have fX := hj6.box.frozen 25
    have hj7 := hj6.cell 25 (.slice a6 n6 c6)
    have hp7 : PIn (w6.setCell ⟨w4.heap.size, 25, none⟩ (.slice a6 n6 c6)) w.heap.size A4.pa T.L := hj6.pin (Nat.le_refl _) hpr6 _ _
    have he7 := hj6.err he6 25 (.slice a6 n6 c6)
    have hci : CIn (w6.setCell ⟨w4.heap.size, 25, none⟩ (.slice a6 n6 c6)) w.heap.size 3 a6 (P.flatMap iCell) := (hr6.cin (B' := w.heap.size)).cell hj6.box (by have := hj6.low; omega) (by decide) 25 _
    obtain ⟨y, hy⟩ : ∃ y, y = c4.setIfInBounds 25 (.slice a6 n6 c6) := ⟨_, rfl⟩
    rw [← hy] at hj7
    have hq := HQ2.out
    unfold dcS_b at hq
    by_cases h1 : pe.no = 0
    · rw [if_pos h1] at hq
      unfold ErrOf at he6
      rw [if_pos h1] at he6
      subst he6
      have ey : y = Q.2.cells ⟨A4.pa, A4.pc, A4.wa, A4.wc, A4.sa, A4.sc, A4.fa, A4.fc, a6, c6⟩ := by rw [hy, HCC.out, hq, hnn6]; rfl
      have hX := hj7.inn.good (p := Q.2) (A := ⟨A4.pa, A4.pc, A4.wa, A4.wc, A4.sa, A4.sc, A4.fa, A4.fc, a6, c6⟩) (by
        rw [hq]
        exact ⟨hp7, HPK.out.2, PIn.nil _ _ _, Nat.zero_le _, CIn.nil _ _ _ _, CIn.nil _ _ _ _, hci⟩) ey
      rw [show (e00, Q.2) = Q from by rw [hq]] at hX
      have HX := Lib.hid hX
      have HYS := Lib.hid (show y.size = 26 by rw [ey]; rfl)
      have HY1 := Lib.hid (show y.all (·.oneCell') = true by rw [ey]; exact pk_one _ _)
      have HBX := Lib.hid hj7.box
      have HRX := Lib.hid hj7.inn.res
      clear hr6 hn6 hj6 hpr6 hj7 hp7 he7 hci hy hq ey hX hnn6 hcc6 HPT HQ2
      go_wp2_with (first | refine wpk_load HBX.out HYS.out _ rfl rfl rfl ?_ | refine wpk_store HRX.out HZS.out HYS.out HY1.out _ _ rfl rfl rfl rfl ?_)
      exact bodyPost_ret (v := .tuple #[.agg y, .nilIface]) (res_pkt (i := 2) (j := 3) rfl rfl rfl HX.out.1 HYS.out) rfl HX.out.2
    · rw [if_neg h1] at hq
      obtain ⟨t6, u6, rfl⟩ := err_iface he6 h1
      have hX := hj7.inn.bad HZ.out (q := Q) (by rw [hq]) (e := .iface t6 u6) (by rw [hq]; exact he7)
      have HRX := Lib.hid hj7.inn.res
      have HX := Lib.hid hX
      clear hr6 hn6 hj6 hpr6 hj7 hp7 he7 he6 hci hy hq hX hnn6 hcc6 HPT HQ2
      go_wp2_with (first | refine wpk_build HZ.out rfl rfl ?_ | refine wpk_store HRX.out HZS.out HZS.out HZ1.out _ _ rfl rfl rfl rfl ?_)
      exact bodyPost_ret (v := .tuple #[.agg z, .iface t6 u6]) (res_pkt (i := 2) (j := 3) rfl rfl rfl HX.out.1 HZS.out) rfl HX.out.2
  · rw [if_neg h0] at hq
    obtain ⟨t4, u4, rfl⟩ := err_iface he4 h0
    have hX := HJ.out.inn.bad HZ.out (q := Q) (by rw [hq]) (e := .iface t4 u4) (by rw [hq]; exact HE5.out)
    have HRX := Lib.hid HJ.out.inn.res
    have HX := Lib.hid hX
    clear hX he4 hq HQ HE5 HP5
    go_wp2_with (first | refine wpk_alloc HZ.out rfl rfl ?_ | refine wpk_store_new HZS.out (c := c4) HCS.out HC1.out _ _ rfl rfl rfl rfl ?_ | refine wpk_build HZ.out rfl rfl ?_ | refine wpk_store (show Blk (w4.alloc (.cells c4 29)) (w.heap.size + 1) 29 z from by rw [← HW5.out]; exact HRX.out) HZS.out HZS.out HZ1.out _ _ rfl rfl rfl rfl ?_)
    rw [← HW5.out]
    exact bodyPost_ret (v := .tuple #[.agg z, .iface t4 u4]) (res_pkt (i := 2) (j := 3) rfl rfl rfl HX.out.1 HZS.out) rfl HX.out.2
theorem dec12 (hE : Env w S) (first : Int) (hs : s.size ≤ 900000) : Calls Tryz.prog 68 #[.agg #[.int .i64 first, .string s]] w (DcSays w S (dcS first s)) := by
  by_cases h1 : first = 130
  · subst h1; exact dec12_130 hE hs
  · by_cases h2 : first = 144
    · subst h2; exact dec12_144 hE hs
    · exact dec12_bad hE first h1 h2
end
end Go.Proofs.YtinhecggmakbnaaGreatDoor
namespace Go.Proofs.YtinhecggmakbnaaGreatDoor
set_option maxRecDepth 100000
open Go.RowKit Go.Extern.Stop Go.Stop Go.Extern
section
variable {z w w' : World} {S : Nat → Addr} {B g : Nat} {s : ByteArray} {R : RV} {v : Value} {W : EV}
set_option maxHeartbeats 8000000 in
theorem frame_any12 (first : Int) (h : WObj w S B g v W) {q : Er × Pk} (hdc : ∀ W1 : World, Below w.heap.size w W1 → Calls Tryz.prog 68 #[.agg #[.int .i64 first, .string ⟨W.L.toArray⟩]] W1 (DcSays W1 S q)) :
    Calls Tryz.prog 54 #[.int .i64 first, .pointer (some ⟨g, 0, none⟩), .func (.func 68) #[] #[]] w (FrSays w S (frR W first q.1)) := by
  obtain ⟨f, hf⟩ : ∃ f, f = frR W first q.1 := ⟨_, rfl⟩
  rw [← hf]
  unfold frR at hf
  have hb1 : Below w.heap.size w (w.alloc (.cells #[.int .i64 0, .string ⟨#[]⟩] 33)) := (Below.refl _ _).alloc (Nat.le_refl _) _
  have HW := Lib.hid (wbytes_any (h.below hb1))
  have HK := Lib.hid (Blk.made w 33 #[.int .i64 0, .string ⟨#[]⟩])
  have HB1 := Lib.hid hb1
  have HD := Lib.hid hdc
  have HF := Lib.hid hf
  clear hb1 hdc h hf
  go_enter Tryz.func54, Tryz.ntmps54
  go_wp2_with fail
  refine HW.out.mono ?_
  rintro x w2 ⟨e2, rfl, he2, hb2⟩
  obtain ⟨W0, Wa, WL⟩ := W
  obtain ⟨qe, qp⟩ := q
  simp only at he2 HD HF ⊢
  have k2 := HK.out.below hb2 HK.out.lt
  have hb12 := HB1.out.trans (hb2.mono HB1.out.size)
  have HB2 := Lib.hid hb12
  have HK2 := Lib.hid k2
  have hff := HF.out
  by_cases h0 : W0 = 0
  · subst h0
    rw [if_pos rfl] at hff
    unfold ErrOf at he2
    rw [if_pos rfl] at he2
    subst he2
    obtain ⟨t, ht⟩ : ∃ t : ByteArray, t = ⟨WL.toArray⟩ := ⟨_, rfl⟩
    rw [← ht] at HD hff
    have HFF := Lib.hid hff
    have hb3 : Below w2.heap.size w2 (w2.alloc (.cells #[.int .i64 first, .string t] 33)) := (Below.refl _ _).alloc (Nat.le_refl _) _
    have hb13 := hb12.trans (hb3.mono hb12.size)
    have HDD := Lib.hid (HD.out _ hb13)
    have HB3 := Lib.hid hb13
    have HK3 := Lib.hid (k2.below hb3 k2.lt)
    have HK4 := Lib.hid (Blk.made w2 33 #[.int .i64 first, .string t])
    clear hb2 k2 hb12 hff hb3 hb13 HD HW HF HK HB1 HB2 HK2
    rw [show (⟨(EV.L ⟨0, Wa, WL⟩).toArray⟩ : ByteArray) = t from ht.symm]
    clear ht
    go_wp2_with fail
    refine HDD.out.mono ?_
    rintro x w4 ⟨A4, e4, rfl, _, he4, hb4⟩
    simp only at he4
    obtain ⟨c, hc⟩ : ∃ c, c = qp.cells A4 := ⟨_, rfl⟩
    rw [show Pk.agg (qe, qp).2 A4 = .agg c from by rw [hc]; rfl]
    have hcs : c.size = 26 := by rw [hc]; rfl
    have hst := st_pkt w4 c hcs (by rw [hc]; exact pk_one _ _)
    have hst2 := st_pktc w4 c hcs (by rw [hc]; exact pk_one _ _)
    clear hc
    have hb5 : Below w4.heap.size w4 (w4.alloc (.cells c 29)) := (Below.refl _ _).alloc (Nat.le_refl _) _
    have k3 := (HK3.out.below hb4 HK3.out.lt).below hb5 (HK3.out.below hb4 HK3.out.lt).lt
    have k4 := (HK4.out.below hb4 HK4.out.lt).below hb5 (HK4.out.below hb4 HK4.out.lt).lt
    have hb15 := (HB3.out.trans (hb4.mono HB3.out.size)).trans (hb5.mono (HB3.out.trans (hb4.mono HB3.out.size)).size)
    have c0 := k4.cell 0
    have c1 := k4.cell 1
    have h2 : ∀ {a b : Value}, (#[a, b] : Array Value)[0]? = some a ∧ (#[a, b] : Array Value)[1]? = some b := ⟨rfl, rfl⟩
    rw [h2.1] at c0
    rw [h2.2] at c1
    clear h2
    by_cases hq0 : qe.no = 0
    · have hff := HFF.out
      rw [if_pos hq0] at hff
      unfold ErrOf at he4
      rw [if_pos hq0] at he4
      subst he4
      obtain ⟨⟨z0, z1, y0, y1⟩, ⟨z2, y2⟩, ⟨f0, f1⟩, _⟩ := fr_facts (S := S) k3 (.int .i64 first) (.string t)
      have hbf := (hb15.setCell (p := ⟨w.heap.size, 0, none⟩) (Nat.le_refl _) (.int .i64 first)).setCell (p := ⟨w.heap.size, 1, none⟩) (Nat.le_refl _) (.string t)
      have HX := Lib.hid (show ∀ W, Below w.heap.size w W → FrSays w S f (.returned (.tuple #[.agg #[.int .i64 first, .string t], .nilIface])) W from fun W hb => by
        rw [hff]
        exact ⟨_, rfl, ErrOf.none, hb⟩)
      have HBF := Lib.hid hbf
      clear hff hbf hb5 k3 k4 hb15 hb4 HDD HFF HB3 HK3 HK4
      go_wp2
      exact bodyPost_ret (v := .tuple #[.agg #[.int .i64 first, .string t], .nilIface]) (by simp [results, Tryz.results54, go_sem, f0, f1]) rfl (HX.out _ HBF.out)
    · have hff := HFF.out
      rw [if_neg hq0] at hff
      obtain ⟨t4, u4, rfl⟩ := err_iface he4 hq0
      obtain ⟨⟨z0, z1, y0, y1⟩, ⟨z2, y2⟩, ⟨f0, f1⟩, ferr⟩ := fr_facts (S := S) k3 (.int .i64 0) (.string ⟨#[]⟩)
      have hbf := (hb15.setCell (p := ⟨w.heap.size, 0, none⟩) (Nat.le_refl _) (.int .i64 0)).setCell (p := ⟨w.heap.size, 1, none⟩) (Nat.le_refl _) (.string ⟨#[]⟩)
      have hee := ferr _ _ _ _ (he4.later hb5)
      have HX := Lib.hid (show FrSays w S f (.returned (.tuple #[.agg #[.int .i64 0, .string ⟨#[]⟩], .iface t4 u4])) _ from by
        rw [hff]
        exact ⟨_, rfl, hee, hbf⟩)
      clear hff hbf hb5 k3 k4 hb15 hb4 he4 hee ferr HDD HFF HB3 HK3 HK4
      go_wp2
      exact bodyPost_ret (v := .tuple #[.agg #[.int .i64 0, .string ⟨#[]⟩], .iface t4 u4]) (by simp [results, Tryz.results54, go_sem, f0, f1]) rfl HX.out
  · rw [if_neg h0] at hff
    obtain ⟨t2, u2, rfl⟩ := err_iface he2 h0
    obtain ⟨⟨z0, z1, y0, y1⟩, ⟨z2, y2⟩, ⟨f0, f1⟩, ferr⟩ := fr_facts (S := S) k2 (.int .i64 0) (.string ⟨#[]⟩)
    have hbf := (hb12.setCell (p := ⟨w.heap.size, 0, none⟩) (Nat.le_refl _) (.int .i64 0)).setCell (p := ⟨w.heap.size, 1, none⟩) (Nat.le_refl _) (.string ⟨#[]⟩)
    have hee := ferr _ _ _ _ he2
    have HX := Lib.hid (show FrSays w S f (.returned (.tuple #[.agg #[.int .i64 0, .string ⟨#[]⟩], .iface t2 u2])) _ from by
      rw [hff]
      exact ⟨_, rfl, hee, hbf⟩)
    clear hb2 hb12 hff he2 hbf hee ferr k2 HD HW HF HK HB1 HB2 HK2
    go_wp2
    exact bodyPost_ret (v := .tuple #[.agg #[.int .i64 0, .string ⟨#[]⟩], .iface t2 u2]) (by simp [results, Tryz.results54, go_sem, f0, f1]) rfl HX.out
end
end Go.Proofs.YtinhecggmakbnaaGreatDoor
namespace Go.Proofs.YtinhecggmakbnaaGreatDoor
set_option maxRecDepth 100000
open Go.ChangeShapes Go.WideShapes Go.RowKit Go.Deep Go.Extern.Stop Go.Stop Go.Extern
/-- Of what Same takes. -/
structure SmO (p : Pk) : Prop where
  sb : p.subs.length ≤ 1000
  pr : p.props.length ≤ 1000
  wr : p.wProps.length ≤ 1000
  fl : p.filters.length ≤ 1000
  cd : p.codes.length ≤ 1000
theorem enS_backS {p : Pk} (h : SmS p) (hno : (enS p).e.no = 0) : dcS (enS p).first (enS p).s = (e00, bareS p) := enS_back (small_mem h.1).1 (small_mem h.1).2 hno
theorem enS_lenS {p : Pk} (h : SmS p) : (enS p).s.size ≤ 150000 := enS_len h
theorem bareS_ok {p : Pk} (h : SmS p) : SmO (bareS p) := by
  have h1 : (plL p.props).length ≤ 1000 := by rw [plL_len]; exact small_few h.1
  have h2 := h.2.1
  have h3 := h.2.2.1
  by_cases hk : p.kind = 8
  · rw [bareS_a hk]
    exact ⟨(by show p.subs.length ≤ 1000; omega), h1, Nat.zero_le _, Nat.zero_le _, Nat.zero_le _⟩
  · rw [bareS_b hk]
    exact ⟨Nat.zero_le _, h1, Nat.zero_le _, Nat.zero_le _, (by show p.codes.length ≤ 1000; omega)⟩
theorem deS_backS {first : Int} {s : ByteArray} (hss : s.size ≤ 2048) (h : (dcS first s).1.no = 0) : SmS (dcS first s).2 ∧ (enS (dcS first s).2).e.no = 0 ∧ dcS (enS (dcS first s).2).first (enS (dcS first s).2).s = (e00, (dcS first s).2) ∧ SmO (dcS first s).2 := by
  obtain ⟨h1, h2, h3⟩ := deS_back hss h
  obtain ⟨l1, l2⟩ := dcS_lists first s
  have h4 := h1.2.1
  have h5 := h1.2.2.1
  exact ⟨h1, h2, h3, (by omega), small_few h1.1, (by rw [l2]; exact Nat.zero_le _), (by rw [l1]; exact Nat.zero_le _), (by omega)⟩
theorem phR_ok12 {p : Pk} (h : (encR p.kind p.props).no = 0) : phR p = (e00, phW p) := by
  unfold phR
  rw [if_pos h]
theorem phR_bad12 {p : Pk} (h : ¬ (encR p.kind p.props).no = 0) : phR p = (⟨(encR p.kind p.props).no, (encR p.kind p.props).r, (encR p.kind p.props).at_⟩, w0) := by
  unfold phR
  rw [if_neg h]
theorem sv_get (L : List SV) : ∀ k, k < L.length → (L.flatMap SV.cells)[k * 5]? = some (.string (L.getD k sv0).filter) ∧ (L.flatMap SV.cells)[k * 5 + 1]? = some (.int .i64 (L.getD k sv0).qos) ∧ (L.flatMap SV.cells)[k * 5 + 2]? = some (.bool (L.getD k sv0).noLocal) ∧ (L.flatMap SV.cells)[k * 5 + 3]? = some (.bool (L.getD k sv0).asIs) ∧ (L.flatMap SV.cells)[k * 5 + 4]? = some (.int .i64 (L.getD k sv0).retain) := by
  induction L with
  | nil => intro k hk; cases hk
  | cons p L ih =>
    intro k hk
    rw [List.flatMap_cons]
    rcases k with _ | k
    · exact ⟨rfl, rfl, rfl, rfl, rfl⟩
    · rw [show (k + 1) * 5 = k * 5 + 1 + 1 + 1 + 1 + 1 by omega]
      simpa [SV.cells] using ih k (by simpa using hk)
section
variable {w w' : World} {S : Nat → Addr} {A : PkA} {p : Pk}
set_option maxHeartbeats 16000000 in
theorem enc12_8 (hE : Env w S) (h : PkIn w w.heap.size A p) (hS : SmS p) (hk : p.kind = 8) : Calls Tryz.prog 24 #[p.agg A] w (FrSays w S (enS p)) := by
  obtain ⟨q, hq⟩ : ∃ q, q = enS p := ⟨_, rfl⟩
  rw [← hq]
  have hwl := wrS_len hS
  have hwr : wrS p = p.subs.foldl stS (phW p) := wrS_a hk
  rw [hwr] at hwl
  unfold enS at hq
  rw [hwr, show fS p.kind = 130 from by rw [hk]; rfl, if_neg (by decide)] at hq
  obtain ⟨c, hc⟩ : ∃ c, c = p.cells A := ⟨_, rfl⟩
  rw [show p.agg A = .agg c from by rw [hc]; rfl]
  have HCS := Lib.hid (show c.size = 26 by rw [hc]; rfl)
  have hc0 : c[0]? = some (.int .i64 8) := by rw [hc, ← hk]; rfl
  have hcX : c[23]? = some (.slice A.sa p.subs.length A.sc) := by rw [hc]; rfl
  obtain ⟨W2, hW2⟩ : ∃ W, W = (w.alloc (.cells c 29)).alloc (.cells #[.int .i64 0, .string ⟨#[]⟩] 33) := ⟨_, rfl⟩
  have a1 : Below w.heap.size w (w.alloc (.cells c 29)) := (Below.refl _ _).alloc (Nat.le_refl _) _
  have hb2 : Below w.heap.size w W2 := by rw [hW2]; exact a1.trans (((Below.refl (w.alloc (.cells c 29)).heap.size _).alloc (Nat.le_refl _) (.cells #[.int .i64 0, .string ⟨#[]⟩] 33)).mono a1.size)
  have r0 : Blk W2 w.heap.size 29 c := by
    rw [hW2]; exact (Blk.made w 29 c).alloc (.cells #[.int .i64 0, .string ⟨#[]⟩] 33)
  have r1 : Blk W2 (w.heap.size + 1) 33 #[.int .i64 0, .string ⟨#[]⟩] := by
    have h := Blk.made (w.alloc (.cells c 29)) 33 #[.int .i64 0, .string ⟨#[]⟩]
    rw [World.size_alloc] at h
    rw [hW2]; exact h
  obtain ⟨W3, hW3⟩ : ∃ W, W = W2.alloc (.cells #[.slice none 0 0, .nilIface] 64) := ⟨_, rfl⟩
  have b3 : Below W2.heap.size W2 W3 := by rw [hW3]; exact (Below.refl _ _).alloc (Nat.le_refl _) _
  have hb3 := hb2.trans (b3.mono hb2.size)
  have ho : WObj W3 S w.heap.size (w.heap.size + 1 + 1) (.slice none 0 0) w0 := by
    rw [hW3, show w.heap.size + 1 + 1 = W2.heap.size from by rw [hW2, World.size_alloc, World.size_alloc]]
    exact WObj.made W2 S hb2.size
  have r03 := r0.below b3 r0.lt
  have k0 : W2.cell? ⟨w.heap.size, 0, none⟩ = some (.int .i64 8) := (r0.cell 0).trans hc0
  have hph := ph_any (A := A) (p := p) (hE.later hb3) ho ((h.below hb3).mono hb3.size) hS.1
  rw [show p.agg A = .agg c from by rw [hc]; rfl] at hph
  obtain ⟨⟨pe, V⟩, hpr⟩ : ∃ r, r = phR p := ⟨_, rfl⟩
  rw [← hpr] at hph
  have HPR := Lib.hid hpr
  have HPH := Lib.hid hph
  have HC0 := Lib.hid hc0
  have HCX := Lib.hid hcX
  have HW3 := Lib.hid hW3
  have HB3 := Lib.hid hb3
  have R0 := Lib.hid r03
  have R1 := Lib.hid (r1.below b3 r1.lt)
  have HO := Lib.hid ho
  have HE := Lib.hid hE
  have HQ := Lib.hid hq
  have HIN := Lib.hid (h.below hb3)
  have HSM := Lib.hid hS
  have HWL := Lib.hid hwl
  rw [hW2] at k0
  rw [hW2] at HW3
  clear hq hc hc0 hcX a1 hb2 r0 r1 hE h hS hW2 hW3 b3 hb3 ho r03 hph hk hwl hwr hpr
  go_enter Tryz.func24, Tryz.ntmps24
  go_wp2_with (first | refine wpk_box HCS.out _ rfl rfl rfl ?_ | refine wpk_load (show Blk (((w.alloc (.cells c 29)).alloc (.cells #[.int .i64 0, .string ⟨#[]⟩] 33)).alloc (.cells #[.slice none 0 0, .nilIface] 64)) w.heap.size 29 c from by rw [← HW3.out]; exact R0.out) HCS.out _ rfl rfl rfl ?_)
  rw [← HW3.out]
  refine HPH.out.mono ?_
  rintro x w4 ⟨e4, v4, rfl, he4, hn4⟩
  simp only at he4 hn4
  have r04 := hn4.blk HO.out R0.out (by decide) (by decide)
  have r14 := hn4.blk HO.out R1.out (by decide) (by decide)
  have hb4 := hn4.later HO.out HB3.out
  by_cases h0 : (encR p.kind p.props).no = 0
  · have hq := HQ.out
    rw [if_pos h0] at hq
    have hpr := HPR.out
    rw [phR_ok12 h0] at hpr
    obtain ⟨h1, h2⟩ := Prod.mk.inj hpr
    subst h1 h2
    unfold ErrOf at he4
    rw [if_pos (show e00.no = 0 from rfl)] at he4
    subst he4
    clear hpr HPR
    have HQ2 := Lib.hid hq
    have HO4 := Lib.hid hn4.obj
    have k0 : w4.cell? ⟨w.heap.size, 0, none⟩ = some (.int .i64 8) := (r04.cell 0).trans HC0.out
    have kX : w4.cell? ⟨w.heap.size, 23, none⟩ = some (.slice A.sa p.subs.length A.sc) := (r04.cell 23).trans HCX.out
    have HIN4 := Lib.hid (show CIn w4 w.heap.size 55 A.sa (p.subs.flatMap SV.cells) from HIN.out.sb.fr hn4.fr (fun g hg => by
      refine ⟨HO.out.own_ok g hg, fun xs hx => ?_⟩
      rcases List.mem_cons.1 hg with rfl | hg
      · obtain ⟨e, hb, _⟩ := HO.out.blk
        exact hb.other hx (by decide) rfl
      · cases hg))
    have R04 := Lib.hid r04
    have R14 := Lib.hid r14
    have HB4 := Lib.hid hb4
    clear hq hn4 r04 r14 hb4 HPH HO R0 R1 HB3 HW3 HIN HQ h0
    go_wp2_with fail
    obtain ⟨n, hn⟩ : ∃ n, n = p.subs.length := ⟨_, rfl⟩
    rw [← hn]
    have HN := Lib.hid hn
    have hn40 : n ≤ 40 := by have := HSM.out.2.1; omega
    clear hn kX k0
    go_loopw [30] (fun i wr => ∃ (k : Nat) (u : Value), k ≤ n ∧ i = .int .i64 k ∧ Hid (WNext w4 wr S w.heap.size (w.heap.size + 1 + 1) v4 u ((p.subs.take k).foldl stS (phW p)))) (fun i _ => n - (intOf i).toNat)
    case atStart => exact ⟨0, v4, by omega, rfl, Lib.hid (HO4.out.step (Below.refl _ _))⟩
    case round =>
      obtain ⟨k, u, hk, rfl, HJ⟩ := hrel
      by_cases hlt : k < n
      · have hkL : k < p.subs.length := by have := HN.out; omega
        obtain ⟨x, off, ex, hc, hx⟩ := HIN4.out (by rw [flat_len SV.cells 5 V8cl_len]; omega)
        have hne : x ∉ (w.heap.size + 1 + 1) :: v4.ownBlock.toList := fun hm => by
          have hB := HO4.out.own_ok x hm
          rcases hx with hx | ⟨xs, hx⟩
          · omega
          · rcases List.mem_cons.1 hm with rfl | hm
            · obtain ⟨e, hb, _⟩ := HO4.out.blk
              exact hb.other hx (by decide) rfl
            · obtain ⟨_, _, cs, hh⟩ := HO4.out.row.lt x (own_list.1 hm)
              rw [hh] at hx
              injection hx with h1
              injection h1 with h1 h2 h3
              exact absurd h2 (by decide)
        have hcl : ∀ j u, (p.subs.flatMap SV.cells)[j]? = some u → wr.cell? ⟨x, off + j, none⟩ = some u := fun j u hj => (World.cell?_of_block (HJ.out.fr.block x (lt_of_cell' (hc j u hj)) hne)).trans (hc j u hj)
        obtain ⟨g0, g1, g2, g3, g4⟩ := sv_get p.subs k hkL
        have c0 := hcl _ _ g0
        have c1 := hcl _ _ g1
        have c2 := hcl _ _ g2
        have c3 := hcl _ _ g3
        have c4 := hcl _ _ g4
        rw [← Nat.add_assoc] at c1 c2 c3 c4
        have hst : (p.subs.take (k + 1)).foldl stS (phW p) = stepW (stepW ((p.subs.take k).foldl stS (phW p)) (textE (p.subs.getD k sv0).filter)) (numE 1 (opI (p.subs.getD k sv0))) := by
          rw [List.take_succ_eq_append_getElem hkL, List.foldl_append, List.getD_eq_getElem?_getD, List.getElem?_eq_getElem hkL]
          rfl
        have hsz : (p.subs.getD k sv0).filter.size ≤ 2048 := by
          rw [List.getD_eq_getElem?_getD, List.getElem?_eq_getElem hkL]
          exact HSM.out.2.2.2 _ (List.getElem_mem hkL)
        have hlen : ((p.subs.take k).foldl stS (phW p)).L.length ≤ 700000 := by
          have h1 := foldS_len (p.subs.take k) (phW p) (fun x hx => HSM.out.2.2.2 x (List.mem_of_mem_take hx))
          have h2 := phW_len12 HSM.out.1
          have h3 : (p.subs.take k).length ≤ 40 := by rw [List.length_take]; omega
          omega
        obtain ⟨V1, hV1⟩ : ∃ V, V = (p.subs.take k).foldl stS (phW p) := ⟨_, rfl⟩
        rw [← hV1] at hst hlen
        have hj1 := HJ.out
        rw [← hV1] at hj1
        obtain ⟨⟨f1, q1, b1, d1, t1⟩, hsv⟩ : ∃ v, v = p.subs.getD k sv0 := ⟨_, rfl⟩
        rw [← hsv] at c0 c1 c2 c3 c4 hst hsz
        simp only at c0 c1 c2 c3 c4 hst hsz
        obtain ⟨W5, hW5⟩ : ∃ W, W = wr.alloc (.cells #[.string f1, .int .i64 q1, .bool b1, .bool d1, .int .i64 t1] 55) := ⟨_, rfl⟩
        have a5 : Below wr.heap.size wr W5 := by rw [hW5]; exact (Below.refl _ _).alloc (Nat.le_refl _) _
        have K5 : Blk W5 wr.heap.size 55 #[.string f1, .int .i64 q1, .bool b1, .bool d1, .int .i64 t1] := by rw [hW5]; exact Blk.made _ _ _
        have hj5 := hj1.below a5
        have hl1 := stepW_len V1 (textE f1)
        have hl2 := textE_len f1
        have HU := Lib.hid (wtext_any (HE.out.later (hj5.later HO4.out HB4.out)) hj5.obj (by omega) f1 (by omega))
        have HJ5 := Lib.hid hj5
        have HK5 := Lib.hid K5
        have HW5 := Lib.hid hW5
        have HST := Lib.hid hst
        have HL1 := Lib.hid (show (stepW V1 (textE f1)).L.length ≤ 900000 by omega)
        rw [ex]
        clear hst hlen hc hx hsz ex hne hcl g0 g1 g2 g3 g4 hV1 hsv hj1 hW5 a5 K5 hj5 hl1 hl2
        go_wp2_with fail
        rw [← HW5.out]
        refine HU.out.mono ?_
        rintro x w5 ⟨rfl, u5, hn5⟩
        have k6 := hn5.blk HJ5.out.obj HK5.out (by decide) (by decide)
        have d0 : w5.cell? ⟨wr.heap.size, 0, none⟩ = some (.string f1) := k6.cell 0
        have d1' : w5.cell? ⟨wr.heap.size, 1, none⟩ = some (.int .i64 q1) := k6.cell 1
        have d2 : w5.cell? ⟨wr.heap.size, 2, none⟩ = some (.bool b1) := k6.cell 2
        have d3 : w5.cell? ⟨wr.heap.size, 3, none⟩ = some (.bool d1) := k6.cell 3
        have d4 : w5.cell? ⟨wr.heap.size, 4, none⟩ = some (.int .i64 t1) := k6.cell 4
        have HJ6 := Lib.hid (HJ5.out.trans hn5)
        have hop := opt12 ⟨f1, q1, b1, d1, t1⟩ w5
        rw [show SV.agg ⟨f1, q1, b1, d1, t1⟩ = .agg #[.string f1, .int .i64 q1, .bool b1, .bool d1, .int .i64 t1] from rfl] at hop
        have HOP := Lib.hid hop
        clear hn5 HU k6 hop c0 c1 c2 c3 c4 HW5
        go_wp2_with fail
        refine HOP.out.mono ?_
        rintro x w6 ⟨rfl, hb6⟩
        have hj7 := HJ6.out.below hb6
        have HU8 := Lib.hid (wu8_any (HE.out.later (hj7.later HO4.out HB4.out)) hj7.obj HL1.out (opI ⟨f1, q1, b1, d1, t1⟩))
        rw [← HST.out] at HU8
        have HJ7 := Lib.hid hj7
        clear hj7 hb6 d0 d1' d2 d3 d4 HOP
        go_wp2_with fail
        refine HU8.out.mono ?_
        rintro x w7 ⟨rfl, u7, hn7⟩
        have HX := Lib.hid (HJ7.out.trans hn7)
        clear hn7 HU8
        go_wp2_with fail
        go_roundw
        case rel => exact ⟨k + 1, u7, by omega, by go_num, HX⟩
        case measure => simp [intOf]; omega
      · obtain rfl : k = n := by omega
        have hj := HJ.out
        rw [List.take_of_length_le (by have := HN.out; omega)] at hj
        have r05 := hj.blk HO4.out R04.out (by decide) (by decide)
        have R15 := Lib.hid (hj.blk HO4.out R14.out (by decide) (by decide))
        have hb5 := hj.later HO4.out HB4.out
        have hfa := frame_any12 130 hj.obj (fun W1 hb => dec12 (HE.out.later (hb5.trans (hb.mono hb5.size))) 130 (show (⟨((p.subs.foldl stS (phW p))).L.toArray⟩ : ByteArray).size ≤ 900000 from by rw [bsize]; have := HWL.out; omega))
        rw [← HQ2.out] at hfa
        have HFA := Lib.hid hfa
        have HB5 := Lib.hid hb5
        clear hj r05 hb5 hfa
        go_wp2_with fail
        refine HFA.out.mono ?_
        rintro x wA ⟨e8, rfl, he8, hb8⟩
        have r1 := R15.out.below hb8 R15.out.lt
        have hb := HB5.out.trans (hb8.mono HB5.out.size)
        obtain ⟨⟨z0, z1, y0, y1⟩, ⟨z2, y2⟩, ⟨f0, f1⟩, ferr⟩ := fr_facts (S := S) r1 (.int .i64 q.first) (.string q.s)
        have hbf := (hb.setCell (p := ⟨w.heap.size + 1, 0, none⟩) (by show w.heap.size ≤ w.heap.size + 1; omega) (.int .i64 q.first)).setCell (p := ⟨w.heap.size + 1, 1, none⟩) (by show w.heap.size ≤ w.heap.size + 1; omega) (.string q.s)
        have HX := Lib.hid (show FrSays w S q (.returned (.tuple #[.agg #[.int .i64 q.first, .string q.s], e8])) _ from ⟨e8, rfl, ferr _ _ _ _ he8, hbf⟩)
        clear hb8 r1 hb ferr hbf he8 HFA
        go_wp2
        exact bodyPost_ret (v := .tuple #[.agg #[.int .i64 q.first, .string q.s], e8]) (by simp [results, Tryz.results24, go_sem, f0, f1]) rfl HX.out
  · have hq := HQ.out
    rw [if_neg h0] at hq
    have hpr := HPR.out
    rw [phR_bad12 h0] at hpr
    obtain ⟨h1, h2⟩ := Prod.mk.inj hpr
    subst h1 h2
    obtain ⟨te, ue, rfl⟩ := err_iface he4 h0
    clear hpr HPR
    obtain ⟨⟨z0, z1, y0, y1⟩, ⟨z2, y2⟩, ⟨f0, f1⟩, ferr⟩ := fr_facts (S := S) r14 (.int .i64 0) (.string ⟨#[]⟩)
    have hbf := (hb4.setCell (p := ⟨w.heap.size + 1, 0, none⟩) (by show w.heap.size ≤ w.heap.size + 1; omega) (.int .i64 0)).setCell (p := ⟨w.heap.size + 1, 1, none⟩) (by show w.heap.size ≤ w.heap.size + 1; omega) (.string ⟨#[]⟩)
    have HX := Lib.hid (show FrSays w S q (.returned (.tuple #[.agg #[.int .i64 0, .string ⟨#[]⟩], .iface te ue])) _ from by
      rw [hq]
      exact ⟨_, rfl, ferr _ _ _ _ he4, hbf⟩)
    clear ferr hbf he4 hq hn4 r04 r14 hb4 h0 HPH HQ
    go_wp2
    exact bodyPost_ret (v := .tuple #[.agg #[.int .i64 0, .string ⟨#[]⟩], .iface te ue]) (by simp [results, Tryz.results24, go_sem, f0, f1]) rfl HX.out
set_option maxHeartbeats 16000000 in
theorem enc12_9 (hE : Env w S) (h : PkIn w w.heap.size A p) (hS : SmS p) (hk : p.kind = 9) : Calls Tryz.prog 24 #[p.agg A] w (FrSays w S (enS p)) := by
  obtain ⟨q, hq⟩ : ∃ q, q = enS p := ⟨_, rfl⟩
  rw [← hq]
  have hwl := wrS_len hS
  have hwr : wrS p = p.codes.foldl stC (phW p) := wrS_b (by rw [hk]; decide)
  rw [hwr] at hwl
  unfold enS at hq
  rw [hwr, show fS p.kind = 144 from by rw [hk]; rfl, if_neg (by decide)] at hq
  obtain ⟨c, hc⟩ : ∃ c, c = p.cells A := ⟨_, rfl⟩
  rw [show p.agg A = .agg c from by rw [hc]; rfl]
  have HCS := Lib.hid (show c.size = 26 by rw [hc]; rfl)
  have hc0 : c[0]? = some (.int .i64 9) := by rw [hc, ← hk]; rfl
  have hcX : c[25]? = some (.slice A.ca p.codes.length A.cc) := by rw [hc]; rfl
  obtain ⟨W2, hW2⟩ : ∃ W, W = (w.alloc (.cells c 29)).alloc (.cells #[.int .i64 0, .string ⟨#[]⟩] 33) := ⟨_, rfl⟩
  have a1 : Below w.heap.size w (w.alloc (.cells c 29)) := (Below.refl _ _).alloc (Nat.le_refl _) _
  have hb2 : Below w.heap.size w W2 := by rw [hW2]; exact a1.trans (((Below.refl (w.alloc (.cells c 29)).heap.size _).alloc (Nat.le_refl _) (.cells #[.int .i64 0, .string ⟨#[]⟩] 33)).mono a1.size)
  have r0 : Blk W2 w.heap.size 29 c := by
    rw [hW2]; exact (Blk.made w 29 c).alloc (.cells #[.int .i64 0, .string ⟨#[]⟩] 33)
  have r1 : Blk W2 (w.heap.size + 1) 33 #[.int .i64 0, .string ⟨#[]⟩] := by
    have h := Blk.made (w.alloc (.cells c 29)) 33 #[.int .i64 0, .string ⟨#[]⟩]
    rw [World.size_alloc] at h
    rw [hW2]; exact h
  obtain ⟨W3, hW3⟩ : ∃ W, W = W2.alloc (.cells #[.slice none 0 0, .nilIface] 64) := ⟨_, rfl⟩
  have b3 : Below W2.heap.size W2 W3 := by rw [hW3]; exact (Below.refl _ _).alloc (Nat.le_refl _) _
  have hb3 := hb2.trans (b3.mono hb2.size)
  have ho : WObj W3 S w.heap.size (w.heap.size + 1 + 1) (.slice none 0 0) w0 := by
    rw [hW3, show w.heap.size + 1 + 1 = W2.heap.size from by rw [hW2, World.size_alloc, World.size_alloc]]
    exact WObj.made W2 S hb2.size
  have r03 := r0.below b3 r0.lt
  have k0 : W2.cell? ⟨w.heap.size, 0, none⟩ = some (.int .i64 9) := (r0.cell 0).trans hc0
  have hph := ph_any (A := A) (p := p) (hE.later hb3) ho ((h.below hb3).mono hb3.size) hS.1
  rw [show p.agg A = .agg c from by rw [hc]; rfl] at hph
  obtain ⟨⟨pe, V⟩, hpr⟩ : ∃ r, r = phR p := ⟨_, rfl⟩
  rw [← hpr] at hph
  have HPR := Lib.hid hpr
  have HPH := Lib.hid hph
  have HC0 := Lib.hid hc0
  have HCX := Lib.hid hcX
  have HW3 := Lib.hid hW3
  have HB3 := Lib.hid hb3
  have R0 := Lib.hid r03
  have R1 := Lib.hid (r1.below b3 r1.lt)
  have HO := Lib.hid ho
  have HE := Lib.hid hE
  have HQ := Lib.hid hq
  have HIN := Lib.hid (h.below hb3)
  have HSM := Lib.hid hS
  have HWL := Lib.hid hwl
  rw [hW2] at k0
  rw [hW2] at HW3
  clear hq hc hc0 hcX a1 hb2 r0 r1 hE h hS hW2 hW3 b3 hb3 ho r03 hph hk hwl hwr hpr
  go_enter Tryz.func24, Tryz.ntmps24
  go_wp2_with (first | refine wpk_box HCS.out _ rfl rfl rfl ?_ | refine wpk_load (show Blk (((w.alloc (.cells c 29)).alloc (.cells #[.int .i64 0, .string ⟨#[]⟩] 33)).alloc (.cells #[.slice none 0 0, .nilIface] 64)) w.heap.size 29 c from by rw [← HW3.out]; exact R0.out) HCS.out _ rfl rfl rfl ?_)
  rw [← HW3.out]
  refine HPH.out.mono ?_
  rintro x w4 ⟨e4, v4, rfl, he4, hn4⟩
  simp only at he4 hn4
  have r04 := hn4.blk HO.out R0.out (by decide) (by decide)
  have r14 := hn4.blk HO.out R1.out (by decide) (by decide)
  have hb4 := hn4.later HO.out HB3.out
  by_cases h0 : (encR p.kind p.props).no = 0
  · have hq := HQ.out
    rw [if_pos h0] at hq
    have hpr := HPR.out
    rw [phR_ok12 h0] at hpr
    obtain ⟨h1, h2⟩ := Prod.mk.inj hpr
    subst h1 h2
    unfold ErrOf at he4
    rw [if_pos (show e00.no = 0 from rfl)] at he4
    subst he4
    clear hpr HPR
    have HQ2 := Lib.hid hq
    have HO4 := Lib.hid hn4.obj
    have k0 : w4.cell? ⟨w.heap.size, 0, none⟩ = some (.int .i64 9) := (r04.cell 0).trans HC0.out
    have kX : w4.cell? ⟨w.heap.size, 25, none⟩ = some (.slice A.ca p.codes.length A.cc) := (r04.cell 25).trans HCX.out
    have HIN4 := Lib.hid (show CIn w4 w.heap.size 3 A.ca (p.codes.flatMap iCell) from HIN.out.cd.fr hn4.fr (fun g hg => by
      refine ⟨HO.out.own_ok g hg, fun xs hx => ?_⟩
      rcases List.mem_cons.1 hg with rfl | hg
      · obtain ⟨e, hb, _⟩ := HO.out.blk
        exact hb.other hx (by decide) rfl
      · cases hg))
    have R04 := Lib.hid r04
    have R14 := Lib.hid r14
    have HB4 := Lib.hid hb4
    clear hq hn4 r04 r14 hb4 HPH HO R0 R1 HB3 HW3 HIN HQ h0
    obtain ⟨n, hn⟩ : ∃ n, n = p.codes.length := ⟨_, rfl⟩
    rw [← hn] at kX
    have hpc := pc_any (z := w) HE.out HB4.out (Nat.le_refl _) HO4.out HIN4.out n A.cc hn (by have := HSM.out.2.2.1; omega) (by have := phW_len12 HSM.out.1; omega)
    have HPC := Lib.hid hpc
    clear hpc hn
    go_wp2_with fail
    refine HPC.out.mono ?_
    rintro x w5 ⟨rfl, u5, hj⟩
    have R15 := Lib.hid (hj.blk HO4.out R14.out (by decide) (by decide))
    have hb5 := hj.later HO4.out HB4.out
    have hfa := frame_any12 144 hj.obj (fun W1 hb => dec12 (HE.out.later (hb5.trans (hb.mono hb5.size))) 144 (show (⟨((p.codes.foldl stC (phW p))).L.toArray⟩ : ByteArray).size ≤ 900000 from by rw [bsize]; have := HWL.out; omega))
    rw [← HQ2.out] at hfa
    have HFA := Lib.hid hfa
    have HB5 := Lib.hid hb5
    clear hj hb5 hfa HPC kX k0
    go_wp2_with fail
    refine HFA.out.mono ?_
    rintro x wA ⟨e8, rfl, he8, hb8⟩
    have r1 := R15.out.below hb8 R15.out.lt
    have hb := HB5.out.trans (hb8.mono HB5.out.size)
    obtain ⟨⟨z0, z1, y0, y1⟩, ⟨z2, y2⟩, ⟨f0, f1⟩, ferr⟩ := fr_facts (S := S) r1 (.int .i64 q.first) (.string q.s)
    have hbf := (hb.setCell (p := ⟨w.heap.size + 1, 0, none⟩) (by show w.heap.size ≤ w.heap.size + 1; omega) (.int .i64 q.first)).setCell (p := ⟨w.heap.size + 1, 1, none⟩) (by show w.heap.size ≤ w.heap.size + 1; omega) (.string q.s)
    have HX := Lib.hid (show FrSays w S q (.returned (.tuple #[.agg #[.int .i64 q.first, .string q.s], e8])) _ from ⟨e8, rfl, ferr _ _ _ _ he8, hbf⟩)
    clear hb8 r1 hb ferr hbf he8 HFA
    go_wp2
    exact bodyPost_ret (v := .tuple #[.agg #[.int .i64 q.first, .string q.s], e8]) (by simp [results, Tryz.results24, go_sem, f0, f1]) rfl HX.out
  · have hq := HQ.out
    rw [if_neg h0] at hq
    have hpr := HPR.out
    rw [phR_bad12 h0] at hpr
    obtain ⟨h1, h2⟩ := Prod.mk.inj hpr
    subst h1 h2
    obtain ⟨te, ue, rfl⟩ := err_iface he4 h0
    clear hpr HPR
    obtain ⟨⟨z0, z1, y0, y1⟩, ⟨z2, y2⟩, ⟨f0, f1⟩, ferr⟩ := fr_facts (S := S) r14 (.int .i64 0) (.string ⟨#[]⟩)
    have hbf := (hb4.setCell (p := ⟨w.heap.size + 1, 0, none⟩) (by show w.heap.size ≤ w.heap.size + 1; omega) (.int .i64 0)).setCell (p := ⟨w.heap.size + 1, 1, none⟩) (by show w.heap.size ≤ w.heap.size + 1; omega) (.string ⟨#[]⟩)
    have HX := Lib.hid (show FrSays w S q (.returned (.tuple #[.agg #[.int .i64 0, .string ⟨#[]⟩], .iface te ue])) _ from by
      rw [hq]
      exact ⟨_, rfl, ferr _ _ _ _ he4, hbf⟩)
    clear ferr hbf he4 hq hn4 r04 r14 hb4 h0 HPH HQ
    go_wp2
    exact bodyPost_ret (v := .tuple #[.agg #[.int .i64 0, .string ⟨#[]⟩], .iface te ue]) (by simp [results, Tryz.results24, go_sem, f0, f1]) rfl HX.out
set_option maxHeartbeats 8000000 in
theorem enc12_other (hE : Env w S) (h1 : ¬ p.kind = 8) (h2 : ¬ p.kind = 9) : Calls Tryz.prog 24 #[p.agg A] w (FrSays w S (enS p)) := by
  obtain ⟨q, hq⟩ : ∃ q, q = enS p := ⟨_, rfl⟩
  rw [← hq]
  unfold enS at hq
  rw [if_pos (by unfold fS; rw [if_neg h1, if_neg h2])] at hq
  have HQ := Lib.hid hq
  obtain ⟨c, hc⟩ : ∃ c, c = p.cells A := ⟨_, rfl⟩
  rw [show p.agg A = .agg c from by rw [hc]; rfl]
  have hcs : c.size = 26 := by rw [hc]; rfl
  have hc0 : c[0]? = some (.int .i64 p.kind) := by rw [hc]; rfl
  have HCS := Lib.hid hcs
  generalize p.kind = kd at *
  obtain ⟨W3, hW3⟩ : ∃ W, W = (w.alloc (.cells c 29)).alloc (.cells #[.int .i64 0, .string ⟨#[]⟩] 33) := ⟨_, rfl⟩
  have a1 : Below w.heap.size w (w.alloc (.cells c 29)) := (Below.refl _ _).alloc (Nat.le_refl _) _
  have hb3 : Below w.heap.size w W3 := by rw [hW3]; exact a1.trans (((Below.refl (w.alloc (.cells c 29)).heap.size _).alloc (Nat.le_refl _) (.cells #[.int .i64 0, .string ⟨#[]⟩] 33)).mono a1.size)
  have r1 : Blk W3 (w.heap.size + 1) 33 #[.int .i64 0, .string ⟨#[]⟩] := by
    have h := Blk.made (w.alloc (.cells c 29)) 33 #[.int .i64 0, .string ⟨#[]⟩]
    rw [World.size_alloc] at h
    rw [hW3]; exact h
  have kA := (hE.later hb3).kArgument
  rw [hW3] at kA
  have HN := Lib.hid (new_err (w := W3) S 6 128 0)
  have HW3 := Lib.hid hW3
  have HB3 := Lib.hid hb3
  have R1 := Lib.hid r1
  clear hq hc hcs a1 hb3 r1 hE hW3
  go_enter Tryz.func24, Tryz.ntmps24
  go_wp2_with (refine wpk_box HCS.out _ rfl rfl rfl ?_)
  rw [← HW3.out]
  refine HN.out.mono ?_
  rintro x w5 ⟨e, rfl, he, hb⟩
  obtain ⟨te, ue, rfl⟩ := he.iface
  have r1 := R1.out.below hb R1.out.lt
  have hb5 := HB3.out.trans (hb.mono HB3.out.size)
  obtain ⟨⟨z0, z1, y0, y1⟩, ⟨z2, y2⟩, ⟨f0, f1⟩, ferr⟩ := fr_facts (S := S) r1 (.int .i64 0) (.string ⟨#[]⟩)
  have hbf := (hb5.setCell (p := ⟨w.heap.size + 1, 0, none⟩) (by show w.heap.size ≤ w.heap.size + 1; omega) (.int .i64 0)).setCell (p := ⟨w.heap.size + 1, 1, none⟩) (by show w.heap.size ≤ w.heap.size + 1; omega) (.string ⟨#[]⟩)
  have HX := Lib.hid (show FrSays w S q (.returned (.tuple #[.agg #[.int .i64 0, .string ⟨#[]⟩], .iface te ue])) _ from by
    rw [HQ.out]
    exact ⟨_, rfl, ferr _ _ _ _ (ErrOf.some (no := 7) (by decide) (by decide) he), hbf⟩)
  clear hb5 r1 ferr hbf he hb hc0 kA
  go_wp2
  exact bodyPost_ret (v := .tuple #[.agg #[.int .i64 0, .string ⟨#[]⟩], .iface te ue]) (by simp [results, Tryz.results24, go_sem, f0, f1]) rfl HX.out
theorem enc12 (hE : Env w S) (h : PkIn w w.heap.size A p) (hS : SmS p) : Calls Tryz.prog 24 #[p.agg A] w (FrSays w S (enS p)) := by
  by_cases h1 : p.kind = 8
  · exact enc12_8 hE h hS h1
  · by_cases h2 : p.kind = 9
    · exact enc12_9 hE h hS h2
    · exact enc12_other hE h1 h2
end
end Go.Proofs.YtinhecggmakbnaaGreatDoor

/- What is proved here: the document reads a number and its faults. Conditions: the reader is there, with few bytes. What is proved here: the flags that the document's layer 8 writes. Conditions: a will's QoS has two bits. What is proved here: the document reads the head of a Connect. Conditions: the reader is there, with few bytes. What is proved here: six cells are stored within a block of the call's own; a will's type. No conditions. What is proved here: what the document's Decode of layer 8 tells as its fault. Conditions: few bytes. -/
import Derived.Test.YtfkimpcaokgldaaGreatDoorRdx08
import Derived.Test.YtfkimpcaokgldaaGreatDoorDcj08
import Derived.Test.YtfkimpcaokgldaaGreatDoorFra08
import Derived.Deep.QuietTactic
import Derived.BigQuiet
import Derived.Deep.DeepMust
import Derived.Test.YtfkimpcaokgldaaGreatDoorMad08
import Derived.Deep.MidRow
namespace Go.Proofs.YtfkimpcaokgldaaGreatDoor
set_option maxRecDepth 100000
open Go.ChangeShapes Go.WideShapes Go.RowKit Go.Deep Go.Extern.Stop Go.Stop Go.Extern
/-- Parts and a fault, as the document answers them. -/
def PfSays (w : World) (g : Nat) (s : ByteArray) (q : Er) (x : Ending) (w' : World) : Prop := ∃ (a : Option Addr) (n c : Nat) (R' : RV), x = .returned (.tuple #[.slice a n c, fltV (q.no, q.r, q.at_)]) ∧ RRNext w w' g s R'
section
variable {B0 : Nat} {X : List Nat} {w0 w w' : World} {L : OL} {g : Nat} {s : ByteArray} {R : RV} {v : Value} {te : TypeId} {M : List ByteArray} {I : List Int} {V : List SV} {P : Program}
theorem own_rd1 (h : RRObj w g s R) : Own [g] w w [(g, 132, #[.string s, .int .i64 R.p, .int .i64 R.no, .int .i64 R.ea])] := (Own.start [g] w).elder h.blk (List.mem_singleton_self g) (fun _ h => by cases h)
theorem Own.grown (h : Own X w0 w L) (hg : w.grownBy w' v.ownBlock) (ht : ∀ k, v.ownBlock = some k → w0.heap.size ≤ k ∧ ∃ cs, w.heap[k]? = some (.cells cs te (0, 0))) (hL : ∀ x ∈ L, x.2.1 ≠ te) : Own X w0 w' L := by
  refine ⟨h.fr.grown hg fun k hk => .inr (ht k hk).1, fun x hx => (h.blk x hx).grown hg fun he => ?_, h.new, h.nd⟩
  obtain ⟨_, cs, hh⟩ := ht _ he.symm
  exact (h.blk x hx).other hh (hL x hx) rfl
theorem t8_rstep (hr : T8Row w B0 v M) (hO : RRObj w g s R) (hf : Fr [g] w w') : T8Row w' B0 v M := hr.fr hf fun k hk hm => by
  rw [List.mem_singleton] at hm
  subst hm
  obtain ⟨_, _, cs, hh⟩ := hr.lt k hk
  exact hO.blk.other hh (by decide) rfl
theorem i8_rstep (hr : I8Row w B0 v I) (hO : RRObj w g s R) (hf : Fr [g] w w') : I8Row w' B0 v I := hr.fr hf fun k hk hm => by
  rw [List.mem_singleton] at hm
  subst hm
  obtain ⟨_, _, cs, hh⟩ := hr.lt k hk
  exact hO.blk.other hh (by decide) rfl
theorem v8_rstep (hr : V8Row w B0 v V) (hO : RRObj w g s R) (hf : Fr [g] w w') : V8Row w' B0 v V := hr.fr hf fun k hk hm => by
  rw [List.mem_singleton] at hm
  subst hm
  obtain ⟨_, _, cs, hh⟩ := hr.lt k hk
  exact hO.blk.other hh (by decide) rfl
/-- What stands in a slot, and a struct, as results. -/
theorem res_own01 {fn : Func} {tmps : Array Value} {i j h : Nat} {tB : TypeId} {zB cB : Array Value} (n : Nat) (hO : Own X w0 w L) (hTB : Ty P tB zB) (hr : fn.results = #[.tmp i, .cell j tB]) {u : Value} (hi : tmps.getD i undef = u) (hj : tmps.getD j undef = .pointer (some ⟨h, 0, none⟩))
    (hn : L[n]? = some (h, tB, cB)) (nB : cB.size = zB.size) : (results fn tmps).run P w = .ok (.tuple #[u, .agg cB]) w := by
  subst hi
  have h2 := run_load_own hTB (hO.get n hn) nB
  have hj' : tmps[j]?.getD undef = .pointer (some ⟨h, 0, none⟩) := by simpa using hj
  simp [results, hr, hj', asAddr, h2]
theorem own_rr (h : Own [g] w0 w L) (i : Nat) (hi : L[i]? = some (g, 132, #[.string s, .int .i64 R.p, .int .i64 R.no, .int .i64 R.ea])) (hle : R.p ≤ s.size) : RRNext w0 w g s R := ⟨h.rd i hi hle, h.fr⟩
end
/-- What Id tells of a reader. -/
def idQ (s : ByteArray) (R : RV) : Er × Nat × RV := if (rNum s 2 R).2.no = 0 then if (rNum s 2 R).1 = 0 then (⟨3, 130, 0⟩, 0, (rNum s 2 R).2) else (e00, (rNum s 2 R).1, (rNum s 2 R).2) else (⟨(rNum s 2 R).2.no, 129, (rNum s 2 R).2.ea⟩, 0, (rNum s 2 R).2)
def IdF (w : World) (g : Nat) (s : ByteArray) (q : Er × Nat × RV) (x : Ending) (w' : World) : Prop := x = .returned (.tuple #[.int .i64 (q.2.1 : Int), fltV (q.1.no, q.1.r, q.1.at_)]) ∧ RRNext w w' g s q.2.2
end Go.Proofs.YtfkimpcaokgldaaGreatDoor
namespace Go.Proofs.YtfkimpcaokgldaaGreatDoor
set_option maxRecDepth 100000
open Go.ChangeShapes Go.WideShapes Go.RowKit Go.Deep Go.Extern.Stop Go.Stop Go.Extern
theorem rbit_any (b : Bool) (v : Int) (w : World) : Calls Tryz.prog 84 #[.bool b, .int .i64 v] w fun x w' => x = .returned (.int .i64 (if b then v else 0)) ∧ w' = w := by
  cases b <;> (go_enter Tryz.func84, Tryz.ntmps84; go_wp2_with fail; go_ret; exact ⟨rfl, rfl⟩)
theorem rbit_nat (b : Bool) (v : Nat) : ∃ n : Nat, n = (if b then v else 0) ∧ n ≤ v ∧ ∀ w, Calls Tryz.prog 84 #[.bool b, .int .i64 v] w fun x w' => x = .returned (.int .i64 n) ∧ w' = w := by
  cases b
  · exact ⟨0, rfl, Nat.zero_le _, fun w => rbit_any false v w⟩
  · exact ⟨v, rfl, Nat.le_refl _, fun w => rbit_any true v w⟩
set_option maxHeartbeats 8000000 in
theorem rflg08 (A : PkA) (p : Pk) (hp : p.wHas = true → 0 ≤ p.wQos ∧ p.wQos ≤ 3) (w : World) : Calls Tryz.prog 33 #[p.agg A] w fun x w' => x = .returned (.int .i64 (flK p : Nat)) ∧ Below w.heap.size w w' := by
  obtain ⟨c, hc⟩ : ∃ c, c = p.cells A := ⟨_, rfl⟩
  rw [show p.agg A = .agg c from by rw [hc]; rfl]
  have HCS := Lib.hid (show c.size = 26 by rw [hc]; rfl)
  have hc4 : c[4]? = some (.bool p.clean) := by rw [hc]; rfl
  have hc7 : c[7]? = some (.bool p.wHas) := by rw [hc]; rfl
  have hc10 : c[10]? = some (.int .i64 p.wQos) := by rw [hc]; rfl
  have hc11 : c[11]? = some (.bool p.wRetain) := by rw [hc]; rfl
  have hc13 : c[13]? = some (.bool p.hasUser) := by rw [hc]; rfl
  have hc15 : c[15]? = some (.bool p.hasPass) := by rw [hc]; rfl
  unfold flK fgK
  have HO := Lib.hid (Own.start [] w)
  generalize p.clean = cl at *
  generalize p.wHas = hs at *
  generalize p.wQos = q at *
  generalize p.wRetain = rt at *
  generalize p.hasUser = us at *
  generalize p.hasPass = ps at *
  obtain ⟨n1, e1, b1, h1⟩ := rbit_nat cl 2
  obtain ⟨n2, e2, b2, h2⟩ := rbit_nat us 128
  obtain ⟨n3, e3, b3, h3⟩ := rbit_nat ps 64
  obtain ⟨n4, e4, b4, h4⟩ := rbit_nat rt 32
  rw [← e1, ← e2, ← e3, ← e4]
  have H1 := Lib.hid h1
  have H2 := Lib.hid h2
  have H3 := Lib.hid h3
  have H4 := Lib.hid h4
  have HC4 := Lib.hid hc4
  have HC7 := Lib.hid hc7
  have HC10 := Lib.hid hc10
  have HC11 := Lib.hid hc11
  have HC13 := Lib.hid hc13
  have HC15 := Lib.hid hc15
  clear hc hc4 hc7 hc10 hc11 hc13 hc15 h1 h2 h3 h4 e1 e2 e3 e4
  go_enter Tryz.func33, Tryz.ntmps33
  go_upto_region 1 with (refine wpo_box (t := 29) HO.out _ rfl rfl rfl ?_; clear HO; rintro k1 W1 hO; have HO := Lib.hid hO; clear hO; simp only [Act.put, List.setIfInBounds_toArray, List.set_cons_zero, List.set_cons_succ])
  have x4 : W1.cell? ⟨k1, 4, none⟩ = some (.bool cl) := ((HO.out.get 0 rfl).cell 4).trans HC4.out
  have x13 : W1.cell? ⟨k1, 13, none⟩ = some (.bool us) := ((HO.out.get 0 rfl).cell 13).trans HC13.out
  have x15 : W1.cell? ⟨k1, 15, none⟩ = some (.bool ps) := ((HO.out.get 0 rfl).cell 15).trans HC15.out
  go_quiet ((first | (go_at_call 84; exact Calls.quiet_of_same (H1.out _)) | (go_at_call 84; exact Calls.quiet_of_same (H2.out _)) | (go_at_call 84; exact Calls.quiet_of_same (H3.out _))))
  have HB := Lib.hid (HO.out.drewN nq)
  generalize W1.drewN nq = W2 at *
  clear x4 x13 x15 HO
  have HO := HB
  clear HB
  have x7 : W2.cell? ⟨k1, 7, none⟩ = some (.bool hs) := ((HO.out.get 0 rfl).cell 7).trans HC7.out
  cases hs with
  | false =>
    go_wp2_with fail
    go_ret
    exact ⟨by go_num, HO.out.bel⟩
  | true =>
    obtain ⟨hq0, hq3⟩ := hp rfl
    obtain ⟨n, rfl⟩ : ∃ n : Nat, q = n := ⟨q.toNat, by omega⟩
    clear hp
    go_upto_region 3 with fail
    clear x7
    have x10 : W2.cell? ⟨k1, 10, none⟩ = some (.int .i64 n) := ((HO.out.get 0 rfl).cell 10).trans HC10.out
    have x11 : W2.cell? ⟨k1, 11, none⟩ = some (.bool rt) := ((HO.out.get 0 rfl).cell 11).trans HC11.out
    go_quiet ((go_at_call 84; exact Calls.quiet_of_same (H4.out _)))
    have HB := Lib.hid (HO.out.drewN nq)
    generalize W2.drewN nq = W3 at *
    clear x10 x11 HO
    have HO := HB
    clear HB
    go_wp2_with fail
    go_ret
    exact ⟨by go_num, HO.out.bel⟩
end Go.Proofs.YtfkimpcaokgldaaGreatDoor
namespace Go.Proofs.YtfkimpcaokgldaaGreatDoor
set_option maxRecDepth 100000
open Go.ChangeShapes Go.WideShapes Go.RowKit Go.Deep Go.Extern.Stop Go.Stop Go.Extern
theorem rNum_fail0 {s : ByteArray} {R : RV} (h0 : R.no = 0) : (rNum s 1 R).2.no ≠ 0 → (rNum s 1 R).1 = 0 := by
  unfold rNum rTake
  rw [if_pos h0]
  split
  · exact fun _ => rfl
  · exact fun h => absurd rfl h
theorem num1_ltR (s : ByteArray) (R : RV) : (rNum s 1 R).1 < 256 := by
  have h := bv_lt (rTake s 1 R).1.data.toList
  have h2 := take_size s 1 R
  rw [bLen] at h
  have h3 : 256 ^ (rTake s 1 R).1.size ≤ 256 ^ 1 := Nat.pow_le_pow_right (by decide) h2
  exact Nat.lt_of_lt_of_le h h3
set_option maxHeartbeats 8000000 in
theorem rhead08 {w : World} {g : Nat} {s : ByteArray} (h : RRObj w g s ⟨0, 0, 0⟩) (hs : s.size ≤ 900000) : Calls Tryz.prog 85 #[.pointer (some ⟨g, 0, none⟩)] w (IdF w g s (hdK s)) := by
  obtain ⟨q, hq⟩ : ∃ q, q = hdK s := ⟨_, rfl⟩
  rw [← hq]
  unfold hdK hdK2 hdK3 at hq
  obtain ⟨⟨nm, R1⟩, h1⟩ : ∃ V, V = rText s ⟨0, 0, 0⟩ := ⟨_, rfl⟩
  rw [← h1] at hq
  simp only at hq
  have HO := Lib.hid (own_rd1 h)
  have HSZ := Lib.hid hs
  have H1 := Lib.hid h1
  have HQ := Lib.hid hq
  have HLE := Lib.hid h.le
  clear h hs h1 hq
  go_enter Tryz.func85, Tryz.ntmps85
  go_upto_region 1 with (refine wpo_alloc tyX HO.out rfl rfl ?_; clear HO; rintro k3 W1 hO; have HO := Lib.hid hO; clear hO; simp only [Act.put, List.setIfInBounds_toArray, List.set_cons_zero, List.set_cons_succ])
  have HU := Lib.hid (rrtext_any (HO.out.rd 1 rfl (R := ⟨0, 0, 0⟩) (Nat.zero_le _)) (by have := HSZ.out; omega))
  rw [← H1.out] at HU
  go_wp2_with fail
  refine HU.out.mono ?_
  rintro x V2 ⟨rfl, hn⟩
  have HL1 := Lib.hid hn.obj.le
  have HB := Lib.hid (HO.out.rstep (R' := R1) 1 rfl hn)
  clear HO hn HU
  have HO := HB
  clear HB
  by_cases hA : R1.no = 0 ∧ nm ≠ mqtt
  · have hq := HQ.out
    rw [if_pos hA] at hq
    have HQ2 := Lib.hid hq
    have hne : (nm.toList == [77, 81, 84, 84]) = false := by
      rw [show ([77, 81, 84, 84] : List UInt8) = mqtt.toList from by decide +kernel, eq_text]
      exact decide_eq_false hA.2
    have HRE := Lib.hid (HO.out.get 1 rfl)
    rw [hA.1] at HRE
    clear hq HQ hA
    go_wp2_with (first | (refine wpo_ldc HRE.out tyE _ rfl rfl rfl rfl ?_) | (refine wpo_store (k := k3) HO.out 0 tyX rfl _ _ rfl rfl rfl rfl rfl rfl rfl ?_; clear HO; rintro W4 hO; have HO := Lib.hid hO; clear hO; simp only [Act.put]))
    exact bodyPost_ret (v := .tuple #[.int .i64 0, fltV (3, 132, 0)]) (res_own01 0 HO.out tyX rfl rfl rfl rfl rfl) rfl (by rw [HQ2.out]; exact ⟨rfl, own_rr HO.out 1 rfl HL1.out⟩)
  · have hq := HQ.out
    rw [if_neg hA] at hq
    have HQ2 := Lib.hid hq
    clear hq HQ
    have hor : R1.no ≠ 0 ∨ nm = mqtt := by
      by_cases h0 : R1.no = 0
      · exact .inr (Classical.byContradiction fun h => hA ⟨h0, h⟩)
      · exact .inl h0
    clear hA
    by_cases h0 : R1.no = 0
    case neg =>
      have hq := HQ2.out
      have HQ3 := Lib.hid (show q = (⟨R1.no, 129, R1.ea⟩, 0, R1) by rw [hq, rNum_stuck h0]; simp only; rw [if_neg (fun h => h0 h.1), rNum_stuck h0]; simp only; rw [if_pos (by decide), if_neg h0])
      have hi : ¬ (R1.no : Int) = 0 := by omega
      have hib : ((R1.no : Int) == 0) = false := by rw [beq_eq_false_iff_ne]; exact hi
      clear hq HQ2 hor
      have HU := Lib.hid (rru8_any (HO.out.rd 1 rfl (R := R1) HL1.out) (by have := HSZ.out; omega))
      rw [rNum_stuck h0] at HU
      go_wp2_with (first | (refine wpo_ldc (HO.out.get 1 rfl) tyE _ rfl rfl rfl rfl ?_))
      refine HU.out.mono ?_
      rintro x V5 ⟨rfl, hn⟩
      have HL5 := Lib.hid hn.obj.le
      have HB := Lib.hid (HO.out.rstep (R' := R1) 1 rfl hn)
      clear HO hn HU
      have HO := HB
      clear HB
      have HU := Lib.hid (rru8_any (HO.out.rd 1 rfl (R := R1) HL1.out) (by have := HSZ.out; omega))
      rw [rNum_stuck h0] at HU
      go_wp2_with (first | (refine wpo_ldc (HO.out.get 1 rfl) tyE _ rfl rfl rfl rfl ?_))
      refine HU.out.mono ?_
      rintro x V6 ⟨rfl, hn⟩
      have HL6 := Lib.hid hn.obj.le
      have HB := Lib.hid (HO.out.rstep (R' := R1) 1 rfl hn)
      clear HO hn HU
      have HO := HB
      clear HB
      have HHO := Lib.hid (show ofR (dnR s R1) = (R1.no, 129, R1.ea) by unfold dnR; rw [if_neg h0]; unfold ofR; rw [if_neg h0])
      have HOF := Lib.hid (rrof_any (HO.out.rd 1 rfl (R := R1) HL1.out))
      rw [HHO.out, show fltV (R1.no, 129, R1.ea) = .agg #[.int .i64 (R1.no : Int), .int .i64 (129 : Int), .int .i64 (R1.ea : Int)] from rfl] at HOF
      go_wp2_with (refine wpo_ldc (HO.out.get 1 rfl) tyE _ rfl rfl rfl rfl ?_)
      refine HOF.out.mono ?_
      rintro x V9 ⟨rfl, hb⟩
      have HB := Lib.hid (HO.out.below hb)
      clear HO hb HOF
      have HO := HB
      clear HB
      go_wp2_with (refine wpo_store (k := k3) HO.out 0 tyX rfl _ _ rfl rfl rfl rfl rfl rfl rfl ?_; clear HO; rintro W4 hO; have HO := Lib.hid hO; clear hO; simp only [Act.put])
      exact bodyPost_ret (v := .tuple #[.int .i64 0, fltV (R1.no, 129, R1.ea)]) (res_own01 0 HO.out tyX rfl rfl rfl rfl rfl) rfl (by rw [HQ3.out]; exact ⟨rfl, own_rr HO.out 1 rfl HL1.out⟩)
    case pos =>
      have hnm : (nm.toList == [77, 81, 84, 84]) = true := by
        rw [show ([77, 81, 84, 84] : List UInt8) = mqtt.toList from by decide +kernel, eq_text]
        exact decide_eq_true (hor.resolve_left (fun h => h h0))
      have HRE := Lib.hid (HO.out.get 1 rfl)
      rw [h0] at HRE
      clear hor h0
      obtain ⟨⟨ver, R2⟩, h2⟩ : ∃ V, V = rNum s 1 R1 := ⟨_, rfl⟩
      have hq := HQ2.out
      rw [← h2] at hq
      simp only at hq
      have HQ3 := Lib.hid hq
      have H2 := Lib.hid h2
      clear hq HQ2 h2
      have HU := Lib.hid (rru8_any (HO.out.rd 1 rfl (R := R1) HL1.out) (by have := HSZ.out; omega))
      rw [← H2.out] at HU
      go_wp2_with (first | (refine wpo_ldc HRE.out tyE _ rfl rfl rfl rfl ?_))
      refine HU.out.mono ?_
      rintro x V5 ⟨rfl, hn⟩
      have HL5 := Lib.hid hn.obj.le
      have HB := Lib.hid (HO.out.rstep (R' := R2) 1 rfl hn)
      clear HO hn HU
      have HO := HB
      clear HB
      clear HRE hnm
      by_cases hA : R2.no = 0 ∧ ver ≠ 5
      · have hq := HQ3.out
        rw [if_pos hA] at hq
        have HQ4 := Lib.hid hq
        have hi : ¬ (ver : Int) = 5 := by have := hA.2; omega
        have hib : ((ver : Int) == 5) = false := by rw [beq_eq_false_iff_ne]; exact hi
        have HRE := Lib.hid (HO.out.get 1 rfl)
        rw [hA.1] at HRE
        clear hq HQ3 hA
        go_wp2_with (first | (refine wpo_ldc HRE.out tyE _ rfl rfl rfl rfl ?_) | (refine wpo_store (k := k3) HO.out 0 tyX rfl _ _ rfl rfl rfl rfl rfl rfl rfl ?_; clear HO; rintro W4 hO; have HO := Lib.hid hO; clear hO; simp only [Act.put]))
        exact bodyPost_ret (v := .tuple #[.int .i64 0, fltV (3, 132, 6)]) (res_own01 0 HO.out tyX rfl rfl rfl rfl rfl) rfl (by rw [HQ4.out]; exact ⟨rfl, own_rr HO.out 1 rfl HL5.out⟩)
      · have hq := HQ3.out
        rw [if_neg hA] at hq
        have HQ4 := Lib.hid hq
        clear hq HQ3
        by_cases h0 : R2.no = 0
        case neg =>
          have hq := HQ4.out
          have HQ3 := Lib.hid (show q = (⟨R2.no, 129, R2.ea⟩, 0, R2) by rw [hq, rNum_stuck h0]; simp only; rw [if_pos (by decide), if_neg h0])
          have hi : ¬ (R2.no : Int) = 0 := by omega
          have hib : ((R2.no : Int) == 0) = false := by rw [beq_eq_false_iff_ne]; exact hi
          clear hq HQ4 hA
          have HU := Lib.hid (rru8_any (HO.out.rd 1 rfl (R := R2) HL5.out) (by have := HSZ.out; omega))
          rw [rNum_stuck h0] at HU
          go_wp2_with (first | (refine wpo_ldc (HO.out.get 1 rfl) tyE _ rfl rfl rfl rfl ?_))
          refine HU.out.mono ?_
          rintro x V6 ⟨rfl, hn⟩
          have HL6 := Lib.hid hn.obj.le
          have HB := Lib.hid (HO.out.rstep (R' := R2) 1 rfl hn)
          clear HO hn HU
          have HO := HB
          clear HB
          have HHO := Lib.hid (show ofR (dnR s R2) = (R2.no, 129, R2.ea) by unfold dnR; rw [if_neg h0]; unfold ofR; rw [if_neg h0])
          have HOF := Lib.hid (rrof_any (HO.out.rd 1 rfl (R := R2) HL5.out))
          rw [HHO.out, show fltV (R2.no, 129, R2.ea) = .agg #[.int .i64 (R2.no : Int), .int .i64 (129 : Int), .int .i64 (R2.ea : Int)] from rfl] at HOF
          go_wp2_with (refine wpo_ldc (HO.out.get 1 rfl) tyE _ rfl rfl rfl rfl ?_)
          refine HOF.out.mono ?_
          rintro x V9 ⟨rfl, hb⟩
          have HB := Lib.hid (HO.out.below hb)
          clear HO hb HOF
          have HO := HB
          clear HB
          go_wp2_with (refine wpo_store (k := k3) HO.out 0 tyX rfl _ _ rfl rfl rfl rfl rfl rfl rfl ?_; clear HO; rintro W4 hO; have HO := Lib.hid hO; clear hO; simp only [Act.put])
          exact bodyPost_ret (v := .tuple #[.int .i64 0, fltV (R2.no, 129, R2.ea)]) (res_own01 0 HO.out tyX rfl rfl rfl rfl rfl) rfl (by rw [HQ3.out]; exact ⟨rfl, own_rr HO.out 1 rfl HL5.out⟩)
        case pos =>
          have h5 : ver = 5 := Classical.byContradiction fun h => hA ⟨h0, h⟩
          subst h5
          have HRE := Lib.hid (HO.out.get 1 rfl)
          rw [h0] at HRE
          have hf0 := rNum_fail0 (s := s) h0
          have hlt := num1_ltR s R2
          clear hA
          obtain ⟨⟨n, R3⟩, h3⟩ : ∃ V, V = rNum s 1 R2 := ⟨_, rfl⟩
          have hq := HQ4.out
          rw [← h3] at hq hf0 hlt
          simp only at hq hf0 hlt
          have HQ3 := Lib.hid hq
          have H3 := Lib.hid h3
          have HLT := Lib.hid hlt
          have HF0 := Lib.hid hf0
          clear hq HQ4 h3 hlt hf0 h0
          have HU := Lib.hid (rru8_any (HO.out.rd 1 rfl (R := R2) HL5.out) (by have := HSZ.out; omega))
          rw [← H3.out] at HU
          go_wp2_with (first | (refine wpo_ldc HRE.out tyE _ rfl rfl rfl rfl ?_))
          refine HU.out.mono ?_
          rintro x V6 ⟨rfl, hn⟩
          have HL6 := Lib.hid hn.obj.le
          have HB := Lib.hid (HO.out.rstep (R' := R3) 1 rfl hn)
          clear HO hn HU
          have HO := HB
          clear HB
          clear HRE
          by_cases h0 : R3.no = 0
          case neg =>
            obtain rfl := HF0.out h0
            have hq := HQ3.out
            rw [if_pos (by decide), if_neg h0] at hq
            have HQ4 := HQ3
            clear HQ3
            have HQ3 := Lib.hid hq
            have hi : ¬ (R3.no : Int) = 0 := by omega
            clear hq HQ4
            have HHO := Lib.hid (show ofR (dnR s R3) = (R3.no, 129, R3.ea) by unfold dnR; rw [if_neg h0]; unfold ofR; rw [if_neg h0])
            have HOF := Lib.hid (rrof_any (HO.out.rd 1 rfl (R := R3) HL6.out))
            rw [HHO.out, show fltV (R3.no, 129, R3.ea) = .agg #[.int .i64 (R3.no : Int), .int .i64 (129 : Int), .int .i64 (R3.ea : Int)] from rfl] at HOF
            go_wp2_with (refine wpo_ldc (HO.out.get 1 rfl) tyE _ rfl rfl rfl rfl ?_)
            refine HOF.out.mono ?_
            rintro x V9 ⟨rfl, hb⟩
            have HB := Lib.hid (HO.out.below hb)
            clear HO hb HOF
            have HO := HB
            clear HB
            go_wp2_with (refine wpo_store (k := k3) HO.out 0 tyX rfl _ _ rfl rfl rfl rfl rfl rfl rfl ?_; clear HO; rintro W4 hO; have HO := Lib.hid hO; clear hO; simp only [Act.put])
            exact bodyPost_ret (v := .tuple #[.int .i64 0, fltV (R3.no, 129, R3.ea)]) (res_own01 0 HO.out tyX rfl rfl rfl rfl rfl) rfl (by rw [HQ3.out]; exact ⟨rfl, own_rr HO.out 1 rfl HL6.out⟩)
          case pos =>
            have hq := HQ3.out
            rw [if_pos h0] at hq
            have HRE := Lib.hid (HO.out.get 1 rfl)
            rw [h0] at HRE
            have hn256 := HLT.out
            clear HQ3 HF0 h0
            go_upto_region 11 with (first | (refine wpo_ldc HRE.out tyE _ rfl rfl rfl rfl ?_))
            obtain ⟨qk, hqk⟩ : ∃ k : Nat, k = n / 8 % 4 := ⟨_, rfl⟩
            have iq : (n : Int) / 8 % 4 = (qk : Int) := by omega
            have hq4 : qk < 4 := by omega
            by_cases m1 : n % 2 = 1
            · have i1 : (n : Int) % 2 = 1 := by omega
              rw [show mayK n = false from by unfold mayK qosK has4 has32; simp; omega] at hq
              rw [if_neg (by decide)] at hq
              have HQ4 := Lib.hid hq
              clear hq hqk
              go_wp2_with fail
              refine (rbad_any 7 _).mono ?_
              rintro x V7 ⟨rfl, hb⟩
              have HB := Lib.hid (HO.out.below hb)
              clear HO hb
              have HO := HB
              clear HB
              go_wp2_with (refine wpo_store (k := k3) HO.out 0 tyX rfl _ _ rfl rfl rfl rfl rfl rfl rfl ?_; clear HO; rintro W4 hO; have HO := Lib.hid hO; clear hO; simp only [Act.put])
              exact bodyPost_ret (v := .tuple #[.int .i64 0, fltV (2, 129, 7)]) (res_own01 0 HO.out tyX rfl rfl rfl rfl rfl) rfl (by rw [HQ4.out]; exact ⟨rfl, own_rr HO.out 1 rfl HL6.out⟩)
            · have i1 : (n : Int) % 2 = 0 := by omega
              by_cases m2 : qk = 3
              · rw [show mayK n = false from by unfold mayK qosK has4 has32; simp; omega] at hq
                rw [if_neg (by decide)] at hq
                subst m2
                have HQ4 := Lib.hid hq
                clear hq hqk
                go_wp2_with fail
                refine (rbad_any 7 _).mono ?_
                rintro x V7 ⟨rfl, hb⟩
                have HB := Lib.hid (HO.out.below hb)
                clear HO hb
                have HO := HB
                clear HB
                go_wp2_with (refine wpo_store (k := k3) HO.out 0 tyX rfl _ _ rfl rfl rfl rfl rfl rfl rfl ?_; clear HO; rintro W4 hO; have HO := Lib.hid hO; clear hO; simp only [Act.put])
                exact bodyPost_ret (v := .tuple #[.int .i64 0, fltV (2, 129, 7)]) (res_own01 0 HO.out tyX rfl rfl rfl rfl rfl) rfl (by rw [HQ4.out]; exact ⟨rfl, own_rr HO.out 1 rfl HL6.out⟩)
              · have i2 : ((qk : Int) == 3) = false := by rw [beq_eq_false_iff_ne]; omega
                have i2p : ¬ (qk : Int) = 3 := by omega
                by_cases m3 : n / 4 % 2 = 1
                · have i3 : (n : Int) / 4 % 2 = 1 := by omega
                  rw [show mayK n = true from by unfold mayK qosK has4 has32; simp; omega] at hq
                  rw [if_pos rfl] at hq
                  have HQ4 := Lib.hid hq
                  clear hq hqk
                  go_wp2_with (first | (refine wpo_store (k := k3) HO.out 0 tyX rfl _ _ rfl rfl rfl rfl rfl rfl rfl ?_; clear HO; rintro W4 hO; have HO := Lib.hid hO; clear hO; simp only [Act.put]) | fail)
                  exact bodyPost_ret (v := .tuple #[.int .i64 n, fltV (0, 0, 0)]) (res_own01 0 HO.out tyX rfl rfl rfl rfl rfl) rfl (by rw [HQ4.out]; exact ⟨rfl, own_rr HO.out 1 rfl HL6.out⟩)
                · have i3 : (n : Int) / 4 % 2 = 0 := by omega
                  by_cases m4 : 0 < qk
                  · have i4 : (0 : Int) < (qk : Int) := by omega
                    rw [show mayK n = false from by unfold mayK qosK has4 has32; simp; omega] at hq
                    rw [if_neg (by decide)] at hq
                    have HQ4 := Lib.hid hq
                    clear hq hqk
                    go_wp2_with fail
                    refine (rbad_any 7 _).mono ?_
                    rintro x V7 ⟨rfl, hb⟩
                    have HB := Lib.hid (HO.out.below hb)
                    clear HO hb
                    have HO := HB
                    clear HB
                    go_wp2_with (refine wpo_store (k := k3) HO.out 0 tyX rfl _ _ rfl rfl rfl rfl rfl rfl rfl ?_; clear HO; rintro W4 hO; have HO := Lib.hid hO; clear hO; simp only [Act.put])
                    exact bodyPost_ret (v := .tuple #[.int .i64 0, fltV (2, 129, 7)]) (res_own01 0 HO.out tyX rfl rfl rfl rfl rfl) rfl (by rw [HQ4.out]; exact ⟨rfl, own_rr HO.out 1 rfl HL6.out⟩)
                  · obtain rfl : qk = 0 := by omega
                    by_cases m5 : n / 32 % 2 = 1
                    · have i5 : (n : Int) / 32 % 2 = 1 := by omega
                      rw [show mayK n = false from by unfold mayK qosK has4 has32; simp; omega] at hq
                      rw [if_neg (by decide)] at hq
                      have HQ4 := Lib.hid hq
                      clear hq hqk
                      go_wp2_with fail
                      refine (rbad_any 7 _).mono ?_
                      rintro x V7 ⟨rfl, hb⟩
                      have HB := Lib.hid (HO.out.below hb)
                      clear HO hb
                      have HO := HB
                      clear HB
                      go_wp2_with (refine wpo_store (k := k3) HO.out 0 tyX rfl _ _ rfl rfl rfl rfl rfl rfl rfl ?_; clear HO; rintro W4 hO; have HO := Lib.hid hO; clear hO; simp only [Act.put])
                      exact bodyPost_ret (v := .tuple #[.int .i64 0, fltV (2, 129, 7)]) (res_own01 0 HO.out tyX rfl rfl rfl rfl rfl) rfl (by rw [HQ4.out]; exact ⟨rfl, own_rr HO.out 1 rfl HL6.out⟩)
                    · have i5 : (n : Int) / 32 % 2 = 0 := by omega
                      rw [show mayK n = true from by unfold mayK qosK has4 has32; simp; omega] at hq
                      rw [if_pos rfl] at hq
                      have HQ4 := Lib.hid hq
                      clear hq hqk
                      go_wp2_with (first | (refine wpo_store (k := k3) HO.out 0 tyX rfl _ _ rfl rfl rfl rfl rfl rfl rfl ?_; clear HO; rintro W4 hO; have HO := Lib.hid hO; clear hO; simp only [Act.put]) | fail)
                      exact bodyPost_ret (v := .tuple #[.int .i64 n, fltV (0, 0, 0)]) (res_own01 0 HO.out tyX rfl rfl rfl rfl rfl) rfl (by rw [HQ4.out]; exact ⟨rfl, own_rr HO.out 1 rfl HL6.out⟩)
end Go.Proofs.YtfkimpcaokgldaaGreatDoor
namespace Go.Proofs.YtfkimpcaokgldaaGreatDoor
set_option maxRecDepth 100000
open Go.ChangeShapes Go.WideShapes Go.RowKit Go.Deep Go.Extern.Stop Go.Stop Go.Extern
theorem ip_lastR : (Tryz.prog.info? 24).map (·.size) = some 6 := by kernel_rfl
section
variable {P : Program} {X : List Nat} {w0 w : World} {L : OL} {k : Nat} {t : TypeId} {old : Array Value} {ops : Array Oper} {rest : List Oper} {op : Oper} {a : Act} {Q : Exit → Act → World → Prop}
def put6 (c : Array Value) (o : Nat) (u0 u1 u2 u3 u4 u5 : Value) : Array Value := (((((c.setIfInBounds o u0).setIfInBounds (o + 1) u1).setIfInBounds (o + 1 + 1) u2).setIfInBounds (o + 1 + 1 + 1) u3).setIfInBounds (o + 1 + 1 + 1 + 1) u4).setIfInBounds (o + 1 + 1 + 1 + 1 + 1) u5
theorem Own.cell2 {i : Nat} {c : Array Value} (h : Own X w0 w (L.set i (k, t, c))) (i0 : L[i]?.isSome = true) (j : Nat) (v : Value) : Own X w0 (w.setCell ⟨k, j, none⟩ v) (L.set i (k, t, c.setIfInBounds j v)) := by
  have hi : i < L.length := by
    rcases Nat.lt_or_ge i L.length with h | h
    · exact h
    · rw [List.getElem?_eq_none h] at i0; cases i0
  have h2 := h.cell i (by rw [List.getElem?_set_self hi]) j v
  rw [List.set_set] at h2
  exact h2
theorem Own.cells6 (h : Own X w0 w L) (i : Nat) (hi : L[i]? = some (k, t, old)) (o : Nat) (u0 u1 u2 u3 u4 u5 : Value) : Own X w0 (w.setCells k o (#[u0, u1, u2, u3, u4, u5] : Array Value).toList) (L.set i (k, t, put6 old o u0 u1 u2 u3 u4 u5)) := by
  have i0 : L[i]?.isSome = true := by rw [hi]; rfl
  exact (((((h.cell i hi o u0).cell2 i0 (o + 1) u1).cell2 i0 (o + 1 + 1) u2).cell2 i0 (o + 1 + 1 + 1) u3).cell2 i0 (o + 1 + 1 + 1 + 1) u4).cell2 i0 (o + 1 + 1 + 1 + 1 + 1) u5
theorem wpo_mid6 (hO : Own X w0 w L) (i : Nat) (o : Nat) {tL : TypeId} (hI : (P.info? tL).map (·.size) = some 6) (hi : L[i]? = some (k, t, old)) {u0 u1 u2 u3 u4 u5 : Value} (x y : Operand) (hgd : op.guard = none) (ho : op.op = .store tL x y)
    (hx : a.eval x = .pointer (some ⟨k, o, none⟩)) (hy : a.eval y = .agg #[u0, u1, u2, u3, u4, u5]) (hl : o + 6 ≤ old.size) (h1 : (#[u0, u1, u2, u3, u4, u5] : Array Value).all (·.oneCell') = true)
    (h : ∀ W, Own X w0 W (L.set i (k, t, put6 old o u0 u1 u2 u3 u4 u5)) → wpList P ops Q rest (a.put op.dst undef) W) : wpList P ops Q (op :: rest) a w :=
  wpList_store_mid hgd tL x y ho k o #[u0, u1, u2, u3, u4, u5] hx hy (fun j hj => by
    have hj : j < 6 := hj
    refine ⟨?_, (hO.get i hi).frozen _⟩
    rw [(hO.get i hi).cell (o + j), Array.getElem?_eq_getElem (by omega)]
    rfl) hI h1 (h _ (hO.cells6 i hi o u0 u1 u2 u3 u4 u5))
end
end Go.Proofs.YtfkimpcaokgldaaGreatDoor
namespace Go.Proofs.YtfkimpcaokgldaaGreatDoor
set_option maxRecDepth 100000
open Go.ChangeShapes Go.WideShapes Go.RowKit Go.Deep Go.Extern.Stop Go.Stop Go.Extern
theorem rbuilt8 {z y : Array Value} (hz : z = pk0.cells pa0) {b2 bu bp : Bool} (hy : y = (((z.setIfInBounds 0 (.int .i64 1)).setIfInBounds 4 (.bool b2)).setIfInBounds 13 (.bool bu)).setIfInBounds 15 (.bool bp)) :
    Tryz.prog.built 29 [(0, .int .i64 1), (4, .bool b2), (8, .bool bu), (10, .bool bp)] = some y := by rw [hy, hz]; rfl
/-- A Connect's cells while it is read. -/
structure PkY (y : Array Value) (bu bp : Bool) : Prop where
  size : y.size = 26
  one : y.toList.all (·.oneCell') = true
  c13 : y[13]? = some (.bool bu)
  c15 : y[15]? = some (.bool bp)
theorem PkY.put {y : Array Value} {bu bp : Bool} (h : PkY y bu bp) (j : Nat) (v : Value) (h1 : v.oneCell' = true) (n1 : j ≠ 13) (n2 : j ≠ 15) : PkY (y.setIfInBounds j v) bu bp :=
  ⟨by rw [Array.size_setIfInBounds, h.size], one_put h.one _ _ h1, by rw [Array.getElem?_setIfInBounds_ne n1, h.c13], by rw [Array.getElem?_setIfInBounds_ne n2, h.c15]⟩
theorem PkY.made {z y : Array Value} {b2 bu bp : Bool} (hz : z = pk0.cells pa0) (h1 : z.toList.all (·.oneCell') = true) (hy : y = (((z.setIfInBounds 0 (.int .i64 1)).setIfInBounds 4 (.bool b2)).setIfInBounds 13 (.bool bu)).setIfInBounds 15 (.bool bp)) : PkY y bu bp := by
  refine ⟨by rw [hy, hz]; rfl, ?_, by rw [hy, hz]; rfl, by rw [hy, hz]; rfl⟩
  rw [hy]
  exact one_put (one_put (one_put (one_put h1 _ _ rfl) _ _ rfl) _ _ rfl) _ _ rfl
theorem PkY.will {y : Array Value} {bu bp : Bool} (h : PkY y bu bp) (a : ByteArray) (b : ByteArray) (q : Int) (r : Bool) (x : Option Addr) (n c : Nat) : PkY (put6 y 7 (.bool true) (.string a) (.string b) (.int .i64 q) (.bool r) (.slice x n c)) bu bp :=
  (((((h.put 7 (.bool true) rfl (by decide) (by decide)).put 8 (.string a) rfl (by decide) (by decide)).put 9 (.string b) rfl (by decide) (by decide)).put 10 (.int .i64 q) rfl (by decide) (by decide)).put 11 (.bool r) rfl (by decide) (by decide)).put 12 (.slice x n c) rfl (by decide) (by decide)
set_option maxHeartbeats 16000000 in
theorem rdec08_h {w : World} {s : ByteArray} (hs : s.size ≤ 900000) {e0 : Er} {n : Nat} {Rh : RV} (hh : hdK s = (e0, n, Rh)) (hx : ¬ e0.no = 0) : Calls Tryz.prog 35 #[.agg #[.int .i64 16, .string s]] w (RDc w e0) := by
  obtain ⟨z, hT, hz26, hz⟩ := tyP_ex
  obtain ⟨q, hq⟩ : ∃ q, q = (e0 : Er) := ⟨_, rfl⟩
  rw [← hq]
  have HT := Lib.hid hT
  have HZS := Lib.hid hz26
  have HZ := Lib.hid hz
  have HQ2 := Lib.hid hq
  have HH := Lib.hid hh
  have HSZ := Lib.hid hs
  have HO := Lib.hid (Own.start [] w)
  obtain ⟨en, er, ea⟩ := e0
  simp only at hx
  have hxi : ¬ (en : Int) = 0 := by omega
  clear hT hz26 hz hq hh hs hx
  go_enter Tryz.func35, Tryz.ntmps35
  go_upto_region 4 with (first | (refine wpo_box (t := 33) HO.out _ rfl rfl rfl ?_; clear HO; rintro k1 W1 hO; have HO := Lib.hid hO; clear hO; simp only [Act.put, List.setIfInBounds_toArray, List.set_cons_zero, List.set_cons_succ]) | (refine wpo_alloc HT.out HO.out rfl rfl ?_; clear HO; rintro k2 W2 hO; have HO := Lib.hid hO; clear hO; simp only [Act.put, List.setIfInBounds_toArray, List.set_cons_zero, List.set_cons_succ]) | (refine wpo_alloc tyX HO.out rfl rfl ?_; clear HO; rintro k3 W3 hO; have HO := Lib.hid hO; clear hO; simp only [Act.put, List.setIfInBounds_toArray, List.set_cons_zero, List.set_cons_succ]) | (refine wpo_ldc (HO.out.get 2 rfl) tyI _ rfl rfl rfl rfl ?_) | (refine wpo_box (t := 132) HO.out _ rfl rfl rfl ?_; clear HO; rintro k4 W4 hO; have HO := Lib.hid hO; clear hO; simp only [Act.put, List.setIfInBounds_toArray, List.set_cons_zero, List.set_cons_succ]) | (refine wpo_ldc (HO.out.get 2 rfl) tyS _ rfl rfl rfl rfl ?_))
  have HU := Lib.hid (rhead08 (HO.out.rd 0 rfl (R := ⟨0, 0, 0⟩) (Nat.zero_le _)) HSZ.out)
  rw [HH.out] at HU
  go_wp2_with fail
  refine HU.out.mono ?_
  rintro x V5 ⟨rfl, hn⟩
  have HL5 := Lib.hid hn.obj.le
  have HB := Lib.hid (HO.out.rstep (R' := Rh) 0 rfl hn)
  clear HO hn HU
  have HO := HB
  clear HB
  simp only [fltV]
  go_upto_region 6 with (first | (refine wpo_alloc tyX HO.out rfl rfl ?_; clear HO; rintro k6A W6A hO; have HO := Lib.hid hO; clear hO; simp only [Act.put, List.setIfInBounds_toArray, List.set_cons_zero, List.set_cons_succ]) | (refine wpo_store (k := k6A) HO.out 0 tyX rfl _ _ rfl rfl rfl rfl rfl rfl rfl ?_; clear HO; rintro W7A hO; have HO := Lib.hid hO; clear hO; simp only [Act.put]) | (refine wpo_ldc (HO.out.get 0 rfl) tyE _ rfl rfl rfl rfl ?_))
  refine wpo_y2 (yA := (k2, 29, z)) (yB := (k3, 40, #[.int .i64 (en : Int), .int .i64 (er : Int), .int .i64 (ea : Int)])) [(31, .agg z), (32, .agg #[.int .i64 (en : Int), .int .i64 (er : Int), .int .i64 (ea : Int)])] 3 2 mixed (by kernel_rfl) HO.out rfl rfl (by decide) (fun _ _ _ _ _ h => h) ?_ rfl rfl ?_ ?_ ?_
  · refine ⟨⟨_, rfl, rfl, yo_zero rfl HT.out rfl⟩, ?_⟩
    simp only [Act.put, List.setIfInBounds_toArray, List.set_cons_zero, List.set_cons_succ]
    refine ⟨⟨_, rfl, rfl, yo_load rfl tyX (fun _ h => h.get 0 (by decide) (by decide) rfl) rfl _ rfl rfl⟩, ?_⟩
    exact trivial
  · simp only [putD, Act.put, List.setIfInBounds_toArray, List.set_cons_zero, List.set_cons_succ]
    exact sto_row HT.out _ _ rfl rfl rfl rfl rfl rfl rfl HT.out.one
  · simp only [putD, Act.put, List.setIfInBounds_toArray, List.set_cons_zero, List.set_cons_succ]
    exact sto_row tyX _ _ rfl rfl rfl rfl rfl rfl rfl rfl
  intro WjF hO
  clear HO
  have HO := Lib.hid hO
  clear hO
  simp only [putD, Act.put, List.setIfInBounds_toArray, List.set_cons_zero, List.set_cons_succ]
  go_wp2_with fail
  exact bodyPost_ret (v := .tuple #[.agg z, fltV (en, er, ea)]) (res_own2 3 2 HO.out HT.out tyX rfl rfl rfl rfl rfl rfl rfl) rfl ⟨z, HZS.out, HT.out.one, by rw [HQ2.out] <;> rfl, HO.out.bel⟩
set_option maxHeartbeats 16000000 in
theorem rdec08_p {w : World} {s : ByteArray} (hs : s.size ≤ 900000) {e0 : Er} {n : Nat} {Rh : RV} (hh : hdK s = (e0, n, Rh)) (hn : n < 256) (hx : e0.no = 0) {kp : Nat} {Rk : RV} (hk : rNum s 2 Rh = (kp, Rk)) {rn : Nat} {rr : Int} {ra : Nat} {rL : PL} {Rp : RV} (hF : readF 1 s Rk = (⟨rn, rr, ra, rL⟩, Rp)) {bu bp : Bool} (hbu : ((n : Int) / 128 == 1) = bu) (hbp : ((n : Int) / 64 % 2 == 1) = bp) (hy : ¬ rn = 0) : Calls Tryz.prog 35 #[.agg #[.int .i64 16, .string s]] w (RDc w ⟨rn, rr, ra⟩) := by
  obtain ⟨z, hT, hz26, hz⟩ := tyP_ex
  obtain ⟨q, hq⟩ : ∃ q, q = (⟨rn, rr, ra⟩ : Er) := ⟨_, rfl⟩
  rw [← hq]
  have HT := Lib.hid hT
  have HZS := Lib.hid hz26
  have HZ := Lib.hid hz
  have HQ2 := Lib.hid hq
  have HH := Lib.hid hh
  have HSZ := Lib.hid hs
  have HO := Lib.hid (Own.start [] w)
  obtain ⟨en, er, ea⟩ := e0
  simp only at hx
  have HYN := Lib.hid hy
  clear hy
  subst hx
  have HK := Lib.hid hk
  have HF := Lib.hid hF
  have HBU := Lib.hid hbu
  have HBP := Lib.hid hbp
  clear hT hz26 hz hq hh hs hk hF hbu hbp
  obtain ⟨b2, hb2⟩ : ∃ b : Bool, b = ((n : Int) / 2 % 2 == 1) := ⟨_, rfl⟩
  replace hb2 := hb2.symm
  obtain ⟨y, hy⟩ : ∃ y, y = (((z.setIfInBounds 0 (.int .i64 1)).setIfInBounds 4 (.bool b2)).setIfInBounds 13 (.bool bu)).setIfInBounds 15 (.bool bp) := ⟨_, rfl⟩
  have HBY := Lib.hid (rbuilt8 HZ.out hy)
  have HY := Lib.hid (PkY.made HZ.out HT.out.one hy)
  have HYS := Lib.hid (HY.out.size.trans HZS.out.symm)
  have HBK := Lib.hid hb2
  have HN256 := Lib.hid hn
  clear hb2 hy hn
  go_enter Tryz.func35, Tryz.ntmps35
  go_upto_region 4 with (first | (refine wpo_box (t := 33) HO.out _ rfl rfl rfl ?_; clear HO; rintro k1 W1 hO; have HO := Lib.hid hO; clear hO; simp only [Act.put, List.setIfInBounds_toArray, List.set_cons_zero, List.set_cons_succ]) | (refine wpo_alloc HT.out HO.out rfl rfl ?_; clear HO; rintro k2 W2 hO; have HO := Lib.hid hO; clear hO; simp only [Act.put, List.setIfInBounds_toArray, List.set_cons_zero, List.set_cons_succ]) | (refine wpo_alloc tyX HO.out rfl rfl ?_; clear HO; rintro k3 W3 hO; have HO := Lib.hid hO; clear hO; simp only [Act.put, List.setIfInBounds_toArray, List.set_cons_zero, List.set_cons_succ]) | (refine wpo_ldc (HO.out.get 2 rfl) tyI _ rfl rfl rfl rfl ?_) | (refine wpo_box (t := 132) HO.out _ rfl rfl rfl ?_; clear HO; rintro k4 W4 hO; have HO := Lib.hid hO; clear hO; simp only [Act.put, List.setIfInBounds_toArray, List.set_cons_zero, List.set_cons_succ]) | (refine wpo_ldc (HO.out.get 2 rfl) tyS _ rfl rfl rfl rfl ?_))
  have HU := Lib.hid (rhead08 (HO.out.rd 0 rfl (R := ⟨0, 0, 0⟩) (Nat.zero_le _)) HSZ.out)
  rw [HH.out] at HU
  go_wp2_with fail
  refine HU.out.mono ?_
  rintro x V5 ⟨rfl, hn⟩
  have HL5 := Lib.hid hn.obj.le
  have HB := Lib.hid (HO.out.rstep (R' := Rh) 0 rfl hn)
  clear HO hn HU
  have HO := HB
  clear HB
  simp only [fltV]
  go_upto_region 7 with (first | (refine wpo_alloc tyX HO.out rfl rfl ?_; clear HO; rintro k6A W6A hO; have HO := Lib.hid hO; clear hO; simp only [Act.put, List.setIfInBounds_toArray, List.set_cons_zero, List.set_cons_succ]) | (refine wpo_store (k := k6A) HO.out 0 tyX rfl _ _ rfl rfl rfl rfl rfl rfl rfl ?_; clear HO; rintro W7A hO; have HO := Lib.hid hO; clear hO; simp only [Act.put]) | (refine wpo_ldc (HO.out.get 0 rfl) tyE _ rfl rfl rfl rfl ?_))
  have hb2 := HBK.out
  have hbu := HBU.out
  have hbp := HBP.out
  have hn := HN256.out
  go_upto_region 8 with (first | (refine wpo_built HBY.out rfl rfl rfl ?_) | (refine wpo_alloc HT.out HO.out rfl rfl ?_; clear HO; rintro k7 W8 hO; have HO := Lib.hid hO; clear hO; simp only [Act.put, List.setIfInBounds_toArray, List.set_cons_zero, List.set_cons_succ]) | (refine wpo_store (k := k7) HO.out 0 HT.out rfl _ _ rfl rfl rfl rfl rfl HYS.out HY.out.one ?_; clear HO; rintro W9 hO; have HO := Lib.hid hO; clear hO; simp only [Act.put]))
  clear hb2 hbu hbp
  have HU := Lib.hid (rru16_any (HO.out.rd 2 rfl (R := Rh) HL5.out) (by have := HSZ.out; omega))
  rw [HK.out] at HU
  go_wp2_with fail
  refine HU.out.mono ?_
  rintro x V8 ⟨rfl, hn⟩
  have HL8 := Lib.hid hn.obj.le
  have HB := Lib.hid (HO.out.rstep (R' := Rk) 2 rfl hn)
  clear HO hn HU
  have HO := HB
  clear HB
  go_upto_region 9 with (refine wpo_cell (v := .int .i64 (kp : Int)) HO.out 0 5 tyI.ip rfl _ _ rfl rfl rfl rfl (by rw [HY.out.size]; decide) rfl ?_; clear HO; rintro W10 hO; have HO := Lib.hid hO; clear hO; simp only [Act.put])
  have HY2 := Lib.hid (HY.out.put 5 (.int .i64 (kp : Int)) rfl (by decide) (by decide))
  have HRD := Lib.hid (rread_any (HO.out.rd 2 rfl (R := Rk) HL8.out) HSZ.out 1)
  rw [HF.out] at HRD
  go_wp2_with fail
  refine HRD.out.mono ?_
  rintro x V11 ⟨v5, rfl, hv5, hn1⟩
  have HL11 := Lib.hid hn1.obj.le
  have HB := Lib.hid (HO.out.rstep (R' := Rp) 2 rfl hn1)
  clear HO hn1 HRD
  have HO := HB
  clear HB
  obtain ⟨a5, n5, c5, rfl, -, -⟩ := hv5.some_form
  clear hv5
  have hyi : ¬ (rn : Int) = 0 := by have := HYN.out; omega
  go_upto_region 11 with (first | (refine wpo_alloc tyX HO.out rfl rfl ?_; clear HO; rintro k6B W6B hO; have HO := Lib.hid hO; clear hO; simp only [Act.put, List.setIfInBounds_toArray, List.set_cons_zero, List.set_cons_succ]) | (refine wpo_store (k := k6B) HO.out 0 tyX rfl _ _ rfl rfl rfl rfl rfl rfl rfl ?_; clear HO; rintro W7B hO; have HO := Lib.hid hO; clear hO; simp only [Act.put]) | (refine wpo_ldc (HO.out.get 0 rfl) tyE _ rfl rfl rfl rfl ?_))
  refine wpo_y2 (yA := (k2, 29, z)) (yB := (k3, 40, #[.int .i64 (rn : Int), .int .i64 (rr : Int), .int .i64 (ra : Int)])) [(56, .agg z), (57, .agg #[.int .i64 (rn : Int), .int .i64 (rr : Int), .int .i64 (ra : Int)])] 5 4 mixed (by kernel_rfl) HO.out rfl rfl (by decide) (fun _ _ _ _ _ h => h) ?_ rfl rfl ?_ ?_ ?_
  · refine ⟨⟨_, rfl, rfl, yo_zero rfl HT.out rfl⟩, ?_⟩
    simp only [Act.put, List.setIfInBounds_toArray, List.set_cons_zero, List.set_cons_succ]
    refine ⟨⟨_, rfl, rfl, yo_load rfl tyX (fun _ h => h.get 0 (by decide) (by decide) rfl) rfl _ rfl rfl⟩, ?_⟩
    exact trivial
  · simp only [putD, Act.put, List.setIfInBounds_toArray, List.set_cons_zero, List.set_cons_succ]
    exact sto_row HT.out _ _ rfl rfl rfl rfl rfl rfl rfl HT.out.one
  · simp only [putD, Act.put, List.setIfInBounds_toArray, List.set_cons_zero, List.set_cons_succ]
    exact sto_row tyX _ _ rfl rfl rfl rfl rfl rfl rfl rfl
  intro WjF hO
  clear HO
  have HO := Lib.hid hO
  clear hO
  simp only [putD, Act.put, List.setIfInBounds_toArray, List.set_cons_zero, List.set_cons_succ]
  go_wp2_with fail
  exact bodyPost_ret (v := .tuple #[.agg z, fltV (rn, rr, ra)]) (res_own2 5 4 HO.out HT.out tyX rfl rfl rfl rfl rfl rfl rfl) rfl ⟨z, HZS.out, HT.out.one, by rw [HQ2.out] <;> rfl, HO.out.bel⟩
end Go.Proofs.YtfkimpcaokgldaaGreatDoor

/- What is proved here: the flags that package connect writes are what a plain function says. Conditions: a will's QoS has two bits. What is proved here: head and malformed of package connect tell what plain functions say. Conditions: few bytes; what the rows list of the package's variables. What is proved here: what making and storing a whole will does, as laws for a walk; will of package connect tells what a plain function says. Conditions: the reader is there, with few bytes; what the rows list of the package's variables. What is proved here: Decode of package connect tells what a plain function says. Conditions: few bytes; what the rows list of the package's variables. -/
import Derived.Test.YtfkimpcaokgldaaGreatDoorFra08
import Derived.Test.YtfkimpcaokgldaaGreatDoorDcj08
import Derived.Deep.DeepCutAuto
namespace Go.Proofs.YtfkimpcaokgldaaGreatDoor
set_option maxRecDepth 100000
open Go.ChangeShapes Go.WideShapes Go.RowKit Go.Deep Go.Extern.Stop Go.Stop Go.Extern
set_option maxHeartbeats 32000000 in
theorem flg08 (A : PkA) (p : Pk) (hp : p.wHas = true → 0 ≤ p.wQos ∧ p.wQos ≤ 3) (w : World) : Calls Tryz.prog 25 #[p.agg A] w fun x w' => x = .returned (.int .i64 (flK p : Nat)) ∧ Below w.heap.size w w' := by
  obtain ⟨c, hc⟩ : ∃ c, c = p.cells A := ⟨_, rfl⟩
  rw [show p.agg A = .agg c from by rw [hc]; rfl]
  have HCS := Lib.hid (show c.size = 26 by rw [hc]; rfl)
  have hc4 : c[4]? = some (.bool p.clean) := by rw [hc]; rfl
  have hc7 : c[7]? = some (.bool p.wHas) := by rw [hc]; rfl
  have hc10 : c[10]? = some (.int .i64 p.wQos) := by rw [hc]; rfl
  have hc11 : c[11]? = some (.bool p.wRetain) := by rw [hc]; rfl
  have hc13 : c[13]? = some (.bool p.hasUser) := by rw [hc]; rfl
  have hc15 : c[15]? = some (.bool p.hasPass) := by rw [hc]; rfl
  unfold flK
  obtain ⟨W2, hW2⟩ : ∃ W, W = w.alloc (.cells c 29) := ⟨_, rfl⟩
  have hb2 : Below w.heap.size w W2 := by rw [hW2]; exact (Below.refl _ _).alloc (Nat.le_refl _) _
  have r0 : Blk W2 w.heap.size 29 c := by rw [hW2]; exact Blk.made w _ c
  have k4 := (r0.cell 4).trans hc4
  have k7 := (r0.cell 7).trans hc7
  have k10 := (r0.cell 10).trans hc10
  have k11 := (r0.cell 11).trans hc11
  have k13 := (r0.cell 13).trans hc13
  have k15 := (r0.cell 15).trans hc15
  generalize p.clean = cl at *
  generalize p.wHas = hs at *
  generalize p.wQos = q at *
  generalize p.wRetain = rt at *
  generalize p.hasUser = us at *
  generalize p.hasPass = ps at *
  have HB2 := Lib.hid hb2
  rw [hW2] at k4 k7 k10 k11 k13 k15 HB2
  clear hc hc4 hc7 hc10 hc11 hc13 hc15 hb2 r0 hW2
  cases hs
  · have e : fgK cl false q.toNat rt ps us = (if cl then 2 else 0) + 0 + (if ps then 64 else 0) + (if us then 128 else 0) := rfl
    rw [e]
    clear hp e
    cases cl <;> cases ps <;> cases us
    all_goals
      go_enter Tryz.func25, Tryz.ntmps25
      go_wp2_with (refine wpk_box HCS.out _ rfl rfl rfl ?_)
      go_ret
      exact ⟨rfl, HB2.out⟩
  · have hq := hp rfl
    obtain rfl | rfl | rfl | rfl : q = 0 ∨ q = 1 ∨ q = 2 ∨ q = 3 := by omega
    all_goals
      clear hp hq
      cases rt <;> cases cl <;> cases ps <;> cases us
      all_goals
        go_enter Tryz.func25, Tryz.ntmps25
        go_wp2_with (refine wpk_box HCS.out _ rfl rfl rfl ?_)
        go_ret
        exact ⟨rfl, HB2.out⟩
end Go.Proofs.YtfkimpcaokgldaaGreatDoor
namespace Go.Proofs.YtfkimpcaokgldaaGreatDoor
set_option maxRecDepth 100000
open Go.ChangeShapes Go.WideShapes Go.RowKit Go.Deep Go.Extern.Stop Go.Stop Go.Extern
theorem bk_1 : ∀ f : Nat, f < 256 → bits BinOp.and IntKind.i64 (f : Int) 1 = ((f % 2 : Nat) : Int) := by decide +kernel
theorem bk_q : ∀ f : Nat, f < 256 → bits BinOp.and IntKind.i64 ((f : Int) / 8) 3 = ((qosK f : Nat) : Int) := by decide +kernel
theorem bk_2 : ∀ f : Nat, f < 256 → bits BinOp.and IntKind.i64 (f : Int) 2 = if has2 f then 2 else 0 := by decide +kernel
theorem bk_4 : ∀ f : Nat, f < 256 → bits BinOp.and IntKind.i64 (f : Int) 4 = if has4 f then 4 else 0 := by decide +kernel
theorem bk_32 : ∀ f : Nat, f < 256 → bits BinOp.and IntKind.i64 (f : Int) 32 = if has32 f then 32 else 0 := by decide +kernel
theorem bk_64 : ∀ f : Nat, f < 256 → bits BinOp.and IntKind.i64 (f : Int) 64 = if has64 f then 64 else 0 := by decide +kernel
theorem bk_128 : ∀ f : Nat, f < 256 → bits BinOp.and IntKind.i64 (f : Int) 128 = if has128 f then 128 else 0 := by decide +kernel
theorem num1_lt (s : ByteArray) (R : RV) : (rNum s 1 R).1 < 256 := by
  have h := bv_lt (rTake s 1 R).1.data.toList
  have h2 := take_size s 1 R
  rw [bLen] at h
  have h3 : 256 ^ (rTake s 1 R).1.size ≤ 256 ^ 1 := Nat.pow_le_pow_right (by decide) h2
  exact Nat.lt_of_lt_of_le h h3
section
variable {w w' z' W : World} {S : Nat → Addr} {s : ByteArray} {g : Nat}
def MkSays (w : World) (S : Nat → Addr) (a : Nat) (x : Ending) (w' : World) : Prop := ∃ e, x = .returned e ∧ ErrOf w' S 129 2 a e ∧ Below w.heap.size w w'
theorem mal08 (hE : Env w S) (a : Nat) : Calls Tryz.prog 21 #[.int .i64 a] w (MkSays w S a) := by
  have kM := hE.kMalformed
  have HN := Lib.hid (new_err (w := w) S 1 129 a)
  clear hE
  go_enter Tryz.func21, Tryz.ntmps21
  go_wp2_with fail
  refine HN.out.mono ?_
  rintro x w1 ⟨e, rfl, he, hb⟩
  have HX := Lib.hid (show MkSays w S a (.returned e) w1 from ⟨e, rfl, ErrOf.some (no := 2) (by decide) (by decide) he, hb⟩)
  clear he hb HN kM
  go_wp2_with fail
  go_ret
  exact HX.out
set_option maxHeartbeats 16000000 in
theorem head08 (hE : Env z' S) (hz : Below z'.heap.size z' W) (hg : z'.heap.size ≤ g) (h : RObj W S g s ⟨0, 0, 0⟩) (hs : s.size ≤ 900000) : Calls Tryz.prog 59 #[.pointer (some ⟨g, 0, none⟩)] W (IdSays W S g s (hdK s)) := by
  obtain ⟨q, hq⟩ : ∃ q, q = hdK s := ⟨_, rfl⟩
  rw [← hq]
  unfold hdK hdK2 hdK3 at hq
  have htx := rdtext_any (env_cl hE hz hg) h hs
  obtain ⟨⟨nm, R1⟩, h1⟩ : ∃ V, V = rText s ⟨0, 0, 0⟩ := ⟨_, rfl⟩
  rw [← h1] at htx hq
  simp only at hq
  have HTX := Lib.hid htx
  have HQ := Lib.hid hq
  have HE := Lib.hid hE
  have HZ := Lib.hid hz
  have HSZ := Lib.hid hs
  have HG := Lib.hid hg
  clear htx hq hE hz h hs h1 hg
  go_enter Tryz.func59, Tryz.ntmps59
  go_wp2_with fail
  refine HTX.out.mono ?_
  rintro x w2 ⟨rfl, hn2⟩
  have HN2 := Lib.hid hn2
  have HZ2 := Lib.hid (hn2.later HG.out HZ.out.size HZ.out)
  have HRE := Lib.hid (rerr_any hn2.obj)
  clear hn2 HTX
  go_wp2_with fail
  refine HRE.out.mono ?_
  rintro x w3 ⟨e, rfl, he, rfl⟩
  clear HRE
  by_cases hA : R1.no = 0 ∧ nm ≠ mqtt
  · have hq := HQ.out
    rw [if_pos hA] at hq
    unfold ErrOf at he
    rw [if_pos hA.1] at he
    subst he
    have hne : (nm.toList == [77, 81, 84, 84]) = false := by
      rw [show ([77, 81, 84, 84] : List UInt8) = mqtt.toList from by decide +kernel, eq_text]
      exact decide_eq_false hA.2
    have kP := (HE.out.later HZ2.out).kProtocol
    have HN := Lib.hid (new_err (w := w2) S 2 132 0)
    have HQ2 := Lib.hid hq
    clear hq HQ hA
    go_wp2_with fail
    refine HN.out.mono ?_
    rintro x w4 ⟨e, rfl, he, hb⟩
    have HX := Lib.hid (show IdSays W S g s q (.returned (.tuple #[.int .i64 0, e])) w4 from by
      rw [HQ2.out]
      exact ⟨e, rfl, ErrOf.some (no := 3) (by decide) (by decide) he, HN2.out.below hb⟩)
    clear he hb HN kP
    go_wp2_with fail
    exact bodyPost_ret (v := .tuple #[.int .i64 0, e]) (by simp [results, Tryz.results59, go_sem]) rfl HX.out
  · have hq := HQ.out
    rw [if_neg hA] at hq
    have hu := ru8_any (HE.out.later HZ2.out) HN2.out.obj (by have := HSZ.out; omega)
    obtain ⟨⟨ver, R2⟩, h2⟩ : ∃ V, V = rNum s 1 R1 := ⟨_, rfl⟩
    rw [← h2] at hu hq
    simp only at hq
    have HU := Lib.hid hu
    have HQ2 := Lib.hid hq
    clear hu hq HQ h2
    by_cases h0 : R1.no = 0
    case' pos =>
      obtain rfl : nm = mqtt := by
        by_cases hh : nm = mqtt
        · exact hh
        · exact absurd ⟨h0, hh⟩ hA
      unfold ErrOf at he
      rw [if_pos h0] at he
      subst he
      have heq : (mqtt.toList == [77, 81, 84, 84]) = true := by decide +kernel
      clear hA h0
      go_wp2_with fail
    case' neg =>
      obtain ⟨te, ue, rfl⟩ := err_iface he h0
      clear hA h0 he
      go_wp2_with fail
    all_goals
      refine HU.out.mono ?_
      rintro x w4 ⟨rfl, hn4⟩
      have HN4 := Lib.hid (HN2.out.trans hn4)
      have HZ4 := Lib.hid (hn4.later HG.out HZ2.out.size HZ2.out)
      have HRE := Lib.hid (rerr_any hn4.obj)
      clear hn4 HU HN2 HZ2
      go_wp2_with fail
      refine HRE.out.mono ?_
      rintro x w5 ⟨e, rfl, he, rfl⟩
      clear HRE
      by_cases hA : R2.no = 0 ∧ ver ≠ 5
      · have hq := HQ2.out
        rw [if_pos hA] at hq
        unfold ErrOf at he
        rw [if_pos hA.1] at he
        subst he
        have hne : ¬ (ver : Int) = 5 := by have := hA.2; omega
        have kP := (HE.out.later HZ4.out).kProtocol
        have HN := Lib.hid (new_err (w := w4) S 2 132 6)
        have HQ3 := Lib.hid hq
        clear hq HQ2 hA
        go_wp2_with fail
        refine HN.out.mono ?_
        rintro x w6 ⟨e, rfl, he, hb⟩
        have HX := Lib.hid (show IdSays W S g s q (.returned (.tuple #[.int .i64 0, e])) w6 from by
          rw [HQ3.out]
          exact ⟨e, rfl, ErrOf.some (no := 3) (by decide) (by decide) he, HN4.out.below hb⟩)
        clear he hb HN kP
        go_wp2_with fail
        exact bodyPost_ret (v := .tuple #[.int .i64 0, e]) (by simp [results, Tryz.results59, go_sem]) rfl HX.out
      · have hq := HQ2.out
        rw [if_neg hA] at hq
        have hu := ru8_any (HE.out.later HZ4.out) HN4.out.obj (by have := HSZ.out; omega)
        have hlt := num1_lt s R2
        obtain ⟨⟨n, R3⟩, h3⟩ : ∃ V, V = rNum s 1 R2 := ⟨_, rfl⟩
        rw [← h3] at hu hq hlt
        simp only at hq hlt
        have HU := Lib.hid hu
        have HQ3 := Lib.hid hq
        have HLT := Lib.hid hlt
        clear hu hq HQ2 h3 hlt
        by_cases h0 : R2.no = 0
        case' pos =>
          obtain rfl : ver = 5 := by
            by_cases hh : ver = 5
            · exact hh
            · exact absurd ⟨h0, hh⟩ hA
          unfold ErrOf at he
          rw [if_pos h0] at he
          subst he
          clear hA h0
          go_wp2_with fail
        case' neg =>
          obtain ⟨te, ue, rfl⟩ := err_iface he h0
          clear hA h0 he
          go_wp2_with fail
        all_goals
          refine HU.out.mono ?_
          rintro x w6 ⟨rfl, hn6⟩
          have HN6 := Lib.hid (HN4.out.trans hn6)
          have HZ6 := Lib.hid (hn6.later HG.out HZ4.out.size HZ4.out)
          clear hn6 HU HN4 HZ4
          have hn256 : n < 256 := HLT.out
          have b1 := bk_1 n HLT.out
          have bq := bk_q n HLT.out
          have b4 := bk_4 n HLT.out
          have b32 := bk_32 n HLT.out
          obtain ⟨qk, hqk⟩ : ∃ k, k = qosK n := ⟨_, rfl⟩
          have hmk : mayK n = (!decide (n % 2 = 1) && !decide (qk = 3) && (has4 n || (decide (qk = 0) && !has32 n))) := by rw [hqk]; rfl
          rw [← hqk] at bq
          have hq := HQ3.out
          rw [hmk] at hq
          have HK := Lib.hid (show qk < 4 by rw [hqk]; exact Nat.mod_lt _ (by decide))
          clear hqk hmk HQ3
          by_cases hm : (!decide (n % 2 = 1) && !decide (qk = 3) && (has4 n || (decide (qk = 0) && !has32 n))) = true
          · rw [if_pos hm] at hq
            have HQ4 := Lib.hid hq
            simp only [Bool.and_eq_true, Bool.or_eq_true, decide_eq_true_eq, Bool.not_eq_true', decide_eq_false_iff_not] at hm
            obtain ⟨⟨m1, m2⟩, m3⟩ := hm
            have b1' : bits BinOp.and IntKind.i64 (n : Int) 1 = 0 := by rw [b1]; omega
            have HRE := Lib.hid (rerr_any HN6.out.obj)
            have bq3 : ¬ (qk : Int) = 3 := by omega
            have bq3' : ((qk : Int) == 3) = false := beq_eq_false_iff_ne.2 bq3
            clear hq b1 m1 m2
            by_cases h4 : has4 n = true
            case' pos =>
              rw [if_pos h4] at b4
              clear m3 b32 h4
              go_wp2_with fail
            case' neg =>
              rw [if_neg h4] at b4
              have m5 := m3.resolve_left h4
              obtain ⟨m6, m7⟩ := m5
              subst m6
              rw [m7, if_neg (by decide)] at b32
              replace bq : bits BinOp.and IntKind.i64 ((n : Int) / 8) 3 = 0 := bq
              clear m3 m7 h4 bq3 bq3'
              go_wp2_with fail
            all_goals
              refine HRE.out.mono ?_
              rintro x w7 ⟨e, rfl, he, rfl⟩
              have HX := Lib.hid (show IdSays W S g s q (.returned (.tuple #[.int .i64 n, e])) w6 from by
                rw [HQ4.out]
                by_cases h3 : R3.no = 0
                · rw [if_pos h3]
                  unfold ErrOf at he
                  rw [if_pos h3] at he
                  exact ⟨e, rfl, by rw [he]; exact ErrOf.none, HN6.out⟩
                · rw [if_neg h3]
                  exact ⟨e, rfl, he, HN6.out⟩)
              clear he HRE b4 bq b1'
              go_wp2_with fail
              exact bodyPost_ret (v := .tuple #[.int .i64 n, e]) (by simp [results, Tryz.results59, go_sem]) rfl HX.out
          · rw [if_neg hm] at hq
            have HQ4 := Lib.hid hq
            have HML := Lib.hid (mal08 (HE.out.later HZ6.out) 7)
            have hc : n % 2 = 1 ∨ (n % 2 = 0 ∧ qk = 3) ∨ (n % 2 = 0 ∧ qk ≠ 3 ∧ qk ≠ 0 ∧ has4 n = false) ∨ (n % 2 = 0 ∧ qk = 0 ∧ has4 n = false ∧ has32 n = true) := by
              by_cases c1 : n % 2 = 1
              · exact .inl c1
              · have c1' : n % 2 = 0 := by omega
                by_cases c2 : qk = 3
                · exact .inr (.inl ⟨c1', c2⟩)
                · have c4 : has4 n = false := by
                    rcases hh : has4 n with _ | _
                    · rfl
                    · exfalso; apply hm; rw [hh, decide_eq_false c1, decide_eq_false c2]; rfl
                  by_cases c3 : qk = 0
                  · refine .inr (.inr (.inr ⟨c1', c3, c4, ?_⟩))
                    rcases hh : has32 n with _ | _
                    · exfalso; apply hm; rw [hh, c4, decide_eq_false c1, decide_eq_false c2, decide_eq_true c3]; rfl
                    · rfl
                  · exact .inr (.inr (.inl ⟨c1', c2, c3, c4⟩))
            clear hq hm
            rcases hc with c | ⟨c, rfl⟩ | ⟨c, c2, c3, c4⟩ | ⟨c, rfl, c4, c5⟩
            case' inl =>
              have b1' : bits BinOp.and IntKind.i64 (n : Int) 1 = 1 := by rw [b1]; omega
              clear b1 bq b4 b32 c
              go_wp2_with fail
            case' inr.inl =>
              have b1' : bits BinOp.and IntKind.i64 (n : Int) 1 = 0 := by rw [b1]; omega
              replace bq : bits BinOp.and IntKind.i64 ((n : Int) / 8) 3 = 3 := bq
              clear b1 b4 b32 c
              go_wp2_with fail
            case' inr.inr.inl =>
              have b1' : bits BinOp.and IntKind.i64 (n : Int) 1 = 0 := by rw [b1]; omega
              have bq3 : ¬ (qk : Int) = 3 := by omega
              have bq3' : ((qk : Int) == 3) = false := beq_eq_false_iff_ne.2 bq3
              have bq0 : ¬ (qk : Int) = 0 := by omega
              have bq0' : ((qk : Int) == 0) = false := beq_eq_false_iff_ne.2 bq0
              rw [c4, if_neg (by decide)] at b4
              clear b1 b32 c c2 c3 c4
              go_wp2_with fail
            case' inr.inr.inr =>
              have b1' : bits BinOp.and IntKind.i64 (n : Int) 1 = 0 := by rw [b1]; omega
              replace bq : bits BinOp.and IntKind.i64 ((n : Int) / 8) 3 = 0 := bq
              rw [c4, if_neg (by decide)] at b4
              rw [c5, if_pos rfl] at b32
              clear b1 c c4 c5
              go_wp2_with fail
            all_goals
              refine HML.out.mono ?_
              rintro x w7 ⟨e, rfl, he, hb7⟩
              have HX := Lib.hid (show IdSays W S g s q (.returned (.tuple #[.int .i64 0, e])) w7 from by
                rw [HQ4.out]
                exact ⟨e, rfl, he, HN6.out.below hb7⟩)
              clear he hb7 HML
              go_wp2_with fail
              exact bodyPost_ret (v := .tuple #[.int .i64 0, e]) (by simp [results, Tryz.results59, go_sem]) rfl HX.out
end
end Go.Proofs.YtfkimpcaokgldaaGreatDoor
namespace Go.Proofs.YtfkimpcaokgldaaGreatDoor
set_option maxRecDepth 100000
open Go.ChangeShapes Go.WideShapes Go.RowKit Go.Deep Go.Extern.Stop Go.Stop Go.Extern
def lv0 : Array Value := #[.bool false, .string ⟨#[]⟩, .string ⟨#[]⟩, .int .i64 0, .bool false, .slice none 0 0]
theorem ip_last : (Tryz.prog.info? 24).map (·.size) = some 6 := by kernel_rfl
theorem zv_last (w : World) : (zeroValue 24).run Tryz.prog w = .ok (.agg lv0) w :=
  (zero_of_info (P := Tryz.prog) (t := 24) (v := .agg lv0) (n := 6) (by kernel_rfl)).1 w
section
variable {ops : Array Oper} {rest : List Oper} {op : Oper} {a : Act} {w : World} {Q : Exit → Act → World → Prop} {z c old : Array Value} {k : Nat}
theorem wpl_alloc (hz : z = lv0) (hgd : op.guard = none) (ho : op.op = .alloc 24)
    (h : wpList Tryz.prog ops Q rest (a.put op.dst (.pointer (some ⟨w.heap.size, 0, none⟩))) (w.alloc (.cells z 24))) : wpList Tryz.prog ops Q (op :: rest) a w :=
  wpList_plain hgd fun _ hK => by
    subst hz
    unfold Oper.wp execOp
    simp only [ho, Instr.alloc, Sem.run_bind, zv_last, Result.andThen_ok, newVar, nr_pkt, Value.cells, Sem.run_pure]
    exact hK _ _ h
theorem wpl_build (hz : z = lv0) (hgd : op.guard = none) (ho : op.op = .build 24 #[])
    (h : wpList Tryz.prog ops Q rest (a.put op.dst (.agg z)) w) : wpList Tryz.prog ops Q (op :: rest) a w :=
  wpList_build hgd _ _ ho (by kernel_rfl) (by
    have e : Tryz.prog.built 24 [] = some lv0 := by kernel_rfl
    subst hz
    simpa [e] using h)
theorem wpl_store (hb : Blk w k 24 old) (ho' : old.size = 6) (hs : c.size = 6) (h1 : c.all (·.oneCell') = true) (x y : Operand) (hgd : op.guard = none) (ho : op.op = .store 24 x y)
    (hx : a.eval x = .pointer (some ⟨k, 0, none⟩)) (hy : a.eval y = .agg c)
    (h : wpList Tryz.prog ops Q rest (a.put op.dst undef) (w.setRow k c)) : wpList Tryz.prog ops Q (op :: rest) a w :=
  wpList_plain hgd fun _ hK => wp_store_row 24 x y ho k c hx hy 24 old hb (by rw [hs]; exact ip_last) (by rw [ho', hs]) h1 (hK _ _ h)
end
section
variable {w W W' : World} {S : Nat → Addr} {g k B : Nat} {s : ByteArray} {R R' : RV} {c old : Array Value} {r : Int} {no at_ : Nat} {e : Value} {A : Option Addr} {L : PL}
theorem setRow_blkl (hb : Blk w k 24 old) (c : Array Value) : Blk (w.setRow k c) k 24 c := by
  unfold Blk at hb ⊢
  simp [World.setRow, Array.getElem?_modify, hb]
theorem ldv_last (hb : Blk w k 24 c) (hs : c.size = 6) : (loadVar 24 ⟨k, 0, none⟩).run Tryz.prog w = .ok (.agg c) w := by
  have h := run_loadVar_mid (P := Tryz.prog) w k 0 24 c.toList _ (fun j v hv => by
    rw [Nat.zero_add, hb.cell j]
    simpa using hv) Tryz.underlying24 rfl (by rw [Array.length_toList, hs]; exact ip_last)
  simpa using h
theorem res_last8 {fn : Func} {tmps : Array Value} {i j : Nat} (hr : fn.results = #[.cell i 24, .tmp j]) (hi : tmps.getD i undef = .pointer (some ⟨k, 0, none⟩)) {v : Value} (hj : tmps.getD j undef = v) (hb : Blk w k 24 c) (hs : c.size = 6) :
    (results fn tmps).run Tryz.prog w = .ok (.tuple #[.agg c, v]) w := by
  subst hj
  have h := ldv_last hb hs
  have hi' : tmps[i]?.getD undef = .pointer (some ⟨k, 0, none⟩) := by simpa using hi
  simp [results, hr, hi', asAddr, h]
theorem last_nof (hb : Blk w k 24 old) : NoF w [k] := NoF.of fun j hj => by
  rw [List.mem_singleton] at hj
  subst hj
  exact ⟨_, _, hb, by decide⟩
theorem rd_ne8l (ho : RObj W S g s R) (hb : Blk W k 24 c) : k ≠ g := fun h => by
  obtain ⟨e, h1, _⟩ := ho.blk
  exact hb.other h1 (by decide) h
theorem Blk.rnextl (hb : Blk W k 24 c) (ho : RObj W S g s R) (hn : RNext W W' S g s R') : Blk W' k 24 c :=
  hb.fr hn.fr fun hm => by
    rw [List.mem_singleton] at hm
    exact rd_ne8l ho hb hm
theorem err_rowl (h : ErrOf w S r no at_ e) (hb : Blk w k 24 old) (c : Array Value) : ErrOf (w.setRow k c) S r no at_ e := err_fr h (setRow_fr w k c) (last_nof hb)
theorem RNext.rowl (h : RNext w W S g s R) (hb : Blk W k 24 old) (hk : w.heap.size ≤ k) (y : Array Value) : RNext w (W.setRow k y) S g s R :=
  ⟨h.obj.fr (setRow_fr W k y) (fun hm => by
    rw [List.mem_singleton] at hm
    exact rd_ne8l h.obj hb hm.symm) (last_nof hb), h.fr.trans (setRow_fr W k y) fun j hj hlt => by
    rw [List.mem_singleton] at hj
    omega⟩
theorem PIn.rowl (h : PIn w B A L) (hb : Blk w k 24 old) (hB : B ≤ k) (c : Array Value) : PIn (w.setRow k c) B A L :=
  h.fr (setRow_fr w k c) fun g hg => by
    rw [List.mem_singleton] at hg
    subst hg
    exact ⟨hB, fun cs hc => hb.other hc (by decide) rfl⟩
end
/-- A will's six cells. -/
def lvO (t p : ByteArray) (q : Nat) (rt : Bool) (a : Option Addr) (n c : Nat) : Array Value := #[.bool true, .string t, .string p, .int .i64 q, .bool rt, .slice a n c]
/-- What will tells: an error, or what stands there. -/
def WlSays (W : World) (S : Nat → Addr) (g : Nat) (s : ByteArray) (n : Nat) (R : RV) (x : Ending) (W' : World) : Prop :=
  ((readF 16 s R).1.no = 0 ∧ ∃ a m c, x = .returned (.tuple #[.agg (lvO (rText s (readF 16 s R).2).1 (rBin s (rText s (readF 16 s R).2).2).1 (qosK n) (has32 n) a m c), .nilIface]) ∧ (∀ B', PIn W' B' a (readF 16 s R).1.L) ∧ m = (readF 16 s R).1.L.length ∧ m ≤ c ∧ RNext W W' S g s (rBin s (rText s (readF 16 s R).2).2).2) ∨
  ((readF 16 s R).1.no ≠ 0 ∧ ∃ t u, x = .returned (.tuple #[.agg lv0, .iface t u]) ∧ ErrOf W' S (readF 16 s R).1.r (readF 16 s R).1.no (readF 16 s R).1.at_ (.iface t u) ∧ RNext W W' S g s (readF 16 s R).2)
theorem PIn.any {W : World} {a : Option Addr} {L : PL} {B : Nat} (h : PIn W 0 a L) : PIn W B a L := h.mono (Nat.zero_le _)
section
variable {w w' z' W : World} {S : Nat → Addr} {s : ByteArray} {g : Nat} {R : RV}
set_option maxHeartbeats 16000000 in
theorem will08 (hE : Env z' S) (hz : Below z'.heap.size z' W) (hg : z'.heap.size ≤ g) (h : RObj W S g s R) (hs : s.size ≤ 900000) (n : Nat) (hn : n < 256) : Calls Tryz.prog 63 #[.pointer (some ⟨g, 0, none⟩), .int .i64 n] W (WlSays W S g s n R) := by
  obtain ⟨z, hzz⟩ : ∃ z, z = lv0 := ⟨_, rfl⟩
  have HZ := Lib.hid hzz
  have HZS := Lib.hid (show z.size = 6 by rw [hzz]; rfl)
  have HZ1 := Lib.hid (show z.all (·.oneCell') = true by rw [hzz]; simp [lv0, Value.oneCell'])
  obtain ⟨P, hP⟩ : ∃ P, P = WlSays W S g s n R := ⟨_, rfl⟩
  rw [← hP]
  unfold WlSays at hP
  obtain ⟨W1, hW1⟩ : ∃ X, X = W.alloc (.cells z 24) := ⟨_, rfl⟩
  have b1 : Below W.heap.size W W1 := by rw [hW1]; exact (Below.refl _ _).alloc (Nat.le_refl _) _
  have r1 : Blk W1 W.heap.size 24 z := by rw [hW1]; exact Blk.made _ _ _
  have hz1 := hz.trans (b1.mono hz.size)
  have hn1 := h.step b1
  have hrd := pread_any hE hz1 hg hn1.obj hs 16
  obtain ⟨⟨⟨qn, qr, qa, M⟩, R2⟩, hrq⟩ : ∃ V, V = readF 16 s R := ⟨_, rfl⟩
  rw [← hrq] at hrd hP
  simp only at hP
  obtain ⟨⟨t, R3⟩, ht⟩ : ∃ V, V = rText s R2 := ⟨_, rfl⟩
  rw [← ht] at hP
  simp only at hP
  obtain ⟨⟨py, R4⟩, hp⟩ : ∃ V, V = rBin s R3 := ⟨_, rfl⟩
  rw [← hp] at hP
  simp only at hP
  obtain ⟨qk, hqk⟩ : ∃ k, k = qosK n := ⟨_, rfl⟩
  have bq := bk_q n hn
  have b32 := bk_32 n hn
  rw [← hqk] at bq hP
  obtain ⟨rt, hrt⟩ : ∃ k, k = has32 n := ⟨_, rfl⟩
  rw [← hrt] at b32 hP
  have HRD := Lib.hid hrd
  have HP := Lib.hid hP
  have HT := Lib.hid ht
  have HPY := Lib.hid hp
  have HE := Lib.hid hE
  have HZZ := Lib.hid hz1
  have HG := Lib.hid hg
  have HN1 := Lib.hid hn1
  have RR1 := Lib.hid r1
  have HSZ := Lib.hid hs
  have HW1 := Lib.hid hW1
  clear hE hz hg h hs hzz hrd hP hrq ht hp hqk hrt b1 r1 hz1 hn1 hW1
  go_enter Tryz.func63, Tryz.ntmps63
  go_wp2_with (first | refine wpl_alloc HZ.out rfl rfl ?_)
  rw [← HW1.out]
  refine HRD.out.mono ?_
  rintro x w3 ⟨v3, e3, rfl, hr3, he3, hn3⟩
  simp only at hr3 he3 hn3
  obtain ⟨a3, n3, c3, rfl, hnn3, hcc3⟩ := hr3.some_form
  have HZ3 := Lib.hid (hn3.later HG.out HZZ.out.size HZZ.out)
  have HN3 := Lib.hid (HN1.out.trans hn3)
  have RR3 := Lib.hid (RR1.out.rnextl HN1.out.obj hn3)
  clear HRD HN1 RR1 HZZ hn3
  by_cases h0 : qn = 0
  · subst h0
    unfold ErrOf at he3
    rw [if_pos rfl] at he3
    subst he3
    have HP3 := Lib.hid (hr3.pin (B' := 0))
    have HNN := Lib.hid hnn3
    have HCC := Lib.hid hcc3
    have htx := rdtext_any (env_cl HE.out HZ3.out HG.out) HN3.out.obj HSZ.out
    rw [← HT.out] at htx
    have HTX := Lib.hid htx
    obtain ⟨y, hy⟩ : ∃ y, y = lvO t py qk rt a3 n3 c3 := ⟨_, rfl⟩
    have HYY := Lib.hid (show y = #[.bool true, .string t, .string py, .int .i64 qk, .bool rt, .slice a3 n3 c3] by rw [hy]; rfl)
    have HYS := Lib.hid (show y.size = 6 by rw [hy]; rfl)
    have HY1 := Lib.hid (show y.all (·.oneCell') = true by rw [hy]; simp [lvO, Value.oneCell'])
    clear htx hr3 hnn3 hcc3 hy
    cases rt <;> (first
      | replace b32 : bits BinOp.and IntKind.i64 (n : Int) 32 = 0 := b32
      | replace b32 : bits BinOp.and IntKind.i64 (n : Int) 32 = 32 := b32)
    all_goals
      go_wp2_with fail
      refine HTX.out.mono ?_
      rintro x w4 ⟨rfl, hn4⟩
      have HZ4 := Lib.hid (hn4.later HG.out HZ3.out.size HZ3.out)
      have HN4 := Lib.hid (HN3.out.trans hn4)
      have RR4 := Lib.hid (RR3.out.rnextl HN3.out.obj hn4)
      have HP4 := Lib.hid (HP3.out.rnext (Nat.zero_le _) HN3.out.obj hn4)
      have hbn := rbin_any (env_cl HE.out HZ4.out HG.out) HN4.out.obj HSZ.out
      rw [← HPY.out] at hbn
      have HBN := Lib.hid hbn
      clear hbn hn4 HTX HN3 RR3 HP3 HZ3
      go_wp2_with fail
      refine HBN.out.mono ?_
      rintro x w5 ⟨rfl, hn5⟩
      have HN5 := Lib.hid (HN4.out.trans hn5)
      have RR5 := Lib.hid (RR4.out.rnextl HN4.out.obj hn5)
      have HP5 := Lib.hid (HP4.out.rnext (Nat.zero_le _) HN4.out.obj hn5)
      clear hn5 HBN HN4 RR4 HP4 HZ4
      have HX := Lib.hid (show P (.returned (.tuple #[.agg y, .nilIface])) (w5.setRow W.heap.size y) from by
        rw [HP.out]
        exact .inl ⟨by first | trivial | rfl, a3, n3, c3, by rw [HYY.out]; rfl, fun B' => (HP5.out.rowl RR5.out (Nat.zero_le _) y).any, HNN.out, HCC.out, HN5.out.rowl RR5.out (Nat.le_refl _) _⟩)
      have HL := Lib.hid (setRow_blkl RR5.out y)
      clear HP5 HN5
      go_wp2_with (first | refine wpl_store RR5.out HZS.out HYS.out HY1.out _ _ rfl rfl rfl (congrArg Value.agg HYY.out.symm) ?_)
      exact bodyPost_ret (v := .tuple #[.agg y, .nilIface]) (res_last8 (i := 4) (j := 5) rfl rfl rfl HL.out HYS.out) rfl HX.out
  · obtain ⟨t3, u3, rfl⟩ := err_iface he3 h0
    have HX := Lib.hid (show P (.returned (.tuple #[.agg z, .iface t3 u3])) (w3.setRow W.heap.size z) from by
      rw [HP.out]
      refine .inr ⟨h0, t3, u3, by rw [HZ.out], err_rowl he3 RR3.out _, HN3.out.rowl RR3.out (Nat.le_refl _) _⟩)
    have HL := Lib.hid (setRow_blkl RR3.out z)
    clear he3 hr3 hnn3 hcc3
    go_wp2_with (first | refine wpl_build HZ.out rfl rfl ?_ | refine wpl_store RR3.out HZS.out HZS.out HZ1.out _ _ rfl rfl rfl rfl ?_)
    exact bodyPost_ret (v := .tuple #[.agg z, .iface t3 u3]) (res_last8 (i := 4) (j := 5) rfl rfl rfl HL.out HZS.out) rfl HX.out
end
end Go.Proofs.YtfkimpcaokgldaaGreatDoor
namespace Go.Proofs.YtfkimpcaokgldaaGreatDoor
set_option maxRecDepth 100000
open Go.ChangeShapes Go.WideShapes Go.RowKit Go.Deep Go.Extern.Stop Go.Stop Go.Extern
theorem hdK_ok {s : ByteArray} (h : (hdK s).1.no = 0) : mayK (hdK s).2.1 = true ∧ (hdK s).2.1 < 256 := by
  unfold hdK hdK2 hdK3 at h ⊢
  by_cases d1 : (rText s ⟨0, 0, 0⟩).2.no = 0 ∧ (rText s ⟨0, 0, 0⟩).1 ≠ mqtt
  · rw [if_pos d1] at h
    exact absurd (show (3 : Nat) = 0 from h) (by decide)
  · rw [if_neg d1] at h ⊢
    generalize (rText s ⟨0, 0, 0⟩).2 = R1 at *
    by_cases d2 : (rNum s 1 R1).2.no = 0 ∧ (rNum s 1 R1).1 ≠ 5
    · rw [if_pos d2] at h
      exact absurd (show (3 : Nat) = 0 from h) (by decide)
    · rw [if_neg d2] at h ⊢
      generalize (rNum s 1 R1).2 = R2 at *
      by_cases d3 : mayK (rNum s 1 R2).1 = true
      · rw [if_pos d3] at h ⊢
        by_cases d4 : (rNum s 1 R2).2.no = 0
        · rw [if_pos d4]
          exact ⟨d3, num1_lt s R2⟩
        · rw [if_neg d4]
          exact ⟨d3, num1_lt s R2⟩
      · rw [if_neg d3] at h
        exact absurd (show (2 : Nat) = 0 from h) (by decide)
theorem mayK_no {n : Nat} (hm : mayK n = true) (h4 : has4 n = false) : qosK n = 0 ∧ has32 n = false := by
  unfold mayK at hm
  rw [h4] at hm
  simp only [Bool.and_eq_true, Bool.or_eq_true, decide_eq_true_eq, Bool.not_eq_true', Bool.false_eq_true, false_or] at hm
  exact hm.2
def paK (a : Option Addr) (c : Nat) (aw : Option Addr) (cw : Nat) : PkA := ⟨a, c, aw, cw, none, 0, none, 0, none, 0⟩
/-- What the decoder holds, with rows of properties. -/
structure DcP (w W : World) (S : Nat → Addr) (g : Nat) (s : ByteArray) (R : RV) (z : Array Value) (k : Nat) (y : Array Value) (a : Option Addr) (L : PL) (aw : Option Addr) (M : PL) : Prop where
  j : DcJ w W S g s R z k y
  p1 : PIn W w.heap.size a L
  p2 : PIn W w.heap.size aw M
section
variable {w W W' : World} {S : Nat → Addr} {g k : Nat} {s : ByteArray} {R R' : RV} {z y : Array Value} {a aw aw' : Option Addr} {L M M' : PL}
theorem DcP.step (h : DcP w W S g s R z k y a L aw M) (hn : RNext W W' S g s R') : DcP w W' S g s R' z k y a L aw M := ⟨h.j.step hn, h.p1.rnext h.j.inn.low h.j.inn.rd hn, h.p2.rnext h.j.inn.low h.j.inn.rd hn⟩
theorem DcP.below (h : DcP w W S g s R z k y a L aw M) (hb : Below W.heap.size W W') : DcP w W' S g s R z k y a L aw M := ⟨h.j.below hb, h.p1.below hb, h.p2.below hb⟩
theorem DcP.cell (h : DcP w W S g s R z k y a L aw M) (i : Nat) (u : Value) : DcP w (W.setCell ⟨k, i, none⟩ u) S g s R z k (y.setIfInBounds i u) a L aw M := ⟨h.j.cell i u, h.j.pin (Nat.le_refl _) h.p1 i u, h.j.pin (Nat.le_refl _) h.p2 i u⟩
theorem DcP.there6 (h : DcP w W S g s R z k y a L aw M) (hy : y.size = 26) : W.there k 7 6 := fun j hj => by
  refine ⟨?_, h.j.box.frozen _⟩
  rw [h.j.box.cell (7 + j), Array.getElem?_eq_getElem (by omega)]
  rfl
theorem DcP.cells6 (h : DcP w W S g s R z k y a L aw M) (u0 u1 u2 u3 u4 u5 : Value) :
    DcP w (W.setCells k 7 (#[u0, u1, u2, u3, u4, u5] : Array Value).toList) S g s R z k ((((((y.setIfInBounds 7 u0).setIfInBounds 8 u1).setIfInBounds 9 u2).setIfInBounds 10 u3).setIfInBounds 11 u4).setIfInBounds 12 u5) a L aw M :=
  (((((h.cell 7 u0).cell 8 u1).cell 9 u2).cell 10 u3).cell 11 u4).cell 12 u5
theorem PIn.cells6 {B : Nat} (h : DcP w W S g s R z k y a L aw M) (hp : PIn W 0 aw' M') (u0 u1 u2 u3 u4 u5 : Value) : PIn (W.setCells k 7 (#[u0, u1, u2, u3, u4, u5] : Array Value).toList) B aw' M' := by
  have h1 := h.j.pin (Nat.zero_le _) hp 7 u0
  have j1 := h.j.cell 7 u0
  have h2 := j1.pin (Nat.zero_le _) h1 8 u1
  have j2 := j1.cell 8 u1
  have h3 := j2.pin (Nat.zero_le _) h2 9 u2
  have j3 := j2.cell 9 u2
  have h4 := j3.pin (Nat.zero_le _) h3 10 u3
  have j4 := j3.cell 10 u3
  have h5 := j4.pin (Nat.zero_le _) h4 11 u4
  have j5 := j4.cell 11 u4
  have h6 := j5.pin (Nat.zero_le _) h5 12 u5
  exact PIn.any h6
theorem ErrOf.cells6 (h : DcP w W S g s R z k y a L aw M) {r : Int} {no at_ : Nat} {e : Value} (he : ErrOf W S r no at_ e) (u0 u1 u2 u3 u4 u5 : Value) : ErrOf (W.setCells k 7 (#[u0, u1, u2, u3, u4, u5] : Array Value).toList) S r no at_ e := by
  have h1 := h.j.err he 7 u0
  have j1 := h.j.cell 7 u0
  have h2 := j1.err h1 8 u1
  have j2 := j1.cell 8 u1
  have h3 := j2.err h2 9 u2
  have j3 := j2.cell 9 u2
  have h4 := j3.err h3 10 u3
  have j4 := j3.cell 10 u3
  have h5 := j4.err h4 11 u4
  have j5 := j4.cell 11 u4
  exact j5.err h5 12 u5
theorem PkIn.ofK {B : Nat} {n : Nat} {keep : Int} {cl wt wp us ps : ByteArray} {c cw : Nat} (h : PIn W B a L) (hc : L.length ≤ c) (hw : PIn W B aw M) (hcw : M.length ≤ cw) : PkIn W B (paK a c aw cw) (pkK n keep L cl wt wp M us ps) :=
  ⟨h, hc, hw, hcw, CIn.nil _ _ _ _, CIn.nil _ _ _ _, CIn.nil _ _ _ _⟩
end
def pkU (n : Nat) (keep : Int) (L : PL) (cl wt wp : ByteArray) (M : PL) (hu : Bool) (us : ByteArray) (hp : Bool) (ps : ByteArray) : Pk := ⟨1, 0, 0, L, has2 n, keep, cl, has4 n, wt, wp, (qosK n : Nat), has32 n, M, hu, us, hp, ps, false, ⟨#[]⟩, ⟨#[]⟩, 0, false, false, [], [], []⟩
def yK0 (m2 : Int) (keep : Nat) : Array Value := #[.int .i64 1, .int .i64 0, .int .i64 0, .slice none 0 0, .bool (m2 != 0), .int .i64 keep, .string ⟨#[]⟩, .bool false, .string ⟨#[]⟩, .string ⟨#[]⟩, .int .i64 0, .bool false, .slice none 0 0, .bool false, .string ⟨#[]⟩, .bool false, .string ⟨#[]⟩, .bool false, .string ⟨#[]⟩, .string ⟨#[]⟩, .int .i64 0, .bool false, .bool false, .slice none 0 0, .slice none 0 0, .slice none 0 0]
section
variable {w w' : World} {S : Nat → Addr} {s : ByteArray}
set_option maxHeartbeats 32000000 in
theorem dec08 (hE : Env w S) (first : Int) (hs : s.size ≤ 900000) : Calls Tryz.prog 18 #[.agg #[.int .i64 first, .string s]] w (DcSays w S (dcK first s)) := by
  have HE := Lib.hid hE
  have HSZ := Lib.hid hs
  obtain ⟨z, hz⟩ : ∃ z, z = pk0.cells pa0 := ⟨_, rfl⟩
  have HZ := Lib.hid hz
  have HZS := Lib.hid (show z.size = 26 by rw [hz]; rfl)
  have HZ1 := Lib.hid (show z.all (·.oneCell') = true by rw [hz]; exact pk_one _ _)
  obtain ⟨q, hq⟩ : ∃ q, q = dcK first s := ⟨_, rfl⟩
  rw [← hq]
  unfold dcK at hq
  obtain ⟨W2, hW2⟩ : ∃ W, W = (w.alloc (.cells #[.int .i64 first, .string s] 33)).alloc (.cells z 29) := ⟨_, rfl⟩
  have a1 : Below w.heap.size w (w.alloc (.cells #[.int .i64 first, .string s] 33)) := (Below.refl _ _).alloc (Nat.le_refl _) _
  have hb2 : Below w.heap.size w W2 := by rw [hW2]; exact a1.trans (((Below.refl (w.alloc (.cells #[.int .i64 first, .string s] 33)).heap.size _).alloc (Nat.le_refl _) (.cells z 29)).mono a1.size)
  have r1 : Blk W2 (w.heap.size + 1) 29 z := by
    have h := Blk.made (w.alloc (.cells #[.int .i64 first, .string s] 33)) 29 z
    rw [World.size_alloc] at h
    rw [hW2]; exact h
  have HW2 := Lib.hid hW2
  have hb3 : Below W2.heap.size W2 (W2.alloc (.cells #[.string s, .int .i64 0, .nilIface] 157)) := (Below.refl _ _).alloc (Nat.le_refl _) _
  have HI := Lib.hid (show DcI w (W2.alloc (.cells #[.string s, .int .i64 0, .nilIface] 157)) S W2.heap.size s ⟨0, 0, 0⟩ z from ⟨hb2.trans (hb3.mono hb2.size), r1.below hb3 r1.lt, RObj.made W2 S s, hb2.size⟩)
  have HB2 := Lib.hid hb2
  have R1' := Lib.hid r1
  by_cases h0 : first = 16
  · subst h0
    rw [if_pos rfl] at hq
    unfold dcK1 at hq
    have hok := hdK_ok (s := s)
    obtain ⟨⟨he, n, Ra⟩, hh⟩ : ∃ V, V = hdK s := ⟨_, rfl⟩
    rw [← hh] at hq hok
    simp only at hq hok
    have HQ := Lib.hid hq
    have HH := Lib.hid hh
    have HOK := Lib.hid hok
    clear hE hz hs hq a1 hb2 r1 hb3 hW2 hh hok HB2 R1'
    go_enter Tryz.func18, Tryz.ntmps18
    go_wp2_with (first | refine wpk_alloc HZ.out rfl rfl ?_)
    rw [← HW2.out]
    refine (rnew_any s W2).mono ?_
    rintro x w3 ⟨rfl, hw3⟩
    rw [← hw3] at HI
    clear hw3
    have hhd := head08 HE.out HI.out.bel HI.out.low HI.out.rd HSZ.out
    rw [← HH.out] at hhd
    have HHD := Lib.hid hhd
    clear hhd HH HW2
    go_wp2_with fail
    refine HHD.out.mono ?_
    rintro x w4 ⟨e4, rfl, he4, hn4⟩
    simp only at he4 hn4
    have HI4 := Lib.hid (HI.out.step hn4)
    clear hn4 HHD HI
    have hq := HQ.out
    by_cases h1 : he.no = 0
    · rw [if_pos h1] at hq
      unfold ErrOf at he4
      rw [if_pos h1] at he4
      subst he4
      obtain ⟨hmay, hn256⟩ := HOK.out h1
      have HMAY := Lib.hid hmay
      unfold dcK2 dcK3 at hq
      have hu := ru16_any (HE.out.later HI4.out.bel) HI4.out.rd (by have := HSZ.out; omega)
      obtain ⟨⟨keep, Rb⟩, hb⟩ : ∃ V, V = rNum s 2 Ra := ⟨_, rfl⟩
      rw [← hb] at hu hq
      simp only at hq
      have b2 := bk_2 n hn256
      obtain ⟨m2, hm2⟩ : ∃ m : Int, m = if has2 n then 2 else 0 := ⟨_, rfl⟩
      rw [← hm2] at b2
      have e2 : has2 n = (m2 != 0) := by
        rw [hm2]
        cases has2 n <;> rfl
      have HU := Lib.hid hu
      have HQ2 := Lib.hid hq
      have HE2 := Lib.hid e2
      have HN256 := Lib.hid hn256
      clear hu hq hb hm2 e2 hmay HQ HOK h1
      go_wp2_with fail
      refine HU.out.mono ?_
      rintro x w5 ⟨rfl, hn5⟩
      have hi5 := HI4.out.step hn5
      obtain ⟨y0, hy0⟩ : ∃ y, y = yK0 m2 keep := ⟨_, rfl⟩
      have HY0 := Lib.hid hy0
      have HYS := Lib.hid (show y0.size = 26 by rw [hy0]; rfl)
      have HY1 := Lib.hid (show y0.all (·.oneCell') = true by rw [hy0]; simp [yK0, Value.oneCell'])
      obtain ⟨W6, hW6⟩ : ∃ W, W = w5.alloc (.cells y0 29) := ⟨_, rfl⟩
      have hb6 : Below w5.heap.size w5 W6 := by rw [hW6]; exact (Below.refl _ _).alloc (Nat.le_refl _) _
      obtain ⟨k, hk⟩ : ∃ k, k = w5.heap.size := ⟨_, rfl⟩
      have HP6 := Lib.hid (show DcP w W6 S W2.heap.size s Rb z k y0 none [] none [] from
        ⟨⟨hi5.below hb6, by rw [hW6, hk]; exact Blk.made w5 _ y0, by have := hi5.res.lt; omega⟩, PIn.nil _ _ _, PIn.nil _ _ _⟩)
      have HW6 := Lib.hid hW6
      have HK := Lib.hid hk
      have hrd := pread_any HE.out HP6.out.j.inn.bel HP6.out.j.inn.low HP6.out.j.inn.rd HSZ.out 1
      have hq := HQ2.out
      obtain ⟨⟨⟨qn, qr, qa, L⟩, Rc⟩, hrq⟩ : ∃ V, V = readF 1 s Rb := ⟨_, rfl⟩
      rw [← hrq] at hrd hq
      simp only at hq
      have HRD := Lib.hid hrd
      have HQ3 := Lib.hid hq
      clear hn5 hi5 hy0 hW6 hb6 hk hrd hq hrq HU HI4 HQ2
      go_wp2_with (first | refine wpk_alloc HZ.out rfl rfl ?_ | refine wpk_store_new HZS.out (c := y0) HYS.out HY1.out _ _ rfl rfl rfl (by rw [HY0.out]; rfl) ?_)
      rw [← HW6.out]
      try rw [← HK.out]
      refine HRD.out.mono ?_
      rintro x w7 ⟨v7, e7, rfl, hr7, he7, hn7⟩
      simp only at hr7 he7 hn7
      have hp7 := HP6.out.step hn7
      obtain ⟨a7, n7, c7, rfl, hnn7, hcc7⟩ := hr7.some_form
      have c3 : w7.cell? ⟨k, 3, none⟩ = some (.slice none 0 0) := hp7.j.get (by rw [HY0.out]; rfl)
      have f3 := hp7.j.box.frozen 3
      obtain ⟨y8, hy8⟩ : ∃ y, y = y0.setIfInBounds 3 (.slice a7 n7 c7) := ⟨_, rfl⟩
      have HP8 := Lib.hid (show DcP w (w7.setCell ⟨k, 3, none⟩ (.slice a7 n7 c7)) S W2.heap.size s Rc z k y8 a7 L none [] from
        ⟨by rw [hy8]; exact hp7.j.cell 3 _, hp7.j.pin (Nat.le_refl _) (hr7.pin (B' := w.heap.size)) 3 _, PIn.nil _ _ _⟩)
      have HE8 := Lib.hid (hp7.j.err he7 3 (.slice a7 n7 c7))
      have HY8 := Lib.hid hy8
      have HNN := Lib.hid hnn7
      have HCC := Lib.hid hcc7
      have hq := HQ3.out
      clear hp7 hr7 hn7 hy8 hnn7 hcc7 HRD HP6 HW6 HK HQ3
      by_cases h2 : qn = 0
      · subst h2
        unfold ErrOf at he7
        rw [if_pos rfl] at he7
        subst he7
        rw [if_pos rfl] at hq
        have htx := rdtext_any (env_cl HE.out HP8.out.j.inn.bel HP8.out.j.inn.low) HP8.out.j.inn.rd HSZ.out
        obtain ⟨⟨cl, Rd⟩, ht⟩ : ∃ V, V = rText s Rc := ⟨_, rfl⟩
        rw [← ht] at htx hq
        simp only at hq
        have HTX := Lib.hid htx
        unfold dcK4 at hq
        have HQ3b := Lib.hid hq
        clear htx ht HE8 hq
        go_wp2_with fail
        refine HTX.out.mono ?_
        rintro x w9 ⟨rfl, hn9⟩
        have hq := HQ3b.out
        have hp9 := HP8.out.step hn9
        have c6 : w9.cell? ⟨k, 6, none⟩ = some (.string ⟨#[]⟩) := hp9.j.get (by rw [HY8.out, HY0.out]; rfl)
        have f6 := hp9.j.box.frozen 6
        obtain ⟨y10, hy10⟩ : ∃ y, y = y8.setIfInBounds 6 (.string cl) := ⟨_, rfl⟩
        have hp10 := hp9.cell 6 (.string cl)
        rw [← hy10] at hp10
        have HP10 := Lib.hid hp10
        have HY10 := Lib.hid (show y10 = ((yK0 m2 keep).setIfInBounds 3 (.slice a7 n7 c7)).setIfInBounds 6 (.string cl) by rw [hy10, HY8.out, HY0.out])
        have HYS10 := Lib.hid (show y10.size = 26 by rw [HY10.out]; rfl)
        have b4 := bk_4 n hn256
        clear hn9 hp9 hp10 hy10 HTX HP8 HY8 HQ3b
        by_cases h4 : has4 n = true
        case' pos =>
          rw [if_pos h4] at hq b4
          have HWL := Lib.hid (will08 HE.out HP10.out.j.inn.bel HP10.out.j.inn.low HP10.out.j.inn.rd HSZ.out n hn256)
          have HQ4 := Lib.hid hq
          have H4 := Lib.hid h4
          clear hq h4
          go_wp2_with fail
          refine HWL.out.mono ?_
          rintro x w11 hx
          clear HWL c6 f6
          rcases hx with ⟨h0w, aw, mw, cw, rfl, hpw, hmw, hcw, hnw⟩ | ⟨h0w, tw, uw, rfl, hew, hnw⟩
          rotate_left
          · have hq := HQ4.out
            rw [if_neg h0w] at hq
            have hp11 := HP10.out.step hnw
            obtain ⟨lc, hlc⟩ : ∃ lc, lc = lv0 := ⟨_, rfl⟩
            rw [← hlc]
            have HLS := Lib.hid (show lc.size = 6 by rw [hlc]; rfl)
            have HTH := Lib.hid (show w11.there k 7 lc.size by rw [HLS.out]; exact hp11.there6 HYS10.out)
            have HIP := Lib.hid (show (Tryz.prog.info? 24).map (·.size) = some lc.size by rw [HLS.out]; exact ip_last)
            have HLO := Lib.hid (show lc.all (·.oneCell') = true by rw [hlc]; simp [lv0, Value.oneCell'])
            have hp12 := hp11.cells6 (.bool false) (.string ⟨#[]⟩) (.string ⟨#[]⟩) (.int .i64 0) (.bool false) (.slice none 0 0)
            have he12 := ErrOf.cells6 hp11 hew (.bool false) (.string ⟨#[]⟩) (.string ⟨#[]⟩) (.int .i64 0) (.bool false) (.slice none 0 0)
            have hX := hp12.j.inn.bad HZ.out (q := q) (by rw [hq]) (e := .iface tw uw) (by rw [hq]; exact he12)
            have hR := hp12.j.inn.res
            rw [show (#[Value.bool false, .string ⟨#[]⟩, .string ⟨#[]⟩, .int .i64 0, .bool false, .slice none 0 0] : Array Value) = lc from by rw [hlc]; rfl] at hX hR
            have HX := Lib.hid hX
            have HR := Lib.hid hR
            clear hX hR hp11 hp12 he12 hew hnw hq h0w HQ4 hlc b4 b2
            go_wp2_with (first | refine wpList_store_mid rfl 24 _ _ rfl k 7 lc rfl rfl HTH.out HIP.out HLO.out ?_ | refine wpk_build HZ.out rfl rfl ?_ | refine wpk_store HR.out HZS.out HZS.out HZ1.out _ _ rfl rfl rfl rfl ?_)
            exact bodyPost_ret (v := .tuple #[.agg z, .iface tw uw]) (res_pkt (i := 2) (j := 3) rfl rfl rfl HX.out.1 HZS.out) rfl HX.out.2
          have hq := HQ4.out
          rw [if_pos h0w] at hq
          generalize (rBin s (rText s (readF 16 s Rd).2).2).1 = wp at *
          generalize (rBin s (rText s (readF 16 s Rd).2).2).2 = Re at *
          generalize (rText s (readF 16 s Rd).2).1 = wt at *
          generalize (readF 16 s Rd).1.L = M at *
          have hp11 := HP10.out.step hnw
          obtain ⟨lc, hlc⟩ : ∃ lc, lc = lvO wt wp (qosK n) (has32 n) aw mw cw := ⟨_, rfl⟩
          rw [← hlc]
          have HLS := Lib.hid (show lc.size = 6 by rw [hlc]; rfl)
          have HTH := Lib.hid (show w11.there k 7 lc.size by rw [HLS.out]; exact hp11.there6 HYS10.out)
          have HIP := Lib.hid (show (Tryz.prog.info? 24).map (·.size) = some lc.size by rw [HLS.out]; exact ip_last)
          have HLO := Lib.hid (show lc.all (·.oneCell') = true by rw [hlc]; simp [lvO, Value.oneCell'])
          have hp12 := hp11.cells6 (.bool true) (.string wt) (.string wp) (.int .i64 (qosK n : Nat)) (.bool (has32 n)) (.slice aw mw cw)
          have hpn := PIn.cells6 (B := w.heap.size) hp11 (hpw 0) (.bool true) (.string wt) (.string wp) (.int .i64 (qosK n : Nat)) (.bool (has32 n)) (.slice aw mw cw)
          rw [show (#[Value.bool true, .string wt, .string wp, .int .i64 (qosK n : Nat), .bool (has32 n), .slice aw mw cw] : Array Value) = lc from by rw [hlc]; rfl] at hp12 hpn
          obtain ⟨WN, hWN⟩ : ∃ W, W = w11.setCells k 7 lc.toList := ⟨_, rfl⟩
          rw [← hWN] at hp12 hpn
          obtain ⟨yN, hyN⟩ : ∃ y, y = ((((((y10.setIfInBounds 7 (.bool true)).setIfInBounds 8 (.string wt)).setIfInBounds 9 (.string wp)).setIfInBounds 10 (.int .i64 (qosK n : Nat))).setIfInBounds 11 (.bool (has32 n))).setIfInBounds 12 (.slice aw mw cw)) := ⟨_, rfl⟩
          rw [← hyN] at hp12
          have HPN := Lib.hid (show DcP w WN S W2.heap.size s Re z k yN a7 L aw M from ⟨hp12.j, hp12.p1, hpn⟩)
          have HYN := Lib.hid (show yN = (pkU n keep L cl wt wp M false ⟨#[]⟩ false ⟨#[]⟩).cells (paK a7 c7 aw cw) by
            unfold pkU
            rw [hyN, HY10.out, HE2.out, H4.out, hmw, HNN.out]
            rfl)
          have HMC := Lib.hid (show M.length ≤ cw by omega)
          have HQ5 := Lib.hid hq
          have HWN := Lib.hid hWN
          clear hq h0w hpw hmw hcw hnw hp11 hp12 hpn hlc hyN hWN HQ4 HP10 HY10 b4 H4
          go_upto_region 16 with (first | refine wpList_store_mid rfl 24 _ _ rfl k 7 lc rfl rfl HTH.out HIP.out HLO.out ?_)
          rw [← HWN.out]
          clear HWN HTH HIP HLO HLS
        case' neg =>
          rw [if_neg h4] at hq b4
          have h4f : has4 n = false := by simpa using h4
          obtain ⟨q0, r0⟩ := mayK_no HMAY.out h4f
          obtain ⟨wt, hwt⟩ : ∃ t : ByteArray, t = ⟨#[]⟩ := ⟨_, rfl⟩
          obtain ⟨wp, hwp⟩ : ∃ t : ByteArray, t = ⟨#[]⟩ := ⟨_, rfl⟩
          obtain ⟨M, hM⟩ : ∃ t : PL, t = [] := ⟨_, rfl⟩
          obtain ⟨aw, haw⟩ : ∃ t : Option Addr, t = none := ⟨_, rfl⟩
          obtain ⟨cw, hcw⟩ : ∃ t : Nat, t = 0 := ⟨_, rfl⟩
          obtain ⟨Re, hRe⟩ : ∃ R, R = Rd := ⟨_, rfl⟩
          have hq : q = dcK5 s n keep L cl wt wp M Re := by rw [hq, hwt, hwp, hM, hRe]
          obtain ⟨WN, hWN⟩ : ∃ W, W = w9.setCell ⟨k, 6, none⟩ (.string cl) := ⟨_, rfl⟩
          obtain ⟨yN, hyN⟩ : ∃ y, y = y10 := ⟨_, rfl⟩
          have HPN := Lib.hid (show DcP w WN S W2.heap.size s Re z k yN a7 L aw M from by rw [hWN, hRe, hyN, haw, hM]; exact HP10.out)
          have HYN := Lib.hid (show yN = (pkU n keep L cl wt wp M false ⟨#[]⟩ false ⟨#[]⟩).cells (paK a7 c7 aw cw) by
            unfold pkU
            rw [hyN, HY10.out, HE2.out, h4f, q0, r0, hwt, hwp, hM, haw, hcw, HNN.out]
            rfl)
          have HMC := Lib.hid (show M.length ≤ cw by rw [hM]; exact Nat.zero_le _)
          have HQ5 := Lib.hid hq
          have HWN := Lib.hid hWN
          clear hq h4 h4f q0 r0 hwt hwp hM haw hcw hRe hWN hyN HP10 HY10
          go_upto_region 16 with fail
          rw [← HWN.out]
          clear HWN b4 c6 f6
        all_goals
          have hq := HQ5.out
          unfold dcK5 at hq
          have b128 := bk_128 n hn256
          clear HQ5
          by_cases h8 : has128 n = true
          case' pos =>
            rw [if_pos h8] at b128
            rw [show usK s n Re = rText s Re from by unfold usK; rw [if_pos h8]] at hq
            have htx := rdtext_any (env_cl HE.out HPN.out.j.inn.bel HPN.out.j.inn.low) HPN.out.j.inn.rd HSZ.out
            obtain ⟨⟨us, Rf⟩, ht⟩ : ∃ V, V = rText s Re := ⟨_, rfl⟩
            rw [← ht] at htx hq
            simp only at hq
            have HTX := Lib.hid htx
            have HQ6 := Lib.hid hq
            have H8 := Lib.hid h8
            clear htx ht hq h8
            go_wp2_with fail
            refine HTX.out.mono ?_
            rintro x w13 ⟨rfl, hn13⟩
            have hp13 := HPN.out.step hn13
            have c13 : w13.cell? ⟨k, 13, none⟩ = some (.bool false) := hp13.j.get (by rw [HYN.out]; rfl)
            have f13 := hp13.j.box.frozen 13
            have c14 : w13.cell? ⟨k, 14, none⟩ = some (.string ⟨#[]⟩) := hp13.j.get (by rw [HYN.out]; rfl)
            have f14 := hp13.j.box.frozen 14
            obtain ⟨W8, hW8⟩ : ∃ W, W = (w13.setCell ⟨k, 13, none⟩ (.bool true)).setCell ⟨k, 14, none⟩ (.string us) := ⟨_, rfl⟩
            have hp14 := (hp13.cell 13 (.bool true)).cell 14 (.string us)
            obtain ⟨yU, hyU⟩ : ∃ y, y = (yN.setIfInBounds 13 (.bool true)).setIfInBounds 14 (.string us) := ⟨_, rfl⟩
            rw [← hW8, ← hyU] at hp14
            have HPU := Lib.hid hp14
            have HYU := Lib.hid (show yU = (pkU n keep L cl wt wp M (has128 n) us false ⟨#[]⟩).cells (paK a7 c7 aw cw) by
              rw [hyU, HYN.out, H8.out]
              rfl)
            have HW8 := Lib.hid hW8
            clear hn13 hp13 hp14 hW8 hyU HTX HPN HYN H8
            go_upto_region 18 with fail
            rw [← HW8.out]
            clear HW8 b128 c13 f13 c14 f14
          case' neg =>
            rw [if_neg h8] at b128
            have h8f : has128 n = false := by simpa using h8
            rw [show usK s n Re = (⟨#[]⟩, Re) from by unfold usK; rw [if_neg h8]] at hq
            simp only at hq
            obtain ⟨us, hus⟩ : ∃ t : ByteArray, t = ⟨#[]⟩ := ⟨_, rfl⟩
            obtain ⟨Rf, hRf⟩ : ∃ R, R = Re := ⟨_, rfl⟩
            have hq : q = dcK6 s (pkK n keep L cl wt wp M us (psK s n Rf).1) (psK s n Rf).2 := by rw [hq, hus, hRf]
            obtain ⟨W8, hW8⟩ : ∃ W, W = WN := ⟨_, rfl⟩
            obtain ⟨yU, hyU⟩ : ∃ y, y = yN := ⟨_, rfl⟩
            have HPU := Lib.hid (show DcP w W8 S W2.heap.size s Rf z k yU a7 L aw M from by rw [hW8, hRf, hyU]; exact HPN.out)
            have HYU := Lib.hid (show yU = (pkU n keep L cl wt wp M (has128 n) us false ⟨#[]⟩).cells (paK a7 c7 aw cw) by
              rw [hyU, HYN.out, h8f, hus])
            have HQ6 := Lib.hid hq
            have HW8 := Lib.hid hW8
            clear hq h8 h8f hus hRf hW8 hyU HPN HYN
            go_upto_region 18 with fail
            rw [← HW8.out]
            clear HW8 b128
          all_goals
            have hq := HQ6.out
            have b64 := bk_64 n hn256
            clear HQ6
            by_cases h6 : has64 n = true
            case' pos =>
              rw [if_pos h6] at b64
              rw [show psK s n Rf = rBin s Rf from by unfold psK; rw [if_pos h6]] at hq
              have htx := rbin_any (env_cl HE.out HPU.out.j.inn.bel HPU.out.j.inn.low) HPU.out.j.inn.rd HSZ.out
              obtain ⟨⟨ps, Rg⟩, ht⟩ : ∃ V, V = rBin s Rf := ⟨_, rfl⟩
              rw [← ht] at htx hq
              simp only at hq
              have HTX := Lib.hid htx
              have HQ7 := Lib.hid hq
              have H6 := Lib.hid h6
              clear htx ht hq h6
              go_wp2_with fail
              refine HTX.out.mono ?_
              rintro x w15 ⟨rfl, hn15⟩
              have hp15 := HPU.out.step hn15
              have c15 : w15.cell? ⟨k, 15, none⟩ = some (.bool false) := hp15.j.get (by rw [HYU.out]; rfl)
              have f15 := hp15.j.box.frozen 15
              have c16 : w15.cell? ⟨k, 16, none⟩ = some (.string ⟨#[]⟩) := hp15.j.get (by rw [HYU.out]; rfl)
              have f16 := hp15.j.box.frozen 16
              obtain ⟨W9, hW9⟩ : ∃ W, W = (w15.setCell ⟨k, 15, none⟩ (.bool true)).setCell ⟨k, 16, none⟩ (.string ps) := ⟨_, rfl⟩
              have hp16 := (hp15.cell 15 (.bool true)).cell 16 (.string ps)
              obtain ⟨yV, hyV⟩ : ∃ y, y = (yU.setIfInBounds 15 (.bool true)).setIfInBounds 16 (.string ps) := ⟨_, rfl⟩
              rw [← hW9, ← hyV] at hp16
              have HPV := Lib.hid hp16
              have HYV := Lib.hid (show yV = (pkU n keep L cl wt wp M (has128 n) us (has64 n) ps).cells (paK a7 c7 aw cw) by
                rw [hyV, HYU.out, H6.out]
                rfl)
              have HW9 := Lib.hid hW9
              clear hn15 hp15 hp16 hW9 hyV HTX HPU HYU H6
              go_upto_region 20 with fail
              rw [← HW9.out]
              clear HW9 b64 c15 f15 c16 f16
            case' neg =>
              rw [if_neg h6] at b64
              have h6f : has64 n = false := by simpa using h6
              rw [show psK s n Rf = (⟨#[]⟩, Rf) from by unfold psK; rw [if_neg h6]] at hq
              simp only at hq
              obtain ⟨ps, hps⟩ : ∃ t : ByteArray, t = ⟨#[]⟩ := ⟨_, rfl⟩
              obtain ⟨Rg, hRg⟩ : ∃ R, R = Rf := ⟨_, rfl⟩
              have hq : q = dcK6 s (pkK n keep L cl wt wp M us ps) Rg := by rw [hq, hps, hRg]
              obtain ⟨W9, hW9⟩ : ∃ W, W = W8 := ⟨_, rfl⟩
              obtain ⟨yV, hyV⟩ : ∃ y, y = yU := ⟨_, rfl⟩
              have HPV := Lib.hid (show DcP w W9 S W2.heap.size s Rg z k yV a7 L aw M from by rw [hW9, hRg, hyV]; exact HPU.out)
              have HYV := Lib.hid (show yV = (pkU n keep L cl wt wp M (has128 n) us (has64 n) ps).cells (paK a7 c7 aw cw) by
                rw [hyV, HYU.out, h6f, hps])
              have HQ7 := Lib.hid hq
              have HW9 := Lib.hid hW9
              clear hq h6 h6f hps hRg hW9 hyV HPU HYU
              go_upto_region 20 with fail
              rw [← HW9.out]
              clear HW9 b64
            all_goals
              have hq := HQ7.out
              unfold dcK6 at hq
              clear HQ7 b2
              by_cases hg : Rg.no = 0
              · rw [if_pos hg] at hq
                by_cases hp : Rg.p < s.size
                · rw [if_pos hp] at hq
                  have HD := Lib.hid (rdone_left (HE.out.later HPV.out.j.inn.bel) HPV.out.j.inn.rd hg (by have := HSZ.out; omega) hp)
                  have HQ8 := Lib.hid hq
                  clear hq hg hp
                  go_wp2_with fail
                  refine HD.out.mono ?_
                  rintro x w17 ⟨e17, rfl, he17, hb17⟩
                  obtain ⟨t17, u17, rfl⟩ := err_iface he17 (by decide)
                  have hi17 := HPV.out.j.inn.below hb17
                  have hX := hi17.bad HZ.out (q := q) (by rw [HQ8.out]) (e := .iface t17 u17) (by rw [HQ8.out]; exact he17)
                  have HR := Lib.hid hi17.res
                  have HX := Lib.hid hX
                  clear hX hi17 he17 hb17 HD
                  go_wp2_with (first | refine wpk_build HZ.out rfl rfl ?_ | refine wpk_store HR.out HZS.out HZS.out HZ1.out _ _ rfl rfl rfl rfl ?_)
                  exact bodyPost_ret (v := .tuple #[.agg z, .iface t17 u17]) (res_pkt (i := 2) (j := 3) rfl rfl rfl HX.out.1 HZS.out) rfl HX.out.2
                · rw [if_neg hp] at hq
                  have HD := Lib.hid (rdone_end HPV.out.j.inn.rd hg (by have := HSZ.out; omega) (by have := HPV.out.j.inn.rd.le; omega))
                  have HQ8 := Lib.hid hq
                  clear hq hg hp
                  go_wp2_with fail
                  refine HD.out.mono ?_
                  rintro x w17 ⟨rfl, hb17⟩
                  have hp17 := HPV.out.below hb17
                  have eyV : yV = (pkK n keep L cl wt wp M us ps).cells (paK a7 c7 aw cw) := HYV.out
                  have hX := hp17.j.inn.good (p := pkK n keep L cl wt wp M us ps) (PkIn.ofK hp17.p1 (by have := HNN.out; have := HCC.out; omega) hp17.p2 HMC.out) eyV
                  rw [← HQ8.out] at hX
                  have HX := Lib.hid hX
                  have HVS := Lib.hid (show yV.size = 26 by rw [eyV]; rfl)
                  have HV1 := Lib.hid (show yV.all (·.oneCell') = true by rw [eyV]; exact pk_one _ _)
                  have HBX := Lib.hid hp17.j.box
                  have HRX := Lib.hid hp17.j.inn.res
                  clear hX hp17 hb17 eyV HD
                  go_wp2_with (first | refine wpk_load HBX.out HVS.out _ rfl rfl rfl ?_ | refine wpk_store HRX.out HZS.out HVS.out HV1.out _ _ rfl rfl rfl rfl ?_)
                  exact bodyPost_ret (v := .tuple #[.agg yV, .nilIface]) (res_pkt (i := 2) (j := 3) rfl rfl rfl HX.out.1 HVS.out) rfl HX.out.2
              · rw [if_neg hg] at hq
                have HD := Lib.hid (rdone_err HPV.out.j.inn.rd hg)
                have HQ8 := Lib.hid hq
                have HG := Lib.hid hg
                clear hq hg
                go_wp2_with fail
                refine HD.out.mono ?_
                rintro x w17 ⟨e17, rfl, he17, hb17⟩
                obtain ⟨t17, u17, rfl⟩ := err_iface he17 HG.out
                have hi17 := HPV.out.j.inn.below hb17
                have hX := hi17.bad HZ.out (q := q) (by rw [HQ8.out]) (e := .iface t17 u17) (by rw [HQ8.out]; exact he17)
                have HR := Lib.hid hi17.res
                have HX := Lib.hid hX
                clear hX hi17 he17 hb17 HD
                go_wp2_with (first | refine wpk_build HZ.out rfl rfl ?_ | refine wpk_store HR.out HZS.out HZS.out HZ1.out _ _ rfl rfl rfl rfl ?_)
                exact bodyPost_ret (v := .tuple #[.agg z, .iface t17 u17]) (res_pkt (i := 2) (j := 3) rfl rfl rfl HX.out.1 HZS.out) rfl HX.out.2
      · rw [if_neg h2] at hq
        obtain ⟨t7, u7, rfl⟩ := err_iface he7 h2
        have hX := HP8.out.j.inn.bad HZ.out (q := q) (by rw [hq]) (e := .iface t7 u7) (by rw [hq]; exact HE8.out)
        have HR := Lib.hid HP8.out.j.inn.res
        have HX := Lib.hid hX
        clear hX he7 hq b2
        go_wp2_with (first | refine wpk_build HZ.out rfl rfl ?_ | refine wpk_store HR.out HZS.out HZS.out HZ1.out _ _ rfl rfl rfl rfl ?_)
        exact bodyPost_ret (v := .tuple #[.agg z, .iface t7 u7]) (res_pkt (i := 2) (j := 3) rfl rfl rfl HX.out.1 HZS.out) rfl HX.out.2
    · rw [if_neg h1] at hq
      obtain ⟨t4, u4, rfl⟩ := err_iface he4 h1
      have hX := HI4.out.bad HZ.out (q := q) (by rw [hq]) (e := .iface t4 u4) (by rw [hq]; exact he4)
      have HR := Lib.hid HI4.out.res
      have HX := Lib.hid hX
      clear hX he4 hq HQ HOK
      go_wp2_with (first | refine wpk_build HZ.out rfl rfl ?_ | refine wpk_store HR.out HZS.out HZS.out HZ1.out _ _ rfl rfl rfl rfl ?_)
      exact bodyPost_ret (v := .tuple #[.agg z, .iface t4 u4]) (res_pkt (i := 2) (j := 3) rfl rfl rfl HX.out.1 HZS.out) rfl HX.out.2
  · rw [if_neg h0] at hq
    have HQ := Lib.hid hq
    have HML := Lib.hid (mal08 (hE.later hb2) 0)
    clear hE hz hs hq a1 hb2 r1 hb3 hW2 HI
    go_enter Tryz.func18, Tryz.ntmps18
    go_wp2_with (first | refine wpk_alloc HZ.out rfl rfl ?_ | refine wpk_build HZ.out rfl rfl ?_)
    rw [← HW2.out]
    refine HML.out.mono ?_
    rintro x w7 ⟨e, rfl, he, hb7⟩
    obtain ⟨te, ue, rfl⟩ := err_iface he (by decide)
    have r1 := R1'.out.below hb7 R1'.out.lt
    have hb := HB2.out.trans (hb7.mono HB2.out.size)
    have hbf := below_row hb (k := w.heap.size + 1) (by omega) z
    have r3 := setRow_blk r1 z
    have LD := Lib.hid (And.intro r3 HZS.out)
    have HX := Lib.hid (show DcSays w S q (.returned (.tuple #[.agg z, .iface te ue])) (w7.setRow (w.heap.size + 1) z) from by
      rw [HQ.out]
      exact DcSays.bad8 HZ.out rfl (err_row he r1 z) hbf)
    have HR1 := Lib.hid r1
    clear hb7 hb hbf r1 r3 he
    go_wp2_with (first | refine wpk_build HZ.out rfl rfl ?_ | refine wpk_store HR1.out HZS.out HZS.out HZ1.out _ _ rfl rfl rfl rfl ?_)
    exact bodyPost_ret (v := .tuple #[.agg z, .iface te ue]) (res_pkt (i := 2) (j := 3) rfl rfl rfl LD.out.1 LD.out.2) rfl HX.out
end
end Go.Proofs.YtfkimpcaokgldaaGreatDoor

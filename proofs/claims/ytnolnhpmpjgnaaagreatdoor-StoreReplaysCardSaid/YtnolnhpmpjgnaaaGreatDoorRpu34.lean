/- What is proved here: the record that tells something (the document's Put). Conditions: texts and properties that fit. -/
import Derived.Test.YtnolnhpmpjgnaaaGreatDoorPup34
import Derived.Test.YtnolnhpmpjgnaaaGreatDoorLawC06
import Derived.Test.YtnolnhpmpjgnaaaGreatDoorOwr34
import Derived.Test.YtnolnhpmpjgnaaaGreatDoorRtk34
namespace Go.Proofs.YtnolnhpmpjgnaaaGreatDoor
set_option maxRecDepth 100000
open Go.RowKit Go.Extern.Stop Go.Stop Go.Extern
theorem tyV : Ty Tryz.prog 110 #[.int .i64 0, .int .i64 0, .string ⟨#[]⟩] := ty_mk (n := 3) (by kernel_rfl) rfl Tryz.underlying110 rfl (by kernel_rfl) rfl
theorem tyW : Ty Tryz.prog 107 #[.string ⟨#[]⟩, .int .i64 0, .int .i64 0] := ty_mk (n := 3) (by kernel_rfl) rfl Tryz.underlying107 rfl (by kernel_rfl) rfl
section
variable {P : Program} {X : List Nat} {w0 w w' : World} {L : OL} {g : Nat} {V : EV} {a : Int}
theorem res_own01r {fn : Func} {tmps : Array Value} {i j h : Nat} {tB : TypeId} {zB cB : Array Value} (n : Nat) (hO : Own X w0 w L) (hTB : Ty P tB zB) (hr : fn.results = #[.tmp i, .cell j tB]) {u : Value} (hi : tmps.getD i undef = u) (hj : tmps.getD j undef = .pointer (some ⟨h, 0, none⟩))
    (hn : L[n]? = some (h, tB, cB)) (nB : cB.size = zB.size) : (results fn tmps).run P w = .ok (.tuple #[u, .agg cB]) w := by
  subst hi
  have h2 := run_load_own hTB (hO.get n hn) nB
  have hj' : tmps[j]?.getD undef = .pointer (some ⟨h, 0, none⟩) := by simpa using hj
  simp [results, hr, hj', asAddr, h2]
/-- A field more, without an error. -/
theorem wdo34 {a : Nat} (hO : Own X w0 w L) (i : Nat) (hi : L[i]? = some (g, 107, #[.string ⟨V.L.toArray⟩, .int .i64 0, .int .i64 a])) (h0 : V.no = 0) (hl : V.L.length ≤ 900000) (f : FV) (hs : f.s.size ≤ 65535) (h1 : (encA f).no = 0) :
    Calls Tryz.prog 64 #[.pointer (some ⟨g, 0, none⟩), .agg #[.int .i64 f.k, .int .i64 f.n, .string f.s]] w fun x w' => x = .returned (.tuple #[]) ∧ ∃ a' : Nat, Own X w0 w' (L.set i (g, 107, #[.string ⟨(stepW V (encA f)).L.toArray⟩, .int .i64 0, .int .i64 a'])) := by
  have ho : RWObj w g V := ⟨V.L, a, by rw [h0]; exact hO.get i hi, fun _ => rfl, fun h => absurd h0 h⟩
  refine (rwdo_any ho hl f hs).mono ?_
  rintro x w' ⟨rfl, ⟨l, a', hb, e1, e2⟩, hf⟩
  have hn : (stepW V (encA f)).no = 0 := by rw [stepW_ok h0 h1]
  rw [hn, e1 hn] at hb
  exact ⟨rfl, a', hO.put i hi hf hb⟩
end
theorem numE_no (k : Nat) (n : Int) (h0 : 0 ≤ n) (h1 : n < ((256 ^ k : Nat) : Int)) : (numE k n).no = 0 := by unfold numE; rw [if_neg (by omega)]
def RPtSays (w : World) (q : PtR) (x : Ending) (w' : World) : Prop :=
  ∃ no : Nat, ∃ r a : Int, x = .returned (.tuple #[.string ⟨q.L.toArray⟩, .agg #[.int .i64 no, .int .i64 r, .int .i64 a]]) ∧ no = q.no ∧ Below w.heap.size w w'
set_option maxHeartbeats 16000000 in
theorem rput34_any {w : World} (o : OV) (A : Option Addr) (c : Nat) {Bp : Nat} (hBp : Bp ≤ w.heap.size) (hP : PIn w Bp A o.m.props) (hcap : o.m.props.length ≤ c) (hS : SmallO o) :
    Calls Tryz.prog 40 #[o.agg A c] w (RPtSays w (ptF o)) := by
  obtain ⟨kd, gr, sq, ⟨m1, m2, m3, m4, m5, m6, m7, m8, m9⟩⟩ := o
  obtain ⟨hg, hz1, hz2, hz6, hS⟩ := hS
  simp only at hP hcap hg hz1 hz2 hz6 hS
  obtain ⟨q, hq⟩ : ∃ q, q = ptF ⟨kd, gr, sq, ⟨m1, m2, m3, m4, m5, m6, m7, m8, m9⟩⟩ := ⟨_, rfl⟩
  rw [← hq]
  unfold ptF knO at hq
  simp only at hq
  obtain ⟨ok, hok⟩ : ∃ b, b = (decide (1 ≤ kd ∧ kd ≤ 3) && mayO ⟨kd, gr, sq, ⟨m1, m2, m3, m4, m5, m6, m7, m8, m9⟩⟩) := ⟨_, rfl⟩
  rw [← hok] at hq
  obtain ⟨n, hn⟩ : ∃ n, n = m5.length := ⟨_, rfl⟩
  obtain ⟨C, hC⟩ : ∃ C : Array Value, C = #[.int .i64 kd, .string gr, .int .i64 sq, .string m1, .string m2, .int .i64 m3, .bool m4, .slice A n c, .string m6, .int .i64 m7, .int .i64 m8, .string m9] := ⟨_, rfl⟩
  have hagg : OV.agg ⟨kd, gr, sq, ⟨m1, m2, m3, m4, m5, m6, m7, m8, m9⟩⟩ A c = .agg C := by rw [hC, hn]; rfl
  have HMY := Lib.hid (fun W => rmay34_any ⟨kd, gr, sq, ⟨m1, m2, m3, m4, m5, m6, m7, m8, m9⟩⟩ A c W)
  rw [hagg] at HMY ⊢
  simp only at HMY
  rw [← hok] at HMY
  rw [← hn] at hcap
  have HEN := Lib.hid (fun (W : World) (hb : Below w.heap.size w W) => rencode_any (w := W) 3 n c hn ((hP.below hb).mono (Nat.le_trans hBp hb.size)) hS hcap)
  have HC12 := Lib.hid (show C.size = 12 by rw [hC]; rfl)
  have KC := Lib.hid (fun (W1 : World) (k : Nat) (h : Blk W1 k 27 C) => show W1.cell? ⟨k, 0, none⟩ = some (.int .i64 kd) ∧ W1.cell? ⟨k, 1, none⟩ = some (.string gr) ∧ W1.cell? ⟨k, 2, none⟩ = some (.int .i64 sq) ∧ W1.cell? ⟨k, 3, none⟩ = some (.string m1) ∧ W1.cell? ⟨k, 4, none⟩ = some (.string m2) ∧ W1.cell? ⟨k, 5, none⟩ = some (.int .i64 m3) ∧ W1.cell? ⟨k, 6, none⟩ = some (.bool m4) ∧ W1.cell? ⟨k, 7, none⟩ = some (.slice A n c) ∧ W1.cell? ⟨k, 8, none⟩ = some (.string m6) ∧ W1.cell? ⟨k, 9, none⟩ = some (.int .i64 m7) from
    ⟨(h.cell 0).trans (by rw [hC]; rfl), (h.cell 1).trans (by rw [hC]; rfl), (h.cell 2).trans (by rw [hC]; rfl), (h.cell 3).trans (by rw [hC]; rfl), (h.cell 4).trans (by rw [hC]; rfl), (h.cell 5).trans (by rw [hC]; rfl), (h.cell 6).trans (by rw [hC]; rfl), (h.cell 7).trans (by rw [hC]; rfl), (h.cell 8).trans (by rw [hC]; rfl), (h.cell 9).trans (by rw [hC]; rfl)⟩)
  have hel := enc_len 3 hS
  obtain ⟨En, hEn⟩ : ∃ E, E = encR 3 m5 := ⟨_, rfl⟩
  rw [← hEn] at hq hel HEN
  have HQ := Lib.hid hq
  have HO := Lib.hid (Own.start [] w)
  have HOK := Lib.hid hok
  have HSZ := Lib.hid (And.intro hg (And.intro hz1 (And.intro hz2 (And.intro hz6 hel))))
  clear hq hP hBp hcap hS hC hn hEn hagg hok hg hz1 hz2 hz6 hel
  go_enter Tryz.func40, Tryz.ntmps40
  go_wp2_with (first
    | (refine wpo_box (t := 27) HO.out _ rfl rfl rfl ?_; clear HO; rintro k1 W1 hO; have HO := Lib.hid hO; clear hO; simp only [Act.put, List.setIfInBounds_toArray, List.set_cons_zero, List.set_cons_succ])
    | (refine wpo_alloc tyX HO.out rfl rfl ?_; clear HO; rintro k3 W2 hO; have HO := Lib.hid hO; clear hO; simp only [Act.put, List.setIfInBounds_toArray, List.set_cons_zero, List.set_cons_succ])
    | (refine wpo_load HO.out 1 tyO rfl HC12.out _ rfl rfl rfl ?_))
  refine (HMY.out _).mono ?_
  rintro x W3 ⟨rfl, hb⟩
  have hO := HO.out.below hb
  clear HO hb HMY
  have HO := Lib.hid hO
  clear hO
  cases ok
  case false =>
    have HX := Lib.hid (show q = ⟨7, 128, 0, []⟩ by rw [HQ.out]; rfl)
    clear HQ HOK
    go_wp2_with (first
      | (refine wpo_built (l := [(0, .int .i64 7), (1, .int .i64 128)]) (c := #[.int .i64 7, .int .i64 128, .int .i64 0]) (by kernel_rfl) rfl rfl rfl ?_)
      | (refine wpo_store (k := k3) HO.out 0 tyX rfl _ _ rfl rfl rfl rfl rfl rfl rfl ?_; clear HO; rintro W4 hO; have HO := Lib.hid hO; clear hO; simp only [Act.put]))
    exact bodyPost_ret (v := .tuple #[.string ⟨#[]⟩, .agg #[.int .i64 7, .int .i64 128, .int .i64 0]]) (res_own01r 0 HO.out tyX rfl rfl rfl rfl rfl) rfl ⟨7, 128, 0, by rw [HX.out]; rfl, by rw [HX.out], HO.out.bel⟩
  case true =>
  obtain ⟨hk1, hma⟩ : (1 ≤ kd ∧ kd ≤ 3) ∧ mayO ⟨kd, gr, sq, ⟨m1, m2, m3, m4, m5, m6, m7, m8, m9⟩⟩ = true := by
    have h := HOK.out
    rw [eq_comm, Bool.and_eq_true, decide_eq_true_eq] at h
    exact h
  have hsq : 1 ≤ sq ∧ sq ≤ 4294967295 := by
    unfold mayO mayA at hma
    simp only [Bool.and_eq_true, decide_eq_true_eq] at hma
    exact hma.1.1
  have hmm : kd = 1 → 0 ≤ m3 ∧ m3 ≤ 2 ∧ 0 ≤ m7 ∧ m7 ≤ 9007199254740992 := by
    intro h1
    unfold mayO mayM at hma
    simp only [h1, ne_eq, not_true_eq_false, decide_false, Bool.false_or, Bool.and_eq_true, decide_eq_true_eq] at hma
    exact hma.2.1.1
  obtain ⟨fl, hfl⟩ : ∃ fl : Int, fl = m3 + (if m4 = true then 4 else 0) := ⟨_, rfl⟩
  obtain ⟨Va, hVa⟩ : ∃ V, V = stepW w0 (encA ⟨1, kd, ⟨#[]⟩⟩) := ⟨_, rfl⟩
  obtain ⟨Vb, hVb⟩ : ∃ V, V = stepW Va (encA ⟨7, 0, gr⟩) := ⟨_, rfl⟩
  obtain ⟨Vc, hVc⟩ : ∃ V, V = stepW Vb (encA ⟨4, sq, ⟨#[]⟩⟩) := ⟨_, rfl⟩
  obtain ⟨Vd, hVd⟩ : ∃ V, V = stepW Vc (encA ⟨7, 0, m1⟩) := ⟨_, rfl⟩
  obtain ⟨Ve, hVe⟩ : ∃ V, V = stepW Vd (encA ⟨7, 0, m2⟩) := ⟨_, rfl⟩
  obtain ⟨Vf, hVf⟩ : ∃ V, V = stepW Ve (encA ⟨1, fl, ⟨#[]⟩⟩) := ⟨_, rfl⟩
  obtain ⟨Vg, hVg⟩ : ∃ V, V = stepW Vf (encA ⟨7, 0, m6⟩) := ⟨_, rfl⟩
  obtain ⟨Vh, hVh⟩ : ∃ V, V = stepW Vg (encA ⟨4, m7 / 4294967296, ⟨#[]⟩⟩) := ⟨_, rfl⟩
  obtain ⟨Vi, hVi⟩ : ∃ V, V = stepW Vh (encA ⟨4, m7 % 4294967296, ⟨#[]⟩⟩) := ⟨_, rfl⟩
  obtain ⟨Vj, hVj⟩ : ∃ V, V = stepW Vi (encA ⟨8, 0, ⟨En.L.toArray⟩⟩) := ⟨_, rfl⟩
  have hq := HQ.out
  rw [if_pos rfl, show stepL w0 (ptA ⟨kd, gr, sq, ⟨m1, m2, m3, m4, m5, m6, m7, m8, m9⟩⟩) = Vc by rw [hVc, hVb, hVa]; rfl] at hq
  have hpb : stepL Vc (ptB ⟨m1, m2, m3, m4, m5, m6, m7, m8, m9⟩ En.L) = Vj := by rw [hVj, hVi, hVh, hVg, hVf, hfl, hVe, hVd]; rfl
  rw [hpb] at hq
  obtain ⟨z0, z1, z2, z6, zE⟩ := HSZ.out
  have na : (encA ⟨1, kd, ⟨#[]⟩⟩).no = 0 := numE_no 1 kd (by omega) (by omega)
  have nb : ∀ s : ByteArray, (encA ⟨7, 0, s⟩).no = 0 := fun _ => rfl
  have nc : (encA ⟨4, sq, ⟨#[]⟩⟩).no = 0 := numE_no 4 sq (by omega) (by omega)
  have nj : (encA ⟨8, 0, ⟨En.L.toArray⟩⟩).no = 0 := rfl
  have sa : Va.no = 0 ∧ Va.L.length ≤ 1 := ⟨by rw [hVa, stepW_ok rfl na], by rw [hVa]; exact step_le _ _ 0 1 (Nat.le_refl _) (numE_len 1 _)⟩
  have sb : Vb.no = 0 ∧ Vb.L.length ≤ 70000 := ⟨by rw [hVb, stepW_ok sa.1 (nb _)], by rw [hVb]; exact step_le _ _ 1 69999 sa.2 (by show (binE gr).L.length ≤ _; rw [binE_len]; omega)⟩
  have sc : Vc.no = 0 ∧ Vc.L.length ≤ 70004 := ⟨by rw [hVc, stepW_ok sb.1 nc], by rw [hVc]; exact step_le _ _ 70000 4 sb.2 (numE_len 4 _)⟩
  have HVa := Lib.hid (And.intro hVa sa)
  have HVb := Lib.hid (And.intro hVb sb)
  have HVc := Lib.hid (And.intro hVc sc)
  have HVD := Lib.hid (show kd = 1 → (Vd = stepW Vc (encA ⟨7, 0, m1⟩) ∧ Vd.no = 0 ∧ Vd.L.length ≤ 140004) ∧ (Ve = stepW Vd (encA ⟨7, 0, m2⟩) ∧ Ve.no = 0 ∧ Ve.L.length ≤ 210004) ∧ (Vf = stepW Ve (encA ⟨1, fl, ⟨#[]⟩⟩) ∧ Vf.no = 0 ∧ Vf.L.length ≤ 210005) ∧ (Vg = stepW Vf (encA ⟨7, 0, m6⟩) ∧ Vg.no = 0 ∧ Vg.L.length ≤ 280005) ∧ (Vh = stepW Vg (encA ⟨4, m7 / 4294967296, ⟨#[]⟩⟩) ∧ Vh.no = 0 ∧ Vh.L.length ≤ 280009) ∧ (Vi = stepW Vh (encA ⟨4, m7 % 4294967296, ⟨#[]⟩⟩) ∧ Vi.no = 0 ∧ Vi.L.length ≤ 280013) ∧ (Vj = stepW Vi (encA ⟨8, 0, ⟨En.L.toArray⟩⟩) ∧ Vj.no = 0) ∧ (encA ⟨1, fl, ⟨#[]⟩⟩).no = 0 ∧ (encA ⟨4, m7 / 4294967296, ⟨#[]⟩⟩).no = 0 ∧ (encA ⟨4, m7 % 4294967296, ⟨#[]⟩⟩).no = 0 ∧ 0 ≤ m3 ∧ m3 ≤ 2 ∧ 0 ≤ m7 ∧ m7 ≤ 9007199254740992 by
    intro h1
    obtain ⟨t1, t2, t3, t4⟩ := hmm h1
    have nf : (encA ⟨1, fl, ⟨#[]⟩⟩).no = 0 := numE_no 1 fl (by rw [hfl]; split <;> omega) (by rw [hfl]; split <;> omega)
    have nh : (encA ⟨4, m7 / 4294967296, ⟨#[]⟩⟩).no = 0 := numE_no 4 (m7 / 4294967296) (by omega) (by omega)
    have ni : (encA ⟨4, m7 % 4294967296, ⟨#[]⟩⟩).no = 0 := numE_no 4 (m7 % 4294967296) (by omega) (by omega)
    have sd : Vd.no = 0 ∧ Vd.L.length ≤ 140004 := ⟨by rw [hVd, stepW_ok sc.1 (nb _)], by rw [hVd]; exact step_le _ _ 70004 70000 sc.2 (by show (binE m1).L.length ≤ _; rw [binE_len]; omega)⟩
    have se : Ve.no = 0 ∧ Ve.L.length ≤ 210004 := ⟨by rw [hVe, stepW_ok sd.1 (nb _)], by rw [hVe]; exact step_le _ _ 140004 70000 sd.2 (by show (binE m2).L.length ≤ _; rw [binE_len]; omega)⟩
    have sf : Vf.no = 0 ∧ Vf.L.length ≤ 210005 := ⟨by rw [hVf, stepW_ok se.1 nf], by rw [hVf]; exact step_le _ _ 210004 1 se.2 (numE_len 1 _)⟩
    have sg : Vg.no = 0 ∧ Vg.L.length ≤ 280005 := ⟨by rw [hVg, stepW_ok sf.1 (nb _)], by rw [hVg]; exact step_le _ _ 210005 70000 sf.2 (by show (binE m6).L.length ≤ _; rw [binE_len]; omega)⟩
    have sh : Vh.no = 0 ∧ Vh.L.length ≤ 280009 := ⟨by rw [hVh, stepW_ok sg.1 nh], by rw [hVh]; exact step_le _ _ 280005 4 sg.2 (numE_len 4 _)⟩
    have si : Vi.no = 0 ∧ Vi.L.length ≤ 280013 := ⟨by rw [hVi, stepW_ok sh.1 ni], by rw [hVi]; exact step_le _ _ 280009 4 sh.2 (numE_len 4 _)⟩
    have sj : Vj.no = 0 := by rw [hVj, stepW_ok si.1 nj]
    exact ⟨⟨hVd, sd⟩, ⟨hVe, se⟩, ⟨hVf, sf⟩, ⟨hVg, sg⟩, ⟨hVh, sh⟩, ⟨hVi, si⟩, ⟨hVj, sj⟩, nf, nh, ni, t1, t2, t3, t4⟩)
  have HQ2 := Lib.hid hq
  have HNA := Lib.hid na
  have HNC := Lib.hid nc
  have HFL := Lib.hid hfl
  clear hq hpb hVa hVb hVc hVd hVe hVf hVg hVh hVi hVj na nb nc nj sa sb sc hma hsq hmm hk1 HOK HQ hfl z0 z1 z2 z6 zE
  go_upto_region 4 with (first
    | (refine wpo_zero tyW rfl rfl ?_)
    | (refine wpo_box (t := 107) HO.out _ rfl rfl rfl ?_; clear HO; rintro kW W4 hO; have HO := Lib.hid hO; clear hO; simp only [Act.put, List.setIfInBounds_toArray, List.set_cons_zero, List.set_cons_succ]))
  obtain ⟨f0, f1, f2, f3, f4, f5, f6, f7, f8, f9⟩ := KC.out _ _ (HO.out.get 2 rfl)
  go_wp2_with (first | (refine wpo_built (l := [(0, .int .i64 1), (1, .int .i64 kd)]) (c := #[.int .i64 1, .int .i64 kd, .string ⟨#[]⟩]) (by kernel_rfl) rfl rfl rfl ?_))
  refine (wdo34 (V := w0) (a := 0) HO.out 0 rfl rfl (Nat.zero_le _) ⟨1, kd, ⟨#[]⟩⟩ (Nat.zero_le _) HNA.out).mono ?_
  rintro x W5 ⟨rfl, a5, hO⟩
  rw [← HVa.out.1] at hO
  simp only [List.set_cons_zero] at hO
  clear HO f0 f1 f2 f3 f4 f5 f6 f7 f8 f9
  have HO := Lib.hid hO
  clear hO
  obtain ⟨f0, f1, f2, f3, f4, f5, f6, f7, f8, f9⟩ := KC.out _ _ (HO.out.get 2 rfl)
  go_wp2_with (first | (refine wpo_built (l := [(0, .int .i64 7), (2, .string gr)]) (c := #[.int .i64 7, .int .i64 0, .string gr]) (by kernel_rfl) rfl rfl rfl ?_))
  refine (wdo34 HO.out 0 rfl HVa.out.2.1 (by have := HVa.out.2.2; omega) ⟨7, 0, gr⟩ HSZ.out.1 rfl).mono ?_
  rintro x W6 ⟨rfl, a6, hO⟩
  rw [← HVb.out.1] at hO
  simp only [List.set_cons_zero] at hO
  clear HO f0 f1 f2 f3 f4 f5 f6 f7 f8 f9
  have HO := Lib.hid hO
  clear hO
  obtain ⟨f0, f1, f2, f3, f4, f5, f6, f7, f8, f9⟩ := KC.out _ _ (HO.out.get 2 rfl)
  go_wp2_with (first | (refine wpo_built (l := [(0, .int .i64 4), (1, .int .i64 sq)]) (c := #[.int .i64 4, .int .i64 sq, .string ⟨#[]⟩]) (by kernel_rfl) rfl rfl rfl ?_))
  refine (wdo34 HO.out 0 rfl HVb.out.2.1 (by have := HVb.out.2.2; omega) ⟨4, sq, ⟨#[]⟩⟩ (Nat.zero_le _) HNC.out).mono ?_
  rintro x W7 ⟨rfl, a7, hO⟩
  rw [← HVc.out.1] at hO
  simp only [List.set_cons_zero] at hO
  clear HO f0 f1 f2 f3 f4 f5 f6 f7 f8 f9
  have HO := Lib.hid hO
  clear hO
  obtain ⟨f0, f1, f2, f3, f4, f5, f6, f7, f8, f9⟩ := KC.out _ _ (HO.out.get 2 rfl)
  by_cases hkd : kd = 1
  case neg =>
    have hkb : (kd == 1) = false := by simpa using hkd
    have hq := HQ2.out
    rw [if_neg hkd] at hq
    have HX := Lib.hid hq
    clear HQ2 hq HVD
    have w0c : W7.cell? ⟨kW, 0, none⟩ = some (.string ⟨Vc.L.toArray⟩) := (HO.out.get 0 rfl).cell 0
    have w1c : W7.cell? ⟨kW, 1, none⟩ = some (.int .i64 0) := (HO.out.get 0 rfl).cell 1
    go_wp2_with (first
      | (refine wpo_zero tyX rfl rfl ?_)
      | (refine wpo_store (k := k3) HO.out 1 tyX rfl _ _ rfl rfl rfl rfl rfl rfl rfl ?_; clear HO; rintro Wz hO; have HO := Lib.hid hO; clear hO; simp only [Act.put]))
    exact bodyPost_ret (v := .tuple #[.string ⟨Vc.L.toArray⟩, .agg #[.int .i64 0, .int .i64 0, .int .i64 0]]) (res_own01r 1 HO.out tyX rfl rfl rfl rfl rfl) rfl ⟨0, 0, 0, by rw [HX.out]; rfl, by rw [HX.out]; exact HVc.out.2.1.symm, HO.out.bel⟩
  case pos =>
    subst hkd
    obtain ⟨xd, xe, xf, xg, xh, xi, xj, nf, nh, ni, t1, t2, t3, t4⟩ := HVD.out rfl
    have HVd := Lib.hid xd
    have HVe := Lib.hid xe
    have HVf := Lib.hid xf
    have HVg := Lib.hid xg
    have HVh := Lib.hid xh
    have HVi := Lib.hid xi
    have HVj := Lib.hid xj
    have HNF := Lib.hid nf
    have HNH := Lib.hid nh
    have HNI := Lib.hid ni
    have hq := HQ2.out
    rw [if_pos rfl] at hq
    have HQ3 := Lib.hid hq
    clear xd xe xf xg xh xi xj nf nh ni HVD HQ2 hq
    go_wp2_with fail
    refine (HEN.out _ HO.out.bel).mono ?_
    rintro x W8 ⟨en, er, ea, rfl, hen, hee, hb⟩
    have hO := HO.out.below hb
    have HEQ := Lib.hid (And.intro hen hee)
    clear HO hb HEN hen hee f0 f1 f2 f3 f4 f5 f6 f7 f8 f9
    have HO := Lib.hid hO
    clear hO
    obtain ⟨f0, f1, f2, f3, f4, f5, f6, f7, f8, f9⟩ := KC.out _ _ (HO.out.get 2 rfl)
    go_upto_region 9 with (first
      | (refine wpo_alloc tyX HO.out rfl rfl ?_; clear HO; rintro k6 W9 hO; have HO := Lib.hid hO; clear hO; simp only [Act.put, List.setIfInBounds_toArray, List.set_cons_zero, List.set_cons_succ])
      | (refine wpo_store (k := k6) HO.out 0 tyX rfl _ _ rfl rfl rfl rfl rfl rfl rfl ?_; clear HO; rintro W10 hO; have HO := Lib.hid hO; clear hO; simp only [Act.put]))
    clear f0 f1 f2 f3 f4 f5 f6 f7 f8 f9
    have e6 : W10.cell? ⟨k6, 0, none⟩ = some (.int .i64 (en : Int)) := (HO.out.get 0 rfl).cell 0
    by_cases h0 : En.no = 0
    case neg =>
      have h0i : ¬ (en : Int) = 0 := by have := HEQ.out.1; omega
      have HX := Lib.hid (show q = ⟨En.no, En.r, En.at_, []⟩ by rw [HQ3.out, if_neg h0])
      clear h0 HQ3
      go_upto_region 10 with fail
      refine wpo_y1 (yA := (k3, 34, #[.int .i64 (en : Int), .int .i64 er, .int .i64 (ea : Int)])) [(42, .agg #[.int .i64 (en : Int), .int .i64 er, .int .i64 (ea : Int)]), (2, .string ⟨#[]⟩)] 2 mixed (by kernel_rfl) HO.out rfl (fun _ _ _ _ _ h => h) ?_ rfl ?_ ?_
      · refine ⟨⟨_, rfl, rfl, yo_load rfl tyX (fun _ h => by obtain ⟨M, hM, he⟩ := h; exact hM.get 0 ((he 0 (by decide)).trans rfl)) rfl _ rfl rfl⟩, ?_⟩
        simp only [Act.put, List.setIfInBounds_toArray, List.set_cons_zero, List.set_cons_succ]
        refine ⟨⟨_, rfl, rfl, Or.inl ⟨rfl, fun w' _ => ?_⟩⟩, trivial⟩
        go_simp
      · simp only [putD, Act.put, List.setIfInBounds_toArray, List.set_cons_zero, List.set_cons_succ]
        exact sto_row tyX _ _ rfl rfl rfl rfl rfl rfl rfl rfl
      · intro W11 hO
        simp only [putD, Act.put, List.setIfInBounds_toArray, List.set_cons_zero, List.set_cons_succ] at hO ⊢
        clear HO e6
        have HO := Lib.hid hO
        clear hO
        go_wp2_with fail
        exact bodyPost_ret (v := .tuple #[.string ⟨#[]⟩, .agg #[.int .i64 (en : Int), .int .i64 er, .int .i64 (ea : Int)]]) (res_own01r 2 HO.out tyX rfl rfl rfl rfl rfl) rfl ⟨en, er, ea, by rw [HX.out], by rw [HX.out]; exact HEQ.out.1, HO.out.bel⟩
    case pos =>
      have hen : en = 0 := by have := HEQ.out.1; omega
      subst hen
      have e60 : W10.cell? ⟨k6, 0, none⟩ = some (.int .i64 0) := e6
      have HX := Lib.hid (show q = ptW Vj by rw [HQ3.out, if_pos h0])
      have hfl2 : (m4 = false ∧ m3 = fl) ∨ (m4 = true ∧ m3 + 4 = fl) := by
        have h := HFL.out
        cases m4
        · left; exact ⟨rfl, by rw [h]; simp⟩
        · right; exact ⟨rfl, by rw [h]; simp⟩
      have hd1 : m7.tdiv 4294967296 = m7 / 4294967296 := Int.tdiv_eq_ediv_of_nonneg t3
      have hd2 : m7.tmod 4294967296 = m7 % 4294967296 := Int.tmod_eq_emod_of_nonneg t3
      clear HQ3 h0 HEQ e6 HFL
      obtain ⟨f0, f1, f2, f3, f4, f5, f6, f7, f8, f9⟩ := KC.out _ _ (HO.out.get 3 rfl)
      rcases hfl2 with ⟨rfl, rfl⟩ | ⟨rfl, b1⟩
      · go_wp2_with (first | (refine wpo_built (l := [(0, .int .i64 7), (2, .string m1)]) (c := #[.int .i64 7, .int .i64 0, .string m1]) (by kernel_rfl) rfl rfl rfl ?_))
        refine (wdo34 HO.out 1 rfl HVc.out.2.1 (by have := HVc.out.2.2; omega) ⟨7, 0, m1⟩ HSZ.out.2.1 rfl).mono ?_
        rintro x W12 ⟨rfl, a12, hO⟩
        rw [← HVd.out.1] at hO
        simp only [List.set_cons_zero, List.set_cons_succ] at hO
        clear HO f0 f1 f2 f3 f4 f5 f6 f7 f8 f9
        have HO := Lib.hid hO
        clear hO
        obtain ⟨f0, f1, f2, f3, f4, f5, f6, f7, f8, f9⟩ := KC.out _ _ (HO.out.get 3 rfl)
        go_wp2_with (first | (refine wpo_built (l := [(0, .int .i64 7), (2, .string m2)]) (c := #[.int .i64 7, .int .i64 0, .string m2]) (by kernel_rfl) rfl rfl rfl ?_))
        refine (wdo34 HO.out 1 rfl HVd.out.2.1 (by have := HVd.out.2.2; omega) ⟨7, 0, m2⟩ HSZ.out.2.2.1 rfl).mono ?_
        rintro x W13 ⟨rfl, a13, hO⟩
        rw [← HVe.out.1] at hO
        simp only [List.set_cons_zero, List.set_cons_succ] at hO
        clear HO f0 f1 f2 f3 f4 f5 f6 f7 f8 f9
        have HO := Lib.hid hO
        clear hO
        obtain ⟨f0, f1, f2, f3, f4, f5, f6, f7, f8, f9⟩ := KC.out _ _ (HO.out.get 3 rfl)
        go_wp2_with (first | (refine wpo_built (l := [(0, .int .i64 1), (1, .int .i64 m3)]) (c := #[.int .i64 1, .int .i64 m3, .string ⟨#[]⟩]) (by kernel_rfl) rfl rfl rfl ?_))
        refine (wdo34 HO.out 1 rfl HVe.out.2.1 (by have := HVe.out.2.2; omega) ⟨1, m3, ⟨#[]⟩⟩ (Nat.zero_le _) HNF.out).mono ?_
        rintro x W14 ⟨rfl, a14, hO⟩
        rw [← HVf.out.1] at hO
        simp only [List.set_cons_zero, List.set_cons_succ] at hO
        clear HO f0 f1 f2 f3 f4 f5 f6 f7 f8 f9
        have HO := Lib.hid hO
        clear hO
        obtain ⟨f0, f1, f2, f3, f4, f5, f6, f7, f8, f9⟩ := KC.out _ _ (HO.out.get 3 rfl)
        go_wp2_with (first | (refine wpo_built (l := [(0, .int .i64 7), (2, .string m6)]) (c := #[.int .i64 7, .int .i64 0, .string m6]) (by kernel_rfl) rfl rfl rfl ?_))
        refine (wdo34 HO.out 1 rfl HVf.out.2.1 (by have := HVf.out.2.2; omega) ⟨7, 0, m6⟩ HSZ.out.2.2.2.1 rfl).mono ?_
        rintro x W15 ⟨rfl, a15, hO⟩
        rw [← HVg.out.1] at hO
        simp only [List.set_cons_zero, List.set_cons_succ] at hO
        clear HO f0 f1 f2 f3 f4 f5 f6 f7 f8 f9
        have HO := Lib.hid hO
        clear hO
        obtain ⟨f0, f1, f2, f3, f4, f5, f6, f7, f8, f9⟩ := KC.out _ _ (HO.out.get 3 rfl)
        go_wp2_with (first | (refine wpo_built (l := [(0, .int .i64 4), (1, .int .i64 (m7 / 4294967296))]) (c := #[.int .i64 4, .int .i64 (m7 / 4294967296), .string ⟨#[]⟩]) (by kernel_rfl) rfl rfl rfl ?_))
        refine (wdo34 HO.out 1 rfl HVg.out.2.1 (by have := HVg.out.2.2; omega) ⟨4, m7 / 4294967296, ⟨#[]⟩⟩ (Nat.zero_le _) HNH.out).mono ?_
        rintro x W16 ⟨rfl, a16, hO⟩
        rw [← HVh.out.1] at hO
        simp only [List.set_cons_zero, List.set_cons_succ] at hO
        clear HO f0 f1 f2 f3 f4 f5 f6 f7 f8 f9
        have HO := Lib.hid hO
        clear hO
        obtain ⟨f0, f1, f2, f3, f4, f5, f6, f7, f8, f9⟩ := KC.out _ _ (HO.out.get 3 rfl)
        go_wp2_with (first | (refine wpo_built (l := [(0, .int .i64 4), (1, .int .i64 (m7 % 4294967296))]) (c := #[.int .i64 4, .int .i64 (m7 % 4294967296), .string ⟨#[]⟩]) (by kernel_rfl) rfl rfl rfl ?_))
        refine (wdo34 HO.out 1 rfl HVh.out.2.1 (by have := HVh.out.2.2; omega) ⟨4, m7 % 4294967296, ⟨#[]⟩⟩ (Nat.zero_le _) HNI.out).mono ?_
        rintro x W17 ⟨rfl, a17, hO⟩
        rw [← HVi.out.1] at hO
        simp only [List.set_cons_zero, List.set_cons_succ] at hO
        clear HO f0 f1 f2 f3 f4 f5 f6 f7 f8 f9
        have HO := Lib.hid hO
        clear hO
        obtain ⟨f0, f1, f2, f3, f4, f5, f6, f7, f8, f9⟩ := KC.out _ _ (HO.out.get 3 rfl)
        go_wp2_with (first | (refine wpo_built (l := [(0, .int .i64 8), (2, .string ⟨En.L.toArray⟩)]) (c := #[.int .i64 8, .int .i64 0, .string ⟨En.L.toArray⟩]) (by kernel_rfl) rfl rfl rfl ?_))
        refine (wdo34 HO.out 1 rfl HVi.out.2.1 (by have := HVi.out.2.2; omega) ⟨8, 0, ⟨En.L.toArray⟩⟩ (by rw [bsize]; exact HSZ.out.2.2.2.2) rfl).mono ?_
        rintro x W18 ⟨rfl, a18, hO⟩
        rw [← HVj.out.1] at hO
        simp only [List.set_cons_zero, List.set_cons_succ] at hO
        clear HO f0 f1 f2 f3 f4 f5 f6 f7 f8 f9
        have HO := Lib.hid hO
        clear hO
        obtain ⟨f0, f1, f2, f3, f4, f5, f6, f7, f8, f9⟩ := KC.out _ _ (HO.out.get 3 rfl)
        have w0c : W18.cell? ⟨kW, 0, none⟩ = some (.string ⟨Vj.L.toArray⟩) := (HO.out.get 1 rfl).cell 0
        have w1c : W18.cell? ⟨kW, 1, none⟩ = some (.int .i64 0) := (HO.out.get 1 rfl).cell 1
        go_wp2_with (first
          | (refine wpo_zero tyX rfl rfl ?_)
          | (refine wpo_store (k := k3) HO.out 2 tyX rfl _ _ rfl rfl rfl rfl rfl rfl rfl ?_; clear HO; rintro Wz hO; have HO := Lib.hid hO; clear hO; simp only [Act.put]))
        exact bodyPost_ret (v := .tuple #[.string ⟨Vj.L.toArray⟩, .agg #[.int .i64 0, .int .i64 0, .int .i64 0]]) (res_own01r 2 HO.out tyX rfl rfl rfl rfl rfl) rfl ⟨0, 0, 0, by rw [HX.out]; rfl, by rw [HX.out]; exact HVj.out.2.symm, HO.out.bel⟩
      · go_wp2_with (first | (refine wpo_built (l := [(0, .int .i64 7), (2, .string m1)]) (c := #[.int .i64 7, .int .i64 0, .string m1]) (by kernel_rfl) rfl rfl rfl ?_))
        refine (wdo34 HO.out 1 rfl HVc.out.2.1 (by have := HVc.out.2.2; omega) ⟨7, 0, m1⟩ HSZ.out.2.1 rfl).mono ?_
        rintro x W12 ⟨rfl, a12, hO⟩
        rw [← HVd.out.1] at hO
        simp only [List.set_cons_zero, List.set_cons_succ] at hO
        clear HO f0 f1 f2 f3 f4 f5 f6 f7 f8 f9
        have HO := Lib.hid hO
        clear hO
        obtain ⟨f0, f1, f2, f3, f4, f5, f6, f7, f8, f9⟩ := KC.out _ _ (HO.out.get 3 rfl)
        go_wp2_with (first | (refine wpo_built (l := [(0, .int .i64 7), (2, .string m2)]) (c := #[.int .i64 7, .int .i64 0, .string m2]) (by kernel_rfl) rfl rfl rfl ?_))
        refine (wdo34 HO.out 1 rfl HVd.out.2.1 (by have := HVd.out.2.2; omega) ⟨7, 0, m2⟩ HSZ.out.2.2.1 rfl).mono ?_
        rintro x W13 ⟨rfl, a13, hO⟩
        rw [← HVe.out.1] at hO
        simp only [List.set_cons_zero, List.set_cons_succ] at hO
        clear HO f0 f1 f2 f3 f4 f5 f6 f7 f8 f9
        have HO := Lib.hid hO
        clear hO
        obtain ⟨f0, f1, f2, f3, f4, f5, f6, f7, f8, f9⟩ := KC.out _ _ (HO.out.get 3 rfl)
        go_wp2_with (first | (refine wpo_built (l := [(0, .int .i64 1), (1, .int .i64 fl)]) (c := #[.int .i64 1, .int .i64 fl, .string ⟨#[]⟩]) (by kernel_rfl) rfl rfl rfl ?_))
        refine (wdo34 HO.out 1 rfl HVe.out.2.1 (by have := HVe.out.2.2; omega) ⟨1, fl, ⟨#[]⟩⟩ (Nat.zero_le _) HNF.out).mono ?_
        rintro x W14 ⟨rfl, a14, hO⟩
        rw [← HVf.out.1] at hO
        simp only [List.set_cons_zero, List.set_cons_succ] at hO
        clear HO f0 f1 f2 f3 f4 f5 f6 f7 f8 f9
        have HO := Lib.hid hO
        clear hO
        obtain ⟨f0, f1, f2, f3, f4, f5, f6, f7, f8, f9⟩ := KC.out _ _ (HO.out.get 3 rfl)
        go_wp2_with (first | (refine wpo_built (l := [(0, .int .i64 7), (2, .string m6)]) (c := #[.int .i64 7, .int .i64 0, .string m6]) (by kernel_rfl) rfl rfl rfl ?_))
        refine (wdo34 HO.out 1 rfl HVf.out.2.1 (by have := HVf.out.2.2; omega) ⟨7, 0, m6⟩ HSZ.out.2.2.2.1 rfl).mono ?_
        rintro x W15 ⟨rfl, a15, hO⟩
        rw [← HVg.out.1] at hO
        simp only [List.set_cons_zero, List.set_cons_succ] at hO
        clear HO f0 f1 f2 f3 f4 f5 f6 f7 f8 f9
        have HO := Lib.hid hO
        clear hO
        obtain ⟨f0, f1, f2, f3, f4, f5, f6, f7, f8, f9⟩ := KC.out _ _ (HO.out.get 3 rfl)
        go_wp2_with (first | (refine wpo_built (l := [(0, .int .i64 4), (1, .int .i64 (m7 / 4294967296))]) (c := #[.int .i64 4, .int .i64 (m7 / 4294967296), .string ⟨#[]⟩]) (by kernel_rfl) rfl rfl rfl ?_))
        refine (wdo34 HO.out 1 rfl HVg.out.2.1 (by have := HVg.out.2.2; omega) ⟨4, m7 / 4294967296, ⟨#[]⟩⟩ (Nat.zero_le _) HNH.out).mono ?_
        rintro x W16 ⟨rfl, a16, hO⟩
        rw [← HVh.out.1] at hO
        simp only [List.set_cons_zero, List.set_cons_succ] at hO
        clear HO f0 f1 f2 f3 f4 f5 f6 f7 f8 f9
        have HO := Lib.hid hO
        clear hO
        obtain ⟨f0, f1, f2, f3, f4, f5, f6, f7, f8, f9⟩ := KC.out _ _ (HO.out.get 3 rfl)
        go_wp2_with (first | (refine wpo_built (l := [(0, .int .i64 4), (1, .int .i64 (m7 % 4294967296))]) (c := #[.int .i64 4, .int .i64 (m7 % 4294967296), .string ⟨#[]⟩]) (by kernel_rfl) rfl rfl rfl ?_))
        refine (wdo34 HO.out 1 rfl HVh.out.2.1 (by have := HVh.out.2.2; omega) ⟨4, m7 % 4294967296, ⟨#[]⟩⟩ (Nat.zero_le _) HNI.out).mono ?_
        rintro x W17 ⟨rfl, a17, hO⟩
        rw [← HVi.out.1] at hO
        simp only [List.set_cons_zero, List.set_cons_succ] at hO
        clear HO f0 f1 f2 f3 f4 f5 f6 f7 f8 f9
        have HO := Lib.hid hO
        clear hO
        obtain ⟨f0, f1, f2, f3, f4, f5, f6, f7, f8, f9⟩ := KC.out _ _ (HO.out.get 3 rfl)
        go_wp2_with (first | (refine wpo_built (l := [(0, .int .i64 8), (2, .string ⟨En.L.toArray⟩)]) (c := #[.int .i64 8, .int .i64 0, .string ⟨En.L.toArray⟩]) (by kernel_rfl) rfl rfl rfl ?_))
        refine (wdo34 HO.out 1 rfl HVi.out.2.1 (by have := HVi.out.2.2; omega) ⟨8, 0, ⟨En.L.toArray⟩⟩ (by rw [bsize]; exact HSZ.out.2.2.2.2) rfl).mono ?_
        rintro x W18 ⟨rfl, a18, hO⟩
        rw [← HVj.out.1] at hO
        simp only [List.set_cons_zero, List.set_cons_succ] at hO
        clear HO f0 f1 f2 f3 f4 f5 f6 f7 f8 f9
        have HO := Lib.hid hO
        clear hO
        obtain ⟨f0, f1, f2, f3, f4, f5, f6, f7, f8, f9⟩ := KC.out _ _ (HO.out.get 3 rfl)
        have w0c : W18.cell? ⟨kW, 0, none⟩ = some (.string ⟨Vj.L.toArray⟩) := (HO.out.get 1 rfl).cell 0
        have w1c : W18.cell? ⟨kW, 1, none⟩ = some (.int .i64 0) := (HO.out.get 1 rfl).cell 1
        go_wp2_with (first
          | (refine wpo_zero tyX rfl rfl ?_)
          | (refine wpo_store (k := k3) HO.out 2 tyX rfl _ _ rfl rfl rfl rfl rfl rfl rfl ?_; clear HO; rintro Wz hO; have HO := Lib.hid hO; clear hO; simp only [Act.put]))
        exact bodyPost_ret (v := .tuple #[.string ⟨Vj.L.toArray⟩, .agg #[.int .i64 0, .int .i64 0, .int .i64 0]]) (res_own01r 2 HO.out tyX rfl rfl rfl rfl rfl) rfl ⟨0, 0, 0, by rw [HX.out]; rfl, by rw [HX.out]; exact HVj.out.2.symm, HO.out.bel⟩
end Go.Proofs.YtnolnhpmpjgnaaaGreatDoor

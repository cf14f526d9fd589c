/- What is proved here: what a record tells (the document's Take). Conditions: few bytes. -/
import Derived.Test.YtnolnhpmpjgnaaaGreatDoorTak34
import Derived.Test.YtnolnhpmpjgnaaaGreatDoorOwr34
import Derived.Test.YtnolnhpmpjgnaaaGreatDoorRre06
namespace Go.Proofs.YtnolnhpmpjgnaaaGreatDoor
set_option maxRecDepth 100000
open Go.RowKit Go.Extern.Stop Go.Stop Go.Extern
theorem tyX : Ty Tryz.prog 34 #[.int .i64 0, .int .i64 0, .int .i64 0] := ty_mk (n := 3) (by kernel_rfl) rfl Tryz.underlying34 rfl (by kernel_rfl) rfl
theorem tyE : Ty1 Tryz.prog 32 := ⟨by kernel_rfl, _, Tryz.underlying32, rfl⟩
section
variable {X : List Nat} {w0 w w' : World} {L : OL} {g : Nat} {s : ByteArray} {R R' : RV} {c : Array Value}
theorem Own.rd (h : Own X w0 w L) (i : Nat) (hi : L[i]? = some (g, 66, #[.string s, .int .i64 R.p, .int .i64 R.no, .int .i64 R.ea])) (hle : R.p ≤ s.size) : RRObj w g s R := ⟨h.get i hi, hle⟩
theorem Own.rstep (h : Own X w0 w L) (i : Nat) (hi : L[i]? = some (g, 66, c)) (hn : RRNext w w' g s R') : Own X w0 w' (L.set i (g, 66, #[.string s, .int .i64 R'.p, .int .i64 R'.no, .int .i64 R'.ea])) := h.put i hi hn.fr hn.obj.blk
end
theorem til_add (hi lo : Nat) (h1 : hi < 4294967296) (h2 : lo < 4294967296) : wrap64 (wrap64 ((hi : Int) * 4294967296) + (lo : Int)) = tilF hi lo := by
  unfold wrap64 tilF
  split <;> omega
theorem til_bit : ∀ n : Nat, n < 256 → ((wrap64 ((n : Int) / 4)).tmod 2 == 1) = decide (n / 4 % 2 = 1) := by decide +kernel
def RTkSays (w : World) (q : TkR) (x : Ending) (w' : World) : Prop :=
  ∃ A c, x = .returned (.tuple #[q.o.agg A c, fltV (q.no, q.r, q.at_)]) ∧ PIn w' 0 A q.o.m.props ∧ q.o.m.props.length ≤ c ∧ Below w.heap.size w w'
set_option maxHeartbeats 8000000
theorem rtake34_any {w : World} {s : ByteArray} (hs : s.size ≤ 900000) :
    Calls Tryz.prog 8 #[.string s] w (RTkSays w (tkF s)) := by
  obtain ⟨q, hq⟩ : ∃ q, q = tkF s := ⟨_, rfl⟩
  rw [← hq]
  unfold tkF at hq
  obtain ⟨T1, h1⟩ : ∃ T, T = tkK s := ⟨_, rfl⟩
  have f1 : T1 = rNum s 1 ⟨0, 0, 0⟩ := h1
  obtain ⟨T2, h2⟩ : ∃ T, T = tkG s := ⟨_, rfl⟩
  have f2 : T2 = rBin s T1.2 := by rw [h2, h1]; rfl
  obtain ⟨T3, h3⟩ : ∃ T, T = tkQ s := ⟨_, rfl⟩
  have f3 : T3 = rNum s 4 T2.2 := by rw [h3, h2]; rfl
  rw [← h1, ← h2, ← h3] at hq
  have F1 := Lib.hid f1
  have F2 := Lib.hid f2
  have F3 := Lib.hid f3
  have HQ := Lib.hid hq
  have HO := Lib.hid (Own.start [] w)
  have HL := Lib.hid (Nat.zero_le s.size)
  clear hq h1 h2 h3 f1 f2 f3
  have HBIN := Lib.hid (fun (g : Nat) (W : World) (R' : RV) (h : RRObj W g s R') => rrbin_any h hs)
  have HU8 := Lib.hid (fun (g : Nat) (W : World) (R' : RV) (h : RRObj W g s R') => rru8_any h (by omega))
  have HU32 := Lib.hid (fun (g : Nat) (W : World) (R' : RV) (h : RRObj W g s R') => rru32_any h (by omega))
  have HPR := Lib.hid (fun (g : Nat) (W : World) (R' : RV) (h : RRObj W g s R') => rread_any h hs 3)
  have HDN := Lib.hid (fun (g : Nat) (W : World) (R' : RV) (h : RRObj W g s R') => rrdone_any h)
  go_enter Tryz.func8, Tryz.ntmps8
  go_upto_region 2 with (first | (refine wpo_alloc tyO HO.out rfl rfl ?_; clear HO; rintro k2 W1 hO; have HO := Lib.hid hO; clear hO; simp only [Act.put, List.setIfInBounds_toArray, List.set_cons_zero, List.set_cons_succ]) | (refine wpo_alloc tyX HO.out rfl rfl ?_; clear HO; rintro k3 W2 hO; have HO := Lib.hid hO; clear hO; simp only [Act.put, List.setIfInBounds_toArray, List.set_cons_zero, List.set_cons_succ]) | (refine wpo_built (l := [(0, .string s)]) (c := #[.string s, .int .i64 0, .int .i64 0, .int .i64 0]) rfl rfl rfl rfl ?_) | (refine wpo_box (t := 66) HO.out _ rfl rfl rfl ?_; clear HO; rintro kr W3 hO; have HO := Lib.hid hO; clear hO; simp only [Act.put, List.setIfInBounds_toArray, List.set_cons_zero, List.set_cons_succ]))
  go_wp2_with fail
  refine (HU8.out _ _ _ (HO.out.rd 0 rfl (R := ⟨0, 0, 0⟩) HL.out)).mono ?_
  rintro x W4 ⟨rfl, hN⟩
  rw [← F1.out] at hN ⊢
  have hO := HO.out.rstep 0 rfl hN
  simp only [List.set_cons_zero] at hO
  have hL := hN.obj.le
  clear HO HL
  have HO := Lib.hid hO
  have HL := Lib.hid hL
  clear hO hL hN
  go_upto_region 3 with (first | (refine wpo_built (l := [(0, .int .i64 T1.1)]) (c := #[.int .i64 T1.1, .string ⟨#[]⟩, .int .i64 0, .string ⟨#[]⟩, .string ⟨#[]⟩, .int .i64 0, .bool false, .slice none 0 0, .string ⟨#[]⟩, .int .i64 0, .int .i64 0, .string ⟨#[]⟩]) rfl rfl rfl rfl ?_) | (refine wpo_alloc tyO HO.out rfl rfl ?_; clear HO; rintro k5 W5 hO; have HO := Lib.hid hO; clear hO; simp only [Act.put, List.setIfInBounds_toArray, List.set_cons_zero, List.set_cons_succ]) | (refine wpo_store (k := k5) HO.out 0 tyO rfl _ _ rfl rfl rfl rfl rfl rfl rfl ?_; clear HO; rintro W6 hO; simp only [List.set_cons_zero] at hO; have HO := Lib.hid hO; clear hO; simp only [Act.put]))
  go_wp2_with fail
  refine (HBIN.out _ _ _ (HO.out.rd 1 rfl (R := T1.2) HL.out)).mono ?_
  rintro x W7 ⟨rfl, hN⟩
  rw [← F2.out] at hN ⊢
  have hO := HO.out.rstep 1 rfl hN
  simp only [List.set_cons_zero, List.set_cons_succ] at hO
  have hL := hN.obj.le
  clear HO HL
  have HO := Lib.hid hO
  have HL := Lib.hid hL
  clear hO hL hN
  go_upto_region 4 with (first | (refine wpo_cell (k := k5) (v := .string T2.1) HO.out 0 1 tyS.ip rfl _ _ rfl rfl rfl rfl (show 1 < 12 by decide) rfl ?_; clear HO; rintro W8 hO; simp only [List.setIfInBounds_toArray, List.set_cons_zero, List.set_cons_succ] at hO; have HO := Lib.hid hO; clear hO; simp only [Act.put]))
  go_wp2_with fail
  refine (HU32.out _ _ _ (HO.out.rd 1 rfl (R := T2.2) HL.out)).mono ?_
  rintro x W9 ⟨rfl, hN⟩
  rw [← F3.out] at hN ⊢
  have hO := HO.out.rstep 1 rfl hN
  simp only [List.set_cons_zero, List.set_cons_succ] at hO
  have hL := hN.obj.le
  clear HO HL
  have HO := Lib.hid hO
  have HL := Lib.hid hL
  clear hO hL hN
  go_upto_region 6 with (first | (refine wpo_cell (k := k5) (v := .int .i64 T3.1) HO.out 0 2 tyI.ip rfl _ _ rfl rfl rfl rfl (show 2 < 12 by decide) rfl ?_; clear HO; rintro W10 hO; simp only [List.setIfInBounds_toArray, List.set_cons_zero, List.set_cons_succ] at hO; have HO := Lib.hid hO; clear hO; simp only [Act.put]))
  have kd : W10.cell? ⟨k5, 0, none⟩ = some (.int .i64 T1.1) := (HO.out.get 0 rfl).cell 0
  have kd1 : W10.cell? ⟨k5, 1, none⟩ = some (.string T2.1) := (HO.out.get 0 rfl).cell 1
  have kd2 : W10.cell? ⟨k5, 2, none⟩ = some (.int .i64 T3.1) := (HO.out.get 0 rfl).cell 2
  by_cases h1 : T1.1 = 1
  case pos =>
    have e1 : ((T1.1 : Int) == 1) = true := by simp [h1]
    have H1 := Lib.hid h1
    clear h1
    have hq := HQ.out
    rw [if_pos H1.out] at hq
    unfold msF at hq
    clear HQ
    obtain ⟨M1, h1⟩ : ∃ T, T = msT s T3.2 := ⟨_, rfl⟩
    have f1 : M1 = rBin s T3.2 := h1
    obtain ⟨M2, h2⟩ : ∃ T, T = msP s T3.2 := ⟨_, rfl⟩
    have f2 : M2 = rBin s M1.2 := by rw [h2, h1]; rfl
    obtain ⟨M3, h3⟩ : ∃ T, T = msB s T3.2 := ⟨_, rfl⟩
    have f3 : M3 = rNum s 1 M2.2 := by rw [h3, h2]; rfl
    obtain ⟨M4, h4⟩ : ∃ T, T = msU s T3.2 := ⟨_, rfl⟩
    have f4 : M4 = rBin s M3.2 := by rw [h4, h3]; rfl
    obtain ⟨M5, h5⟩ : ∃ T, T = msH s T3.2 := ⟨_, rfl⟩
    have f5 : M5 = rNum s 4 M4.2 := by rw [h5, h4]; rfl
    obtain ⟨M6, h6⟩ : ∃ T, T = msL s T3.2 := ⟨_, rfl⟩
    have f6 : M6 = rNum s 4 M5.2 := by rw [h6, h5]; rfl
    obtain ⟨M7, h7⟩ : ∃ T, T = msD s T3.2 := ⟨_, rfl⟩
    have f7 : M7 = readF 3 s M6.2 := by rw [h7, h6]; rfl
    rw [← h1, ← h2, ← h3, ← h4, ← h5, ← h6, ← h7] at hq
    simp only [opM] at hq
    have l3 : M3.1 < 256 := by rw [f3]; exact num1_lt _ _
    have l5 : M5.1 < 4294967296 := by rw [f5]; exact num4_lt _ _
    have l6 : M6.1 < 4294967296 := by rw [f6]; exact num4_lt _ _
    have G1 := Lib.hid f1
    have G2 := Lib.hid f2
    have G3 := Lib.hid f3
    have G4 := Lib.hid f4
    have G5 := Lib.hid f5
    have G6 := Lib.hid f6
    have G7 := Lib.hid f7
    have L3 := Lib.hid l3
    have L5 := Lib.hid l5
    have L6 := Lib.hid l6
    have HQ := Lib.hid hq
    clear hq h1 h2 h3 h4 h5 h6 h7 f1 f2 f3 f4 f5 f6 f7 l3 l5 l6
    go_upto_region 8 with (first | (refine wpo_built (l := [(8, .string T2.1), (7, .int .i64 T3.1)]) (c := #[.string ⟨#[]⟩, .string ⟨#[]⟩, .int .i64 0, .bool false, .slice none 0 0, .string ⟨#[]⟩, .int .i64 0, .int .i64 T3.1, .string T2.1]) rfl rfl rfl rfl ?_) | (refine wps_mid (G := fun _ => True) (k := k5) (c := #[.string ⟨#[]⟩, .string ⟨#[]⟩, .int .i64 0, .bool false, .slice none 0 0, .string ⟨#[]⟩, .int .i64 0, .int .i64 T3.1, .string T2.1]) stab_true True.intro HO.out 0 3 tyM.ip rfl (by decide) (by decide) (by decide) _ _ rfl rfl rfl rfl (show 3 + 9 ≤ 12 by decide) (by simp [Value.oneCell']) ?_; clear HO; rintro W11 hO _; simp only [putN, List.setIfInBounds_toArray, List.set_cons_zero, List.set_cons_succ] at hO; have HO := Lib.hid hO; clear hO; simp only [Act.put]))
    clear kd kd1 kd2
    go_wp2_with fail
    refine (HBIN.out _ _ _ (HO.out.rd 1 rfl (R := T3.2) HL.out)).mono ?_
    rintro x W12 ⟨rfl, hN⟩
    rw [← G1.out] at hN ⊢
    have hO := HO.out.rstep 1 rfl hN
    simp only [List.set_cons_zero, List.set_cons_succ] at hO
    have hL := hN.obj.le
    clear HO HL
    have HO := Lib.hid hO
    have HL := Lib.hid hL
    clear hO hL hN
    go_upto_region 9 with (first | (refine wpo_cell (k := k5) (v := .string M1.1) HO.out 0 3 tyS.ip rfl _ _ rfl rfl rfl rfl (show 3 < 12 by decide) rfl ?_; clear HO; rintro W13 hO; simp only [List.setIfInBounds_toArray, List.set_cons_zero, List.set_cons_succ] at hO; have HO := Lib.hid hO; clear hO; simp only [Act.put]))
    go_wp2_with fail
    refine (HBIN.out _ _ _ (HO.out.rd 1 rfl (R := M1.2) HL.out)).mono ?_
    rintro x W14 ⟨rfl, hN⟩
    rw [← G2.out] at hN ⊢
    have hO := HO.out.rstep 1 rfl hN
    simp only [List.set_cons_zero, List.set_cons_succ] at hO
    have hL := hN.obj.le
    clear HO HL
    have HO := Lib.hid hO
    have HL := Lib.hid hL
    clear hO hL hN
    go_upto_region 10 with (first | (refine wpo_cell (k := k5) (v := .string M2.1) HO.out 0 4 tyS.ip rfl _ _ rfl rfl rfl rfl (show 4 < 12 by decide) rfl ?_; clear HO; rintro W15 hO; simp only [List.setIfInBounds_toArray, List.set_cons_zero, List.set_cons_succ] at hO; have HO := Lib.hid hO; clear hO; simp only [Act.put]))
    go_wp2_with fail
    refine (HU8.out _ _ _ (HO.out.rd 1 rfl (R := M2.2) HL.out)).mono ?_
    rintro x W16 ⟨rfl, hN⟩
    rw [← G3.out] at hN ⊢
    have hO := HO.out.rstep 1 rfl hN
    simp only [List.set_cons_zero, List.set_cons_succ] at hO
    have hL := hN.obj.le
    clear HO HL
    have HO := Lib.hid hO
    have HL := Lib.hid hL
    clear hO hL hN
    go_upto_region 11 with (fail)
    obtain ⟨rt, hrt⟩ : ∃ rt, rt = decide (M3.1 / 4 % 2 = 1) := ⟨_, rfl⟩
    have hq := HQ.out
    rw [← hrt] at hq
    clear HQ
    have HQ := Lib.hid hq
    have b4 : ((wrap64 ((M3.1 : Int) / 4)).tmod 2 == 1) = rt := by rw [hrt]; exact til_bit M3.1 L3.out
    clear hq hrt
    go_upto_region 12 with (first | (refine wpo_cell (k := k5) (v := .int .i64 ((M3.1 : Int) % 4)) HO.out 0 5 tyI.ip rfl _ _ rfl rfl rfl rfl (show 5 < 12 by decide) rfl ?_; clear HO; rintro W17 hO; simp only [List.setIfInBounds_toArray, List.set_cons_zero, List.set_cons_succ] at hO; have HO := Lib.hid hO; clear hO; simp only [Act.put]))
    go_upto_region 13 with (first | (refine wpo_cell (k := k5) (v := .bool rt) HO.out 0 6 tyB.ip rfl _ _ rfl rfl rfl rfl (show 6 < 12 by decide) rfl ?_; clear HO; rintro W18 hO; simp only [List.setIfInBounds_toArray, List.set_cons_zero, List.set_cons_succ] at hO; have HO := Lib.hid hO; clear hO; simp only [Act.put]))
    go_wp2_with fail
    refine (HBIN.out _ _ _ (HO.out.rd 1 rfl (R := M3.2) HL.out)).mono ?_
    rintro x W19 ⟨rfl, hN⟩
    rw [← G4.out] at hN ⊢
    have hO := HO.out.rstep 1 rfl hN
    simp only [List.set_cons_zero, List.set_cons_succ] at hO
    have hL := hN.obj.le
    clear HO HL
    have HO := Lib.hid hO
    have HL := Lib.hid hL
    clear hO hL hN
    go_upto_region 14 with (first | (refine wpo_cell (k := k5) (v := .string M4.1) HO.out 0 8 tyS.ip rfl _ _ rfl rfl rfl rfl (show 8 < 12 by decide) rfl ?_; clear HO; rintro W20 hO; simp only [List.setIfInBounds_toArray, List.set_cons_zero, List.set_cons_succ] at hO; have HO := Lib.hid hO; clear hO; simp only [Act.put]))
    go_wp2_with fail
    refine (HU32.out _ _ _ (HO.out.rd 1 rfl (R := M4.2) HL.out)).mono ?_
    rintro x W21 ⟨rfl, hN⟩
    rw [← G5.out] at hN ⊢
    have hO := HO.out.rstep 1 rfl hN
    simp only [List.set_cons_zero, List.set_cons_succ] at hO
    have hL := hN.obj.le
    clear HO HL
    have HO := Lib.hid hO
    have HL := Lib.hid hL
    clear hO hL hN
    go_upto_region 15 with (fail)
    go_wp2_with fail
    refine (HU32.out _ _ _ (HO.out.rd 1 rfl (R := M5.2) HL.out)).mono ?_
    rintro x W22 ⟨rfl, hN⟩
    rw [← G6.out] at hN ⊢
    have hO := HO.out.rstep 1 rfl hN
    simp only [List.set_cons_zero, List.set_cons_succ] at hO
    have hL := hN.obj.le
    clear HO HL
    have HO := Lib.hid hO
    have HL := Lib.hid hL
    clear hO hL hN
    go_upto_region 16 with (first | (refine wpo_cell (k := k5) (v := .int .i64 (wrap64 (wrap64 ((M5.1 : Int) * 4294967296) + (M6.1 : Int)))) HO.out 0 9 tyI.ip rfl _ _ rfl rfl rfl rfl (show 9 < 12 by decide) rfl ?_; clear HO; rintro W23 hO; simp only [List.setIfInBounds_toArray, List.set_cons_zero, List.set_cons_succ] at hO; have HO := Lib.hid hO; clear hO; simp only [Act.put]))
    have hO := HO.out
    rw [til_add M5.1 M6.1 L5.out L6.out] at hO
    clear HO
    have HO := Lib.hid hO
    clear hO
    go_wp2_with fail
    refine (HPR.out _ _ _ (HO.out.rd 1 rfl (R := M6.2) HL.out)).mono ?_
    rintro x W24 ⟨v, rfl, hrow, hN⟩
    rw [← G7.out] at hrow hN ⊢
    obtain ⟨A, c, rfl⟩ := hrow.form
    obtain ⟨n, hn⟩ : ∃ n, n = M7.1.L.length := ⟨_, rfl⟩
    have hcap : n ≤ c := by
      obtain ⟨a2, n2, c2, e2, e3, e4⟩ := hrow.some_form
      injection e2 with _ _ e5
      omega
    have hpin := hrow.pin (B' := 0)
    rw [← hn]
    have hO := HO.out.rstep 1 rfl hN
    simp only [List.set_cons_zero, List.set_cons_succ] at hO
    have hL := hN.obj.le
    obtain ⟨X, hfin, hO2⟩ : ∃ X, (∀ W' L2, Own X W24 W' L2 → Own [] w W' L2 ∧ PIn W' 0 A M7.1.L) ∧ Own X W24 W24 _ := ⟨_, fun W' L2 h2 => ⟨hO.back h2, hO.pin h2 rfl hpin⟩, hO.rebase⟩
    clear HO HL hrow hN hO
    have HFIN := Lib.hid hfin
    have HO := Lib.hid hO2
    clear hfin hO2
    have HL := Lib.hid hL
    have HN := Lib.hid hn
    have HCAP := Lib.hid hcap
    clear hL hpin hn hcap
    unfold fltV
    go_upto_region 17 with (first | (refine wpo_alloc tyX HO.out rfl rfl ?_; clear HO; rintro k9 W25 hO; have HO := Lib.hid hO; clear hO; simp only [Act.put, List.setIfInBounds_toArray, List.set_cons_zero, List.set_cons_succ]) | (refine wpo_store (k := k9) HO.out 0 tyX rfl _ _ rfl rfl rfl rfl rfl rfl rfl ?_; clear HO; rintro W26 hO; simp only [List.set_cons_zero] at hO; have HO := Lib.hid hO; clear hO; simp only [Act.put]))
    obtain ⟨⟨en, er, ea, eL⟩, R⟩ := M7
    clear G7
    simp only at HO HL HFIN HN HQ
    by_cases h0 : en = 0
    case neg =>
      have h0i : ¬ (en : Int) = 0 := by omega
      have HX := Lib.hid (show q = ⟨en, er, ea, oo0⟩ by rw [HQ.out, if_neg h0])
      clear h0 HQ
      go_upto_region 18 with (first | (refine wpo_ldc (HO.out.get 0 rfl) tyE _ rfl rfl rfl rfl ?_))
      refine wpo_y2 (yA := (k2, 27, #[.int .i64 0, .string ⟨#[]⟩, .int .i64 0, .string ⟨#[]⟩, .string ⟨#[]⟩, .int .i64 0, .bool false, .slice none 0 0, .string ⟨#[]⟩, .int .i64 0, .int .i64 0, .string ⟨#[]⟩])) (yB := (k3, 34, #[.int .i64 (en : Int), .int .i64 er, .int .i64 (ea : Int)])) [(74, .agg #[.int .i64 0, .string ⟨#[]⟩, .int .i64 0, .string ⟨#[]⟩, .string ⟨#[]⟩, .int .i64 0, .bool false, .slice none 0 0, .string ⟨#[]⟩, .int .i64 0, .int .i64 0, .string ⟨#[]⟩]), (75, .agg #[.int .i64 (en : Int), .int .i64 er, .int .i64 (ea : Int)])] 4 3 mixed (by kernel_rfl) HO.out rfl rfl (by decide) (fun _ _ _ _ _ h => h) ?_ rfl rfl ?_ ?_ ?_
      · refine ⟨⟨_, rfl, rfl, yo_zero rfl tyO rfl⟩, ?_⟩
        simp only [Act.put, List.setIfInBounds_toArray, List.set_cons_zero, List.set_cons_succ]
        refine ⟨⟨_, rfl, rfl, yo_load rfl tyX (fun _ h => h.get 0 (by decide) (by decide) rfl) rfl _ rfl rfl⟩, ?_⟩
        exact trivial
      · simp only [putD, Act.put, List.setIfInBounds_toArray, List.set_cons_zero, List.set_cons_succ]
        exact sto_row tyO _ _ rfl rfl rfl rfl rfl rfl rfl rfl
      · simp only [putD, Act.put, List.setIfInBounds_toArray, List.set_cons_zero, List.set_cons_succ]
        exact sto_row tyX _ _ rfl rfl rfl rfl rfl rfl rfl rfl
      intro W27 hO
      clear HO
      have HO := Lib.hid hO
      clear hO
      simp only [putD, Act.put, List.setIfInBounds_toArray, List.set_cons_zero, List.set_cons_succ]
      go_wp2_with fail
      exact bodyPost_ret (v := .tuple #[.agg #[.int .i64 0, .string ⟨#[]⟩, .int .i64 0, .string ⟨#[]⟩, .string ⟨#[]⟩, .int .i64 0, .bool false, .slice none 0 0, .string ⟨#[]⟩, .int .i64 0, .int .i64 0, .string ⟨#[]⟩], fltV (en, er, ea)]) (res_own2 4 3 HO.out tyO tyX rfl rfl rfl rfl rfl rfl rfl) rfl ⟨none, 0, by rw [HX.out] <;> rfl, by rw [HX.out]; exact PIn.nil _ _ _, by rw [HX.out]; exact Nat.le_refl _, (HFIN.out _ _ HO.out).1.bel⟩
    case pos =>
      subst h0
      go_upto_region 20 with (first | (refine wpo_ldc (HO.out.get 0 rfl) tyE _ rfl rfl rfl rfl ?_) | (refine wpo_cell (k := k5) (v := .slice A n c) HO.out 1 7 tyL.ip rfl _ _ rfl rfl rfl rfl (show 7 < 12 by decide) rfl ?_; clear HO; rintro W27c hO; simp only [List.setIfInBounds_toArray, List.set_cons_zero, List.set_cons_succ] at hO; have HO := Lib.hid hO; clear hO; simp only [Act.put]))
      have hq := HQ.out
      rw [if_pos rfl] at hq
      obtain ⟨o, ho⟩ : ∃ o : OV, o = ⟨(T1.1 : Nat), T2.1, (T3.1 : Nat), ⟨M1.1, M2.1, ((M3.1 % 4 : Nat) : Int), rt, eL, M4.1, tilF M5.1 M6.1, (T3.1 : Nat), T2.1⟩⟩ := ⟨_, rfl⟩
      rw [← ho] at hq
      have HQ2 := Lib.hid hq
      have HOV := Lib.hid ho
      clear hq ho HQ
      go_wp2_with fail
      refine (HDN.out _ _ _ (HO.out.rd 2 rfl (R := R) HL.out)).mono ?_
      rintro x Wd ⟨rfl, hb⟩
      have hO := HO.out.below hb
      have hq := HQ2.out
      unfold tkE at hq
      generalize dnR s R = D at hq ⊢
      obtain ⟨dn, da⟩ := D
      simp only at hq ⊢
      clear HO hb HQ2
      have HO := Lib.hid hO
      have HQ3 := Lib.hid hq
      clear hO hq
      by_cases hd : dn = 0
      case neg =>
        have hdi : ¬ (dn : Int) = 0 := by omega
        have HX := Lib.hid (show q = ⟨dn, 129, da, oo0⟩ by rw [HQ3.out, if_neg hd])
        clear hd HQ3
        go_wp2_with (first | (refine wpo_zero tyO rfl rfl ?_) | (refine wpo_built (l := [(0, .int .i64 (dn : Int)), (1, .int .i64 129), (2, .int .i64 (da : Int))]) (c := #[.int .i64 (dn : Int), .int .i64 129, .int .i64 (da : Int)]) rfl rfl rfl rfl ?_) | (refine wpo_store (k := k2) HO.out 4 tyO rfl _ _ rfl rfl rfl rfl rfl rfl rfl ?_; clear HO; rintro We hO; simp only [List.set_cons_zero, List.set_cons_succ] at hO; have HO := Lib.hid hO; clear hO; simp only [Act.put]) | (refine wpo_store (k := k3) HO.out 3 tyX rfl _ _ rfl rfl rfl rfl rfl rfl rfl ?_; clear HO; rintro Wg hO; simp only [List.set_cons_zero, List.set_cons_succ] at hO; have HO := Lib.hid hO; clear hO; simp only [Act.put]))
        exact bodyPost_ret (v := .tuple #[.agg #[.int .i64 0, .string ⟨#[]⟩, .int .i64 0, .string ⟨#[]⟩, .string ⟨#[]⟩, .int .i64 0, .bool false, .slice none 0 0, .string ⟨#[]⟩, .int .i64 0, .int .i64 0, .string ⟨#[]⟩], fltV (dn, 129, da)]) (res_own2 4 3 HO.out tyO tyX rfl rfl rfl rfl rfl rfl rfl) rfl ⟨none, 0, by rw [HX.out] <;> rfl, by rw [HX.out]; exact PIn.nil _ _ _, by rw [HX.out]; exact Nat.le_refl _, (HFIN.out _ _ HO.out).1.bel⟩
      case pos =>
      subst hd
      have HQ4 := Lib.hid (show q = if knK T1.1 = true ∧ M3.1 ≤ 7 ∧ mayO o = true then ⟨0, 0, 0, o⟩ else ⟨2, 129, 0, oo0⟩ by rw [HQ3.out, if_pos rfl])
      have HMY := Lib.hid (rmay34_any o A c Wd)
      rw [show o.agg A c = .agg #[.int .i64 T1.1, .string T2.1, .int .i64 T3.1, .string M1.1, .string M2.1, .int .i64 ((M3.1 : Int) % 4), .bool rt, .slice A n c, .string M4.1, .int .i64 (tilF M5.1 M6.1), .int .i64 T3.1, .string T2.1] by rw [HOV.out, HN.out] <;> rfl, show (decide (1 ≤ o.kind ∧ o.kind ≤ 3)) = knK T1.1 by rw [HOV.out]; unfold knK; rw [decide_eq_decide]; simp only; omega] at HMY
      clear HQ3
      go_wp2_with (refine wpo_load HO.out 1 tyO rfl rfl _ rfl rfl rfl ?_)
      refine HMY.out.mono ?_
      rintro x Wf ⟨rfl, hb⟩
      have hO := HO.out.below hb
      clear HO hb HMY
      have HO := Lib.hid hO
      clear hO
      by_cases hm : (knK T1.1 && mayO o) = true
      case neg =>
        have hm0 : (knK T1.1 && mayO o) = false := by simpa using hm
        rw [hm0]
        have HX := Lib.hid (show q = ⟨2, 129, 0, oo0⟩ by rw [HQ4.out, if_neg (fun h => hm (by rw [h.1, h.2.2]; rfl))])
        clear HQ4 hm hm0
        go_wp2_with (first | (refine wpo_zero tyO rfl rfl ?_) | (refine wpo_built (l := [(0, .int .i64 2), (1, .int .i64 129)]) (c := #[.int .i64 2, .int .i64 129, .int .i64 0]) rfl rfl rfl rfl ?_) | (refine wpo_store (k := k2) HO.out 4 tyO rfl _ _ rfl rfl rfl rfl rfl rfl rfl ?_; clear HO; rintro We hO; simp only [List.set_cons_zero, List.set_cons_succ] at hO; have HO := Lib.hid hO; clear hO; simp only [Act.put]) | (refine wpo_store (k := k3) HO.out 3 tyX rfl _ _ rfl rfl rfl rfl rfl rfl rfl ?_; clear HO; rintro Wg hO; simp only [List.set_cons_zero, List.set_cons_succ] at hO; have HO := Lib.hid hO; clear hO; simp only [Act.put]))
        exact bodyPost_ret (v := .tuple #[.agg #[.int .i64 0, .string ⟨#[]⟩, .int .i64 0, .string ⟨#[]⟩, .string ⟨#[]⟩, .int .i64 0, .bool false, .slice none 0 0, .string ⟨#[]⟩, .int .i64 0, .int .i64 0, .string ⟨#[]⟩], fltV (2, 129, 0)]) (res_own2 4 3 HO.out tyO tyX rfl rfl rfl rfl rfl rfl rfl) rfl ⟨none, 0, by rw [HX.out] <;> rfl, by rw [HX.out]; exact PIn.nil _ _ _, by rw [HX.out]; exact Nat.le_refl _, (HFIN.out _ _ HO.out).1.bel⟩
      case pos =>
      rw [hm]
      have hk2 : knK T1.1 = true ∧ mayO o = true := by simpa using hm
      clear hm
      by_cases h7 : M3.1 ≤ 7
      case neg =>
        have h7' : (7 : Int) < (M3.1 : Int) := by omega
        have HX := Lib.hid (show q = ⟨2, 129, 0, oo0⟩ by rw [HQ4.out, if_neg (fun h => h7 h.2.1)])
        clear HQ4 hk2 h7
        go_wp2_with (first | (refine wpo_zero tyO rfl rfl ?_) | (refine wpo_built (l := [(0, .int .i64 2), (1, .int .i64 129)]) (c := #[.int .i64 2, .int .i64 129, .int .i64 0]) rfl rfl rfl rfl ?_) | (refine wpo_store (k := k2) HO.out 4 tyO rfl _ _ rfl rfl rfl rfl rfl rfl rfl ?_; clear HO; rintro We hO; simp only [List.set_cons_zero, List.set_cons_succ] at hO; have HO := Lib.hid hO; clear hO; simp only [Act.put]) | (refine wpo_store (k := k3) HO.out 3 tyX rfl _ _ rfl rfl rfl rfl rfl rfl rfl ?_; clear HO; rintro Wg hO; simp only [List.set_cons_zero, List.set_cons_succ] at hO; have HO := Lib.hid hO; clear hO; simp only [Act.put]))
        exact bodyPost_ret (v := .tuple #[.agg #[.int .i64 0, .string ⟨#[]⟩, .int .i64 0, .string ⟨#[]⟩, .string ⟨#[]⟩, .int .i64 0, .bool false, .slice none 0 0, .string ⟨#[]⟩, .int .i64 0, .int .i64 0, .string ⟨#[]⟩], fltV (2, 129, 0)]) (res_own2 4 3 HO.out tyO tyX rfl rfl rfl rfl rfl rfl rfl) rfl ⟨none, 0, by rw [HX.out] <;> rfl, by rw [HX.out]; exact PIn.nil _ _ _, by rw [HX.out]; exact Nat.le_refl _, (HFIN.out _ _ HO.out).1.bel⟩
      case pos =>
      have h7' : ¬ (7 : Int) < (M3.1 : Int) := by omega
      have HX := Lib.hid (show q = ⟨0, 0, 0, o⟩ by rw [HQ4.out, if_pos ⟨hk2.1, h7, hk2.2⟩])
      clear HQ4 hk2 h7
      go_wp2_with (first | (refine wpo_zero tyX rfl rfl ?_) | (refine wpo_load HO.out 1 tyO rfl rfl _ rfl rfl rfl ?_) | (refine wpo_store (k := k2) HO.out 4 tyO rfl _ _ rfl rfl rfl rfl rfl rfl rfl ?_; clear HO; rintro We hO; simp only [List.set_cons_zero, List.set_cons_succ] at hO; have HO := Lib.hid hO; clear hO; simp only [Act.put]) | (refine wpo_store (k := k3) HO.out 3 tyX rfl _ _ rfl rfl rfl rfl rfl rfl rfl ?_; clear HO; rintro Wg hO; simp only [List.set_cons_zero, List.set_cons_succ] at hO; have HO := Lib.hid hO; clear hO; simp only [Act.put]))
      exact bodyPost_ret (v := .tuple #[.agg #[.int .i64 T1.1, .string T2.1, .int .i64 T3.1, .string M1.1, .string M2.1, .int .i64 ((M3.1 : Int) % 4), .bool rt, .slice A n c, .string M4.1, .int .i64 (tilF M5.1 M6.1), .int .i64 T3.1, .string T2.1], fltV (0, 0, 0)]) (res_own2 4 3 HO.out tyO tyX rfl rfl rfl rfl rfl rfl rfl) rfl ⟨A, c, by rw [HX.out, HOV.out, HN.out] <;> rfl, by rw [HX.out, HOV.out]; exact (HFIN.out _ _ HO.out).2, by rw [HX.out, HOV.out, ← HN.out]; exact HCAP.out, (HFIN.out _ _ HO.out).1.bel⟩
  case neg =>
    have e1 : ((T1.1 : Int) == 1) = false := by simp; omega
    obtain ⟨o, ho⟩ : ∃ o : OV, o = ⟨(T1.1 : Nat), T2.1, (T3.1 : Nat), m0⟩ := ⟨_, rfl⟩
    obtain ⟨fl, hfl⟩ : ∃ fl : Nat, fl = 0 := ⟨_, rfl⟩
    obtain ⟨R, hR⟩ : ∃ R, R = T3.2 := ⟨_, rfl⟩
    have HQ2 := Lib.hid (show q = tkE s o T1.1 fl R by rw [HQ.out, if_neg h1, ho, hfl, hR])
    rw [← hR] at HL HO
    have HFIN := Lib.hid (show ∀ W' L2, Own [] w W' L2 → Own [] w W' L2 ∧ PIn W' 0 none [] from fun _ _ h => ⟨h, PIn.nil _ _ _⟩)
    have HN := Lib.hid (show (0 : Nat) = ([] : PL).length from rfl)
    have HOV := Lib.hid ho
    have HFL := Lib.hid hfl
    have HCAP := Lib.hid (Nat.le_refl 0)
    clear ho hfl hR HQ h1
    go_upto_region 20 with (fail)
    clear kd kd1 kd2
    go_wp2_with fail
    refine (HDN.out _ _ _ (HO.out.rd 1 rfl (R := R) HL.out)).mono ?_
    rintro x Wd ⟨rfl, hb⟩
    have hO := HO.out.below hb
    have hq := HQ2.out
    unfold tkE at hq
    generalize dnR s R = D at hq ⊢
    obtain ⟨dn, da⟩ := D
    simp only at hq ⊢
    clear HO hb HQ2
    have HO := Lib.hid hO
    have HQ3 := Lib.hid hq
    clear hO hq
    by_cases hd : dn = 0
    case neg =>
      have hdi : ¬ (dn : Int) = 0 := by omega
      have HX := Lib.hid (show q = ⟨dn, 129, da, oo0⟩ by rw [HQ3.out, if_neg hd])
      clear hd HQ3
      go_wp2_with (first | (refine wpo_zero tyO rfl rfl ?_) | (refine wpo_built (l := [(0, .int .i64 (dn : Int)), (1, .int .i64 129), (2, .int .i64 (da : Int))]) (c := #[.int .i64 (dn : Int), .int .i64 129, .int .i64 (da : Int)]) rfl rfl rfl rfl ?_) | (refine wpo_store (k := k2) HO.out 3 tyO rfl _ _ rfl rfl rfl rfl rfl rfl rfl ?_; clear HO; rintro We hO; simp only [List.set_cons_zero, List.set_cons_succ] at hO; have HO := Lib.hid hO; clear hO; simp only [Act.put]) | (refine wpo_store (k := k3) HO.out 2 tyX rfl _ _ rfl rfl rfl rfl rfl rfl rfl ?_; clear HO; rintro Wg hO; simp only [List.set_cons_zero, List.set_cons_succ] at hO; have HO := Lib.hid hO; clear hO; simp only [Act.put]))
      exact bodyPost_ret (v := .tuple #[.agg #[.int .i64 0, .string ⟨#[]⟩, .int .i64 0, .string ⟨#[]⟩, .string ⟨#[]⟩, .int .i64 0, .bool false, .slice none 0 0, .string ⟨#[]⟩, .int .i64 0, .int .i64 0, .string ⟨#[]⟩], fltV (dn, 129, da)]) (res_own2 3 2 HO.out tyO tyX rfl rfl rfl rfl rfl rfl rfl) rfl ⟨none, 0, by rw [HX.out] <;> rfl, by rw [HX.out]; exact PIn.nil _ _ _, by rw [HX.out]; exact Nat.le_refl _, (HFIN.out _ _ HO.out).1.bel⟩
    case pos =>
    subst hd
    have HQ4 := Lib.hid (show q = if knK T1.1 = true ∧ fl ≤ 7 ∧ mayO o = true then ⟨0, 0, 0, o⟩ else ⟨2, 129, 0, oo0⟩ by rw [HQ3.out, if_pos rfl])
    have HMY := Lib.hid (rmay34_any o none 0 Wd)
    rw [show o.agg none 0 = .agg #[.int .i64 T1.1, .string T2.1, .int .i64 T3.1, .string ⟨#[]⟩, .string ⟨#[]⟩, .int .i64 0, .bool false, .slice none 0 0, .string ⟨#[]⟩, .int .i64 0, .int .i64 0, .string ⟨#[]⟩] by rw [HOV.out] <;> rfl, show (decide (1 ≤ o.kind ∧ o.kind ≤ 3)) = knK T1.1 by rw [HOV.out]; unfold knK; rw [decide_eq_decide]; simp only; omega] at HMY
    clear HQ3
    go_wp2_with (refine wpo_load HO.out 0 tyO rfl rfl _ rfl rfl rfl ?_)
    refine HMY.out.mono ?_
    rintro x Wf ⟨rfl, hb⟩
    have hO := HO.out.below hb
    clear HO hb HMY
    have HO := Lib.hid hO
    clear hO
    by_cases hm : (knK T1.1 && mayO o) = true
    case neg =>
      have hm0 : (knK T1.1 && mayO o) = false := by simpa using hm
      rw [hm0]
      have HX := Lib.hid (show q = ⟨2, 129, 0, oo0⟩ by rw [HQ4.out, if_neg (fun h => hm (by rw [h.1, h.2.2]; rfl))])
      clear HQ4 hm hm0
      go_wp2_with (first | (refine wpo_zero tyO rfl rfl ?_) | (refine wpo_built (l := [(0, .int .i64 2), (1, .int .i64 129)]) (c := #[.int .i64 2, .int .i64 129, .int .i64 0]) rfl rfl rfl rfl ?_) | (refine wpo_store (k := k2) HO.out 3 tyO rfl _ _ rfl rfl rfl rfl rfl rfl rfl ?_; clear HO; rintro We hO; simp only [List.set_cons_zero, List.set_cons_succ] at hO; have HO := Lib.hid hO; clear hO; simp only [Act.put]) | (refine wpo_store (k := k3) HO.out 2 tyX rfl _ _ rfl rfl rfl rfl rfl rfl rfl ?_; clear HO; rintro Wg hO; simp only [List.set_cons_zero, List.set_cons_succ] at hO; have HO := Lib.hid hO; clear hO; simp only [Act.put]))
      exact bodyPost_ret (v := .tuple #[.agg #[.int .i64 0, .string ⟨#[]⟩, .int .i64 0, .string ⟨#[]⟩, .string ⟨#[]⟩, .int .i64 0, .bool false, .slice none 0 0, .string ⟨#[]⟩, .int .i64 0, .int .i64 0, .string ⟨#[]⟩], fltV (2, 129, 0)]) (res_own2 3 2 HO.out tyO tyX rfl rfl rfl rfl rfl rfl rfl) rfl ⟨none, 0, by rw [HX.out] <;> rfl, by rw [HX.out]; exact PIn.nil _ _ _, by rw [HX.out]; exact Nat.le_refl _, (HFIN.out _ _ HO.out).1.bel⟩
    case pos =>
    rw [hm]
    have hk2 : knK T1.1 = true ∧ mayO o = true := by simpa using hm
    clear hm
    have h7 : fl ≤ 7 := by rw [HFL.out]; decide
    have HX := Lib.hid (show q = ⟨0, 0, 0, o⟩ by rw [HQ4.out, if_pos ⟨hk2.1, h7, hk2.2⟩])
    clear HQ4 hk2 h7
    go_wp2_with (first | (refine wpo_zero tyX rfl rfl ?_) | (refine wpo_load HO.out 0 tyO rfl rfl _ rfl rfl rfl ?_) | (refine wpo_store (k := k2) HO.out 3 tyO rfl _ _ rfl rfl rfl rfl rfl rfl rfl ?_; clear HO; rintro We hO; simp only [List.set_cons_zero, List.set_cons_succ] at hO; have HO := Lib.hid hO; clear hO; simp only [Act.put]) | (refine wpo_store (k := k3) HO.out 2 tyX rfl _ _ rfl rfl rfl rfl rfl rfl rfl ?_; clear HO; rintro Wg hO; simp only [List.set_cons_zero, List.set_cons_succ] at hO; have HO := Lib.hid hO; clear hO; simp only [Act.put]))
    exact bodyPost_ret (v := .tuple #[.agg #[.int .i64 T1.1, .string T2.1, .int .i64 T3.1, .string ⟨#[]⟩, .string ⟨#[]⟩, .int .i64 0, .bool false, .slice none 0 0, .string ⟨#[]⟩, .int .i64 0, .int .i64 0, .string ⟨#[]⟩], fltV (0, 0, 0)]) (res_own2 3 2 HO.out tyO tyX rfl rfl rfl rfl rfl rfl rfl) rfl ⟨none, 0, by rw [HX.out, HOV.out] <;> rfl, by rw [HX.out, HOV.out]; exact (HFIN.out _ _ HO.out).2, by rw [HX.out, HOV.out]; exact HCAP.out, (HFIN.out _ _ HO.out).1.bel⟩
end Go.Proofs.YtnolnhpmpjgnaaaGreatDoor

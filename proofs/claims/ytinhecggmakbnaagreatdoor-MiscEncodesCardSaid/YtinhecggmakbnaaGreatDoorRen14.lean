/- What is proved here: what the document's Encode of layer 14 tells. Conditions: few bytes, the packet's parts stand where it says. -/
import Derived.Test.YtinhecggmakbnaaGreatDoorRdf14
import Derived.Test.YtinhecggmakbnaaGreatDoorEnm14
import Derived.Test.YtinhecggmakbnaaGreatDoorLawC06
import Derived.Deep.QuietTactic
import Derived.BigQuiet
import Derived.Deep.DeepMust
namespace Go.Proofs.YtinhecggmakbnaaGreatDoor
set_option maxRecDepth 100000
open Go.RowKit Go.Extern.Stop Go.Stop Go.Extern
section
variable {X : List Nat} {w0 w w' : World} {L : OL} {g : Nat} {c : Array Value} {V : EV} {l : List UInt8} {a : Nat}
theorem Own.wr (h : Own X w0 w L) (i : Nat) (hi : L[i]? = some (g, 75, #[.string ⟨l.toArray⟩, .int .i64 V.no, .int .i64 a])) (h1 : V.no = 0 → l = V.L) (h2 : V.no ≠ 0 → a = V.at_) : RWObj w g V := ⟨l, a, h.get i hi, h1, h2⟩
theorem Own.wstep (h : Own X w0 w L) (i : Nat) (hi : L[i]? = some (g, 75, c)) (hn : RWNext w w' g V) : ∃ (l : List UInt8) (a : Nat), Own X w0 w' (L.set i (g, 75, #[.string ⟨l.toArray⟩, .int .i64 V.no, .int .i64 a])) ∧ (V.no = 0 → l = V.L) ∧ (V.no ≠ 0 → a = V.at_) := by
  obtain ⟨⟨l, a, hb, h1, h2⟩, hf⟩ := hn
  exact ⟨l, a, h.put i hi hf hb, h1, h2⟩
theorem encA_1 (n : Int) (s : ByteArray) : encA ⟨1, n, s⟩ = numE 1 n := by unfold encA; rw [if_pos rfl]
theorem encA_2 (n : Int) (s : ByteArray) : encA ⟨2, n, s⟩ = numE 2 n := by unfold encA; simp
theorem encA_6 (n : Int) (s : ByteArray) : encA ⟨6, n, s⟩ = textE s := by unfold encA; simp
theorem encA_7 (n : Int) (s : ByteArray) : encA ⟨7, n, s⟩ = binE s := by unfold encA; simp
theorem encA_8 (n : Int) (l : List UInt8) : encA ⟨8, n, ⟨l.toArray⟩⟩ = ⟨0, 0, l⟩ := by unfold encA; simp
theorem rwdo_num1 (h : RWObj w g V) (hl : V.L.length ≤ 900000) (n : Int) : Calls Tryz.prog 57 #[.pointer (some ⟨g, 0, none⟩), .agg #[.int .i64 1, .int .i64 n, .string ⟨#[]⟩]] w fun x w' => x = .returned (.tuple #[]) ∧ RWNext w w' g (stepW V (numE 1 n)) := by
  have h := rwdo_any h hl ⟨1, n, ⟨#[]⟩⟩ (Nat.zero_le _)
  rw [encA_1] at h
  exact h
theorem rwdo_num2 (h : RWObj w g V) (hl : V.L.length ≤ 900000) (n : Int) : Calls Tryz.prog 57 #[.pointer (some ⟨g, 0, none⟩), .agg #[.int .i64 2, .int .i64 n, .string ⟨#[]⟩]] w fun x w' => x = .returned (.tuple #[]) ∧ RWNext w w' g (stepW V (numE 2 n)) := by
  have h := rwdo_any h hl ⟨2, n, ⟨#[]⟩⟩ (Nat.zero_le _)
  rw [encA_2] at h
  exact h
theorem rwdo_raw (h : RWObj w g V) (hl : V.L.length ≤ 900000) (l : List UInt8) (hs : l.length ≤ 65535) : Calls Tryz.prog 57 #[.pointer (some ⟨g, 0, none⟩), .agg #[.int .i64 8, .int .i64 0, .string ⟨l.toArray⟩]] w fun x w' => x = .returned (.tuple #[]) ∧ RWNext w w' g (stepW V ⟨0, 0, l⟩) := by
  have h := rwdo_any h hl ⟨8, 0, ⟨l.toArray⟩⟩ (by rw [bsize]; exact hs)
  rw [encA_8] at h
  exact h
theorem w0_obj (h : Own X w0 w L) (i : Nat) (hi : L[i]? = some (g, 75, #[.string ⟨#[]⟩, .int .i64 0, .int .i64 0])) : RWObj w g Go.Proofs.YtinhecggmakbnaaGreatDoor.w0 := ⟨[], 0, h.get i hi, fun _ => rfl, fun h => absurd rfl h⟩
end
theorem frf_ok {P : Program} {f : FuncId} {args : Array Value} {w : World} {first : Int} {t : ByteArray} (h : Calls P f args w (FrF w ⟨e00, first, t⟩)) : Calls P f args w fun x w' => x = .returned (.tuple #[.agg #[.int .i64 first, .string t], .agg #[.int .i64 0, .int .i64 0, .int .i64 0]]) ∧ Below w.heap.size w w' := h.mono fun _ _ h => ⟨h.1, h.2⟩
theorem frf_bad {P : Program} {f : FuncId} {args : Array Value} {w : World} {first : Int} {t : ByteArray} {no at_ : Nat} {r : Int} (h : Calls P f args w (FrF w ⟨⟨no, r, at_⟩, first, t⟩)) : Calls P f args w fun x w' => x = .returned (.tuple #[.agg #[.int .i64 first, .string t], .agg #[.int .i64 no, .int .i64 r, .int .i64 at_]]) ∧ Below w.heap.size w w' := h.mono fun _ _ h => ⟨h.1, h.2⟩
theorem frR_eq (V : EV) (first : Int) (e : Er) {t : ByteArray} (ht : t = ⟨V.L.toArray⟩) : frR V first e = if V.no = 0 then if e.no = 0 then ⟨e00, first, t⟩ else ⟨e, 0, ⟨#[]⟩⟩ else ⟨⟨V.no, 129, V.at_⟩, 0, ⟨#[]⟩⟩ := by rw [ht]; rfl
theorem rg14_12 (w : World) : Calls Tryz.prog 78 #[.int .i64 12] w fun x w' => x = .returned (.int .i64 192) ∧ w = w' := rfirst14_any 12 w
theorem rg14_13 (w : World) : Calls Tryz.prog 78 #[.int .i64 13] w fun x w' => x = .returned (.int .i64 208) ∧ w = w' := rfirst14_any 13 w
theorem rg14_14 (w : World) : Calls Tryz.prog 78 #[.int .i64 14] w fun x w' => x = .returned (.int .i64 224) ∧ w = w' := rfirst14_any 14 w
theorem rg14_15 (w : World) : Calls Tryz.prog 78 #[.int .i64 15] w fun x w' => x = .returned (.int .i64 240) ∧ w = w' := rfirst14_any 15 w
set_option maxHeartbeats 8000000 in
theorem renc14_12 {w : World} {A : PkA} {p : Pk} (h : PkIn w w.heap.size A p) (hS : SmallP p.props) (hk : p.kind = 12) : Calls Tryz.prog 33 #[p.agg A] w (FrF w (enM p)) := by
  obtain ⟨z, hT, hz26, hz⟩ := tyP_ex
  obtain ⟨q, hq⟩ : ∃ q, q = enM p := ⟨_, rfl⟩
  rw [← hq]
  obtain ⟨c, hc⟩ : ∃ c, c = p.cells A := ⟨_, rfl⟩
  rw [show p.agg A = .agg c from by rw [hc]; rfl]
  have HG0 := Lib.hid (show c[0]? = some (.int .i64 12) by rw [hc, ← hk]; rfl)
  have HG2 := Lib.hid (show c[2]? = some (.int .i64 p.reason) by rw [hc]; rfl)
  have HG3 := Lib.hid (show c[3]? = some (.slice A.pa p.props.length A.pc) by rw [hc]; rfl)
  have HT := Lib.hid hT
  have HZS := Lib.hid hz26
  have HPR := Lib.hid h.pr
  have HPC := Lib.hid h.pc
  have HSM := Lib.hid hS
  unfold enM at hq
  rw [hk] at hq
  have HQ0 := Lib.hid hq
  have HO := Lib.hid (Own.start [] w)
  clear hT hz26 hz hc h hS hk hq
  go_enter Tryz.func33, Tryz.ntmps33
  go_wp2_with (first | (refine wpo_box (t := 29) HO.out _ rfl rfl rfl ?_; clear HO; rintro k1 W1 hO; have HO := Lib.hid hO; clear hO; simp only [Act.put, List.setIfInBounds_toArray, List.set_cons_zero, List.set_cons_succ]) | (refine wpo_alloc tyF HO.out rfl rfl ?_; clear HO; rintro k2 W2 hO; have HO := Lib.hid hO; clear hO; simp only [Act.put, List.setIfInBounds_toArray, List.set_cons_zero, List.set_cons_succ]) | (refine wpo_alloc tyX HO.out rfl rfl ?_; clear HO; rintro k3 W3 hO; have HO := Lib.hid hO; clear hO; simp only [Act.put, List.setIfInBounds_toArray, List.set_cons_zero, List.set_cons_succ]) | (refine wpo_ldc (HO.out.get 2 rfl) tyI _ rfl rfl rfl HG0.out ?_))
  refine (rg14_12 _).mono ?_
  rintro x _ ⟨rfl, rfl⟩
  go_upto_region 4 with (first | (refine wpo_zero tyW rfl rfl ?_) | (refine wpo_box (t := 75) HO.out _ rfl rfl rfl ?_; clear HO; rintro k4 W4 hO; have HO := Lib.hid hO; clear hO; simp only [Act.put, List.setIfInBounds_toArray, List.set_cons_zero, List.set_cons_succ]))
  have f0 : W4.cell? ⟨k1, 0, none⟩ = some (.int .i64 12) := ((HO.out.get 3 rfl).cell 0).trans HG0.out
  have f2 : W4.cell? ⟨k1, 2, none⟩ = some (.int .i64 p.reason) := ((HO.out.get 3 rfl).cell 2).trans HG2.out
  have f3 : W4.cell? ⟨k1, 3, none⟩ = some (.slice A.pa p.props.length A.pc) := ((HO.out.get 3 rfl).cell 3).trans HG3.out
  go_upto_region 11 with fail
  clear f0 f2 f3
  have HQ := HQ0
  rw [if_neg (by decide), if_pos (by decide), show fM 12 = 192 from rfl] at HQ
  clear HQ0
  go_wp2_with (refine wpo_ldc (HO.out.get 3 rfl) tyI _ rfl rfl rfl HG0.out ?_)
  refine (rg14_12 _).mono ?_
  rintro x _ ⟨rfl, rfl⟩
  have HMD := Lib.hid (rmade_any (w0_obj HO.out 0 rfl) 192)
  have HDC0 := Lib.hid (fun W => rdec14_192 (w := W) (s := ⟨(w0).L.toArray⟩) (by rw [bsize]; exact Nat.zero_le _))
  obtain ⟨V, hV⟩ : ∃ V, V = w0 := ⟨_, rfl⟩
  rw [← hV] at HMD HDC0 HQ
  clear hV
  obtain ⟨e, he⟩ : ∃ e, e = (dcM 192 ⟨V.L.toArray⟩).1 := ⟨_, rfl⟩
  rw [← he] at HDC0 HQ
  clear he
  obtain ⟨t, ht⟩ : ∃ t : ByteArray, t = ⟨V.L.toArray⟩ := ⟨_, rfl⟩
  rw [← ht] at HDC0
  rw [frR_eq _ _ _ ht] at HQ
  have HTT := Lib.hid ht
  have HDC := HDC0
  clear ht HDC0
  go_wp2_with fail
  by_cases hv : V.no = 0
  · have hq := HQ.out
    rw [if_pos hv] at hq
    have HQ2 := Lib.hid hq
    have HMD2 := Lib.hid (show frR V 192 e00 = ⟨e00, 192, t⟩ by unfold frR; rw [if_pos hv, if_pos (show e00.no = 0 from rfl), ← HTT.out])
    rw [HMD2.out] at HMD
    have HMD := Lib.hid (frf_ok HMD.out)
    clear hq HQ HMD2 hv HTT
    refine HMD.out.mono ?_
    rintro x V1 ⟨rfl, hb⟩
    have HB := Lib.hid (HO.out.below hb)
    clear HO hb HMD
    have HO := HB
    clear HB
    go_upto_region 14 with (first | (refine wpo_alloc tyF HO.out rfl rfl ?_; clear HO; rintro kfB WfB hO; have HO := Lib.hid hO; clear hO; simp only [Act.put, List.setIfInBounds_toArray, List.set_cons_zero, List.set_cons_succ]) | (refine wpo_alloc tyX HO.out rfl rfl ?_; clear HO; rintro kgB WgB hO; have HO := Lib.hid hO; clear hO; simp only [Act.put, List.setIfInBounds_toArray, List.set_cons_zero, List.set_cons_succ]) | (refine wpo_store (k := kfB) HO.out 1 tyF rfl _ _ rfl rfl rfl rfl rfl rfl rfl ?_; clear HO; rintro WhB hO; have HO := Lib.hid hO; clear hO; simp only [Act.put]) | (refine wpo_store (k := kgB) HO.out 0 tyX rfl _ _ rfl rfl rfl rfl rfl rfl rfl ?_; clear HO; rintro WiB hO; have HO := Lib.hid hO; clear hO; simp only [Act.put]) | (refine wpo_ldc (HO.out.get 0 rfl) tyE _ rfl rfl rfl rfl ?_))
    have HDD := Lib.hid (HDC.out WiB)
    clear HDC
    obtain ⟨en, er, ea⟩ := e
    simp only at HQ2 HDD
    go_wp2_with (refine wpo_load HO.out 1 tyF rfl rfl _ rfl rfl rfl ?_)
    refine HDD.out.mono ?_
    rintro x V2 ⟨c2, hc2, ho2, rfl, hb⟩
    have HC2 := Lib.hid (hc2.trans HZS.out.symm)
    have HC21 := Lib.hid ho2
    clear hc2 ho2
    have HB := Lib.hid (HO.out.below hb)
    clear HO hb HDD
    have HO := HB
    clear HB
    by_cases he : en = 0
    · have hq := HQ2.out
      rw [if_pos he] at hq
      have HQ3 := Lib.hid hq
      subst he
      clear hq HQ2
      go_wp2_with (first | (refine wpo_alloc HT.out HO.out rfl rfl ?_; clear HO; rintro kpC WpC hO; have HO := Lib.hid hO; clear hO; simp only [Act.put, List.setIfInBounds_toArray, List.set_cons_zero, List.set_cons_succ]) | (refine wpo_alloc tyX HO.out rfl rfl ?_; clear HO; rintro kxC WxC hO; have HO := Lib.hid hO; clear hO; simp only [Act.put, List.setIfInBounds_toArray, List.set_cons_zero, List.set_cons_succ]) | (refine wpo_store (k := kpC) HO.out 1 HT.out rfl _ _ rfl rfl rfl rfl rfl HC2.out HC21.out ?_; clear HO; rintro WyC hO; have HO := Lib.hid hO; clear hO; simp only [Act.put]) | (refine wpo_store (k := kxC) HO.out 0 tyX rfl _ _ rfl rfl rfl rfl rfl rfl rfl ?_; clear HO; rintro WzC hO; have HO := Lib.hid hO; clear hO; simp only [Act.put]) | (refine wpo_ldc (HO.out.get 0 rfl) tyE _ rfl rfl rfl rfl ?_) | (refine wpo_load HO.out 3 tyF rfl rfl _ rfl rfl rfl ?_) | (refine wpo_store (k := k2) HO.out 6 tyF rfl _ _ rfl rfl rfl rfl rfl rfl rfl ?_; clear HO; rintro WmC hO; have HO := Lib.hid hO; clear hO; simp only [Act.put]) | (refine wpo_store (k := k3) HO.out 5 tyX rfl _ _ rfl rfl rfl rfl rfl rfl rfl ?_; clear HO; rintro WnC hO; have HO := Lib.hid hO; clear hO; simp only [Act.put]))
      exact bodyPost_ret (v := .tuple #[.agg #[.int .i64 192, .string t], fltV (0, 0, 0)]) (res_own2 6 5 HO.out tyF tyX rfl rfl rfl rfl rfl rfl rfl) rfl ⟨by rw [HQ3.out] <;> rfl, HO.out.bel⟩
    · have hq := HQ2.out
      rw [if_neg he] at hq
      have HQ3 := Lib.hid hq
      have hei : ¬ (en : Int) = 0 := by omega
      clear hq HQ2 he
      go_upto_region 16 with (first | (refine wpo_alloc HT.out HO.out rfl rfl ?_; clear HO; rintro kpD WpD hO; have HO := Lib.hid hO; clear hO; simp only [Act.put, List.setIfInBounds_toArray, List.set_cons_zero, List.set_cons_succ]) | (refine wpo_alloc tyX HO.out rfl rfl ?_; clear HO; rintro kxD WxD hO; have HO := Lib.hid hO; clear hO; simp only [Act.put, List.setIfInBounds_toArray, List.set_cons_zero, List.set_cons_succ]) | (refine wpo_store (k := kpD) HO.out 1 HT.out rfl _ _ rfl rfl rfl rfl rfl HC2.out HC21.out ?_; clear HO; rintro WyD hO; have HO := Lib.hid hO; clear hO; simp only [Act.put]) | (refine wpo_store (k := kxD) HO.out 0 tyX rfl _ _ rfl rfl rfl rfl rfl rfl rfl ?_; clear HO; rintro WzD hO; have HO := Lib.hid hO; clear hO; simp only [Act.put]) | (refine wpo_ldc (HO.out.get 0 rfl) tyE _ rfl rfl rfl rfl ?_))
      refine wpo_y2 (yA := (k2, 33, #[.int .i64 0, .string ⟨#[]⟩])) (yB := (k3, 40, #[.int .i64 (en : Int), .int .i64 er, .int .i64 (ea : Int)])) [(85, .agg #[.int .i64 0, .string ⟨#[]⟩]), (86, .agg #[.int .i64 (en : Int), .int .i64 er, .int .i64 (ea : Int)])] 6 5 mixed (by kernel_rfl) HO.out rfl rfl (by decide) (fun _ _ _ _ _ h => h) ?_ rfl rfl ?_ ?_ ?_
      · refine ⟨⟨_, rfl, rfl, yo_zero rfl tyF rfl⟩, ?_⟩
        simp only [Act.put, List.setIfInBounds_toArray, List.set_cons_zero, List.set_cons_succ]
        refine ⟨⟨_, rfl, rfl, yo_load rfl tyX (fun _ h => h.get 0 (by decide) (by decide) rfl) rfl _ rfl rfl⟩, ?_⟩
        exact trivial
      · simp only [putD, Act.put, List.setIfInBounds_toArray, List.set_cons_zero, List.set_cons_succ]
        exact sto_row tyF _ _ rfl rfl rfl rfl rfl rfl rfl rfl
      · simp only [putD, Act.put, List.setIfInBounds_toArray, List.set_cons_zero, List.set_cons_succ]
        exact sto_row tyX _ _ rfl rfl rfl rfl rfl rfl rfl rfl
      intro WjD hO
      clear HO
      have HO := Lib.hid hO
      clear hO
      simp only [putD, Act.put, List.setIfInBounds_toArray, List.set_cons_zero, List.set_cons_succ]
      go_wp2_with fail
      exact bodyPost_ret (v := .tuple #[.agg #[.int .i64 0, .string ⟨#[]⟩], fltV (en, er, ea)]) (res_own2 6 5 HO.out tyF tyX rfl rfl rfl rfl rfl rfl rfl) rfl ⟨by rw [HQ3.out] <;> rfl, HO.out.bel⟩
  · have hq := HQ.out
    rw [if_neg hv] at hq
    have HQ2 := Lib.hid hq
    have hvi : ¬ (V.no : Int) = 0 := by omega
    have HMD2 := Lib.hid (show frR V 192 e00 = ⟨⟨V.no, 129, V.at_⟩, 0, ⟨#[]⟩⟩ by unfold frR; rw [if_neg hv])
    rw [HMD2.out] at HMD
    have HMD := Lib.hid (frf_bad HMD.out)
    clear hq HQ HMD2 hv
    refine HMD.out.mono ?_
    rintro x V1 ⟨rfl, hb⟩
    have HB := Lib.hid (HO.out.below hb)
    clear HO hb HMD
    have HO := HB
    clear HB
    go_upto_region 13 with (first | (refine wpo_alloc tyF HO.out rfl rfl ?_; clear HO; rintro kfA WfA hO; have HO := Lib.hid hO; clear hO; simp only [Act.put, List.setIfInBounds_toArray, List.set_cons_zero, List.set_cons_succ]) | (refine wpo_alloc tyX HO.out rfl rfl ?_; clear HO; rintro kgA WgA hO; have HO := Lib.hid hO; clear hO; simp only [Act.put, List.setIfInBounds_toArray, List.set_cons_zero, List.set_cons_succ]) | (refine wpo_store (k := kfA) HO.out 1 tyF rfl _ _ rfl rfl rfl rfl rfl rfl rfl ?_; clear HO; rintro WhA hO; have HO := Lib.hid hO; clear hO; simp only [Act.put]) | (refine wpo_store (k := kgA) HO.out 0 tyX rfl _ _ rfl rfl rfl rfl rfl rfl rfl ?_; clear HO; rintro WiA hO; have HO := Lib.hid hO; clear hO; simp only [Act.put]) | (refine wpo_ldc (HO.out.get 0 rfl) tyE _ rfl rfl rfl rfl ?_))
    refine wpo_y2 (yA := (k2, 33, #[.int .i64 0, .string ⟨#[]⟩])) (yB := (k3, 40, #[.int .i64 (V.no : Int), .int .i64 129, .int .i64 (V.at_ : Int)])) [(75, .agg #[.int .i64 0, .string ⟨#[]⟩]), (76, .agg #[.int .i64 (V.no : Int), .int .i64 129, .int .i64 (V.at_ : Int)])] 4 3 mixed (by kernel_rfl) HO.out rfl rfl (by decide) (fun _ _ _ _ _ h => h) ?_ rfl rfl ?_ ?_ ?_
    · refine ⟨⟨_, rfl, rfl, yo_load rfl tyF (fun _ h => h.get 1 (by decide) (by decide) rfl) rfl _ rfl rfl⟩, ?_⟩
      simp only [Act.put, List.setIfInBounds_toArray, List.set_cons_zero, List.set_cons_succ]
      refine ⟨⟨_, rfl, rfl, yo_load rfl tyX (fun _ h => h.get 0 (by decide) (by decide) rfl) rfl _ rfl rfl⟩, ?_⟩
      exact trivial
    · simp only [putD, Act.put, List.setIfInBounds_toArray, List.set_cons_zero, List.set_cons_succ]
      exact sto_row tyF _ _ rfl rfl rfl rfl rfl rfl rfl rfl
    · simp only [putD, Act.put, List.setIfInBounds_toArray, List.set_cons_zero, List.set_cons_succ]
      exact sto_row tyX _ _ rfl rfl rfl rfl rfl rfl rfl rfl
    intro WjA hO
    clear HO
    have HO := Lib.hid hO
    clear hO
    simp only [putD, Act.put, List.setIfInBounds_toArray, List.set_cons_zero, List.set_cons_succ]
    go_wp2_with fail
    exact bodyPost_ret (v := .tuple #[.agg #[.int .i64 0, .string ⟨#[]⟩], fltV (V.no, 129, V.at_)]) (res_own2 4 3 HO.out tyF tyX rfl rfl rfl rfl rfl rfl rfl) rfl ⟨by rw [HQ2.out] <;> rfl, HO.out.bel⟩
end Go.Proofs.YtinhecggmakbnaaGreatDoor

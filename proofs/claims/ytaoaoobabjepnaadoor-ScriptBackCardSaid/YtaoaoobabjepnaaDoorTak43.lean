/- What is proved here: what package script takes of bytes. Conditions: those that each theorem names. What is proved here: what package script takes of bytes. Conditions: those that each theorem names. What is proved here: what package script takes of bytes. Conditions: those that each theorem names. -/
import Derived.Test.YtaoaoobabjepnaaDoorCfg43
import Derived.Test.YtaoaoobabjepnaaDoorOwg43
import Derived.Test.YtaoaoobabjepnaaDoorRaw04
import Derived.Test.YtaoaoobabjepnaaDoorRtx04
import Derived.Deep.QuietTactic
import Derived.BigQuiet
import Derived.Deep.DeepMust
import Derived.Deep.DeepCutAuto
namespace Go.Proofs.YtaoaoobabjepnaaDoor
set_option maxRecDepth 100000
open Go.ChangeShapes Go.WideShapes Go.RowKit Go.Deep Go.Extern.Stop Go.Stop Go.Extern
theorem mix_set (C : Nat → Int) (i : Nat) (h : i < 13) : (cfgC (fun j => if j < i then C j else 0)).setIfInBounds i (.int .i64 (C i)) = cfgC (fun j => if j < i + 1 then C j else 0) := by
  have hi : i = 0 ∨ i = 1 ∨ i = 2 ∨ i = 3 ∨ i = 4 ∨ i = 5 ∨ i = 6 ∨ i = 7 ∨ i = 8 ∨ i = 9 ∨ i = 10 ∨ i = 11 ∨ i = 12 := by omega
  rcases hi with rfl | rfl | rfl | rfl | rfl | rfl | rfl | rfl | rfl | rfl | rfl | rfl | rfl <;> rfl
theorem mix_all (C : Nat → Int) : cfgC (fun j => if j < 13 then C j else 0) = cfgC C := cfg_congr fun _ hj => if_pos hj
theorem mix_none (C : Nat → Int) : cfgC zC = cfgC (fun j => if j < 0 then C j else 0) := rfl
theorem crier_eq (t : ByteArray) : (t.toList == [67, 82, 73, 69, 82]) = decide (t = crier) := by
  rw [show ([67, 82, 73, 69, 82] : List UInt8) = crier.toList from by decide +kernel, eq_text]
/-- What takeBounds says. -/
def TbSays (w : World) (S : Nat → Addr) (g : Nat) (s : ByteArray) (q : ER × (Nat → Int) × RV) (x : Ending) (w' : World) : Prop := ∃ e, x = .returned (.tuple #[.agg (cfgC q.2.1), e]) ∧ ErrT w' S q.1 e ∧ RNext w w' S g s q.2.2
section
variable {w w' : World} {S : Nat → Addr} {g : Nat} {s : ByteArray}
set_option maxHeartbeats 16000000 in
theorem tkb_any (hE : ∀ w1, Fr [g] w w1 → Env w1 S) (h : RObj w S g s rz0) (hs : s.size ≤ 900000) : Calls Tryd.prog 15 #[.pointer (some ⟨g, 0, none⟩)] w (TbSays w S g s (bdF s)) := by
  obtain ⟨q, hq⟩ : ∃ q, q = bdF s := ⟨_, rfl⟩
  rw [← hq]
  unfold bdF at hq
  obtain ⟨⟨t, R1⟩, h1⟩ : ∃ V, V = rTake s 5 rz0 := ⟨_, rfl⟩
  rw [← h1] at hq
  simp only at hq
  have HE := Lib.hid hE
  have HG := Lib.hid h
  have HSZ := Lib.hid hs
  have HQ := Lib.hid hq
  have H1 := Lib.hid h1
  have HO := Lib.hid (Own.start [g] w)
  clear hE h hs hq h1
  go_enter Tryd.func15, Tryd.ntmps15
  go_upto_region 1 with (refine wps_alloc (stab_ro S g s rz0) HG.out tyC HO.out rfl rfl ?_; clear HO HG; rintro k2 W1 hO hG; have HO := Lib.hid hO; have HG := Lib.hid hG; clear hO hG; simp only [Act.put, List.setIfInBounds_toArray, List.set_cons_zero, List.set_cons_succ])
  have HU := Lib.hid (rraw04_any (HE.out _ HO.out.fr) HG.out (by have := HSZ.out; omega) 5)
  rw [← H1.out] at HU
  go_wp2_with fail
  refine HU.out.mono ?_
  rintro x V1 ⟨rfl, hn⟩
  have HB := Lib.hid (HO.out.rnext HG.out hn (.inl (List.mem_singleton_self g)) rfl)
  clear HO HU
  have HO := HB
  clear HB HG
  have HG := Lib.hid hn.obj
  clear hn
  have HR := Lib.hid (rerr_any HG.out)
  go_wp2_with fail
  refine HR.out.mono ?_
  rintro x V2 ⟨e, rfl, he, rfl⟩
  clear HR
  by_cases h0 : R1.no = 0
  case neg =>
    have hq := HQ.out
    rw [if_neg h0] at hq
    have HQ2 := Lib.hid hq
    obtain ⟨te, ue, rfl⟩ := err_iface he h0
    have HGE := Lib.hid (And.intro (show ErrT V1 S (R1.no, 129, R1.ea) (.iface te ue) from he) HG.out)
    clear hq HQ he HG
    have HG := HGE
    clear HGE h0
    go_wp2_with (first | (refine wpo_zero tyC rfl rfl ?_) | (refine wps_store (k := k2) (c := cfgC zC) ((stab_er S (R1.no, 129, R1.ea) (.iface te ue)).and (stab_ro S g s R1)) HG.out HO.out 0 tyC rfl (by decide) (by decide) (by decide) _ _ rfl rfl rfl rfl rfl rfl rfl ?_; clear HO HG; rintro W3 hO hG; have HO := Lib.hid hO; have HG := Lib.hid hG; clear hO hG; simp only [Act.put]))
    exact bodyPost_ret (res_own10 0 HO.out tyC rfl rfl rfl rfl rfl) rfl ⟨_, by rw [HQ2.out], by rw [HQ2.out]; exact HG.out.1, by rw [HQ2.out]; exact ⟨HG.out.2, HO.out.fr⟩⟩
  case pos =>
    have hq := HQ.out
    rw [if_pos h0] at hq
    have HQ2 := Lib.hid hq
    have hen : e = .nilIface := ErrT.isNil (q := (R1.no, 129, R1.ea)) he h0
    subst hen
    clear hq HQ he
    by_cases hc : t = crier
    case neg =>
      have hq := HQ2.out
      rw [if_neg hc] at hq
      have HQ3 := Lib.hid hq
      have htc : (t.toList == [67, 82, 73, 69, 82]) = false := by rw [crier_eq]; exact decide_eq_false hc
      clear hq HQ2 hc h0
      have kM := (HE.out _ HO.out.fr).kMalformed
      go_upto_region 6 with fail
      go_wp2_with (refine wpo_zero tyC rfl rfl ?_)
      refine (new_err (w := V1) S 1 129 0).mono ?_
      rintro x V3 ⟨e, rfl, he, hb⟩
      obtain ⟨te, ue, rfl⟩ := he.iface
      have HB := Lib.hid (HO.out.below hb)
      have HGE := Lib.hid (And.intro (show ErrT V3 S (2, 129, 0) (.iface te ue) from ErrOf.some (no := 2) (by omega) (by omega) he) (HG.out.below hb))
      clear HO he hb HG kM
      have HO := HB
      have HG := HGE
      clear HB HGE
      go_wp2_with (refine wps_store (k := k2) (c := cfgC zC) ((stab_er S (2, 129, 0) (.iface te ue)).and (stab_ro S g s R1)) HG.out HO.out 0 tyC rfl (by decide) (by decide) (by decide) _ _ rfl rfl rfl rfl rfl rfl rfl ?_; clear HO HG; rintro W3 hO hG; have HO := Lib.hid hO; have HG := Lib.hid hG; clear hO hG; simp only [Act.put])
      exact bodyPost_ret (res_own10 0 HO.out tyC rfl rfl rfl rfl rfl) rfl ⟨_, by rw [HQ3.out], by rw [HQ3.out]; exact HG.out.1, by rw [HQ3.out]; exact ⟨HG.out.2, HO.out.fr⟩⟩
    case pos =>
      have hq := HQ2.out
      rw [if_pos hc] at hq
      have HQ3 := Lib.hid hq
      have htc : (t.toList == [67, 82, 73, 69, 82]) = true := by rw [crier_eq]; exact decide_eq_true hc
      clear hq HQ2 hc h0
      go_upto_region 8 with (refine wps_alloc (stab_ro S g s R1) HG.out tyBd HO.out rfl rfl ?_; clear HO HG; rintro k6 W4 hO hG; have HO := Lib.hid hO; have HG := Lib.hid hG; clear hO hG; simp only [Act.put, List.setIfInBounds_toArray, List.set_cons_zero, List.set_cons_succ])
      clear htc
      go_wp2_with fail
      go_loopg [24] 13 (fun f x wr => ∃ i : Nat, f = 13 - i ∧ i ≤ 13 ∧ x = .int .i64 i ∧ Hid (Own [g] w wr [(k6, 70, cfgC (fun j => if j < i then rdC s R1 j else 0)), (k2, 24, cfgC zC)] ∧ RObj wr S g s (rdR s R1 i)))
      case atStart => exact ⟨0, rfl, Nat.zero_le _, rfl, Lib.hid ⟨HO.out, HG.out⟩⟩
      case round =>
        obtain ⟨i, rfl, hi, rfl, HR⟩ := hrel
        clear HO HG
        have HO := Lib.hid HR.out.1
        have HG := Lib.hid HR.out.2
        clear HR
        by_cases hlt : i < 13
        case pos =>
          have HMX := Lib.hid (mix_set (rdC s R1) i hlt)
          obtain ⟨⟨n, R2⟩, h2⟩ : ∃ V, V = rNum s 4 (rdR s R1 i) := ⟨_, rfl⟩
          have hcn : rdC s R1 i = (n : Int) := by unfold rdC; rw [← h2]
          have hr2 : rdR s R1 (i + 1) = R2 := by rw [show rdR s R1 (i + 1) = (rNum s 4 (rdR s R1 i)).2 from rfl, ← h2]
          rw [hcn] at HMX
          have H2 := Lib.hid h2
          have HR2 := Lib.hid hr2
          have HIL := Lib.hid (show i < (cfgC (fun j => if j < i then rdC s R1 j else 0)).size from hlt)
          clear h2 hcn hr2
          generalize cfgC (fun j => if j < i then rdC s R1 j else 0) = ci at *
          have HU := Lib.hid (ru32_any (HE.out _ HO.out.fr) HG.out (by have := HSZ.out; omega))
          rw [← H2.out] at HU
          go_wp2_with fail
          refine HU.out.mono ?_
          rintro x V5 ⟨rfl, hn⟩
          have HB := Lib.hid (HO.out.rnext HG.out hn (.inl (List.mem_singleton_self g)) rfl)
          clear HO HU
          have HO := HB
          clear HB HG
          have HG := Lib.hid hn.obj
          clear hn
          go_upto_region 12 with (refine wps_cell (v := .int .i64 (n : Int)) (stab_ro S g s R2) HG.out HO.out 0 i tyI.ip rfl (by decide) (by decide) (by decide) _ _ rfl rfl rfl rfl HIL.out rfl ?_; clear HO HG; rintro W6 hO hG; have HO := Lib.hid hO; have HG := Lib.hid hG; clear hO hG; simp only [Act.put])
          simp only [List.set_cons_zero] at HO
          rw [HMX.out] at HO
          go_wp2_with fail
          go_roundg (13 - (i + 1))
          case rel => exact ⟨i + 1, rfl, hlt, by go_num, Lib.hid ⟨HO.out, by rw [HR2.out]; exact HG.out⟩⟩
          case measure => omega
        case neg =>
          obtain rfl : i = 13 := by omega
          rw [mix_all] at HO
          obtain ⟨R2, h2⟩ : ∃ V, V = rdR s R1 13 := ⟨_, rfl⟩
          rw [← h2] at HG HQ3
          obtain ⟨C, hC⟩ : ∃ C, C = rdC s R1 := ⟨_, rfl⟩
          rw [← hC] at HO HQ3
          clear h2 hC
          have HR := Lib.hid (rerr_any HG.out)
          go_wp2_with fail
          refine HR.out.mono ?_
          rintro x V6 ⟨e, rfl, he, rfl⟩
          clear HR
          by_cases h0 : R2.no = 0
          case neg =>
            have hq := HQ3.out
            rw [if_neg h0] at hq
            have HQ4 := Lib.hid hq
            obtain ⟨te, ue, rfl⟩ := err_iface he h0
            have HGE := Lib.hid (And.intro (show ErrT wr S (R2.no, 129, R2.ea) (.iface te ue) from he) HG.out)
            clear hq HQ3 he HG
            have HG := HGE
            clear HGE h0
            go_wp2_with (first | (refine wpo_zero tyC rfl rfl ?_) | (refine wps_store (k := k2) (c := cfgC zC) ((stab_er S (R2.no, 129, R2.ea) (.iface te ue)).and (stab_ro S g s R2)) HG.out HO.out 1 tyC rfl (by decide) (by decide) (by decide) _ _ rfl rfl rfl rfl rfl rfl rfl ?_; clear HO HG; rintro W3 hO hG; have HO := Lib.hid hO; have HG := Lib.hid hG; clear hO hG; simp only [Act.put]))
            exact bodyPost_ret (res_own10 1 HO.out tyC rfl rfl rfl rfl rfl) rfl ⟨_, by rw [HQ4.out], by rw [HQ4.out]; exact HG.out.1, by rw [HQ4.out]; exact ⟨HG.out.2, HO.out.fr⟩⟩
          case pos =>
            have hq := HQ3.out
            rw [if_pos h0] at hq
            have HQ4 := Lib.hid hq
            have hen : e = .nilIface := ErrT.isNil (q := (R2.no, 129, R2.ea)) he h0
            subst hen
            clear hq HQ3 he h0
            go_upto_region 16 with fail
            go_wp2_with (refine wpo_load HO.out 0 tyBd rfl rfl _ rfl rfl rfl ?_)
            refine (sconfig_any C _).mono ?_
            rintro x V7 ⟨rfl, hb⟩
            have HB := Lib.hid (HO.out.below hb)
            have HGE := Lib.hid (RObj.below HG.out hb)
            clear HO HG hb
            have HO := HB
            have HG := HGE
            clear HB HGE
            have HCK := Lib.hid (fun W (h : Env W S) => tcheck_any h C)
            obtain ⟨cc, hcc⟩ : ∃ c, c = cfgC C := ⟨_, rfl⟩
            have HCZ := Lib.hid (show cc.size = 13 by rw [hcc]; rfl)
            have HC1 := Lib.hid (show cc.toList.all (·.oneCell') = true by rw [hcc]; exact cfg_one C)
            rw [← hcc] at HO HCK ⊢
            have HCC := Lib.hid hcc
            clear hcc
            go_upto_region 17 with (first | (refine wps_alloc (stab_ro S g s R2) HG.out tyC HO.out rfl rfl ?_; clear HO HG; rintro k9 W7 hO hG; have HO := Lib.hid hO; have HG := Lib.hid hG; clear hO hG; simp only [Act.put, List.setIfInBounds_toArray, List.set_cons_zero, List.set_cons_succ]) | (refine wps_store (k := k9) (stab_ro S g s R2) HG.out HO.out 0 tyC rfl (by decide) (by decide) (by decide) _ _ rfl rfl rfl rfl rfl HCZ.out HC1.out ?_; clear HO HG; rintro W8 hO hG; have HO := Lib.hid hO; have HG := Lib.hid hG; clear hO hG; simp only [Act.put]))
            have HCK2 := Lib.hid (HCK.out _ (HE.out _ HO.out.fr))
            clear HCK
            go_wp2_with (refine wpo_load HO.out 0 tyC rfl HCZ.out _ rfl rfl rfl ?_)
            refine HCK2.out.mono ?_
            rintro x V9 ⟨e, rfl, he, hb⟩
            have HB := Lib.hid (HO.out.below hb)
            have HGE := Lib.hid (RObj.below HG.out hb)
            clear HO HG hb HCK2
            have HO := HB
            have HG := HGE
            clear HB HGE
            by_cases h0 : (chkV C).1 = 0
            case neg =>
              have hq := HQ4.out
              rw [if_neg h0] at hq
              have HQ5 := Lib.hid hq
              obtain ⟨te, ue, rfl⟩ := he.isErr h0
              have HGE := Lib.hid (And.intro he HG.out)
              clear hq HQ4 he HG h0
              have HG := HGE
              clear HGE
              generalize chkV C = qc at *
              go_wp2_with (first | (refine wpo_zero tyC rfl rfl ?_) | (refine wps_store (k := k2) (c := cfgC zC) ((stab_er S qc (.iface te ue)).and (stab_ro S g s R2)) HG.out HO.out 2 tyC rfl (by decide) (by decide) (by decide) _ _ rfl rfl rfl rfl rfl rfl rfl ?_; clear HO HG; rintro W3 hO hG; have HO := Lib.hid hO; have HG := Lib.hid hG; clear hO hG; simp only [Act.put]))
              exact bodyPost_ret (res_own10 2 HO.out tyC rfl rfl rfl rfl rfl) rfl ⟨_, by rw [HQ5.out], by rw [HQ5.out]; exact HG.out.1, by rw [HQ5.out]; exact ⟨HG.out.2, HO.out.fr⟩⟩
            case pos =>
              have hq := HQ4.out
              rw [if_pos h0] at hq
              have HQ5 := Lib.hid hq
              have hen := he.isNil h0
              subst hen
              clear hq HQ4 he h0
              go_wp2_with (first | (refine wpo_load HO.out 0 tyC rfl HCZ.out _ rfl rfl rfl ?_) | (refine wps_store (k := k2) (stab_ro S g s R2) HG.out HO.out 2 tyC rfl (by decide) (by decide) (by decide) _ _ rfl rfl rfl rfl rfl HCZ.out HC1.out ?_; clear HO HG; rintro W3 hO hG; have HO := Lib.hid hO; have HG := Lib.hid hG; clear hO hG; simp only [Act.put]))
              exact bodyPost_ret (res_own10 2 HO.out tyC rfl rfl rfl rfl HCZ.out) rfl ⟨_, by rw [HQ5.out, HCC.out], by rw [HQ5.out]; exact errT_nil _ _ _ rfl, by rw [HQ5.out]; exact ⟨HG.out, HO.out.fr⟩⟩
end
end Go.Proofs.YtaoaoobabjepnaaDoor
namespace Go.Proofs.YtaoaoobabjepnaaDoor
set_option maxRecDepth 100000
open Go.ChangeShapes Go.WideShapes Go.RowKit Go.Deep Go.Extern.Stop Go.Stop Go.Extern
/-- Behind the events. -/
def fin43 (s : ByteArray) (P : List ET) (t : ER × List ET × RV) : ER × List ET := if t.1.1 = 0 then if (ofR (dnR s t.2.2)).1 = 0 then (er0, P ++ t.2.1) else (ofR (dnR s t.2.2), []) else (t.1, [])
theorem esF_fin (s : ByteArray) (R : RV) : esF s R = if (rNum s 2 R).2.no = 0 then if 16384 < (rNum s 2 R).1 then ((4, 149, R.p), []) else fin43 s [] (evF s (rNum s 2 R).1 (rNum s 2 R).2) else (((rNum s 2 R).2.no, 129, (rNum s 2 R).2.ea), []) := rfl
theorem fin_step {s : ByteArray} {P : List ET} {m : Nat} {R R2 : RV} {x : ET} (hk : evK s R = (x, R2)) : fin43 s P (evF s (m + 1) R) = if R2.no = 0 then if kOk x.k then fin43 s (P ++ [x]) (evF s m R2) else ((2, 129, R.p), []) else ((R2.no, 129, R2.ea), []) := by
  rw [evF_succ, hk]
  simp only
  by_cases h1 : R2.no = 0
  · rw [if_pos h1, if_pos h1]
    by_cases h2 : kOk x.k
    · rw [if_pos h2, if_pos h2]
      unfold fin43
      simp only [List.append_assoc, List.singleton_append]
    · rw [if_neg h2, if_neg h2]
      rfl
  · rw [if_neg h1, if_neg h1]
    unfold fin43
    rw [if_neg h1]
/-- What takeEvents says. -/
def TeSays (w : World) (S : Nat → Addr) (g : Nat) (q : ER × List ET) (x : Ending) (w' : World) : Prop := ∃ a n c e, x = .returned (.tuple #[.slice a n c, e]) ∧ n = q.2.length ∧ E4Row w' w.heap.size (.slice a n c) q.2 ∧ ErrT w' S q.1 e ∧ Fr [g] w w'
theorem e4_rn {w w' : World} {S : Nat → Addr} {g B : Nat} {s : ByteArray} {R : RV} {v : Value} {P : List ET} (hr : E4Row w B v P) (ho : RObj w S g s R) (hf : Fr [g] w w') : E4Row w' B v P := hr.fr hf fun k hk hm => by
  rw [List.mem_singleton] at hm
  subst hm
  obtain ⟨_, _, cs, hh⟩ := hr.lt k hk
  obtain ⟨_, hb, _⟩ := ho.blk
  exact hb.other hh (by decide) rfl
theorem rdone_all {w : World} {S : Nat → Addr} {g : Nat} {s : ByteArray} {R : RV} (hE : Env w S) (h : RObj w S g s R) (hs : s.size ≤ 900000) : Calls Tryd.prog 49 #[.pointer (some ⟨g, 0, none⟩)] w fun x w' => ∃ e, x = .returned e ∧ ErrT w' S (ofR (dnR s R)) e ∧ Below w.heap.size w w' := by
  by_cases h0 : R.no = 0
  · by_cases hp : R.p < s.size
    · have e : ofR (dnR s R) = (2, 129, R.p) := by unfold dnR; rw [if_pos h0, if_pos hp]; rfl
      rw [e]
      exact rdone_left hE h h0 (by omega) hp
    · have hle := h.le
      have e : ofR (dnR s R) = er0 := by unfold dnR; rw [if_pos h0, if_neg hp]; rfl
      rw [e]
      refine (rdone_end h h0 (by omega) (by omega)).mono ?_
      rintro x w' ⟨rfl, hb⟩
      exact ⟨_, rfl, errT_nil _ _ _ rfl, hb⟩
  · have e : ofR (dnR s R) = (R.no, 129, R.ea) := by unfold dnR; rw [if_neg h0]; unfold ofR; rw [if_neg h0]
    rw [e]
    exact rdone_err h h0
section
variable {w w' : World} {S : Nat → Addr} {g : Nat} {s : ByteArray} {R : RV}
set_option maxHeartbeats 16000000 in
theorem tke_any (hE : ∀ w1, Fr [g] w w1 → Env w1 S) (h : RObj w S g s R) (hs : s.size ≤ 900000) : Calls Tryd.prog 16 #[.pointer (some ⟨g, 0, none⟩)] w (TeSays w S g (esF s R)) := by
  obtain ⟨q, hq⟩ : ∃ q, q = esF s R := ⟨_, rfl⟩
  rw [← hq]
  rw [esF_fin] at hq
  obtain ⟨⟨m, R1⟩, h1⟩ : ∃ V, V = rNum s 2 R := ⟨_, rfl⟩
  rw [← h1] at hq
  simp only at hq
  have HE := Lib.hid hE
  have HG := Lib.hid h
  have HSZ := Lib.hid hs
  have HQ := Lib.hid hq
  have H1 := Lib.hid h1
  have HO := Lib.hid (Own.start [g] w)
  clear hE h hs hq h1
  go_enter Tryd.func16, Tryd.ntmps16
  go_wp2_with fail
  refine (rat_any HG.out).mono ?_
  rintro x W1 ⟨rfl, rfl⟩
  have HU := Lib.hid (ru16_any (HE.out _ HO.out.fr) HG.out (by have := HSZ.out; omega))
  rw [← H1.out] at HU
  go_wp2_with fail
  refine HU.out.mono ?_
  rintro x V1 ⟨rfl, hn⟩
  have HB := Lib.hid (HO.out.rnext HG.out hn (.inl (List.mem_singleton_self g)) rfl)
  clear HO HU
  have HO := HB
  clear HB HG
  have HG := Lib.hid hn.obj
  clear hn
  have HR := Lib.hid (rerr_any HG.out)
  go_wp2_with fail
  refine HR.out.mono ?_
  rintro x V2 ⟨e, rfl, he, rfl⟩
  clear HR
  by_cases h0 : R1.no = 0
  case neg =>
    have hq := HQ.out
    rw [if_neg h0] at hq
    have HQ2 := Lib.hid hq
    obtain ⟨te, ue, rfl⟩ := err_iface he h0
    have HX := Lib.hid (show ErrT V1 S (R1.no, 129, R1.ea) (.iface te ue) from he)
    clear hq HQ he h0
    go_wp2_with fail
    go_ret2
    exact ⟨none, 0, 0, _, rfl, by rw [HQ2.out] <;> rfl, by rw [HQ2.out]; exact E4Row.nil _ _, by rw [HQ2.out]; exact HX.out, HO.out.fr⟩
  case pos =>
    have hq := HQ.out
    rw [if_pos h0] at hq
    have HQ2 := Lib.hid hq
    have hen : e = .nilIface := ErrT.isNil (q := (R1.no, 129, R1.ea)) he h0
    subst hen
    clear hq HQ he h0
    by_cases hm : 16384 < m
    case pos =>
      have hq := HQ2.out
      rw [if_pos hm] at hq
      have HQ3 := Lib.hid hq
      have hmi : (16384 : Int) < (m : Int) := by omega
      have kT := (HE.out _ HO.out.fr).kTooLarge
      clear hq HQ2 hm
      go_wp2_with fail
      refine (new_err (w := V1) S 3 149 (R.p : Int)).mono ?_
      rintro x V3 ⟨e, rfl, he, hb⟩
      have HB := Lib.hid (HO.out.below hb)
      have HX := Lib.hid (show ErrT V3 S (4, 149, R.p) e from ErrOf.some (no := 4) (by omega) (by omega) he)
      clear HO he hb kT
      have HO := HB
      clear HB
      go_wp2_with fail
      go_ret2
      exact ⟨none, 0, 0, _, rfl, by rw [HQ3.out] <;> rfl, by rw [HQ3.out]; exact E4Row.nil _ _, by rw [HQ3.out]; exact HX.out, HO.out.fr⟩
    case neg =>
      have hq := HQ2.out
      rw [if_neg hm] at hq
      have HQ3 := Lib.hid (show q = fin43 s [] (evF s (m - 0) R1) from hq)
      have hmi : ¬ (16384 : Int) < (m : Int) := by omega
      have HM := Lib.hid hm
      clear hq HQ2 hm
      go_wp2_with fail
      clear hmi
      go_loopg [7, 27] m (fun f u x wr => ∃ (i : Nat) (P : List ET) (Rt : RV), f = m - i ∧ i ≤ m ∧ x = .int .i64 i ∧ P.length = i ∧ Hid (Own [g] w wr [] ∧ RObj wr S g s Rt ∧ E4Row wr w.heap.size u P ∧ q = fin43 s P (evF s (m - i) Rt)))
      case atStart => exact ⟨0, [], R1, rfl, Nat.zero_le _, rfl, rfl, Lib.hid ⟨HO.out, HG.out, E4Row.nil _ _, HQ3.out⟩⟩
      case round =>
        obtain ⟨i, P, Rt, rfl, hi, rfl, hpl, HJ⟩ := hrel
        clear HO HG HQ3
        have HO := Lib.hid HJ.out.1
        have HG := Lib.hid HJ.out.2.1
        have HROW := Lib.hid HJ.out.2.2.1
        have HQ3 := Lib.hid HJ.out.2.2.2
        clear HJ
        obtain ⟨av, nv, cv, rfl, hnv, hcap⟩ := HROW.out.some_form
        rw [hpl] at hnv
        subst hnv
        have HPL := Lib.hid hpl
        clear hpl hcap
        by_cases hlt : nv < m
        case pos =>
          have hms := HQ3.out
          rw [show m - nv = (m - (nv + 1)) + 1 by omega] at hms
          obtain ⟨⟨a1, Ra⟩, ha⟩ : ∃ V, V = rNum s 1 Rt := ⟨_, rfl⟩
          obtain ⟨⟨b1, Rb⟩, hb⟩ : ∃ V, V = rNum s 1 Ra := ⟨_, rfl⟩
          obtain ⟨⟨c1, Rc⟩, hc⟩ : ∃ V, V = rNum s 4 Rb := ⟨_, rfl⟩
          obtain ⟨⟨d1, Rd⟩, hd⟩ : ∃ V, V = rBin s Rc := ⟨_, rfl⟩
          have hk : evK s Rt = (⟨a1, b1, c1, d1⟩, Rd) := by unfold evK; rw [← ha]; simp only; rw [← hb]; simp only; rw [← hc]; simp only; rw [← hd]
          rw [fin_step hk] at hms
          have HMS := Lib.hid hms
          have HAA := Lib.hid ha
          have HBB := Lib.hid hb
          have HCC := Lib.hid hc
          have HDD := Lib.hid hd
          clear ha hb hc hd hk hms HQ3
          go_wp2_with fail
          refine (rat_any HG.out).mono ?_
          rintro x W1 ⟨rfl, rfl⟩
          have HU := Lib.hid (ru8_any (HE.out _ HO.out.fr) HG.out (by have := HSZ.out; omega))
          rw [← HAA.out] at HU
          go_wp2_with fail
          refine HU.out.mono ?_
          rintro x Va ⟨rfl, hn⟩
          have HB := Lib.hid (HO.out.rnext HG.out hn (.inl (List.mem_singleton_self g)) rfl)
          have HR2 := Lib.hid (e4_rn HROW.out HG.out hn.fr)
          clear HROW
          have HROW := HR2
          clear HR2
          clear HO HU
          have HO := HB
          clear HB HG
          have HG := Lib.hid hn.obj
          clear hn
          have HU := Lib.hid (ru8_any (HE.out _ HO.out.fr) HG.out (by have := HSZ.out; omega))
          rw [← HBB.out] at HU
          go_wp2_with fail
          refine HU.out.mono ?_
          rintro x Vb ⟨rfl, hn⟩
          have HB := Lib.hid (HO.out.rnext HG.out hn (.inl (List.mem_singleton_self g)) rfl)
          have HR2 := Lib.hid (e4_rn HROW.out HG.out hn.fr)
          clear HROW
          have HROW := HR2
          clear HR2
          clear HO HU
          have HO := HB
          clear HB HG
          have HG := Lib.hid hn.obj
          clear hn
          have HU := Lib.hid (ru32_any (HE.out _ HO.out.fr) HG.out (by have := HSZ.out; omega))
          rw [← HCC.out] at HU
          go_wp2_with fail
          refine HU.out.mono ?_
          rintro x Vc ⟨rfl, hn⟩
          have HB := Lib.hid (HO.out.rnext HG.out hn (.inl (List.mem_singleton_self g)) rfl)
          have HR2 := Lib.hid (e4_rn HROW.out HG.out hn.fr)
          clear HROW
          have HROW := HR2
          clear HR2
          clear HO HU
          have HO := HB
          clear HB HG
          have HG := Lib.hid hn.obj
          clear hn
          have HU := Lib.hid (rbin_any (fun w1 hf => HE.out w1 (HO.out.fr.trans hf fun _ hk _ => hk)) HG.out HSZ.out)
          rw [← HDD.out] at HU
          go_wp2_with fail
          refine HU.out.mono ?_
          rintro x Vd ⟨rfl, hn⟩
          have HB := Lib.hid (HO.out.rnext HG.out hn (.inl (List.mem_singleton_self g)) rfl)
          have HR2 := Lib.hid (e4_rn HROW.out HG.out hn.fr)
          clear HROW
          have HROW := HR2
          clear HR2
          clear HO HU
          have HO := HB
          clear HB HG
          have HG := Lib.hid hn.obj
          clear hn
          go_upto_region 12 with fail
          obtain ⟨W6, hW6⟩ : ∃ W, W = Vd.alloc (.cells #[.int .i64 (a1 : Int), .int .i64 (b1 : Int), .string d1, .int .i64 (c1 : Int)] 44) := ⟨_, rfl⟩
          rw [← hW6]
          have hb6 : Below Vd.heap.size Vd W6 := by rw [hW6]; exact (Below.refl _ _).alloc (Nat.le_refl _) _
          have hk6 : Blk W6 Vd.heap.size 44 #[.int .i64 (a1 : Int), .int .i64 (b1 : Int), .string d1, .int .i64 (c1 : Int)] := by rw [hW6]; exact Blk.made _ _ _
          have HB := Lib.hid (HO.out.below hb6)
          have HGE := Lib.hid (RObj.below HG.out hb6)
          have HR2 := Lib.hid (HROW.out.below hb6)
          have HK6 := Lib.hid hk6
          clear HO HG HROW hW6 hb6 hk6
          have HO := HB
          have HG := HGE
          have HROW := HR2
          clear HB HGE HR2
          generalize Vd.heap.size = k9 at *
          have HR := Lib.hid (rerr_any HG.out)
          go_wp2_with fail
          refine HR.out.mono ?_
          rintro x W7 ⟨e, rfl, he, rfl⟩
          clear HR
          by_cases h0 : Rd.no = 0
          case neg =>
            have hq := HMS.out
            rw [if_neg h0] at hq
            have HQ4 := Lib.hid hq
            obtain ⟨te, ue, rfl⟩ := err_iface he h0
            have HX := Lib.hid (show ErrT W6 S (Rd.no, 129, Rd.ea) (.iface te ue) from he)
            clear hq HMS he h0
            go_wp2_with fail
            go_ret2
            exact ⟨none, 0, 0, _, rfl, by rw [HQ4.out] <;> rfl, by rw [HQ4.out]; exact E4Row.nil _ _, by rw [HQ4.out]; exact HX.out, HO.out.fr⟩
          case pos =>
            have hq := HMS.out
            rw [if_pos h0] at hq
            have HQ4 := Lib.hid hq
            have hen : e = .nilIface := ErrT.isNil (q := (Rd.no, 129, Rd.ea)) he h0
            subst hen
            clear hq HMS he h0
            have k0 : W6.cell? ⟨k9, 0, none⟩ = some (.int .i64 (a1 : Int)) := HK6.out.cell 0
            have HSK := Lib.hid (sk_any (a1 : Int) W6)
            by_cases hk : kOk (a1 : Int)
            case pos =>
              have hq := HQ4.out
              rw [if_pos hk] at hq
              have HQ5 := Lib.hid hq
              rw [decide_eq_true hk] at HSK
              clear hq HQ4 hk
              go_wp2_with fail
              refine HSK.out.mono ?_
              rintro x W7 ⟨rfl, rfl⟩
              clear HSK
              have k1 : W6.cell? ⟨k9, 1, none⟩ = some (.int .i64 (b1 : Int)) := HK6.out.cell 1
              have k2 : W6.cell? ⟨k9, 2, none⟩ = some (.string d1) := HK6.out.cell 2
              have k3 : W6.cell? ⟨k9, 3, none⟩ = some (.int .i64 (c1 : Int)) := HK6.out.cell 3
              have HDL := Lib.hid (show P.length ≤ 100000 by have := HM.out; have := HPL.out; omega)
              have HS6 := Lib.hid HO.out.size
              go_wp2_with (at_builtin; go_must (refine E4_append ⟨(a1 : Int), (b1 : Int), (c1 : Int), d1⟩ rfl _ _ rfl HROW.out HS6.out rfl W6.heap.size 1 rfl rfl HDL.out rfl ?_))
              intro v7 w7 hn7
              have HO7 := Lib.hid (HO.out.grown43 (te := 44) hn7.grown (fun k hk => ⟨(HROW.out.lt k hk).1, (HROW.out.lt k hk).2.2⟩) (by intro x hx; cases hx))
              have HG7 := Lib.hid (HG.out.fr (grown_fr hn7.grown) (fun hm => by obtain ⟨_, _, cs, hh⟩ := HROW.out.lt _ (own_list.1 hm); obtain ⟨_, hb, _⟩ := HG.out.blk; exact hb.other hh (by decide) rfl) HROW.out.nof)
              have HR7 := Lib.hid hn7.row
              clear hn7 k0 k1 k2 k3
              go_wp2_with fail
              go_roundg (m - (nv + 1))
              case rel => exact ⟨nv + 1, P ++ [⟨(a1 : Int), (b1 : Int), (c1 : Int), d1⟩], Rd, rfl, hlt, by go_num, by rw [List.length_append, HPL.out]; rfl, Lib.hid ⟨HO7.out, HG7.out, HR7.out, HQ5.out⟩⟩
              case measure => omega
            case neg =>
              have hq := HQ4.out
              rw [if_neg hk] at hq
              have HQ5 := Lib.hid hq
              rw [decide_eq_false hk] at HSK
              clear hq HQ4 hk
              go_wp2_with fail
              refine HSK.out.mono ?_
              rintro x W7 ⟨rfl, rfl⟩
              have kM := (HE.out _ HO.out.fr).kMalformed
              clear HSK k0
              go_wp2_with fail
              refine (new_err (w := W6) S 1 129 (Rt.p : Int)).mono ?_
              rintro x V3 ⟨e, rfl, he, hb⟩
              have HB := Lib.hid (HO.out.below hb)
              have HX := Lib.hid (show ErrT V3 S (2, 129, Rt.p) e from ErrOf.some (no := 2) (by omega) (by omega) he)
              clear HO he hb kM
              have HO := HB
              clear HB
              go_wp2_with fail
              go_ret2
              exact ⟨none, 0, 0, _, rfl, by rw [HQ5.out] <;> rfl, by rw [HQ5.out]; exact E4Row.nil _ _, by rw [HQ5.out]; exact HX.out, HO.out.fr⟩
        case neg =>
          obtain rfl : nv = m := by omega
          have hq := HQ3.out
          rw [Nat.sub_self] at hq
          have HQ4 := Lib.hid (show q = if (ofR (dnR s Rt)).1 = 0 then (er0, P ++ []) else (ofR (dnR s Rt), []) from hq)
          have HD := Lib.hid (rdone_all (HE.out _ HO.out.fr) HG.out HSZ.out)
          clear hq HQ3
          generalize ofR (dnR s Rt) = d at *
          go_wp2_with fail
          refine HD.out.mono ?_
          rintro x V8 ⟨e, rfl, he, hb⟩
          have HB := Lib.hid (HO.out.below hb)
          have HR2 := Lib.hid (HROW.out.below hb)
          clear HO hb HD HROW
          have HO := HB
          have HROW := HR2
          clear HB HR2
          by_cases h0 : d.1 = 0
          case pos =>
            have hq := HQ4.out
            rw [if_pos h0, List.append_nil] at hq
            have HQ5 := Lib.hid hq
            have hen := he.isNil h0
            subst hen
            clear hq HQ4 he h0
            go_wp2_with fail
            go_ret2
            exact ⟨av, nv, cv, _, rfl, by rw [HQ5.out]; exact HPL.out.symm, by rw [HQ5.out]; exact HROW.out, by rw [HQ5.out]; exact errT_nil _ _ _ rfl, HO.out.fr⟩
          case neg =>
            have hq := HQ4.out
            rw [if_neg h0] at hq
            have HQ5 := Lib.hid hq
            obtain ⟨te, ue, rfl⟩ := he.isErr h0
            have HX := Lib.hid he
            clear hq HQ4 he h0
            go_wp2_with fail
            go_ret2
            exact ⟨none, 0, 0, _, rfl, by rw [HQ5.out] <;> rfl, by rw [HQ5.out]; exact E4Row.nil _ _, by rw [HQ5.out]; exact HX.out, HO.out.fr⟩
end
end Go.Proofs.YtaoaoobabjepnaaDoor
namespace Go.Proofs.YtaoaoobabjepnaaDoor
set_option maxRecDepth 100000
open Go.ChangeShapes Go.WideShapes Go.RowKit Go.Deep Go.Extern.Stop Go.Stop Go.Extern
/-- What Take says. -/
def TkSays (w : World) (S : Nat → Addr) (T : TK) (x : Ending) (w' : World) : Prop := ∃ a c e, x = .returned (.tuple #[.agg (cfgC T.C), .slice a T.L.length c, e]) ∧ ERow w' a T.L ∧ ErrT w' S T.e e ∧ Below w.heap.size w w'
theorem erd_nil (w : World) (a : Option Addr) : ERd w a [] := fun h => absurd h (by decide)
theorem env_clg {w W : World} {S : Nat → Addr} {g : Nat} (hE : Env w S) (hb : Below w.heap.size w W) (hg : w.heap.size ≤ g) : ∀ w1, Fr [g] W w1 → Env w1 S :=
  fun _ hf => hE.later (hf.later hb (fun b hx => by rw [List.mem_singleton] at hx; omega) hb.size)
theorem e4_other {w w' : World} {B k : Nat} {v : Value} {P : List ET} {t : TypeId} {c : Array Value} (hr : E4Row w B v P) (hb : Blk w k t c) (ht : t ≠ 44) (hf : Fr [k] w w') : E4Row w' B v P := hr.fr hf fun j hj hm => by
  rw [List.mem_singleton] at hm
  subst hm
  obtain ⟨_, _, cs, hh⟩ := hr.lt j hj
  exact hb.other hh ht rfl
section
variable {w w' : World} {S : Nat → Addr} {s : ByteArray}
set_option maxHeartbeats 16000000 in
theorem tak_any (hE : Env w S) (hs : s.size ≤ 900000) : Calls Tryd.prog 6 #[.string s] w (TkSays w S (tkS s)) := by
  obtain ⟨T, hT⟩ : ∃ T, T = tkS s := ⟨_, rfl⟩
  rw [← hT]
  unfold tkS at hT
  obtain ⟨⟨qb, C, R⟩, h1⟩ : ∃ V, V = bdF s := ⟨_, rfl⟩
  rw [← h1] at hT
  simp only at hT
  obtain ⟨⟨qe, L⟩, h2⟩ : ∃ V, V = esF s R := ⟨_, rfl⟩
  rw [← h2] at hT
  simp only at hT
  have HE := Lib.hid hE
  have HSZ := Lib.hid hs
  have HT := Lib.hid hT
  have H1 := Lib.hid h1
  have H2 := Lib.hid h2
  have HO := Lib.hid (Own.start [] w)
  clear hE hs hT h1 h2
  go_enter Tryd.func6, Tryd.ntmps6
  go_upto_region 1 with (refine wpo_alloc tyC HO.out rfl rfl ?_; clear HO; rintro k2 W1 hO; have HO := Lib.hid hO; clear hO; simp only [Act.put, List.setIfInBounds_toArray, List.set_cons_zero, List.set_cons_succ])
  go_wp2_with fail
  refine (rnew_any s _).mono ?_
  rintro x W2 ⟨rfl, hW⟩
  have hb : Below W1.heap.size W1 W2 := by rw [hW]; exact (Below.refl _ _).alloc (Nat.le_refl _) _
  have hr : RObj W2 S W1.heap.size s rz0 := by rw [hW]; exact RObj.made W1 S s
  have HGE := Lib.hid (HO.out.size)
  have HB := Lib.hid (HO.out.below hb)
  have HG := Lib.hid hr
  clear HO hb hr hW
  have HO := HB
  clear HB
  generalize W1.heap.size = g at *
  have HTB := Lib.hid (tkb_any (env_clg HE.out HO.out.bel HGE.out) HG.out HSZ.out)
  rw [← H1.out] at HTB
  clear H1
  go_upto_region 2 with fail
  go_wp2_with fail
  refine HTB.out.mono ?_
  rintro x V2 ⟨e, rfl, he, hn⟩
  have HB := Lib.hid (HO.out.rnext HG.out hn (.inr HGE.out) rfl)
  clear HO HTB
  have HO := HB
  clear HB HG
  have HG := Lib.hid hn.obj
  clear hn
  simp only at he
  have HCZ := Lib.hid (show (cfgC C).size = 13 from rfl)
  have HC1 := Lib.hid (cfg_one C)
  obtain ⟨cc, hcc⟩ : ∃ c, c = cfgC C := ⟨_, rfl⟩
  simp only
  rw [← hcc] at HCZ HC1 ⊢
  have HCC := Lib.hid hcc
  clear hcc
  have HGE2 := Lib.hid (And.intro he HG.out)
  clear HG he
  have HG := HGE2
  clear HGE2
  have STB := (stab_er S qb e).and (stab_ro S g s R)
  go_upto_region 3 with (first | (refine wps_alloc STB HG.out tyC HO.out rfl rfl ?_; clear HO HG; rintro k6 W7 hO hG; have HO := Lib.hid hO; have HG := Lib.hid hG; clear hO hG; simp only [Act.put, List.setIfInBounds_toArray, List.set_cons_zero, List.set_cons_succ]) | (refine wps_store (k := k6) STB HG.out HO.out 0 tyC rfl (by decide) (by decide) (by decide) _ _ rfl rfl rfl rfl rfl HCZ.out HC1.out ?_; clear HO HG; rintro W8 hO hG; have HO := Lib.hid hO; have HG := Lib.hid hG; clear hO hG; simp only [Act.put]))
  simp only [List.set_cons_zero] at HO
  by_cases h0 : qb.1 = 0
  case neg =>
    have hq := HT.out
    rw [if_neg h0] at hq
    have HT2 := Lib.hid hq
    obtain ⟨te, ue, rfl⟩ := HG.out.1.isErr h0
    clear hq HT h0
    go_wp2_with (first | (refine wpo_zero tyC rfl rfl ?_) | (refine wps_store (k := k2) (c := cfgC zC) STB HG.out HO.out 1 tyC rfl (by decide) (by decide) (by decide) _ _ rfl rfl rfl rfl rfl rfl rfl ?_; clear HO HG; rintro W3 hO hG; have HO := Lib.hid hO; have HG := Lib.hid hG; clear hO hG; simp only [Act.put]))
    exact bodyPost_ret (res_own100 1 HO.out tyC rfl rfl rfl rfl rfl rfl) rfl ⟨none, 0, _, by rw [HT2.out] <;> rfl, by rw [HT2.out]; exact erow_nil _ _ rfl, by rw [HT2.out]; exact HG.out.1, HO.out.bel⟩
  case pos =>
    have hq := HT.out
    rw [if_pos h0] at hq
    have HT2 := Lib.hid hq
    have hen := HG.out.1.isNil h0
    subst hen
    have HG2 := Lib.hid HG.out.2
    clear hq HT h0 HG STB
    have HG := HG2
    clear HG2
    have HTE := Lib.hid (tke_any (env_clg HE.out HO.out.bel HGE.out) HG.out HSZ.out)
    rw [← H2.out] at HTE
    clear H2
    go_wp2_with fail
    refine HTE.out.mono ?_
    rintro x V4 ⟨a, n, c, e, rfl, hn, hr, he, hf⟩
    simp only at hn hr he
    subst hn
    have hOE : Own [] w V4 [(k6, 24, cc), (k2, 24, cfgC zC)] := HO.out.frg HG.out hf (.inr HGE.out) rfl
    have HB := Lib.hid hOE
    have HROW := Lib.hid hr
    clear hOE HO HTE hf HG hr
    have HO := HB
    clear HB
    by_cases h0 : qe.1 = 0
    case neg =>
      have hq := HT2.out
      rw [if_neg h0] at hq
      have HT3 := Lib.hid hq
      obtain ⟨te, ue, rfl⟩ := he.isErr h0
      have HG := Lib.hid he
      clear hq HT2 h0 he HROW
      go_wp2_with (first | (refine wpo_zero tyC rfl rfl ?_) | (refine wps_store (k := k2) (c := cfgC zC) (stab_er S qe (.iface te ue)) HG.out HO.out 1 tyC rfl (by decide) (by decide) (by decide) _ _ rfl rfl rfl rfl rfl rfl rfl ?_; clear HO HG; rintro W3 hO hG; have HO := Lib.hid hO; have HG := Lib.hid hG; clear hO hG; simp only [Act.put]))
      exact bodyPost_ret (res_own100 1 HO.out tyC rfl rfl rfl rfl rfl rfl) rfl ⟨none, 0, _, by rw [HT3.out] <;> rfl, by rw [HT3.out]; exact erow_nil _ _ rfl, by rw [HT3.out]; exact HG.out, HO.out.bel⟩
    case pos =>
      have hq := HT2.out
      rw [if_pos h0] at hq
      have HT3 := Lib.hid hq
      have hen := he.isNil h0
      subst hen
      clear hq HT2 he h0
      have HFR := Lib.hid (fun W (hf : Fr [k2] V4 W) => e4_other HROW.out (HO.out.get 1 rfl) (by decide) hf)
      go_wp2_with (first | (refine wpo_load HO.out 0 tyC rfl HCZ.out _ rfl rfl rfl ?_) | (refine wpg_store (k := k2) HO.out 1 tyC rfl HFR.out _ _ rfl rfl rfl rfl rfl HCZ.out HC1.out ?_; clear HO; rintro W3 hO hG; have HO := Lib.hid hO; have HG := Lib.hid hG; clear hO hG; simp only [Act.put]))
      exact bodyPost_ret (res_own100 1 HO.out tyC rfl rfl rfl rfl rfl HCZ.out) rfl ⟨a, c, _, by rw [HT3.out, HCC.out] <;> rfl, by rw [HT3.out]; exact ⟨_, _, HG.out⟩, by rw [HT3.out]; exact errT_nil _ _ _ rfl, HO.out.bel⟩
end
end Go.Proofs.YtaoaoobabjepnaaDoor

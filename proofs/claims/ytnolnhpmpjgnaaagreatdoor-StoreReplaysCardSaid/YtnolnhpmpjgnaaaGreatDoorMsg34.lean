/- What is proved here: a message is read out of a record (the program's message). Conditions: few bytes. -/
import Derived.Test.YtnolnhpmpjgnaaaGreatDoorSto34
import Derived.Test.YtnolnhpmpjgnaaaGreatDoorRea06
namespace Go.Proofs.YtnolnhpmpjgnaaaGreatDoor
set_option maxRecDepth 100000
open Go.RowKit Go.Extern.Stop Go.Stop Go.Extern
structure MsR where
  m : MV
  fl : Nat
  e : RR
  R : RV
def tilF (hi lo : Nat) : Int := if hi < 2147483648 then ((hi * 4294967296 + lo : Nat) : Int) else ((hi * 4294967296 + lo : Nat) : Int) - 18446744073709551616
def msT (s : ByteArray) (R : RV) : ByteArray × RV := rBin s R
def msP (s : ByteArray) (R : RV) : ByteArray × RV := rBin s (msT s R).2
def msB (s : ByteArray) (R : RV) : Nat × RV := rNum s 1 (msP s R).2
def msU (s : ByteArray) (R : RV) : ByteArray × RV := rBin s (msB s R).2
def msH (s : ByteArray) (R : RV) : Nat × RV := rNum s 4 (msU s R).2
def msL (s : ByteArray) (R : RV) : Nat × RV := rNum s 4 (msH s R).2
def msD (s : ByteArray) (R : RV) : RR × RV := readF 3 s (msL s R).2
/-- What a message's bytes tell. -/
def msF (s : ByteArray) (R : RV) : MsR := ⟨⟨(msT s R).1, (msP s R).1, (((msB s R).1 % 4 : Nat) : Int), decide ((msB s R).1 / 4 % 2 = 1), (msD s R).1.L, (msU s R).1, tilF (msH s R).1 (msL s R).1, 0, e0⟩, (msB s R).1, (msD s R).1, (msD s R).2⟩
def MsSays (w : World) (S : Nat → Addr) (g : Nat) (s : ByteArray) (q : MsR) (x : Ending) (w' : World) : Prop :=
  ∃ A c e, x = .returned (.tuple #[(QV.agg ⟨q.m, A, c⟩), .int .i64 q.fl, e]) ∧ PIn w' 0 A q.m.props ∧ q.m.props.length ≤ c ∧ ErrOf w' S q.e.r q.e.no q.e.at_ e ∧ RNext w w' S g s q.R
theorem bits34_3 : ∀ f : Nat, f < 256 → bits BinOp.and IntKind.i64 (f : Int) 3 = ((f % 4 : Nat) : Int) := by decide +kernel
theorem bits34_4 : ∀ f : Nat, f < 256 → bits BinOp.and IntKind.i64 (f : Int) 4 = if f / 4 % 2 = 1 then 4 else 0 := by decide +kernel
theorem num1_lt (s : ByteArray) (R : RV) : (rNum s 1 R).1 < 256 := by
  have h1 := bv_lt (rTake s 1 R).1.data.toList
  have h2 := take_size s 1 R
  have h3 : (rTake s 1 R).1.data.toList.length ≤ 1 := by rw [bLen]; exact h2
  refine Nat.lt_of_lt_of_le h1 (Nat.le_trans (Nat.pow_le_pow_right (by decide) h3) (by decide))
theorem num4_lt (s : ByteArray) (R : RV) : (rNum s 4 R).1 < 4294967296 := by
  have h1 := bv_lt (rTake s 4 R).1.data.toList
  have h2 := take_size s 4 R
  have h3 : (rTake s 4 R).1.data.toList.length ≤ 4 := by rw [bLen]; exact h2
  refine Nat.lt_of_lt_of_le h1 (Nat.le_trans (Nat.pow_le_pow_right (by decide) h3) (by decide))
theorem own_bz {z w W : World} {g : Nat} {L : OL} (h : Own [g] w W L) (hz : Below z.heap.size z w) (hg : z.heap.size ≤ g) : Below z.heap.size z W := h.fr.later hz (fun b hx => by rw [List.mem_singleton] at hx; omega) hz.size
theorem til_or (hi lo : Nat) (h1 : hi < 4294967296) (h2 : lo < 4294967296) : bits BinOp.or IntKind.i64 (wrap64 ((hi : Int) * 4294967296)) (lo : Int) = tilF hi lo := by
  have ha : (BitVec.ofInt 64 (wrap64 ((hi : Int) * 4294967296))).toNat = hi * 4294967296 := by
    rw [BitVec.toNat_ofInt]
    unfold wrap64
    omega
  have hb : (BitVec.ofInt 64 (lo : Int)).toNat = lo := by
    rw [BitVec.ofInt_natCast, BitVec.toNat_ofNat]; exact Nat.mod_eq_of_lt (by omega)
  have h := Nat.two_pow_add_eq_or_of_lt (i := 32) (b := lo) (by omega) hi
  have e3 : hi * 4294967296 ||| lo = hi * 4294967296 + lo := by
    rw [show hi * 4294967296 = 2 ^ 32 * hi by omega]
    exact h.symm
  show IntKind.i64.wrap ((BitVec.ofInt 64 (wrap64 ((hi : Int) * 4294967296)) ||| BitVec.ofInt 64 (lo : Int)).toNat : Int) = _
  rw [BitVec.toNat_or, ha, hb, e3]
  rw [IntKind.wrap_i64]
  unfold tilF
  split <;> omega
set_option maxHeartbeats 4000000 in
theorem message_any {z w : World} {S : Nat → Addr} {g : Nat} {s : ByteArray} {R : RV} (hE : Env z S) (hz : Below z.heap.size z w) (hg : z.heap.size ≤ g) (ho : RObj w S g s R) (hs : s.size ≤ 900000) :
    Calls Tryz.prog 25 #[.pointer (some ⟨g, 0, none⟩)] w (MsSays w S g s (msF s R)) := by
  have henv : ∀ (W : World) (L : OL), Own [g] w W L → ∀ w1, Fr [g] W w1 → Env w1 S := fun W L hO w1 hf => hE.later (hf.later (own_bz hO hz hg) (fun b hx => by rw [List.mem_singleton] at hx; omega) (own_bz hO hz hg).size)
  have HBIN := Lib.hid (fun (W : World) (L : OL) (R' : RV) (hO : Own [g] w W L) (h : RObj W S g s R') => rbin_any (henv W L hO) h hs)
  have HU8 := Lib.hid (fun (W : World) (L : OL) (R' : RV) (hO : Own [g] w W L) (h : RObj W S g s R') => ru8_any (henv W L hO W (Fr.refl _ _)) h (by omega))
  have HU32 := Lib.hid (fun (W : World) (L : OL) (R' : RV) (hO : Own [g] w W L) (h : RObj W S g s R') => ru32_any (henv W L hO W (Fr.refl _ _)) h (by omega))
  have HPR := Lib.hid (fun (W : World) (L : OL) (R' : RV) (hO : Own [g] w W L) (h : RObj W S g s R') => pread_any hE (own_bz hO hz hg) hg h hs 3)
  obtain ⟨q, hq⟩ : ∃ q, q = msF s R := ⟨_, rfl⟩
  rw [← hq]
  unfold msF at hq
  obtain ⟨T1, h1⟩ : ∃ T, T = msT s R := ⟨_, rfl⟩
  have f1 : T1 = rBin s R := h1
  obtain ⟨T2, h2⟩ : ∃ T, T = msP s R := ⟨_, rfl⟩
  have f2 : T2 = rBin s T1.2 := by rw [h2, h1]; rfl
  obtain ⟨T3, h3⟩ : ∃ T, T = msB s R := ⟨_, rfl⟩
  have f3 : T3 = rNum s 1 T2.2 := by rw [h3, h2]; rfl
  obtain ⟨T4, h4⟩ : ∃ T, T = msU s R := ⟨_, rfl⟩
  have f4 : T4 = rBin s T3.2 := by rw [h4, h3]; rfl
  obtain ⟨T5, h5⟩ : ∃ T, T = msH s R := ⟨_, rfl⟩
  have f5 : T5 = rNum s 4 T4.2 := by rw [h5, h4]; rfl
  obtain ⟨T6, h6⟩ : ∃ T, T = msL s R := ⟨_, rfl⟩
  have f6 : T6 = rNum s 4 T5.2 := by rw [h6, h5]; rfl
  obtain ⟨T7, h7⟩ : ∃ T, T = msD s R := ⟨_, rfl⟩
  have f7 : T7 = readF 3 s T6.2 := by rw [h7, h6]; rfl
  rw [← h1, ← h2, ← h3, ← h4, ← h5, ← h6, ← h7] at hq
  have l3 : T3.1 < 256 := by rw [f3]; exact num1_lt _ _
  have l5 : T5.1 < 4294967296 := by rw [f5]; exact num4_lt _ _
  have l6 : T6.1 < 4294967296 := by rw [f6]; exact num4_lt _ _
  have F1 := Lib.hid f1
  have F2 := Lib.hid f2
  have F3 := Lib.hid f3
  have F4 := Lib.hid f4
  have F5 := Lib.hid f5
  have F6 := Lib.hid f6
  have F7 := Lib.hid f7
  have L3 := Lib.hid l3
  have L5 := Lib.hid l5
  have L6 := Lib.hid l6
  have HQ := Lib.hid hq
  have HO := Lib.hid (Own.start [g] w)
  have HG := Lib.hid ho
  clear hq h1 h2 h3 h4 h5 h6 h7 f1 f2 f3 f4 f5 f6 f7 l3 l5 l6 henv hE hz ho
  go_enter Tryz.func25, Tryz.ntmps25
  go_upto_region 1 with (refine wps_alloc (stab_ro S g s _) HG.out tyM HO.out rfl rfl ?_; clear HO HG; rintro k1 W1 hO hG; have HO := Lib.hid hO; have HG := Lib.hid hG; clear hO hG; simp only [Act.put, List.setIfInBounds_toArray, List.set_cons_zero, List.set_cons_succ])
  go_wp2_with fail
  refine (HBIN.out _ _ _ HO.out HG.out).mono ?_
  rintro x W2 ⟨rfl, hN⟩
  rw [← F1.out] at hN ⊢
  have hO := HO.out.rnext HG.out hN (.inl (List.mem_singleton_self g)) rfl
  clear HO HG
  have HO := Lib.hid hO
  have HG := Lib.hid hN.obj
  clear hO hN
  go_wp2_with fail
  refine (HBIN.out _ _ _ HO.out HG.out).mono ?_
  rintro x W3 ⟨rfl, hN⟩
  rw [← F2.out] at hN ⊢
  have hO := HO.out.rnext HG.out hN (.inl (List.mem_singleton_self g)) rfl
  clear HO HG
  have HO := Lib.hid hO
  have HG := Lib.hid hN.obj
  clear hO hN
  go_upto_region 2 with (first | (refine wpo_built (l := [(0, .string T1.1), (1, .string T2.1)]) (c := #[.string T1.1, .string T2.1, .int .i64 0, .bool false, .slice none 0 0, .string ⟨#[]⟩, .int .i64 0, .int .i64 0, .string ⟨#[]⟩]) rfl rfl rfl rfl ?_) | (refine wps_alloc (stab_ro S g s _) HG.out tyM HO.out rfl rfl ?_; clear HO HG; rintro k2 W4 hO hG; have HO := Lib.hid hO; have HG := Lib.hid hG; clear hO hG; simp only [Act.put, List.setIfInBounds_toArray, List.set_cons_zero, List.set_cons_succ]) | (refine wps_store (k := k2) (stab_ro S g s _) HG.out HO.out 0 tyM rfl (by decide) (by decide) (by decide) _ _ rfl rfl rfl rfl rfl rfl rfl ?_; clear HO HG; rintro W5 hO hG; have HO := Lib.hid hO; have HG := Lib.hid hG; clear hO hG; simp only [Act.put]))
  go_wp2_with fail
  refine (HU8.out _ _ _ HO.out HG.out).mono ?_
  rintro x W6 ⟨rfl, hN⟩
  rw [← F3.out] at hN ⊢
  have hO := HO.out.rnext HG.out hN (.inl (List.mem_singleton_self g)) rfl
  clear HO HG
  have HO := Lib.hid hO
  have HG := Lib.hid hN.obj
  clear hO hN
  have b3 := bits34_3 T3.1 L3.out
  obtain ⟨rt, hrt⟩ : ∃ rt, rt = decide (T3.1 / 4 % 2 = 1) := ⟨_, rfl⟩
  rw [← hrt] at HQ
  have b4 : decide (0 < bits BinOp.and IntKind.i64 (T3.1 : Int) 4) = rt := by
    rw [bits34_4 T3.1 L3.out, hrt]
    by_cases h : T3.1 / 4 % 2 = 1
    · rw [if_pos h]; simp [h]
    · rw [if_neg h]; simp [h]
  clear hrt
  go_upto_region 4 with (first | (refine wps_cell (k := k2) (stab_ro S g s _) HG.out HO.out 0 2 tyI.ip rfl (by decide) (by decide) (by decide) _ _ rfl rfl rfl rfl (show 2 < 9 by decide) rfl ?_; clear HO HG; rintro W7 hO hG; have HO := Lib.hid hO; have HG := Lib.hid hG; clear hO hG; simp only [Act.put]) | (refine wps_cell (k := k2) (stab_ro S g s _) HG.out HO.out 0 3 tyB.ip rfl (by decide) (by decide) (by decide) _ _ rfl rfl rfl rfl (show 3 < 9 by decide) rfl ?_; clear HO HG; rintro W8 hO hG; have HO := Lib.hid hO; have HG := Lib.hid hG; clear hO hG; simp only [Act.put]))
  go_wp2_with fail
  refine (HBIN.out _ _ _ HO.out HG.out).mono ?_
  rintro x W9 ⟨rfl, hN⟩
  rw [← F4.out] at hN ⊢
  have hO := HO.out.rnext HG.out hN (.inl (List.mem_singleton_self g)) rfl
  clear HO HG
  have HO := Lib.hid hO
  have HG := Lib.hid hN.obj
  clear hO hN
  go_upto_region 5 with (first | (refine wps_cell (k := k2) (stab_ro S g s _) HG.out HO.out 0 5 tyS.ip rfl (by decide) (by decide) (by decide) _ _ rfl rfl rfl rfl (show 5 < 9 by decide) rfl ?_; clear HO HG; rintro W10 hO hG; have HO := Lib.hid hO; have HG := Lib.hid hG; clear hO hG; simp only [Act.put]))
  go_wp2_with fail
  refine (HU32.out _ _ _ HO.out HG.out).mono ?_
  rintro x W11 ⟨rfl, hN⟩
  rw [← F5.out] at hN ⊢
  have hO := HO.out.rnext HG.out hN (.inl (List.mem_singleton_self g)) rfl
  clear HO HG
  have HO := Lib.hid hO
  have HG := Lib.hid hN.obj
  clear hO hN
  go_wp2_with fail
  refine (HU32.out _ _ _ HO.out HG.out).mono ?_
  rintro x W12 ⟨rfl, hN⟩
  rw [← F6.out] at hN ⊢
  have hO := HO.out.rnext HG.out hN (.inl (List.mem_singleton_self g)) rfl
  clear HO HG
  have HO := Lib.hid hO
  have HG := Lib.hid hN.obj
  clear hO hN
  have b5 := til_or T5.1 T6.1 L5.out L6.out
  go_upto_region 6 with (first | (refine wps_cell (k := k2) (stab_ro S g s _) HG.out HO.out 0 6 tyI.ip rfl (by decide) (by decide) (by decide) _ _ rfl rfl rfl rfl (show 6 < 9 by decide) rfl ?_; clear HO HG; rintro W13 hO hG; have HO := Lib.hid hO; have HG := Lib.hid hG; clear hO hG; simp only [Act.put]))
  go_wp2_with fail
  refine (HPR.out _ _ _ HO.out HG.out).mono ?_
  rintro x W14 ⟨v, e, rfl, hrow, he, hN⟩
  rw [← F7.out] at hrow he hN
  obtain ⟨A, c, rfl⟩ := hrow.form
  obtain ⟨n, hn⟩ : ∃ n, n = T7.1.L.length := ⟨_, rfl⟩
  have hcap : n ≤ c := by
    obtain ⟨a2, n2, c2, e2, e3, e4⟩ := hrow.some_form
    injection e2 with _ _ e5
    omega
  have hpin := hrow.pin (B' := 0)
  rw [← hn]
  have hO := HO.out.rnext HG.out hN (.inl (List.mem_singleton_self g)) rfl
  have STB := Lib.hid (((stab_ro S g s T7.2).and (stab_eo S T7.1.r T7.1.no T7.1.at_ e)).and (stab_pin A T7.1.L))
  have hG : ((RObj W14 S g s T7.2 ∧ ErrOf W14 S T7.1.r T7.1.no T7.1.at_ e) ∧ PIn W14 0 A T7.1.L) := ⟨⟨hN.obj, he⟩, hpin⟩
  clear HO HG hrow he hN hpin
  have HO := Lib.hid hO
  have HG := Lib.hid hG
  have HN := Lib.hid hn
  have HC := Lib.hid hcap
  clear hO hG hn hcap
  go_wp2_with (first | (refine wps_cell (k := k2) STB.out HG.out HO.out 0 4 tyL.ip rfl (by decide) (by decide) (by decide) _ _ rfl rfl rfl rfl (show 4 < 9 by decide) rfl ?_; clear HO HG; rintro W15 hO hG; have HO := Lib.hid hO; have HG := Lib.hid hG; clear hO hG; simp only [Act.put]) | (refine wpo_load HO.out 0 tyM rfl rfl _ rfl rfl rfl ?_) | (refine wps_store (k := k1) STB.out HG.out HO.out 1 tyM rfl (by decide) (by decide) (by decide) _ _ rfl rfl rfl rfl rfl rfl rfl ?_; clear HO HG; rintro W16 hO hG; have HO := Lib.hid hO; have HG := Lib.hid hG; clear hO hG; simp only [Act.put]))
  have hn := HN.out
  subst hn
  exact bodyPost_ret (res_own100 1 HO.out tyM rfl rfl rfl rfl rfl rfl) rfl ⟨A, c, e, by rw [HQ.out]; rfl, by rw [HQ.out]; exact HG.out.2, by rw [HQ.out]; exact HC.out, by rw [HQ.out]; exact HG.out.1.2, by rw [HQ.out]; exact ⟨HG.out.1.1, HO.out.fr⟩⟩
end Go.Proofs.YtnolnhpmpjgnaaaGreatDoor

/- What is proved here: what a Reader of package field reads: numbers, variable byte integers, bytes, texts; and whether it is done. Conditions: the reader is there; what the rows list of the package's variables. -/
import Derived.Test.YtfojoeafhdiaiaaGreatDoorRrd04
namespace Go.Proofs.YtfojoeafhdiaiaaGreatDoor
set_option maxRecDepth 100000
open Go.RowKit Go.Extern.Stop Go.Stop Go.Extern
section
variable {w w' : World} {S : Nat → Addr} {B g : Nat} {s : ByteArray} {R : RV}
theorem rtake_any (hE : Env w S) (h : RObj w S g s R) (hs : s.size ≤ 1000000) (n : Nat) :
    Calls Tryz.prog 72 #[.pointer (some ⟨g, 0, none⟩), .int .i64 n] w (TSays w S g s (.string (rTake s n R).1) (rTake s n R).2) := by
  by_cases h0 : R.no = 0
  · by_cases hn : s.size < R.p + n
    · have e : rTake s n R = (⟨#[]⟩, ⟨R.p, 1, s.size⟩) := by unfold rTake; rw [if_pos h0, if_pos hn]
      rw [e]
      exact rtake_short hE h h0 hs n hn
    · have e : rTake s n R = (s.extract R.p (R.p + n), ⟨R.p + n, R.no, R.ea⟩) := by unfold rTake; rw [if_pos h0, if_neg hn, h0]
      rw [e]
      exact rtake_ok h h0 hs n (by omega)
  · rw [rTake_stuck h0]
    exact rtake_stuck h h0 n
theorem take_size (s : ByteArray) (n : Nat) (R : RV) : (rTake s n R).1.size ≤ n := by
  unfold rTake
  split
  · split
    · exact Nat.zero_le _
    · simp; omega
  · exact Nat.zero_le _
/-- The number of the first bytes. -/
def preB (t : ByteArray) (i : Nat) : Nat := bv (t.data.toList.take i)
theorem preB_zero (t : ByteArray) : preB t 0 = 0 := rfl
theorem preB_all (t : ByteArray) : preB t t.size = bv t.data.toList := by
  unfold preB
  rw [List.take_of_length_le (by rw [bLen]; exact Nat.le_refl _)]
theorem preB_succ {t : ByteArray} {i : Nat} (h : i < t.size) : preB t (i + 1) = preB t i * 256 + t[i].toNat := by
  have hl : i < t.data.toList.length := by rw [bLen]; exact h
  unfold preB
  rw [List.take_succ_eq_append_getElem hl, bv_snoc]
  rfl
theorem preB_lt (t : ByteArray) (i : Nat) (h : i ≤ 4) : preB t i < 4294967296 := by
  have h1 := bv_lt (t.data.toList.take i)
  have h2 : (t.data.toList.take i).length ≤ 4 := by rw [List.length_take]; omega
  have h3 : 256 ^ (t.data.toList.take i).length ≤ 256 ^ 4 := Nat.pow_le_pow_right (by omega) h2
  unfold preB
  omega
set_option maxHeartbeats 1000000 in
theorem rnumber_any (hE : Env w S) (h : RObj w S g s R) (hs : s.size ≤ 1000000) (k : Nat) (hk : k ≤ 4) :
    Calls Tryz.prog 97 #[.pointer (some ⟨g, 0, none⟩), .int .i64 k] w (TSays w S g s (.int .i64 (rNum s k R).1) (rNum s k R).2) := by
  have HT := Lib.hid (rtake_any hE h hs k)
  have hz := take_size s k R
  have e1 : (rNum s k R).1 = bv (rTake s k R).1.data.toList := rfl
  have e2 : (rNum s k R).2 = (rTake s k R).2 := rfl
  rw [e1, e2]
  generalize (rTake s k R).2 = R' at *
  generalize (rTake s k R).1 = t at *
  have hb4 : t.size ≤ 4 := by omega
  clear e1 e2 hz hE h hs
  go_enter Tryz.func97, Tryz.ntmps97
  go_wp2_with fail
  refine HT.out.mono ?_
  rintro x w1 ⟨rfl, hN⟩
  have HN := Lib.hid hN
  clear hN HT
  go_wp2_with fail
  have HA := Lib.hid (preB_all t)
  go_loopg [5, 13] t.size (fun f x y wr => w1 = wr ∧ ∃ i : Nat, f = t.size - i ∧ i ≤ t.size ∧ x = .int .i64 (preB t i : Nat) ∧ y = .int .i64 i)
  case atStart => exact ⟨rfl, 0, rfl, Nat.zero_le _, rfl, rfl⟩
  case round =>
    obtain ⟨rfl, i, rfl, hi, rfl, rfl⟩ := hrel
    by_cases hlt : i < t.size
    · have hp := preB_succ hlt
      have hq := preB_lt t i (by omega)
      have hr := roll8 (preB t i) t[i].toNat (by omega) (by have := t[i].toNat_lt; omega)
      have hv := t[i].toNat_lt
      have HP := Lib.hid hp
      clear hp
      obtain ⟨r, hrr⟩ : ∃ r, preB t i * 256 + t[i].toNat = r := ⟨_, rfl⟩
      have HR := Lib.hid hrr
      rw [hrr] at hr
      clear hrr
      generalize hqq : preB t i = q at *
      have hq' : (q : Int) < 4294967296 := by omega
      clear hqq
      go_wp2
      go_roundg (t.size - (i + 1))
      case rel => exact ⟨rfl, i + 1, rfl, hlt, by rw [HP.out, HR.out], by go_num⟩
      case measure => omega
    · obtain rfl : i = t.size := by omega
      have hA := HA.out
      rw [hA]
      go_wp2
      go_ret
      exact ⟨rfl, HN.out⟩
theorem ru8_any (hE : Env w S) (h : RObj w S g s R) (hs : s.size ≤ 1000000) :
    Calls Tryz.prog 86 #[.pointer (some ⟨g, 0, none⟩)] w (TSays w S g s (.int .i64 (rNum s 1 R).1) (rNum s 1 R).2) := by
  have HN := Lib.hid (rnumber_any hE h hs 1 (by omega))
  clear h hE hs
  generalize rNum s 1 R = q at *
  go_enter Tryz.func86, Tryz.ntmps86
  go_wp2_with fail
  refine HN.out.mono ?_
  rintro x w1 ⟨rfl, hN⟩
  have HF := Lib.hid hN
  clear hN
  go_wp2
  go_ret
  exact ⟨rfl, HF.out⟩
theorem ru16_any (hE : Env w S) (h : RObj w S g s R) (hs : s.size ≤ 1000000) :
    Calls Tryz.prog 87 #[.pointer (some ⟨g, 0, none⟩)] w (TSays w S g s (.int .i64 (rNum s 2 R).1) (rNum s 2 R).2) := by
  have HN := Lib.hid (rnumber_any hE h hs 2 (by omega))
  clear h hE hs
  generalize rNum s 2 R = q at *
  go_enter Tryz.func87, Tryz.ntmps87
  go_wp2_with fail
  refine HN.out.mono ?_
  rintro x w1 ⟨rfl, hN⟩
  have HF := Lib.hid hN
  clear hN
  go_wp2
  go_ret
  exact ⟨rfl, HF.out⟩
theorem ru32_any (hE : Env w S) (h : RObj w S g s R) (hs : s.size ≤ 1000000) :
    Calls Tryz.prog 88 #[.pointer (some ⟨g, 0, none⟩)] w (TSays w S g s (.int .i64 (rNum s 4 R).1) (rNum s 4 R).2) := by
  have HN := Lib.hid (rnumber_any hE h hs 4 (by omega))
  clear h hE hs
  generalize rNum s 4 R = q at *
  go_enter Tryz.func88, Tryz.ntmps88
  go_wp2_with fail
  refine HN.out.mono ?_
  rintro x w1 ⟨rfl, hN⟩
  have HF := Lib.hid hN
  clear hN
  go_wp2
  go_ret
  exact ⟨rfl, HF.out⟩
theorem rvar_stuck (h : RObj w S g s R) (h0 : R.no ≠ 0) :
    Calls Tryz.prog 41 #[.pointer (some ⟨g, 0, none⟩)] w (TSays w S g s (.int .i64 0) R) := by
  have HE := Lib.hid (rended_yes h h0)
  have HS := Lib.hid (h.step (Below.refl _ _))
  clear h h0
  go_enter Tryz.func41, Tryz.ntmps41
  go_wp2_with fail
  refine HE.out.mono ?_
  rintro x w1 ⟨rfl, rfl⟩
  go_wp2
  go_ret
  exact ⟨rfl, HS.out⟩
theorem rvar_ok (hE : Env w S) (h : RObj w S g s R) (h0 : R.no = 0) (hs : s.size ≤ 1000000) (n k a : Nat) (hv : vt (s.extract R.p s.size) 4 0 0 1 = (n, k, 0, a)) (hk : R.p + k ≤ s.size) :
    Calls Tryz.prog 41 #[.pointer (some ⟨g, 0, none⟩)] w (TSays w S g s (.int .i64 n) ⟨R.p + k, R.no, R.ea⟩) := by
  have HE := Lib.hid (rended_no h h0)
  have hle := h.le
  have hi0 : TIn w w S g s R := ⟨h, hE, Below.refl _ _⟩
  have HT := Lib.hid (fun (W1 : World) (h : TIn w W1 S g s R) => (vi_take S (s.extract R.p s.size) W1 h.env (by simp; omega)).mono fun x w' hx => show x = Ending.returned (.tuple #[.int .i64 n, .int .i64 k, .nilIface]) ∧ TIn w w' S g s R from by
    obtain ⟨e, rfl, he, hb⟩ := hx
    rw [hv] at he ⊢
    obtain rfl : e = .nilIface := he
    exact ⟨rfl, h.below hb⟩)
  have KT := Lib.hid (fun (W1 : World) (h : TIn w W1 S g s R) => show W1.cell? ⟨g, 0, none⟩ = some (.string s) ∧ W1.cell? ⟨g, 1, none⟩ = some (.int .i64 R.p) ∧ W1.frozen? ⟨g, 1, none⟩ = false from by
    obtain ⟨e, hb, _⟩ := h.obj.blk
    exact ⟨hb.cell 0, hb.cell 1, hb.frozen 1⟩)
  have KS := Lib.hid (fun (W1 : World) (h : TIn w W1 S g s R) => show W1.cell? ⟨g, 0, none⟩ = some (.string s) ∧ W1.cell? ⟨g, 1, none⟩ = some (.int .i64 R.p) from ⟨(KT.out W1 h).1, (KT.out W1 h).2.1⟩)
  obtain ⟨p, no, ea⟩ := R
  simp only at *
  subst h0
  clear h hE hv
  go_enter Tryz.func41, Tryz.ntmps41
  go_wp2_with fail
  refine HE.out.mono ?_
  rintro x w1 ⟨rfl, rfl⟩
  obtain ⟨t0, t1, t2⟩ := KT.out _ hi0
  go_wp2_with fail
  go_region_held3 (fun W => W.cell? ⟨g, 0, none⟩ = some (.string s) ∧ W.cell? ⟨g, 1, none⟩ = some (.int .i64 p))
    (first | assumption | (exact KS.out _ (by assumption)) | (exact KS.out _ (TIn.drewN (by assumption) 1)))
    ((go_at_call 69; (with_reducible refine (HT.out _ ?_).mono ?_); (first | assumption | exact TIn.drewN (by assumption) 1); rintro x w6 ⟨rfl, hi6⟩))
  obtain ⟨y0, y1, y2⟩ := KT.out _ hi6
  have hpn := hk
  have q1 : IntKind.i64.wrap ((p : Int) + (k : Int)) = (p : Int) + (k : Int) := IntWalk.i64_in _ (by omega)
  have HN := Lib.hid ((hi6.obj.moved (p := p + k) hk).pre hi6.bel)
  clear t0 t1 t2 hi6
  go_wp2_with fail
  go_ret
  exact ⟨rfl, HN.out⟩
theorem rvar_bad (hE : Env w S) (h : RObj w S g s R) (h0 : R.no = 0) (hs : s.size ≤ 1000000) (n k no a : Nat) (hv : vt (s.extract R.p s.size) 4 0 0 1 = (n, k, no, a)) (hno : no ≠ 0) (ha : a ≤ 1000000) :
    Calls Tryz.prog 41 #[.pointer (some ⟨g, 0, none⟩)] w (TSays w S g s (.int .i64 0) ⟨R.p, no, R.p + a⟩) := by
  have HE := Lib.hid (rended_no h h0)
  have hle := h.le
  have hi0 : TIn w w S g s R := ⟨h, hE, Below.refl _ _⟩
  have HT := Lib.hid (fun (W1 : World) (h : TIn w W1 S g s R) => (vi_take S (s.extract R.p s.size) W1 h.env (by simp; omega)).mono fun x w' hx => show ∃ t u, x = Ending.returned (.tuple #[.int .i64 n, .int .i64 k, .iface t u]) ∧ ErrOf w' S 129 no a (.iface t u) ∧ TIn w w' S g s R from by
    obtain ⟨e, rfl, he, hb⟩ := hx
    rw [hv] at he ⊢
    obtain ⟨t, u, rfl⟩ := err_iface he hno
    exact ⟨t, u, rfl, he, h.below hb⟩)
  have KT := Lib.hid (fun (W1 : World) (h : TIn w W1 S g s R) => show W1.cell? ⟨g, 0, none⟩ = some (.string s) ∧ W1.cell? ⟨g, 1, none⟩ = some (.int .i64 R.p) from by
    obtain ⟨e, hb, _⟩ := h.obj.blk
    exact ⟨hb.cell 0, hb.cell 1⟩)
  obtain ⟨p, no0, ea⟩ := R
  simp only at *
  clear h hE hv
  go_enter Tryz.func41, Tryz.ntmps41
  go_wp2_with fail
  refine HE.out.mono ?_
  rintro x w1 ⟨rfl, rfl⟩
  obtain ⟨t0, t1⟩ := KT.out _ hi0
  go_wp2_with fail
  go_region_held3 (fun W => W.cell? ⟨g, 0, none⟩ = some (.string s) ∧ W.cell? ⟨g, 1, none⟩ = some (.int .i64 p))
    (first | assumption | (exact KT.out _ (by assumption)) | (exact KT.out _ (TIn.drewN (by assumption) 1)))
    ((go_at_call 69; (with_reducible refine (HT.out _ ?_).mono ?_); (first | assumption | exact TIn.drewN (by assumption) 1); rintro x w6 ⟨t6, u6, rfl, he6, hi6⟩))
  have HD := Lib.hid (fun (W1 : World) (h : TIn w W1 S g s ⟨p, no0, ea⟩) (he : ErrOf W1 S 129 no a (.iface t6 u6)) => (deeper_err (b := p) h.env he hno ha (by omega)).mono fun x w' hx => show ∃ t u, x = Ending.returned (.iface t u) ∧ ErrOf w' S 129 no (p + a) (.iface t u) ∧ TIn w w' S g s ⟨p, no0, ea⟩ from by
    obtain ⟨e, rfl, he, hb⟩ := hx
    obtain ⟨t, u, rfl⟩ := err_iface he hno
    rw [Nat.add_comm a p] at he
    exact ⟨t, u, rfl, he, h.below hb⟩)
  have HX := Lib.hid he6
  clear t0 t1 HE HT he6
  obtain ⟨t0, t1⟩ := KT.out _ hi6
  go_wp2_with fail
  refine (HD.out _ hi6 HX.out).mono ?_
  rintro x w7 ⟨t7, u7, rfl, he7, hi7⟩
  obtain ⟨⟨_, y0⟩, y1⟩ := hi7.errCell
  have HN := Lib.hid ((hi7.obj.failed he7).pre hi7.bel)
  clear hi7 hi6 he7 t0 t1
  go_wp2_with fail
  go_ret
  exact ⟨rfl, HN.out⟩
theorem vt_bd (s : ByteArray) (f : Nat) : ∀ i n b : Nat, i ≤ s.size → (vt s f i n b).2.1 ≤ s.size ∧ (vt s f i n b).2.2.2 ≤ s.size + 3 := by
  induction f with
  | zero => exact fun i n b _ => ⟨Nat.zero_le _, Nat.le_add_left _ _⟩
  | succ f ih =>
    intro i n b hi
    by_cases hlt : i < s.size
    · by_cases hc : s[i].toNat < 128
      · by_cases h0 : s[i].toNat = 0 ∧ 0 < i
        · rw [vt_zero hlt h0.1 h0.2]
          exact ⟨Nat.zero_le _, by simp only; omega⟩
        · rw [vt_last hlt hc h0]
          exact ⟨hlt, Nat.zero_le _⟩
      · rw [vt_more hlt hc]
        exact ih _ _ _ hlt
    · rw [vt_short hlt]
      exact ⟨Nat.zero_le _, Nat.le_add_right _ _⟩
theorem rvar_any (hE : Env w S) (h : RObj w S g s R) (hs : s.size ≤ 900000) :
    Calls Tryz.prog 41 #[.pointer (some ⟨g, 0, none⟩)] w (TSays w S g s (.int .i64 (rVar s R).1) (rVar s R).2) := by
  by_cases h0 : R.no = 0
  · obtain ⟨f, hf⟩ : ∃ f, vt (s.extract R.p s.size) 4 0 0 1 = f := ⟨_, rfl⟩
    have hb := vt_bd (s.extract R.p s.size) 4 0 0 1 (Nat.zero_le _)
    have hle := h.le
    have hz : (s.extract R.p s.size).size = s.size - R.p := by simp
    rw [hf, hz] at hb
    obtain ⟨n, k, no, a⟩ := f
    simp only at hb
    unfold rVar
    rw [if_pos h0, hf]
    unfold rVarOf
    simp only
    by_cases hno : no = 0
    · subst hno
      rw [if_pos rfl]
      have := rvar_ok hE h h0 (by omega) n k a hf (by omega)
      rw [h0] at this
      exact this
    · rw [if_neg hno]
      exact rvar_bad hE h h0 (by omega) n k no a hf hno (by omega)
  · unfold rVar
    rw [if_neg h0]
    exact rvar_stuck h h0
end
end Go.Proofs.YtfojoeafhdiaiaaGreatDoor

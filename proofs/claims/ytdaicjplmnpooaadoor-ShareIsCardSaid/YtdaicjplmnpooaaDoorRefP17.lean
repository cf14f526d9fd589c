/- What is proved here: what the document's Parse answers. Conditions: fewer than a million bytes. -/
import Derived.Test.YtdaicjplmnpooaaDoorRefS17
namespace Go.Proofs.YtdaicjplmnpooaaDoor
open Go.RowKit Go.Extern.Stop Go.Stop Go.Extern
/-- A text, told apart as the document tells it. -/
theorem parse_parts (s : ByteArray) :
    (filtB s = false ∧ parse17 s = ((false, [], []), false)) ∨
    (filtB s = true ∧ Lib.hasPrefix (ls s) [36, 115, 104, 97, 114, 101, 47] = false ∧ parse17 s = ((false, [], ls s), true)) ∨
    (∃ r, filtB s = true ∧ ls s = [36, 115, 104, 97, 114, 101, 47] ++ r ∧ (¬ 47 ∈ r) ∧ parse17 s = ((false, [], []), false)) ∨
    (∃ a b, filtB s = true ∧ ls s = [36, 115, 104, 97, 114, 101, 47] ++ (a ++ 47 :: b) ∧ (¬ 47 ∈ a) ∧ (a = [] ∨ a = [43] ∨ a = [35]) ∧ parse17 s = ((false, [], []), false)) ∨
    (∃ a b, filtB s = true ∧ ls s = [36, 115, 104, 97, 114, 101, 47] ++ (a ++ 47 :: b) ∧ (¬ 47 ∈ a) ∧ a ≠ [] ∧ a ≠ [43] ∧ a ≠ [35] ∧ parse17 s = (if filtB (bs b) then ((true, a, b), true) else ((false, [], []), false))) := by
  cases hf : filtB s with
  | false => exact .inl ⟨rfl, by unfold parse17; rw [if_pos hf]⟩
  | true =>
    right
    cases hp : Lib.hasPrefix (ls s) [36, 115, 104, 97, 114, 101, 47] with
    | false => exact .inl ⟨rfl, rfl, by unfold parse17; rw [if_neg (by rw [hf]; decide), if_pos hp]⟩
    | true =>
      right
      have hl := pre_seven hp
      have hu : parse17 s = if (cutG ((ls s).drop 7)).1.isEmpty || signB (cutG ((ls s).drop 7)).1 || !filtB (bs (cutG ((ls s).drop 7)).2) then ((false, [], []), false) else ((true, (cutG ((ls s).drop 7)).1, (cutG ((ls s).drop 7)).2), true) := by
        unfold parse17
        rw [if_neg (by rw [hf]; decide), if_neg (by rw [hp]; decide)]
      rcases cutG_or ((ls s).drop 7) with ⟨hno, e⟩ | ⟨a, b, e1, e2, e3⟩
      · refine .inl ⟨_, rfl, hl, hno, ?_⟩
        rw [hu, e]
        simp [filt_nil]
      · right
        rw [e1] at hl
        rw [e3] at hu
        dsimp only at hu
        have hsg : signB a = decide (a = [43] ∨ a = [35]) := by
          have hlv : levelsOk (spl (ls s)) = true := by unfold filtB at hf; simp at hf; exact hf.2
          have hsp : spl (ls s) = [36, 115, 104, 97, 114, 101] :: a :: spl b := by
            rw [hl, show ([36, 115, 104, 97, 114, 101, 47] : BL) ++ (a ++ 47 :: b) = [36, 115, 104, 97, 114, 101] ++ 47 :: (a ++ 47 :: b) from rfl, spl_at (by decide), spl_at e2]
          have hpos : 0 < (spl b).length := by rw [spl_len]; omega
          have hbad : badB a false = false := by
            cases hb : badB a false with
            | false => rfl
            | true =>
              have := levels_bad (L := spl (ls s)) (i := 1) (by rw [hsp]; simp) (by
                rw [hsp]
                have hne : ((1 + 1 : Nat) == ([36, 115, 104, 97, 114, 101] :: a :: spl b).length) = false := by
                  rw [beq_eq_false_iff_ne]; simp only [List.length_cons]; omega
                rw [hne]
                exact hb)
              rw [this] at hlv
              cases hlv
          unfold badB at hbad
          by_cases c1 : a = [43]
          · subst c1; rfl
          · by_cases c2 : a = [35]
            · subst c2; rfl
            · have n1 : (a == [43]) = false := beq_eq_false_iff_ne.2 c1
              rw [n1] at hbad
              simp only [Bool.not_false, Bool.and_true, Bool.and_false] at hbad
              rw [hbad]
              simp [c1, c2]
        by_cases hbadA : a = [] ∨ a = [43] ∨ a = [35]
        · refine .inl ⟨a, b, rfl, hl, e2, hbadA, ?_⟩
          rw [hu, if_pos]
          rcases hbadA with rfl | rfl | rfl
          · rfl
          · rfl
          · rfl
        · refine .inr ⟨a, b, rfl, hl, e2, fun h => hbadA (.inl h), fun h => hbadA (.inr (.inl h)), fun h => hbadA (.inr (.inr h)), ?_⟩
          have n0 : a.isEmpty = false := by cases a with | nil => exact absurd (.inl rfl) hbadA | cons _ _ => rfl
          have n1 : signB a = false := by rw [hsg, decide_eq_false_iff_not]; exact fun h => hbadA (.inr h)
          rw [hu, n0, n1]
          cases filtB (bs b) <;> rfl
theorem head_no {s : ByteArray} (h : Lib.hasPrefix (ls s) [36, 115, 104, 97, 114, 101, 47] = false) : ((s.extract 0 7).toList == [36, 115, 104, 97, 114, 101, 47]) = false := by
  rw [ext_head, toList_ls, ls_bs, beq_eq_false_iff_ne]
  intro h'
  have : Lib.hasPrefix (ls s) [36, 115, 104, 97, 114, 101, 47] = true := by
    unfold Lib.hasPrefix
    rw [List.isPrefixOf_iff_prefix, ← h']
    exact List.take_prefix _ _
  rw [this] at h
  cases h
theorem head_yes {s : ByteArray} {r : BL} (h : ls s = [36, 115, 104, 97, 114, 101, 47] ++ r) : ((s.extract 0 7).toList == [36, 115, 104, 97, 114, 101, 47]) = true ∧ 7 ≤ s.size := by
  refine ⟨?_, by rw [← ls_size, h]; simp⟩
  rw [ext_head, toList_ls, ls_bs, h]
  rfl
section
variable {w : World}
set_option maxHeartbeats 2000000 in
theorem rparse_any (s : ByteArray) (hm : s.size ≤ 100000) : Calls Tryd.prog 40 #[.string s] w (ParseSays s w) := by
  have HF := Lib.hid (fun w => rIsFilter_any (w := w) s (by omega))
  unfold ParseSays
  rcases parse_parts s with ⟨hf, hp⟩ | ⟨hf, hx, hp⟩ | ⟨r, hf, hl, hr, hp⟩ | ⟨a, b, hf, hl, ha, hbd, hp⟩ | ⟨a, b, hf, hl, ha, n0, n1, n2, hp⟩
  · rw [hp]
    rw [hf] at HF
    clear hp hf
    go_enter Tryd.func40, Tryd.ntmps40
    go_wp2_with fail
    refine (HF.out _).mono ?_
    rintro x w1 ⟨rfl, hb⟩
    have HB := Lib.hid ((((Below.refl w.heap.size w).alloc (Nat.le_refl _) _).trans (hb.mono (by simp))))
    have hk := (Blk.made w 59 #[.bool false, .string ⟨#[]⟩, .string ⟨#[]⟩]).below hb (by simp)
    obtain ⟨g, hg⟩ : ∃ g, g = w.heap.size := ⟨_, rfl⟩
    rw [← hg] at hk ⊢
    have hge : w.heap.size ≤ g := by omega
    have HK := Lib.hid hk
    clear hb hk hg
    have k0 := HK.out.cell 0
    have k1 := HK.out.cell 1
    have k2 := HK.out.cell 2
    have f0 := HK.out.frozen 0
    have f1 := HK.out.frozen 1
    have f2 := HK.out.frozen 2
    obtain ⟨e0, e1, e2, hbe⟩ := share_end HB.out HK.out rfl hge (.bool false) (.string ⟨#[]⟩) (.string ⟨#[]⟩)
    have HBE := Lib.hid hbe
    clear hbe
    go_wp2_with fail
    exact bodyPost_ret (v := .tuple #[.agg #[.bool false, .string ⟨#[]⟩, .string ⟨#[]⟩], .bool false]) (by simp [results, Tryd.results40, go_sem, e0, e1, e2]) rfl ⟨rfl, HBE.out⟩
  · rw [hp]
    rw [hf] at HF
    have hs := Lib.hid (bs_ls s)
    by_cases h7 : 7 ≤ s.size
    · have ex := head_no hx
      clear hp hf hx
      go_enter Tryd.func40, Tryd.ntmps40
      go_wp2_with fail
      refine (HF.out _).mono ?_
      rintro x w1 ⟨rfl, hb⟩
      have HB := Lib.hid ((((Below.refl w.heap.size w).alloc (Nat.le_refl _) _).trans (hb.mono (by simp))))
      have hk := (Blk.made w 59 #[.bool false, .string ⟨#[]⟩, .string ⟨#[]⟩]).below hb (by simp)
      obtain ⟨g, hg⟩ : ∃ g, g = w.heap.size := ⟨_, rfl⟩
      rw [← hg] at hk ⊢
      have hge : w.heap.size ≤ g := by omega
      have HK := Lib.hid hk
      clear hb hk hg
      have k0 := HK.out.cell 0
      have k1 := HK.out.cell 1
      have k2 := HK.out.cell 2
      have f0 := HK.out.frozen 0
      have f1 := HK.out.frozen 1
      have f2 := HK.out.frozen 2
      obtain ⟨e0, e1, e2, hbe⟩ := share_end HB.out HK.out rfl hge (.bool false) (.string ⟨#[]⟩) (.string s)
      have HBE := Lib.hid hbe
      clear hbe
      go_wp2_with fail
      exact bodyPost_ret (v := .tuple #[.agg #[.bool false, .string ⟨#[]⟩, .string s], .bool true]) (by simp [results, Tryd.results40, go_sem, e0, e1, e2]) rfl ⟨by rw [hs.out]; rfl, HBE.out⟩
    · have h7' : s.size < 7 := by omega
      clear hp hf hx h7
      go_enter Tryd.func40, Tryd.ntmps40
      go_wp2_with fail
      refine (HF.out _).mono ?_
      rintro x w1 ⟨rfl, hb⟩
      have HB := Lib.hid ((((Below.refl w.heap.size w).alloc (Nat.le_refl _) _).trans (hb.mono (by simp))))
      have hk := (Blk.made w 59 #[.bool false, .string ⟨#[]⟩, .string ⟨#[]⟩]).below hb (by simp)
      obtain ⟨g, hg⟩ : ∃ g, g = w.heap.size := ⟨_, rfl⟩
      rw [← hg] at hk ⊢
      have hge : w.heap.size ≤ g := by omega
      have HK := Lib.hid hk
      clear hb hk hg
      have k0 := HK.out.cell 0
      have k1 := HK.out.cell 1
      have k2 := HK.out.cell 2
      have f0 := HK.out.frozen 0
      have f1 := HK.out.frozen 1
      have f2 := HK.out.frozen 2
      obtain ⟨e0, e1, e2, hbe⟩ := share_end HB.out HK.out rfl hge (.bool false) (.string ⟨#[]⟩) (.string s)
      have HBE := Lib.hid hbe
      clear hbe
      go_wp2_with fail
      exact bodyPost_ret (v := .tuple #[.agg #[.bool false, .string ⟨#[]⟩, .string s], .bool true]) (by simp [results, Tryd.results40, go_sem, e0, e1, e2]) rfl ⟨by rw [hs.out]; rfl, HBE.out⟩
  · rw [hp]
    rw [hf] at HF
    obtain ⟨ex, h7⟩ := head_yes hl
    have CL := Lib.hid (fun w => rlevels_any (w := w) s (by omega))
    rw [hl, show ([36, 115, 104, 97, 114, 101, 47] : BL) ++ r = [36, 115, 104, 97, 114, 101] ++ 47 :: r from rfl, spl_at (by decide), spl_no hr] at CL
    unfold LevSays at CL
    clear hp hf hl hr
    go_enter Tryd.func40, Tryd.ntmps40
    go_wp2_with fail
    refine (HF.out _).mono ?_
    rintro x w1 ⟨rfl, hb⟩
    have HB := Lib.hid ((((Below.refl w.heap.size w).alloc (Nat.le_refl _) _).trans (hb.mono (by simp))))
    have hk := (Blk.made w 59 #[.bool false, .string ⟨#[]⟩, .string ⟨#[]⟩]).below hb (by simp)
    obtain ⟨g, hg⟩ : ∃ g, g = w.heap.size := ⟨_, rfl⟩
    rw [← hg] at hk ⊢
    have hge : w.heap.size ≤ g := by omega
    have HK := Lib.hid hk
    clear hb hk hg
    go_wp2_with fail
    refine (CL.out _).mono ?_
    rintro x w2 ⟨v, rfl, ht, hb⟩
    obtain ⟨al, cl, rfl⟩ := ht.form
    have HB2 := Lib.hid (HB.out.trans (hb.mono HB.out.size))
    have HK2 := Lib.hid (HK.out.below hb HK.out.lt)
    clear hb ht
    have k0 := HK2.out.cell 0
    have k1 := HK2.out.cell 1
    have k2 := HK2.out.cell 2
    have f0 := HK2.out.frozen 0
    have f1 := HK2.out.frozen 1
    have f2 := HK2.out.frozen 2
    obtain ⟨e0, e1, e2, hbe⟩ := share_end HB2.out HK2.out rfl hge (.bool false) (.string ⟨#[]⟩) (.string ⟨#[]⟩)
    have HBE := Lib.hid hbe
    clear hbe
    go_wp2_with fail
    exact bodyPost_ret (v := .tuple #[.agg #[.bool false, .string ⟨#[]⟩, .string ⟨#[]⟩], .bool false]) (by simp [results, Tryd.results40, go_sem, e0, e1, e2]) rfl ⟨rfl, HBE.out⟩
  · rw [hp]
    rw [hf] at HF
    obtain ⟨ex, h7⟩ := head_yes hl
    have CL := Lib.hid (fun w => rlevels_any (w := w) s (by omega))
    rw [hl, show ([36, 115, 104, 97, 114, 101, 47] : BL) ++ (a ++ 47 :: b) = [36, 115, 104, 97, 114, 101] ++ 47 :: (a ++ 47 :: b) from rfl, spl_at (by decide), spl_at ha] at CL
    unfold LevSays at CL
    have hsb : (spl b).length ≤ 100000 := by
      have h1 : s.size = 7 + (a.length + (b.length + 1)) := by rw [← ls_size, hl]; simp; omega
      have h2 := List.count_le_length (a := (47 : UInt8)) (l := b)
      rw [spl_len]; omega
    have hpb : 0 < (spl b).length := by rw [spl_len]; omega
    have tests : ((bs a).toList.isEmpty = true) ∨ ((bs a).toList.isEmpty = false ∧ ((bs a).toList == [43]) = true) ∨ ((bs a).toList.isEmpty = false ∧ ((bs a).toList == [43]) = false ∧ ((bs a).toList == [35]) = true) := by
      rw [toList_ls, ls_bs]
      rcases hbd with rfl | rfl | rfl
      · exact .inl rfl
      · exact .inr (.inl ⟨rfl, rfl⟩)
      · exact .inr (.inr ⟨rfl, rfl, rfl⟩)
    clear hp hf hl ha hbd
    go_enter Tryd.func40, Tryd.ntmps40
    go_wp2_with fail
    refine (HF.out _).mono ?_
    rintro x w1 ⟨rfl, hb⟩
    have HB := Lib.hid ((((Below.refl w.heap.size w).alloc (Nat.le_refl _) _).trans (hb.mono (by simp))))
    have hk := (Blk.made w 59 #[.bool false, .string ⟨#[]⟩, .string ⟨#[]⟩]).below hb (by simp)
    obtain ⟨g, hg⟩ : ∃ g, g = w.heap.size := ⟨_, rfl⟩
    rw [← hg] at hk ⊢
    have hge : w.heap.size ≤ g := by omega
    have HK := Lib.hid hk
    clear hb hk hg
    go_wp2_with fail
    refine (CL.out _).mono ?_
    rintro x w2 ⟨v, rfl, ht, hb⟩
    obtain ⟨al, cl, rfl⟩ := ht.form
    obtain ⟨gr, rfl, _, _, hc⟩ := ht.at_ (by simp)
    have c1 := hc 1 (by simp)
    have hlen : ([36, 115, 104, 97, 114, 101] :: a :: spl b).length = (spl b).length + 2 := rfl
    rw [hlen]
    have HB2 := Lib.hid (HB.out.trans (hb.mono HB.out.size))
    have HK2 := Lib.hid (HK.out.below hb HK.out.lt)
    clear hb ht hc hlen
    have k1' : w2.cell? ⟨gr, 1, none⟩ = some (.string (bs a)) := c1
    clear c1
    generalize bs a = ax at *
    generalize (spl b).length = m at *
    rcases tests with t0 | ⟨t0, t1⟩ | ⟨t0, t1, t2⟩
    · have k0 := HK2.out.cell 0
      have k1 := HK2.out.cell 1
      have k2 := HK2.out.cell 2
      have f0 := HK2.out.frozen 0
      have f1 := HK2.out.frozen 1
      have f2 := HK2.out.frozen 2
      obtain ⟨e0, e1, e2, hbe⟩ := share_end HB2.out HK2.out rfl hge (.bool false) (.string ⟨#[]⟩) (.string ⟨#[]⟩)
      have HBE := Lib.hid hbe
      clear hbe
      go_wp2_with fail
      exact bodyPost_ret (v := .tuple #[.agg #[.bool false, .string ⟨#[]⟩, .string ⟨#[]⟩], .bool false]) (by simp [results, Tryd.results40, go_sem, e0, e1, e2]) rfl ⟨rfl, HBE.out⟩
    · have k0 := HK2.out.cell 0
      have k1 := HK2.out.cell 1
      have k2 := HK2.out.cell 2
      have f0 := HK2.out.frozen 0
      have f1 := HK2.out.frozen 1
      have f2 := HK2.out.frozen 2
      obtain ⟨e0, e1, e2, hbe⟩ := share_end HB2.out HK2.out rfl hge (.bool false) (.string ⟨#[]⟩) (.string ⟨#[]⟩)
      have HBE := Lib.hid hbe
      clear hbe
      go_wp2_with fail
      exact bodyPost_ret (v := .tuple #[.agg #[.bool false, .string ⟨#[]⟩, .string ⟨#[]⟩], .bool false]) (by simp [results, Tryd.results40, go_sem, e0, e1, e2]) rfl ⟨rfl, HBE.out⟩
    · have k0 := HK2.out.cell 0
      have k1 := HK2.out.cell 1
      have k2 := HK2.out.cell 2
      have f0 := HK2.out.frozen 0
      have f1 := HK2.out.frozen 1
      have f2 := HK2.out.frozen 2
      obtain ⟨e0, e1, e2, hbe⟩ := share_end HB2.out HK2.out rfl hge (.bool false) (.string ⟨#[]⟩) (.string ⟨#[]⟩)
      have HBE := Lib.hid hbe
      clear hbe
      go_wp2_with fail
      exact bodyPost_ret (v := .tuple #[.agg #[.bool false, .string ⟨#[]⟩, .string ⟨#[]⟩], .bool false]) (by simp [results, Tryd.results40, go_sem, e0, e1, e2]) rfl ⟨rfl, HBE.out⟩
  · rw [hf] at HF
    obtain ⟨ex, h7⟩ := head_yes hl
    have CL := Lib.hid (fun w => rlevels_any (w := w) s (by omega))
    rw [hl, show ([36, 115, 104, 97, 114, 101, 47] : BL) ++ (a ++ 47 :: b) = [36, 115, 104, 97, 114, 101] ++ 47 :: (a ++ 47 :: b) from rfl, spl_at (by decide), spl_at ha] at CL
    unfold LevSays at CL
    have hsb : (spl b).length ≤ 100000 := by
      have h1 : s.size = 7 + (a.length + (b.length + 1)) := by rw [← ls_size, hl]; simp; omega
      have h2 := List.count_le_length (a := (47 : UInt8)) (l := b)
      rw [spl_len]; omega
    have hpb : 0 < (spl b).length := by rw [spl_len]; omega
    have tests : ((bs a).toList.isEmpty = false ∧ ((bs a).toList == [43]) = false ∧ ((bs a).toList == [35]) = false) := by
      rw [toList_ls, ls_bs]
      refine ⟨?_, beq_eq_false_iff_ne.2 n1, beq_eq_false_iff_ne.2 n2⟩
      cases a with
      | nil => exact absurd rfl n0
      | cons _ _ => rfl
    have hz : s.size = 7 + (a.length + (b.length + 1)) := by rw [← ls_size, hl]; simp; omega
    have HJ := Lib.hid (fun (w : World) (A : Option Addr) (c : Nat) (h : Rd w A (spl b)) => join_any (c := c) h (by rw [join_spl]; omega) (by omega))
    rw [join_spl] at HJ
    have hbz : (bs b).size ≤ 100000 := by rw [bs_size]; omega
    have CF := Lib.hid (fun w => rIsFilter_any (w := w) (bs b) (by omega))
    clear hf hl ha n0 n1 n2 hz
    obtain ⟨ax, hax⟩ : ∃ x, x = bs a := ⟨_, rfl⟩
    obtain ⟨bx, hbx⟩ : ∃ x, x = bs b := ⟨_, rfl⟩
    rw [← hax] at tests
    rw [← hbx] at HJ CF hbz hp
    obtain ⟨t0, t1, t2⟩ := tests
    cases hfb : filtB bx with
    | false =>
      rw [hfb] at CF hp
      rw [if_neg (by decide)] at hp
      rw [hp]
      dsimp only
      clear hp hfb
      go_enter Tryd.func40, Tryd.ntmps40
      go_wp2_with fail
      refine (HF.out _).mono ?_
      rintro x w1 ⟨rfl, hb⟩
      have HB := Lib.hid ((((Below.refl w.heap.size w).alloc (Nat.le_refl _) _).trans (hb.mono (by simp))))
      have hk := (Blk.made w 59 #[.bool false, .string ⟨#[]⟩, .string ⟨#[]⟩]).below hb (by simp)
      obtain ⟨g, hg⟩ : ∃ g, g = w.heap.size := ⟨_, rfl⟩
      rw [← hg] at hk ⊢
      have hge : w.heap.size ≤ g := by omega
      have HK := Lib.hid hk
      clear hb hk hg
      go_wp2_with fail
      refine (CL.out _).mono ?_
      rintro x w2 ⟨v, rfl, ht, hb⟩
      obtain ⟨al, cl, rfl⟩ := ht.form
      obtain ⟨gr, rfl, _, _, hc⟩ := ht.at_ (by simp)
      have c1 := hc 1 (by simp)
      have hlen : ([36, 115, 104, 97, 114, 101] :: a :: spl b).length = (spl b).length + 2 := rfl
      rw [hlen]
      have hrd : Rd w2 (some ⟨gr, 2, none⟩) (spl b) := fun _ => ⟨gr, 2, rfl, fun k hk => (by have := hc (2 + k) (by simp; omega); rw [this]; congr 3; rw [show 2 + k = k + 2 by omega]; rfl)⟩
      obtain ⟨_, hcl, hcm⟩ := ht.rd
      rw [hlen] at hcl
      have HB2 := Lib.hid (HB.out.trans (hb.mono HB.out.size))
      have HK2 := Lib.hid (HK.out.below hb HK.out.lt)
      have k1' : w2.cell? ⟨gr, 1, none⟩ = some (.string ax) := by rw [hax]; exact c1
      have hgr : gr < w2.heap.size := lt_of_cell' k1'
      have HJ2 := Lib.hid (HJ.out w2 (some ⟨gr, 2, none⟩) (cl - 2) hrd)
      clear HJ hrd hb ht hc hlen c1 hax hbx CL
      generalize (spl b).length = m at *
      unfold maxLen at hcm
      go_wp2_with fail
      refine (HJ2.out).mono ?_
      rintro x w3 ⟨rfl, rfl⟩
      go_wp2_with fail
      refine (CF.out _).mono ?_
      rintro x w4 ⟨rfl, hb⟩
      have HB4 := Lib.hid (HB2.out.trans (hb.mono HB2.out.size))
      have HK4 := Lib.hid (HK2.out.below hb HK2.out.lt)
      clear hb k1'
      have k0 := HK4.out.cell 0
      have k1 := HK4.out.cell 1
      have k2 := HK4.out.cell 2
      have f0 := HK4.out.frozen 0
      have f1 := HK4.out.frozen 1
      have f2 := HK4.out.frozen 2
      obtain ⟨e0, e1, e2, hbe⟩ := share_end HB4.out HK4.out rfl hge (.bool false) (.string ⟨#[]⟩) (.string ⟨#[]⟩)
      have HBE := Lib.hid hbe
      clear hbe
      go_wp2_with fail
      exact bodyPost_ret (v := .tuple #[.agg #[.bool false, .string ⟨#[]⟩, .string ⟨#[]⟩], .bool false]) (by simp [results, Tryd.results40, go_sem, e0, e1, e2]) rfl ⟨rfl, HBE.out⟩
    | true =>
      rw [hfb] at CF hp
      rw [if_pos rfl] at hp
      rw [hp]
      dsimp only
      rw [← hax, ← hbx]
      clear hp hfb
      go_enter Tryd.func40, Tryd.ntmps40
      go_wp2_with fail
      refine (HF.out _).mono ?_
      rintro x w1 ⟨rfl, hb⟩
      have HB := Lib.hid ((((Below.refl w.heap.size w).alloc (Nat.le_refl _) _).trans (hb.mono (by simp))))
      have hk := (Blk.made w 59 #[.bool false, .string ⟨#[]⟩, .string ⟨#[]⟩]).below hb (by simp)
      obtain ⟨g, hg⟩ : ∃ g, g = w.heap.size := ⟨_, rfl⟩
      rw [← hg] at hk ⊢
      have hge : w.heap.size ≤ g := by omega
      have HK := Lib.hid hk
      clear hb hk hg
      go_wp2_with fail
      refine (CL.out _).mono ?_
      rintro x w2 ⟨v, rfl, ht, hb⟩
      obtain ⟨al, cl, rfl⟩ := ht.form
      obtain ⟨gr, rfl, _, _, hc⟩ := ht.at_ (by simp)
      have c1 := hc 1 (by simp)
      have hlen : ([36, 115, 104, 97, 114, 101] :: a :: spl b).length = (spl b).length + 2 := rfl
      rw [hlen]
      have hrd : Rd w2 (some ⟨gr, 2, none⟩) (spl b) := fun _ => ⟨gr, 2, rfl, fun k hk => (by have := hc (2 + k) (by simp; omega); rw [this]; congr 3; rw [show 2 + k = k + 2 by omega]; rfl)⟩
      obtain ⟨_, hcl, hcm⟩ := ht.rd
      rw [hlen] at hcl
      have HB2 := Lib.hid (HB.out.trans (hb.mono HB.out.size))
      have HK2 := Lib.hid (HK.out.below hb HK.out.lt)
      have k1' : w2.cell? ⟨gr, 1, none⟩ = some (.string ax) := by rw [hax]; exact c1
      have hgr : gr < w2.heap.size := lt_of_cell' k1'
      have HJ2 := Lib.hid (HJ.out w2 (some ⟨gr, 2, none⟩) (cl - 2) hrd)
      clear HJ hrd hb ht hc hlen c1 hax hbx CL
      generalize (spl b).length = m at *
      unfold maxLen at hcm
      go_wp2_with fail
      refine (HJ2.out).mono ?_
      rintro x w3 ⟨rfl, rfl⟩
      go_wp2_with fail
      refine (CF.out _).mono ?_
      rintro x w4 ⟨rfl, hb⟩
      have HB4 := Lib.hid (HB2.out.trans (hb.mono HB2.out.size))
      have HK4 := Lib.hid (HK2.out.below hb HK2.out.lt)
      have k1 := (Fr.cell (X := []) (Fr.of_below hb) (b := gr) (o := 1) hgr (by simp)).trans k1'
      clear hb k1'
      have k0 := HK4.out.cell 0
      have k1b := HK4.out.cell 1
      have k2 := HK4.out.cell 2
      have f0 := HK4.out.frozen 0
      have f1 := HK4.out.frozen 1
      have f2 := HK4.out.frozen 2
      obtain ⟨e0, e1, e2, hbe⟩ := share_end HB4.out HK4.out rfl hge (.bool true) (.string ax) (.string bx)
      have HBE := Lib.hid hbe
      clear hbe
      go_wp2_with fail
      exact bodyPost_ret (v := .tuple #[.agg #[.bool true, .string ax, .string bx], .bool true]) (by simp [results, Tryd.results40, go_sem, e0, e1, e2]) rfl ⟨rfl, HBE.out⟩
end
end Go.Proofs.YtdaicjplmnpooaaDoor

/- What is proved here: what a filter tells as a share, if the library tells its group's signs; strategies. Conditions: the two errors that utf.Check names are errors; few bytes. -/
import Derived.Test.YtdaicjplmnpooaaDoorCont17
namespace Go.Proofs.YtdaicjplmnpooaaDoor
open Go.RowKit Go.Extern.Stop Go.Stop Go.Extern

def cutG : BL → BL × BL
  | [] => ([], [])
  | c :: l => if c = 47 then ([], l) else (c :: (cutG l).1, (cutG l).2)
theorem cutG_no {l : BL} (h : ¬ 47 ∈ l) : cutG l = (l, []) := by
  induction l with
  | nil => rfl
  | cons c l ih =>
    simp only [List.mem_cons, not_or] at h
    rw [cutG, if_neg (fun e => h.1 e.symm), ih h.2]
theorem cutG_at {a b : BL} (h : ¬ 47 ∈ a) : cutG (a ++ 47 :: b) = (a, b) := by
  induction a with
  | nil => show cutG (47 :: b) = _; rw [cutG, if_pos rfl]
  | cons c a ih =>
    simp only [List.mem_cons, not_or] at h
    show cutG (c :: (a ++ 47 :: b)) = _
    rw [cutG, if_neg (fun e => h.1 e.symm), ih h.2]
theorem cutG_le (l : BL) : (cutG l).1.length ≤ l.length ∧ (cutG l).2.length ≤ l.length := by
  induction l with
  | nil => exact ⟨Nat.le_refl _, Nat.le_refl _⟩
  | cons c l ih =>
    rw [cutG]
    split
    · simp
    · simp; omega
def strat (l : BL) : Int := if Lib.hasPrefix l [115, 45] then 2 else if Lib.hasPrefix l [104, 45] then 3 else if Lib.hasPrefix l [108, 45] then 4 else if Lib.hasPrefix l [120, 45] then 5 else 1
theorem pre_two {x y : UInt8} {l : BL} (h : 2 ≤ l.length) (m : BL) : Lib.hasPrefix (l.take 2 ++ m) [x, y] = Lib.hasPrefix l [x, y] := by
  rcases l with _ | ⟨p, _ | ⟨q, r⟩⟩
  · simp at h
  · simp at h
  · simp [Lib.hasPrefix, List.isPrefixOf]
theorem pre_one {x y : UInt8} {l : BL} (h : l.length ≤ 1) : Lib.hasPrefix l [x, y] = false := by
  rcases l with _ | ⟨p, _ | ⟨q, r⟩⟩
  · rfl
  · simp [Lib.hasPrefix, List.isPrefixOf]
  · simp at h
theorem strat_two {l : BL} (h : 2 ≤ l.length) (m : BL) : strat (l.take 2 ++ m) = strat l := by
  unfold strat
  rw [pre_two h, pre_two h, pre_two h, pre_two h]
theorem strat_one {l : BL} (h : l.length ≤ 1) : strat l = 1 := by
  unfold strat
  rw [pre_one h, pre_one h, pre_one h, pre_one h]
  rfl
theorem strat_bd (l : BL) : 1 ≤ strat l ∧ strat l ≤ 5 := by
  unfold strat
  split
  · omega
  · split
    · omega
    · split
      · omega
      · split <;> omega
/-- What a filter tells. -/
def parse17 (s : ByteArray) : (Bool × BL × BL) × Bool :=
  if filtB s = false then ((false, [], []), false)
  else if Lib.hasPrefix (ls s) [36, 115, 104, 97, 114, 101, 47] = false then ((false, [], ls s), true)
  else if (cutG ((ls s).drop 7)).1.isEmpty || signB (cutG ((ls s).drop 7)).1 || !filtB (bs (cutG ((ls s).drop 7)).2) then ((false, [], []), false)
  else ((true, (cutG ((ls s).drop 7)).1, (cutG ((ls s).drop 7)).2), true)
def ParseSays (s : ByteArray) (w : World) (x : Ending) (w' : World) : Prop :=
  x = .returned (.tuple #[.agg #[.bool (parse17 s).1.1, .string (bs (parse17 s).1.2.1), .string (bs (parse17 s).1.2.2)], .bool (parse17 s).2]) ∧ Below w.heap.size w w'
section
variable {S : Nat → Addr} {w : World}
theorem ret_int {a b : Int} (h : a = b) : Ending.returned (.int .i64 a) = .returned (.int .i64 b) := by rw [h]
set_option maxHeartbeats 1000000 in
theorem strategy_any (s : ByteArray) : Calls Tryd.prog 45 #[.string s] w fun x w' => x = .returned (.int .i64 (strat (ls s))) ∧ w = w' := by
  have H1 : Hid (∀ w, Calls Tryd.prog 82 #[.string s, .string ⟨#[115, 45]⟩] w fun e w' => e = .returned (.bool (Lib.hasPrefix (ls s) [115, 45])) ∧ w' = w) := Lib.hid (fun w => Tryd.strings_HasPrefix s ⟨#[115, 45]⟩ w)
  have H2 : Hid (∀ w, Calls Tryd.prog 82 #[.string s, .string ⟨#[104, 45]⟩] w fun e w' => e = .returned (.bool (Lib.hasPrefix (ls s) [104, 45])) ∧ w' = w) := Lib.hid (fun w => Tryd.strings_HasPrefix s ⟨#[104, 45]⟩ w)
  have H3 : Hid (∀ w, Calls Tryd.prog 82 #[.string s, .string ⟨#[108, 45]⟩] w fun e w' => e = .returned (.bool (Lib.hasPrefix (ls s) [108, 45])) ∧ w' = w) := Lib.hid (fun w => Tryd.strings_HasPrefix s ⟨#[108, 45]⟩ w)
  have H4 : Hid (∀ w, Calls Tryd.prog 82 #[.string s, .string ⟨#[120, 45]⟩] w fun e w' => e = .returned (.bool (Lib.hasPrefix (ls s) [120, 45])) ∧ w' = w) := Lib.hid (fun w => Tryd.strings_HasPrefix s ⟨#[120, 45]⟩ w)
  unfold strat
  generalize Lib.hasPrefix (ls s) [115, 45] = a at *
  generalize Lib.hasPrefix (ls s) [104, 45] = b at *
  generalize Lib.hasPrefix (ls s) [108, 45] = c at *
  generalize Lib.hasPrefix (ls s) [120, 45] = d at *
  cases a with
  | true =>
    go_enter Tryd.func45, Tryd.ntmps45
    go_wp2_with fail
    refine (H1.out _).mono ?_
    rintro x w1 ⟨rfl, rfl⟩
    go_wp2_with fail
    go_ret
    exact ⟨rfl, rfl⟩
  | false =>
    cases b with
    | true =>
      go_enter Tryd.func45, Tryd.ntmps45
      go_wp2_with fail
      refine (H1.out _).mono ?_
      rintro x w1 ⟨rfl, rfl⟩
      go_wp2_with fail
      refine (H2.out _).mono ?_
      rintro x w1 ⟨rfl, rfl⟩
      go_wp2_with fail
      go_ret
      exact ⟨rfl, rfl⟩
    | false =>
      cases c with
      | true =>
        go_enter Tryd.func45, Tryd.ntmps45
        go_wp2_with fail
        refine (H1.out _).mono ?_
        rintro x w1 ⟨rfl, rfl⟩
        go_wp2_with fail
        refine (H2.out _).mono ?_
        rintro x w1 ⟨rfl, rfl⟩
        go_wp2_with fail
        refine (H3.out _).mono ?_
        rintro x w1 ⟨rfl, rfl⟩
        go_wp2_with fail
        go_ret
        exact ⟨rfl, rfl⟩
      | false =>
        cases d with
        | true =>
          go_enter Tryd.func45, Tryd.ntmps45
          go_wp2_with fail
          refine (H1.out _).mono ?_
          rintro x w1 ⟨rfl, rfl⟩
          go_wp2_with fail
          refine (H2.out _).mono ?_
          rintro x w1 ⟨rfl, rfl⟩
          go_wp2_with fail
          refine (H3.out _).mono ?_
          rintro x w1 ⟨rfl, rfl⟩
          go_wp2_with fail
          refine (H4.out _).mono ?_
          rintro x w1 ⟨rfl, rfl⟩
          go_wp2_with fail
          go_ret
          exact ⟨rfl, rfl⟩
        | false =>
          go_enter Tryd.func45, Tryd.ntmps45
          go_wp2_with fail
          refine (H1.out _).mono ?_
          rintro x w1 ⟨rfl, rfl⟩
          go_wp2_with fail
          refine (H2.out _).mono ?_
          rintro x w1 ⟨rfl, rfl⟩
          go_wp2_with fail
          refine (H3.out _).mono ?_
          rintro x w1 ⟨rfl, rfl⟩
          go_wp2_with fail
          refine (H4.out _).mono ?_
          rintro x w1 ⟨rfl, rfl⟩
          go_wp2_with fail
          go_ret
          exact ⟨rfl, rfl⟩
theorem cut_g (r : ByteArray) (hm : r.size ≤ 1000000) : Calls Tryd.prog 78 #[.string r, .string ⟨#[47]⟩] w fun x w' => (∃ b, x = .returned (.tuple #[.string (bs (cutG (ls r)).1), .string (bs (cutG (ls r)).2), .bool b])) ∧ Fr [] w w' := by
  rcases index_or (ls r) with ⟨_, hno⟩ | ⟨i, hi, hil, hno, hcut⟩
  · rw [cutG_no hno]
    refine (cut_no (w := w) r hno).mono ?_
    rintro x w' ⟨rfl, hf⟩
    exact ⟨⟨_, by rw [bs_ls]; rfl⟩, hf⟩
  · have e : cutG (ls r) = ((ls r).take i, (ls r).drop (i + 1)) := by
      conv => lhs; rw [hcut]
      exact cutG_at hno
    rw [e]
    refine (cut_at (w := w) r (by omega) hi (by rw [← ls_size]; exact hil)).mono ?_
    rintro x w' ⟨rfl, hf⟩
    exact ⟨⟨_, by rw [ext_head, ext_tail]⟩, hf⟩
theorem share_end {w w1 : World} {g : Nat} {cs : Array Value} (hb : Below w.heap.size w w1) (hk : Blk w1 g 59 cs) (hc : cs.size = 3) (hg : w.heap.size ≤ g) (a b c : Value) :
    (((w1.setCell ⟨g, 0, none⟩ a).setCell ⟨g, 1, none⟩ b).setCell ⟨g, 2, none⟩ c).cell? ⟨g, 0, none⟩ = some a ∧ (((w1.setCell ⟨g, 0, none⟩ a).setCell ⟨g, 1, none⟩ b).setCell ⟨g, 2, none⟩ c).cell? ⟨g, 1, none⟩ = some b ∧
    (((w1.setCell ⟨g, 0, none⟩ a).setCell ⟨g, 1, none⟩ b).setCell ⟨g, 2, none⟩ c).cell? ⟨g, 2, none⟩ = some c ∧ Below w.heap.size w (((w1.setCell ⟨g, 0, none⟩ a).setCell ⟨g, 1, none⟩ b).setCell ⟨g, 2, none⟩ c) := by
  have h3 := ((hk.store 0 a).store 1 b).store 2 c
  refine ⟨(h3.cell 0).trans ?_, (h3.cell 1).trans ?_, (h3.cell 2).trans ?_, ((hb.setCell hg _).setCell hg _).setCell hg _⟩
  all_goals simp [hc]
set_option maxHeartbeats 1000000 in
theorem parse_told (s : ByteArray) (hm : s.size ≤ 100000) (he : EnvT w S) (ht : ∀ w, Calls Tryd.prog 81 #[.string (bs (cutG ((ls s).drop 7)).1), .string ⟨#[43, 35]⟩] w fun x w' => x = .returned (.bool (signB (cutG ((ls s).drop 7)).1)) ∧ Below w.heap.size w w') : Calls Tryd.prog 39 #[.string s] w (ParseSays s w) := by
  have E := Lib.hid (fun w' (hb : Below w.heap.size w w') => he.later hb)
  have HF := Lib.hid (fun w' (hb : Below w.heap.size w w') => isFilter_any s (by omega) (E.out w' hb))
  unfold ParseSays
  cases h1 : filtB s with
  | false =>
    have e : parse17 s = ((false, [], []), false) := by unfold parse17; rw [if_pos h1]
    rw [e]
    rw [h1] at HF
    clear h1 e ht he
    go_enter Tryd.func39, Tryd.ntmps39
    go_wp2_with fail
    refine (HF.out _ ((Below.refl _ _).alloc (Nat.le_refl _) _)).mono ?_
    rintro x w1 ⟨rfl, hb⟩
    have HB := Lib.hid ((((Below.refl w.heap.size w).alloc (Nat.le_refl _) _).trans (hb.mono (by simp))))
    have hk := (Blk.made w 59 #[.bool false, .string ⟨#[]⟩, .string ⟨#[]⟩]).below hb (by simp)
    obtain ⟨g, hg⟩ : ∃ g, g = w.heap.size := ⟨_, rfl⟩
    rw [← hg] at hk ⊢
    have hge : w.heap.size ≤ g := by omega
    have HK := Lib.hid hk
    clear hb hk hg
    have k0 := HK.out.cell 0
    have k1 := HK.out.cell 1
    have k2 := HK.out.cell 2
    have f0 := HK.out.frozen 0
    have f1 := HK.out.frozen 1
    have f2 := HK.out.frozen 2
    obtain ⟨e0, e1, e2, hbe⟩ := share_end HB.out HK.out rfl hge (.bool false) (.string ⟨#[]⟩) (.string ⟨#[]⟩)
    have HBE := Lib.hid hbe
    clear hbe
    go_wp2_with fail
    exact bodyPost_ret (v := .tuple #[.agg #[.bool false, .string ⟨#[]⟩, .string ⟨#[]⟩], .bool false]) (by simp [results, Tryd.results39, go_sem, e0, e1, e2]) rfl ⟨rfl, HBE.out⟩
  | true =>
    rw [h1] at HF
    have HP : Hid (∀ w, Calls Tryd.prog 80 #[.string s, .string ⟨#[36, 115, 104, 97, 114, 101, 47]⟩] w fun e w' => e = .returned (.tuple #[.string ⟨(Lib.trimPrefix (ls s) [36, 115, 104, 97, 114, 101, 47]).toArray⟩, .bool (Lib.hasPrefix (ls s) [36, 115, 104, 97, 114, 101, 47])]) ∧ w' = w) := Lib.hid (fun w => Tryd.strings_CutPrefix s ⟨#[36, 115, 104, 97, 114, 101, 47]⟩ w)
    unfold Lib.trimPrefix at HP
    cases h2 : Lib.hasPrefix (ls s) [36, 115, 104, 97, 114, 101, 47] with
    | false =>
      have e : parse17 s = ((false, [], ls s), true) := by unfold parse17; rw [if_neg (by simp [h1]), if_pos h2]
      rw [e]
      rw [h2] at HP
      have hs := Lib.hid (bs_ls s)
      clear h1 h2 e ht he
      generalize (if false = true then (ls s).drop [36, 115, 104, 97, 114, 101, 47].length else ls s).toArray = rest at *
      go_enter Tryd.func39, Tryd.ntmps39
      go_wp2_with fail
      refine (HF.out _ ((Below.refl _ _).alloc (Nat.le_refl _) _)).mono ?_
      rintro x w1 ⟨rfl, hb⟩
      have HB := Lib.hid ((((Below.refl w.heap.size w).alloc (Nat.le_refl _) _).trans (hb.mono (by simp))))
      have hk := (Blk.made w 59 #[.bool false, .string ⟨#[]⟩, .string ⟨#[]⟩]).below hb (by simp)
      obtain ⟨g, hg⟩ : ∃ g, g = w.heap.size := ⟨_, rfl⟩
      rw [← hg] at hk ⊢
      have hge : w.heap.size ≤ g := by omega
      have HK := Lib.hid hk
      clear hb hk hg
      go_wp2_with fail
      refine (HP.out _).mono ?_
      rintro x w2 ⟨rfl, rfl⟩
      have k0 := HK.out.cell 0
      have k1 := HK.out.cell 1
      have k2 := HK.out.cell 2
      have f0 := HK.out.frozen 0
      have f1 := HK.out.frozen 1
      have f2 := HK.out.frozen 2
      obtain ⟨e0, e1, e2, hbe⟩ := share_end HB.out HK.out rfl hge (.bool false) (.string ⟨#[]⟩) (.string s)
      have HBE := Lib.hid hbe
      clear hbe
      go_wp2_with fail
      exact bodyPost_ret (v := .tuple #[.agg #[.bool false, .string ⟨#[]⟩, .string s], .bool true]) (by simp [results, Tryd.results39, go_sem, e0, e1, e2]) rfl ⟨by rw [hs.out]; rfl, HBE.out⟩
    | true =>
      have e : parse17 s = if (cutG ((ls s).drop 7)).1.isEmpty || signB (cutG ((ls s).drop 7)).1 || !filtB (bs (cutG ((ls s).drop 7)).2) then ((false, [], []), false) else ((true, (cutG ((ls s).drop 7)).1, (cutG ((ls s).drop 7)).2), true) := by
        unfold parse17; rw [if_neg (by simp [h1]), if_neg (by simp [h2])]
      rw [e]
      rw [h2] at HP
      have HP2 : Hid (∀ w, Calls Tryd.prog 80 #[.string s, .string ⟨#[36, 115, 104, 97, 114, 101, 47]⟩] w fun e w' => e = .returned (.tuple #[.string (bs ((ls s).drop 7)), .bool true]) ∧ w' = w) := Lib.hid HP.out
      have hdl : ((ls s).drop 7).length ≤ 100000 := by rw [List.length_drop, ls_size]; omega
      have hcl := cutG_le ((ls s).drop 7)
      have HC := Lib.hid (fun w => cut_g (w := w) (bs ((ls s).drop 7)) (by rw [bs_size]; omega))
      rw [ls_bs] at HC
      clear h1 h2 e HP
      generalize bs ((ls s).drop 7) = rest at *
      generalize (ls s).drop 7 = rl at *
      generalize (cutG rl).1 = gl at *
      generalize (cutG rl).2 = fl at *
      have hgl : (bs gl).size ≤ 100000 := by rw [bs_size]; omega
      have hfl : (bs fl).size ≤ 100000 := by rw [bs_size]; omega
      have HS := Lib.hid ht
      have HF2 := Lib.hid (fun w' (hb : Below w.heap.size w w') => isFilter_any (bs fl) (by omega) (E.out w' hb))
      have hemp : (bs gl).toList.isEmpty = gl.isEmpty := by rw [toList_ls, ls_bs]
      have hnil : bs [] = ⟨#[]⟩ := rfl
      have HNIL := Lib.hid hnil
      clear ht he hcl hnil
      obtain ⟨gs, hgs⟩ : ∃ x, x = bs gl := ⟨_, rfl⟩
      obtain ⟨fs, hfs⟩ : ∃ x, x = bs fl := ⟨_, rfl⟩
      rw [← hgs] at hgl HS hemp HC
      rw [← hfs] at hfl HF2 HC ⊢
      have HGS := Lib.hid hgs.symm
      have HFS := Lib.hid hfs.symm
      clear hgs hfs
      generalize filtB fs = fb at *
      generalize signB gl = sb at *
      generalize gl.isEmpty = eb at *
      cases eb with
      | true =>
        go_enter Tryd.func39, Tryd.ntmps39
        go_wp2_with fail
        refine (HF.out _ ((Below.refl _ _).alloc (Nat.le_refl _) _)).mono ?_
        rintro x w1 ⟨rfl, hb⟩
        have HB := Lib.hid ((((Below.refl w.heap.size w).alloc (Nat.le_refl _) _).trans (hb.mono (by simp))))
        have hk := (Blk.made w 59 #[.bool false, .string ⟨#[]⟩, .string ⟨#[]⟩]).below hb (by simp)
        obtain ⟨g, hg⟩ : ∃ g, g = w.heap.size := ⟨_, rfl⟩
        rw [← hg] at hk ⊢
        have hge : w.heap.size ≤ g := by omega
        have HK := Lib.hid hk
        clear hb hk hg
        go_wp2_with fail
        refine (HP2.out _).mono ?_
        rintro x w2 ⟨rfl, rfl⟩
        go_wp2_with fail
        refine (HC.out _).mono ?_
        rintro x w3 ⟨⟨b, rfl⟩, hf⟩
        have HB3 := Lib.hid (hf.later HB.out (by simp) HB.out.size)
        have HK3 := Lib.hid (HK.out.fr hf (by simp))
        clear hf
        have k0 := HK3.out.cell 0
        have k1 := HK3.out.cell 1
        have k2 := HK3.out.cell 2
        have f0 := HK3.out.frozen 0
        have f1 := HK3.out.frozen 1
        have f2 := HK3.out.frozen 2
        obtain ⟨e0, e1, e2, hbe⟩ := share_end HB3.out HK3.out rfl hge (.bool false) (.string ⟨#[]⟩) (.string ⟨#[]⟩)
        have HBE := Lib.hid hbe
        clear hbe
        go_wp2_with fail
        exact bodyPost_ret (v := .tuple #[.agg #[.bool false, .string ⟨#[]⟩, .string ⟨#[]⟩], .bool false]) (by simp [results, Tryd.results39, go_sem, e0, e1, e2]) rfl ⟨rfl, HBE.out⟩
      | false =>
        cases sb with
        | true =>
          go_enter Tryd.func39, Tryd.ntmps39
          go_wp2_with fail
          refine (HF.out _ ((Below.refl _ _).alloc (Nat.le_refl _) _)).mono ?_
          rintro x w1 ⟨rfl, hb⟩
          have HB := Lib.hid ((((Below.refl w.heap.size w).alloc (Nat.le_refl _) _).trans (hb.mono (by simp))))
          have hk := (Blk.made w 59 #[.bool false, .string ⟨#[]⟩, .string ⟨#[]⟩]).below hb (by simp)
          obtain ⟨g, hg⟩ : ∃ g, g = w.heap.size := ⟨_, rfl⟩
          rw [← hg] at hk ⊢
          have hge : w.heap.size ≤ g := by omega
          have HK := Lib.hid hk
          clear hb hk hg
          go_wp2_with fail
          refine (HP2.out _).mono ?_
          rintro x w2 ⟨rfl, rfl⟩
          go_wp2_with fail
          refine (HC.out _).mono ?_
          rintro x w3 ⟨⟨b, rfl⟩, hf⟩
          have HB3 := Lib.hid (hf.later HB.out (by simp) HB.out.size)
          have HK3 := Lib.hid (HK.out.fr hf (by simp))
          clear hf
          go_wp2_with fail
          refine (HS.out _).mono ?_
          rintro x w4 ⟨rfl, hb⟩
          have HB4 := Lib.hid (HB3.out.trans (hb.mono HB3.out.size))
          have HK4 := Lib.hid (HK3.out.below hb HK3.out.lt)
          clear hb
          have k0 := HK4.out.cell 0
          have k1 := HK4.out.cell 1
          have k2 := HK4.out.cell 2
          have f0 := HK4.out.frozen 0
          have f1 := HK4.out.frozen 1
          have f2 := HK4.out.frozen 2
          obtain ⟨e0, e1, e2, hbe⟩ := share_end HB4.out HK4.out rfl hge (.bool false) (.string ⟨#[]⟩) (.string ⟨#[]⟩)
          have HBE := Lib.hid hbe
          clear hbe
          go_wp2_with fail
          exact bodyPost_ret (v := .tuple #[.agg #[.bool false, .string ⟨#[]⟩, .string ⟨#[]⟩], .bool false]) (by simp [results, Tryd.results39, go_sem, e0, e1, e2]) rfl ⟨rfl, HBE.out⟩
        | false =>
          cases fb with
          | false =>
            go_enter Tryd.func39, Tryd.ntmps39
            go_wp2_with fail
            refine (HF.out _ ((Below.refl _ _).alloc (Nat.le_refl _) _)).mono ?_
            rintro x w1 ⟨rfl, hb⟩
            have HB := Lib.hid ((((Below.refl w.heap.size w).alloc (Nat.le_refl _) _).trans (hb.mono (by simp))))
            have hk := (Blk.made w 59 #[.bool false, .string ⟨#[]⟩, .string ⟨#[]⟩]).below hb (by simp)
            obtain ⟨g, hg⟩ : ∃ g, g = w.heap.size := ⟨_, rfl⟩
            rw [← hg] at hk ⊢
            have hge : w.heap.size ≤ g := by omega
            have HK := Lib.hid hk
            clear hb hk hg
            go_wp2_with fail
            refine (HP2.out _).mono ?_
            rintro x w2 ⟨rfl, rfl⟩
            go_wp2_with fail
            refine (HC.out _).mono ?_
            rintro x w3 ⟨⟨b, rfl⟩, hf⟩
            have HB3 := Lib.hid (hf.later HB.out (by simp) HB.out.size)
            have HK3 := Lib.hid (HK.out.fr hf (by simp))
            clear hf
            go_wp2_with fail
            refine (HS.out _).mono ?_
            rintro x w4 ⟨rfl, hb⟩
            have HB4 := Lib.hid (HB3.out.trans (hb.mono HB3.out.size))
            have HK4 := Lib.hid (HK3.out.below hb HK3.out.lt)
            clear hb
            go_wp2_with fail
            refine (HF2.out _ HB4.out).mono ?_
            rintro x w5 ⟨rfl, hb⟩
            have HB5 := Lib.hid (HB4.out.trans (hb.mono HB4.out.size))
            have HK5 := Lib.hid (HK4.out.below hb HK4.out.lt)
            clear hb
            have k0 := HK5.out.cell 0
            have k1 := HK5.out.cell 1
            have k2 := HK5.out.cell 2
            have f0 := HK5.out.frozen 0
            have f1 := HK5.out.frozen 1
            have f2 := HK5.out.frozen 2
            obtain ⟨e0, e1, e2, hbe⟩ := share_end HB5.out HK5.out rfl hge (.bool false) (.string ⟨#[]⟩) (.string ⟨#[]⟩)
            have HBE := Lib.hid hbe
            clear hbe
            go_wp2_with fail
            exact bodyPost_ret (v := .tuple #[.agg #[.bool false, .string ⟨#[]⟩, .string ⟨#[]⟩], .bool false]) (by simp [results, Tryd.results39, go_sem, e0, e1, e2]) rfl ⟨rfl, HBE.out⟩
          | true =>
            go_enter Tryd.func39, Tryd.ntmps39
            go_wp2_with fail
            refine (HF.out _ ((Below.refl _ _).alloc (Nat.le_refl _) _)).mono ?_
            rintro x w1 ⟨rfl, hb⟩
            have HB := Lib.hid ((((Below.refl w.heap.size w).alloc (Nat.le_refl _) _).trans (hb.mono (by simp))))
            have hk := (Blk.made w 59 #[.bool false, .string ⟨#[]⟩, .string ⟨#[]⟩]).below hb (by simp)
            obtain ⟨g, hg⟩ : ∃ g, g = w.heap.size := ⟨_, rfl⟩
            rw [← hg] at hk ⊢
            have hge : w.heap.size ≤ g := by omega
            have HK := Lib.hid hk
            clear hb hk hg
            go_wp2_with fail
            refine (HP2.out _).mono ?_
            rintro x w2 ⟨rfl, rfl⟩
            go_wp2_with fail
            refine (HC.out _).mono ?_
            rintro x w3 ⟨⟨b, rfl⟩, hf⟩
            have HB3 := Lib.hid (hf.later HB.out (by simp) HB.out.size)
            have HK3 := Lib.hid (HK.out.fr hf (by simp))
            clear hf
            go_wp2_with fail
            refine (HS.out _).mono ?_
            rintro x w4 ⟨rfl, hb⟩
            have HB4 := Lib.hid (HB3.out.trans (hb.mono HB3.out.size))
            have HK4 := Lib.hid (HK3.out.below hb HK3.out.lt)
            clear hb
            go_wp2_with fail
            refine (HF2.out _ HB4.out).mono ?_
            rintro x w5 ⟨rfl, hb⟩
            have HB5 := Lib.hid (HB4.out.trans (hb.mono HB4.out.size))
            have HK5 := Lib.hid (HK4.out.below hb HK4.out.lt)
            clear hb
            have k0 := HK5.out.cell 0
            have k1 := HK5.out.cell 1
            have k2 := HK5.out.cell 2
            have f0 := HK5.out.frozen 0
            have f1 := HK5.out.frozen 1
            have f2 := HK5.out.frozen 2
            obtain ⟨e0, e1, e2, hbe⟩ := share_end HB5.out HK5.out rfl hge (.bool true) (.string gs) (.string fs)
            have HBE := Lib.hid hbe
            clear hbe
            go_wp2_with fail
            exact bodyPost_ret (v := .tuple #[.agg #[.bool true, .string gs, .string fs], .bool true]) (by simp [results, Tryd.results39, go_sem, e0, e1, e2]) rfl ⟨by rw [HGS.out, HFS.out], HBE.out⟩
end
end Go.Proofs.YtdaicjplmnpooaaDoor

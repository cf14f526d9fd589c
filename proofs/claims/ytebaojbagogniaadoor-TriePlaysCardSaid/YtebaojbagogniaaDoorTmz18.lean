/- What is proved here: what a topic's levels take of a trie is laid into a list. Conditions: the trie stands; few entries. What is proved here: what a topic's levels take of a trie is laid into a list. Conditions: the trie stands; few entries. What is proved here: what a topic's levels take of a trie is laid into a list. Conditions: the trie stands; few entries. What is proved here: what Match answers of a trie. Conditions: the trie stands; few entries; the name is short. -/
import Derived.Test.YtebaojbagogniaaDoorTmv18
import Derived.Test.YtebaojbagogniaaDoorMat16
import Derived.Test.YtebaojbagogniaaDoorTpt18
namespace Go.Proofs.YtebaojbagogniaaDoor
open Go.RowKit Go.Extern.Stop Go.Stop Go.Extern Go.Maps Go.Deep
set_option maxRecDepth 100000
section
variable {w0 V W W2 : World} {g r l : Nat} {T : NL} {p L : List BL} {n m : NV} {v : Value} {R R1 X Y : List EV} {s : Bool}
theorem take_at (h : TrI w0 g T r) (hn : n ∈ T) (hp : n.rp = p) (hL : LsI w0 V l v R) (hf : R.length + (endsAt T p).length ≤ 900) :
    Calls Tryd.prog 26 #[.pointer (some ⟨l, 0, none⟩), .pointer (some ⟨n.blk, 0, none⟩)] V (TakeSays w0 V l R (endsAt T p)) := by
  have hp2 := endsAt_one h.tc hn hp
  exact (take_any h hn hL (by rw [← hp2.length_eq]; exact hf)).mono fun x W ⟨h1, v', R', h2, h3⟩ => ⟨h1, v', R', h2.trans hp2.symm, h3⟩
def MtchC (w0 : World) (l : Nat) (T : NL) (L : List BL) : Prop := ∀ (p : List BL) (s : Bool) (o : Value) (V : World) (v : Value) (R : List EV) (A : Option Addr) (c : Nat), NdAt T p o → LsI w0 V l v R → LRd V A L → L.length ≤ c → R.length + (visE T p L s).length ≤ 900 →
    Calls Tryd.prog 35 #[o, .slice A L.length c, .bool s, .func (.func 26) #[.pointer (some ⟨l, 0, none⟩)] #[]] V (TakeSays w0 V l R (visE T p L s))
theorem mt_none (h : TrI w0 g T r) (hno : ∀ m ∈ T, m.rp ≠ p) (hL : LsI w0 V l v R) (a : Value) :
    Calls Tryd.prog 35 #[.pointer none, a, .bool s, .func (.func 26) #[.pointer (some ⟨l, 0, none⟩)] #[]] V (TakeSays w0 V l R (visE T p L s)) := by
  have HE := Lib.hid ((MvJ.start hL).fin (Y := visE T p L s) (by rw [visE_none h.tc p L s hno]))
  clear h hno hL
  go_enter Tryd.func35, Tryd.ntmps35
  go_wp2_with fail
  exact bodyPost_end (v := .tuple #[]) (by simp [results, Tryd.f35, go_sem]) rfl HE.out
set_option maxHeartbeats 8000000 in
theorem mt_nil (h : TrI w0 g T r) (hn : n ∈ T) (hp : n.rp = p) (hL : LsI w0 V l v R) {A : Option Addr} {c : Nat} (hf : R.length + (visE T p [] s).length ≤ 900) :
    Calls Tryd.prog 35 #[.pointer (some ⟨n.blk, 0, none⟩), .slice A 0 c, .bool s, .func (.func 26) #[.pointer (some ⟨l, 0, none⟩)] #[]] V (TakeSays w0 V l R (visE T p [] s)) := by
  have hV := h.fr (X := []) (Fr.of_below hL.bel) (fun b hb => by cases hb)
  have c0 := (hV.th.nb n hn).cell 0
  obtain ⟨o1, hN1, hl1⟩ := nlook_any hn [35] (by unfold maxLen; decide)
  have hlk : (Instr.lookup 58 (.map (some n.nx)) (.string ⟨#[35]⟩) false).run Tryd.prog V = .ok o1 V := hl1 V hV.th
  rw [hp] at hN1
  have HH := Lib.hid h
  have HN := Lib.hid (And.intro hn hp)
  have HF := Lib.hid hf
  have HL := Lib.hid hL
  clear h hn hp hL hf hV hl1
  cases s with
  | false =>
    have HJ := Lib.hid (MvJ.start HL.out)
    clear hN1
    go_enter Tryd.func35, Tryd.ntmps35
    have HT2 := Lib.hid (take_at HH.out HN.out.1 HN.out.2 HJ.out.ls (by have h1 := HF.out; rw [visE_nil, if_neg Bool.false_ne_true, List.length_append] at h1; rw [HJ.out.len]; simp only [List.length_nil] at h1 ⊢; omega))
    go_wp2_with fail
    refine HT2.out.mono ?_
    rintro x W9 ht
    obtain ⟨rfl, v9, R9, hj⟩ := HJ.out.step ht
    have HE := Lib.hid (hj.fin (Y := visE T p [] false) (by rw [visE_nil]; exact List.Perm.refl _))
    clear hj ht HJ HT2
    go_wp2_with fail
    exact bodyPost_end (v := .tuple #[]) (by simp [results, Tryd.f35, go_sem]) rfl HE.out
  | true =>
    rcases hN1 with ⟨m, hm, hmr, rfl⟩ | ⟨hno, rfl⟩
    · have HT := Lib.hid (take_at HH.out hm hmr HL.out (by have h1 := HF.out; rw [visE_nil, if_pos rfl, List.length_append] at h1; omega))
      clear hm hmr
      go_enter Tryd.func35, Tryd.ntmps35
      go_wp2_with fail
      refine HT.out.mono ?_
      rintro x W ht
      rw [← List.append_nil R] at ht
      obtain ⟨rfl, v1, R1, hj⟩ := (MvJ.start HL.out).step ht
      have HJ := Lib.hid hj
      have hW := HH.out.fr (X := []) (Fr.of_below hj.ls.bel) (fun b hb => by cases hb)
      have c0 := (hW.th.nb n HN.out.1).cell 0
      clear hj hW HT ht hlk
      rw [List.nil_append] at HJ
      have HT2 := Lib.hid (take_at HH.out HN.out.1 HN.out.2 HJ.out.ls (by have h1 := HF.out; rw [visE_nil, if_pos rfl, List.length_append] at h1; rw [HJ.out.len]; omega))
      go_wp2_with fail
      refine HT2.out.mono ?_
      rintro x W9 ht
      obtain ⟨rfl, v9, R9, hj⟩ := HJ.out.step ht
      have HE := Lib.hid (hj.fin (Y := visE T p [] true) (by rw [visE_nil]; exact List.Perm.refl _))
      clear hj ht HJ HT2
      go_wp2_with fail
      exact bodyPost_end (v := .tuple #[]) (by simp [results, Tryd.f35, go_sem]) rfl HE.out
    · have HJ : Hid (MvJ w0 V V l R (endsAt T ([35] :: p)) v []) := Lib.hid (by rw [endsAt_none hno]; exact MvJ.start HL.out)
      clear hno
      go_enter Tryd.func35, Tryd.ntmps35
      have HT2 := Lib.hid (take_at HH.out HN.out.1 HN.out.2 HJ.out.ls (by have h1 := HF.out; rw [visE_nil, if_pos rfl, List.length_append] at h1; rw [HJ.out.len]; omega))
      go_wp2_with fail
      refine HT2.out.mono ?_
      rintro x W9 ht
      obtain ⟨rfl, v9, R9, hj⟩ := HJ.out.step ht
      have HE := Lib.hid (hj.fin (Y := visE T p [] true) (by rw [visE_nil]; exact List.Perm.refl _))
      clear hj ht HJ HT2
      go_wp2_with fail
      exact bodyPost_end (v := .tuple #[]) (by simp [results, Tryd.f35, go_sem]) rfl HE.out
end
end Go.Proofs.YtebaojbagogniaaDoor
namespace Go.Proofs.YtebaojbagogniaaDoor
open Go.RowKit Go.Extern.Stop Go.Stop Go.Extern Go.Maps Go.Deep
set_option maxRecDepth 100000
section
variable {w0 V W W2 : World} {g r l : Nat} {T : NL} {p L : List BL} {n m : NV} {v : Value} {R R1 X Y : List EV} {s : Bool}
set_option maxHeartbeats 8000000 in
theorem mt_cons2 (h : TrI w0 g T r) (hn : n ∈ T) (hp : n.rp = p) (hL : LsI w0 V l v R) {lv0 : BL} {gr off c k : Nat} (hA : LRd V (some ⟨gr, off, none⟩) (lv0 :: L)) (hk : k = L.length) (hk1 : k ≤ 1000) (hc : k + 1 ≤ c) (hc2 : 1 < c) (hlm : lv0.length ≤ maxLen) (ih : MtchC w0 l T L) (hf : R.length + (visE T p (lv0 :: L) s).length ≤ 900) :
    Calls Tryd.prog 35 #[.pointer (some ⟨n.blk, 0, none⟩), .slice (some ⟨gr, off, none⟩) (k + 1) c, .bool s, .func (.func 26) #[.pointer (some ⟨l, 0, none⟩)] #[]] V (TakeSays w0 V l R (visE T p (lv0 :: L) s)) := by
  have hV := h.fr (X := []) (Fr.of_below hL.bel) (fun b hb => by cases hb)
  have c0 := (hV.th.nb n hn).cell 0
  obtain ⟨o1, hN1, hl1⟩ := nlook_any hn [35] (by unfold maxLen; decide)
  have hlk : (Instr.lookup 58 (.map (some n.nx)) (.string ⟨#[35]⟩) false).run Tryd.prog V = .ok o1 V := hl1 V hV.th
  rw [hp] at hN1
  have HH := Lib.hid h
  have HN := Lib.hid (And.intro hn hp)
  have HF := Lib.hid hf
  have HL := Lib.hid hL
  have HA := Lib.hid hA
  have HK := Lib.hid hk
  have HLM := Lib.hid hlm
  unfold MtchC at ih
  rw [← hk] at ih
  have HI := Lib.hid ih
  clear h hn hp hL hf hV hl1 hA hk hlm ih
  have hz1 : (1 : Int) ≤ (k : Int) + 1 := by omega
  have hz2 : ¬ c = 1 := by omega
  cases s with
  | false =>
    have HJ := Lib.hid (MvJ.start HL.out)
    clear hN1
    go_enter Tryd.func35, Tryd.ntmps35
    obtain ⟨o8, hN8, hl8⟩ := nlook_any HN.out.1 lv0 HLM.out
    rw [HN.out.2] at hN8
    have hTW := HH.out.fr (X := []) (Fr.of_below (HJ.out.ls.bel.trans ((show Below V.heap.size V V.drew from bvn18 V 1).mono HJ.out.ls.bel.size))) (fun b hb => by cases hb)
    have hlk8 : (Instr.lookup 58 (.map (some n.nx)) (.string (bs lv0)) false).run Tryd.prog V.drew = .ok o8 V.drew := hl8 V.drew hTW.th
    have hA8 := (HA.out.kp HJ.out.kp HL.out.blk (by decide)).below (show Below V.heap.size V V.drew from bvn18 V 1)
    have HC8 : Hid (∀ A' c', (0 < L.length → A' = some ⟨gr, off + 1, none⟩) → k ≤ c' → Calls Tryd.prog 35 #[o8, .slice A' k c', .bool true, .func (.func 26) #[.pointer (some ⟨l, 0, none⟩)] #[]] V.drew fun x W => (x = .returned (.tuple #[]) ∧ W.cell? ⟨n.blk, 0, none⟩ = some (.map (some n.nx)) ∧ W.cell? ⟨gr, off, none⟩ = some (.string (bs lv0))) ∧ TakeSays w0 V l R (visE T p (lv0 :: L) false) (.returned (.tuple #[])) W) := Lib.hid fun A' c' hA' hc' =>
      (HI.out (lv0 :: p) true o8 V.drew _ _ A' c' hN8 (HJ.out.ls.below (show Below V.heap.size V V.drew from bvn18 V 1)) (hA8.tail hA') hc' (by
        have h1 := HF.out
        rw [visE_cons, if_neg Bool.false_ne_true, if_neg Bool.false_ne_true, List.nil_append, List.nil_append] at h1
        rw [HJ.out.len]
        simp only [List.length_nil]
        omega)).mono fun x Wz ht => by
          obtain ⟨hx, v', R', hj⟩ := (HJ.out.drewN (show Below V.heap.size V V.drew from bvn18 V 1)).step ht
          obtain ⟨g5, o5, e5, _, hc5⟩ := (HA.out.kp hj.kp HL.out.blk (by decide)) (by simp)
          cases e5
          have d5 := hc5 0 (by simp)
          rw [Nat.add_zero] at d5
          exact ⟨⟨hx, ((HH.out.fr (X := []) (Fr.of_below hj.ls.bel) (fun b hb => by cases hb)).th.nb n HN.out.1).cell 0, d5⟩, hj.fin (by rw [visE_cons]; simp)⟩
    have c8 : V.drew.cell? ⟨n.blk, 0, none⟩ = some (.map (some n.nx)) := (hTW.th.nb n HN.out.1).cell 0
    have d8 : V.drew.cell? ⟨gr, off, none⟩ = some (.string (bs lv0)) := by
      obtain ⟨g5, o5, e5, _, hc5⟩ := hA8 (by simp)
      cases e5
      have d5 := hc5 0 (by simp)
      rwa [Nat.add_zero] at d5
    have HX8 := Lib.hid (And.intro c8 d8)
    have b8 : V.cell? ⟨gr, off, none⟩ = some (.string (bs lv0)) := d8
    clear hN8 hl8 hTW hA8
    go_upto_region 8 with fail
    go_region_held3 (fun W => W.cell? ⟨n.blk, 0, none⟩ = some (.map (some n.nx)) ∧ W.cell? ⟨gr, off, none⟩ = some (.string (bs lv0)))
      (first | done | with_reducible assumption | exact HX8.out | exact hk8)
      (first
        | (go_at_call 35; (refine (HC8.out _ _ ?_ ?_).mono ?_); (first | exact fun _ => rfl | exact fun h0 => absurd h0 (by have := HK.out; omega)); omega; rintro e w8 ⟨⟨rfl, hk8⟩, hj8⟩))
    have HE := Lib.hid hj8
    clear hj8 hk8 HC8 hlk8 c8 d8 HX8 HJ
    go_wp2_with fail
    exact bodyPost_end (v := .tuple #[]) (by simp [results, Tryd.f35, go_sem]) rfl HE.out
  | true =>
    rcases hN1 with ⟨m, hm, hmr, rfl⟩ | ⟨hno, rfl⟩
    · have HT := Lib.hid (take_at HH.out hm hmr HL.out (by have h1 := HF.out; rw [visE_cons, if_pos rfl, List.length_append] at h1; omega))
      clear hm hmr
      go_enter Tryd.func35, Tryd.ntmps35
      go_wp2_with fail
      refine HT.out.mono ?_
      rintro x W ht
      rw [← List.append_nil R] at ht
      obtain ⟨rfl, v1, R1, hj⟩ := (MvJ.start HL.out).step ht
      have HJ := Lib.hid hj
      have hW := HH.out.fr (X := []) (Fr.of_below hj.ls.bel) (fun b hb => by cases hb)
      have c0 := (hW.th.nb n HN.out.1).cell 0
      clear hj hW HT ht hlk
      rw [List.nil_append] at HJ
      obtain ⟨o7, hN7, hl7⟩ := nlook_any HN.out.1 [43] (by unfold maxLen; decide)
      rw [HN.out.2] at hN7
      have hTW := HH.out.fr (X := []) (Fr.of_below (HJ.out.ls.bel.trans ((show Below W.heap.size W W.drew from bvn18 W 1).mono HJ.out.ls.bel.size))) (fun b hb => by cases hb)
      have hlk7 : (Instr.lookup 58 (.map (some n.nx)) (.string ⟨#[43]⟩) false).run Tryd.prog W.drew = .ok o7 W.drew := hl7 W.drew hTW.th
      have HC7 : Hid (∀ A' c', (0 < L.length → A' = some ⟨gr, off + 1, none⟩) → k ≤ c' → Calls Tryd.prog 35 #[o7, .slice A' k c', .bool true, .func (.func 26) #[.pointer (some ⟨l, 0, none⟩)] #[]] W.drew fun x W => (x = .returned (.tuple #[]) ∧ W.cell? ⟨n.blk, 0, none⟩ = some (.map (some n.nx))) ∧ ∃ v' R', MvJ w0 V W l R (endsAt T ([35] :: p) ++ visE T ([43] :: p) L true) v' R') := Lib.hid fun A' c' hA' hc' =>
        (HI.out ([43] :: p) true o7 W.drew _ _ A' c' hN7 (HJ.out.ls.below (show Below W.heap.size W W.drew from bvn18 W 1)) (((HA.out.kp HJ.out.kp HL.out.blk (by decide)).below (show Below W.heap.size W W.drew from bvn18 W 1)).tail hA') hc' (by
          have h1 := HF.out
          rw [visE_cons, if_pos rfl, if_pos rfl, List.length_append, List.length_append] at h1
          rw [HJ.out.len]
          omega)).mono fun x Wz ht => by
            obtain ⟨hx, v', R', hj⟩ := (HJ.out.drewN (show Below W.heap.size W W.drew from bvn18 W 1)).step ht
            exact ⟨⟨hx, ((HH.out.fr (X := []) (Fr.of_below hj.ls.bel) (fun b hb => by cases hb)).th.nb n HN.out.1).cell 0⟩, v', R', hj⟩
      have c7 : W.drew.cell? ⟨n.blk, 0, none⟩ = some (.map (some n.nx)) := (hTW.th.nb n HN.out.1).cell 0
      have HX7 := Lib.hid c7
      clear hN7 hl7 hTW
      go_upto_region 7 with fail
      go_region_held3 (fun W => W.cell? ⟨n.blk, 0, none⟩ = some (.map (some n.nx)))
        (first | done | with_reducible assumption | exact HX7.out)
        (first
          | (go_at_call 35; (refine (HC7.out _ _ ?_ ?_).mono ?_); (first | exact fun _ => rfl | exact fun h0 => absurd h0 (by have := HK.out; omega)); omega; rintro e w7 ⟨⟨rfl, hk7⟩, hj7⟩))
      obtain ⟨v7, R7, hj7⟩ := hj7
      have HJ := Lib.hid hj7
      have c0 : w7.cell? ⟨n.blk, 0, none⟩ = some (.map (some n.nx)) := hk7
      clear hj7 hk7 HC7 hlk7 c7 HX7
      obtain ⟨o8, hN8, hl8⟩ := nlook_any HN.out.1 lv0 HLM.out
      rw [HN.out.2] at hN8
      have hTW := HH.out.fr (X := []) (Fr.of_below (HJ.out.ls.bel.trans ((show Below w7.heap.size w7 w7.drew from bvn18 w7 1).mono HJ.out.ls.bel.size))) (fun b hb => by cases hb)
      have hlk8 : (Instr.lookup 58 (.map (some n.nx)) (.string (bs lv0)) false).run Tryd.prog w7.drew = .ok o8 w7.drew := hl8 w7.drew hTW.th
      have hA8 := (HA.out.kp HJ.out.kp HL.out.blk (by decide)).below (show Below w7.heap.size w7 w7.drew from bvn18 w7 1)
      have HC8 : Hid (∀ A' c', (0 < L.length → A' = some ⟨gr, off + 1, none⟩) → k ≤ c' → Calls Tryd.prog 35 #[o8, .slice A' k c', .bool true, .func (.func 26) #[.pointer (some ⟨l, 0, none⟩)] #[]] w7.drew fun x W => (x = .returned (.tuple #[]) ∧ W.cell? ⟨n.blk, 0, none⟩ = some (.map (some n.nx)) ∧ W.cell? ⟨gr, off, none⟩ = some (.string (bs lv0))) ∧ TakeSays w0 V l R (visE T p (lv0 :: L) true) (.returned (.tuple #[])) W) := Lib.hid fun A' c' hA' hc' =>
        (HI.out (lv0 :: p) true o8 w7.drew _ _ A' c' hN8 (HJ.out.ls.below (show Below w7.heap.size w7 w7.drew from bvn18 w7 1)) (hA8.tail hA') hc' (by
          have h1 := HF.out
          rw [visE_cons, if_pos rfl, if_pos rfl, List.length_append, List.length_append] at h1
          rw [HJ.out.len]
          rw [List.length_append]
          omega)).mono fun x Wz ht => by
            obtain ⟨hx, v', R', hj⟩ := (HJ.out.drewN (show Below w7.heap.size w7 w7.drew from bvn18 w7 1)).step ht
            obtain ⟨g5, o5, e5, _, hc5⟩ := (HA.out.kp hj.kp HL.out.blk (by decide)) (by simp)
            cases e5
            have d5 := hc5 0 (by simp)
            rw [Nat.add_zero] at d5
            exact ⟨⟨hx, ((HH.out.fr (X := []) (Fr.of_below hj.ls.bel) (fun b hb => by cases hb)).th.nb n HN.out.1).cell 0, d5⟩, hj.fin (by rw [visE_cons]; rw [if_pos rfl, if_pos rfl, List.append_assoc])⟩
      have c8 : w7.drew.cell? ⟨n.blk, 0, none⟩ = some (.map (some n.nx)) := (hTW.th.nb n HN.out.1).cell 0
      have d8 : w7.drew.cell? ⟨gr, off, none⟩ = some (.string (bs lv0)) := by
        obtain ⟨g5, o5, e5, _, hc5⟩ := hA8 (by simp)
        cases e5
        have d5 := hc5 0 (by simp)
        rwa [Nat.add_zero] at d5
      have HX8 := Lib.hid (And.intro c8 d8)
      have b8 : w7.cell? ⟨gr, off, none⟩ = some (.string (bs lv0)) := d8
      clear hN8 hl8 hTW hA8
      go_upto_region 8 with fail
      go_region_held3 (fun W => W.cell? ⟨n.blk, 0, none⟩ = some (.map (some n.nx)) ∧ W.cell? ⟨gr, off, none⟩ = some (.string (bs lv0)))
        (first | done | with_reducible assumption | exact HX8.out | exact hk8)
        (first
          | (go_at_call 35; (refine (HC8.out _ _ ?_ ?_).mono ?_); (first | exact fun _ => rfl | exact fun h0 => absurd h0 (by have := HK.out; omega)); omega; rintro e w8 ⟨⟨rfl, hk8⟩, hj8⟩))
      have HE := Lib.hid hj8
      clear hj8 hk8 HC8 hlk8 c8 d8 HX8 HJ
      go_wp2_with fail
      exact bodyPost_end (v := .tuple #[]) (by simp [results, Tryd.f35, go_sem]) rfl HE.out
    · have HJ : Hid (MvJ w0 V V l R (endsAt T ([35] :: p)) v []) := Lib.hid (by rw [endsAt_none hno]; exact MvJ.start HL.out)
      clear hno
      go_enter Tryd.func35, Tryd.ntmps35
      obtain ⟨o7, hN7, hl7⟩ := nlook_any HN.out.1 [43] (by unfold maxLen; decide)
      rw [HN.out.2] at hN7
      have hTW := HH.out.fr (X := []) (Fr.of_below (HJ.out.ls.bel.trans ((show Below V.heap.size V V.drew from bvn18 V 1).mono HJ.out.ls.bel.size))) (fun b hb => by cases hb)
      have hlk7 : (Instr.lookup 58 (.map (some n.nx)) (.string ⟨#[43]⟩) false).run Tryd.prog V.drew = .ok o7 V.drew := hl7 V.drew hTW.th
      have HC7 : Hid (∀ A' c', (0 < L.length → A' = some ⟨gr, off + 1, none⟩) → k ≤ c' → Calls Tryd.prog 35 #[o7, .slice A' k c', .bool true, .func (.func 26) #[.pointer (some ⟨l, 0, none⟩)] #[]] V.drew fun x W => (x = .returned (.tuple #[]) ∧ W.cell? ⟨n.blk, 0, none⟩ = some (.map (some n.nx))) ∧ ∃ v' R', MvJ w0 V W l R (endsAt T ([35] :: p) ++ visE T ([43] :: p) L true) v' R') := Lib.hid fun A' c' hA' hc' =>
        (HI.out ([43] :: p) true o7 V.drew _ _ A' c' hN7 (HJ.out.ls.below (show Below V.heap.size V V.drew from bvn18 V 1)) (((HA.out.kp HJ.out.kp HL.out.blk (by decide)).below (show Below V.heap.size V V.drew from bvn18 V 1)).tail hA') hc' (by
          have h1 := HF.out
          rw [visE_cons, if_pos rfl, if_pos rfl, List.length_append, List.length_append] at h1
          rw [HJ.out.len]
          omega)).mono fun x Wz ht => by
            obtain ⟨hx, v', R', hj⟩ := (HJ.out.drewN (show Below V.heap.size V V.drew from bvn18 V 1)).step ht
            exact ⟨⟨hx, ((HH.out.fr (X := []) (Fr.of_below hj.ls.bel) (fun b hb => by cases hb)).th.nb n HN.out.1).cell 0⟩, v', R', hj⟩
      have c7 : V.drew.cell? ⟨n.blk, 0, none⟩ = some (.map (some n.nx)) := (hTW.th.nb n HN.out.1).cell 0
      have HX7 := Lib.hid c7
      clear hN7 hl7 hTW
      go_upto_region 7 with fail
      go_region_held3 (fun W => W.cell? ⟨n.blk, 0, none⟩ = some (.map (some n.nx)))
        (first | done | with_reducible assumption | exact HX7.out)
        (first
          | (go_at_call 35; (refine (HC7.out _ _ ?_ ?_).mono ?_); (first | exact fun _ => rfl | exact fun h0 => absurd h0 (by have := HK.out; omega)); omega; rintro e w7 ⟨⟨rfl, hk7⟩, hj7⟩))
      obtain ⟨v7, R7, hj7⟩ := hj7
      have HJ := Lib.hid hj7
      have c0 : w7.cell? ⟨n.blk, 0, none⟩ = some (.map (some n.nx)) := hk7
      clear hj7 hk7 HC7 hlk7 c7 HX7
      obtain ⟨o8, hN8, hl8⟩ := nlook_any HN.out.1 lv0 HLM.out
      rw [HN.out.2] at hN8
      have hTW := HH.out.fr (X := []) (Fr.of_below (HJ.out.ls.bel.trans ((show Below w7.heap.size w7 w7.drew from bvn18 w7 1).mono HJ.out.ls.bel.size))) (fun b hb => by cases hb)
      have hlk8 : (Instr.lookup 58 (.map (some n.nx)) (.string (bs lv0)) false).run Tryd.prog w7.drew = .ok o8 w7.drew := hl8 w7.drew hTW.th
      have hA8 := (HA.out.kp HJ.out.kp HL.out.blk (by decide)).below (show Below w7.heap.size w7 w7.drew from bvn18 w7 1)
      have HC8 : Hid (∀ A' c', (0 < L.length → A' = some ⟨gr, off + 1, none⟩) → k ≤ c' → Calls Tryd.prog 35 #[o8, .slice A' k c', .bool true, .func (.func 26) #[.pointer (some ⟨l, 0, none⟩)] #[]] w7.drew fun x W => (x = .returned (.tuple #[]) ∧ W.cell? ⟨n.blk, 0, none⟩ = some (.map (some n.nx)) ∧ W.cell? ⟨gr, off, none⟩ = some (.string (bs lv0))) ∧ TakeSays w0 V l R (visE T p (lv0 :: L) true) (.returned (.tuple #[])) W) := Lib.hid fun A' c' hA' hc' =>
        (HI.out (lv0 :: p) true o8 w7.drew _ _ A' c' hN8 (HJ.out.ls.below (show Below w7.heap.size w7 w7.drew from bvn18 w7 1)) (hA8.tail hA') hc' (by
          have h1 := HF.out
          rw [visE_cons, if_pos rfl, if_pos rfl, List.length_append, List.length_append] at h1
          rw [HJ.out.len]
          rw [List.length_append]
          omega)).mono fun x Wz ht => by
            obtain ⟨hx, v', R', hj⟩ := (HJ.out.drewN (show Below w7.heap.size w7 w7.drew from bvn18 w7 1)).step ht
            obtain ⟨g5, o5, e5, _, hc5⟩ := (HA.out.kp hj.kp HL.out.blk (by decide)) (by simp)
            cases e5
            have d5 := hc5 0 (by simp)
            rw [Nat.add_zero] at d5
            exact ⟨⟨hx, ((HH.out.fr (X := []) (Fr.of_below hj.ls.bel) (fun b hb => by cases hb)).th.nb n HN.out.1).cell 0, d5⟩, hj.fin (by rw [visE_cons]; rw [if_pos rfl, if_pos rfl, List.append_assoc])⟩
      have c8 : w7.drew.cell? ⟨n.blk, 0, none⟩ = some (.map (some n.nx)) := (hTW.th.nb n HN.out.1).cell 0
      have d8 : w7.drew.cell? ⟨gr, off, none⟩ = some (.string (bs lv0)) := by
        obtain ⟨g5, o5, e5, _, hc5⟩ := hA8 (by simp)
        cases e5
        have d5 := hc5 0 (by simp)
        rwa [Nat.add_zero] at d5
      have HX8 := Lib.hid (And.intro c8 d8)
      have b8 : w7.cell? ⟨gr, off, none⟩ = some (.string (bs lv0)) := d8
      clear hN8 hl8 hTW hA8
      go_upto_region 8 with fail
      go_region_held3 (fun W => W.cell? ⟨n.blk, 0, none⟩ = some (.map (some n.nx)) ∧ W.cell? ⟨gr, off, none⟩ = some (.string (bs lv0)))
        (first | done | with_reducible assumption | exact HX8.out | exact hk8)
        (first
          | (go_at_call 35; (refine (HC8.out _ _ ?_ ?_).mono ?_); (first | exact fun _ => rfl | exact fun h0 => absurd h0 (by have := HK.out; omega)); omega; rintro e w8 ⟨⟨rfl, hk8⟩, hj8⟩))
      have HE := Lib.hid hj8
      clear hj8 hk8 HC8 hlk8 c8 d8 HX8 HJ
      go_wp2_with fail
      exact bodyPost_end (v := .tuple #[]) (by simp [results, Tryd.f35, go_sem]) rfl HE.out
end
end Go.Proofs.YtebaojbagogniaaDoor
namespace Go.Proofs.YtebaojbagogniaaDoor
open Go.RowKit Go.Extern.Stop Go.Stop Go.Extern Go.Maps Go.Deep
set_option maxRecDepth 100000
section
variable {w0 V W W2 : World} {g r l : Nat} {T : NL} {p L : List BL} {n m : NV} {v : Value} {R R1 X Y : List EV} {s : Bool}
set_option maxHeartbeats 8000000 in
theorem mt_cons1 (h : TrI w0 g T r) (hn : n ∈ T) (hp : n.rp = p) (hL : LsI w0 V l v R) {lv0 : BL} {gr off : Nat} (hA : LRd V (some ⟨gr, off, none⟩) (lv0 :: L)) (hk : 0 = L.length) (hlm : lv0.length ≤ maxLen) (ih : MtchC w0 l T L) (hf : R.length + (visE T p (lv0 :: L) s).length ≤ 900) :
    Calls Tryd.prog 35 #[.pointer (some ⟨n.blk, 0, none⟩), .slice (some ⟨gr, off, none⟩) 1 1, .bool s, .func (.func 26) #[.pointer (some ⟨l, 0, none⟩)] #[]] V (TakeSays w0 V l R (visE T p (lv0 :: L) s)) := by
  have hV := h.fr (X := []) (Fr.of_below hL.bel) (fun b hb => by cases hb)
  have c0 := (hV.th.nb n hn).cell 0
  obtain ⟨o1, hN1, hl1⟩ := nlook_any hn [35] (by unfold maxLen; decide)
  have hlk : (Instr.lookup 58 (.map (some n.nx)) (.string ⟨#[35]⟩) false).run Tryd.prog V = .ok o1 V := hl1 V hV.th
  rw [hp] at hN1
  have HH := Lib.hid h
  have HN := Lib.hid (And.intro hn hp)
  have HF := Lib.hid hf
  have HL := Lib.hid hL
  have HA := Lib.hid hA
  have HK := Lib.hid hk
  have HLM := Lib.hid hlm
  unfold MtchC at ih
  rw [← hk] at ih
  have HI := Lib.hid ih
  clear h hn hp hL hf hV hl1 hA hk hlm ih
  cases s with
  | false =>
    have HJ := Lib.hid (MvJ.start HL.out)
    clear hN1
    go_enter Tryd.func35, Tryd.ntmps35
    obtain ⟨o8, hN8, hl8⟩ := nlook_any HN.out.1 lv0 HLM.out
    rw [HN.out.2] at hN8
    have hTW := HH.out.fr (X := []) (Fr.of_below (HJ.out.ls.bel.trans ((show Below V.heap.size V V.drew from bvn18 V 1).mono HJ.out.ls.bel.size))) (fun b hb => by cases hb)
    have hlk8 : (Instr.lookup 58 (.map (some n.nx)) (.string (bs lv0)) false).run Tryd.prog V.drew = .ok o8 V.drew := hl8 V.drew hTW.th
    have hA8 := (HA.out.kp HJ.out.kp HL.out.blk (by decide)).below (show Below V.heap.size V V.drew from bvn18 V 1)
    have HC8 : Hid (∀ A' c', (0 < L.length → A' = some ⟨gr, off + 1, none⟩) → 0 ≤ c' → Calls Tryd.prog 35 #[o8, .slice A' 0 c', .bool true, .func (.func 26) #[.pointer (some ⟨l, 0, none⟩)] #[]] V.drew fun x W => (x = .returned (.tuple #[]) ∧ W.cell? ⟨n.blk, 0, none⟩ = some (.map (some n.nx)) ∧ W.cell? ⟨gr, off, none⟩ = some (.string (bs lv0))) ∧ TakeSays w0 V l R (visE T p (lv0 :: L) false) (.returned (.tuple #[])) W) := Lib.hid fun A' c' hA' hc' =>
      (HI.out (lv0 :: p) true o8 V.drew _ _ A' c' hN8 (HJ.out.ls.below (show Below V.heap.size V V.drew from bvn18 V 1)) (hA8.tail hA') hc' (by
        have h1 := HF.out
        rw [visE_cons, if_neg Bool.false_ne_true, if_neg Bool.false_ne_true, List.nil_append, List.nil_append] at h1
        rw [HJ.out.len]
        simp only [List.length_nil]
        omega)).mono fun x Wz ht => by
          obtain ⟨hx, v', R', hj⟩ := (HJ.out.drewN (show Below V.heap.size V V.drew from bvn18 V 1)).step ht
          obtain ⟨g5, o5, e5, _, hc5⟩ := (HA.out.kp hj.kp HL.out.blk (by decide)) (by simp)
          cases e5
          have d5 := hc5 0 (by simp)
          rw [Nat.add_zero] at d5
          exact ⟨⟨hx, ((HH.out.fr (X := []) (Fr.of_below hj.ls.bel) (fun b hb => by cases hb)).th.nb n HN.out.1).cell 0, d5⟩, hj.fin (by rw [visE_cons]; simp)⟩
    have c8 : V.drew.cell? ⟨n.blk, 0, none⟩ = some (.map (some n.nx)) := (hTW.th.nb n HN.out.1).cell 0
    have d8 : V.drew.cell? ⟨gr, off, none⟩ = some (.string (bs lv0)) := by
      obtain ⟨g5, o5, e5, _, hc5⟩ := hA8 (by simp)
      cases e5
      have d5 := hc5 0 (by simp)
      rwa [Nat.add_zero] at d5
    have HX8 := Lib.hid (And.intro c8 d8)
    have b8 : V.cell? ⟨gr, off, none⟩ = some (.string (bs lv0)) := d8
    clear hN8 hl8 hTW hA8
    go_upto_region 8 with fail
    go_region_held3 (fun W => W.cell? ⟨n.blk, 0, none⟩ = some (.map (some n.nx)) ∧ W.cell? ⟨gr, off, none⟩ = some (.string (bs lv0)))
      (first | done | with_reducible assumption | exact HX8.out | exact hk8)
      (first
        | (go_at_call 35; (refine (HC8.out _ _ ?_ ?_).mono ?_); (first | exact fun _ => rfl | exact fun h0 => absurd h0 (by have := HK.out; omega)); omega; rintro e w8 ⟨⟨rfl, hk8⟩, hj8⟩))
    have HE := Lib.hid hj8
    clear hj8 hk8 HC8 hlk8 c8 d8 HX8 HJ
    go_wp2_with fail
    exact bodyPost_end (v := .tuple #[]) (by simp [results, Tryd.f35, go_sem]) rfl HE.out
  | true =>
    rcases hN1 with ⟨m, hm, hmr, rfl⟩ | ⟨hno, rfl⟩
    · have HT := Lib.hid (take_at HH.out hm hmr HL.out (by have h1 := HF.out; rw [visE_cons, if_pos rfl, List.length_append] at h1; omega))
      clear hm hmr
      go_enter Tryd.func35, Tryd.ntmps35
      go_wp2_with fail
      refine HT.out.mono ?_
      rintro x W ht
      rw [← List.append_nil R] at ht
      obtain ⟨rfl, v1, R1, hj⟩ := (MvJ.start HL.out).step ht
      have HJ := Lib.hid hj
      have hW := HH.out.fr (X := []) (Fr.of_below hj.ls.bel) (fun b hb => by cases hb)
      have c0 := (hW.th.nb n HN.out.1).cell 0
      clear hj hW HT ht hlk
      rw [List.nil_append] at HJ
      obtain ⟨o7, hN7, hl7⟩ := nlook_any HN.out.1 [43] (by unfold maxLen; decide)
      rw [HN.out.2] at hN7
      have hTW := HH.out.fr (X := []) (Fr.of_below (HJ.out.ls.bel.trans ((show Below W.heap.size W W.drew from bvn18 W 1).mono HJ.out.ls.bel.size))) (fun b hb => by cases hb)
      have hlk7 : (Instr.lookup 58 (.map (some n.nx)) (.string ⟨#[43]⟩) false).run Tryd.prog W.drew = .ok o7 W.drew := hl7 W.drew hTW.th
      have HC7 : Hid (∀ A' c', (0 < L.length → A' = some ⟨gr, off + 1, none⟩) → 0 ≤ c' → Calls Tryd.prog 35 #[o7, .slice A' 0 c', .bool true, .func (.func 26) #[.pointer (some ⟨l, 0, none⟩)] #[]] W.drew fun x W => (x = .returned (.tuple #[]) ∧ W.cell? ⟨n.blk, 0, none⟩ = some (.map (some n.nx))) ∧ ∃ v' R', MvJ w0 V W l R (endsAt T ([35] :: p) ++ visE T ([43] :: p) L true) v' R') := Lib.hid fun A' c' hA' hc' =>
        (HI.out ([43] :: p) true o7 W.drew _ _ A' c' hN7 (HJ.out.ls.below (show Below W.heap.size W W.drew from bvn18 W 1)) (((HA.out.kp HJ.out.kp HL.out.blk (by decide)).below (show Below W.heap.size W W.drew from bvn18 W 1)).tail hA') hc' (by
          have h1 := HF.out
          rw [visE_cons, if_pos rfl, if_pos rfl, List.length_append, List.length_append] at h1
          rw [HJ.out.len]
          omega)).mono fun x Wz ht => by
            obtain ⟨hx, v', R', hj⟩ := (HJ.out.drewN (show Below W.heap.size W W.drew from bvn18 W 1)).step ht
            exact ⟨⟨hx, ((HH.out.fr (X := []) (Fr.of_below hj.ls.bel) (fun b hb => by cases hb)).th.nb n HN.out.1).cell 0⟩, v', R', hj⟩
      have c7 : W.drew.cell? ⟨n.blk, 0, none⟩ = some (.map (some n.nx)) := (hTW.th.nb n HN.out.1).cell 0
      have HX7 := Lib.hid c7
      clear hN7 hl7 hTW
      go_upto_region 7 with fail
      go_region_held3 (fun W => W.cell? ⟨n.blk, 0, none⟩ = some (.map (some n.nx)))
        (first | done | with_reducible assumption | exact HX7.out)
        (first
          | (go_at_call 35; (refine (HC7.out _ _ ?_ ?_).mono ?_); (first | exact fun _ => rfl | exact fun h0 => absurd h0 (by have := HK.out; omega)); omega; rintro e w7 ⟨⟨rfl, hk7⟩, hj7⟩))
      obtain ⟨v7, R7, hj7⟩ := hj7
      have HJ := Lib.hid hj7
      have c0 : w7.cell? ⟨n.blk, 0, none⟩ = some (.map (some n.nx)) := hk7
      clear hj7 hk7 HC7 hlk7 c7 HX7
      obtain ⟨o8, hN8, hl8⟩ := nlook_any HN.out.1 lv0 HLM.out
      rw [HN.out.2] at hN8
      have hTW := HH.out.fr (X := []) (Fr.of_below (HJ.out.ls.bel.trans ((show Below w7.heap.size w7 w7.drew from bvn18 w7 1).mono HJ.out.ls.bel.size))) (fun b hb => by cases hb)
      have hlk8 : (Instr.lookup 58 (.map (some n.nx)) (.string (bs lv0)) false).run Tryd.prog w7.drew = .ok o8 w7.drew := hl8 w7.drew hTW.th
      have hA8 := (HA.out.kp HJ.out.kp HL.out.blk (by decide)).below (show Below w7.heap.size w7 w7.drew from bvn18 w7 1)
      have HC8 : Hid (∀ A' c', (0 < L.length → A' = some ⟨gr, off + 1, none⟩) → 0 ≤ c' → Calls Tryd.prog 35 #[o8, .slice A' 0 c', .bool true, .func (.func 26) #[.pointer (some ⟨l, 0, none⟩)] #[]] w7.drew fun x W => (x = .returned (.tuple #[]) ∧ W.cell? ⟨n.blk, 0, none⟩ = some (.map (some n.nx)) ∧ W.cell? ⟨gr, off, none⟩ = some (.string (bs lv0))) ∧ TakeSays w0 V l R (visE T p (lv0 :: L) true) (.returned (.tuple #[])) W) := Lib.hid fun A' c' hA' hc' =>
        (HI.out (lv0 :: p) true o8 w7.drew _ _ A' c' hN8 (HJ.out.ls.below (show Below w7.heap.size w7 w7.drew from bvn18 w7 1)) (hA8.tail hA') hc' (by
          have h1 := HF.out
          rw [visE_cons, if_pos rfl, if_pos rfl, List.length_append, List.length_append] at h1
          rw [HJ.out.len]
          rw [List.length_append]
          omega)).mono fun x Wz ht => by
            obtain ⟨hx, v', R', hj⟩ := (HJ.out.drewN (show Below w7.heap.size w7 w7.drew from bvn18 w7 1)).step ht
            obtain ⟨g5, o5, e5, _, hc5⟩ := (HA.out.kp hj.kp HL.out.blk (by decide)) (by simp)
            cases e5
            have d5 := hc5 0 (by simp)
            rw [Nat.add_zero] at d5
            exact ⟨⟨hx, ((HH.out.fr (X := []) (Fr.of_below hj.ls.bel) (fun b hb => by cases hb)).th.nb n HN.out.1).cell 0, d5⟩, hj.fin (by rw [visE_cons]; rw [if_pos rfl, if_pos rfl, List.append_assoc])⟩
      have c8 : w7.drew.cell? ⟨n.blk, 0, none⟩ = some (.map (some n.nx)) := (hTW.th.nb n HN.out.1).cell 0
      have d8 : w7.drew.cell? ⟨gr, off, none⟩ = some (.string (bs lv0)) := by
        obtain ⟨g5, o5, e5, _, hc5⟩ := hA8 (by simp)
        cases e5
        have d5 := hc5 0 (by simp)
        rwa [Nat.add_zero] at d5
      have HX8 := Lib.hid (And.intro c8 d8)
      have b8 : w7.cell? ⟨gr, off, none⟩ = some (.string (bs lv0)) := d8
      clear hN8 hl8 hTW hA8
      go_upto_region 8 with fail
      go_region_held3 (fun W => W.cell? ⟨n.blk, 0, none⟩ = some (.map (some n.nx)) ∧ W.cell? ⟨gr, off, none⟩ = some (.string (bs lv0)))
        (first | done | with_reducible assumption | exact HX8.out | exact hk8)
        (first
          | (go_at_call 35; (refine (HC8.out _ _ ?_ ?_).mono ?_); (first | exact fun _ => rfl | exact fun h0 => absurd h0 (by have := HK.out; omega)); omega; rintro e w8 ⟨⟨rfl, hk8⟩, hj8⟩))
      have HE := Lib.hid hj8
      clear hj8 hk8 HC8 hlk8 c8 d8 HX8 HJ
      go_wp2_with fail
      exact bodyPost_end (v := .tuple #[]) (by simp [results, Tryd.f35, go_sem]) rfl HE.out
    · have HJ : Hid (MvJ w0 V V l R (endsAt T ([35] :: p)) v []) := Lib.hid (by rw [endsAt_none hno]; exact MvJ.start HL.out)
      clear hno
      go_enter Tryd.func35, Tryd.ntmps35
      obtain ⟨o7, hN7, hl7⟩ := nlook_any HN.out.1 [43] (by unfold maxLen; decide)
      rw [HN.out.2] at hN7
      have hTW := HH.out.fr (X := []) (Fr.of_below (HJ.out.ls.bel.trans ((show Below V.heap.size V V.drew from bvn18 V 1).mono HJ.out.ls.bel.size))) (fun b hb => by cases hb)
      have hlk7 : (Instr.lookup 58 (.map (some n.nx)) (.string ⟨#[43]⟩) false).run Tryd.prog V.drew = .ok o7 V.drew := hl7 V.drew hTW.th
      have HC7 : Hid (∀ A' c', (0 < L.length → A' = some ⟨gr, off + 1, none⟩) → 0 ≤ c' → Calls Tryd.prog 35 #[o7, .slice A' 0 c', .bool true, .func (.func 26) #[.pointer (some ⟨l, 0, none⟩)] #[]] V.drew fun x W => (x = .returned (.tuple #[]) ∧ W.cell? ⟨n.blk, 0, none⟩ = some (.map (some n.nx))) ∧ ∃ v' R', MvJ w0 V W l R (endsAt T ([35] :: p) ++ visE T ([43] :: p) L true) v' R') := Lib.hid fun A' c' hA' hc' =>
        (HI.out ([43] :: p) true o7 V.drew _ _ A' c' hN7 (HJ.out.ls.below (show Below V.heap.size V V.drew from bvn18 V 1)) (((HA.out.kp HJ.out.kp HL.out.blk (by decide)).below (show Below V.heap.size V V.drew from bvn18 V 1)).tail hA') hc' (by
          have h1 := HF.out
          rw [visE_cons, if_pos rfl, if_pos rfl, List.length_append, List.length_append] at h1
          rw [HJ.out.len]
          omega)).mono fun x Wz ht => by
            obtain ⟨hx, v', R', hj⟩ := (HJ.out.drewN (show Below V.heap.size V V.drew from bvn18 V 1)).step ht
            exact ⟨⟨hx, ((HH.out.fr (X := []) (Fr.of_below hj.ls.bel) (fun b hb => by cases hb)).th.nb n HN.out.1).cell 0⟩, v', R', hj⟩
      have c7 : V.drew.cell? ⟨n.blk, 0, none⟩ = some (.map (some n.nx)) := (hTW.th.nb n HN.out.1).cell 0
      have HX7 := Lib.hid c7
      clear hN7 hl7 hTW
      go_upto_region 7 with fail
      go_region_held3 (fun W => W.cell? ⟨n.blk, 0, none⟩ = some (.map (some n.nx)))
        (first | done | with_reducible assumption | exact HX7.out)
        (first
          | (go_at_call 35; (refine (HC7.out _ _ ?_ ?_).mono ?_); (first | exact fun _ => rfl | exact fun h0 => absurd h0 (by have := HK.out; omega)); omega; rintro e w7 ⟨⟨rfl, hk7⟩, hj7⟩))
      obtain ⟨v7, R7, hj7⟩ := hj7
      have HJ := Lib.hid hj7
      have c0 : w7.cell? ⟨n.blk, 0, none⟩ = some (.map (some n.nx)) := hk7
      clear hj7 hk7 HC7 hlk7 c7 HX7
      obtain ⟨o8, hN8, hl8⟩ := nlook_any HN.out.1 lv0 HLM.out
      rw [HN.out.2] at hN8
      have hTW := HH.out.fr (X := []) (Fr.of_below (HJ.out.ls.bel.trans ((show Below w7.heap.size w7 w7.drew from bvn18 w7 1).mono HJ.out.ls.bel.size))) (fun b hb => by cases hb)
      have hlk8 : (Instr.lookup 58 (.map (some n.nx)) (.string (bs lv0)) false).run Tryd.prog w7.drew = .ok o8 w7.drew := hl8 w7.drew hTW.th
      have hA8 := (HA.out.kp HJ.out.kp HL.out.blk (by decide)).below (show Below w7.heap.size w7 w7.drew from bvn18 w7 1)
      have HC8 : Hid (∀ A' c', (0 < L.length → A' = some ⟨gr, off + 1, none⟩) → 0 ≤ c' → Calls Tryd.prog 35 #[o8, .slice A' 0 c', .bool true, .func (.func 26) #[.pointer (some ⟨l, 0, none⟩)] #[]] w7.drew fun x W => (x = .returned (.tuple #[]) ∧ W.cell? ⟨n.blk, 0, none⟩ = some (.map (some n.nx)) ∧ W.cell? ⟨gr, off, none⟩ = some (.string (bs lv0))) ∧ TakeSays w0 V l R (visE T p (lv0 :: L) true) (.returned (.tuple #[])) W) := Lib.hid fun A' c' hA' hc' =>
        (HI.out (lv0 :: p) true o8 w7.drew _ _ A' c' hN8 (HJ.out.ls.below (show Below w7.heap.size w7 w7.drew from bvn18 w7 1)) (hA8.tail hA') hc' (by
          have h1 := HF.out
          rw [visE_cons, if_pos rfl, if_pos rfl, List.length_append, List.length_append] at h1
          rw [HJ.out.len]
          rw [List.length_append]
          omega)).mono fun x Wz ht => by
            obtain ⟨hx, v', R', hj⟩ := (HJ.out.drewN (show Below w7.heap.size w7 w7.drew from bvn18 w7 1)).step ht
            obtain ⟨g5, o5, e5, _, hc5⟩ := (HA.out.kp hj.kp HL.out.blk (by decide)) (by simp)
            cases e5
            have d5 := hc5 0 (by simp)
            rw [Nat.add_zero] at d5
            exact ⟨⟨hx, ((HH.out.fr (X := []) (Fr.of_below hj.ls.bel) (fun b hb => by cases hb)).th.nb n HN.out.1).cell 0, d5⟩, hj.fin (by rw [visE_cons]; rw [if_pos rfl, if_pos rfl, List.append_assoc])⟩
      have c8 : w7.drew.cell? ⟨n.blk, 0, none⟩ = some (.map (some n.nx)) := (hTW.th.nb n HN.out.1).cell 0
      have d8 : w7.drew.cell? ⟨gr, off, none⟩ = some (.string (bs lv0)) := by
        obtain ⟨g5, o5, e5, _, hc5⟩ := hA8 (by simp)
        cases e5
        have d5 := hc5 0 (by simp)
        rwa [Nat.add_zero] at d5
      have HX8 := Lib.hid (And.intro c8 d8)
      have b8 : w7.cell? ⟨gr, off, none⟩ = some (.string (bs lv0)) := d8
      clear hN8 hl8 hTW hA8
      go_upto_region 8 with fail
      go_region_held3 (fun W => W.cell? ⟨n.blk, 0, none⟩ = some (.map (some n.nx)) ∧ W.cell? ⟨gr, off, none⟩ = some (.string (bs lv0)))
        (first | done | with_reducible assumption | exact HX8.out | exact hk8)
        (first
          | (go_at_call 35; (refine (HC8.out _ _ ?_ ?_).mono ?_); (first | exact fun _ => rfl | exact fun h0 => absurd h0 (by have := HK.out; omega)); omega; rintro e w8 ⟨⟨rfl, hk8⟩, hj8⟩))
      have HE := Lib.hid hj8
      clear hj8 hk8 HC8 hlk8 c8 d8 HX8 HJ
      go_wp2_with fail
      exact bodyPost_end (v := .tuple #[]) (by simp [results, Tryd.f35, go_sem]) rfl HE.out
end
end Go.Proofs.YtebaojbagogniaaDoor
namespace Go.Proofs.YtebaojbagogniaaDoor
open Go.RowKit Go.Extern.Stop Go.Stop Go.Extern Go.Maps Go.Deep
set_option maxRecDepth 100000
theorem mt_all {w0 : World} {g r l : Nat} {T : NL} (h : TrI w0 g T r) : ∀ L : List BL, (∀ x ∈ L, x.length ≤ maxLen) → L.length ≤ 1000 → MtchC w0 l T L
  | [], _, _ => fun p s o V v R A c hNd hL hA hc hf => by
    rcases hNd with ⟨m, hm, hr, rfl⟩ | ⟨hno, rfl⟩
    · exact mt_nil h hm hr hL hf
    · exact mt_none h hno hL _
  | x :: L, hx, hl => fun p s o V v R A c hNd hL hA hc hf => by
    rw [List.length_cons] at hl hc ⊢
    have ih := mt_all (l := l) h L (fun y hy => hx y (List.mem_cons_of_mem _ hy)) (by omega)
    rcases hNd with ⟨m, hm, hr, rfl⟩ | ⟨hno, rfl⟩
    · obtain ⟨gr, off, rfl, _⟩ := hA (by simp)
      rcases Nat.lt_or_ge 1 c with hc2 | hc2
      · exact mt_cons2 h hm hr hL hA rfl (by omega) hc hc2 (hx x (List.mem_cons_self ..)) ih hf
      · have hL0 : L.length = 0 := by omega
        obtain rfl : c = 1 := by omega
        rw [hL0]
        exact mt_cons1 h hm hr hL hA hL0.symm (hx x (List.mem_cons_self ..)) ih hf
    · exact mt_none h hno hL _
theorem spl_bytes : ∀ {l : BL} {x : BL}, x ∈ spl l → ∀ b ∈ x, b ∈ l
  | [], x, hx, b, hb => by
    rw [spl, List.mem_singleton] at hx
    rw [hx] at hb
    cases hb
  | c :: l, x, hx, b, hb => by
    rw [spl] at hx
    by_cases hc : c = 47
    · rw [if_pos hc] at hx
      rcases List.mem_cons.1 hx with rfl | hx
      · cases hb
      · exact List.mem_cons_of_mem _ (spl_bytes hx b hb)
    · rw [if_neg hc] at hx
      cases hs : spl l with
      | nil => exact absurd hs (spl_ne l)
      | cons h t =>
        rw [hs] at hx
        rcases List.mem_cons.1 hx with rfl | hx
        · rcases List.mem_cons.1 hb with rfl | hb
          · exact List.mem_cons_self ..
          · exact List.mem_cons_of_mem _ (spl_bytes (by rw [hs]; exact List.mem_cons_self ..) b hb)
        · exact List.mem_cons_of_mem _ (spl_bytes (by rw [hs]; exact List.mem_cons_of_mem _ hx) b hb)
theorem name_levels {s : ByteArray} (h : nameB s = true) : [35] ∉ spl (ls s) ∧ [43] ∉ spl (ls s) := by
  unfold nameB at h
  rw [Bool.and_eq_true, Bool.not_eq_true'] at h
  have h2 := h.2
  unfold signB hasB at h2
  rw [Bool.or_eq_false_iff] at h2
  refine ⟨fun hm => ?_, fun hm => ?_⟩
  · have := spl_bytes hm 35 (List.mem_singleton_self _)
    rw [List.contains_iff_mem.2 this] at h2
    cases h2.2
  · have := spl_bytes hm 43 (List.mem_singleton_self _)
    rw [List.contains_iff_mem.2 this] at h2
    cases h2.1
def matchE (T : NL) (s : ByteArray) : List EV := if nameB s then visE T [] (spl (ls s)) (matchB ⟨#[35]⟩ s) else []
set_option maxHeartbeats 8000000 in
theorem tmatch_any {w : World} {g r : Nat} {T : NL} {S : Nat → Addr} (h : TrS w g T r) (s : ByteArray) (hs : s.size ≤ 200) (he : EnvT w S) (hE : (ents T).length ≤ 900) :
    Calls Tryd.prog 18 #[.pointer (some ⟨g, 0, none⟩), .string s] w (SrtSays w (matchE T s)) := by
  have HI := Lib.hid (isnone_no h.i)
  have HN := Lib.hid (isName_any s (by omega) he)
  have HS := Lib.hid h
  have HEV := Lib.hid he
  have HSZ := Lib.hid (And.intro hs hE)
  clear h he hs hE
  go_enter Tryd.func18, Tryd.ntmps18
  go_wp2_with fail
  refine HI.out.mono ?_
  rintro x W ⟨rfl, rfl⟩
  go_wp2_with fail
  refine HN.out.mono ?_
  rintro x W1 ⟨rfl, hb⟩
  have HB1 := Lib.hid hb
  clear hb HI HN
  cases hnb : nameB s with
  | false =>
    have HX := Lib.hid (show SrtSays w (matchE T s) (.returned (.slice none 0 0)) W1 from ⟨_, [], rfl, World.ownsRow_nil _ _ _ _, by unfold matchE; rw [hnb]; exact List.Perm.refl _, List.Pairwise.nil, HB1.out⟩)
    clear hnb
    go_wp2_with fail
    go_ret
    exact HX.out
  | true =>
    have HNB := Lib.hid hnb
    have hb2 : Below W1.heap.size W1 (W1.alloc (.cells #[.slice none 0 0] 51)) := (Below.refl _ W1).alloc (Nat.le_refl _) _
    have HM := Lib.hid (match_any (w := W1.alloc (.cells #[.slice none 0 0] 51)) ⟨#[35]⟩ s (by decide) (by have := HSZ.out.1; omega) (HEV.out.later (HB1.out.trans (hb2.mono HB1.out.size))))
    have HL0 := Lib.hid (LsI.start W1)
    have HT1 := Lib.hid (HS.out.below HB1.out)
    clear hnb hb2
    go_wp2_with fail
    refine HM.out.mono ?_
    rintro x W2 ⟨rfl, hb⟩
    have HL2 := Lib.hid (HL0.out.below hb)
    clear hb HM HL0
    generalize W1.heap.size = l at *
    obtain ⟨sg, hsg⟩ : ∃ sg, sg = matchB ⟨#[35]⟩ s := ⟨_, rfl⟩
    have HSG := Lib.hid hsg
    rw [← hsg]
    clear hsg
    obtain ⟨nl, hnl⟩ : ∃ nl, nl = (spl (ls s)).length := ⟨_, rfl⟩
    have HNL := Lib.hid hnl
    have HLV : Hid (Calls Tryd.prog 32 #[.string s] W2.drew fun x W' => ∃ a c, x = .returned (.slice a nl c) ∧ W'.cell? ⟨g, 0, none⟩ = some (.pointer (some ⟨r, 0, none⟩)) ∧ Calls Tryd.prog 35 #[.pointer (some ⟨r, 0, none⟩), .slice a nl c, .bool sg, .func (.func 26) #[.pointer (some ⟨l, 0, none⟩)] #[]] W' fun x W => x = .returned (.tuple #[]) ∧ W.cell? ⟨g, 0, none⟩ = some (.pointer (some ⟨r, 0, none⟩)) ∧ ∃ v' R', LsI W1 W l v' R' ∧ R'.Perm (visE T [] (spl (ls s)) sg)) := Lib.hid ((levels_any (w := W2.drew) s (by have := HSZ.out.1; omega)).mono fun x W' ⟨v, hx, hr, hb2⟩ => by
        obtain ⟨a, c, rfl⟩ := hr.form
        obtain ⟨n, hn, hnp, hnb⟩ := HT1.out.i.rt
        have hL3 := (HL2.out.below (show Below W2.heap.size W2 W2.drew from bvn18 W2 1)).below hb2
        have hle := visE_le HT1.out.i.tc (p := []) (s := sg) (name_levels HNB.out).1 (name_levels HNB.out).2
        have := mt_all (l := l) HT1.out.i (spl (ls s)) (fun x hx => by
          have := spl_le hx
          rw [ls_size] at this
          have h2 := HSZ.out.1
          unfold maxLen
          omega) (by have := spl_few HSZ.out.1; omega) [] sg (.pointer (some ⟨r, 0, none⟩)) W' _ [] a c (.inl ⟨n, hn, hnp, by rw [hnb]⟩) hL3 (LRd.of hr) (texts_cap hr) (by have := HSZ.out.2; simp only [List.length_nil]; omega)
        rw [← hnl] at this
        refine ⟨a, c, by rw [hx, ← hnl], (HT1.out.below hL3.bel).i.blk.cell 0, this.mono fun x W ⟨h1, v', R', h2, h3, _⟩ => ⟨h1, (HT1.out.below h3.bel).i.blk.cell 0, v', R', by simpa using h3, h2⟩⟩)
    have hl1 : nl ≤ 201 := by rw [hnl]; exact spl_few HSZ.out.1
    have c0 : W2.cell? ⟨g, 0, none⟩ = some (.pointer (some ⟨r, 0, none⟩)) := (HT1.out.below HL2.out.bel).i.blk.cell 0
    have c1 : W2.drew.cell? ⟨g, 0, none⟩ = some (.pointer (some ⟨r, 0, none⟩)) := c0
    have HC1 := Lib.hid c1
    clear hnl
    go_upto_region 5 with fail
    go_region_held3 (fun W => W.cell? ⟨g, 0, none⟩ = some (.pointer (some ⟨r, 0, none⟩)))
      (first | done | with_reducible assumption | exact HC1.out)
      (first
        | (go_at_call 32; (refine HLV.out.mono ?_); rintro e w7 ⟨a7, c7, rfl, hk7, hd7⟩)
        | (go_at_call 35; (refine hd7.mono ?_); rintro e w8 ⟨rfl, hk8, hj8⟩))
    all_goals
      obtain ⟨v8, R8, hL8, hP8⟩ := hj8
      have HP8 := Lib.hid hP8
      have HC := Lib.hid (sorted_any hL8 (by
        rw [hP8.length_eq]
        exact Nat.le_trans (visE_le HS.out.i.tc (name_levels HNB.out).1 (name_levels HNB.out).2) HSZ.out.2))
      clear hL8 hP8 hk8 hk7 hd7 HLV c0 c1 HC1
      go_wp2_with fail
      refine HC.out.mono ?_
      rintro x W9 ⟨v2, d, rfl, h1, h2, h3, h4⟩
      have HX := Lib.hid (show SrtSays w (matchE T s) (.returned v2) W9 from ⟨v2, d, rfl, h1.mono HB1.out.size, by unfold matchE; rw [if_pos HNB.out, ← HSG.out]; exact h2.trans HP8.out, h3, HB1.out.trans (h4.mono HB1.out.size)⟩)
      clear h1 h2 h3 h4
      go_wp2_with fail
      go_ret
      exact HX.out
end Go.Proofs.YtebaojbagogniaaDoor

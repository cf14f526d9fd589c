/- What is proved here: what records come to (the program's Replay). Conditions: up to 20 records of few bytes; what the rows list of the package's variables. -/
import Derived.Test.YtnolnhpmpjgnaaaGreatDoorRps34
namespace Go.Proofs.YtnolnhpmpjgnaaaGreatDoor
set_option maxRecDepth 100000
open Go.RowKit Go.Extern.Stop Go.Stop Go.Extern Go.Maps
theorem tyK : Ty Tryz.prog 76 #[.string ⟨#[]⟩, .int .i64 0] := ty_mk (n := 2) (by kernel_rfl) rfl Tryz.underlying76 rfl (by kernel_rfl) rfl
theorem rp_len (l : List ByteArray) : (rpF l).all.length ≤ l.length ∧ (rpF l).pr.length ≤ l.length := by
  induction l using snoc_ind with
  | nil => exact ⟨Nat.zero_le _, Nat.zero_le _⟩
  | snoc l b ih =>
    rw [rpF_snoc, List.length_append, List.length_singleton]
    generalize rpF l = s at ih ⊢
    unfold rpStep
    have hd : (dlP (kyO (tkF b).o) s.pr).length ≤ s.pr.length := List.length_filter_le _ _
    generalize dlP (kyO (tkF b).o) s.pr = d at hd ⊢
    split
    · split
      · split
        · simp only [List.length_append, List.length_cons, List.length_nil]
          omega
        · simp only; omega
      · simp only; omega
    · omega
theorem take_next {l : List ByteArray} {k : Nat} (hk : k < l.length) : l.take (k + 1) = l.take k ++ [l.getD k e0] := by
  rw [List.take_add_one, List.getD_eq_getElem?_getD, List.getElem?_eq_getElem hk]
  rfl
theorem lf_take (pr : List (Ky × Nat)) (Q : QL) {j : Nat} (hj : j < Q.length) : lfP pr 0 ((Q.map QV.m).take (j + 1)) = lfP pr 0 ((Q.map QV.m).take j) ++ (if lkP (kyM (Q.getD j q0).m) pr = some j then [(Q.getD j q0).m] else []) := by
  have e : (Q.map QV.m).take (j + 1) = (Q.map QV.m).take j ++ [(Q.getD j q0).m] := by
    rw [List.take_add_one, List.getElem?_map, List.getD_eq_getElem?_getD, List.getElem?_eq_getElem hj]
    rfl
  rw [e, lf_snoc, List.length_take, List.length_map, show 0 + min j Q.length = j by omega]
theorem getD_memQ {Q : QL} {k : Nat} (hk : k < Q.length) : Q.getD k q0 ∈ Q := by
  rw [List.getD_eq_getElem?_getD, List.getElem?_eq_getElem hk]
  exact List.getElem_mem hk
theorem mrow_base {w : World} {B B' : Nat} {v : Value} {L : QL} (h : MRow w B' v L) (hB : B ≤ B') : MRow w B v L := by
  obtain ⟨h1, h2⟩ := h
  refine ⟨h1, ?_⟩
  rcases h2 with h2 | ⟨gr, cap, cur, e, hb, h3⟩
  · exact .inl h2
  · exact .inr ⟨gr, cap, cur, e, Nat.le_trans hB hb, h3⟩
def QOk (w : World) (q : QV) : Prop := PIn w 0 q.pa q.m.props ∧ q.m.props.length ≤ q.pc ∧ q.m.props.length ≤ 1000 ∧ 0 ≤ q.m.seq ∧ q.m.seq < 4294967296 ∧ q.m.grp.size ≤ 1000
def RplSays (w : World) (R : List MV) (last : Int) (x : Ending) (w' : World) : Prop :=
  ∃ A c Q, x = .returned (.tuple #[.slice A Q.length c, .int .i64 last]) ∧ Q.map QV.m = R ∧ MRow w' w.heap.size (.slice A Q.length c) Q ∧ (∀ q ∈ Q, QOk w' q) ∧ Below w.heap.size w w'
set_option maxHeartbeats 8000000 in
theorem replay_any {w : World} {S : Nat → Addr} (hE : Env w S) (L : List ByteArray) (A : Option Addr) (n c : Nat) (hn : n = L.length) (h : SRd w A L) (hs : ∀ k, k < L.length → (L.getD k e0).size ≤ 900) (hl : n ≤ 20) :
    Calls Tryz.prog 12 #[.slice A n c] w (RplSays w (lfP (rpF L).pr 0 (rpF L).all) (rpF L).last) := by
  have HE := Lib.hid hE
  have HS := Lib.hid h
  have HZ := Lib.hid hs
  have HN := Lib.hid hn
  have hmade : RpI w (w.alloc (.map #[] 0)) w.heap.size (.slice none 0 0) [] [] := ⟨(Below.refl _ _).alloc (Nat.le_refl _) _, AMap.made w _ _ _ _, Nat.le_refl _, ⟨rfl, .inl ⟨rfl, rfl⟩⟩, fun q hq => by cases hq⟩
  have HM := Lib.hid hmade
  have HQL := Lib.hid (fun (Q : QL) (hQ : Q.map QV.m = (rpF L).all) => show Q.length ≤ 20 by
    have h1 := (rp_len L).1
    rw [← hQ, List.length_map] at h1
    omega)
  clear hE h hs hn hmade
  have hmm := @run_makeMap Tryz.prog
  go_enter Tryz.func12, Tryz.ntmps12
  go_wp2_with fail
  clear hmm
  go_loopw [4, 6, 22] (fun x y z wr => ∃ k : Nat, ∃ Q : QL, ∃ v : Value, k ≤ n ∧ z = .int .i64 k ∧ x = v ∧ y = .int .i64 (rpF (L.take k)).last ∧ Q.map QV.m = (rpF (L.take k)).all ∧ RpI w wr w.heap.size v Q (rpF (L.take k)).pr) (fun _ _ z _ => n - (intOf z).toNat)
  case atStart => exact ⟨0, [], .slice none 0 0, Nat.zero_le _, rfl, rfl, rfl, rfl, HM.out⟩
  case round =>
    obtain ⟨k, Q, v, hk, rfl, rfl, rfl, hQ, hI⟩ := hrel
    by_cases hlt : k < n
    · have hkL : k < L.length := by have := HN.out; omega
      obtain ⟨g, off, rfl, hc⟩ := HS.out (by omega)
      have hcell := (hI.bel.cell (p := ⟨g, off + k, none⟩) (lt_of_cell (hc k hkL))).trans (hc k hkL)
      have hsz := HZ.out k hkL
      have hnext := rpF_snoc (L.take k) (L.getD k e0)
      rw [← take_next hkL] at hnext
      generalize L.getD k e0 = s at hcell hsz hnext
      have htk := take34_any (s := s) (HE.out.later hI.bel) (by omega)
      have hsm := tk_small (s := s)
      have hky := tk_key (b := s)
      unfold rpStep at hnext
      have hlen := rp_len (L.take k)
      have hQl : Q.length = (rpF (L.take k)).all.length := by rw [← hQ, List.length_map]
      rw [List.length_take] at hlen
      generalize rpF (L.take k) = st at hQ hI hnext hlen hQl ⊢
      generalize tkF s = T at htk hnext hsm hky
      have HI := Lib.hid hI
      have HT := Lib.hid htk
      have HNX := Lib.hid hnext
      have HSM := Lib.hid hsm
      have HKY := Lib.hid hky
      have HQ := Lib.hid hQ
      have HLN := Lib.hid (show Q.length ≤ 20 ∧ st.pr.length ≤ 20 ∧ Q.length = st.all.length by omega)
      have HSZ := Lib.hid hsz
      clear hI htk hnext hsm hky hc hQ hlen hQl hkL hsz
      obtain ⟨av, cv, rfl⟩ := HI.out.row.form
      have hlt' : (k : Int) < (n : Int) := by omega
      go_upto_region 7 with fail
      go_wp2_with fail
      refine HT.out.mono ?_
      rintro x W1 ⟨Ap, cp, e, rfl, hP, hcap, he, hb⟩
      have hI := HI.out.below hb
      have HO := Lib.hid (Own.start [] W1)
      clear HI hb HT hcell
      have HI := Lib.hid hI
      have HP := Lib.hid hP
      have HCAP := Lib.hid hcap
      clear hI hP hcap
      unfold OV.agg
      obtain ⟨no, r, at_, ⟨kd, gr, sq, m⟩⟩ := T
      simp only at he HP HCAP HSM HKY HNX ⊢
      obtain ⟨m1, m2, m3, m4, m5, m6, m7, m8, m9⟩ := m
      simp only at he HP HCAP HSM HKY HNX ⊢
      obtain ⟨np, hnp⟩ : ∃ np, np = m5.length := ⟨_, rfl⟩
      rw [← hnp]
      have HNP := Lib.hid hnp
      clear hnp
      have HER := Lib.hid he
      by_cases h0 : no = 0
      case neg =>
        obtain ⟨te, ue, rfl⟩ := err_iface he h0
        have HX := Lib.hid (show rpF (L.take (k + 1)) = st by rw [HNX.out, if_neg h0])
        clear he h0 HER HNX HKY HSM HP HCAP
        go_wp2_with (first | (refine wpo_alloc tyO HO.out rfl rfl ?_; clear HO; rintro k9 W2 hO; have HO := Lib.hid hO; clear hO; simp only [Act.put, List.setIfInBounds_toArray, List.set_cons_zero, List.set_cons_succ]) | (refine wpo_store (k := k9) HO.out 0 tyO rfl _ _ rfl rfl rfl rfl rfl rfl rfl ?_; clear HO; rintro W3 hO; have HO := Lib.hid hO; clear hO; simp only [Act.put]))
        have HI2 := Lib.hid (HI.out.below HO.out.bel)
        clear HO HI
        go_roundw
        case rel => exact ⟨k + 1, Q, _, hlt, by go_num, rfl, by rw [HX.out], by rw [HX.out]; exact HQ.out, by rw [HX.out]; exact HI2.out⟩
        case measure => simp [intOf]; omega
      case pos =>
        unfold ErrOf at he
        rw [if_pos h0] at he
        subst he
        have hnx := HNX.out
        rw [if_pos h0] at hnx
        obtain ⟨s1, s2, s3, s4⟩ := HSM.out h0
        have HKY2 := Lib.hid (HKY.out h0)
        have HNX2 := Lib.hid hnx
        have HSM2 := Lib.hid (show 0 ≤ sq ∧ sq < 4294967296 ∧ gr.size ≤ 1000 ∧ m5.length ≤ 1000 by have := HSZ.out; omega)
        clear hnx s1 s2 s3 s4 HSM HKY HNX HER h0
        go_upto_region 9 with (first | (refine wpo_alloc tyO HO.out rfl rfl ?_; clear HO; rintro k9 W2 hO; have HO := Lib.hid hO; clear hO; simp only [Act.put, List.setIfInBounds_toArray, List.set_cons_zero, List.set_cons_succ]) | (refine wpo_store (k := k9) HO.out 0 tyO rfl _ _ rfl rfl rfl rfl rfl rfl rfl ?_; clear HO; rintro W3 hO; have HO := Lib.hid hO; clear hO; simp only [Act.put]))
        have f0 : W3.cell? ⟨k9, 0, none⟩ = some (.int .i64 kd) := (HO.out.get 0 rfl).cell 0
        have f1 : W3.cell? ⟨k9, 1, none⟩ = some (.string gr) := (HO.out.get 0 rfl).cell 1
        have f2 : W3.cell? ⟨k9, 2, none⟩ = some (.int .i64 sq) := (HO.out.get 0 rfl).cell 2
        go_upto_region 11 with (first | (refine wpo_alloc tyK HO.out rfl rfl ?_; clear HO; rintro k11 W4 hO; have HO := Lib.hid hO; clear hO; simp only [Act.put, List.setIfInBounds_toArray, List.set_cons_zero, List.set_cons_succ]) | (refine wpo_built (l := [(0, .string gr), (1, .int .i64 sq)]) (c := #[.string gr, .int .i64 sq]) rfl rfl rfl rfl ?_) | (refine wpo_store (k := k11) HO.out 0 tyK rfl _ _ rfl rfl rfl rfl rfl rfl rfl ?_; clear HO; rintro W5 hO; have HO := Lib.hid hO; clear hO; simp only [Act.put]))
        obtain ⟨ml, hml⟩ : ∃ ml, ml = max st.last sq := ⟨_, rfl⟩
        have emx : (if st.last < sq then sq else st.last) = ml := by rw [hml]; split <;> omega
        rw [emx]
        have hnx := HNX2.out
        rw [← hml] at hnx
        clear emx hml f0 f1 f2 HNX2
        obtain ⟨hq1, hq2, hq3, hq4⟩ := HSM2.out
        have hkv : kyE.kv (kyO ⟨kd, gr, sq, ⟨m1, m2, m3, m4, m5, m6, m7, m8, m9⟩⟩) = .agg #[.string gr, .int .i64 sq] := kv_o _ hq1 hq2
        have hkg : (kyO ⟨kd, gr, sq, ⟨m1, m2, m3, m4, m5, m6, m7, m8, m9⟩⟩).1.size ≤ maxLen := by show gr.size ≤ maxLen; unfold maxLen; omega
        generalize kyO ⟨kd, gr, sq, ⟨m1, m2, m3, m4, m5, m6, m7, m8, m9⟩⟩ = key at hkv hkg hnx HKY2
        have hI5 := HI.out.below HO.out.bel
        have hP5 := HP.out.below HO.out.bel
        have f0 : W5.cell? ⟨k9, 0, none⟩ = some (.int .i64 kd) := (HO.out.get 1 rfl).cell 0
        have hB9 := HO.out.get 1 rfl
        have hB11 := HO.out.get 0 rfl
        obtain ⟨u, bb, hlk, hbb⟩ : ∃ u : Int, ∃ bb : Bool, (Instr.lookup 74 (.map (some w.heap.size)) (.agg #[.string gr, .int .i64 sq]) true).run Tryz.prog W5 = .ok (.tuple #[.int .i64 u, .bool bb]) W5 ∧ (bb = false ↔ lkP key st.pr = none) := by
          cases hl2 : lkP key st.pr with
          | none => exact ⟨0, false, by rw [← hkv]; exact hI5.miss hkg hl2, by simp⟩
          | some j => exact ⟨j, true, by rw [← hkv]; exact hI5.hit hl2, by simp⟩
        have HLK := Lib.hid hlk
        by_cases hkd : kd = 1
        case neg =>
          rw [if_neg hkd] at hnx
          obtain ⟨W6, hdel, hI6, hF6⟩ := hI5.del hkg
          rw [hkv] at hdel
          have HX := Lib.hid hnx
          have HO5 := Lib.hid HO.out
          have HI6 := Lib.hid hI6
          clear hnx hI5 hP5 hB9 hB11 hbb hI6 hF6 HI HP HO hkv hkg HKY2 HSM2 hq1 hq2 hq3 hq4 HLK HCAP HNP
          go_wp2_with (first | (refine wpo_load HO5.out 0 tyK rfl rfl _ rfl rfl rfl ?_))
          clear hlk hdel HO5 f0
          go_roundw
          case rel => exact ⟨k + 1, Q, _, hlt, by go_num, rfl, by rw [HX.out], by rw [HX.out]; exact HQ.out, by rw [HX.out]; exact HI6.out⟩
          case measure => simp [intOf]; omega
        case pos =>
          rw [if_pos hkd] at hnx
          subst hkd
          cases bb
          case true =>
            have hln : ¬ lkP key st.pr = none := fun h => by have := hbb.2 h; cases this
            rw [if_neg hln] at hnx
            have HX := Lib.hid hnx
            have HO5 := Lib.hid HO.out
            have HI6 := Lib.hid hI5
            clear hnx hI5 hP5 hB9 hB11 hbb HI HP HO hkv hkg HKY2 HSM2 hq1 hq2 hq3 hq4 HLK HCAP HNP hln
            go_wp2_with (first | (refine wpo_load HO5.out 0 tyK rfl rfl _ rfl rfl rfl ?_))
            clear hlk HO5 f0
            go_roundw
            case rel => exact ⟨k + 1, Q, _, hlt, by go_num, rfl, by rw [HX.out], by rw [HX.out]; exact HQ.out, by rw [HX.out]; exact HI6.out⟩
            case measure => simp [intOf]; omega
          case false =>
            rw [if_pos (hbb.1 rfl)] at hnx
            have HX := Lib.hid hnx
            have HO5 := Lib.hid HO.out
            obtain ⟨W6, hput, hI6, hF6⟩ := hI5.put hkg (by have := HLN.out; omega) Q.length
            rw [hkv] at hput
            have hk3 := (HKY2.out rfl).2
            have hB96 := hI5.blk hF6 hB9
            have hB11' := hI5.blk hF6 hB11
            have hP6 := pin_map hI5.map hF6 hP5
            have hal : Below W6.heap.size W6 (W6.alloc (.cells #[.string m1, .string m2, .int .i64 m3, .bool m4, .slice Ap np cp, .string m6, .int .i64 m7, .int .i64 m8, .string m9] 25)) := (Below.refl _ _).alloc (Nat.le_refl _) _
            have HI7 := Lib.hid (hI6.below hal)
            have HP7 := Lib.hid (hP6.below hal)
            have HB9 := Lib.hid hB96
            have HNW := Lib.hid (fun i (hi : i < 9) => (news_m W6 #[.string m1, .string m2, .int .i64 m3, .bool m4, .slice Ap np cp, .string m6, .int .i64 m7, .int .i64 m8, .string m9] i hi).trans (show _ = (QV.cells ⟨⟨m1, m2, m3, m4, m5, m6, m7, m8, m9⟩, Ap, cp⟩)[i]? by rw [HNP.out]; simp [QV.cells]))
            have HQO := Lib.hid (show m5.length ≤ cp ∧ m5.length ≤ 1000 ∧ 0 ≤ m8 ∧ m8 < 4294967296 ∧ m9.size ≤ 1000 by
              refine ⟨HCAP.out, hq4, ?_, ?_, ?_⟩
              · rw [hk3.2]; exact hq1
              · rw [hk3.2]; exact hq2
              · rw [hk3.1]; exact hq3)
            clear hnx hI5 hP5 hB9 hB11 hbb HI HP HO hkv hkg HKY2 HSM2 hq1 hq2 hq3 hq4 HLK HCAP hI6 hF6 hk3 hB96 hB11' hP6 hal
            go_upto_region 16 with (first | (refine wpo_load HO5.out 0 tyK rfl rfl _ rfl rfl rfl ?_))
            clear hlk hput HO5 f0
            go_wp2_with (first
              | (refine wpo_ldm tyM HB9.out 3 (c := #[.string m1, .string m2, .int .i64 m3, .bool m4, .slice Ap np cp, .string m6, .int .i64 m7, .int .i64 m8, .string m9]) rfl (by intro j hj; have hj : j < 9 := hj; match j, hj with | 0, _ => rfl | 1, _ => rfl | 2, _ => rfl | 3, _ => rfl | 4, _ => rfl | 5, _ => rfl | 6, _ => rfl | 7, _ => rfl | 8, _ => rfl) _ rfl rfl rfl ?_)
              | (refine wpm_slice1 (pc := #[.string m1, .string m2, .int .i64 m3, .bool m4, .slice Ap np cp, .string m6, .int .i64 m7, .int .i64 m8, .string m9]) rfl rfl _ rfl rfl ?_)
              | (refine append_m (w0 := w) rfl _ _ rfl ⟨⟨m1, m2, m3, m4, m5, m6, m7, m8, m9⟩, Ap, cp⟩ HI7.out.bel HI7.out.row rfl (by have := HLN.out; omega) ⟨W6.heap.size, 0, none⟩ 1 rfl HNW.out ?_; intro a' c' w' hrow hbel hfr; have HR := Lib.hid (And.intro hrow (And.intro hbel hfr)); clear hrow hbel hfr; simp only [Act.put, List.setIfInBounds_toArray, List.set_cons_zero, List.set_cons_succ]))
            have HI8 := Lib.hid (HI7.out.pushed (x := ⟨⟨m1, m2, m3, m4, m5, m6, m7, m8, m9⟩, Ap, cp⟩) HR.out.2.2 HR.out.2.1 HR.out.1 ⟨HP7.out, HQO.out⟩)
            clear HR HI7 HP7 HNW HB9 HQO
            go_roundw
            case rel =>
              refine ⟨k + 1, Q ++ [⟨⟨m1, m2, m3, m4, m5, m6, m7, m8, m9⟩, Ap, cp⟩], _, hlt, by go_num, rfl, by rw [HX.out], ?_, ?_⟩
              · rw [HX.out, List.map_append, HQ.out]; rfl
              · rw [HX.out, ← HLN.out.2.2]; exact HI8.out
            case measure => simp [intOf]; omega
    · obtain rfl : k = n := by omega
      have hfull : L.take k = L := by rw [HN.out]; exact List.take_length
      rw [hfull] at hQ hI ⊢
      clear hfull
      obtain ⟨av, cv, rfl⟩ := hI.row.form
      have hlen : Q.length ≤ 20 := HQL.out Q hQ
      obtain ⟨st, hst⟩ : ∃ st, st = rpF L := ⟨_, rfl⟩
      rw [← hst] at hQ hI
      have HST := Lib.hid hst
      have HQ := Lib.hid hQ
      have HI := Lib.hid hI
      have HLN := Lib.hid hlen
      have HMR := Lib.hid ((own_qrow hI.row).mrd)
      clear hQ hI HM HZ HE HS HQL hlen hk hlt hst
      rename World => W0
      go_wp2_with fail
      go_loopw [14, 69] (fun x z wr => ∃ j : Nat, ∃ Q2 : QL, ∃ v2 : Value, j ≤ Q.length ∧ z = .int .i64 j ∧ x = v2 ∧ Q2.map QV.m = lfP st.pr 0 ((Q.map QV.m).take j) ∧ (∀ q ∈ Q2, q ∈ Q) ∧ MRow wr W0.heap.size v2 Q2 ∧ Below W0.heap.size W0 wr ∧ Q2.length ≤ j) (fun _ z _ => Q.length - (intOf z).toNat)
      case atStart => exact ⟨0, [], .slice none 0 0, Nat.zero_le _, rfl, rfl, rfl, (fun q hq => by cases hq), ⟨rfl, .inl ⟨rfl, rfl⟩⟩, Below.refl _ _, Nat.le_refl _⟩
      case round =>
        obtain ⟨j, Q2, v2, hj, rfl, rfl, hQ2, hsub, hrow, hbel, hl2⟩ := hrel
        by_cases hlt : j < Q.length
        · obtain ⟨g, off, rfl, hc⟩ := HMR.out (by omega)
          have hcq := (hc j hlt).at (hbel.block g (lt_of_cell' (hc j hlt).c0))
          have hnx := lf_take st.pr Q hlt
          have hpq := HI.out.pin _ (getD_memQ hlt)
          have hmq := getD_memQ hlt
          rw [← hQ2] at hnx
          generalize Q.getD j q0 = q at hcq hnx hpq hmq
          obtain ⟨⟨m1, m2, m3, m4, m5, m6, m7, m8, m9⟩, Ap, cp⟩ := q
          obtain ⟨hp1, hp2, hp3, hp4, hp5, hp6⟩ := hpq
          simp only at hp1 hp2 hp3 hp4 hp5 hp6
          have hkv : kyE.kv (kyM ⟨m1, m2, m3, m4, m5, m6, m7, m8, m9⟩) = .agg #[.string m9, .int .i64 m8] := kv_m _ hp4 hp5
          have hkg : (kyM ⟨m1, m2, m3, m4, m5, m6, m7, m8, m9⟩).1.size ≤ maxLen := by show m9.size ≤ maxLen; unfold maxLen; omega
          simp only at hnx
          generalize kyM ⟨m1, m2, m3, m4, m5, m6, m7, m8, m9⟩ = key at hkv hkg hnx
          have c0 := hcq.c0
          have c1 := hcq.c1
          have c2 := hcq.c2
          have c3 := hcq.c3
          have c4 := hcq.c4
          have c5 := hcq.c5
          have c6 := hcq.c6
          have c7 := hcq.c7
          have c8 := hcq.c8
          simp only at c0 c1 c2 c3 c4 c5 c6 c7 c8
          obtain ⟨np, hnp⟩ : ∃ np, np = m5.length := ⟨_, rfl⟩
          rw [← hnp] at c4
          have HNP := Lib.hid hnp
          have HQ2 := Lib.hid hQ2
          have HSB := Lib.hid hsub
          have HRW := Lib.hid hrow
          have HBL := Lib.hid hbel
          have HNX := Lib.hid hnx
          have HMQ := Lib.hid hmq
          have HL2 := Lib.hid hl2
          have HKV := Lib.hid (And.intro hkv hkg)
          obtain ⟨a2, e2, rfl⟩ := HRW.out.form
          have HO := Lib.hid (Own.start [] wr)
          have hlt' : (j : Int) < (Q.length : Int) := by omega
          clear hcq hc hnp hQ2 hsub hrow hbel hnx hmq hp1 hp2 hp3 hp4 hp5 hp6 hkv hkg hl2 HMR
          generalize hQn : Q.length = qn at *
          have hqn : qn ≤ 20 := HLN.out
          go_upto_region 22 with (first | (refine wpo_alloc tyM HO.out rfl rfl ?_; clear HO; rintro k16 W2 hO; have HO := Lib.hid hO; clear hO; simp only [Act.put, List.setIfInBounds_toArray, List.set_cons_zero, List.set_cons_succ]) | (refine wpo_store (k := k16) HO.out 0 tyM rfl _ _ rfl rfl rfl rfl rfl rfl rfl ?_; clear HO; rintro W3 hO; have HO := Lib.hid hO; clear hO; simp only [Act.put]))
          have d7 : W3.cell? ⟨k16, 7, none⟩ = some (.int .i64 m8) := (HO.out.get 0 rfl).cell 7
          have d8 : W3.cell? ⟨k16, 8, none⟩ = some (.string m9) := (HO.out.get 0 rfl).cell 8
          have hI3 := HI.out.below (HBL.out.trans (HO.out.bel.mono HBL.out.size))
          obtain ⟨u, bb, hlk, hbb⟩ : ∃ u : Int, ∃ bb : Bool, (Instr.lookup 74 (.map (some w.heap.size)) (.agg #[.string m9, .int .i64 m8]) true).run Tryz.prog W3 = .ok (.tuple #[.int .i64 u, .bool bb]) W3 ∧ ((bb = true ∧ u = j) ↔ lkP key st.pr = some j) := by
            cases hl2 : lkP key st.pr with
            | none => exact ⟨0, false, by rw [← HKV.out.1]; exact hI3.miss HKV.out.2 hl2, by simp⟩
            | some i => exact ⟨i, true, by rw [← HKV.out.1]; exact hI3.hit hl2, by simp; omega⟩
          clear hI3 c0 c1 c2 c3 c4 c5 c6 c7 c8
          have hB16 := HO.out.get 0 rfl
          have HB2 := Lib.hid (HBL.out.trans (HO.out.bel.mono HBL.out.size))
          have hrw3 := HRW.out.below HO.out.bel
          have HO3 := Lib.hid HO.out
          clear HO
          by_cases hin : lkP key st.pr = some j
          case neg =>
            rw [if_neg hin, List.append_nil] at HNX
            have hno : ¬ (bb = true ∧ u = j) := fun h => hin (hbb.1 h)
            have HRW3 := Lib.hid hrw3
            clear hbb hin hrw3 hB16
            cases bb
            case false =>
              clear hno
              go_wp2_with fail
              clear hlk d7 d8
              go_roundw
              case rel => exact ⟨j + 1, Q2, _, hlt, by go_num, rfl, by rw [HNX.out], HSB.out, HRW3.out, HB2.out, by have := HL2.out; omega⟩
              case measure => simp [intOf]; omega
            case true =>
              have e1 : ¬ u = (j : Int) := fun h => hno ⟨rfl, h⟩
              have e2 : (u == (j : Int)) = false := by simpa using e1
              clear hno
              go_wp2_with fail
              clear hlk d7 d8 e1 e2
              go_roundw
              case rel => exact ⟨j + 1, Q2, _, hlt, by go_num, rfl, by rw [HNX.out], HSB.out, HRW3.out, HB2.out, by have := HL2.out; omega⟩
              case measure => simp [intOf]; omega
          case pos =>
            rw [if_pos hin] at HNX
            obtain ⟨rfl, rfl⟩ := hbb.2 hin
            have hal : Below W3.heap.size W3 (W3.alloc (.cells #[.string m1, .string m2, .int .i64 m3, .bool m4, .slice Ap np cp, .string m6, .int .i64 m7, .int .i64 m8, .string m9] 25)) := (Below.refl _ _).alloc (Nat.le_refl _) _
            have HB4 := Lib.hid (HB2.out.trans (hal.mono HB2.out.size))
            have HRW4 := Lib.hid (hrw3.below hal)
            have HNW := Lib.hid (fun i (hi : i < 9) => (news_m W3 #[.string m1, .string m2, .int .i64 m3, .bool m4, .slice Ap np cp, .string m6, .int .i64 m7, .int .i64 m8, .string m9] i hi).trans (show _ = (QV.cells ⟨⟨m1, m2, m3, m4, m5, m6, m7, m8, m9⟩, Ap, cp⟩)[i]? by rw [HNP.out]; simp [QV.cells]))
            clear hbb hin hrw3 hB16 hal
            go_upto_region 24 with fail
            clear hlk d7 d8
            go_wp2_with (first
              | (refine wpo_load HO3.out 0 tyM rfl rfl _ rfl rfl rfl ?_)
              | (refine wpm_slice1 (pc := #[.string m1, .string m2, .int .i64 m3, .bool m4, .slice Ap np cp, .string m6, .int .i64 m7, .int .i64 m8, .string m9]) rfl rfl _ rfl rfl ?_)
              | (refine append_m (w0 := W0) rfl _ _ rfl ⟨⟨m1, m2, m3, m4, m5, m6, m7, m8, m9⟩, Ap, cp⟩ HB4.out HRW4.out rfl (by have := HL2.out; have := HLN.out; omega) ⟨W3.heap.size, 0, none⟩ 1 rfl HNW.out ?_; intro a' c' w' hrow hbel hfr; have HR := Lib.hid (And.intro hrow (And.intro hbel hfr)); clear hrow hbel hfr; simp only [Act.put, List.setIfInBounds_toArray, List.set_cons_zero, List.set_cons_succ]))
            clear HO3 HB4 HRW4 HNW HB2
            go_roundw
            case rel =>
              refine ⟨j + 1, Q2 ++ [⟨⟨m1, m2, m3, m4, m5, m6, m7, m8, m9⟩, Ap, cp⟩], _, hlt, by go_num, rfl, ?_, fun q hq => ?_, HR.out.1, HR.out.2.1, by have := HL2.out; simp; omega⟩
              · rw [HNX.out, List.map_append]; rfl
              · rcases List.mem_append.1 hq with hq | hq
                · exact HSB.out q hq
                · rw [List.mem_singleton] at hq
                  rw [hq]
                  exact HMQ.out
            case measure => simp [intOf]; omega
        · obtain rfl : j = Q.length := by omega
          have htk : (Q.map QV.m).take Q.length = st.all := by
            rw [← HQ.out]
            exact List.take_of_length_le (by simp)
          rw [htk] at hQ2
          obtain ⟨a2, c2, rfl⟩ := hrow.form
          have HR := Lib.hid hrow
          have HB := Lib.hid hbel
          have HQ2 := Lib.hid hQ2
          have HSB := Lib.hid hsub
          have hlow := HI.out.bel.size
          have HBB := Lib.hid (HI.out.bel.trans (hbel.mono hlow))
          clear hrow hbel hQ2 hsub htk hlt hj hl2 hlow
          go_wp2_with fail
          refine bodyPost_ret (v := .tuple #[.slice a2 Q2.length c2, .int .i64 (rpF L).last]) (by simp [results, Tryz.results12, go_sem]) rfl ⟨a2, c2, Q2, rfl, by rw [HQ2.out, HST.out], ?_, fun q hq => ?_, HBB.out⟩
          · exact mrow_base HR.out HI.out.bel.size
          · exact ⟨(HI.out.pin q (HSB.out q hq)).1.below HB.out, (HI.out.pin q (HSB.out q hq)).2⟩
end Go.Proofs.YtnolnhpmpjgnaaaGreatDoor

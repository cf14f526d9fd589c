/- What is proved here: whether a packet has few parts, of few bytes. Condition: its lists stand where it says. -/
import Derived.Test.YtinhecggmakbnaaGreatDoorPkx08
import Derived.Test.YtinhecggmakbnaaGreatDoorSam08
namespace Go.Proofs.YtinhecggmakbnaaGreatDoor
set_option maxRecDepth 100000
open Go.RowKit Go.Extern.Stop Go.Stop Go.Extern
def FewL (L : PL) : Prop := L.length ≤ 70 ∧ ∀ k, k < L.length → (L.getD k p0).s.size ≤ 200 ∧ (L.getD k p0).v.size ≤ 200
/-- Few parts, of few bytes. -/
structure FewK (p : Pk) : Prop where
  pr : FewL p.props
  wr : FewL p.wProps
  sb : p.subs.length ≤ 40
  fl : p.filters.length ≤ 40
  cd : p.codes.length ≤ 40
  sz : ∀ k, k < p.subs.length → (p.subs.getD k sv0).filter.size ≤ 200
  fz : ∀ k, k < p.filters.length → (p.filters.getD k ⟨#[]⟩).size ≤ 200
  ct : p.client.size ≤ 200
  wt : p.wTopic.size ≤ 200
  wp : p.wPay.size ≤ 200
  us : p.user.size ≤ 200
  ps : p.pass.size ≤ 200
  tp : p.topic.size ≤ 200
  pl : p.payload.size ≤ 200
theorem scell_get (L : List SV) : ∀ k, k < L.length → (L.flatMap SV.cells)[k * 5]? = some (.string (L.getD k sv0).filter) := by
  induction L with
  | nil => intro k hk; cases hk
  | cons x L ih =>
    intro k hk
    rw [List.flatMap_cons]
    rcases k with _ | k
    · rfl
    · rw [List.getElem?_append_right (by show 5 ≤ _; omega), show (k + 1) * 5 - x.cells.length = k * 5 from by show (k + 1) * 5 - 5 = _; omega]
      exact ih k (by simpa using hk)
def Few8 (w : World) (p : Pk) (x : Ending) (w' : World) : Prop := ∃ b : Bool, x = .returned (.bool b) ∧ (b = true → FewK p) ∧ Below w.heap.size w w'
set_option maxHeartbeats 16000000 in
theorem few08 {w : World} {A : PkA} {p : Pk} (h : PkArg w A p) : Calls Tryz.prog 10 #[p.agg A] w (Few8 w p) := by
  have hb1 : Below w.heap.size w (w.alloc (.cells (p.cells A) 29)) := (Below.refl _ _).alloc (Nat.le_refl _) _
  have HF := Lib.hid (show ∀ w' : World, Below w.heap.size w w' → Few8 w p (.returned (.bool false)) w' from fun _ hb => ⟨false, rfl, (fun h => by cases h), hb⟩)
  have HT := Lib.hid (show ∀ (b : Bool) (w' : World), (b = true → FewK p) → Below w.heap.size w w' → Few8 w p (.returned (.bool b)) w' from fun b _ h hb => ⟨b, rfl, h, hb⟩)
  have hin := h.inn.below hb1
  have h1 := h.pl
  have h2 := h.wl
  have h3 := h.sl
  have h4 := h.fl
  have h5 := h.cl
  have HP := Lib.hid (few06_any p.props.length A.pc hin.pr rfl h1)
  have HM := Lib.hid (few06_any p.wProps.length A.wc hin.wr rfl h2)
  have HS := Lib.hid (fun (g off : Nat) (_ : A.sa = some ⟨g, off, none⟩) => trivial)
  have HSB := Lib.hid hin.sb
  have HFL := Lib.hid hin.fl
  have HB := Lib.hid hb1
  clear hb1 hin h HS
  obtain ⟨c, hc⟩ : ∃ c, c = p.cells A := ⟨_, rfl⟩
  rw [show p.agg A = .agg c from by rw [hc]; rfl]
  rw [← hc] at HP HM HSB HFL HB
  have HCS := Lib.hid (show c.size = 26 from by rw [hc]; rfl)
  obtain ⟨kd, id, rs, L, cl, kp, ct, wh, wt, wp, wq, wr, M, hu, us, hp, ps, pr, tp, pl, qs, rt, dp, sb, fl, cd⟩ := p
  obtain ⟨xp, xpc, xw, xwc, xs, xsc, xf, xfc, xc, xcc⟩ := A
  simp only at HP HM HSB HFL HB h1 h2 h3 h4 h5 ⊢
  obtain ⟨nL, hnL⟩ : ∃ n, n = L.length := ⟨_, rfl⟩
  obtain ⟨nM, hnM⟩ : ∃ n, n = M.length := ⟨_, rfl⟩
  obtain ⟨nS, hnS⟩ : ∃ n, n = sb.length := ⟨_, rfl⟩
  obtain ⟨nF, hnF⟩ : ∃ n, n = fl.length := ⟨_, rfl⟩
  obtain ⟨nC, hnC⟩ : ∃ n, n = cd.length := ⟨_, rfl⟩
  rw [← hnL] at h1 HP
  rw [← hnM] at h2 HM
  rw [← hnS] at h3
  rw [← hnF] at h4
  rw [← hnC] at h5
  have r0 := Blk.made w 29 c
  obtain ⟨W1, hW1⟩ : ∃ W, W = w.alloc (.cells c 29) := ⟨_, rfl⟩
  rw [← hW1] at r0 HP HM HSB HFL HB
  have HW1 := Lib.hid hW1
  have k23 : W1.cell? ⟨w.heap.size, 23, none⟩ = some (.slice xs nS xsc) := by rw [r0.cell 23, hc, hnS]; rfl
  have k24 : W1.cell? ⟨w.heap.size, 24, none⟩ = some (.slice xf nF xfc) := by rw [r0.cell 24, hc, hnF]; rfl
  have k25 : W1.cell? ⟨w.heap.size, 25, none⟩ = some (.slice xc nC xcc) := by rw [r0.cell 25, hc, hnC]; rfl
  have k3 : W1.cell? ⟨w.heap.size, 3, none⟩ = some (.slice xp nL xpc) := by rw [r0.cell 3, hc, hnL]; rfl
  have k12 : W1.cell? ⟨w.heap.size, 12, none⟩ = some (.slice xw nM xwc) := by rw [r0.cell 12, hc, hnM]; rfl
  have k6 : W1.cell? ⟨w.heap.size, 6, none⟩ = some (.string ct) := by rw [r0.cell 6, hc]; rfl
  have k8 : W1.cell? ⟨w.heap.size, 8, none⟩ = some (.string wt) := by rw [r0.cell 8, hc]; rfl
  have k9 : W1.cell? ⟨w.heap.size, 9, none⟩ = some (.string wp) := by rw [r0.cell 9, hc]; rfl
  have k14 : W1.cell? ⟨w.heap.size, 14, none⟩ = some (.string us) := by rw [r0.cell 14, hc]; rfl
  have k16 : W1.cell? ⟨w.heap.size, 16, none⟩ = some (.string ps) := by rw [r0.cell 16, hc]; rfl
  have k18 : W1.cell? ⟨w.heap.size, 18, none⟩ = some (.string tp) := by rw [r0.cell 18, hc]; rfl
  have k19 : W1.cell? ⟨w.heap.size, 19, none⟩ = some (.string pl) := by rw [r0.cell 19, hc]; rfl
  have HN := Lib.hid (And.intro hnL (And.intro hnM (And.intro hnS (And.intro hnF hnC))))
  clear hnL hnM hnS hnF hnC hc r0 hW1
  go_enter Tryz.func10, Tryz.ntmps10
  go_wp2_with (refine wpk_box HCS.out _ rfl rfl rfl ?_)
  rw [← HW1.out]
  go_loop [3] (fun i => ∃ k : Nat, k ≤ nS ∧ k ≤ 40 ∧ i = .int .i64 k ∧ Hid (∀ j, j < k → (sb.getD j sv0).filter.size ≤ 200)) (fun i => 40 - (intOf i).toNat)
  case atStart => exact ⟨0, by omega, by omega, rfl, Lib.hid fun j hj => absurd hj (by omega)⟩
  case round =>
    obtain ⟨k, hk, hk2, rfl, HJ⟩ := hrel
    by_cases hlt : k < nS ∧ k < 40
    · obtain ⟨hlt, hlt2⟩ := hlt
      have hl : 0 < (sb.flatMap SV.cells).length := by rw [flat_len SV.cells 5 (fun _ => rfl)]; have := HN.out.2.2.1; omega
      obtain ⟨g, off, rfl, hc, _⟩ := HSB.out hl
      have c1 := hc (k * 5) _ (scell_get sb k (by have := HN.out.2.2.1; omega))
      obtain ⟨s, hs⟩ : ∃ s, s = (sb.getD k sv0).filter := ⟨_, rfl⟩
      rw [← hs] at c1
      have HSS := Lib.hid hs
      clear hc hl hs
      by_cases hz : 200 < s.size
      · go_wp2_with fail
        go_ret
        exact HF.out _ HB.out
      · have hz' : s.size ≤ 200 := by omega
        clear hz
        go_wp2_with fail
        go_round
        case rel => exact ⟨k + 1, by omega, by omega, by go_num, Lib.hid fun j hj => by
          by_cases hjk : j = k
          · subst hjk; rw [← HSS.out]; exact hz'
          · exact HJ.out j (by omega)⟩
        case measure => simp [intOf]; omega
    · have hx : nS ≤ 40 ∧ k = nS ∨ 40 < nS ∧ k = 40 := by omega
      clear hlt hk hk2
      rcases hx with ⟨hS40, rfl⟩ | ⟨hS40, rfl⟩
      case' inl =>
        have hS40' : ¬ 40 < k := by omega
        go_wp2_with fail
      case' inr =>
        have hS40' : ¬ nS ≤ 40 := by omega
        go_wp2_with fail
      case inr =>
        clear HSB HJ
        go_loop [4] (fun i => ∃ k : Nat, k ≤ nF ∧ k ≤ 40 ∧ i = .int .i64 k) (fun i => 40 - (intOf i).toNat)
        case atStart => exact ⟨0, by omega, by omega, rfl⟩
        case round =>
          obtain ⟨k, hk, hk2, rfl⟩ := hrel
          by_cases hlt : k < nF ∧ k < 40
          · obtain ⟨hlt, hlt2⟩ := hlt
            have hl : 0 < (fl.flatMap tCell).length := by rw [flat_len tCell 1 (fun _ => rfl)]; have := HN.out.2.2.2.1; omega
            obtain ⟨g, off, rfl, hc, _⟩ := HFL.out hl
            have c1 := hc k _ (tcell_get fl k (by have := HN.out.2.2.2.1; omega))
            generalize fl.getD k ⟨#[]⟩ = s at c1
            clear hc hl
            by_cases hz : 200 < s.size
            · go_wp2_with fail
              go_ret
              exact HF.out _ HB.out
            · have hz' : s.size ≤ 200 := by omega
              clear hz
              go_wp2_with fail
              go_round
              case rel => exact ⟨k + 1, by omega, by omega, by go_num⟩
              case measure => simp [intOf]; omega
          · have hx : nF ≤ 40 ∧ k = nF ∨ 40 < nF ∧ k = 40 := by omega
            clear hlt hk hk2 k25 k3 k12 k6 k8 k9 k14 k16 k18 k19 h1 h2 h3 h4 h5 HP HM HFL HN
            rcases hx with ⟨hF40, rfl⟩ | ⟨hF40, rfl⟩
            · go_wp2_with fail
              go_ret
              exact HF.out _ HB.out
            · have hF40' : ¬ nF ≤ 40 := by omega
              go_wp2_with fail
              go_ret
              exact HF.out _ HB.out
      case inl =>
        clear HSB
        go_loop [4] (fun i => ∃ m : Nat, m ≤ nF ∧ m ≤ 40 ∧ i = .int .i64 m ∧ Hid (∀ j, j < m → (fl.getD j ⟨#[]⟩).size ≤ 200)) (fun i => 40 - (intOf i).toNat)
        case atStart => exact ⟨0, by omega, by omega, rfl, Lib.hid fun j hj => absurd hj (by omega)⟩
        case round =>
          obtain ⟨m, hm, hm2, rfl, HI⟩ := hrel
          by_cases hlt : m < nF ∧ m < 40
          · obtain ⟨hlt, hlt2⟩ := hlt
            have hl : 0 < (fl.flatMap tCell).length := by rw [flat_len tCell 1 (fun _ => rfl)]; have := HN.out.2.2.2.1; omega
            obtain ⟨g, off, rfl, hc, _⟩ := HFL.out hl
            have c1 := hc m _ (tcell_get fl m (by have := HN.out.2.2.2.1; omega))
            obtain ⟨s, hs⟩ : ∃ s, s = fl.getD m ⟨#[]⟩ := ⟨_, rfl⟩
            rw [← hs] at c1
            have HSS := Lib.hid hs
            clear hc hl hs
            by_cases hz : 200 < s.size
            · go_wp2_with fail
              go_ret
              exact HF.out _ HB.out
            · have hz' : s.size ≤ 200 := by omega
              clear hz
              go_wp2_with fail
              go_round
              case rel => exact ⟨m + 1, by omega, by omega, by go_num, Lib.hid fun j hj => by
                by_cases hjk : j = m
                · subst hjk; rw [← HSS.out]; exact hz'
                · exact HI.out j (by omega)⟩
              case measure => simp [intOf]; omega
          · have hx : nF ≤ 40 ∧ m = nF ∨ 40 < nF ∧ m = 40 := by omega
            clear hlt hm hm2
            rcases hx with ⟨hF40, rfl⟩ | ⟨hF40, rfl⟩
            · by_cases hC40 : nC ≤ 40
              · go_wp2_with fail
                refine HP.out.mono ?_
                rintro x w2 ⟨⟨bp, rfl, hbp⟩, rfl⟩
                cases bp with
                | false =>
                  clear k23 k24 k25 k3 k12 k6 k8 k9 k14 k16 k18 k19 h1 h2 h3 h4 h5 HP HM HFL HN HI HJ
                  go_wp2_with fail
                  go_ret
                  exact HF.out _ HB.out
                | true =>
                  clear k23 k24 k25 k3 h1 h2 h3 h4 h5
                  have HBP := Lib.hid (hbp rfl)
                  clear hbp
                  go_wp2_with fail
                  refine HM.out.mono ?_
                  rintro x w2 ⟨⟨bm, rfl, hbm⟩, rfl⟩
                  cases bm with
                  | false =>
                    clear k12 k6 k8 k9 k14 k16 k18 k19 HP HM HFL HN HI HJ
                    go_wp2_with fail
                    go_ret
                    exact HF.out _ HB.out
                  | true =>
                    have HBM := Lib.hid (hbm rfl)
                    clear hbm k12
                    by_cases zct : ct.size ≤ 200
                    case neg =>
                      have zct' : 200 < ct.size := by omega
                      clear k8 k9 k14 k16 k18 k19
                      go_wp2_with fail
                      go_ret
                      exact HF.out _ HB.out
                    by_cases zwt : wt.size ≤ 200
                    case neg =>
                      have zwt' : 200 < wt.size := by omega
                      clear k9 k14 k16 k18 k19
                      go_wp2_with fail
                      go_ret
                      exact HF.out _ HB.out
                    by_cases zwp : wp.size ≤ 200
                    case neg =>
                      have zwp' : 200 < wp.size := by omega
                      clear k14 k16 k18 k19
                      go_wp2_with fail
                      go_ret
                      exact HF.out _ HB.out
                    by_cases zus : us.size ≤ 200
                    case neg =>
                      have zus' : 200 < us.size := by omega
                      clear k16 k18 k19
                      go_wp2_with fail
                      go_ret
                      exact HF.out _ HB.out
                    by_cases zps : ps.size ≤ 200
                    case neg =>
                      have zps' : 200 < ps.size := by omega
                      clear k18 k19
                      go_wp2_with fail
                      go_ret
                      exact HF.out _ HB.out
                    by_cases ztp : tp.size ≤ 200
                    case neg =>
                      have ztp' : 200 < tp.size := by omega
                      clear k19
                      go_wp2_with fail
                      go_ret
                      exact HF.out _ HB.out
                    go_wp2_with fail
                    go_ret
                    refine HT.out _ _ (fun hlast => ?_) HB.out
                    have zpl : pl.size ≤ 200 := by
                      have h9 := of_decide_eq_true hlast
                      omega
                    obtain ⟨n1, n2, n3, n4, n5⟩ := HN.out
                    subst n1 n2 n3 n4 n5
                    exact ⟨HBP.out, HBM.out, hS40, hF40, hC40, HJ.out, HI.out, zct, zwt, zwp, zus, zps, ztp, zpl⟩
              · have hC40' : 40 < nC := by omega
                clear k3 k12 k6 k8 k9 k14 k16 k18 k19 h1 h2 h3 h4 h5 HP HM HFL HN HI HJ
                go_wp2_with fail
                go_ret
                exact HF.out _ HB.out
            · have hF40' : ¬ nF ≤ 40 := by omega
              clear k25 k3 k12 k6 k8 k9 k14 k16 k18 k19 h1 h2 h3 h4 h5 HP HM HFL HN HI HJ
              go_wp2_with fail
              go_ret
              exact HF.out _ HB.out
end Go.Proofs.YtinhecggmakbnaaGreatDoor

/- What is proved here: whether a packet has few parts, of few bytes. Condition: its lists stand where it says. What is proved here: an error and the document's, that are the same, are the same to layer 12's statements. Condition: what the rows list of the package's variables. -/
import Derived.Test.YtinhecggmakbnaaGreatDoorPkx08
import Derived.Test.YtinhecggmakbnaaGreatDoorBrr08
import Derived.Test.YtinhecggmakbnaaGreatDoorLawA06
import Derived.Test.YtinhecggmakbnaaGreatDoorRegT
import Derived.Deep.QuietTactic
import Derived.BigQuiet
import Derived.Deep.RegionHeld3
namespace Go.Proofs.YtinhecggmakbnaaGreatDoor
set_option maxRecDepth 100000
open Go.RowKit Go.Extern.Stop Go.Stop Go.Extern
def FewL (L : PL) : Prop := L.length ≤ 70 ∧ ∀ k, k < L.length → (L.getD k p0).s.size ≤ 200 ∧ (L.getD k p0).v.size ≤ 200
/-- Few parts, of few bytes. -/
structure FewK (p : Pk) : Prop where
  pr : FewL p.props
  wr : FewL p.wProps
  sb : p.subs.length ≤ 40
  fl : p.filters.length ≤ 40
  cd : p.codes.length ≤ 40
  sz : ∀ k, k < p.subs.length → (p.subs.getD k sv0).filter.size ≤ 200
  fz : ∀ k, k < p.filters.length → (p.filters.getD k ⟨#[]⟩).size ≤ 200
  ct : p.client.size ≤ 200
  wt : p.wTopic.size ≤ 200
  wp : p.wPay.size ≤ 200
  us : p.user.size ≤ 200
  ps : p.pass.size ≤ 200
  tp : p.topic.size ≤ 200
  pl : p.payload.size ≤ 200
theorem scell_get (L : List SV) : ∀ k, k < L.length → (L.flatMap SV.cells)[k * 5]? = some (.string (L.getD k sv0).filter) := by
  induction L with
  | nil => intro k hk; cases hk
  | cons x L ih =>
    intro k hk
    rw [List.flatMap_cons]
    rcases k with _ | k
    · rfl
    · rw [List.getElem?_append_right (by show 5 ≤ _; omega), show (k + 1) * 5 - x.cells.length = k * 5 from by show (k + 1) * 5 - 5 = _; omega]
      exact ih k (by simpa using hk)
def Few8 (w : World) (p : Pk) (x : Ending) (w' : World) : Prop := ∃ b : Bool, x = .returned (.bool b) ∧ (b = true → FewK p) ∧ Below w.heap.size w w'
set_option maxHeartbeats 16000000 in
theorem few08 {w : World} {A : PkA} {p : Pk} (h : PkArg w A p) : Calls Tryz.prog 10 #[p.agg A] w (Few8 w p) := by
  have hb1 : Below w.heap.size w (w.alloc (.cells (p.cells A) 29)) := (Below.refl _ _).alloc (Nat.le_refl _) _
  have HF := Lib.hid (show ∀ w' : World, Below w.heap.size w w' → Few8 w p (.returned (.bool false)) w' from fun _ hb => ⟨false, rfl, (fun h => by cases h), hb⟩)
  have HT := Lib.hid (show ∀ (b : Bool) (w' : World), (b = true → FewK p) → Below w.heap.size w w' → Few8 w p (.returned (.bool b)) w' from fun b _ h hb => ⟨b, rfl, h, hb⟩)
  have hin := h.inn.below hb1
  have h1 := h.pl
  have h2 := h.wl
  have h3 := h.sl
  have h4 := h.fl
  have h5 := h.cl
  have HP := Lib.hid (few06_any p.props.length A.pc hin.pr rfl h1)
  have HM := Lib.hid (few06_any p.wProps.length A.wc hin.wr rfl h2)
  have HS := Lib.hid (fun (g off : Nat) (_ : A.sa = some ⟨g, off, none⟩) => trivial)
  have HSB := Lib.hid hin.sb
  have HFL := Lib.hid hin.fl
  have HB := Lib.hid hb1
  clear hb1 hin h HS
  obtain ⟨c, hc⟩ : ∃ c, c = p.cells A := ⟨_, rfl⟩
  rw [show p.agg A = .agg c from by rw [hc]; rfl]
  rw [← hc] at HP HM HSB HFL HB
  have HCS := Lib.hid (show c.size = 26 from by rw [hc]; rfl)
  obtain ⟨kd, id, rs, L, cl, kp, ct, wh, wt, wp, wq, wr, M, hu, us, hp, ps, pr, tp, pl, qs, rt, dp, sb, fl, cd⟩ := p
  obtain ⟨xp, xpc, xw, xwc, xs, xsc, xf, xfc, xc, xcc⟩ := A
  simp only at HP HM HSB HFL HB h1 h2 h3 h4 h5 ⊢
  obtain ⟨nL, hnL⟩ : ∃ n, n = L.length := ⟨_, rfl⟩
  obtain ⟨nM, hnM⟩ : ∃ n, n = M.length := ⟨_, rfl⟩
  obtain ⟨nS, hnS⟩ : ∃ n, n = sb.length := ⟨_, rfl⟩
  obtain ⟨nF, hnF⟩ : ∃ n, n = fl.length := ⟨_, rfl⟩
  obtain ⟨nC, hnC⟩ : ∃ n, n = cd.length := ⟨_, rfl⟩
  rw [← hnL] at h1 HP
  rw [← hnM] at h2 HM
  rw [← hnS] at h3
  rw [← hnF] at h4
  rw [← hnC] at h5
  have r0 := Blk.made w 29 c
  obtain ⟨W1, hW1⟩ : ∃ W, W = w.alloc (.cells c 29) := ⟨_, rfl⟩
  rw [← hW1] at r0 HP HM HSB HFL HB
  have HW1 := Lib.hid hW1
  have k23 : W1.cell? ⟨w.heap.size, 23, none⟩ = some (.slice xs nS xsc) := by rw [r0.cell 23, hc, hnS]; rfl
  have k24 : W1.cell? ⟨w.heap.size, 24, none⟩ = some (.slice xf nF xfc) := by rw [r0.cell 24, hc, hnF]; rfl
  have k25 : W1.cell? ⟨w.heap.size, 25, none⟩ = some (.slice xc nC xcc) := by rw [r0.cell 25, hc, hnC]; rfl
  have k3 : W1.cell? ⟨w.heap.size, 3, none⟩ = some (.slice xp nL xpc) := by rw [r0.cell 3, hc, hnL]; rfl
  have k12 : W1.cell? ⟨w.heap.size, 12, none⟩ = some (.slice xw nM xwc) := by rw [r0.cell 12, hc, hnM]; rfl
  have k6 : W1.cell? ⟨w.heap.size, 6, none⟩ = some (.string ct) := by rw [r0.cell 6, hc]; rfl
  have k8 : W1.cell? ⟨w.heap.size, 8, none⟩ = some (.string wt) := by rw [r0.cell 8, hc]; rfl
  have k9 : W1.cell? ⟨w.heap.size, 9, none⟩ = some (.string wp) := by rw [r0.cell 9, hc]; rfl
  have k14 : W1.cell? ⟨w.heap.size, 14, none⟩ = some (.string us) := by rw [r0.cell 14, hc]; rfl
  have k16 : W1.cell? ⟨w.heap.size, 16, none⟩ = some (.string ps) := by rw [r0.cell 16, hc]; rfl
  have k18 : W1.cell? ⟨w.heap.size, 18, none⟩ = some (.string tp) := by rw [r0.cell 18, hc]; rfl
  have k19 : W1.cell? ⟨w.heap.size, 19, none⟩ = some (.string pl) := by rw [r0.cell 19, hc]; rfl
  have HN := Lib.hid (And.intro hnL (And.intro hnM (And.intro hnS (And.intro hnF hnC))))
  clear hnL hnM hnS hnF hnC hc r0 hW1
  go_enter Tryz.func10, Tryz.ntmps10
  go_wp2_with (refine wpk_box HCS.out _ rfl rfl rfl ?_)
  rw [← HW1.out]
  go_loop [3] (fun i => ∃ k : Nat, k ≤ nS ∧ k ≤ 40 ∧ i = .int .i64 k ∧ Hid (∀ j, j < k → (sb.getD j sv0).filter.size ≤ 200)) (fun i => 40 - (intOf i).toNat)
  case atStart => exact ⟨0, by omega, by omega, rfl, Lib.hid fun j hj => absurd hj (by omega)⟩
  case round =>
    obtain ⟨k, hk, hk2, rfl, HJ⟩ := hrel
    by_cases hlt : k < nS ∧ k < 40
    · obtain ⟨hlt, hlt2⟩ := hlt
      have hl : 0 < (sb.flatMap SV.cells).length := by rw [flat_len SV.cells 5 (fun _ => rfl)]; have := HN.out.2.2.1; omega
      obtain ⟨g, off, rfl, hc, _⟩ := HSB.out hl
      have c1 := hc (k * 5) _ (scell_get sb k (by have := HN.out.2.2.1; omega))
      obtain ⟨s, hs⟩ : ∃ s, s = (sb.getD k sv0).filter := ⟨_, rfl⟩
      rw [← hs] at c1
      have HSS := Lib.hid hs
      clear hc hl hs
      by_cases hz : 200 < s.size
      · go_wp2_with fail
        go_ret
        exact HF.out _ HB.out
      · have hz' : s.size ≤ 200 := by omega
        clear hz
        go_wp2_with fail
        go_round
        case rel => exact ⟨k + 1, by omega, by omega, by go_num, Lib.hid fun j hj => by
          by_cases hjk : j = k
          · subst hjk; rw [← HSS.out]; exact hz'
          · exact HJ.out j (by omega)⟩
        case measure => simp [intOf]; omega
    · have hx : nS ≤ 40 ∧ k = nS ∨ 40 < nS ∧ k = 40 := by omega
      clear hlt hk hk2
      rcases hx with ⟨hS40, rfl⟩ | ⟨hS40, rfl⟩
      case' inl =>
        have hS40' : ¬ 40 < k := by omega
        go_wp2_with fail
      case' inr =>
        have hS40' : ¬ nS ≤ 40 := by omega
        go_wp2_with fail
      case inr =>
        clear HSB HJ
        go_loop [4] (fun i => ∃ k : Nat, k ≤ nF ∧ k ≤ 40 ∧ i = .int .i64 k) (fun i => 40 - (intOf i).toNat)
        case atStart => exact ⟨0, by omega, by omega, rfl⟩
        case round =>
          obtain ⟨k, hk, hk2, rfl⟩ := hrel
          by_cases hlt : k < nF ∧ k < 40
          · obtain ⟨hlt, hlt2⟩ := hlt
            have hl : 0 < (fl.flatMap tCell).length := by rw [flat_len tCell 1 (fun _ => rfl)]; have := HN.out.2.2.2.1; omega
            obtain ⟨g, off, rfl, hc, _⟩ := HFL.out hl
            have c1 := hc k _ (tcell_get fl k (by have := HN.out.2.2.2.1; omega))
            generalize fl.getD k ⟨#[]⟩ = s at c1
            clear hc hl
            by_cases hz : 200 < s.size
            · go_wp2_with fail
              go_ret
              exact HF.out _ HB.out
            · have hz' : s.size ≤ 200 := by omega
              clear hz
              go_wp2_with fail
              go_round
              case rel => exact ⟨k + 1, by omega, by omega, by go_num⟩
              case measure => simp [intOf]; omega
          · have hx : nF ≤ 40 ∧ k = nF ∨ 40 < nF ∧ k = 40 := by omega
            clear hlt hk hk2 k25 k3 k12 k6 k8 k9 k14 k16 k18 k19 h1 h2 h3 h4 h5 HP HM HFL HN
            rcases hx with ⟨hF40, rfl⟩ | ⟨hF40, rfl⟩
            · go_wp2_with fail
              go_ret
              exact HF.out _ HB.out
            · have hF40' : ¬ nF ≤ 40 := by omega
              go_wp2_with fail
              go_ret
              exact HF.out _ HB.out
      case inl =>
        clear HSB
        go_loop [4] (fun i => ∃ m : Nat, m ≤ nF ∧ m ≤ 40 ∧ i = .int .i64 m ∧ Hid (∀ j, j < m → (fl.getD j ⟨#[]⟩).size ≤ 200)) (fun i => 40 - (intOf i).toNat)
        case atStart => exact ⟨0, by omega, by omega, rfl, Lib.hid fun j hj => absurd hj (by omega)⟩
        case round =>
          obtain ⟨m, hm, hm2, rfl, HI⟩ := hrel
          by_cases hlt : m < nF ∧ m < 40
          · obtain ⟨hlt, hlt2⟩ := hlt
            have hl : 0 < (fl.flatMap tCell).length := by rw [flat_len tCell 1 (fun _ => rfl)]; have := HN.out.2.2.2.1; omega
            obtain ⟨g, off, rfl, hc, _⟩ := HFL.out hl
            have c1 := hc m _ (tcell_get fl m (by have := HN.out.2.2.2.1; omega))
            obtain ⟨s, hs⟩ : ∃ s, s = fl.getD m ⟨#[]⟩ := ⟨_, rfl⟩
            rw [← hs] at c1
            have HSS := Lib.hid hs
            clear hc hl hs
            by_cases hz : 200 < s.size
            · go_wp2_with fail
              go_ret
              exact HF.out _ HB.out
            · have hz' : s.size ≤ 200 := by omega
              clear hz
              go_wp2_with fail
              go_round
              case rel => exact ⟨m + 1, by omega, by omega, by go_num, Lib.hid fun j hj => by
                by_cases hjk : j = m
                · subst hjk; rw [← HSS.out]; exact hz'
                · exact HI.out j (by omega)⟩
              case measure => simp [intOf]; omega
          · have hx : nF ≤ 40 ∧ m = nF ∨ 40 < nF ∧ m = 40 := by omega
            clear hlt hm hm2
            rcases hx with ⟨hF40, rfl⟩ | ⟨hF40, rfl⟩
            · by_cases hC40 : nC ≤ 40
              · go_wp2_with fail
                refine HP.out.mono ?_
                rintro x w2 ⟨⟨bp, rfl, hbp⟩, rfl⟩
                cases bp with
                | false =>
                  clear k23 k24 k25 k3 k12 k6 k8 k9 k14 k16 k18 k19 h1 h2 h3 h4 h5 HP HM HFL HN HI HJ
                  go_wp2_with fail
                  go_ret
                  exact HF.out _ HB.out
                | true =>
                  clear k23 k24 k25 k3 h1 h2 h3 h4 h5
                  have HBP := Lib.hid (hbp rfl)
                  clear hbp
                  go_wp2_with fail
                  refine HM.out.mono ?_
                  rintro x w2 ⟨⟨bm, rfl, hbm⟩, rfl⟩
                  cases bm with
                  | false =>
                    clear k12 k6 k8 k9 k14 k16 k18 k19 HP HM HFL HN HI HJ
                    go_wp2_with fail
                    go_ret
                    exact HF.out _ HB.out
                  | true =>
                    have HBM := Lib.hid (hbm rfl)
                    clear hbm k12
                    by_cases zct : ct.size ≤ 200
                    case neg =>
                      have zct' : 200 < ct.size := by omega
                      clear k8 k9 k14 k16 k18 k19
                      go_wp2_with fail
                      go_ret
                      exact HF.out _ HB.out
                    by_cases zwt : wt.size ≤ 200
                    case neg =>
                      have zwt' : 200 < wt.size := by omega
                      clear k9 k14 k16 k18 k19
                      go_wp2_with fail
                      go_ret
                      exact HF.out _ HB.out
                    by_cases zwp : wp.size ≤ 200
                    case neg =>
                      have zwp' : 200 < wp.size := by omega
                      clear k14 k16 k18 k19
                      go_wp2_with fail
                      go_ret
                      exact HF.out _ HB.out
                    by_cases zus : us.size ≤ 200
                    case neg =>
                      have zus' : 200 < us.size := by omega
                      clear k16 k18 k19
                      go_wp2_with fail
                      go_ret
                      exact HF.out _ HB.out
                    by_cases zps : ps.size ≤ 200
                    case neg =>
                      have zps' : 200 < ps.size := by omega
                      clear k18 k19
                      go_wp2_with fail
                      go_ret
                      exact HF.out _ HB.out
                    by_cases ztp : tp.size ≤ 200
                    case neg =>
                      have ztp' : 200 < tp.size := by omega
                      clear k19
                      go_wp2_with fail
                      go_ret
                      exact HF.out _ HB.out
                    go_wp2_with fail
                    go_ret
                    refine HT.out _ _ (fun hlast => ?_) HB.out
                    have zpl : pl.size ≤ 200 := by
                      have h9 := of_decide_eq_true hlast
                      omega
                    obtain ⟨n1, n2, n3, n4, n5⟩ := HN.out
                    subst n1 n2 n3 n4 n5
                    exact ⟨HBP.out, HBM.out, hS40, hF40, hC40, HJ.out, HI.out, zct, zwt, zwp, zus, zps, ztp, zpl⟩
              · have hC40' : 40 < nC := by omega
                clear k3 k12 k6 k8 k9 k14 k16 k18 k19 h1 h2 h3 h4 h5 HP HM HFL HN HI HJ
                go_wp2_with fail
                go_ret
                exact HF.out _ HB.out
            · have hF40' : ¬ nF ≤ 40 := by omega
              clear k25 k3 k12 k6 k8 k9 k14 k16 k18 k19 h1 h2 h3 h4 h5 HP HM HFL HN HI HJ
              go_wp2_with fail
              go_ret
              exact HF.out _ HB.out
end Go.Proofs.YtinhecggmakbnaaGreatDoor
namespace Go.Proofs.YtinhecggmakbnaaGreatDoor
set_option maxRecDepth 100000
open Go.RowKit Go.Extern.Stop Go.Stop Go.Extern
structure SmIn12E (w W : World) (S : Nat → Addr) (no a : Nat) (r : Int) (e : Value) (g : Nat) : Prop where
  er : ErrOf W S r no a e
  env : EnvN W S
  box : Blk W g 40 #[.int .i64 no, .int .i64 r, .int .i64 a]
  bel : Below w.heap.size w W
theorem SmIn12E.below {w W W' : World} {S : Nat → Addr} {no a : Nat} {r : Int} {e : Value} {g : Nat} (h : SmIn12E w W S no a r e g) (hb : Below W.heap.size W W') : SmIn12E w W' S no a r e g := ⟨h.er.later hb, h.env.later hb, h.box.below hb h.box.lt, h.bel.trans (hb.mono h.bel.size)⟩
theorem SmIn12E.drewN {w W : World} {S : Nat → Addr} {no a : Nat} {r : Int} {e : Value} {g : Nat} (h : SmIn12E w W S no a r e g) (d : Nat) : SmIn12E w (W.drewN d) S no a r e g := h.below (below_drewN (Below.refl _ _) d)
/-- An error and the document's, that are the same. -/
theorem same12E (S : Nat → Addr) (no a : Nat) (r : Int) (e : Value) (w : World) (hE : EnvN w S) (he : ErrOf w S r no a e) :
    Calls Tryz.prog 26 #[e, .agg #[.int .i64 no, .int .i64 r, .int .i64 a]] w fun x w' => x = .returned (.bool true) ∧ Below w.heap.size w w' := by
  have hb0 : Below w.heap.size w (w.alloc (.cells #[.int .i64 no, .int .i64 r, .int .i64 a] 40)) := (Below.refl _ _).alloc (Nat.le_refl _) _
  have hi0 : SmIn12E w (w.alloc (.cells #[.int .i64 no, .int .i64 r, .int .i64 a] 40)) S no a r e w.heap.size := ⟨he.later hb0, hE.later hb0, Blk.made w 40 _, hb0⟩
  have KT := Lib.hid (fun (W : World) (h : SmIn12E w W S no a r e w.heap.size) => show W.cell? ⟨w.heap.size, 0, none⟩ = some (.int .i64 no) ∧ W.cell? ⟨w.heap.size, 1, none⟩ = some (.int .i64 r) ∧ W.cell? ⟨w.heap.size, 2, none⟩ = some (.int .i64 a) from ⟨h.box.cell 0, h.box.cell 1, h.box.cell 2⟩)
  have D14 := Lib.hid (fun (W : World) (h : SmIn12E w W S no a r e w.heap.size) => (number_of h.env h.er).mono fun x w' hx => show x = Ending.returned (.int .i64 no) ∧ SmIn12E w w' S no a r e w.heap.size from ⟨hx.1, h.below hx.2⟩)
  obtain ⟨t0, t1, t2⟩ := KT.out _ hi0
  by_cases h0 : no = 0
  · subst h0
    have he0 := he
    clear he hE hb0
    go_enter Tryz.func26, Tryz.ntmps26
    go_wp2_with fail
    obtain rfl : e = .nilIface := he0
    refine wp_region_held_drew (S := (fun W => SmIn12E w W S 0 a r .nilIface w.heap.size)) (by kernel_rfl) ?_ (fun hHeld => ?_)
    · (first | assumption | exact SmIn12E.drewN (by assumption) 1)
    refine wpAnyH_take (i := 0) (oi := { dst := some 5, op := Op.move (Operand.tmp 0), type := 35, pos := _, after := _, guard := none }) (v := .nilIface) rfl (by kernel_rfl) (by kernel_rfl) (by kernel_rfl) (fun _ _ _ h => h) (Or.inl ⟨by rfl, fun w' _ => ?_⟩) (by assumption) ?_
    · go_simp
    simp only [Act.put, List.setIfInBounds_toArray, List.set_cons_zero, List.set_cons_succ]
    refine wpAnyH_take (i := 2) (oi := { dst := some 7, op := Op.fieldAddr 40 (Operand.tmp 3) 0, type := 0, pos := _, after := _, guard := none }) (v := .pointer (some ⟨w.heap.size, 0, none⟩)) rfl (by kernel_rfl) (by kernel_rfl) (by kernel_rfl) (fun _ _ _ h => h) (Or.inl ⟨by rfl, fun w' _ => ?_⟩) (by assumption) ?_
    · go_simp
    simp only [Act.put, List.setIfInBounds_toArray, List.set_cons_zero, List.set_cons_succ]
    refine wpAnyH_take (i := 3) (oi := { dst := some 8, op := Op.load 38 (Operand.tmp 7), type := 38, pos := _, after := _, guard := none }) (v := .int .i64 ((0 : Nat) : Int)) rfl (by kernel_rfl) (by kernel_rfl) (by kernel_rfl) (fun _ _ _ h => h) (Or.inl ⟨by rfl, fun w' hSw => ?_⟩) (by assumption) ?_
    · (obtain ⟨x0, x1, x2⟩ := KT.out _ hSw; go_simp)
    simp only [Act.put, List.setIfInBounds_toArray, List.set_cons_zero, List.set_cons_succ]
    refine wpAnyH_ready (rs := [1]) (by kernel_rfl) (by simp) ?_
    refine AllReadyH.cons (o := { dst := some 6, op := Op.call { callee := Callee.value (Operand.func 40), args := #[Operand.tmp 5], argTypes := #[35] }, type := 38, pos := _, after := _, guard := none }) rfl (fun K hK => ?_) AllReadyH.nil
    go_simp
    refine (D14.out _ (by assumption)).mono ?_
    rintro x w6 ⟨rfl, hi6⟩
    go_wp2_with fail
    refine hK.out _ _ ?_ (fun hHeld1 => ?_)
    · (first | assumption | exact SmIn12E.drewN (by assumption) 1)
    clear hK K
    try simp only [Act.put, List.setIfInBounds_toArray, List.set_cons_zero, List.set_cons_succ]
    refine wpAnyH_take (i := 4) (oi := { dst := some 9, op := Op.binOp BinOp.eql 38 (Operand.tmp 6) (Operand.tmp 8) 38, type := 4, pos := _, after := _, guard := none }) (v := .bool true) rfl (by kernel_rfl) (by kernel_rfl) (by kernel_rfl) (fun _ _ _ h => h) (Or.inl ⟨by rfl, fun w' _ => ?_⟩) (by assumption) ?_
    · go_simp
    simp only [Act.put, List.setIfInBounds_toArray, List.set_cons_zero, List.set_cons_succ]
    refine wpAnyH_take (i := 5) (oi := { dst := some 10, op := Op.move (Operand.tmp 9), type := 4, pos := _, after := _, guard := none }) (v := .bool true) rfl (by kernel_rfl) (by kernel_rfl) (by kernel_rfl) (fun _ _ _ h => h) (Or.inl ⟨by rfl, fun w' _ => ?_⟩) (by assumption) ?_
    · go_simp
    simp only [Act.put, List.setIfInBounds_toArray, List.set_cons_zero, List.set_cons_succ]
    refine wpAnyH_take (i := 6) (oi := { dst := some 11, op := Op.fieldAddr 40 (Operand.tmp 3) 0, type := 0, pos := _, after := _, guard := some (5, true) }) (v := .pointer (some ⟨w.heap.size, 0, none⟩)) rfl (by kernel_rfl) (by kernel_rfl) (by kernel_rfl) (fun _ _ _ h => h) (Or.inl ⟨by rfl, fun w' _ => ?_⟩) (by assumption) ?_
    · go_simp
    simp only [Act.put, List.setIfInBounds_toArray, List.set_cons_zero, List.set_cons_succ]
    refine wpAnyH_take (i := 7) (oi := { dst := some 12, op := Op.load 38 (Operand.tmp 11), type := 38, pos := _, after := _, guard := some (5, true) }) (v := .int .i64 ((0 : Nat) : Int)) rfl (by kernel_rfl) (by kernel_rfl) (by kernel_rfl) (fun _ _ _ h => h) (Or.inl ⟨by rfl, fun w' hSw => ?_⟩) (by assumption) ?_
    · (obtain ⟨x0, x1, x2⟩ := KT.out _ hSw; go_simp)
    simp only [Act.put, List.setIfInBounds_toArray, List.set_cons_zero, List.set_cons_succ]
    refine wpAnyH_take (i := 8) (oi := { dst := some 13, op := Op.binOp BinOp.eql 38 (Operand.tmp 12) (Operand.const (Value.int IntKind.i64 0)) 38, type := 4, pos := _, after := _, guard := some (5, true) }) (v := .bool true) rfl (by kernel_rfl) (by kernel_rfl) (by kernel_rfl) (fun _ _ _ h => h) (Or.inl ⟨by rfl, fun w' _ => ?_⟩) (by assumption) ?_
    · go_simp
    simp only [Act.put, List.setIfInBounds_toArray, List.set_cons_zero, List.set_cons_succ]
    refine wpAnyH_take (i := 9) (oi := { dst := some 14, op := Op.move (Operand.tmp 13), type := 4, pos := _, after := _, guard := some (5, true) }) (v := .bool true) rfl (by kernel_rfl) (by kernel_rfl) (by kernel_rfl) (fun _ _ _ h => h) (Or.inl ⟨by rfl, fun w' _ => ?_⟩) (by assumption) ?_
    · go_simp
    simp only [Act.put, List.setIfInBounds_toArray, List.set_cons_zero, List.set_cons_succ]
    refine wpAnyH_take (i := 10) (oi := { dst := some 15, op := Op.move (Operand.tmp 0), type := 35, pos := _, after := _, guard := some (9, false) }) (v := undef) rfl (by kernel_rfl) (by kernel_rfl) (by kernel_rfl) (fun _ _ _ h => h) (Or.inr ⟨by rfl, rfl⟩) (by assumption) ?_
    simp only [Act.put, List.setIfInBounds_toArray, List.set_cons_zero, List.set_cons_succ]
    refine wpAnyH_take (i := 11) (oi := { dst := some 16, op := Op.call { callee := Callee.value (Operand.func 44), args := #[Operand.tmp 15], argTypes := #[35] }, type := 3, pos := _, after := _, guard := some (9, false) }) (v := undef) rfl (by kernel_rfl) (by kernel_rfl) (by kernel_rfl) (fun _ _ _ h => h) (Or.inr ⟨by rfl, rfl⟩) (by assumption) ?_
    simp only [Act.put, List.setIfInBounds_toArray, List.set_cons_zero, List.set_cons_succ]
    refine wpAnyH_take (i := 12) (oi := { dst := some 17, op := Op.fieldAddr 40 (Operand.tmp 3) 1, type := 0, pos := _, after := _, guard := some (9, false) }) (v := undef) rfl (by kernel_rfl) (by kernel_rfl) (by kernel_rfl) (fun _ _ _ h => h) (Or.inr ⟨by rfl, rfl⟩) (by assumption) ?_
    simp only [Act.put, List.setIfInBounds_toArray, List.set_cons_zero, List.set_cons_succ]
    refine wpAnyH_take (i := 13) (oi := { dst := some 18, op := Op.load 3 (Operand.tmp 17), type := 3, pos := _, after := _, guard := some (9, false) }) (v := undef) rfl (by kernel_rfl) (by kernel_rfl) (by kernel_rfl) (fun _ _ _ h => h) (Or.inr ⟨by rfl, rfl⟩) (by assumption) ?_
    simp only [Act.put, List.setIfInBounds_toArray, List.set_cons_zero, List.set_cons_succ]
    refine wpAnyH_take (i := 14) (oi := { dst := some 19, op := Op.binOp BinOp.eql 3 (Operand.tmp 16) (Operand.tmp 18) 3, type := 4, pos := _, after := _, guard := some (9, false) }) (v := undef) rfl (by kernel_rfl) (by kernel_rfl) (by kernel_rfl) (fun _ _ _ h => h) (Or.inr ⟨by rfl, rfl⟩) (by assumption) ?_
    simp only [Act.put, List.setIfInBounds_toArray, List.set_cons_zero, List.set_cons_succ]
    refine wpAnyH_take (i := 15) (oi := { dst := some 20, op := Op.move (Operand.tmp 19), type := 4, pos := _, after := _, guard := some (9, false) }) (v := undef) rfl (by kernel_rfl) (by kernel_rfl) (by kernel_rfl) (fun _ _ _ h => h) (Or.inr ⟨by rfl, rfl⟩) (by assumption) ?_
    simp only [Act.put, List.setIfInBounds_toArray, List.set_cons_zero, List.set_cons_succ]
    refine wpAnyH_take (i := 16) (oi := { dst := some 21, op := Op.move (Operand.tmp 0), type := 35, pos := _, after := _, guard := some (15, true) }) (v := undef) rfl (by kernel_rfl) (by kernel_rfl) (by kernel_rfl) (fun _ _ _ h => h) (Or.inr ⟨by rfl, rfl⟩) (by assumption) ?_
    simp only [Act.put, List.setIfInBounds_toArray, List.set_cons_zero, List.set_cons_succ]
    refine wpAnyH_take (i := 17) (oi := { dst := some 22, op := Op.call { callee := Callee.value (Operand.func 45), args := #[Operand.tmp 21], argTypes := #[35] }, type := 3, pos := _, after := _, guard := some (15, true) }) (v := undef) rfl (by kernel_rfl) (by kernel_rfl) (by kernel_rfl) (fun _ _ _ h => h) (Or.inr ⟨by rfl, rfl⟩) (by assumption) ?_
    simp only [Act.put, List.setIfInBounds_toArray, List.set_cons_zero, List.set_cons_succ]
    refine wpAnyH_take (i := 18) (oi := { dst := some 23, op := Op.fieldAddr 40 (Operand.tmp 3) 2, type := 0, pos := _, after := _, guard := some (15, true) }) (v := undef) rfl (by kernel_rfl) (by kernel_rfl) (by kernel_rfl) (fun _ _ _ h => h) (Or.inr ⟨by rfl, rfl⟩) (by assumption) ?_
    simp only [Act.put, List.setIfInBounds_toArray, List.set_cons_zero, List.set_cons_succ]
    refine wpAnyH_take (i := 19) (oi := { dst := some 24, op := Op.load 3 (Operand.tmp 23), type := 3, pos := _, after := _, guard := some (15, true) }) (v := undef) rfl (by kernel_rfl) (by kernel_rfl) (by kernel_rfl) (fun _ _ _ h => h) (Or.inr ⟨by rfl, rfl⟩) (by assumption) ?_
    simp only [Act.put, List.setIfInBounds_toArray, List.set_cons_zero, List.set_cons_succ]
    refine wpAnyH_take (i := 20) (oi := { dst := some 25, op := Op.binOp BinOp.eql 3 (Operand.tmp 22) (Operand.tmp 24) 3, type := 4, pos := _, after := _, guard := some (15, true) }) (v := undef) rfl (by kernel_rfl) (by kernel_rfl) (by kernel_rfl) (fun _ _ _ h => h) (Or.inr ⟨by rfl, rfl⟩) (by assumption) ?_
    simp only [Act.put, List.setIfInBounds_toArray, List.set_cons_zero, List.set_cons_succ]
    refine wpAnyH_take (i := 21) (oi := { dst := some 26, op := Op.pick (Operand.tmp 20) (Operand.tmp 25) (Operand.const (Value.bool false)), type := 4, pos := _, after := _, guard := some (9, false) }) (v := undef) rfl (by kernel_rfl) (by kernel_rfl) (by kernel_rfl) (fun _ _ _ h => h) (Or.inr ⟨by rfl, rfl⟩) (by assumption) ?_
    simp only [Act.put, List.setIfInBounds_toArray, List.set_cons_zero, List.set_cons_succ]
    refine wpAnyH_take (i := 22) (oi := { dst := some 27, op := Op.pick (Operand.tmp 14) (Operand.const (Value.bool true)) (Operand.tmp 26), type := 4, pos := _, after := _, guard := some (5, true) }) (v := .bool true) rfl (by kernel_rfl) (by kernel_rfl) (by kernel_rfl) (fun _ _ _ h => h) (Or.inl ⟨by rfl, fun w' _ => ?_⟩) (by assumption) ?_
    · go_simp
    simp only [Act.put, List.setIfInBounds_toArray, List.set_cons_zero, List.set_cons_succ]
    refine wpAnyH_take (i := 23) (oi := { dst := some 28, op := Op.pick (Operand.tmp 10) (Operand.tmp 27) (Operand.const (Value.bool false)), type := 4, pos := _, after := _, guard := none }) (v := .bool true) rfl (by kernel_rfl) (by kernel_rfl) (by kernel_rfl) (fun _ _ _ h => h) (Or.inl ⟨by rfl, fun w' _ => ?_⟩) (by assumption) ?_
    · go_simp
    simp only [Act.put, List.setIfInBounds_toArray, List.set_cons_zero, List.set_cons_succ]
    refine wpAnyH_take (i := 24) (oi := { dst := some 4, op := Op.assign (Operand.tmp 28), type := 4, pos := _, after := _, guard := none }) (v := .bool true) rfl (by kernel_rfl) (by kernel_rfl) (by kernel_rfl) (fun _ _ _ h => h) (Or.inl ⟨by rfl, fun w' _ => ?_⟩) (by assumption) ?_
    · go_simp
    simp only [Act.put, List.setIfInBounds_toArray, List.set_cons_zero, List.set_cons_succ]
    refine wpAnyH_done (by kernel_rfl) ?_ _
    have HI := Lib.hid hi6.bel
    clear hi6 t0 t1 t2
    go_wp2_with fail
    go_ret
    exact ⟨rfl, HI.out⟩
  · have z0 : ((no : Int) == 0) = false := beq_eq_false_iff_ne.2 (by omega)
    have D15 := Lib.hid (fun (W : World) (h : SmIn12E w W S no a r e w.heap.size) => (reason_err h.env.env (h.er.is h0)).mono fun x w' hx => show x = Ending.returned (.int .i64 r) ∧ SmIn12E w w' S no a r e w.heap.size from ⟨hx.1, h.below hx.2⟩)
    have D16 := Lib.hid (fun (W : World) (h : SmIn12E w W S no a r e w.heap.size) => (at_err h.env.env (h.er.is h0)).mono fun x w' hx => show x = Ending.returned (.int .i64 a) ∧ SmIn12E w w' S no a r e w.heap.size from ⟨hx.1, h.below hx.2⟩)
    clear he hE hb0
    go_enter Tryz.func26, Tryz.ntmps26
    go_wp2_with fail
    go_region_held3 (fun W => W.cell? ⟨w.heap.size, 0, none⟩ = some (.int .i64 no) ∧ W.cell? ⟨w.heap.size, 1, none⟩ = some (.int .i64 r) ∧ W.cell? ⟨w.heap.size, 2, none⟩ = some (.int .i64 a))
      (first | assumption | (exact KT.out _ (by assumption)) | (exact KT.out _ (SmIn12E.drewN (by assumption) 1)))
      (first
      | (go_at_call 40; (with_reducible refine (D14.out _ ?_).mono ?_); (first | assumption | exact SmIn12E.drewN (by assumption) 1); rintro x w6 ⟨rfl, hi6⟩)
      | (go_at_call 44; (with_reducible refine (D15.out _ ?_).mono ?_); (first | assumption | exact SmIn12E.drewN (by assumption) 1); rintro x w7 ⟨rfl, hi7⟩)
      | (go_at_call 45; (with_reducible refine (D16.out _ ?_).mono ?_); (first | assumption | exact SmIn12E.drewN (by assumption) 1); rintro x w8 ⟨rfl, hi8⟩))
    have HI := Lib.hid hi8.bel
    clear hi6 hi7 hi8 t0 t1 t2
    go_wp2_with fail
    go_ret
    exact ⟨rfl, HI.out⟩
end Go.Proofs.YtinhecggmakbnaaGreatDoor

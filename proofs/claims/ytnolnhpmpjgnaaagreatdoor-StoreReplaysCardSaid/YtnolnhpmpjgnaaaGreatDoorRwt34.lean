/- What is proved here: what is rewritten (the program's Rewrite). Conditions: few messages, whose parts fit; what the rows list of the package's variables. -/
import Derived.Test.YtnolnhpmpjgnaaaGreatDoorPup34
import Derived.Test.YtnolnhpmpjgnaaaGreatDoorRpl34
namespace Go.Proofs.YtnolnhpmpjgnaaaGreatDoor
set_option maxRecDepth 100000
open Go.RowKit Go.Extern.Stop Go.Stop Go.Extern
def slash : ByteArray := ⟨#[47]⟩
def opL (last : Int) : OV := ⟨3, slash, last, m0⟩
def opG (m : MV) : OV := ⟨1, m.grp, m.seq, m⟩
/-- The record of something, if there is one. -/
def rwP (o : OV) : List ByteArray := if (ptF o).no = 0 then [⟨(ptF o).L.toArray⟩] else []
def rwF (L : List MV) (last : Int) : List ByteArray := rwP (opL last) ++ L.flatMap (fun m => rwP (opG m))
theorem rwP_len (o : OV) : (rwP o).length ≤ 1 := by unfold rwP; split <;> simp
theorem rwF_len (L : List MV) (last : Int) : (rwF L last).length ≤ L.length + 1 := by
  unfold rwF
  rw [List.length_append]
  have h1 := rwP_len (opL last)
  have h2 : (L.flatMap (fun m => rwP (opG m))).length ≤ L.length := by
    induction L with
    | nil => exact Nat.le_refl _
    | cons m L ih =>
      rw [List.flatMap_cons, List.length_append, List.length_cons]
      have := rwP_len (opG m)
      omega
  omega
theorem rwF_next (Q : QL) (last : Int) {k : Nat} (hk : k < Q.length) : rwF ((Q.map QV.m).take (k + 1)) last = rwF ((Q.map QV.m).take k) last ++ rwP (opG (Q.getD k q0).m) := by
  have e : (Q.map QV.m).take (k + 1) = (Q.map QV.m).take k ++ [(Q.getD k q0).m] := by
    rw [List.take_add_one, List.getElem?_map, List.getD_eq_getElem?_getD, List.getElem?_eq_getElem hk]
    rfl
  rw [e]
  unfold rwF
  rw [List.flatMap_append, ← List.append_assoc]
  simp
theorem srd_one (W : World) (s : ByteArray) : SRd (W.alloc (.cells #[.string s] 9)) (some ⟨W.heap.size, 0, none⟩) [s] := fun _ => ⟨W.heap.size, 0, rfl, fun k hk => by
  have hk0 : k = 0 := by simpa using hk
  subst hk0
  exact (Blk.made W 9 #[.string s]).cell 0⟩
def RwSays (w : World) (R : List ByteArray) (x : Ending) (w' : World) : Prop := ∃ A c, x = .returned (.slice A R.length c) ∧ Row w' w.heap.size (.slice A R.length c) R ∧ Below w.heap.size w w'
def QSm (w : World) (q : QV) : Prop := PIn w w.heap.size q.pa q.m.props ∧ q.m.props.length ≤ q.pc ∧ SmallO (opG q.m)
set_option maxHeartbeats 8000000 in
theorem rewrite_any {w : World} {S : Nat → Addr} (hE : Env w S) (Q : QL) (A : Option Addr) (n c : Nat) (last : Int) (hn : n = Q.length) (h : MRd w A Q) (hq : ∀ q ∈ Q, QSm w q) (hl : n ≤ 900) :
    Calls Tryz.prog 16 #[.slice A n c, .int .i64 last] w (RwSays w (rwF (Q.map QV.m) last)) := by
  have hsl : SmallO (opL last) := ⟨show slash.size ≤ 65535 by decide, show e0.size ≤ 65535 by decide, show e0.size ≤ 65535 by decide, show e0.size ≤ 65535 by decide, ⟨Nat.zero_le _, (fun p hp => by cases hp), fun k => by rw [show (opL last).m.props = [] from rfl, List.take_nil]; exact Nat.zero_le _⟩⟩
  have HPL := Lib.hid (put34_any (Bp := 0) hE (opL last) none 0 (Nat.zero_le _) (PIn.nil _ _ _) (Nat.le_refl _) hsl)
  have HPG := Lib.hid (fun (W : World) (hb : Below w.heap.size w W) (q : QV) (hm : q ∈ Q) => put34_any (hE.later hb) (opG q.m) q.pa q.pc hb.size ((hq q hm).1.below hb) (hq q hm).2.1 (hq q hm).2.2)
  rw [show (opL last).agg none 0 = .agg #[.int .i64 3, .string ⟨#[47]⟩, .int .i64 last, .string ⟨#[]⟩, .string ⟨#[]⟩, .int .i64 0, .bool false, .slice none 0 0, .string ⟨#[]⟩, .int .i64 0, .int .i64 0, .string ⟨#[]⟩] from rfl] at HPL
  obtain ⟨R0, hR0⟩ : ∃ R, R = rwP (opL last) := ⟨_, rfl⟩
  have hst : rwF ((Q.map QV.m).take 0) last = R0 := by rw [hR0]; simp [rwF]
  have hr0 := hR0
  unfold rwP at hr0
  have HST := Lib.hid hst
  have HR0 := Lib.hid hr0
  have HL0 := Lib.hid (show R0.length ≤ 1 by rw [hR0]; exact rwP_len _)
  have HN := Lib.hid hn
  have HS := Lib.hid h
  generalize ptF (opL last) = q at HPL HR0
  clear hE h hq hn hsl hR0 hst hr0
  go_enter Tryz.func16, Tryz.ntmps16
  go_wp2_with (first | (refine wpo_built (l := [(0, .int .i64 3), (1, .string ⟨#[47]⟩), (2, .int .i64 last)]) (c := #[.int .i64 3, .string ⟨#[47]⟩, .int .i64 last, .string ⟨#[]⟩, .string ⟨#[]⟩, .int .i64 0, .bool false, .slice none 0 0, .string ⟨#[]⟩, .int .i64 0, .int .i64 0, .string ⟨#[]⟩]) (by kernel_rfl) rfl rfl rfl ?_))
  refine HPL.out.mono ?_
  rintro x W1 ⟨e, rfl, he, hb⟩
  by_cases h0 : q.no = 0
  case' pos =>
    unfold ErrOf at he
    rw [if_pos h0] at he
    subst he
    have hal : Below W1.heap.size W1 (W1.alloc (.cells #[.string ⟨q.L.toArray⟩] 9)) := (Below.refl _ _).alloc (Nat.le_refl _) _
    have HB1 := Lib.hid (hb.trans (hal.mono hb.size))
    have HR1 := Lib.hid (show ∃ E : List ByteArray, E = [] ∧ Row (W1.alloc (.cells #[.string ⟨q.L.toArray⟩] 9)) w.heap.size (.slice none 0 0) E from ⟨[], rfl, Row.nil _ _⟩)
    have HSR := Lib.hid (srd_one W1 ⟨q.L.toArray⟩)
    have hx : R0 = [⟨q.L.toArray⟩] := by rw [HR0.out, if_pos h0]
    have HX := Lib.hid hx
    clear h0 hb hal HR0 HPL hx
    go_upto_region 4 with fail
    generalize hvn : Value.slice none 0 0 = vn at HR1 ⊢
    clear hvn
    obtain ⟨E, hE, hrw⟩ := HR1.out
    obtain ⟨a1, c1, rfl⟩ := hrw.form
    have hx := HX.out
    have HX2 := Lib.hid (show R0 = E ++ [⟨q.L.toArray⟩] by rw [hE]; exact hx)
    have HEL := Lib.hid (show E.length = 0 by rw [hE]; rfl)
    clear HR1 HX hx hE
    have HR1 := Lib.hid hrw
    clear hrw
    go_upto_region 5 with (first | (refine append_row (w0 := w) rfl _ _ rfl HB1.out HR1.out rfl ⟨W1.heap.size, 0, none⟩ 1 1 rfl rfl HSR.out (by rw [HEL.out]; simp) ?_; intro v5 W5 hrow hbel; have hrow2 : Row W5 w.heap.size v5 R0 := (by rw [HX2.out]; exact hrow); obtain ⟨a5, c5, rfl⟩ := hrow2.form; have HV := Lib.hid (And.intro hrow2 hbel); clear hrow hrow2 hbel; simp only [Act.put, List.setIfInBounds_toArray, List.set_cons_zero, List.set_cons_succ]))
    clear HB1 HR1 HSR HX2 HEL
  case' neg =>
    obtain ⟨te, ue, rfl⟩ := err_iface he h0
    have hx : R0 = [] := by rw [HR0.out, if_neg h0]
    have HV := Lib.hid (show Row W1 w.heap.size (.slice none 0 0) R0 ∧ Below w.heap.size w W1 from ⟨by rw [hx]; exact Row.nil _ _, hb⟩)
    clear h0 hb he HR0 HPL hx
    go_upto_region 5 with fail
  all_goals
    go_wp2_with fail
    go_loopw [5, 26] (fun x z wr => ∃ k : Nat, ∃ R : List ByteArray, ∃ v : Value, k ≤ n ∧ z = .int .i64 k ∧ x = v ∧ rwF ((Q.map QV.m).take k) last = R ∧ R.length ≤ k + 1 ∧ Row wr w.heap.size v R ∧ Below w.heap.size w wr) (fun _ z _ => n - (intOf z).toNat)
    case atStart => exact ⟨0, R0, _, Nat.zero_le _, rfl, rfl, HST.out, HL0.out, HV.out.1, HV.out.2⟩
    case round =>
      obtain ⟨k, R, v, hk, rfl, rfl, hR, hRl, hrow, hbel⟩ := hrel
      by_cases hlt : k < n
      · have hkL : k < Q.length := by have := HN.out; omega
        obtain ⟨g, off, rfl, hc⟩ := HS.out (by omega)
        have hcq := (hc k hkL).at (hbel.block g (lt_of_cell' (hc k hkL).c0))
        have hnx := rwF_next Q last hkL
        have hpg := HPG.out
        rw [hR] at hnx
        have hmq := getD_memQ hkL
        generalize Q.getD k q0 = y at hcq hnx hmq
        have hpg2 := fun (W : World) (hb : Below w.heap.size w W) => HPG.out W hb y hmq
        have hrl := rwP_len (opG y.m)
        obtain ⟨R1, hR1⟩ : ∃ R1, R1 = rwP (opG y.m) := ⟨_, rfl⟩
        rw [← hR1] at hnx hrl
        unfold rwP at hR1
        generalize ptF (opG y.m) = q1 at hR1 hpg2
        obtain ⟨⟨m1, m2, m3, m4, m5, m6, m7, m8, m9⟩, Ap, cp⟩ := y
        have c0 := hcq.c0
        have c1 := hcq.c1
        have c2 := hcq.c2
        have c3 := hcq.c3
        have c4 := hcq.c4
        have c5 := hcq.c5
        have c6 := hcq.c6
        have c7 := hcq.c7
        have c8 := hcq.c8
        simp only at c0 c1 c2 c3 c4 c5 c6 c7 c8
        obtain ⟨np, hnp⟩ : ∃ np, np = m5.length := ⟨_, rfl⟩
        rw [← hnp] at c4
        have hpg3 : ∀ (W : World), Below w.heap.size w W → Calls Tryz.prog 19 #[.agg #[.int .i64 1, .string m9, .int .i64 m8, .string m1, .string m2, .int .i64 m3, .bool m4, .slice Ap np cp, .string m6, .int .i64 m7, .int .i64 m8, .string m9]] W (PtSays W S q1) := by
          intro W hb
          rw [hnp]
          exact hpg2 W hb
        obtain ⟨av, cv, rfl⟩ := hrow.form
        have HP := Lib.hid hpg3
        have HNX := Lib.hid hnx
        have HR1 := Lib.hid hR1
        have HRW := Lib.hid hrow
        have HBL := Lib.hid hbel
        have HRL := Lib.hid hRl
        have HO := Lib.hid (Own.start [] wr)
        have hlt' : (k : Int) < (n : Int) := by omega
        clear hcq hc hpg hpg2 hpg3 hnx hmq hR1 hnp hR hRl hrow hbel hrl hkL
        go_upto_region 8 with (first | (refine wpo_alloc tyM HO.out rfl rfl ?_; clear HO; rintro k9 W2 hO; have HO := Lib.hid hO; clear hO; simp only [Act.put, List.setIfInBounds_toArray, List.set_cons_zero, List.set_cons_succ]) | (refine wpo_store (k := k9) HO.out 0 tyM rfl _ _ rfl rfl rfl rfl rfl rfl rfl ?_; clear HO; rintro W3 hO; have HO := Lib.hid hO; clear hO; simp only [Act.put]))
        clear c0 c1 c2 c3 c4 c5 c6 c7 c8
        have d7 : W3.cell? ⟨k9, 7, none⟩ = some (.int .i64 m8) := (HO.out.get 0 rfl).cell 7
        have d8 : W3.cell? ⟨k9, 8, none⟩ = some (.string m9) := (HO.out.get 0 rfl).cell 8
        go_wp2_with (first
          | (refine wpo_load HO.out 0 tyM rfl rfl _ rfl rfl rfl ?_)
          | (refine wpo_built (l := [(0, .int .i64 1), (1, .string m9), (2, .int .i64 m8), (3, .agg #[.string m1, .string m2, .int .i64 m3, .bool m4, .slice Ap np cp, .string m6, .int .i64 m7, .int .i64 m8, .string m9])]) (c := #[.int .i64 1, .string m9, .int .i64 m8, .string m1, .string m2, .int .i64 m3, .bool m4, .slice Ap np cp, .string m6, .int .i64 m7, .int .i64 m8, .string m9]) (by kernel_rfl) rfl rfl rfl ?_))
        have hb3 := HBL.out.trans (HO.out.bel.mono HBL.out.size)
        have HRW3 := Lib.hid (HRW.out.below HO.out.bel)
        refine (HP.out _ hb3).mono ?_
        rintro x W4 ⟨e, rfl, he, hb⟩
        have hb4 := hb3.trans (hb.mono hb3.size)
        have HRW4 := Lib.hid (HRW3.out.below hb)
        clear d7 d8 HO HRW HRW3 HBL HP hb hb3
        by_cases h0 : q1.no = 0
        · unfold ErrOf at he
          rw [if_pos h0] at he
          subst he
          have hal : Below W4.heap.size W4 (W4.alloc (.cells #[.string ⟨q1.L.toArray⟩] 9)) := (Below.refl _ _).alloc (Nat.le_refl _) _
          have HB1 := Lib.hid (hb4.trans (hal.mono hb4.size))
          have HRR := Lib.hid (HRW4.out.below hal)
          have HSR := Lib.hid (srd_one W4 ⟨q1.L.toArray⟩)
          have hx : R1 = [⟨q1.L.toArray⟩] := by rw [HR1.out, if_pos h0]
          have HX := Lib.hid (show rwF ((Q.map QV.m).take (k + 1)) last = R ++ [⟨q1.L.toArray⟩] by rw [HNX.out, hx])
          clear h0 hb4 hal HR1 hx HNX HRW4
          go_wp2_with (first | (refine append_row (w0 := w) rfl _ _ rfl HB1.out HRR.out rfl ⟨W4.heap.size, 0, none⟩ 1 1 rfl rfl HSR.out (by have := HRL.out; simp; omega) ?_; intro v5 W5 hrow hbel; obtain ⟨a5, c5, rfl⟩ := hrow.form; have HV2 := Lib.hid (And.intro hrow hbel); clear hrow hbel; simp only [Act.put, List.setIfInBounds_toArray, List.set_cons_zero, List.set_cons_succ]))
          clear HB1 HRR HSR
          go_roundw
          case rel => exact ⟨k + 1, R ++ [⟨q1.L.toArray⟩], _, hlt, by go_num, rfl, HX.out, by have := HRL.out; simp; omega, HV2.out.1, HV2.out.2⟩
          case measure => simp [intOf]; omega
        · obtain ⟨te, ue, rfl⟩ := err_iface he h0
          have hx : R1 = [] := by rw [HR1.out, if_neg h0]
          have HX := Lib.hid (show rwF ((Q.map QV.m).take (k + 1)) last = R by rw [HNX.out, hx, List.append_nil])
          have HB4 := Lib.hid hb4
          clear h0 hb4 he HR1 hx HNX
          go_wp2_with fail
          go_roundw
          case rel => exact ⟨k + 1, R, _, hlt, by go_num, rfl, HX.out, by have := HRL.out; omega, HRW4.out, HB4.out⟩
          case measure => simp [intOf]; omega
      · obtain rfl : k = n := by omega
        have hfull : (Q.map QV.m).take k = Q.map QV.m := List.take_of_length_le (by rw [List.length_map, HN.out]; exact Nat.le_refl _)
        rw [hfull] at hR
        obtain ⟨av, cv, rfl⟩ := hrow.form
        have HR := Lib.hid hR
        have HRW := Lib.hid hrow
        have HBL := Lib.hid hbel
        clear hR hrow hbel hfull hRl hlt hk
        go_wp2_with fail
        go_ret
        have hR := HR.out
        have hrow := HRW.out
        clear HR HRW
        subst hR
        exact ⟨av, cv, rfl, hrow, HBL.out⟩
end Go.Proofs.YtnolnhpmpjgnaaaGreatDoor

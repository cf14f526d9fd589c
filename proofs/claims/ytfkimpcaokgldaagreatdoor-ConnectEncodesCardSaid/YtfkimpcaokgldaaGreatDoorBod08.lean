/- What is proved here: what the package body writes and reads: a reason with properties, and a frame. Conditions: the writer, the reader and the packet are there, with few bytes; what the rows list of the package's variables. -/
import Derived.Test.YtfkimpcaokgldaaGreatDoorPut08
import Derived.Test.YtfkimpcaokgldaaGreatDoorRsa05
import Derived.Test.YtfkimpcaokgldaaGreatDoorPkx08
namespace Go.Proofs.YtfkimpcaokgldaaGreatDoor
set_option maxRecDepth 100000
open Go.RowKit Go.Extern.Stop Go.Stop Go.Extern
theorem prow_base {w : World} {B B' : Nat} {v : Value} {L : PL} (h : PRow w B' v L) (hb : B ≤ B') : PRow w B v L := by
  obtain ⟨h1, h2⟩ := h
  refine ⟨h1, ?_⟩
  rcases h2 with h2 | ⟨gr, cap, cur, rfl, hB, h3⟩
  · exact .inl h2
  · exact .inr ⟨gr, cap, cur, rfl, Nat.le_trans hb hB, h3⟩
def TkSays (w : World) (S : Nat → Addr) (g : Nat) (q : TR) (x : Ending) (w' : World) : Prop :=
  ∃ v e, x = .returned (.tuple #[.int .i64 q.code, v, e]) ∧ PRow w' w.heap.size v q.L ∧ ErrOf w' S q.e.r q.e.no q.e.at_ e ∧ Fr [g] w w'
section
variable {z w w' : World} {S : Nat → Addr} {B g : Nat} {s : ByteArray} {R : RV} {v : Value} {W : EV}
theorem TkSays.bad {q : TR} {e : Value} (h0 : q.code = 0) (hL : q.L = []) (he : ErrOf w' S q.e.r q.e.no q.e.at_ e) (hf : Fr [g] w w') : TkSays w S g q (.returned (.tuple #[.int .i64 0, .slice none 0 0, e])) w' :=
  ⟨_, _, by rw [h0]; rfl, by rw [hL]; exact PRow.nil _ _, he, hf⟩
set_option maxHeartbeats 8000000 in
theorem take_any (hE : Env z S) (hz : Below z.heap.size z w) (hg : z.heap.size ≤ g) (ho : RObj w S g s R) (h0 : R.no = 0) (hs : s.size ≤ 900000) (k : Int) :
    Calls Tryz.prog 146 #[.pointer (some ⟨g, 0, none⟩), .int .i64 k] w (TkSays w S g (tkR k s R)) := by
  obtain ⟨q, hq⟩ : ∃ q, q = tkR k s R := ⟨_, rfl⟩
  rw [← hq]
  unfold tkR at hq
  have HE := Lib.hid hE
  have HZ := Lib.hid hz
  have HO := Lib.hid ho
  have HG := Lib.hid hg
  have hle := ho.le
  have HAT := Lib.hid (rat_any ho)
  have HL := Lib.hid (rleft_any ho (by omega))
  obtain ⟨p, hp⟩ : ∃ p, p = R.p := ⟨_, rfl⟩
  rw [← hp] at hq HAT HL hle
  have HP := Lib.hid hp
  have HSZ := Lib.hid hs
  clear hE hz hg ho hp hs
  by_cases h1 : s.size ≤ p
  · rw [if_pos h1] at hq
    have HQ := Lib.hid hq
    have e0 : s.size - p = 0 := by omega
    have hps : p = s.size := by omega
    have HPS := Lib.hid hps
    rw [e0] at HL
    clear hq e0 hle h1 hps
    go_enter Tryz.func146, Tryz.ntmps146
    go_wp2_with fail
    refine HAT.out.mono ?_
    rintro x w1 ⟨rfl, rfl⟩
    go_wp2_with fail
    refine HL.out.mono ?_
    rintro x w1 ⟨rfl, hb1⟩
    have HB1 := Lib.hid hb1
    have h2 := rleft_any (HO.out.below hb1) (by have := HSZ.out; omega)
    rw [← HP.out, ← HPS.out, Nat.sub_self] at h2
    have HL2 := Lib.hid h2
    clear hb1 h2 HL HAT
    go_wp2_with fail
    refine HL2.out.mono ?_
    rintro x w2 ⟨rfl, hb2⟩
    have hb := HB1.out.trans (hb2.mono HB1.out.size)
    have HB2 := Lib.hid hb
    have HD := Lib.hid (rdone_end (HO.out.below hb) h0 (by have := HSZ.out; omega) (by rw [← HP.out]; exact HPS.out))
    clear hb2 hb HL2
    go_wp2_with fail
    refine HD.out.mono ?_
    rintro x w3 ⟨rfl, hb3⟩
    have HX := Lib.hid (show TkSays w S g q (.returned (.tuple #[.int .i64 0, .slice none 0 0, .nilIface])) w3 from by
      rw [HQ.out]
      exact TkSays.bad rfl rfl ErrOf.none (Fr.of_below (HB2.out.trans (hb3.mono HB2.out.size))))
    clear hb3 HD
    go_wp2_with fail
    exact bodyPost_ret (v := .tuple #[.int .i64 0, .slice none 0 0, .nilIface]) (by simp [results, Tryz.results146, go_sem]) rfl HX.out
  · rw [if_neg h1] at hq
    have HQ := Lib.hid hq
    have hl0 : 0 < (((s.size - p : Nat)) : Int) := by omega
    obtain ⟨l, hl⟩ : ∃ l, l = s.size - p := ⟨_, rfl⟩
    rw [← hl] at HL hl0
    have HRL := Lib.hid (rNum_left (s := s) h0 (by rw [← HP.out]; omega))
    clear hq hl
    go_enter Tryz.func146, Tryz.ntmps146
    go_wp2_with fail
    refine HAT.out.mono ?_
    rintro x w1 ⟨rfl, rfl⟩
    go_wp2_with fail
    refine HL.out.mono ?_
    rintro x w1 ⟨rfl, hb1⟩
    have ho1 := HO.out.below hb1
    have hz1 := HZ.out.trans (hb1.mono HZ.out.size)
    have hu := ru8_any (HE.out.later hz1) ho1 (by have := HSZ.out; omega)
    obtain ⟨⟨c, R1⟩, hc⟩ : ∃ c, c = rNum s 1 R := ⟨_, rfl⟩
    rw [← hc] at hu HRL
    have hqq := HQ.out
    rw [← hc] at hqq
    simp only at hu hqq
    have hR1 : R1 = ⟨R.p + 1, 0, R.ea⟩ := HRL.out
    have HU := Lib.hid hu
    have HB1 := Lib.hid hb1
    have HZ1 := Lib.hid hz1
    have HQ1 := Lib.hid hqq
    have HR1 := Lib.hid hR1
    clear hb1 ho1 hz1 hu hc hqq hR1 HL HAT HRL HQ
    go_wp2_with fail
    refine HU.out.mono ?_
    rintro x w2 ⟨rfl, hn2⟩
    have HN2 := Lib.hid (hn2.pre HB1.out)
    have HZ2 := Lib.hid (hn2.later HG.out HZ1.out.size HZ1.out)
    clear hn2 HU HB1 HZ1
    have HAL := Lib.hid (fun w => rs_allowed k c w)
    have hqq := HQ1.out
    cases ha : allowedB k c with
    | false =>
      rw [ha, if_pos rfl] at hqq
      rw [ha] at HAL
      have HQ2 := Lib.hid hqq
      have kM := (HE.out.later HZ2.out).kMalformed
      have HNW := Lib.hid (new_err (w := w2) S 1 129 (p : Int))
      clear hqq ha
      go_wp2_with fail
      refine (HAL.out _).mono ?_
      rintro x w3 ⟨rfl, rfl⟩
      go_wp2_with fail
      refine HNW.out.mono ?_
      rintro x w4 ⟨e, rfl, he, hb4⟩
      have HX := Lib.hid (show TkSays w S g q (.returned (.tuple #[.int .i64 0, .slice none 0 0, e])) w4 from by
        rw [HQ2.out]
        exact TkSays.bad rfl rfl (ErrOf.some (no := 2) (by decide) (by decide) he) (HN2.out.below hb4).fr)
      clear he hb4 HNW
      go_wp2_with fail
      exact bodyPost_ret (v := .tuple #[.int .i64 0, .slice none 0 0, e]) (by simp [results, Tryz.results146, go_sem]) rfl HX.out
    | true =>
      rw [ha, if_neg (by decide)] at hqq
      rw [ha] at HAL
      have HQ2 := Lib.hid hqq
      have hl2 := rleft_any HN2.out.obj (by have := HSZ.out; omega)
      rw [HR1.out, ← HP.out] at hl2
      simp only at hl2
      have HL2 := Lib.hid hl2
      clear hqq ha hl2
      go_wp2_with fail
      refine (HAL.out _).mono ?_
      rintro x w3 ⟨rfl, rfl⟩
      by_cases h3 : s.size ≤ p + 1
      · have hqq := HQ2.out
        rw [if_pos h3] at hqq
        have HQ3 := Lib.hid hqq
        have e0 : s.size - (p + 1) = 0 := by omega
        have hps : R1.p = s.size := by rw [HR1.out, ← HP.out]; show p + 1 = _; omega
        have HPS := Lib.hid hps
        rw [e0] at HL2
        clear hqq e0 hps HQ1 HQ2
        go_wp2_with fail
        refine HL2.out.mono ?_
        rintro x w4 ⟨rfl, hb4⟩
        have HN4 := Lib.hid (HN2.out.below hb4)
        have HD := Lib.hid (rdone_end HN4.out.obj (by rw [HR1.out]) (by have := HSZ.out; omega) HPS.out)
        clear hb4 HL2 HN2
        go_wp2_with fail
        refine HD.out.mono ?_
        rintro x w5 ⟨rfl, hb5⟩
        have HX := Lib.hid (show TkSays w S g q (.returned (.tuple #[.int .i64 c, .slice none 0 0, .nilIface])) w5 from by
          rw [HQ3.out]
          exact ⟨_, _, rfl, PRow.nil _ _, ErrOf.none, (HN4.out.below hb5).fr⟩)
        clear hb5 HD
        go_wp2_with fail
        exact bodyPost_ret (v := .tuple #[.int .i64 c, .slice none 0 0, .nilIface]) (by simp [results, Tryz.results146, go_sem]) rfl HX.out
      · have hqq := HQ2.out
        rw [if_neg h3] at hqq
        have HQ3 := Lib.hid hqq
        have hl0' : 0 < (((s.size - (p + 1) : Nat)) : Int) := by omega
        obtain ⟨l2, hl2⟩ : ∃ l, l = s.size - (p + 1) := ⟨_, rfl⟩
        rw [← hl2] at HL2 hl0'
        clear hqq hl2 h3 HQ1 HQ2
        go_wp2_with fail
        refine HL2.out.mono ?_
        rintro x w4 ⟨rfl, hb4⟩
        have HN4 := Lib.hid (HN2.out.below hb4)
        have HZ4 := Lib.hid (HZ2.out.trans (hb4.mono HZ2.out.size))
        have hrd := pread_any HE.out HZ4.out HG.out HN4.out.obj HSZ.out k
        have hno := readF_no (k := k) (s := s) (R := R1)
        obtain ⟨⟨⟨qn, qr, qa, M⟩, R2⟩, hrq⟩ : ∃ q, q = readF k s R1 := ⟨_, rfl⟩
        have hqq := HQ3.out
        rw [← hrq] at hrd hno hqq
        simp only at hno hqq
        have HRD := Lib.hid hrd
        have HNO := Lib.hid hno
        have HQ4 := Lib.hid hqq
        clear hb4 hrd hno hrq hqq HL2 HN2 HQ3 HZ2
        go_wp2_with fail
        refine HRD.out.mono ?_
        rintro x w5 ⟨v5, e5, rfl, hr5, he5, hn5⟩
        simp only at hr5 he5 hn5
        have HN5 := Lib.hid (HN4.out.trans hn5)
        have hsz4 := HN4.out.fr.size
        obtain ⟨a5, n5, c5, rfl, hnn5, hcc5⟩ := hr5.some_form
        have hqq := HQ4.out
        by_cases hqn : qn = 0
        · subst hqn
          rw [if_pos rfl] at hqq
          unfold ErrOf at he5
          rw [if_pos rfl] at he5
          subst he5
          have HR5 := Lib.hid hr5
          have HNN := Lib.hid hnn5
          have h20 := HNO.out rfl
          by_cases hlt : R2.p < s.size
          · rw [if_pos hlt] at hqq
            have HQ5 := Lib.hid hqq
            have HD := Lib.hid (rdone_left (HE.out.later (hn5.later HG.out HZ4.out.size HZ4.out)) HN5.out.obj h20 (by have := HSZ.out; omega) hlt)
            clear hqq hlt hr5 hnn5 hn5 h20 hcc5 HQ4 HRD
            go_wp2_with fail
            refine HD.out.mono ?_
            rintro x w6 ⟨e6, rfl, he6, hb6⟩
            obtain ⟨t6, u6, rfl⟩ := err_iface he6 (by decide)
            have HX := Lib.hid (show TkSays w S g q (.returned (.tuple #[.int .i64 0, .slice none 0 0, .iface t6 u6])) w6 from by
              rw [HQ5.out]
              exact TkSays.bad rfl rfl he6 (HN5.out.below hb6).fr)
            clear he6 hb6 HD
            go_wp2_with fail
            exact bodyPost_ret (v := .tuple #[.int .i64 0, .slice none 0 0, .iface t6 u6]) (by simp [results, Tryz.results146, go_sem]) rfl HX.out
          · rw [if_neg hlt] at hqq
            have HQ5 := Lib.hid hqq
            have HD := Lib.hid (rdone_end HN5.out.obj h20 (by have := HSZ.out; omega) (by have := HN5.out.obj.le; omega))
            clear hqq hlt hr5 hnn5 hn5 h20 hcc5 HQ4 HRD
            go_wp2_with fail
            refine HD.out.mono ?_
            rintro x w6 ⟨rfl, hb6⟩
            have HX := Lib.hid (show TkSays w S g q (.returned (.tuple #[.int .i64 c, .slice a5 n5 c5, .nilIface])) w6 from by
              rw [HQ5.out]
              exact ⟨_, _, rfl, (prow_base HR5.out hsz4).below hb6, ErrOf.none, (HN5.out.below hb6).fr⟩)
            clear hb6 HD
            go_wp2_with fail
            exact bodyPost_ret (v := .tuple #[.int .i64 c, .slice a5 n5 c5, .nilIface]) (by simp [results, Tryz.results146, go_sem]) rfl HX.out
        · rw [if_neg hqn] at hqq
          obtain ⟨t5, u5, rfl⟩ := err_iface he5 hqn
          have HX := Lib.hid (show TkSays w S g q (.returned (.tuple #[.int .i64 0, .slice none 0 0, .iface t5 u5])) w5 from by
            rw [hqq]
            exact TkSays.bad rfl rfl he5 HN5.out.fr)
          clear hqq he5 hr5 hn5 hnn5 hcc5 HQ4 HRD
          go_wp2_with fail
          exact bodyPost_ret (v := .tuple #[.int .i64 0, .slice none 0 0, .iface t5 u5]) (by simp [results, Tryz.results146, go_sem]) rfl HX.out
def PtSays (w : World) (S : Nat → Addr) (B g : Nat) (v : Value) (q : Er × EV) (x : Ending) (w' : World) : Prop := ∃ e v', x = .returned e ∧ ErrOf w' S q.1.r q.1.no q.1.at_ e ∧ WNext w w' S B g v v' q.2
theorem stepW_num_len (W : EV) (n : Int) : (stepW W (numE 1 n)).L.length ≤ W.L.length + 1 := by
  have h1 := stepW_len W (numE 1 n)
  have h2 := numE_len 1 n
  omega
theorem encR_len {k : Int} {L : PL} (hS : SmallP L) : (encR k L).L.length ≤ 63844 := by
  by_cases h : (encR k L).no = 0
  · obtain ⟨_, _, he⟩ := encR_ok h
    have h1 := wr6_len hS L.length
    rw [List.take_length] at h1
    have h2 := (vb_len (wrAll (actsL6 L)).L.length (by omega)).2
    rw [he, List.length_append]
    omega
  · have : (encR k L).L = [] := by
      unfold encR at h ⊢
      split
      · rename_i h1
        rw [if_pos h1] at h
        split
        · rename_i h2
          rw [if_pos h2] at h
          exact absurd rfl h
        · rfl
      · rfl
    rw [this]
    exact Nat.zero_le _
set_option maxHeartbeats 8000000 in
theorem put_any (hE : Env w S) (h : WObj w S B g v W) (hl : W.L.length ≤ 600000) {A : PkA} {p : Pk} (hp : PkIn w w.heap.size A p) (hS : SmallP p.props) :
    Calls Tryz.prog 155 #[.pointer (some ⟨g, 0, none⟩), p.agg A] w (PtSays w S B g v (putR W p.kind p.reason p.props)) := by
  obtain ⟨q, hq⟩ : ∃ q, q = putR W p.kind p.reason p.props := ⟨_, rfl⟩
  rw [← hq]
  unfold putR at hq
  have hb1 : Below w.heap.size w (w.alloc (.cells (p.cells A) 29)) := (Below.refl _ _).alloc (Nat.le_refl _) _
  have HE := Lib.hid (hE.later hb1)
  have HO := Lib.hid (h.below hb1)
  have hpp := hp.below hb1
  have hen := encode_any (hE.later hb1) p.kind p.props.length A.pc rfl (hpp.pr.mono hb1.size) hS hp.pc
  have HLE := Lib.hid (encR_len (k := p.kind) hS)
  have K1 := Blk.made w 29 (p.cells A)
  obtain ⟨kd, id, rs, L, cl, kp, ct, wh, wt, wp, wq, wr, M, hu, us, hpp', ps, pr, tp, pl, qs, rt, dp, sb, fl, cd⟩ := p
  obtain ⟨xp, xpc, xw, xwc, xs, xsc, xf, xfc, xc, xcc⟩ := A
  unfold Pk.agg
  unfold Pk.cells at *
  simp only at hq hen HLE K1 hb1 HE HO hS ⊢
  have HB1 := Lib.hid hb1
  have HEN := Lib.hid hen
  have HK1 := Lib.hid K1
  obtain ⟨nL, hnL⟩ : ∃ n, n = L.length := ⟨_, rfl⟩
  rw [← hnL] at HEN HE HO HB1 HK1 ⊢
  clear hb1 hen K1 hpp hp hE h hS
  generalize M.length = nM at *
  generalize sb.length = nS at *
  generalize fl.length = nF at *
  generalize cd.length = nC at *
  by_cases h0 : L = []
  · subst h0
    rw [if_pos rfl] at hq
    obtain rfl : nL = 0 := hnL
    by_cases hr : rs = 0
    · rw [if_pos hr] at hq
      have HX := Lib.hid (show PtSays w S B g v q (.returned .nilIface) _ from by
        rw [hq]
        exact ⟨_, _, rfl, ErrOf.none, (HO.out.step (Below.refl _ _)).pre HB1.out⟩)
      subst hr
      clear HEN hq HLE
      go_enter Tryz.func155, Tryz.ntmps155
      go_wp2_with fail
      go_ret
      exact HX.out
    · rw [if_neg hr] at hq
      have HQ := Lib.hid hq
      have HU := Lib.hid (wu8_any HE.out HO.out (by omega) rs)
      clear HEN hq HLE
      go_enter Tryz.func155, Tryz.ntmps155
      go_wp2_with fail
      refine HU.out.mono ?_
      rintro x w2 ⟨rfl, v2, hn2⟩
      have HX := Lib.hid (show PtSays w S B g v q (.returned .nilIface) w2 from by
        rw [HQ.out]
        exact ⟨_, _, rfl, ErrOf.none, hn2.pre HB1.out⟩)
      clear hn2 HU
      go_wp2_with fail
      go_ret
      exact HX.out
  · rw [if_neg h0] at hq
    have hn0 : ¬ nL = 0 := fun hh => h0 (List.eq_nil_of_length_eq_zero (by omega))
    obtain ⟨⟨en, er, ea, eb⟩, hE⟩ : ∃ E, E = encR kd L := ⟨_, rfl⟩
    rw [← hE] at HEN HLE hq
    simp only at HLE hq
    have HQ := Lib.hid hq
    clear hE hq hnL h0
    go_enter Tryz.func155, Tryz.ntmps155
    go_wp2_with fail
    refine HEN.out.mono ?_
    rintro x w2 ⟨e2, rfl, he2, hb2⟩
    simp only at he2
    have k2 := HK1.out.below hb2 HK1.out.lt
    have HO2 := Lib.hid (HO.out.below hb2)
    have HB2 := Lib.hid (HB1.out.trans (hb2.mono HB1.out.size))
    by_cases hen : en = 0
    · subst hen
      have hqq := HQ.out
      rw [if_pos rfl] at hqq
      have HQ2 := Lib.hid hqq
      unfold ErrOf at he2
      rw [if_pos rfl] at he2
      subst he2
      have c2 : w2.cell? ⟨w.heap.size, 2, none⟩ = some (.int .i64 rs) := k2.cell 2
      obtain ⟨t, ht⟩ : ∃ t : ByteArray, t = ⟨eb.toArray⟩ := ⟨_, rfl⟩
      rw [show (⟨(EnR.L ⟨0, er, ea, eb⟩).toArray⟩ : ByteArray) = t from ht.symm]
      have htd : t.data.toList = eb := by rw [ht]
      have hts : t.size = eb.length := slen htd
      have HU := Lib.hid (wu8_any (HE.out.later hb2) HO2.out (by omega) rs)
      have HTD := Lib.hid htd
      have HTS := Lib.hid (show t.size ≤ 65535 from by have := HLE.out; omega)
      have hsl := stepW_num_len W rs
      have HSL := Lib.hid (show (stepW W (numE 1 rs)).L.length ≤ 900000 from by omega)
      clear hqq ht htd hts hb2 k2 HEN HQ HLE hsl
      go_wp2_with fail
      refine HU.out.mono ?_
      rintro x w3 ⟨rfl, v3, hn3⟩
      have HN3 := Lib.hid (hn3.pre HB2.out)
      have HR := Lib.hid (wraw_any hn3.obj HSL.out t HTS.out)
      clear hn3 HU c2
      go_wp2_with fail
      refine HR.out.mono ?_
      rintro x w4 ⟨rfl, v4, hn4⟩
      rw [HTD.out] at hn4
      have HX := Lib.hid (show PtSays w S B g v q (.returned .nilIface) w4 from by
        rw [HQ2.out]
        exact ⟨_, _, rfl, ErrOf.none, HN3.out.trans hn4⟩)
      clear hn4 HR
      go_wp2_with fail
      go_ret
      exact HX.out
    · have hqq := HQ.out
      rw [if_neg hen] at hqq
      obtain ⟨t2, u2, rfl⟩ := err_iface he2 hen
      have HX := Lib.hid (show PtSays w S B g v q (.returned (.iface t2 u2)) w2 from by
        rw [hqq]
        exact ⟨_, _, rfl, he2, (HO.out.step hb2).pre HB1.out⟩)
      clear hqq he2 hb2 k2 HEN HQ
      go_wp2_with fail
      go_ret
      exact HX.out
/-- What Decode tells. -/
def DcSays (w : World) (S : Nat → Addr) (q : Er × Pk) (x : Ending) (w' : World) : Prop := ∃ A e, x = .returned (.tuple #[q.2.agg A, e]) ∧ PkIn w' w.heap.size A q.2 ∧ ErrOf w' S q.1.r q.1.no q.1.at_ e ∧ Below w.heap.size w w'
theorem err_set {r : Int} {no a : Nat} {e : Value} (h : ErrOf w S r no a e) {k : Nat} {t : TypeId} {cs : Array Value} (hb : Blk w k t cs) (ht : t ≠ 111) (i : Nat) (u : Value) : ErrOf (w.setCell ⟨k, i, none⟩ u) S r no a e :=
  err_fr h ((Fr.refl [k] w).setCell (p := ⟨k, i, none⟩) (.inl (List.mem_singleton_self k)) u) (NoF.of fun j hj => by
    rw [List.mem_singleton] at hj
    subst hj
    exact ⟨_, _, hb, ht⟩)
/-- What a frame that is stored into a block leaves. -/
theorem fr_facts {k : Nat} {x y : Value} (h : Blk w k 33 #[x, y]) (u v : Value) :
    (w.cell? ⟨k, 0, none⟩ = some x ∧ w.cell? ⟨k, 1, none⟩ = some y ∧ w.frozen? ⟨k, 0, none⟩ = false ∧ w.frozen? ⟨k, 1, none⟩ = false) ∧
    ((w.setCell ⟨k, 0, none⟩ u).cell? ⟨k, 1, none⟩ = some y ∧ (w.setCell ⟨k, 0, none⟩ u).frozen? ⟨k, 1, none⟩ = false) ∧
    (((w.setCell ⟨k, 0, none⟩ u).setCell ⟨k, 1, none⟩ v).cell? ⟨k, 0, none⟩ = some u ∧ ((w.setCell ⟨k, 0, none⟩ u).setCell ⟨k, 1, none⟩ v).cell? ⟨k, 1, none⟩ = some v) ∧
    ∀ (r : Int) (no a : Nat) (e : Value), ErrOf w S r no a e → ErrOf ((w.setCell ⟨k, 0, none⟩ u).setCell ⟨k, 1, none⟩ v) S r no a e := by
  have h1 := h.store 0 u
  have h2 := h1.store 1 v
  exact ⟨⟨h.cell 0, h.cell 1, h.frozen 0, h.frozen 1⟩, ⟨h1.cell 1, h1.frozen 1⟩, ⟨h2.cell 0, h2.cell 1⟩, fun r no a e he => err_set (err_set he h (by decide) 0 u) h1 (by decide) 1 v⟩
/-- What Encode tells: the error, the first byte, and the other ones. -/
structure FrR where
  e : Er
  first : Int
  s : ByteArray
def frR (W : EV) (first : Int) (q : Er) : FrR :=
  if W.no = 0 then if q.no = 0 then ⟨e00, first, ⟨W.L.toArray⟩⟩ else ⟨q, 0, ⟨#[]⟩⟩ else ⟨⟨W.no, 129, W.at_⟩, 0, ⟨#[]⟩⟩
def FrSays (w : World) (S : Nat → Addr) (q : FrR) (x : Ending) (w' : World) : Prop := ∃ e, x = .returned (.tuple #[.agg #[.int .i64 q.first, .string q.s], e]) ∧ ErrOf w' S q.e.r q.e.no q.e.at_ e ∧ Below w.heap.size w w'
end
end Go.Proofs.YtfkimpcaokgldaaGreatDoor

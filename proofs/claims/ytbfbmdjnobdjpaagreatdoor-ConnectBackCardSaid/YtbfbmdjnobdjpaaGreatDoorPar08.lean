/- What is proved here: what the package body writes and reads: a reason with properties, and a frame. Conditions: the writer, the reader and the packet are there, with few bytes; what the rows list of the package's variables. What is proved here, on plain values: what a frame that was encoded says. No conditions. What is proved here, on plain values: what stands ahead of a reader is read, step by step. Conditions: few bytes. What is proved here, on plain values: parts that follow one another are read as they were written. No conditions but that there are at most 32. -/
import Derived.Test.YtbfbmdjnobdjpaaGreatDoorRde08
import Derived.Test.YtbfbmdjnobdjpaaGreatDoorRsa05
import Derived.Test.YtbfbmdjnobdjpaaGreatDoorPkx08
namespace Go.Proofs.YtbfbmdjnobdjpaaGreatDoor
set_option maxRecDepth 100000
open Go.RowKit Go.Extern.Stop Go.Stop Go.Extern
theorem prow_base {w : World} {B B' : Nat} {v : Value} {L : PL} (h : PRow w B' v L) (hb : B ≤ B') : PRow w B v L := by
  obtain ⟨h1, h2⟩ := h
  refine ⟨h1, ?_⟩
  rcases h2 with h2 | ⟨gr, cap, cur, rfl, hB, h3⟩
  · exact .inl h2
  · exact .inr ⟨gr, cap, cur, rfl, Nat.le_trans hb hB, h3⟩
def TkSays (w : World) (S : Nat → Addr) (g : Nat) (q : TR) (x : Ending) (w' : World) : Prop :=
  ∃ v e, x = .returned (.tuple #[.int .i64 q.code, v, e]) ∧ PRow w' w.heap.size v q.L ∧ ErrOf w' S q.e.r q.e.no q.e.at_ e ∧ Fr [g] w w'
section
variable {z w w' : World} {S : Nat → Addr} {B g : Nat} {s : ByteArray} {R : RV} {v : Value} {W : EV}
theorem TkSays.bad {q : TR} {e : Value} (h0 : q.code = 0) (hL : q.L = []) (he : ErrOf w' S q.e.r q.e.no q.e.at_ e) (hf : Fr [g] w w') : TkSays w S g q (.returned (.tuple #[.int .i64 0, .slice none 0 0, e])) w' :=
  ⟨_, _, by rw [h0]; rfl, by rw [hL]; exact PRow.nil _ _, he, hf⟩
set_option maxHeartbeats 8000000 in
theorem take_any (hE : Env z S) (hz : Below z.heap.size z w) (hg : z.heap.size ≤ g) (ho : RObj w S g s R) (h0 : R.no = 0) (hs : s.size ≤ 900000) (k : Int) :
    Calls Tryz.prog 157 #[.pointer (some ⟨g, 0, none⟩), .int .i64 k] w (TkSays w S g (tkR k s R)) := by
  obtain ⟨q, hq⟩ : ∃ q, q = tkR k s R := ⟨_, rfl⟩
  rw [← hq]
  unfold tkR at hq
  have HE := Lib.hid hE
  have HZ := Lib.hid hz
  have HO := Lib.hid ho
  have HG := Lib.hid hg
  have hle := ho.le
  have HAT := Lib.hid (rat_any ho)
  have HL := Lib.hid (rleft_any ho (by omega))
  obtain ⟨p, hp⟩ : ∃ p, p = R.p := ⟨_, rfl⟩
  rw [← hp] at hq HAT HL hle
  have HP := Lib.hid hp
  have HSZ := Lib.hid hs
  clear hE hz hg ho hp hs
  by_cases h1 : s.size ≤ p
  · rw [if_pos h1] at hq
    have HQ := Lib.hid hq
    have e0 : s.size - p = 0 := by omega
    have hps : p = s.size := by omega
    have HPS := Lib.hid hps
    rw [e0] at HL
    clear hq e0 hle h1 hps
    go_enter Tryz.func157, Tryz.ntmps157
    go_wp2_with fail
    refine HAT.out.mono ?_
    rintro x w1 ⟨rfl, rfl⟩
    go_wp2_with fail
    refine HL.out.mono ?_
    rintro x w1 ⟨rfl, hb1⟩
    have HB1 := Lib.hid hb1
    have h2 := rleft_any (HO.out.below hb1) (by have := HSZ.out; omega)
    rw [← HP.out, ← HPS.out, Nat.sub_self] at h2
    have HL2 := Lib.hid h2
    clear hb1 h2 HL HAT
    go_wp2_with fail
    refine HL2.out.mono ?_
    rintro x w2 ⟨rfl, hb2⟩
    have hb := HB1.out.trans (hb2.mono HB1.out.size)
    have HB2 := Lib.hid hb
    have HD := Lib.hid (rdone_end (HO.out.below hb) h0 (by have := HSZ.out; omega) (by rw [← HP.out]; exact HPS.out))
    clear hb2 hb HL2
    go_wp2_with fail
    refine HD.out.mono ?_
    rintro x w3 ⟨rfl, hb3⟩
    have HX := Lib.hid (show TkSays w S g q (.returned (.tuple #[.int .i64 0, .slice none 0 0, .nilIface])) w3 from by
      rw [HQ.out]
      exact TkSays.bad rfl rfl ErrOf.none (Fr.of_below (HB2.out.trans (hb3.mono HB2.out.size))))
    clear hb3 HD
    go_wp2_with fail
    exact bodyPost_ret (v := .tuple #[.int .i64 0, .slice none 0 0, .nilIface]) (by simp [results, Tryz.results157, go_sem]) rfl HX.out
  · rw [if_neg h1] at hq
    have HQ := Lib.hid hq
    have hl0 : 0 < (((s.size - p : Nat)) : Int) := by omega
    obtain ⟨l, hl⟩ : ∃ l, l = s.size - p := ⟨_, rfl⟩
    rw [← hl] at HL hl0
    have HRL := Lib.hid (rNum_left (s := s) h0 (by rw [← HP.out]; omega))
    clear hq hl
    go_enter Tryz.func157, Tryz.ntmps157
    go_wp2_with fail
    refine HAT.out.mono ?_
    rintro x w1 ⟨rfl, rfl⟩
    go_wp2_with fail
    refine HL.out.mono ?_
    rintro x w1 ⟨rfl, hb1⟩
    have ho1 := HO.out.below hb1
    have hz1 := HZ.out.trans (hb1.mono HZ.out.size)
    have hu := ru8_any (HE.out.later hz1) ho1 (by have := HSZ.out; omega)
    obtain ⟨⟨c, R1⟩, hc⟩ : ∃ c, c = rNum s 1 R := ⟨_, rfl⟩
    rw [← hc] at hu HRL
    have hqq := HQ.out
    rw [← hc] at hqq
    simp only at hu hqq
    have hR1 : R1 = ⟨R.p + 1, 0, R.ea⟩ := HRL.out
    have HU := Lib.hid hu
    have HB1 := Lib.hid hb1
    have HZ1 := Lib.hid hz1
    have HQ1 := Lib.hid hqq
    have HR1 := Lib.hid hR1
    clear hb1 ho1 hz1 hu hc hqq hR1 HL HAT HRL HQ
    go_wp2_with fail
    refine HU.out.mono ?_
    rintro x w2 ⟨rfl, hn2⟩
    have HN2 := Lib.hid (hn2.pre HB1.out)
    have HZ2 := Lib.hid (hn2.later HG.out HZ1.out.size HZ1.out)
    clear hn2 HU HB1 HZ1
    have HAL := Lib.hid (fun w => rs_allowed k c w)
    have hqq := HQ1.out
    cases ha : allowedB k c with
    | false =>
      rw [ha, if_pos rfl] at hqq
      rw [ha] at HAL
      have HQ2 := Lib.hid hqq
      have kM := (HE.out.later HZ2.out).kMalformed
      have HNW := Lib.hid (new_err (w := w2) S 1 129 (p : Int))
      clear hqq ha
      go_wp2_with fail
      refine (HAL.out _).mono ?_
      rintro x w3 ⟨rfl, rfl⟩
      go_wp2_with fail
      refine HNW.out.mono ?_
      rintro x w4 ⟨e, rfl, he, hb4⟩
      have HX := Lib.hid (show TkSays w S g q (.returned (.tuple #[.int .i64 0, .slice none 0 0, e])) w4 from by
        rw [HQ2.out]
        exact TkSays.bad rfl rfl (ErrOf.some (no := 2) (by decide) (by decide) he) (HN2.out.below hb4).fr)
      clear he hb4 HNW
      go_wp2_with fail
      exact bodyPost_ret (v := .tuple #[.int .i64 0, .slice none 0 0, e]) (by simp [results, Tryz.results157, go_sem]) rfl HX.out
    | true =>
      rw [ha, if_neg (by decide)] at hqq
      rw [ha] at HAL
      have HQ2 := Lib.hid hqq
      have hl2 := rleft_any HN2.out.obj (by have := HSZ.out; omega)
      rw [HR1.out, ← HP.out] at hl2
      simp only at hl2
      have HL2 := Lib.hid hl2
      clear hqq ha hl2
      go_wp2_with fail
      refine (HAL.out _).mono ?_
      rintro x w3 ⟨rfl, rfl⟩
      by_cases h3 : s.size ≤ p + 1
      · have hqq := HQ2.out
        rw [if_pos h3] at hqq
        have HQ3 := Lib.hid hqq
        have e0 : s.size - (p + 1) = 0 := by omega
        have hps : R1.p = s.size := by rw [HR1.out, ← HP.out]; show p + 1 = _; omega
        have HPS := Lib.hid hps
        rw [e0] at HL2
        clear hqq e0 hps HQ1 HQ2
        go_wp2_with fail
        refine HL2.out.mono ?_
        rintro x w4 ⟨rfl, hb4⟩
        have HN4 := Lib.hid (HN2.out.below hb4)
        have HD := Lib.hid (rdone_end HN4.out.obj (by rw [HR1.out]) (by have := HSZ.out; omega) HPS.out)
        clear hb4 HL2 HN2
        go_wp2_with fail
        refine HD.out.mono ?_
        rintro x w5 ⟨rfl, hb5⟩
        have HX := Lib.hid (show TkSays w S g q (.returned (.tuple #[.int .i64 c, .slice none 0 0, .nilIface])) w5 from by
          rw [HQ3.out]
          exact ⟨_, _, rfl, PRow.nil _ _, ErrOf.none, (HN4.out.below hb5).fr⟩)
        clear hb5 HD
        go_wp2_with fail
        exact bodyPost_ret (v := .tuple #[.int .i64 c, .slice none 0 0, .nilIface]) (by simp [results, Tryz.results157, go_sem]) rfl HX.out
      · have hqq := HQ2.out
        rw [if_neg h3] at hqq
        have HQ3 := Lib.hid hqq
        have hl0' : 0 < (((s.size - (p + 1) : Nat)) : Int) := by omega
        obtain ⟨l2, hl2⟩ : ∃ l, l = s.size - (p + 1) := ⟨_, rfl⟩
        rw [← hl2] at HL2 hl0'
        clear hqq hl2 h3 HQ1 HQ2
        go_wp2_with fail
        refine HL2.out.mono ?_
        rintro x w4 ⟨rfl, hb4⟩
        have HN4 := Lib.hid (HN2.out.below hb4)
        have HZ4 := Lib.hid (HZ2.out.trans (hb4.mono HZ2.out.size))
        have hrd := pread_any HE.out HZ4.out HG.out HN4.out.obj HSZ.out k
        have hno := readF_no (k := k) (s := s) (R := R1)
        obtain ⟨⟨⟨qn, qr, qa, M⟩, R2⟩, hrq⟩ : ∃ q, q = readF k s R1 := ⟨_, rfl⟩
        have hqq := HQ3.out
        rw [← hrq] at hrd hno hqq
        simp only at hno hqq
        have HRD := Lib.hid hrd
        have HNO := Lib.hid hno
        have HQ4 := Lib.hid hqq
        clear hb4 hrd hno hrq hqq HL2 HN2 HQ3 HZ2
        go_wp2_with fail
        refine HRD.out.mono ?_
        rintro x w5 ⟨v5, e5, rfl, hr5, he5, hn5⟩
        simp only at hr5 he5 hn5
        have HN5 := Lib.hid (HN4.out.trans hn5)
        have hsz4 := HN4.out.fr.size
        obtain ⟨a5, n5, c5, rfl, hnn5, hcc5⟩ := hr5.some_form
        have hqq := HQ4.out
        by_cases hqn : qn = 0
        · subst hqn
          rw [if_pos rfl] at hqq
          unfold ErrOf at he5
          rw [if_pos rfl] at he5
          subst he5
          have HR5 := Lib.hid hr5
          have HNN := Lib.hid hnn5
          have h20 := HNO.out rfl
          by_cases hlt : R2.p < s.size
          · rw [if_pos hlt] at hqq
            have HQ5 := Lib.hid hqq
            have HD := Lib.hid (rdone_left (HE.out.later (hn5.later HG.out HZ4.out.size HZ4.out)) HN5.out.obj h20 (by have := HSZ.out; omega) hlt)
            clear hqq hlt hr5 hnn5 hn5 h20 hcc5 HQ4 HRD
            go_wp2_with fail
            refine HD.out.mono ?_
            rintro x w6 ⟨e6, rfl, he6, hb6⟩
            obtain ⟨t6, u6, rfl⟩ := err_iface he6 (by decide)
            have HX := Lib.hid (show TkSays w S g q (.returned (.tuple #[.int .i64 0, .slice none 0 0, .iface t6 u6])) w6 from by
              rw [HQ5.out]
              exact TkSays.bad rfl rfl he6 (HN5.out.below hb6).fr)
            clear he6 hb6 HD
            go_wp2_with fail
            exact bodyPost_ret (v := .tuple #[.int .i64 0, .slice none 0 0, .iface t6 u6]) (by simp [results, Tryz.results157, go_sem]) rfl HX.out
          · rw [if_neg hlt] at hqq
            have HQ5 := Lib.hid hqq
            have HD := Lib.hid (rdone_end HN5.out.obj h20 (by have := HSZ.out; omega) (by have := HN5.out.obj.le; omega))
            clear hqq hlt hr5 hnn5 hn5 h20 hcc5 HQ4 HRD
            go_wp2_with fail
            refine HD.out.mono ?_
            rintro x w6 ⟨rfl, hb6⟩
            have HX := Lib.hid (show TkSays w S g q (.returned (.tuple #[.int .i64 c, .slice a5 n5 c5, .nilIface])) w6 from by
              rw [HQ5.out]
              exact ⟨_, _, rfl, (prow_base HR5.out hsz4).below hb6, ErrOf.none, (HN5.out.below hb6).fr⟩)
            clear hb6 HD
            go_wp2_with fail
            exact bodyPost_ret (v := .tuple #[.int .i64 c, .slice a5 n5 c5, .nilIface]) (by simp [results, Tryz.results157, go_sem]) rfl HX.out
        · rw [if_neg hqn] at hqq
          obtain ⟨t5, u5, rfl⟩ := err_iface he5 hqn
          have HX := Lib.hid (show TkSays w S g q (.returned (.tuple #[.int .i64 0, .slice none 0 0, .iface t5 u5])) w5 from by
            rw [hqq]
            exact TkSays.bad rfl rfl he5 HN5.out.fr)
          clear hqq he5 hr5 hn5 hnn5 hcc5 HQ4 HRD
          go_wp2_with fail
          exact bodyPost_ret (v := .tuple #[.int .i64 0, .slice none 0 0, .iface t5 u5]) (by simp [results, Tryz.results157, go_sem]) rfl HX.out
def PtSays (w : World) (S : Nat → Addr) (B g : Nat) (v : Value) (q : Er × EV) (x : Ending) (w' : World) : Prop := ∃ e v', x = .returned e ∧ ErrOf w' S q.1.r q.1.no q.1.at_ e ∧ WNext w w' S B g v v' q.2
theorem stepW_num_len (W : EV) (n : Int) : (stepW W (numE 1 n)).L.length ≤ W.L.length + 1 := by
  have h1 := stepW_len W (numE 1 n)
  have h2 := numE_len 1 n
  omega
theorem encR_len {k : Int} {L : PL} (hS : SmallP L) : (encR k L).L.length ≤ 63844 := by
  by_cases h : (encR k L).no = 0
  · obtain ⟨_, _, he⟩ := encR_ok h
    have h1 := wr6_len hS L.length
    rw [List.take_length] at h1
    have h2 := (vb_len (wrAll (actsL6 L)).L.length (by omega)).2
    rw [he, List.length_append]
    omega
  · have : (encR k L).L = [] := by
      unfold encR at h ⊢
      split
      · rename_i h1
        rw [if_pos h1] at h
        split
        · rename_i h2
          rw [if_pos h2] at h
          exact absurd rfl h
        · rfl
      · rfl
    rw [this]
    exact Nat.zero_le _
set_option maxHeartbeats 8000000 in
theorem put_any (hE : Env w S) (h : WObj w S B g v W) (hl : W.L.length ≤ 600000) {A : PkA} {p : Pk} (hp : PkIn w w.heap.size A p) (hS : SmallP p.props) :
    Calls Tryz.prog 84 #[.pointer (some ⟨g, 0, none⟩), p.agg A] w (PtSays w S B g v (putR W p.kind p.reason p.props)) := by
  obtain ⟨q, hq⟩ : ∃ q, q = putR W p.kind p.reason p.props := ⟨_, rfl⟩
  rw [← hq]
  unfold putR at hq
  have hb1 : Below w.heap.size w (w.alloc (.cells (p.cells A) 29)) := (Below.refl _ _).alloc (Nat.le_refl _) _
  have HE := Lib.hid (hE.later hb1)
  have HO := Lib.hid (h.below hb1)
  have hpp := hp.below hb1
  have hen := encode_any (hE.later hb1) p.kind p.props.length A.pc rfl (hpp.pr.mono hb1.size) hS hp.pc
  have HLE := Lib.hid (encR_len (k := p.kind) hS)
  have K1 := Blk.made w 29 (p.cells A)
  obtain ⟨kd, id, rs, L, cl, kp, ct, wh, wt, wp, wq, wr, M, hu, us, hpp', ps, pr, tp, pl, qs, rt, dp, sb, fl, cd⟩ := p
  obtain ⟨xp, xpc, xw, xwc, xs, xsc, xf, xfc, xc, xcc⟩ := A
  unfold Pk.agg
  unfold Pk.cells at *
  simp only at hq hen HLE K1 hb1 HE HO hS ⊢
  have HB1 := Lib.hid hb1
  have HEN := Lib.hid hen
  have HK1 := Lib.hid K1
  obtain ⟨nL, hnL⟩ : ∃ n, n = L.length := ⟨_, rfl⟩
  rw [← hnL] at HEN HE HO HB1 HK1 ⊢
  clear hb1 hen K1 hpp hp hE h hS
  generalize M.length = nM at *
  generalize sb.length = nS at *
  generalize fl.length = nF at *
  generalize cd.length = nC at *
  by_cases h0 : L = []
  · subst h0
    rw [if_pos rfl] at hq
    obtain rfl : nL = 0 := hnL
    by_cases hr : rs = 0
    · rw [if_pos hr] at hq
      have HX := Lib.hid (show PtSays w S B g v q (.returned .nilIface) _ from by
        rw [hq]
        exact ⟨_, _, rfl, ErrOf.none, (HO.out.step (Below.refl _ _)).pre HB1.out⟩)
      subst hr
      clear HEN hq HLE
      go_enter Tryz.func84, Tryz.ntmps84
      go_wp2_with fail
      go_ret
      exact HX.out
    · rw [if_neg hr] at hq
      have HQ := Lib.hid hq
      have HU := Lib.hid (wu8_any HE.out HO.out (by omega) rs)
      clear HEN hq HLE
      go_enter Tryz.func84, Tryz.ntmps84
      go_wp2_with fail
      refine HU.out.mono ?_
      rintro x w2 ⟨rfl, v2, hn2⟩
      have HX := Lib.hid (show PtSays w S B g v q (.returned .nilIface) w2 from by
        rw [HQ.out]
        exact ⟨_, _, rfl, ErrOf.none, hn2.pre HB1.out⟩)
      clear hn2 HU
      go_wp2_with fail
      go_ret
      exact HX.out
  · rw [if_neg h0] at hq
    have hn0 : ¬ nL = 0 := fun hh => h0 (List.eq_nil_of_length_eq_zero (by omega))
    obtain ⟨⟨en, er, ea, eb⟩, hE⟩ : ∃ E, E = encR kd L := ⟨_, rfl⟩
    rw [← hE] at HEN HLE hq
    simp only at HLE hq
    have HQ := Lib.hid hq
    clear hE hq hnL h0
    go_enter Tryz.func84, Tryz.ntmps84
    go_wp2_with fail
    refine HEN.out.mono ?_
    rintro x w2 ⟨e2, rfl, he2, hb2⟩
    simp only at he2
    have k2 := HK1.out.below hb2 HK1.out.lt
    have HO2 := Lib.hid (HO.out.below hb2)
    have HB2 := Lib.hid (HB1.out.trans (hb2.mono HB1.out.size))
    by_cases hen : en = 0
    · subst hen
      have hqq := HQ.out
      rw [if_pos rfl] at hqq
      have HQ2 := Lib.hid hqq
      unfold ErrOf at he2
      rw [if_pos rfl] at he2
      subst he2
      have c2 : w2.cell? ⟨w.heap.size, 2, none⟩ = some (.int .i64 rs) := k2.cell 2
      obtain ⟨t, ht⟩ : ∃ t : ByteArray, t = ⟨eb.toArray⟩ := ⟨_, rfl⟩
      rw [show (⟨(EnR.L ⟨0, er, ea, eb⟩).toArray⟩ : ByteArray) = t from ht.symm]
      have htd : t.data.toList = eb := by rw [ht]
      have hts : t.size = eb.length := slen htd
      have HU := Lib.hid (wu8_any (HE.out.later hb2) HO2.out (by omega) rs)
      have HTD := Lib.hid htd
      have HTS := Lib.hid (show t.size ≤ 65535 from by have := HLE.out; omega)
      have hsl := stepW_num_len W rs
      have HSL := Lib.hid (show (stepW W (numE 1 rs)).L.length ≤ 900000 from by omega)
      clear hqq ht htd hts hb2 k2 HEN HQ HLE hsl
      go_wp2_with fail
      refine HU.out.mono ?_
      rintro x w3 ⟨rfl, v3, hn3⟩
      have HN3 := Lib.hid (hn3.pre HB2.out)
      have HR := Lib.hid (wraw_any hn3.obj HSL.out t HTS.out)
      clear hn3 HU c2
      go_wp2_with fail
      refine HR.out.mono ?_
      rintro x w4 ⟨rfl, v4, hn4⟩
      rw [HTD.out] at hn4
      have HX := Lib.hid (show PtSays w S B g v q (.returned .nilIface) w4 from by
        rw [HQ2.out]
        exact ⟨_, _, rfl, ErrOf.none, HN3.out.trans hn4⟩)
      clear hn4 HR
      go_wp2_with fail
      go_ret
      exact HX.out
    · have hqq := HQ.out
      rw [if_neg hen] at hqq
      obtain ⟨t2, u2, rfl⟩ := err_iface he2 hen
      have HX := Lib.hid (show PtSays w S B g v q (.returned (.iface t2 u2)) w2 from by
        rw [hqq]
        exact ⟨_, _, rfl, he2, (HO.out.step hb2).pre HB1.out⟩)
      clear hqq he2 hb2 k2 HEN HQ
      go_wp2_with fail
      go_ret
      exact HX.out
/-- What Decode tells. -/
def DcSays (w : World) (S : Nat → Addr) (q : Er × Pk) (x : Ending) (w' : World) : Prop := ∃ A e, x = .returned (.tuple #[q.2.agg A, e]) ∧ PkIn w' w.heap.size A q.2 ∧ ErrOf w' S q.1.r q.1.no q.1.at_ e ∧ Below w.heap.size w w'
theorem err_set {r : Int} {no a : Nat} {e : Value} (h : ErrOf w S r no a e) {k : Nat} {t : TypeId} {cs : Array Value} (hb : Blk w k t cs) (ht : t ≠ 125) (i : Nat) (u : Value) : ErrOf (w.setCell ⟨k, i, none⟩ u) S r no a e :=
  err_fr h ((Fr.refl [k] w).setCell (p := ⟨k, i, none⟩) (.inl (List.mem_singleton_self k)) u) (NoF.of fun j hj => by
    rw [List.mem_singleton] at hj
    subst hj
    exact ⟨_, _, hb, ht⟩)
/-- What a frame that is stored into a block leaves. -/
theorem fr_facts {k : Nat} {x y : Value} (h : Blk w k 33 #[x, y]) (u v : Value) :
    (w.cell? ⟨k, 0, none⟩ = some x ∧ w.cell? ⟨k, 1, none⟩ = some y ∧ w.frozen? ⟨k, 0, none⟩ = false ∧ w.frozen? ⟨k, 1, none⟩ = false) ∧
    ((w.setCell ⟨k, 0, none⟩ u).cell? ⟨k, 1, none⟩ = some y ∧ (w.setCell ⟨k, 0, none⟩ u).frozen? ⟨k, 1, none⟩ = false) ∧
    (((w.setCell ⟨k, 0, none⟩ u).setCell ⟨k, 1, none⟩ v).cell? ⟨k, 0, none⟩ = some u ∧ ((w.setCell ⟨k, 0, none⟩ u).setCell ⟨k, 1, none⟩ v).cell? ⟨k, 1, none⟩ = some v) ∧
    ∀ (r : Int) (no a : Nat) (e : Value), ErrOf w S r no a e → ErrOf ((w.setCell ⟨k, 0, none⟩ u).setCell ⟨k, 1, none⟩ v) S r no a e := by
  have h1 := h.store 0 u
  have h2 := h1.store 1 v
  exact ⟨⟨h.cell 0, h.cell 1, h.frozen 0, h.frozen 1⟩, ⟨h1.cell 1, h1.frozen 1⟩, ⟨h2.cell 0, h2.cell 1⟩, fun r no a e he => err_set (err_set he h (by decide) 0 u) h1 (by decide) 1 v⟩
/-- What Encode tells: the error, the first byte, and the other ones. -/
structure FrR where
  e : Er
  first : Int
  s : ByteArray
def frR (W : EV) (first : Int) (q : Er) : FrR :=
  if W.no = 0 then if q.no = 0 then ⟨e00, first, ⟨W.L.toArray⟩⟩ else ⟨q, 0, ⟨#[]⟩⟩ else ⟨⟨W.no, 129, W.at_⟩, 0, ⟨#[]⟩⟩
def FrSays (w : World) (S : Nat → Addr) (q : FrR) (x : Ending) (w' : World) : Prop := ∃ e, x = .returned (.tuple #[.agg #[.int .i64 q.first, .string q.s], e]) ∧ ErrOf w' S q.e.r q.e.no q.e.at_ e ∧ Below w.heap.size w w'
end
end Go.Proofs.YtbfbmdjnobdjpaaGreatDoor
namespace Go.Proofs.YtbfbmdjnobdjpaaGreatDoor
set_option maxRecDepth 100000
open Go.RowKit Go.Extern.Stop Go.Stop Go.Extern
theorem frR_ok8 {W : EV} {first : Int} {q : Er} (h : (frR W first q).e.no = 0) : W.no = 0 ∧ q.no = 0 ∧ frR W first q = ⟨e00, first, ⟨W.L.toArray⟩⟩ := by
  unfold frR at h ⊢
  split at h
  · rename_i h1
    rw [if_pos h1]
    split at h
    · rename_i h2
      rw [if_pos h2]
      exact ⟨h1, h2, rfl⟩
    · rename_i h2; exact absurd h h2
  · rename_i h1; exact absurd h h1
theorem frR_bad8 {W : EV} {first : Int} {q : Er} (h : (frR W first q).e.no ≠ 0) : (frR W first q).first = 0 ∧ (frR W first q).s = ⟨#[]⟩ := by
  unfold frR at h ⊢
  split
  · rename_i h1
    rw [if_pos h1] at h
    split
    · rename_i h2
      rw [if_pos h2] at h
      exact absurd rfl h
    · exact ⟨rfl, rfl⟩
  · exact ⟨rfl, rfl⟩
theorem frR_of8 {W : EV} {first : Int} {q : Er} (h1 : W.no = 0) (h2 : q.no = 0) : frR W first q = ⟨e00, first, ⟨W.L.toArray⟩⟩ := by
  unfold frR
  rw [if_pos h1, if_pos h2]
theorem frR_len8 {W : EV} {first : Int} {q : Er} : (frR W first q).s.size ≤ W.L.length := by
  by_cases h : (frR W first q).e.no = 0
  · obtain ⟨_, _, he⟩ := frR_ok8 h
    rw [he, bsize]
    exact Nat.le_refl _
  · rw [(frR_bad8 h).2]
    exact Nat.zero_le _
end Go.Proofs.YtbfbmdjnobdjpaaGreatDoor
namespace Go.Proofs.YtbfbmdjnobdjpaaGreatDoor
set_option maxRecDepth 100000
open Go.RowKit Go.Extern.Stop Go.Stop Go.Extern
/-- A reader without an error, and what stands ahead of it. -/
def Cur (s : ByteArray) (R : RV) (l : List UInt8) : Prop := ∃ pre, R = ⟨pre.length, 0, 0⟩ ∧ s.data.toList = pre ++ l
section
variable {s : ByteArray} {R : RV} {l : List UInt8}
theorem Cur.start {l : List UInt8} (h : s.data.toList = l) : Cur s ⟨0, 0, 0⟩ l := ⟨[], rfl, h⟩
theorem Cur.no (h : Cur s R l) : R.no = 0 := by
  obtain ⟨pre, rfl, _⟩ := h
  rfl
theorem Cur.len (h : Cur s R l) : R.p + l.length = s.size := by
  obtain ⟨pre, rfl, hs⟩ := h
  have := slen hs
  rw [List.length_append] at this
  exact this.symm
theorem Cur.end_ (h : Cur s R []) : R.p = s.size := by
  have := h.len
  simpa using this
theorem Cur.num {k n : Nat} (hn : n < 256 ^ k) (h : Cur s R (be k n ++ l)) : ∃ R', rNum s k R = (n, R') ∧ R'.p = R.p + k ∧ Cur s R' l := by
  obtain ⟨pre, rfl, hs⟩ := h
  refine ⟨_, rNum_ok hn hs 0, rfl, pre ++ be k n, by rw [List.length_append, be_len], by rw [hs]; simp⟩
theorem Cur.text {t : ByteArray} (ht : (checkOf t).1 = 0) (h : Cur s R ((be 2 t.size ++ t.data.toList) ++ l)) : ∃ R', rText s R = (t, R') ∧ R'.p = R.p + 2 + t.size ∧ Cur s R' l := by
  obtain ⟨pre, rfl, hs⟩ := h
  refine ⟨_, rText_ok ht hs 0, by show pre.length + (2 + t.size) = pre.length + 2 + t.size; omega, pre ++ (be 2 t.size ++ t.data.toList), by rw [List.length_append, List.length_append, be_len, bLen], by rw [hs]; simp⟩
theorem Cur.bin {t : ByteArray} (ht : t.size < 65536) (h : Cur s R ((be 2 t.size ++ t.data.toList) ++ l)) : ∃ R', rBin s R = (t, R') ∧ R'.p = R.p + 2 + t.size ∧ Cur s R' l := by
  obtain ⟨pre, rfl, hs⟩ := h
  refine ⟨_, rBin_ok ht hs 0, by show pre.length + (2 + t.size) = pre.length + 2 + t.size; omega, pre ++ (be 2 t.size ++ t.data.toList), by rw [List.length_append, List.length_append, be_len, bLen], by rw [hs]; simp⟩
theorem Cur.props {k : Int} {L : PL} (he : (encR k L).no = 0) (hsz : ∀ p ∈ L, p.s.size < 65536 ∧ p.v.size < 65536) (hl : (wrAll (actsL6 L)).L.length ≤ 268435455) (h : Cur s R ((encR k L).L ++ l)) : ∃ R', readF k s R = (⟨0, 0, 0, plL L⟩, R') ∧ R'.p = R.p + (encR k L).L.length ∧ Cur s R' l := by
  obtain ⟨pre, rfl, hs⟩ := h
  refine ⟨_, read_enc he hsz hl s pre l 0 hs, rfl, pre ++ (encR k L).L, by rw [List.length_append], by rw [hs]; simp⟩
end
theorem textE_of {t : ByteArray} (ht : (checkOf t).1 = 0) : textE t = ⟨0, 0, be 2 t.size ++ t.data.toList⟩ := by
  unfold textE binE
  rw [if_pos ht]
theorem stepW_text {W : EV} (h : W.no = 0) {t : ByteArray} (ht : (checkOf t).1 = 0) : stepW W (textE t) = ⟨0, W.at_, W.L ++ (be 2 t.size ++ t.data.toList)⟩ := by
  rw [textE_of ht]
  exact stepW_ok h rfl
theorem stepW_bin {W : EV} (h : W.no = 0) (t : ByteArray) : stepW W (binE t) = ⟨0, W.at_, W.L ++ (be 2 t.size ++ t.data.toList)⟩ := stepW_ok h rfl
theorem stepW_num_no {W : EV} {k : Nat} {n : Int} (h : (stepW W (numE k n)).no = 0) : W.no = 0 ∧ ∃ m : Nat, n = m ∧ m < 256 ^ k ∧ stepW W (numE k n) = ⟨0, W.at_, W.L ++ be k m⟩ := by
  obtain ⟨h0, hn, hs⟩ := stepW_no h
  obtain ⟨m, hm, hm2, hmL⟩ := numE_ok hn
  exact ⟨h0, m, hm, hm2, by rw [hs, hmL]⟩
theorem stepW_text_no {W : EV} {t : ByteArray} (h : (stepW W (textE t)).no = 0) : W.no = 0 ∧ (checkOf t).1 = 0 ∧ stepW W (textE t) = ⟨0, W.at_, W.L ++ (be 2 t.size ++ t.data.toList)⟩ := by
  obtain ⟨h0, hn, hs⟩ := stepW_no h
  obtain ⟨ht, htL⟩ := textE_ok hn
  exact ⟨h0, ht, by rw [hs, htL]⟩
theorem stepW_any_no {W : EV} {l : List UInt8} (h : (stepW W ⟨0, 0, l⟩).no = 0) : W.no = 0 ∧ stepW W ⟨0, 0, l⟩ = ⟨0, W.at_, W.L ++ l⟩ := by
  obtain ⟨h0, _, hs⟩ := stepW_no h
  exact ⟨h0, hs⟩
theorem rText_sz {s : ByteArray} {R : RV} (h0 : R.no = 0) (hp : R.p ≤ s.size) (h : (rText s R).2.no = 0) : (checkOf (rText s R).1).1 = 0 ∧ (rText s R).1.size ≤ s.size ∧ (rText s R).2.p ≤ s.size := by
  obtain ⟨k1, k2, k3⟩ := rText_is h0 h
  have := rText_le (s := s) hp
  exact ⟨k1, by omega, this⟩
theorem rBin_sz {s : ByteArray} {R : RV} (h0 : R.no = 0) (hp : R.p ≤ s.size) (h : (rBin s R).2.no = 0) : (rBin s R).1.size ≤ s.size ∧ (rBin s R).1.size < 65536 ∧ (rBin s R).2.p ≤ s.size := by
  obtain ⟨k2, k3⟩ := rBin_is h0 h
  have := rBin_le (s := s) hp
  exact ⟨by omega, k2, this⟩
theorem no_of {R : RV} {X : RV} (h : X.no = 0) (hs : R.no ≠ 0 → X = R) : R.no = 0 := by
  by_cases c : R.no = 0
  · exact c
  · rw [hs c] at h
    exact absurd h c
end Go.Proofs.YtbfbmdjnobdjpaaGreatDoor
namespace Go.Proofs.YtbfbmdjnobdjpaaGreatDoor
set_option maxRecDepth 100000
open Go.RowKit Go.Extern.Stop Go.Stop Go.Extern
/-- What Parts tells, with so many more parts at most. -/
def ptL {X : Type} (rd : RV → Er × X × RV) (s : ByteArray) : Nat → List X → RV → Er × List X
  | 0, L, R => if s.size ≤ R.p then (if L.length = 0 then (⟨3, 130, R.p⟩, []) else (e00, L)) else (⟨4, 149, R.p⟩, [])
  | f + 1, L, R => if s.size ≤ R.p then (if L.length = 0 then (⟨3, 130, R.p⟩, []) else (e00, L)) else if (rd R).1.no = 0 then ptL rd s f (L ++ [(rd R).2.1]) (rd R).2.2 else ((rd R).1, [])
/-- What is known of parts. -/
structure PartK {X : Type} (rd : RV → Er × X × RV) (s : ByteArray) (st : EV → X → EV) (by_ : X → List UInt8) (pre post : X → Prop) : Prop where
  st_no : ∀ W x, (st W x).no = 0 → W.no = 0 ∧ pre x ∧ st W x = ⟨0, W.at_, W.L ++ by_ x⟩
  st_of : ∀ W x, W.no = 0 → pre x → st W x = ⟨0, W.at_, W.L ++ by_ x⟩
  pos : ∀ x, 0 < (by_ x).length
  rd_of : ∀ R x l, Cur s R (by_ x ++ l) → pre x → (rd R).1.no = 0 → ∃ R', rd R = (e00, x, R') ∧ Cur s R' l
  rd_no : ∀ R x l, Cur s R (by_ x ++ l) → post x → (rd R).1.no = 0
  of_rd : ∀ R, R.no = 0 → R.p < s.size → (rd R).1.no = 0 → post (rd R).2.1 ∧ (rd R).2.2.no = 0 ∧ (rd R).2.2.p ≤ s.size
  pre_of : ∀ x, post x → pre x
section
variable {X : Type} {rd : RV → Er × X × RV} {s : ByteArray} {st : EV → X → EV} {by_ : X → List UInt8} {pre post : X → Prop}
theorem ptL_bad (f : Nat) (L : List X) (R : RV) (h : (ptL rd s f L R).1.no ≠ 0) : (ptL rd s f L R).2 = [] := by
  induction f generalizing L R with
  | zero =>
    unfold ptL at h ⊢
    by_cases c : s.size ≤ R.p
    · rw [if_pos c] at h ⊢
      by_cases c1 : L.length = 0
      · rw [if_pos c1]
      · rw [if_neg c1] at h
        exact absurd rfl h
    · rw [if_neg c]
  | succ f ih =>
    unfold ptL at h ⊢
    by_cases c : s.size ≤ R.p
    · rw [if_pos c] at h ⊢
      by_cases c1 : L.length = 0
      · rw [if_pos c1]
      · rw [if_neg c1] at h
        exact absurd rfl h
    · rw [if_neg c] at h ⊢
      by_cases c1 : (rd R).1.no = 0
      · rw [if_pos c1] at h ⊢
        exact ih _ _ h
      · rw [if_neg c1]
theorem PartK.wr (K : PartK rd s st by_ pre post) : ∀ (P : List X) (f : Nat) (L : List X) (R : RV), Cur s R (P.flatMap by_) → (∀ x ∈ P, pre x) → (ptL rd s f L R).1.no = 0 → ptL rd s f L R = (e00, L ++ P) := by
  intro P
  induction P with
  | nil =>
    intro f L R hc _ h
    have he := hc.end_
    cases f with
    | zero =>
      unfold ptL at h ⊢
      rw [if_pos (by omega)] at h ⊢
      by_cases c : L.length = 0
      · rw [if_pos c] at h
        exact absurd (show (3 : Nat) = 0 from h) (by decide)
      · rw [if_neg c, List.append_nil]
    | succ f =>
      unfold ptL at h ⊢
      rw [if_pos (by omega)] at h ⊢
      by_cases c : L.length = 0
      · rw [if_pos c] at h
        exact absurd (show (3 : Nat) = 0 from h) (by decide)
      · rw [if_neg c, List.append_nil]
  | cons x P ih =>
    intro f L R hc hp h
    rw [List.flatMap_cons] at hc
    have hl := hc.len
    have hx := K.pos x
    rw [List.length_append] at hl
    cases f with
    | zero =>
      unfold ptL at h
      rw [if_neg (by omega)] at h
      exact absurd (show (4 : Nat) = 0 from h) (by decide)
    | succ f =>
      unfold ptL at h ⊢
      rw [if_neg (by omega)] at h ⊢
      by_cases c : (rd R).1.no = 0
      · rw [if_pos c] at h ⊢
        obtain ⟨R', e, hc'⟩ := K.rd_of R x _ hc (hp x (List.mem_cons_self ..)) c
        rw [e] at h ⊢
        simp only at h ⊢
        rw [ih f (L ++ [x]) R' hc' (fun y hy => hp y (List.mem_cons_of_mem _ hy)) h, List.append_assoc]
        rfl
      · rw [if_neg c] at h
        exact absurd h c
theorem PartK.of (K : PartK rd s st by_ pre post) : ∀ (P : List X) (f : Nat) (L : List X) (R : RV), Cur s R (P.flatMap by_) → (∀ x ∈ P, post x) → L ++ P ≠ [] → P.length ≤ f → (ptL rd s f L R).1.no = 0 := by
  intro P
  induction P with
  | nil =>
    intro f L R hc _ h0 _
    have he := hc.end_
    rw [List.append_nil] at h0
    have hl : ¬ L.length = 0 := fun hh => h0 (List.eq_nil_of_length_eq_zero hh)
    cases f with
    | zero =>
      unfold ptL
      rw [if_pos (by omega), if_neg hl]
      rfl
    | succ f =>
      unfold ptL
      rw [if_pos (by omega), if_neg hl]
      rfl
  | cons x P ih =>
    intro f L R hc hp h0 hf
    rw [List.flatMap_cons] at hc
    have hl := hc.len
    have hx := K.pos x
    rw [List.length_append] at hl
    cases f with
    | zero => simp at hf
    | succ f =>
      have c := K.rd_no R x _ hc (hp x (List.mem_cons_self ..))
      obtain ⟨R', e, hc'⟩ := K.rd_of R x _ hc (K.pre_of x (hp x (List.mem_cons_self ..))) c
      unfold ptL
      rw [if_neg (by omega), if_pos c, e]
      simp only
      exact ih f (L ++ [x]) R' hc' (fun y hy => hp y (List.mem_cons_of_mem _ hy)) (by simp) (by simpa using hf)
theorem PartK.rdo (K : PartK rd s st by_ pre post) : ∀ (f : Nat) (L : List X) (R : RV), R.no = 0 → R.p ≤ s.size → (ptL rd s f L R).1.no = 0 → ∃ P, ptL rd s f L R = (e00, L ++ P) ∧ (∀ x ∈ P, post x) ∧ L ++ P ≠ [] ∧ P.length ≤ f := by
  intro f
  induction f with
  | zero =>
    intro L R h0 hp h
    unfold ptL at h ⊢
    by_cases c : s.size ≤ R.p
    · rw [if_pos c] at h ⊢
      by_cases c1 : L.length = 0
      · rw [if_pos c1] at h
        exact absurd (show (3 : Nat) = 0 from h) (by decide)
      · rw [if_neg c1]
        exact ⟨[], by rw [List.append_nil], (fun x hx => by cases hx), (fun hh => c1 (by rw [List.append_nil] at hh; rw [hh]; rfl)), Nat.le_refl _⟩
    · rw [if_neg c] at h
      exact absurd (show (4 : Nat) = 0 from h) (by decide)
  | succ f ih =>
    intro L R h0 hp h
    unfold ptL at h ⊢
    by_cases c : s.size ≤ R.p
    · rw [if_pos c] at h ⊢
      by_cases c1 : L.length = 0
      · rw [if_pos c1] at h
        exact absurd (show (3 : Nat) = 0 from h) (by decide)
      · rw [if_neg c1]
        exact ⟨[], by rw [List.append_nil], (fun x hx => by cases hx), (fun hh => c1 (by rw [List.append_nil] at hh; rw [hh]; rfl)), Nat.zero_le _⟩
    · rw [if_neg c] at h ⊢
      by_cases c1 : (rd R).1.no = 0
      · rw [if_pos c1] at h ⊢
        obtain ⟨o1, o2, o3⟩ := K.of_rd R h0 (by omega) c1
        obtain ⟨P, p1, p2, p3, p4⟩ := ih _ _ o2 o3 h
        refine ⟨(rd R).2.1 :: P, by rw [p1, List.append_assoc]; rfl, fun x hx => ?_, by simp, by simpa using p4⟩
        rcases List.mem_cons.1 hx with rfl | hx
        · exact o1
        · exact p2 x hx
      · rw [if_neg c1] at h
        exact absurd h c1
theorem PartK.fold_no (K : PartK rd s st by_ pre post) : ∀ (P : List X) (W : EV), (P.foldl st W).no = 0 → W.no = 0 ∧ (∀ x ∈ P, pre x) ∧ P.foldl st W = ⟨0, (if P.length = 0 then W else ⟨0, W.at_, W.L⟩ : EV).at_, W.L ++ P.flatMap by_⟩ := by
  intro P
  induction P with
  | nil =>
    intro W h
    have h0 : W.no = 0 := h
    refine ⟨h0, (fun x hx => by cases hx), ?_⟩
    obtain ⟨a, b, c⟩ := W
    simp only at h0
    subst h0
    simp
  | cons x P ih =>
    intro W h
    rw [List.foldl_cons] at h ⊢
    obtain ⟨h1, h2, h3⟩ := ih _ h
    obtain ⟨k1, k2, k3⟩ := K.st_no W x h1
    refine ⟨k1, fun y hy => ?_, ?_⟩
    · rcases List.mem_cons.1 hy with rfl | hy
      · exact k2
      · exact h2 y hy
    · rw [h3, k3]
      simp
theorem PartK.fold_of (K : PartK rd s st by_ pre post) : ∀ (P : List X) (W : EV), W.no = 0 → (∀ x ∈ P, pre x) → P.foldl st W = ⟨0, W.at_, W.L ++ P.flatMap by_⟩ := by
  intro P
  induction P with
  | nil =>
    intro W h _
    obtain ⟨a, b, c⟩ := W
    simp only at h
    subst h
    simp
  | cons x P ih =>
    intro W h hp
    rw [List.foldl_cons, K.st_of W x h (hp x (List.mem_cons_self ..)), ih _ rfl (fun y hy => hp y (List.mem_cons_of_mem _ hy))]
    simp
end
/-- A text as a part. -/
def rdT (s : ByteArray) (R : RV) : Er × ByteArray × RV := if (rText s R).2.no = 0 then (e00, (rText s R).1, (rText s R).2) else (⟨(rText s R).2.no, 129, (rText s R).2.ea⟩, ⟨#[]⟩, (rText s R).2)
def stT (W : EV) (t : ByteArray) : EV := stepW W (textE t)
def preT (t : ByteArray) : Prop := (checkOf t).1 = 0
def postT (s : ByteArray) (t : ByteArray) : Prop := (checkOf t).1 = 0 ∧ t.size ≤ s.size
def byT8 (t : ByteArray) : List UInt8 := be 2 t.size ++ t.data.toList
theorem partT (s : ByteArray) : PartK (rdT s) s stT byT8 preT (postT s) where
  st_no W x h := by
    obtain ⟨h0, ht, hs⟩ := stepW_text_no h
    exact ⟨h0, ht, hs⟩
  st_of W x h hp := stepW_text h hp
  pos x := by
    unfold byT8
    rw [List.length_append, be_len]
    omega
  rd_of R x l hc hp h := by
    obtain ⟨R', e, _, hc'⟩ := hc.text hp
    refine ⟨R', ?_, hc'⟩
    unfold rdT
    rw [e]
    simp only
    rw [if_pos hc'.no]
  rd_no R x l hc hp := by
    obtain ⟨R', e, _, hc'⟩ := hc.text hp.1
    unfold rdT
    rw [e]
    simp only
    rw [if_pos hc'.no]
    rfl
  of_rd R h0 hp h := by
    unfold rdT at h ⊢
    by_cases c : (rText s R).2.no = 0
    · rw [if_pos c]
      obtain ⟨k1, k2, k3⟩ := rText_sz h0 (by omega) c
      exact ⟨⟨k1, k2⟩, c, k3⟩
    · rw [if_neg c] at h
      exact absurd h c
  pre_of x h := h.1
/-- A code as a part. -/
def rdC (k : Int) (s : ByteArray) (R : RV) : Er × Int × RV := if allowedB k (rNum s 1 R).1 = true then (e00, ((rNum s 1 R).1 : Int), (rNum s 1 R).2) else (⟨2, 129, R.p⟩, 0, (rNum s 1 R).2)
def stC (W : EV) (c : Int) : EV := stepW W (numE 1 c)
def preC (c : Int) : Prop := ∃ m : Nat, c = m ∧ m < 256
def postC (k : Int) (c : Int) : Prop := allowedB k c = true ∧ ∃ m : Nat, c = m ∧ m < 256
def byC8 (c : Int) : List UInt8 := be 1 c.toNat
theorem partC (k : Int) (s : ByteArray) : PartK (rdC k s) s stC byC8 preC (postC k) where
  st_no W x h := by
    obtain ⟨h0, m, rfl, hm2, hs⟩ := stepW_num_no h
    exact ⟨h0, ⟨m, rfl, by simpa using hm2⟩, by unfold byC8; rw [Int.toNat_natCast]; exact hs⟩
  st_of W x h hp := by
    obtain ⟨m, rfl, hm⟩ := hp
    unfold byC8
    rw [Int.toNat_natCast]
    exact stepW_num h (by omega)
  pos x := by
    unfold byC8
    rw [be_len]
    decide
  rd_of R x l hc hp h := by
    obtain ⟨m, rfl, hm⟩ := hp
    unfold byC8 at hc
    rw [Int.toNat_natCast] at hc
    obtain ⟨R', e, _, hc'⟩ := hc.num (k := 1) (n := m) (by omega)
    refine ⟨R', ?_, hc'⟩
    unfold rdC at h ⊢
    rw [e] at h ⊢
    simp only at h ⊢
    by_cases c : allowedB k m = true
    · rw [if_pos c]
    · rw [if_neg c] at h
      exact absurd (show (2 : Nat) = 0 from h) (by decide)
  rd_no R x l hc hp := by
    obtain ⟨ha, m, rfl, hm⟩ := hp
    unfold byC8 at hc
    rw [Int.toNat_natCast] at hc
    obtain ⟨R', e, _, hc'⟩ := hc.num (k := 1) (n := m) (by omega)
    unfold rdC
    rw [e]
    simp only
    rw [if_pos ha]
    rfl
  of_rd R h0 hp h := by
    unfold rdC at h ⊢
    by_cases c : allowedB k (rNum s 1 R).1 = true
    · rw [if_pos c]
      have h1 := rNum_left (s := s) h0 hp
      have h2 := (rNum_is (n := 1) h0 (by rw [h1])).1
      refine ⟨⟨c, _, rfl, by omega⟩, by simp only; rw [h1], by simp only; rw [h1]; show R.p + 1 ≤ _; omega⟩
    · rw [if_neg c] at h
      exact absurd (show (2 : Nat) = 0 from h) (by decide)
  pre_of x h := h.2
/-- The head of a packet with parts. -/
structure TH where
  e : Er
  id : Nat
  L : PL
  R : RV
def thF (k : Int) (s : ByteArray) : TH :=
  if (rNum s 2 ⟨0, 0, 0⟩).2.no = 0 then
    if (rNum s 2 ⟨0, 0, 0⟩).1 = 0 then ⟨⟨3, 130, 0⟩, 0, [], (rNum s 2 ⟨0, 0, 0⟩).2⟩
    else if (readF k s (rNum s 2 ⟨0, 0, 0⟩).2).1.no = 0 then ⟨e00, (rNum s 2 ⟨0, 0, 0⟩).1, (readF k s (rNum s 2 ⟨0, 0, 0⟩).2).1.L, (readF k s (rNum s 2 ⟨0, 0, 0⟩).2).2⟩
    else ⟨⟨(readF k s (rNum s 2 ⟨0, 0, 0⟩).2).1.no, (readF k s (rNum s 2 ⟨0, 0, 0⟩).2).1.r, (readF k s (rNum s 2 ⟨0, 0, 0⟩).2).1.at_⟩, 0, [], (readF k s (rNum s 2 ⟨0, 0, 0⟩).2).2⟩
  else ⟨⟨(rNum s 2 ⟨0, 0, 0⟩).2.no, 129, (rNum s 2 ⟨0, 0, 0⟩).2.ea⟩, 0, [], (rNum s 2 ⟨0, 0, 0⟩).2⟩
/-- A packet with parts. -/
def pkS (k id : Int) (L : PL) (subs : List SV) (filters : List ByteArray) (codes : List Int) : Pk := ⟨k, id, 0, L, false, 0, ⟨#[]⟩, false, ⟨#[]⟩, ⟨#[]⟩, 0, false, [], false, ⟨#[]⟩, false, ⟨#[]⟩, false, ⟨#[]⟩, ⟨#[]⟩, 0, false, false, subs, filters, codes⟩
structure ThOk (k : Int) (s : ByteArray) : Prop where
  id : (thF k s).id ≠ 0 ∧ (thF k s).id < 65536
  no : (thF k s).R.no = 0
  le : (thF k s).R.p ≤ s.size
  ok : RdOk k s (thF k s).L
theorem th_ok {k : Int} {s : ByteArray} (h : (thF k s).e.no = 0) : ThOk k s := by
  have l1 : (rNum s 2 ⟨0, 0, 0⟩).2.p ≤ s.size := (rTake_le (Nat.zero_le _)).1
  by_cases c1 : (rNum s 2 ⟨0, 0, 0⟩).2.no = 0
  · by_cases c2 : (rNum s 2 ⟨0, 0, 0⟩).1 = 0
    · unfold thF at h
      rw [if_pos c1, if_pos c2] at h
      exact absurd (show (3 : Nat) = 0 from h) (by decide)
    · by_cases c3 : (readF k s (rNum s 2 ⟨0, 0, 0⟩).2).1.no = 0
      · have e : thF k s = ⟨e00, (rNum s 2 ⟨0, 0, 0⟩).1, (readF k s (rNum s 2 ⟨0, 0, 0⟩).2).1.L, (readF k s (rNum s 2 ⟨0, 0, 0⟩).2).2⟩ := by
          unfold thF
          rw [if_pos c1, if_neg c2, if_pos c3]
        constructor <;> rw [e] <;> simp only
        · exact ⟨c2, (rNum_is (n := 2) rfl c1).1⟩
        · exact readF_no c3
        · have h := (rTake_le (n := (rVar s (rNum s 2 ⟨0, 0, 0⟩).2).1) (rVar_le l1)).1
          unfold readF
          split <;> exact h
        · exact rd_ok c3
      · unfold thF at h
        rw [if_pos c1, if_neg c2, if_neg c3] at h
        exact absurd h c3
  · unfold thF at h
    rw [if_neg c1] at h
    exact absurd h c1
theorem th_bad {k : Int} {s : ByteArray} (h : (thF k s).e.no ≠ 0) : (thF k s).id = 0 ∧ (thF k s).L = [] := by
  unfold thF at h ⊢
  by_cases c1 : (rNum s 2 ⟨0, 0, 0⟩).2.no = 0
  · rw [if_pos c1] at h ⊢
    by_cases c2 : (rNum s 2 ⟨0, 0, 0⟩).1 = 0
    · rw [if_pos c2]
      exact ⟨rfl, rfl⟩
    · rw [if_neg c2] at h ⊢
      by_cases c3 : (readF k s (rNum s 2 ⟨0, 0, 0⟩).2).1.no = 0
      · rw [if_pos c3] at h
        exact absurd rfl h
      · rw [if_neg c3]
        exact ⟨rfl, rfl⟩
  · rw [if_neg c1]
    exact ⟨rfl, rfl⟩
/-- What was written ahead is read. -/
theorem th_wr {k : Int} {s : ByteArray} {id : Nat} {L : PL} {l : List UInt8} (hid : id < 65536) (he : (encR k L).no = 0) (hsz : ∀ q ∈ L, q.s.size < 65536 ∧ q.v.size < 65536) (hl : (wrAll (actsL6 L)).L.length ≤ 268435455) (hs : s.data.toList = be 2 id ++ ((encR k L).L ++ l)) :
    if id = 0 then (thF k s).e.no = 3 else ∃ R, thF k s = ⟨e00, id, plL L, R⟩ ∧ Cur s R l := by
  have c0 := Cur.start hs
  obtain ⟨R1, e1, _, c1⟩ := c0.num (k := 2) (n := id) (by omega)
  obtain ⟨R2, e2, _, c2⟩ := c1.props he hsz hl
  split
  · rename_i h0
    unfold thF
    rw [e1]
    simp only
    rw [if_pos c1.no, if_pos h0]
  · rename_i h0
    refine ⟨R2, ?_, c2⟩
    unfold thF
    rw [e1]
    simp only
    rw [if_pos c1.no, if_neg h0, e2]
    simp only
    rw [if_pos trivial]
/-- What PutHead writes. -/
def phW (p : Pk) : EV := stepW (stepW w0 (numE 2 p.id)) ⟨0, 0, (encR p.kind p.props).L⟩
theorem phW_no {p : Pk} (h : (phW p).no = 0) : ∃ m : Nat, p.id = m ∧ m < 65536 ∧ (phW p).L = be 2 m ++ (encR p.kind p.props).L := by
  unfold phW at h ⊢
  obtain ⟨h1, h2⟩ := stepW_any_no h
  obtain ⟨_, m, hm, hm2, h3⟩ := stepW_num_no h1
  exact ⟨m, hm, by omega, by rw [h2, h3]; simp [w0]⟩
theorem phW_of {k : Int} {id : Nat} {L : PL} {a : List SV} {b : List ByteArray} {c : List Int} (h : id < 65536) : phW (pkS k id L a b c) = ⟨0, 0, be 2 id ++ (encR k L).L⟩ := by
  unfold phW
  show stepW (stepW w0 (numE 2 (id : Int))) ⟨0, 0, (encR k L).L⟩ = _
  rw [stepW_num (W := w0) (k := 2) (m := id) rfl (by omega), stepW_raw rfl]
  simp [w0]
end Go.Proofs.YtbfbmdjnobdjpaaGreatDoor

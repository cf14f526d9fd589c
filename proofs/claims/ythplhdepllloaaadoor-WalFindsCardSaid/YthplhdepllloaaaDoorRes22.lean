/- What is proved here: the document's Scan of a log tells what plain functions say. Conditions: few bytes. -/
import Derived.Test.YthplhdepllloaaaDoorRef22
import Derived.Deep.LoopGhost
namespace Go.Proofs.YthplhdepllloaaaDoor
set_option maxRecDepth 100000
open Go.RowKit Go.Extern.Stop Go.Stop Go.Extern
section
variable {w w' : World} {s : ByteArray}
set_option maxHeartbeats 16000000 in
theorem refscan_any (hs : s.size ≤ 7900) {L : List ByteArray} {n : Nat} (hL : ScR s L 0 n) (w : World) :
    Calls Tryd.prog 10 #[.string s] w fun x w' => ∃ a c, x = .returned (.tuple #[.slice a L.length c, .int .i64 n]) ∧ Row w' w.heap.size (.slice a L.length c) L ∧ Below w.heap.size w w' := by
  obtain ⟨Q, hQ⟩ : ∃ Q : Ending → World → Prop, Q = fun x w' => ∃ a c, x = .returned (.tuple #[.slice a L.length c, .int .i64 n]) ∧ Row w' w.heap.size (.slice a L.length c) L ∧ Below w.heap.size w w' := ⟨_, rfl⟩
  rw [← hQ]
  have hlen := scR_len8 hL (Nat.zero_le _)
  have HS := Lib.hid hs
  have HL := Lib.hid hL
  have HQ := Lib.hid hQ
  have HLN := Lib.hid hlen
  have hsz : s.size ≤ 7900 := hs
  clear hs hL hQ hlen
  go_enter Tryd.func10, Tryd.ntmps10
  go_wp2_with fail
  go_loopg [4, 5] L.length (fun gn u i wr => ∃ (p : Nat) (P K : List ByteArray), gn = K.length ∧ i = .int .i64 p ∧ p ≤ s.size ∧ Hid (RcIn w wr u P ∧ ScR s K p n ∧ L = P ++ K))
  case atStart => exact ⟨0, [], L, rfl, rfl, Nat.zero_le _, Lib.hid ⟨⟨Row.nil _ _, Below.refl _ _⟩, HL.out, rfl⟩⟩
  case round =>
    obtain ⟨p, P, K, rfl, rfl, hp, HR⟩ := hrel
    obtain ⟨hi, hk, hl⟩ := HR.out
    obtain ⟨av, nv, cv, rfl, hnv⟩ := hi.row.some_form22
    obtain ⟨t, ht⟩ : ∃ t, t = s.extract p s.size := ⟨_, rfl⟩
    have htz : t.size = s.size - p := by rw [ht, ext_size hp]
    obtain ⟨W1, hW1⟩ : ∃ W, W = wr.alloc (.cells #[.string (s.extract p s.size), .int .i64 0, .int .i64 0, .int .i64 0] 70) := ⟨_, rfl⟩
    have hb1 : Below wr.heap.size wr W1 := by rw [hW1]; exact (Below.refl _ _).alloc (Nat.le_refl _) _
    have ho1 : RRObj W1 wr.heap.size t r00 := by rw [hW1, ← ht]; exact RRObj.made wr t
    have hu := rru32_any ho1 (by omega)
    have hcs := rc_cases (t := t)
    have hraw := fun (W : World) (R : RV) (m : Nat) (h : RRObj W wr.heap.size t R) => rrraw_any h (by omega) m
    obtain ⟨q1, hq1⟩ : ∃ V, V = nxN t := ⟨_, rfl⟩
    rw [show rNum t 4 r00 = nxN t from rfl, ← hq1] at hu
    have hu2 := fun (W : World) (h : RRObj W wr.heap.size t q1.2) => rru32_any h (by omega)
    rw [show rNum t 4 q1.2 = nxS t from by rw [hq1]; rfl] at hu2
    obtain ⟨q2, hq2⟩ : ∃ V, V = nxS t := ⟨_, rfl⟩
    rw [← hq2] at hu2
    have hr := fun (W : World) (h : RRObj W wr.heap.size t q2.2) => hraw W q2.2 q1.1 h
    rw [show rTake t q1.1 q2.2 = nxB t from by rw [hq1, hq2]; rfl] at hr
    obtain ⟨q3, hq3⟩ : ∃ V, V = nxB t := ⟨_, rfl⟩
    rw [← hq3] at hr
    rw [← hq1, ← hq2, ← hq3] at hcs
    obtain ⟨m, R1⟩ := q1
    obtain ⟨cs, R2⟩ := q2
    obtain ⟨b, R3⟩ := q3
    simp only at hu hu2 hr hcs
    have HI := Lib.hid (hi.below hb1)
    have HLO := Lib.hid hi.bel.size
    have HO1 := Lib.hid ho1
    have HU := Lib.hid hu
    have HU2 := Lib.hid hu2
    have HRW := Lib.hid hr
    have HCS := Lib.hid hcs
    have HK := Lib.hid hk
    have HPL := Lib.hid hl
    have HNV := Lib.hid hnv
    have HW1 := Lib.hid hW1
    have HTZ := Lib.hid htz
    have HT := Lib.hid ht
    obtain ⟨gr, hgr⟩ : ∃ g, g = wr.heap.size := ⟨_, rfl⟩
    rw [← hgr] at HLO HO1 HU HU2 HRW
    have HGR := Lib.hid hgr
    clear hi hk hl hnv hb1 ho1 hu hcs hraw hu2 hr hq1 hq2 hq3 hW1 ht htz HR hgr
    go_wp2_with fail
    rw [← HW1.out, ← HGR.out]
    refine HU.out.mono ?_
    rintro x w2 ⟨rfl, hn2⟩
    have HN2 := Lib.hid hn2.obj
    have HI2 := Lib.hid (HI.out.rr HO1.out HLO.out hn2)
    have HU2' := Lib.hid (HU2.out w2 hn2.obj)
    clear hn2 HU HU2 HI HO1 HW1 HGR
    go_wp2_with fail
    refine HU2'.out.mono ?_
    rintro x w3 ⟨rfl, hn3⟩
    have HI3 := Lib.hid (HI2.out.rr HN2.out HLO.out hn3)
    have HN3 := Lib.hid hn3.obj
    have c2 : w3.cell? ⟨gr, 2, none⟩ = some (.int .i64 R2.no) := hn3.obj.blk.cell 2
    clear hn3 HU2' HI2 HN2
    have hend : ∀ w4, RcIn w w4 (.slice av nv cv) P → K = [] → p = n → Q (.returned (.tuple #[.slice av nv cv, .int .i64 p])) w4 := by
      intro w4 hi4 hK hpn
      rw [HQ.out]
      have e : L = P := by rw [HPL.out, hK, List.append_nil]
      rw [e]
      refine ⟨av, cv, by rw [← HNV.out, hpn], ?_, hi4.bel⟩
      rw [← HNV.out]
      exact hi4.row
    have HEND := Lib.hid hend
    clear hend
    rcases HCS.out with ⟨hno, hcc⟩ | ⟨b', hsome, h0, hm, hbz, h8, hb', hsum⟩
    · obtain ⟨hK, hpn⟩ : K = [] ∧ p = n := by
        have hk := HK.out
        cases K with
        | nil => exact ⟨rfl, hk.1⟩
        | cons b1 K1 =>
          have h1 : nxW (s.extract p s.size) = some b1 := hk.1
          rw [← HT.out, hno] at h1
          cases h1
      have HX := Lib.hid (HEND.out w3 HI3.out hK hpn)
      rcases hcc with h0 | ⟨h0, h1⟩ | ⟨h0, h1, h2, h3⟩ | ⟨h0, h1, h2, h3, h4, h5⟩
      · have hni : ¬ (R2.no : Int) = 0 := by omega
        clear hno h0 hK hpn
        go_wp2_with fail
        exact HX.out
      · have hni : (65536 : Int) < (m : Int) := by omega
        rw [h0] at c2
        replace c2 : w3.cell? ⟨gr, 2, none⟩ = some (.int .i64 0) := c2
        clear hno h0 h1 hK hpn
        go_wp2_with fail
        exact HX.out
      · have hni : ¬ (65536 : Int) < (m : Int) := by omega
        have hn2 : (s.size : Int) - (p : Int) - 8 < (m : Int) := by have := HTZ.out; omega
        rw [h0] at c2
        replace c2 : w3.cell? ⟨gr, 2, none⟩ = some (.int .i64 0) := c2
        clear hno h0 h1 h2 h3 hK hpn
        go_wp2_with fail
        exact HX.out
      · have hni : ¬ (65536 : Int) < (m : Int) := by omega
        have hn2 : ¬ (s.size : Int) - (p : Int) - 8 < (m : Int) := by have := HTZ.out; omega
        rw [h0] at c2
        replace c2 : w3.cell? ⟨gr, 2, none⟩ = some (.int .i64 0) := c2
        have HR3 := Lib.hid (HRW.out w3 HN3.out)
        obtain ⟨c1, hc1, ec1, zc1⟩ := cat_run (⟨(be 4 m).toArray⟩ : ByteArray) b (by rw [bsize, be_len]; have := HTZ.out; omega)
        have hsum := fun W => refsum_any c1 W (by rw [zc1, bsize, be_len]; have := HTZ.out; omega)
        have e1 : c1.data.toList = be 4 m ++ b.data.toList := by rw [ec1]; simp
        rw [e1, ← h4, ← crcW_eq] at hsum
        have HSU := Lib.hid hsum
        have HNU := Lib.hid (fun W => rnum_any 4 m W (by omega) (by omega))
        have HC1 := Lib.hid hc1
        have hne : ¬ ((crcW b : Nat) : Int) = (cs : Int) := by omega
        generalize crcW b = cw at *
        have HKP := Lib.hid (And.intro hK hpn)
        clear hno h0 h1 h2 h3 h4 h5 hK hpn HX ec1 zc1 hsum e1 hc1
        go_wp2_with fail
        refine HR3.out.mono ?_
        rintro x w4 ⟨rfl, hn4⟩
        have HI4 := Lib.hid (HI3.out.rr HN3.out HLO.out hn4)
        clear hn4 HR3 c2
        go_wp2_with fail
        refine (HNU.out w4).mono ?_
        rintro x w5 ⟨rfl, hb5⟩
        have HI5 := Lib.hid (HI4.out.below hb5)
        have hc1 := HC1.out
        clear hb5 HNU HI4 HC1
        go_wp2_with fail
        refine (HSU.out w5).mono ?_
        rintro x w6 ⟨rfl, rfl⟩
        have HX := Lib.hid (HEND.out w5 HI5.out HKP.out.1 HKP.out.2)
        clear hc1 HSU HI5
        go_wp2_with fail
        exact HX.out
    · obtain ⟨b1, K1, rfl, hk2⟩ : ∃ b1 K1, K = b1 :: K1 ∧ ScR s K1 (p + (8 + b1.size)) n ∧ nxW t = some b1 := by
        have hk := HK.out
        cases K with
        | nil =>
          have h1 : nxW (s.extract p s.size) = none := hk.2
          rw [← HT.out, hsome] at h1
          cases h1
        | cons b1 K1 => exact ⟨b1, K1, rfl, hk.2, by rw [HT.out]; exact hk.1⟩
      obtain ⟨hk2, hk1⟩ := hk2
      rw [hsome] at hk1
      injection hk1 with hk1
      subst hk1 hb'
      have hni : ¬ (65536 : Int) < (m : Int) := by omega
      have hn2 : ¬ (s.size : Int) - (p : Int) - 8 < (m : Int) := by have := HTZ.out; omega
      rw [h0] at c2
      replace c2 : w3.cell? ⟨gr, 2, none⟩ = some (.int .i64 0) := c2
      have HR3 := Lib.hid (HRW.out w3 HN3.out)
      obtain ⟨c1, hc1, ec1, zc1⟩ := cat_run (⟨(be 4 m).toArray⟩ : ByteArray) b (by rw [bsize, be_len]; have := HTZ.out; omega)
      have hsumr := fun W => refsum_any c1 W (by rw [zc1, bsize, be_len]; have := HTZ.out; omega)
      have e1 : c1.data.toList = be 4 m ++ b.data.toList := by rw [ec1]; simp
      rw [e1, hm, ← crcW_eq, ← hsum] at hsumr
      have HSU := Lib.hid hsumr
      have HNU := Lib.hid (fun W => rnum_any 4 m W (by omega) (by omega))
      have HC1 := Lib.hid hc1
      have HM := Lib.hid hm
      have HK2 := Lib.hid hk2
      have hpm : p + (8 + m) ≤ s.size := by have := HTZ.out; omega
      have HPM := Lib.hid hpm
      have hsm : P.length ≤ 1000 := by
        have h1 := HLN.out
        have h3 : L.length = P.length + (K1.length + 1) := by rw [HPL.out]; simp
        omega
      have HSM := Lib.hid hsm
      have HPL2 := Lib.hid (show L = (P ++ [b]) ++ K1 by rw [HPL.out]; simp)
      clear hsome h0 hm hbz h8 hsum hk2 ec1 zc1 hsumr e1 hc1 HCS HK HEND HPL hsm hpm
      go_wp2_with fail
      refine HR3.out.mono ?_
      rintro x w4 ⟨rfl, hn4⟩
      have HI4 := Lib.hid (HI3.out.rr HN3.out HLO.out hn4)
      clear hn4 HR3 c2
      go_wp2_with fail
      refine (HNU.out w4).mono ?_
      rintro x w5 ⟨rfl, hb5⟩
      have HI5 := Lib.hid (HI4.out.below hb5)
      have hc1 := HC1.out
      clear hb5 HNU HI4 HC1
      go_wp2_with fail
      refine (HSU.out w5).mono ?_
      rintro x w6 ⟨rfl, rfl⟩
      have hb6 : Below w5.heap.size w5 (w5.alloc (.cells #[.string b] 9)) := (Below.refl _ _).alloc (Nat.le_refl _) _
      have HI6 := Lib.hid (HI5.out.below hb6)
      have HC0 := Lib.hid (show (w5.alloc (.cells #[.string b] 9)).cell? ⟨w5.heap.size, 0, none⟩ = some (.string b) from (Blk.made w5 9 #[.string b]).cell 0)
      clear hc1 HSU HI5 hb6
      go_wp2_with (at_builtin; go_must (refine append_one22 b rfl _ _ rfl HI6.out.row HI6.out.bel.size rfl w5.heap.size 1 rfl HC0.out HSM.out ?_))
      intro v7 w7 hn7
      have HI7 := Lib.hid (HI6.out.grown hn7.row hn7.grown)
      clear hn7 HC0 HI6
      have hpm := HPM.out
      go_wp2_with fail
      go_roundg K1.length
      case rel => exact ⟨p + (8 + m), P ++ [b], K1, rfl, by go_num, hpm, Lib.hid ⟨HI7.out, by have := HK2.out; rw [← HM.out] at this; exact this, HPL2.out⟩⟩
      case measure => simp
end
end Go.Proofs.YthplhdepllloaaaDoor

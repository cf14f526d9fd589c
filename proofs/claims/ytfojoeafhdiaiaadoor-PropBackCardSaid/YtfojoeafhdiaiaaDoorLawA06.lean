/- What is proved here: PropBack answers true for every place, properties and bytes. Condition: what the rows list of the package's variables. What is proved here: an argument that is a slice of properties holds properties. No conditions. -/
import Derived.Test.YtfojoeafhdiaiaaDoorAwk06
namespace Go.Proofs.YtfojoeafhdiaiaaDoor
set_option maxRecDepth 100000
open Go.RowKit Go.Extern.Stop Go.Stop Go.Extern
/-- These properties are an argument. -/
structure PArg (w : World) (A : Option Addr) (n c : Nat) (L : PL) : Prop where
  len : n = L.length
  rd : PIn w w.heap.size A L
  cap : n ≤ c
theorem enc_ok {place : Int} {L : PL} (h : (encR place L).no = 0) : (chkL place L).1 = 0 ∧ (wrAll (actsL6 L)).no = 0 ∧ (encR place L).L = vb (wrAll (actsL6 L)).L.length ++ (wrAll (actsL6 L)).L := by
  unfold encR at h ⊢
  split at h
  · rename_i h1
    rw [if_pos h1]
    split at h
    · rename_i h2
      rw [if_pos h2]
      exact ⟨h1, h2, rfl⟩
    · rename_i h2; exact absurd h h2
  · rename_i h1; exact absurd h h1
theorem enc_bad {place : Int} {L : PL} (h : (encR place L).no ≠ 0) : (encR place L).L = [] := by
  unfold encR at h ⊢
  split
  · rename_i h1
    rw [if_pos h1] at h
    split
    · rename_i h2
      rw [if_pos h2] at h
      exact absurd rfl h
    · rfl
  · rfl
/-- What PropBack holds. -/
structure PbIn (w W : World) (A : Option Addr) (L : PL) : Prop where
  bel : Below w.heap.size w W
  rd : PIn W w.heap.size A L
section
variable {w W W' : World} {S : Nat → Addr} {A : Option Addr} {L : PL} {g : Nat} {s : ByteArray} {R R' : RV}
theorem PbIn.below (h : PbIn w W A L) (hb : Below W.heap.size W W') : PbIn w W' A L := ⟨h.bel.trans (hb.mono h.bel.size), h.rd.below hb⟩
theorem PbIn.step (h : PbIn w W A L) (ho : RObj W S g s R) (hn : RNext W W' S g s R') (hg : w.heap.size ≤ g) : PbIn w W' A L :=
  ⟨hn.later hg h.bel.size h.bel, h.rd.fr hn.fr fun k hk => by
    rw [List.mem_singleton] at hk
    subst hk
    refine ⟨hg, fun cs hc => ?_⟩
    obtain ⟨e, hb, _⟩ := ho.blk
    exact hb.other hc (by decide) rfl⟩
set_option maxHeartbeats 4000000 in
/-- From Encode on. -/
theorem propBack_walk (S : Nat → Addr) (place : Int) (A : Option Addr) (n c : Nat) (L : PL) (s : ByteArray) (w : World) (hE : Env w S) (_hpl : (Lit.int .i64 place).wf = true) (hm : n ≤ maxLen) (h : PArg w A n c L) (_hsm : s.size ≤ maxLen) :
    Calls Tryd.prog 5 #[.int .i64 place, .slice A n c, .string s] w fun x w' => x = .returned (.bool true) ∧ Below w.heap.size w w' := by
  have hm' : n ≤ 9223372036854775807 := by unfold maxLen at hm; omega
  have HFW := Lib.hid (few06_any n c h.rd h.len hm')
  have HE := Lib.hid hE
  have HA := Lib.hid h
  clear hE hm h
  go_enter Tryd.func5, Tryd.ntmps5
  go_wp2_with fail
  refine HFW.out.mono ?_
  rintro x w0 ⟨⟨b, rfl, hb⟩, rfl⟩
  clear HFW
  cases b with
  | false =>
    clear hb
    go_wp2_with fail
    refine (awake06 HE.out).mono ?_
    rintro x w2 ⟨rfl, hb⟩
    go_wp2
    go_ret
    exact ⟨rfl, hb⟩
  | true =>
    obtain ⟨hn70, hsz⟩ := hb rfl
    have HSZ := Lib.hid hsz
    clear hb hsz
    by_cases hs3 : 300 < s.size
    · go_wp2_with fail
      refine (awake06 HE.out).mono ?_
      rintro x w2 ⟨rfl, hb⟩
      go_wp2
      go_ret
      exact ⟨rfl, hb⟩
    · have hs3' : s.size ≤ 300 := by omega
      clear hs3
      have hb1 : Below w.heap.size w (w.alloc (.cells #[.string s, .int .i64 0, .nilIface] 101)) := (Below.refl _ _).alloc (Nat.le_refl _) _
      have hi1 : PbIn w (w.alloc (.cells #[.string s, .int .i64 0, .nilIface] 101)) A L := ⟨hb1, HA.out.rd.below hb1⟩
      have ho1 := RObj.made w S s
      have hrd := pread_any HE.out hi1.bel (Nat.le_refl _) ho1 (by omega) place
      have hmay := read_may place s ⟨0, 0, 0⟩
      obtain ⟨⟨⟨qn, qr, qa, M⟩, R2⟩, hq⟩ : ∃ q, q = readF place s ⟨0, 0, 0⟩ := ⟨_, rfl⟩
      rw [← hq] at hrd hmay
      simp only at hmay
      obtain ⟨hm1, hm2, hm3⟩ := hmay
      have HRD := Lib.hid hrd
      have HO1 := Lib.hid ho1
      have HI1 := Lib.hid hi1
      have HM1 := Lib.hid hm1
      have HM2 := Lib.hid hm2
      clear hb1 hi1 ho1 hrd hq hm1 hm2
      go_wp2_with fail
      refine (rnew_any s w).mono ?_
      rintro x w1 ⟨rfl, rfl⟩
      go_wp2_with fail
      refine HRD.out.mono ?_
      rintro x w2 ⟨v2, e2, rfl, hr2, he2, hn2⟩
      have HI2 := Lib.hid (HI1.out.step HO1.out hn2 (Nat.le_refl _))
      obtain ⟨a2, n2, c2, rfl, hnn2, hcc2⟩ := hr2.some_form
      simp only at hr2 he2 hnn2
      subst hnn2
      by_cases hqn : qn = 0
      case' pos =>
        subst hqn
        unfold ErrOf at he2
        rw [if_pos rfl] at he2
        subst he2
        have HCK := Lib.hid (check_any (HE.out.later HI2.out.bel) place M.length c2 rfl (hr2.pin (B' := 0)) (by omega) hcc2)
        clear hn2 hr2 HRD HO1 HI1
        go_wp2_with fail
        refine HCK.out.mono ?_
        rintro x w3 ⟨e3, rfl, he3, hb3⟩
        unfold ErrOf at he3
        rw [if_pos HM1.out] at he3
        subst he3
        have HI3 := Lib.hid (HI2.out.below hb3)
        clear hb3 HCK hcc2 HI2 HM1 HM2
        go_wp2_with fail
      case' neg =>
        obtain ⟨t2, u2, rfl⟩ := err_iface he2 hqn
        have hM : M = [] := HM2.out hqn
        subst hM
        obtain ⟨w3, hw3⟩ : ∃ w3, w3 = w2 := ⟨_, rfl⟩
        subst hw3
        have HI3 := Lib.hid HI2.out
        clear hn2 hr2 he2 HRD HO1 HI1 HI2 HM1 HM2 hcc2 hm3
        rw [show ([] : PL).length = 0 from rfl]
        go_wp2_with fail
      all_goals
        have hsl : SmallP L := ⟨by have := HA.out.len; omega, fun k hk => by
          have h := HSZ.out k (by have := HA.out.len; omega)
          exact ⟨by omega, by omega⟩⟩
        have HEN := Lib.hid (encode_any (HE.out.later HI3.out.bel) place n c HA.out.len (HI3.out.rd.mono HI3.out.bel.size) hsl HA.out.cap)
        have hok := enc_ok (place := place) (L := L)
        have hbad := enc_bad (place := place) (L := L)
        have hvl := wr6_len hsl L.length
        rw [List.take_length] at hvl
        have HOK := Lib.hid hok
        have HBAD := Lib.hid hbad
        have HVL := Lib.hid hvl
        have HSL := Lib.hid hsl
        clear hok hbad hvl hsl
        obtain ⟨⟨eno, er, eat, eb⟩, hE⟩ : ∃ E, E = encR place L := ⟨_, rfl⟩
        rw [← hE] at HEN HOK HBAD
        simp only at HOK HBAD
        clear hE
        refine HEN.out.mono ?_
        rintro x w4 ⟨e4, rfl, he4, hb4⟩
        simp only at he4
        have HI4 := Lib.hid (HI3.out.below hb4)
        clear hb4 HEN HI3
        by_cases hen : eno = 0
        · subst hen
          obtain ⟨hc0, hw0, heb⟩ := HOK.out rfl
          unfold ErrOf at he4
          rw [if_pos rfl] at he4
          subst he4
          obtain ⟨b, hb⟩ : ∃ b : ByteArray, b = ⟨eb.toArray⟩ := ⟨_, rfl⟩
          rw [show (⟨(EnR.L ⟨0, er, eat, eb⟩).toArray⟩ : ByteArray) = b from hb.symm]
          have hbd : b.data.toList = eb := by rw [hb]
          have hbs : b.size = eb.length := slen hbd
          have hbl : b.size ≤ 63844 := by
            have h1 := HVL.out
            have h2 := (vb_len (wrAll (actsL6 L)).L.length (by omega)).2
            rw [hbs, heb, List.length_append]
            omega
          have hcz : (b ++ s).size = b.size + s.size := by simp
          have HPL := Lib.hid (plain06_any n c HI4.out.rd HA.out.len (by omega))
          have HBK := Lib.hid (fun (hp : ∀ k, k < n → PlainP (L.getD k p0)) => show readF place (b ++ s) ⟨0, 0, 0⟩ = (⟨0, 0, 0, L⟩, ⟨b.size, 0, 0⟩) from by
            have h := read_back (place := place) hc0 hw0 (fun p hp' => by
              obtain ⟨k, hk, rfl⟩ := List.mem_iff_getElem.1 hp'
              have h1 := hp k (by have := HA.out.len; omega)
              rw [List.getD_eq_getElem?_getD, List.getElem?_eq_getElem hk] at h1
              have h2 := HSL.out.mem _ hp'
              exact ⟨h1, by omega, by omega⟩) (by have := HVL.out; omega) (b ++ s) s (by rw [← heb, ← hbd]; simp)
            rw [h, ← heb, hbs])
          clear hb hbd hbs heb hc0 hw0 HOK HBAD
          go_wp2_with fail
          refine HPL.out.mono ?_
          rintro x w5 ⟨⟨pb, rfl, hpb⟩, rfl⟩
          clear HPL
          cases pb with
          | false =>
            clear hpb HBK
            go_wp2_with fail
            refine (awake06 (HE.out.later HI4.out.bel)).mono ?_
            rintro x w5 ⟨rfl, hb5⟩
            have HB5 := Lib.hid (HI4.out.bel.trans (hb5.mono HI4.out.bel.size))
            clear hb5
            go_wp2_with fail
            go_ret
            exact ⟨rfl, HB5.out⟩
          | true =>
            have hrb := HBK.out (hpb rfl)
            have hb5 : Below w4.heap.size w4 (w4.alloc (.cells #[.string (b ++ s), .int .i64 0, .nilIface] 101)) := (Below.refl _ _).alloc (Nat.le_refl _) _
            have hi5 := HI4.out.below hb5
            have ho5 := RObj.made w4 S (b ++ s)
            have hrd := pread_any HE.out hi5.bel HI4.out.bel.size ho5 (by omega) place
            rw [hrb] at hrd
            have HRD := Lib.hid hrd
            have HO5 := Lib.hid ho5
            have HI5 := Lib.hid hi5
            clear hpb HBK hrb hb5 hi5 ho5 hrd
            go_wp2_with fail
            refine (rnew_any (b ++ s) w4).mono ?_
            rintro x w5 ⟨rfl, rfl⟩
            go_wp2_with fail
            refine HRD.out.mono ?_
            rintro x w6 ⟨v6, e6, rfl, hr6, he6, hn6⟩
            obtain ⟨a6, n6, c6, rfl, hn6', _⟩ := hr6.some_form
            obtain rfl : n6 = n := Eq.trans hn6' HA.out.len.symm
            unfold ErrOf at he6
            rw [if_pos rfl] at he6
            subst he6
            have HI6 := Lib.hid (HI5.out.step HO5.out hn6 HI4.out.bel.size)
            have HO6 := Lib.hid hn6.obj
            have HSM := Lib.hid (psame_any (L := L) (hr6.pin (B' := 0)) HI6.out.rd n6 c6 c HA.out.len (by omega))
            clear hr6 hn6 hn6' HRD HO5 HI5
            go_wp2_with fail
            refine HSM.out.mono ?_
            rintro x w7 ⟨rfl, d, rfl⟩
            have hb7 := below_drewN (Below.refl w6.heap.size w6) d
            have HI7 := Lib.hid (HI6.out.below hb7)
            have HAT := Lib.hid (rat_any (HO6.out.below hb7))
            clear hb7 HSM
            go_wp2_with fail
            refine HAT.out.mono ?_
            rintro x w8 ⟨rfl, rfl⟩
            simp only
            go_wp2_with fail
            refine (awake06 (HE.out.later HI7.out.bel)).mono ?_
            rintro x w9 ⟨rfl, hb9⟩
            have HB9 := Lib.hid (HI7.out.bel.trans (hb9.mono HI7.out.bel.size))
            clear hb9
            go_wp2_with fail
            go_ret
            exact ⟨rfl, HB9.out⟩
        · obtain ⟨t4, u4, rfl⟩ := err_iface he4 hen
          have heb := HBAD.out hen
          subst heb
          clear he4 HOK HBAD HVL HSL
          go_wp2_with fail
          refine (awake06 (HE.out.later HI4.out.bel)).mono ?_
          rintro x w5 ⟨rfl, hb5⟩
          have HB5 := Lib.hid (HI4.out.bel.trans (hb5.mono HI4.out.bel.size))
          clear hb5
          go_wp2_with fail
          go_ret
          exact ⟨rfl, HB5.out⟩
end
open Go.ChangeShapes Go.WideShapes Go.RowKit Go.Deep
set_option maxRecDepth 100000
section
variable {H : Type} {enc : TypeId × Value → H} {P : Program} {w : World}
theorem slice_cap {b1 : Nat} {sp : Nat → Bool} {held : Bool} {t e : TypeId} {a : Option Addr} {len cap : Nat} {d : DataW H} {ps : List MemPlace} (ht : P.underlying t = some (.slice e)) (hd : DataW.Trod enc P w b1 sp held t (.slice a len cap) d ps) : len ≤ cap := by
  obtain ⟨fuel, hf⟩ := hd
  rcases open_slice ht hf with ⟨hcs, hx⟩ | ⟨a, len', cap', m, n, D, Pl, hcs, hb, hl, hm, hmm, hx, hi⟩
  · simp [Value.cells] at hcs
    obtain ⟨rfl, rfl, rfl⟩ := hcs
    exact Nat.le_refl _
  · simp [Value.cells] at hcs
    obtain ⟨rfl, rfl, rfl⟩ := hcs
    exact hl
end
section
variable {H : Type} {enc : TypeId × Value → H} {w : World}
theorem props_open06 {r : Reach} {b0 b1 : Nat} {sp : Nat → Bool} {held : Bool} {v : Value} {d : DataW H} {ps : List MemPlace} (hval : Value.okWide Tryd.prog w r b0 51 v) (hd : DataW.Trod enc Tryd.prog w b1 sp held 51 v d ps) :
    ∃ a len cap xs, v = .slice a len cap ∧ len ≤ maxLen ∧ PArg w a len cap xs := by
  obtain ⟨a, len, cap, rfl, hl, hx⟩ := struct_slice (P := Tryd.prog) Tryd.underlying51 Tryd.underlying105 (by kernel_rfl) (by kernel_rfl) (by decide) hval hd
  have hcap := slice_cap (P := Tryd.prog) Tryd.underlying51 hd
  rcases hx with rfl | ⟨b, off, rfl, hc⟩
  · exact ⟨a, 0, cap, [], rfl, hl, rfl, fun h => absurd h (by simp), hcap⟩
  · have hex : ∀ i, ∃ x : PV, i < len → PCells w b (off + i * 4) x := by
      intro i
      by_cases hi : i < len
      · obtain ⟨u0, n0, y0, q0, t0⟩ := hc i hi 0 _ rfl
        obtain ⟨u1, n1, y1, q1, t1⟩ := hc i hi 1 _ rfl
        obtain ⟨u2, n2, y2, q2, t2⟩ := hc i hi 2 _ rfl
        obtain ⟨u3, n3, y3, q3, t3⟩ := hc i hi 3 _ rfl
        obtain ⟨k0, e0, _⟩ := DataW.trod_int Tryd.underlying3 t0
        obtain ⟨k1, e1, _⟩ := DataW.trod_int Tryd.underlying3 t1
        obtain ⟨k2, e2, _⟩ := DataW.trod_string Tryd.underlying9 t2
        obtain ⟨k3, e3, _⟩ := DataW.trod_string Tryd.underlying9 t3
        simp at e0 e1 e2 e3
        subst e0 e1 e2 e3
        exact ⟨⟨k0, k1, k2, k3⟩, fun _ => ⟨q0, q1, q2, q3⟩⟩
      · exact ⟨p0, fun h => absurd h hi⟩
    obtain ⟨xs, hxs⟩ := Classical.axiomOfChoice hex
    have hget : ∀ k, k < len → ((List.range len).map xs).getD k p0 = xs k := fun k hk => by
      rw [List.getD_eq_getElem?_getD, List.getElem?_map, List.getElem?_range hk]
      rfl
    refine ⟨_, len, cap, (List.range len).map xs, rfl, hl, by simp, fun hp => ?_, hcap⟩
    rw [List.length_map, List.length_range] at hp
    refine ⟨b, off, rfl, fun k hk => ?_, .inl ?_⟩
    · rw [List.length_map, List.length_range] at hk
      rw [hget k hk]
      exact hxs k hk
    · exact Go.Proofs.YtfojoeafhdiaiaaDoor.lt_of_cell (hxs 0 hp).c0
end
end Go.Proofs.YtfojoeafhdiaiaaDoor

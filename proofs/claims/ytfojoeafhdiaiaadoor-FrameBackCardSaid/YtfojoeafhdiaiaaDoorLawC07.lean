/- What is proved here: FrameBack answers true for every packets and number. Condition: what the rows list of the package's variables. -/
import Derived.Test.YtfojoeafhdiaiaaDoorAwk07
import Derived.Test.YtfojoeafhdiaiaaDoorSam07
import Derived.Test.YtfojoeafhdiaiaaDoorLawA07
namespace Go.Proofs.YtfojoeafhdiaiaaDoor
set_option maxRecDepth 100000
open Go.RowKit Go.Extern.Stop Go.Stop Go.Extern
/-- What the second loop holds: the splitter, the packets so far, the bytes so far. -/
structure BkIn (w W : World) (S : Nat → Addr) (al : List UInt8) (u : Value) (gt : List FP) (v : Value) (L : List UInt8) (p : Nat) (V : SV) : Prop where
  obj : SObj W S w.heap.size w.heap.size v L p V
  bel : Below w.heap.size w W
  row : FRow W w.heap.size u gt
  inv : SInv 300 al V gt
  len : L.length ≤ al.length
section
variable {w W w1 w2 w3 w' : World} {S : Nat → Addr} {al : List UInt8} {s : ByteArray} {k p p1 p2 : Nat} {u u' v v1 v2 : Value} {gt : List FP} {L L1 L2 : List UInt8} {V : SV}
theorem BkIn.below (h : BkIn w W S al u gt v L p V) (hb : Below W.heap.size W w') : BkIn w w' S al u gt v L p V := ⟨h.obj.below hb, h.bel.trans (hb.mono h.bel.size), h.row.below hb, h.inv, h.len⟩
theorem BkIn.lost (h : BkIn w W S al u gt v L p V) (h0 : V.no ≠ 0) : V.lost ≤ al.length := by
  have h1 := (h.inv.some h0).2.2
  have h2 := allF_len 300 al.length al (Nat.le_refl _)
  omega
/-- One round. -/
theorem BkIn.round (h : BkIn w W S al u gt v L p V) (h1 : SNext W w1 S w.heap.size w.heap.size v v1 L1 p1 (feedV V s)) (hl1 : L1.length ≤ L.length + s.size)
    (h2 : SNext w1 w2 S w.heap.size w.heap.size v1 v2 L2 p2 (drainV (feedV V s))) (hl2 : L2.length ≤ L1.length)
    (h3 : FNext w2 w3 w.heap.size u u' (gt ++ drainP (feedV V s))) :
    BkIn w w3 S (al ++ s.data.toList) u' (gt ++ drainP (feedV V s)) v2 L2 p2 (drainV (feedV V s)) := by
  have hr1 := h.row.snext h.obj h1
  have hr2 := hr1.snext h1.obj h2
  have hb1 := h1.later h.obj h.bel
  have hb2 := h2.later h1.obj hb1
  have hf : Fr u.ownBlock.toList w2 w3 := (Fr.refl _ w2).grown h3.grown fun k hk => .inl (own_list.2 hk)
  have hll := h.len
  have hs := bLen s
  refine ⟨h2.obj.grown hr2 h3.grown, hf.later hb2 (fun b hm => (hr2.lt b (own_list.1 hm)).1) hb2.size, h3.row, h.inv.step s, ?_⟩
  rw [List.length_append]
  omega
end
def fpX (x : Int × ByteArray) : FP := (x.1.toNat, x.2.data.toList)
/-- The first packets. -/
def frX (X : Nat → Int × ByteArray) : Nat → List FP
  | 0 => []
  | k + 1 => frX X k ++ [fpX (X k)]
theorem frX_len (X : Nat → Int × ByteArray) (k : Nat) : (frX X k).length = k := by
  induction k with
  | zero => rfl
  | succ k ih => show (frX X k ++ [fpX (X k)]).length = _; rw [List.length_append, ih]; rfl
theorem frX_get (X : Nat → Int × ByteArray) (k : Nat) : ∀ j, j < k → (frX X k).getD j f00 = fpX (X j) := by
  induction k with
  | zero => intro j hj; omega
  | succ k ih =>
    intro j hj
    show (frX X k ++ [fpX (X k)]).getD j f00 = _
    rw [List.getD_eq_getElem?_getD]
    by_cases h : j < k
    · rw [List.getElem?_append_left (by rw [frX_len]; exact h), ← List.getD_eq_getElem?_getD]
      exact ih j h
    · obtain rfl : j = k := by omega
      rw [List.getElem?_append_right (by rw [frX_len]; exact Nat.le_refl _), frX_len, Nat.sub_self]
      rfl
theorem frX_ok (X : Nat → Int × ByteArray) (k : Nat) (h : ∀ j, j < k → mayI (X j).1 = true ∧ (X j).2.size ≤ 200) : ∀ f ∈ frX X k, okF f := by
  induction k with
  | zero => intro f hf; cases hf
  | succ k ih =>
    intro f hf
    rcases List.mem_append.1 hf with hf | hf
    · exact ih (fun j hj => h j (by omega)) f hf
    · rw [List.mem_singleton] at hf
      subst hf
      obtain ⟨h1, h2⟩ := h k (by omega)
      obtain ⟨c, hc⟩ := mayI_nat h1
      have h3 := bLen (X k).2
      refine ⟨?_, ?_⟩
      · show mayI (((X k).1.toNat : Nat) : Int) = true
        rw [hc] at h1 ⊢
        exact h1
      · show (X k).2.data.toList.length ≤ 200
        omega
theorem frX_back (X : Nat → Int × ByteArray) (k : Nat) (h : ∀ j, j < k → mayI (X j).1 = true ∧ (X j).2.size ≤ 200) : ∀ j, j < k → fX (frX X k) j = X j := by
  intro j hj
  unfold fX
  rw [frX_get X k j hj]
  obtain ⟨c, hc⟩ := mayI_nat (h j hj).1
  have h1 : (((fpX (X j)).1 : Nat) : Int) = (X j).1 := by
    show (((X j).1.toNat : Nat) : Int) = _
    omega
  have h2 : (⟨(fpX (X j)).2.toArray⟩ : ByteArray) = (X j).2 := ba_eq (by show ((X j).2.data.toList).toArray.toList = _; simp)
  rw [h1, h2]
theorem enc_step (X : Nat → Int × ByteArray) (k c : Nat) (hc : (X k).1 = c) : encL (frX X (k + 1)) = encL (frX X k) ++ encF c (X k).2 := by
  show encL (frX X k ++ [fpX (X k)]) = _
  rw [encL_app]
  show encL (frX X k) ++ (encF (X k).1.toNat ⟨((X k).2.data.toList).toArray⟩ ++ []) = _
  rw [List.append_nil, hc, show (⟨((X k).2.data.toList).toArray⟩ : ByteArray) = (X k).2 from ba_eq (by simp)]
  rfl
theorem encF_205 (c : Nat) (b : ByteArray) (hb : b.size ≤ 200) : (encF c b).length ≤ 205 := by
  have h := vb_len b.size (by omega)
  have h2 := bLen b
  unfold encF
  simp only [List.length_cons, List.length_append]
  omega
theorem byte_range {n : Int} (h : (Lit.int .u8 n).wf = true) : 0 ≤ n ∧ n ≤ 255 := by
  simp [Lit.wf, IntKind.min, IntKind.max, IntKind.signed, IntKind.bits] at h
  omega
set_option maxHeartbeats 4000000 in
theorem frameBack_walk (S : Nat → Addr) (A : Option Addr) (n c : Nat) (X : Nat → Int × ByteArray) (pc : Int) (w : World) (hE : Env w S) (hm : n ≤ maxLen) (h : FRd w A n X) (hpc : (Lit.int .u8 pc).wf = true) :
    Calls Tryd.prog 8 #[.slice A n c, .int .u8 pc] w fun x w' => x = .returned (.bool true) ∧ Below w.heap.size w w' := by
  have hm' : n ≤ 9223372036854775807 := by unfold maxLen at hm; omega
  obtain ⟨hp0, hp1⟩ := byte_range hpc
  have HE := Lib.hid hE
  have HA := Lib.hid h
  clear hE hm h hpc
  by_cases hn12 : 12 < n
  · go_enter Tryd.func8, Tryd.ntmps8
    go_wp2_with fail
    refine (awake07 HE.out).mono ?_
    rintro x w2 ⟨rfl, hb⟩
    go_wp2
    go_ret
    exact ⟨rfl, hb⟩
  · have hn12' : n ≤ 12 := by omega
    clear hn12 hm'
    go_enter Tryd.func8, Tryd.ntmps8
    go_wp2_with fail
    go_loopw [5, 6] (fun a i wr => ∃ (k : Nat) (al : ByteArray), a = .string al ∧ i = .int .i64 k ∧ k ≤ n ∧ al.size ≤ 205 * k ∧ Hid (Below w.heap.size w wr ∧ al.data.toList = encL (frX X k) ∧ ∀ j, j < k → mayI (X j).1 = true ∧ (X j).2.size ≤ 200)) (fun _ i _ => n - (intOf i).toNat)
    case atStart => exact ⟨0, ⟨#[]⟩, rfl, rfl, Nat.zero_le _, Nat.le_refl _, Lib.hid ⟨Below.refl _ _, rfl, fun j hj => absurd hj (by omega)⟩⟩
    case round =>
      obtain ⟨k, al, rfl, rfl, hk, hal, HI⟩ := hrel
      by_cases hlt : k < n
      · obtain ⟨g, off, rfl, hc⟩ := HA.out (by omega)
        obtain ⟨a0, a1⟩ := hc k hlt
        obtain ⟨⟨x1, x2⟩, hx⟩ : ∃ y, y = X k := ⟨_, rfl⟩
        rw [← hx] at a0 a1
        have hgl := lt_of_cell a0
        have CC := Lib.hid (fun (W : World) (hb : Below w.heap.size w W) => show W.cell? ⟨g, off + k * 2, none⟩ = some (.int .i64 x1) ∧ W.cell? ⟨g, off + k * 2 + 1, none⟩ = some (.string x2) from ⟨(World.cell?_of_block (w := w) (hb.block g hgl)).trans a0, (World.cell?_of_block (w := w) (hb.block g hgl)).trans a1⟩)
        obtain ⟨c0, c1⟩ := CC.out wr HI.out.1
        have HX := Lib.hid hx
        clear hc a0 a1 hx
        by_cases hsz : 200 < x2.size
        · have HB := Lib.hid HI.out.1
          have hsz' : (200 : Int) < (x2.size : Int) := by omega
          clear HI
          go_wp2_with fail
          refine (awake07 (HE.out.later HB.out)).mono ?_
          rintro x w2 ⟨rfl, hb⟩
          have HB2 := Lib.hid (HB.out.trans (hb.mono HB.out.size))
          clear hb
          go_wp2_with fail
          go_ret
          exact ⟨rfl, HB2.out⟩
        · have hsz' : ¬ ((200 : Int) < (x2.size : Int)) := by omega
          cases hmay : mayI x1 with
          | false =>
            have HM := Lib.hid hmay
            have HP := Lib.hid (fput_bad S x1 x2 hmay wr (HE.out.later HI.out.1))
            have HB := Lib.hid HI.out.1
            clear hmay HI
            go_wp2_with fail
            refine HP.out.mono ?_
            rintro x w1 ⟨e, rfl, he1, hb1⟩
            obtain ⟨t1, u1, rfl⟩ := err_iface he1 (by decide)
            have HB1 := Lib.hid (HB.out.trans (hb1.mono HB.out.size))
            obtain ⟨c0', c1'⟩ := CC.out w1 HB1.out
            have HK := Lib.hid (chk_bad S x1 HM.out w1 (HE.out.later HB1.out))
            clear hb1 he1 HP c0 c1
            go_wp2_with fail
            refine HK.out.mono ?_
            rintro x w2 ⟨e, rfl, he2, hb2⟩
            obtain ⟨t2, u2, rfl⟩ := err_iface he2 (by decide)
            have HB2 := Lib.hid (HB1.out.trans (hb2.mono HB1.out.size))
            clear hb2 he2 HK c0' c1'
            go_wp2_with fail
            refine (awake07 (HE.out.later HB2.out)).mono ?_
            rintro x w3 ⟨rfl, hb⟩
            have HB3 := Lib.hid (HB2.out.trans (hb.mono HB2.out.size))
            clear hb
            go_wp2_with fail
            go_ret
            exact ⟨rfl, HB3.out⟩
          | true =>
            obtain ⟨cn, rfl⟩ := mayI_nat hmay
            have HM := Lib.hid hmay
            have HP := Lib.hid (fput_ok cn x2 hmay (by omega) wr)
            have hel := encF_205 cn x2 (by omega)
            have hes : (⟨(encF cn x2).toArray⟩ : ByteArray).size = (encF cn x2).length := rfl
            have hed : (⟨(encF cn x2).toArray⟩ : ByteArray).data.toList = encF cn x2 := by simp
            obtain ⟨en, hen⟩ : ∃ en : ByteArray, en = ⟨(encF cn x2).toArray⟩ := ⟨_, rfl⟩
            rw [← hen] at HP hes hed
            have hes2 : en.size ≤ 205 := by omega
            have HED := Lib.hid hed
            have HSZ := Lib.hid (show x2.size ≤ 200 from by omega)
            clear hmay hes hed hen hel
            go_wp2_with fail
            refine HP.out.mono ?_
            rintro x w1 ⟨rfl, hb1⟩
            have HB1 := Lib.hid (HI.out.1.trans (hb1.mono HI.out.1.size))
            have hcs : (al ++ en).size = al.size + en.size := by simp
            have hcd : (al ++ en).data.toList = encL (frX X (k + 1)) := by
              rw [enc_step X k cn (by rw [← HX.out]), ← HI.out.2.1, ← HX.out, ← HED.out]
              simp
            have HCD := Lib.hid hcd
            clear hb1 HP hcd
            go_wp2_with fail
            go_roundw
            case rel => exact ⟨k + 1, al ++ en, rfl, by go_num, by omega, by omega, Lib.hid ⟨HB1.out, HCD.out, fun j hj => by
              rcases Nat.lt_or_eq_of_le (Nat.le_of_lt_succ hj) with h | h
              · exact HI.out.2.2 j h
              · rw [h, ← HX.out]; exact ⟨HM.out, HSZ.out⟩⟩⟩
            case measure => simp [intOf]; omega
      · obtain rfl : k = n := by omega
        obtain ⟨wa, hwa⟩ : ∃ wa, wa = wr := ⟨_, rfl⟩
        subst hwa
        have hal2 : al.size ≤ 2460 := by omega
        obtain ⟨hb0, htot, hok⟩ := HI.out
        have HOK := Lib.hid hok
        have HEA := Lib.hid (allF_encL (frX X k) (frX_ok X k hok))
        have HB0 := Lib.hid hb0
        have hi0 : BkIn wa (wa.alloc (.cells #[.int .i64 300, .slice none 0 0, .int .i64 0, .nilIface, .int .i64 0] 121)) S [] (.slice none 0 0) [] (.slice none 0 0) [] 0 ⟨300, [], 0, 0, 0, 0⟩ :=
          ⟨SObj.made wa S 300 (Nat.le_refl _), (Below.refl _ _).alloc (Nat.le_refl _) _, FRow.nil _ _, SInv.begin 300, Nat.le_refl _⟩
        have HI0 := Lib.hid hi0
        have HEB := Lib.hid (HE.out.later hb0)
        have HTOT := Lib.hid htot
        have HTL := Lib.hid (show (encL (frX X k)).length ≤ 2460 from by rw [← htot, bLen]; exact hal2)
        clear hb0 htot hok hi0 HI hal
        go_wp2_with fail
        refine (snew_any 300 wa).mono ?_
        rintro x w1 ⟨rfl, rfl⟩
        go_wp2_with fail
        go_loopg [5, 10] al.size (fun f a u wr2 => ∃ (r : ByteArray) (fed : List UInt8) (gt : List FP) (v : Value) (L : List UInt8) (p : Nat) (V : SV), a = .string r ∧ f = r.size ∧ r.size ≤ 2460 ∧ fed.length ≤ 2460 ∧ fed ++ r.data.toList = encL (frX X k) ∧ BkIn wa wr2 S fed u gt v L p V)
        case atStart => exact ⟨al, [], _, _, _, _, _, rfl, rfl, hal2, Nat.zero_le _, by rw [List.nil_append]; exact HTOT.out, HI0.out⟩
        case round =>
          obtain ⟨r, fed, gt, v, L, p, V, rfl, rfl, hr, hfed, htot, hi⟩ := hrel
          obtain ⟨av, nv, cv, rfl, rfl⟩ := hi.row.some_form
          have HI := Lib.hid hi
          have HT := Lib.hid htot
          by_cases h0 : r.size = 0
          · have hnil : r.data.toList = [] := List.eq_nil_of_length_eq_zero (by have := bLen r; omega)
            have hfe : fed = encL (frX X k) := by rw [← htot, hnil, List.append_nil]
            have hge : gt = frX X k := by rw [hi.inv.gotE, hfe, HEA.out]
            have hlf : leftV V = 0 := by rw [hi.inv.left, hfe, HEA.out]; rfl
            subst hge
            have HLF := Lib.hid hlf
            have hgl := frX_len X k
            have HBE := Lib.hid (HB0.out.trans (hi.bel.mono HB0.out.size))
            have hfs := fsame_any k cv c X X (fun hp => by
              have h := hi.row.frd (by rw [frX_len]; exact hp)
              obtain ⟨g, off, e, hc⟩ := h
              refine ⟨g, off, e, fun j hj => ?_⟩
              rw [← frX_back X k HOK.out j hj]
              exact hc j (by rw [frX_len]; exact hj)) (HA.out.below HBE.out) (fun _ _ => rfl) (by omega)
            have HFS := Lib.hid hfs
            clear hi htot hfs hlf hfe hnil
            rw [hgl]
            go_wp2_with fail
            refine HFS.out.mono ?_
            rintro x w3 ⟨rfl, d, rfl⟩
            have hbd := below_drewN (Below.refl wr.heap.size wr) d
            have HI3 := Lib.hid (HI.out.below hbd)
            have HSL := Lib.hid (sleft_any HI3.out.obj (by have := HI3.out.len; omega))
            rw [HLF.out] at HSL
            clear hbd HFS
            go_wp2_with fail
            refine HSL.out.mono ?_
            rintro x w4 ⟨rfl, hb4⟩
            have HI4 := Lib.hid (HI3.out.below hb4)
            have HB4 := Lib.hid (HB0.out.trans (HI4.out.bel.mono HB0.out.size))
            clear hb4 HSL
            go_wp2_with fail
            refine (awake07 (HE.out.later HB4.out)).mono ?_
            rintro x w5 ⟨rfl, hb5⟩
            have HB5 := Lib.hid (HB4.out.trans (hb5.mono HB4.out.size))
            clear hb5
            go_wp2_with fail
            go_ret
            exact ⟨rfl, HB5.out⟩
          · clear hi htot
            go_wp2_with fail
            case' inl =>
              obtain ⟨s, hs⟩ : ∃ s, s = r := ⟨_, rfl⟩
              subst hs
              have HH1 := feed_any HI.out.obj s (by omega) (by have := HI.out.len; omega) (fun h0 => by have := HI.out.lost h0; omega)
              refine HH1.mono ?_
              rintro x w1 ⟨rfl, v1, L1, p1, hN1, hl1⟩
              have HN1 := Lib.hid hN1
              have HL1 := Lib.hid hl1
              clear HH1 hN1 hl1
              go_wp2_with fail
              obtain ⟨r2, hr2⟩ : ∃ r2, r2 = ByteArray.empty := ⟨_, rfl⟩
              rw [← hr2]
              have HTT := Lib.hid (show fed ++ (s.data.toList ++ r2.data.toList) = encL (frX X k) from by rw [hr2, ← HT.out]; simp)
              have hsm : r2.size < s.size := by rw [hr2]; simp; omega
              have hss : s.size ≤ 2460 := by omega
              clear hr2
            case' inr =>
              generalize hs : r.extract 0 (1 + pc).toNat = s at *
              have hs1 : s.size ≤ 256 := by rw [← hs]; simp; omega
              have hs2 : s.size ≤ r.size := by rw [← hs]; simp; omega
              have HH1 := feed_any HI.out.obj s (by omega) (by have := HI.out.len; omega) (fun h0 => by have := HI.out.lost h0; omega)
              refine HH1.mono ?_
              rintro x w1 ⟨rfl, v1, L1, p1, hN1, hl1⟩
              have HN1 := Lib.hid hN1
              have HL1 := Lib.hid hl1
              have HS := Lib.hid hs
              clear HH1 hN1 hl1 hs
              go_wp2_with fail
              generalize hr2 : r.extract (1 + pc).toNat r.size = r2
              have hrl := bLen r
              have HTT := Lib.hid (show fed ++ (s.data.toList ++ r2.data.toList) = encL (frX X k) from by
                rw [← HT.out, ← HS.out, ← hr2, ext_list, ext_list, List.drop_zero, Nat.sub_zero, List.take_of_length_le (l := List.drop _ _) (by rw [List.length_drop]; omega), List.take_append_drop])
              have hsm : r2.size < r.size := by rw [← hr2]; simp; omega
              have hss : s.size ≤ 2460 := by omega
              clear hr2 hrl
            all_goals
              have hb1 := HN1.out.later HI.out.obj HI.out.bel
              have h2 := drain_any S wa w1 wa.heap.size p1 L1.length v1 (feedV V s) L1 HEB.out hb1 HN1.out.obj rfl (by have := HI.out.len; have := HL1.out; omega)
              have hno : (drainV (feedV V s)).no = 0 := by
                rw [(HI.out.inv.step s).noE]
                refine allF_first (u := r2.data.toList) ?_
                rw [List.append_assoc, HTT.out, HEA.out]
              have HNO := Lib.hid hno
              clear hno hb1
              refine h2.mono ?_
              intro x w2 hx
              unfold DrSays at hx
              obtain ⟨a2, c2, e, rfl, he, hrow2, v2, L2, p2, hN2, hl2⟩ := hx
              unfold ErrOf at he
              rw [if_pos HNO.out] at he
              subst he
              have hr2 := (HI.out.row.snext HI.out.obj HN1.out).snext HN1.out.obj hN2
              have hb2 := (hN2.later HN1.out.obj (HN1.out.later HI.out.obj HI.out.bel)).size
              have HR2 := Lib.hid hr2
              have HB2 := Lib.hid hb2
              have HM2 := Lib.hid hrow2
              have hgl2 : gt.length + (drainP (feedV V s)).length ≤ 1000000 ∧ (fed ++ s.data.toList).length ≤ 2460 := by
                have h1 := HI.out.inv.step s
                have h2 := allF_len 300 (fed ++ s.data.toList).length (fed ++ s.data.toList) (Nat.le_refl _)
                have h5 := congrArg List.length h1.gotE
                have h6 := congrArg List.length HTT.out
                have h7 := HTL.out
                simp only [List.length_append] at h2 h5 h6 ⊢
                omega
              have HGL := Lib.hid hgl2
              have HN2 := Lib.hid hN2
              have HL2 := Lib.hid hl2
              clear hr2 hb2 hrow2 hgl2 hN2 hl2 h2
              go_wp2_with (at_builtin; go_must (refine append_more rfl _ _ rfl HR2.out HB2.out rfl HM2.out rfl rfl HGL.out.1 ?_))
              intro u3 w3 hn3
              have hi3 := HI.out.round HN1.out HL1.out HN2.out HL2.out hn3
              have HI3 := Lib.hid hi3
              clear hn3 hi3
              go_wp2_with fail
              go_roundg r2.size
              case rel =>
                refine ⟨r2, fed ++ s.data.toList, _, v2, L2, p2, _, rfl, rfl, by omega, HGL.out.2, ?_, HI3.out⟩
                rw [List.append_assoc]
                exact HTT.out
              case measure => omega
end Go.Proofs.YtfojoeafhdiaiaaDoor

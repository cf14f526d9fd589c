/- What is proved here: FrameSplits answers true for every texts and number. Condition: what the rows list of the package's variables. -/
import Derived.Test.YtfojoeafhdiaiaaDoorAwk07
import Derived.Test.YtfojoeafhdiaiaaDoorSam07
import Derived.Test.YtfojoeafhdiaiaaDoorAll07
namespace Go.Proofs.YtfojoeafhdiaiaaDoor
set_option maxRecDepth 100000
open Go.RowKit Go.Extern.Stop Go.Stop Go.Extern
/-- What the loop holds: the splitter, the packets so far, all bytes so far. -/
structure SpIn (w W : World) (S : Nat → Addr) (mo : Int) (al : ByteArray) (k : Nat) (u : Value) (gt : List FP) (v : Value) (L : List UInt8) (p : Nat) (V : SV) : Prop where
  obj : SObj W S w.heap.size w.heap.size v L p V
  bel : Below w.heap.size w W
  row : FRow W w.heap.size u gt
  inv : SInv mo al.data.toList V gt
  len : L.length ≤ 200 * k
  aln : al.size ≤ 200 * k
section
variable {w W w1 w2 w3 w' : World} {S : Nat → Addr} {mo : Int} {al s : ByteArray} {k p p1 p2 : Nat} {u u' v v1 v2 : Value} {gt : List FP} {L L1 L2 : List UInt8} {V : SV}
theorem SpIn.below (h : SpIn w W S mo al k u gt v L p V) (hb : Below W.heap.size W w') : SpIn w w' S mo al k u gt v L p V := ⟨h.obj.below hb, h.bel.trans (hb.mono h.bel.size), h.row.below hb, h.inv, h.len, h.aln⟩
theorem SpIn.lost (h : SpIn w W S mo al k u gt v L p V) (h0 : V.no ≠ 0) : V.lost ≤ 200 * k := by
  have h1 := (h.inv.some h0).2.2
  have h2 := allF_len mo al.data.toList.length al.data.toList (Nat.le_refl _)
  have h3 := bLen al
  have h4 := h.aln
  omega
theorem bapp (a b : ByteArray) : (a ++ b).data.toList = a.data.toList ++ b.data.toList := by simp
/-- One round. -/
theorem SpIn.round (h : SpIn w W S mo al k u gt v L p V) (hs : s.size ≤ 200) (h1 : SNext W w1 S w.heap.size w.heap.size v v1 L1 p1 (feedV V s)) (hl1 : L1.length ≤ L.length + s.size)
    (h2 : SNext w1 w2 S w.heap.size w.heap.size v1 v2 L2 p2 (drainV (feedV V s))) (hl2 : L2.length ≤ L1.length) {e : Value} (he : ErrOf w2 S (drainV (feedV V s)).r (drainV (feedV V s)).no (drainV (feedV V s)).a e)
    (h3 : FNext w2 w3 w.heap.size u u' (gt ++ drainP (feedV V s))) :
    SpIn w w3 S mo (al ++ s) (k + 1) u' (gt ++ drainP (feedV V s)) v2 L2 p2 (drainV (feedV V s)) ∧ ErrOf w3 S (allF mo (al ++ s).data.toList).r (allF mo (al ++ s).data.toList).no (allF mo (al ++ s).data.toList).a e := by
  have hr1 := h.row.snext h.obj h1
  have hr2 := hr1.snext h1.obj h2
  have hb1 := h1.later h.obj h.bel
  have hb2 := h2.later h1.obj hb1
  have hf : Fr u.ownBlock.toList w2 w3 := (Fr.refl _ w2).grown h3.grown fun k hk => .inl (own_list.2 hk)
  have hi := h.inv.step s
  rw [← bapp] at hi
  have hll := h.len
  have haa := h.aln
  refine ⟨⟨h2.obj.grown hr2 h3.grown, hf.later hb2 (fun b hm => (hr2.lt b (own_list.1 hm)).1) hb2.size, h3.row, hi, by omega, ?_⟩, hi.err (err_fr he hf (frow_nof hr2))⟩
  have : (al ++ s).size = al.size + s.size := by simp
  omega
end
set_option maxHeartbeats 4000000 in
theorem frameSplits_walk (S : Nat → Addr) (A : Option Addr) (n c : Nat) (M : List ByteArray) (mo : Int) (w : World) (hE : Env w S) (hm : n ≤ maxLen) (h : StrsOf w A n M) (_hmo : (Lit.int .i64 mo).wf = true) :
    Calls Tryd.prog 7 #[.slice A n c, .int .i64 mo] w fun x w' => x = .returned (.bool true) ∧ Below w.heap.size w w' := by
  have hm' : n ≤ 9223372036854775807 := by unfold maxLen at hm; omega
  have HFW := Lib.hid (few07_any n c h hm')
  have HE := Lib.hid hE
  have HA := Lib.hid h
  clear hE hm h
  go_enter Tryd.func7, Tryd.ntmps7
  go_wp2_with fail
  refine HFW.out.mono ?_
  rintro x w0 ⟨⟨b, rfl, hb⟩, rfl⟩
  clear HFW
  cases b with
  | false =>
    go_wp2_with fail
    refine (awake07 HE.out).mono ?_
    rintro x w2 ⟨rfl, hb⟩
    go_wp2
    go_ret
    exact ⟨rfl, hb⟩
  | true =>
    obtain ⟨hn40, hsz⟩ := hb rfl
    have HSZ := Lib.hid hsz
    have hi0 : SpIn w (w.alloc (.cells #[.int .i64 mo, .slice none 0 0, .int .i64 0, .nilIface, .int .i64 0] 121)) S mo ⟨#[]⟩ 0 (.slice none 0 0) [] (.slice none 0 0) [] 0 ⟨mo, [], 0, 0, 0, 0⟩ :=
      ⟨SObj.made w S mo (Nat.le_refl _), (Below.refl _ _).alloc (Nat.le_refl _) _, FRow.nil _ _, SInv.begin mo, Nat.le_refl _, Nat.le_refl _⟩
    have HI0 := Lib.hid hi0
    clear hb hsz hi0
    go_wp2_with fail
    refine (snew_any mo w).mono ?_
    rintro x w0 ⟨rfl, rfl⟩
    go_wp2_with fail
    go_loopw [7, 8, 9] (fun u a i wr => ∃ (k : Nat) (al : ByteArray) (gt : List FP) (v : Value) (L : List UInt8) (p : Nat) (V : SV), a = .string al ∧ i = .int .i64 k ∧ k ≤ n ∧ SpIn w wr S mo al k u gt v L p V) (fun _ _ i _ => n - (intOf i).toNat)
    case atStart => exact ⟨0, _, _, _, _, _, _, rfl, rfl, Nat.zero_le _, HI0.out⟩
    case round =>
      obtain ⟨k, al, gt, v, L, p, V, rfl, rfl, hk, hi⟩ := hrel
      obtain ⟨av, nv, cv, rfl, rfl⟩ := hi.row.some_form
      have HI := Lib.hid hi
      by_cases hlt : k < n
      · obtain ⟨hnM, hsr⟩ := HA.out
        obtain ⟨g, off, rfl, hc⟩ := hsr (by omega)
        have hsz := HSZ.out k hlt
        have c0 := hc k (by omega)
        obtain ⟨s, hs⟩ : ∃ s, s = M.getD k e0 := ⟨_, rfl⟩
        rw [← hs] at c0 hsz
        have hgl := lt_of_cell c0
        have CC := Lib.hid (fun (W : World) (hb : Below w.heap.size w W) => show W.cell? ⟨g, off + k, none⟩ = some (.string s) from (World.cell?_of_block (w := w) (hb.block g hgl)).trans c0)
        have c1 := CC.out wr hi.bel
        have h1 := feed_any hi.obj s (by omega) (by have := hi.len; omega) (fun h0 => by have := hi.lost h0; omega)
        have H1 := Lib.hid h1
        have HSS := Lib.hid hsz
        clear hi hc hs hsr c0 h1 hsz hnM
        go_wp2_with fail
        refine H1.out.mono ?_
        rintro x w1 ⟨rfl, v1, L1, p1, hN1, hl1⟩
        have hb1 := hN1.later HI.out.obj HI.out.bel
        have c2 := CC.out w1 hb1
        have hal := HI.out.aln
        have hal2 : al.size + s.size ≤ 9000 := by have := HSS.out; omega
        have h2 := drain_any S w w1 w.heap.size p1 L1.length v1 (feedV V s) L1 HE.out hb1 hN1.obj rfl (by have := HI.out.len; have := HSS.out; omega)
        have H2 := Lib.hid h2
        have HN1 := Lib.hid hN1
        have HL1 := Lib.hid hl1
        clear hN1 hl1 hb1 h2 H1 hal c1
        go_wp2_with fail
        refine (feed_nil s w1).mono ?_
        rintro x w2 ⟨rfl, rfl⟩
        go_wp2_with fail
        refine H2.out.mono ?_
        intro x w2 hx
        unfold DrSays at hx
        obtain ⟨a2, c2, e, rfl, he, hrow2, v2, L2, p2, hN2, hl2⟩ := hx
        have hr2 := (HI.out.row.snext HI.out.obj HN1.out).snext HN1.out.obj hN2
        have hb2 := (hN2.later HN1.out.obj (HN1.out.later HI.out.obj HI.out.bel)).size
        have HR2 := Lib.hid hr2
        have HB2 := Lib.hid hb2
        have HM2 := Lib.hid hrow2
        have hgl2 : gt.length + (drainP (feedV V s)).length ≤ 1000000 := by
          have h1 := HI.out.inv.step s
          rw [← bapp] at h1
          have h2 := allF_len mo (al ++ s).data.toList.length (al ++ s).data.toList (Nat.le_refl _)
          have h3 := bLen (al ++ s)
          have h4 : (al ++ s).size = al.size + s.size := by simp
          have h5 := congrArg List.length h1.gotE
          rw [List.length_append] at h5
          omega
        have HGL := Lib.hid hgl2
        have HN2 := Lib.hid hN2
        have HL2 := Lib.hid hl2
        have HER := Lib.hid he
        clear hr2 hb2 hrow2 hgl2 hN2 hl2 he H2
        go_wp2_with (at_builtin; go_must (refine append_more rfl _ _ rfl HR2.out HB2.out rfl HM2.out rfl rfl HGL.out ?_))
        intro u3 w3 hn3
        obtain ⟨hi3, he3⟩ := HI.out.round HSS.out HN1.out HL1.out HN2.out HL2.out HER.out hn3
        obtain ⟨u3a, u3n, u3c, rfl, rfl⟩ := hi3.row.some_form
        have hall := rall_any mo (al ++ s) (by have : (al ++ s).size = al.size + s.size := by simp
                                               omega) w3
        obtain ⟨AA, hAA⟩ : ∃ AA, AA = allF mo (al ++ s).data.toList := ⟨_, rfl⟩
        rw [← hAA] at hall he3
        have hpk : gt ++ drainP (feedV V s) = AA.pk := by rw [hAA]; exact hi3.inv.gotE
        rw [hpk] at hi3
        have hlf : leftV (drainV (feedV V s)) = AA.rest.length := by rw [hAA]; exact hi3.inv.left
        rw [hpk]
        generalize drainV (feedV V s) = V2 at *
        obtain ⟨G, RS, no, r, at_⟩ := AA
        simp only at hpk hi3 he3 hlf
        have HI3 := Lib.hid hi3
        have HER3 := Lib.hid he3
        have HLF := Lib.hid hlf
        have HALL := Lib.hid hall
        have hal3 : (al ++ s).size ≤ 200 * (k + 1) := hi3.aln
        clear hn3 hi3 he3 hall hlf hpk hAA HI HN1 HL1 HN2 HL2 HER HR2 HB2 HM2 HGL HI0
        go_wp2_with fail
        refine HALL.out.mono ?_
        intro x w4 hx
        unfold AlSays at hx
        obtain ⟨a4, c4, rfl, hrow4, hb4⟩ := hx
        simp only at hrow4
        simp only
        have hb5 : Below w4.heap.size w4 (w4.alloc (.cells #[.int .i64 no, .int .i64 r, .int .i64 at_] 63)) := (Below.refl _ _).alloc (Nat.le_refl _) _
        have hb35 := hb4.trans (hb5.mono hb4.size)
        have hi5 := HI3.out.below hb35
        have HS1 := Lib.hid (fsame_any G.length u3c c4 (fX G) (fX G) hi5.row.frd (hrow4.frd.below hb5) (fun _ _ => rfl) (by
          have h1 := HLF.out
          have h2 := hi5.inv
          have h3 := allF_len mo (al ++ s).data.toList.length (al ++ s).data.toList (Nat.le_refl _)
          have h4 := bLen (al ++ s)
          rw [← h2.gotE] at h3
          omega))
        have hbx := Blk.made w4 63 #[.int .i64 no, .int .i64 r, .int .i64 at_]
        have HBX := Lib.hid hbx
        have HB35 := Lib.hid hb35
        clear hrow4 hb4 hb5 hb35 hi5 hbx HALL
        go_wp2_with fail
        refine HS1.out.mono ?_
        rintro x w6 ⟨rfl, d, rfl⟩
        have hb6 : Below (w4.alloc (.cells #[.int .i64 no, .int .i64 r, .int .i64 at_] 63)).heap.size (w4.alloc (.cells #[.int .i64 no, .int .i64 r, .int .i64 at_] 63)) ((w4.alloc (.cells #[.int .i64 no, .int .i64 r, .int .i64 at_] 63)).drewN d) := below_drewN (Below.refl _ _) d
        have hb36 := HB35.out.trans (hb6.mono HB35.out.size)
        have q0 := (HBX.out.drewN d).cell 0
        have q1 := (HBX.out.drewN d).cell 1
        have q2 := (HBX.out.drewN d).cell 2
        have HI6 := Lib.hid (HI3.out.below hb36)
        have HS2 := Lib.hid (same07 S no at_ r e _ (HE.out.later HI6.out.bel) (HER3.out.later hb36))
        clear hb6 hb36 HS1
        go_wp2_with fail
        refine HS2.out.mono ?_
        rintro x w7 ⟨rfl, hb7⟩
        have HI7 := Lib.hid (HI6.out.below hb7)
        have HS3 := Lib.hid (sleft_any HI7.out.obj (by have := HI7.out.len; omega))
        rw [HLF.out] at HS3
        clear hb7 HS2 q0 q1 q2
        go_wp2_with fail
        refine HS3.out.mono ?_
        rintro x w8 ⟨rfl, hb8⟩
        have HI8 := Lib.hid (HI7.out.below hb8)
        clear hb8 HS3
        go_wp2_with fail
        go_roundw
        case rel => exact ⟨k + 1, al ++ s, G, v2, L2, p2, V2, rfl, by go_num, by omega, HI8.out⟩
        case measure => simp [intOf]; omega
      · obtain rfl : k = n := by omega
        have HB := Lib.hid hi.bel
        clear hi HI HI0 HSZ HA
        go_wp2_with fail
        refine (next_nil wr).mono ?_
        rintro x w1 ⟨rfl, hb1⟩
        rw [show fr0 = .agg #[.int .i64 0, .string ⟨#[]⟩] from rfl]
        have hb2 : Below w1.heap.size w1 (w1.alloc (.cells #[.int .i64 0, .string ⟨#[]⟩] 61)) := (Below.refl _ _).alloc (Nat.le_refl _) _
        have hb3 := hb1.trans (hb2.mono hb1.size)
        have HB3 := Lib.hid (HB.out.trans (hb3.mono HB.out.size))
        clear hb1 hb2 hb3
        go_wp2_with fail
        refine (sleft_nil _).mono ?_
        rintro x w3 ⟨rfl, rfl⟩
        go_wp2_with fail
        refine (awake07 (HE.out.later HB3.out)).mono ?_
        rintro x w4 ⟨rfl, hb4⟩
        have HB4 := Lib.hid (HB3.out.trans (hb4.mono HB3.out.size))
        clear hb4
        go_wp2_with fail
        go_ret
        exact ⟨rfl, HB4.out⟩
end Go.Proofs.YtfojoeafhdiaiaaDoor

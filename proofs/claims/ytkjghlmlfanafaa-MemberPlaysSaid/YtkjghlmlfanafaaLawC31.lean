/- What is proved here: MemberPlays answers true for every acts. Condition: the argument is what a row says of it. -/
import Derived.Test.YtkjghlmlfanafaaPl31
import Derived.Deep.QuietTactic
import Derived.BigQuiet
namespace Go.Proofs.Ytkjghlmlfanafaa
open Go.RowKit Go.Extern.Stop Go.Stop Go.Extern
section
variable {w w' : World} {A : Option Addr} {L : ML} {gen : Nat}
theorem SRd.belowW {T : List ByteArray} (h : SRd w A T) (hb : Below w.heap.size w w') : SRd w' A T := by
  intro hp
  obtain ⟨g, off, e, hc⟩ := h hp
  exact ⟨g, off, e, fun k hk => (World.cell?_of_block (w := w) (hb.block g (lt_of_cell (hc k hk)))).trans (hc k hk)⟩
/-- Members of both kinds stand in a later world. -/
def PP (w W : World) (g gx : Nat) (L : ML) (gen : Nat) (L' : ML) (gen' : Nat) : Prop := ∃ v xv, Both W w.heap.size g gx v xv L gen L' gen' ∧ Below w.heap.size w W
theorem PP.drew {W : World} {g gx gen gen' : Nat} {L L' : ML} (h : PP w W g gx L gen L' gen') : PP w W.drew g gx L gen L' gen' := by
  obtain ⟨v, xv, h1, h2⟩ := h
  exact ⟨v, xv, h1.below ((Below.refl _ W).drew), h2.drew⟩
theorem PP.bel {W : World} {g gx gen gen' : Nat} {L L' : ML} (h : PP w W g gx L gen L' gen') : Below w.heap.size w W := by
  obtain ⟨v, xv, h1, h2⟩ := h
  exact h2
def getM (L : ML) (c : ByteArray) : MV := if idxM L c = -1 then m0 else L.getD (idxM L c).toNat m0
def getO (L : ML) (c : ByteArray) : Bool := !decide (idxM L c = -1)
theorem getsays {L : ML} {c : ByteArray} {x : Ending} (h : GetSays w L c x w') : x = .returned (.tuple #[.agg #[.string (getM L c).client, .int .i64 (getM L c).since, .int .i64 (getM L c).qos, .bool (getM L c).on], .bool (getO L c)]) ∧ Below w.heap.size w w' := by
  rcases h with ⟨i, h1, h2, rfl, h3⟩ | ⟨h1, rfl, h3⟩
  · unfold getM getO
    rw [if_neg (by omega), decide_eq_false (by omega), h1]
    exact ⟨rfl, h3⟩
  · unfold getM getO
    rw [if_pos h1, decide_eq_true h1]
    exact ⟨rfl, h3⟩
theorem pp_left {W : World} {g gx gen : Nat} {L : ML} (h : PP w W g gx L gen L gen) (hm : L.length ≤ 900) (hg : gen ≤ 1000000) (k : Int) (c : ByteArray) (q : Int) :
    Calls Try.prog 15 #[.pointer (some ⟨g, 0, none⟩), .agg #[.int .i64 k, .string c, .int .i64 q]] W fun x w' => x = .returned (.bool (actM k c q L gen).1) ∧ PP w w' g gx (actM k c q L gen).2.1 (actM k c q L gen).2.2 L gen := by
  obtain ⟨v, xv, h1, h2⟩ := h
  refine (do_any h1.m hm hg k c q).mono ?_
  rintro x w' ⟨e, v', hs⟩
  exact ⟨e, v', xv, h1.left hs, hs.below h1.m h2 h2.size⟩
theorem pp_right {W : World} {g gx gen gen' : Nat} {L L' : ML} (h : PP w W g gx L' gen' L gen) (hm : L.length ≤ 900) (hg : gen ≤ 1000000) (hnd : (clientsOf L).Nodup) (k : Int) (c : ByteArray) (q : Int) (e1 : (actM k c q L gen).2.1 = L') (e2 : (actM k c q L gen).2.2 = gen') :
    Calls Try.prog 16 #[.pointer (some ⟨gx, 0, none⟩), .agg #[.int .i64 k, .string c, .int .i64 q]] W fun x w' => x = .returned (.bool (actM k c q L gen).1) ∧ PP w w' g gx L' gen' L' gen' := by
  obtain ⟨v, xv, h1, h2⟩ := h
  refine (rdo_any h1.x hm hg k c q).mono ?_
  rintro x w' ⟨e, v', hs⟩
  rw [refAct_eq k c q L gen hnd] at e hs
  rw [e1, e2] at hs
  exact ⟨e, v, v', h1.right hs h2.size, hs.below h2 h1.low h2.size⟩
theorem pp_no {W : World} {g gx gen gen' : Nat} {L L' : ML} (h : PP w W g gx L' gen' L gen) (k : Int) (c : ByteArray) (q : Int) :
    Calls Try.prog 15 #[.pointer none, .agg #[.int .i64 k, .string c, .int .i64 q]] W fun x w' => x = .returned (.bool false) ∧ PP w w' g gx L' gen' L gen := by
  obtain ⟨v, xv, h1, h2⟩ := h
  refine (no_do W k c q).mono ?_
  rintro x w' ⟨e, hb⟩
  exact ⟨e, v, xv, h1.below hb, h2.trans (hb.mono h2.size)⟩
/-- Later than a world. -/
def Lat (w W : World) : Prop := Below w.heap.size w W
theorem Lat.drew {W : World} (h : Lat w W) : Lat w W.drew := Below.drew h
theorem Lat.next {W W' : World} (h : Lat w W) (hb : Below W.heap.size W W') : Lat w W' := Below.trans h (hb.mono (Below.size h))
theorem lat_all {B g gx : Nat} {v xv : Value} {L' : ML} {gen' : Nat} (h : Both w B g gx v xv L gen L' gen') (hm : L.length ≤ 900) {W : World} (hl : Lat w W) :
    Calls Try.prog 20 #[.pointer (some ⟨g, 0, none⟩)] W fun x w' => ∃ a c, x = .returned (.slice a L.length c) ∧ MRd w' a L ∧ Lat w w' := by
  refine (all_any (h.below hl).m (by omega)).mono ?_
  rintro x w' ⟨v', rfl, ho, hb⟩
  rcases ho.2 with ⟨rfl, h0⟩ | ⟨gr, cap, cur, rfl, _⟩
  · exact ⟨none, 0, by rw [h0], fun hp => by omega, hl.next hb⟩
  · exact ⟨_, _, rfl, row_mrd ho, hl.next hb⟩
theorem lat_here {B g gx : Nat} {v xv : Value} {L' : ML} {gen' : Nat} (h : Both w B g gx v xv L gen L' gen') (hm : L.length ≤ 900) {W : World} (hl : Lat w W) :
    Calls Try.prog 22 #[.pointer (some ⟨g, 0, none⟩)] W fun x w' => ∃ a c, x = .returned (.slice a (hereOf L).length c) ∧ SRd w' a (hereOf L) ∧ Lat w w' := by
  refine (here_any (h.below hl).m hm).mono ?_
  rintro x w' ⟨v', rfl, hr, hb⟩
  obtain ⟨a, c, rfl⟩ := hr.form
  exact ⟨a, c, rfl, hr.rd, hl.next hb⟩
theorem lat_rhere {B g gx : Nat} {v xv : Value} {L' : ML} {gen' : Nat} (h : Both w B g gx v xv L' gen' L gen) (hm : L.length ≤ 900) {W : World} (hl : Lat w W) :
    Calls Try.prog 23 #[.pointer (some ⟨gx, 0, none⟩)] W fun x w' => ∃ a c, x = .returned (.slice a (hereOf L).length c) ∧ SRd w' a (hereOf L) ∧ Below W.heap.size W w' ∧ Lat w w' := by
  refine (rhere_any (h.below hl).x hm).mono ?_
  rintro x w' ⟨v', rfl, hr, hb⟩
  obtain ⟨a, c, rfl⟩ := hr.form
  exact ⟨a, c, rfl, hr.rd, hb, hl.next hb⟩
theorem lat_same {B g gx : Nat} {v : Value} {xa : Option Addr} {xc n : Nat} {L' : ML} {gen' : Nat} (h : Both w B g gx v (.slice xa n xc) L' gen' L gen) (hn : n = L.length) (hm : L.length ≤ 900) {W : World} (hl : Lat w W) {a : Option Addr} {c : Nat} (ha : MRd W a L) :
    Calls Try.prog 19 #[.slice a n c, .slice xa n xc] W fun x w' => x = .returned (.bool true) ∧ Lat w w' := by
  obtain ⟨_, a2, c2, e, hr⟩ := (h.below hl).x
  injection e with e1 e2 e3
  subst e1
  refine (same_any ha hr n c xc hn (by omega)).mono ?_
  rintro x w' ⟨e, d, rfl⟩
  exact ⟨e, below_drewN hl d⟩
theorem lat_texts {W : World} (hl : Lat w W) {T : List ByteArray} {a b : Option Addr} {c d : Nat} (ha : SRd W a T) (hb : SRd W b T) (hm : T.length ≤ 900) :
    Calls Try.prog 21 #[.slice a T.length c, .slice b T.length d] W fun x w' => x = .returned (.bool true) ∧ Lat w w' := by
  refine (texts_any ha hb T.length c d rfl hm).mono ?_
  rintro x w' ⟨e, d, rfl⟩
  exact ⟨e, below_drewN hl d⟩
set_option maxHeartbeats 4000000 in
set_option maxRecDepth 10000 in
theorem memberPlays_walk (A : Option Addr) (n c : Nat) (X : Nat → AV) (w : World) (hnz : n ≤ maxLen) (ha : ActsOf31 w A n X) : Calls Try.prog 3 #[.slice A n c] w fun x w' => x = .returned (.bool true) ∧ Below w.heap.size w w' := by
  unfold maxLen at hnz
  have CA := Lib.hid awake31
  have W1 := Lib.hid (few31_any n c X ha hnz)
  have HA := Lib.hid ha
  have HP0 := Lib.hid (show PP w ((w.alloc (.cells #[.slice none 0 0, .int .i64 0] 28)).alloc (.cells #[.slice none 0 0, .int .i64 0] 31)) w.heap.size (w.heap.size + 1) [] 0 [] 0 from by
    have hb := (Below.refl w.heap.size w).alloc (Nat.le_refl _) (.cells #[.slice none 0 0, .int .i64 0] 28)
    have h1 := (mobj_new w (Nat.le_refl w.heap.size)).below ((Below.refl _ _).alloc (Nat.le_refl _) (.cells #[.slice none 0 0, .int .i64 0] 31))
    have h2 := Blk.made (w.alloc (.cells #[.slice none 0 0, .int .i64 0] 28)) 31 #[.slice none 0 0, .int .i64 0]
    rw [show (w.alloc (.cells #[.slice none 0 0, .int .i64 0] 28)).heap.size = w.heap.size + 1 by simp] at h2
    exact ⟨_, _, ⟨h1, ⟨h2, none, 0, rfl, fun h => absurd h (by simp)⟩, by omega, by omega, (fun k hk => by cases hk), (fun k hk => by cases hk)⟩, hb.alloc hb.size _⟩)
  clear ha
  go_enter Try.func3, Try.ntmps3
  go_wp2_with fail
  refine W1.out.mono ?_
  rintro x w1 ⟨⟨b, rfl, hfew⟩, rfl⟩
  clear W1
  cases b with
  | false =>
    clear hfew
    go_wp2_with fail
    refine (CA.out _).mono ?_
    rintro x w1 ⟨rfl, hb⟩
    have HB := Lib.hid hb
    clear hb
    go_wp2_with fail
    go_ret
    exact ⟨rfl, HB.out⟩
  | true =>
    have hn60 := hfew rfl
    clear hfew hnz
    go_wp2_with fail
    obtain ⟨g, hg⟩ : ∃ g, g = w.heap.size := ⟨_, rfl⟩
    obtain ⟨gx, hgx⟩ : ∃ gx, gx = w.heap.size + 1 := ⟨_, rfl⟩
    rw [← hgx, ← hg] at HP0
    rw [← hgx, ← hg]
    clear hg hgx
    go_loopw [6] (fun i wr => ∃ (k gen : Nat) (L : ML), k ≤ n ∧ i = .int .i64 k ∧ PP w wr g gx L gen L gen ∧ L.length ≤ k ∧ gen ≤ k ∧ (clientsOf L).Nodup) (fun i _ => n - (intOf i).toNat)
    case atStart => exact ⟨0, 0, [], by omega, rfl, HP0.out, by simp, by omega, by simp [clientsOf]⟩
    case round =>
      obtain ⟨k, gen, L, hk, rfl, hpp, hlk, hgk, hnd⟩ := hrel
      have HND := Lib.hid hnd
      clear hnd
      by_cases hlt : k < n
      · obtain ⟨b0, off, rfl, hcc⟩ := (HA.out).resolve_left (by omega)
        have KS := Lib.hid (fun (W : World) (hb : Below w.heap.size w W) => show W.cell? ⟨b0, off + k * 3, none⟩ = some (.int .i64 (X k).kind) ∧ W.cell? ⟨b0, off + k * 3 + 1, none⟩ = some (.string (X k).client) ∧ W.cell? ⟨b0, off + k * 3 + 2, none⟩ = some (.int .i64 (X k).qos) from by
          obtain ⟨c1, c2, c3⟩ := hcc k hlt
          have hgb := hb.block b0 (lt_of_cell c1)
          exact ⟨(World.cell?_of_block (w := w) hgb).trans c1, (World.cell?_of_block (w := w) hgb).trans c2, (World.cell?_of_block (w := w) hgb).trans c3⟩)
        have hkeep := actM_keeps (X k).kind (X k).client (X k).qos L gen HND.out
        have C1 := Lib.hid (fun W (h : PP w W g gx L gen L gen) => pp_left h (by omega) (by omega) (X k).kind (X k).client (X k).qos)
        have C2 := Lib.hid (fun W (h : PP w W g gx (actM (X k).kind (X k).client (X k).qos L gen).2.1 (actM (X k).kind (X k).client (X k).qos L gen).2.2 L gen) => pp_right h (by omega) (by omega) HND.out (X k).kind (X k).client (X k).qos rfl rfl)
        have C3 := Lib.hid (fun W (h : PP w W g gx (actM (X k).kind (X k).client (X k).qos L gen).2.1 (actM (X k).kind (X k).client (X k).qos L gen).2.2 (actM (X k).kind (X k).client (X k).qos L gen).2.1 (actM (X k).kind (X k).client (X k).qos L gen).2.2) => pp_no h (X k).kind (X k).client (X k).qos)
        have hS := KS.out _ hpp.bel
        clear hcc
        generalize actM (X k).kind (X k).client (X k).qos L gen = r at *
        obtain ⟨rb, L', gen'⟩ := r
        obtain ⟨hnd', hgen', hlen'⟩ := hkeep
        dsimp only at *
        generalize (X k).kind = xk at *
        generalize (X k).client = xc at *
        generalize (X k).qos = xq at *
        have HND' := Lib.hid hnd'
        clear hnd' HND
        have hlk' : L'.length ≤ k + 1 := by omega
        have hgk' : gen' ≤ k + 1 := by
          cases rb
          · simp at hgen'; omega
          · simp at hgen'; omega
        clear hlen' hgen'
        obtain ⟨s1, s2, s3⟩ := hS
        go_wp2_with fail
        go_region_held3 (fun W => W.cell? ⟨b0, off + k * 3, none⟩ = some (.int .i64 xk) ∧ W.cell? ⟨b0, off + k * 3 + 1, none⟩ = some (.string xc) ∧ W.cell? ⟨b0, off + k * 3 + 2, none⟩ = some (.int .i64 xq))
          (first | assumption | (exact KS.out _ (PP.bel (by assumption))) | (exact KS.out _ (PP.bel (PP.drew (by assumption)))))
          (first
            | (go_at_call_of 15 (Value.pointer (some ⟨g, 0, none⟩)); (with_reducible refine (C1.out _ ?_).mono ?_); (first | assumption | exact PP.drew (by assumption)); rintro x w6 ⟨rfl, hd6⟩)
            | (go_at_call_of 16 (Value.pointer (some ⟨gx, 0, none⟩)); (with_reducible refine (C2.out _ ?_).mono ?_); (first | assumption | exact PP.drew (by assumption)); rintro x w7 ⟨rfl, hd7⟩)
            | (go_at_call_of 15 (Value.pointer none); (with_reducible refine (C3.out _ ?_).mono ?_); (first | assumption | exact PP.drew (by assumption)); rintro x w8 ⟨rfl, hd8⟩))
        have HD8 := Lib.hid hd8
        clear hd6 hd7 C1 C2 C3 s1 s2 s3 hpp
        obtain ⟨v, xv, hbo, hbe⟩ := hd8
        have HG1 := Lib.hid ((get_any hbo.m (by omega) xc).mono fun _ _ h => getsays h)
        have HBO := Lib.hid hbo
        have HBE := Lib.hid hbe
        have s2 := (KS.out _ hbe).2.1
        clear hbo hbe
        obtain ⟨mg, hmg⟩ : ∃ mg, mg = getM L' xc := ⟨_, rfl⟩
        obtain ⟨og, hog⟩ : ∃ og, og = getO L' xc := ⟨_, rfl⟩
        rw [← hmg, ← hog] at HG1
        have HGM := Lib.hid hmg.symm
        have HGO := Lib.hid hog.symm
        clear hmg hog
        go_wp2_with fail
        refine HG1.out.mono ?_
        rintro x w9 ⟨rfl, hb9⟩
        have HB9 := Lib.hid hb9
        clear hb9 s2 HG1
        have hb10 : Below w8.heap.size w8 (w9.alloc (.cells #[.string mg.client, .int .i64 mg.since, .int .i64 mg.qos, .bool mg.on] 37)) := HB9.out.alloc HB9.out.size _
        have HG2 := Lib.hid ((rget_any (HBO.out.below hb10).x (by omega) xc).mono fun _ _ h => getsays h)
        have HB10 := Lib.hid hb10
        have s2 := (KS.out _ (HBE.out.trans (hb10.mono HBE.out.size))).2.1
        have HK7 := Lib.hid (Blk.made w9 37 #[.string mg.client, .int .i64 mg.since, .int .i64 mg.qos, .bool mg.on])
        clear hb10
        go_wp2_with fail
        refine HG2.out.mono ?_
        rintro x w11 ⟨hx11, hb11⟩
        rw [HGM.out, HGO.out] at hx11
        subst hx11
        have HB11 := Lib.hid (HB10.out.trans (hb11.mono HB10.out.size))
        have HK7' := Lib.hid (HK7.out.below hb11 HK7.out.lt)
        clear hb11 s2 HG2 HB10 HB9
        obtain ⟨k7, hk7⟩ : ∃ k7, k7 = w9.heap.size := ⟨_, rfl⟩
        rw [← hk7] at HK7'
        rw [← hk7]
        clear hk7 HK7
        have HK9 := Lib.hid (Blk.made w11 37 #[.string mg.client, .int .i64 mg.since, .int .i64 mg.qos, .bool mg.on])
        have HK7 := Lib.hid (HK7'.out.alloc (.cells #[.string mg.client, .int .i64 mg.since, .int .i64 mg.qos, .bool mg.on] 37))
        have HBB := Lib.hid (HB11.out.alloc HB11.out.size (.cells #[.string mg.client, .int .i64 mg.since, .int .i64 mg.qos, .bool mg.on] 37))
        go_upto_region 12 with fail
        obtain ⟨wB, hwB⟩ : ∃ wB, wB = w11.alloc (.cells #[.string mg.client, .int .i64 mg.since, .int .i64 mg.qos, .bool mg.on] 37) := ⟨_, rfl⟩
        rw [← hwB] at HK9 HK7 HBB ⊢
        obtain ⟨k9, hk9⟩ : ∃ k9, k9 = w11.heap.size := ⟨_, rfl⟩
        rw [← hk9] at HK9 ⊢
        clear hwB hk9 HK7' HB11
        have hbo := HBO.out.below HBB.out
        obtain ⟨nl, hnl⟩ : ∃ nl, nl = L'.length := ⟨_, rfl⟩
        obtain ⟨xa, xcp, rfl⟩ : ∃ a c, xv = .slice a nl c := by
          obtain ⟨_, a, c, e, _⟩ := hbo.x
          exact ⟨a, c, by rw [e, hnl]⟩
        obtain ⟨nh, hnh⟩ : ∃ nh, nh = (hereOf L').length := ⟨_, rfl⟩
        have hh9 : (hereOf L').length ≤ 900 := Nat.le_trans (here_len L') (by omega)
        obtain ⟨ow, how⟩ : ∃ ow, ow = (hereOf L').getD 0 e0 := ⟨_, rfl⟩
        have D20 := Lib.hid (fun W (h : Lat wB W) => hnl ▸ lat_all hbo (by omega) h)
        have D22 := Lib.hid (fun W (h : Lat wB W) => hnh ▸ lat_here hbo (by omega) h)
        have D23 := Lib.hid (fun W (h : Lat wB W) => hnh ▸ lat_rhere hbo (by omega) h)
        have D19 := Lib.hid (fun W a c (h : Lat wB W) (ha : MRd W a L') => lat_same hbo hnl (by omega) h (c := c) ha)
        have D21 := Lib.hid (fun W a b c d (h : Lat wB W) (ha : SRd W a (hereOf L')) (hb : SRd W b (hereOf L')) => hnh ▸ lat_texts h ha hb hh9 (c := c) (d := d))
        have D24 := Lib.hid (fun W (h : Lat wB W) => (owner_any (hbo.below h).m (by omega)).mono fun x w' hx => show x = .returned (.string ow) ∧ Lat wB w' from ⟨by rw [hx.1, how], h.next hx.2⟩)
        have D25 := Lib.hid (fun W (h : Lat wB W) => (rowner_any (hbo.below h).x (by omega)).mono fun x w' hx => show x = .returned (.string ow) ∧ Lat wB w' from ⟨by rw [hx.1, how], h.next hx.2⟩)
        have D26 := Lib.hid (fun W (h : Lat wB W) => gen_any (hbo.below h).m)
        have hte : (ow.toList == ow.toList) = true := by rw [eq_text]; exact decide_eq_true rfl
        have hag := agg_ne mg
        have KS := Lib.hid (fun W (h : Lat wB W) => show W.cell? ⟨k7, 0, none⟩ = some (.string mg.client) ∧ W.cell? ⟨k7, 1, none⟩ = some (.int .i64 mg.since) ∧ W.cell? ⟨k7, 2, none⟩ = some (.int .i64 mg.qos) ∧ W.cell? ⟨k7, 3, none⟩ = some (.bool mg.on) ∧
            W.cell? ⟨k9, 0, none⟩ = some (.string mg.client) ∧ W.cell? ⟨k9, 1, none⟩ = some (.int .i64 mg.since) ∧ W.cell? ⟨k9, 2, none⟩ = some (.int .i64 mg.qos) ∧ W.cell? ⟨k9, 3, none⟩ = some (.bool mg.on) ∧
            W.cell? ⟨gx, 0, none⟩ = some (.slice xa nl xcp) ∧ W.cell? ⟨gx, 1, none⟩ = some (.int .i64 gen') from by
          have h7 := HK7.out.below h HK7.out.lt
          have h9 := HK9.out.below h HK9.out.lt
          have hx := (hbo.below h).x.blk
          exact ⟨h7.cell 0, h7.cell 1, h7.cell 2, h7.cell 3, h9.cell 0, h9.cell 1, h9.cell 2, h9.cell 3, hx.cell 0, hx.cell 1⟩)
        have hJ : Lat wB wB := Below.refl _ _
        have hS := KS.out _ hJ
        have HBO2 := Lib.hid hbo
        clear hnl hnh how hbo HK7 HK9
        generalize hereOf L' = LH at *
        obtain ⟨s1, s2, s3, s4, s5, s6, s7, s8, s9, s10⟩ := hS
        go_region_held3 (fun W => W.cell? ⟨k7, 0, none⟩ = some (.string mg.client) ∧ W.cell? ⟨k7, 1, none⟩ = some (.int .i64 mg.since) ∧ W.cell? ⟨k7, 2, none⟩ = some (.int .i64 mg.qos) ∧ W.cell? ⟨k7, 3, none⟩ = some (.bool mg.on) ∧
            W.cell? ⟨k9, 0, none⟩ = some (.string mg.client) ∧ W.cell? ⟨k9, 1, none⟩ = some (.int .i64 mg.since) ∧ W.cell? ⟨k9, 2, none⟩ = some (.int .i64 mg.qos) ∧ W.cell? ⟨k9, 3, none⟩ = some (.bool mg.on) ∧
            W.cell? ⟨gx, 0, none⟩ = some (.slice xa nl xcp) ∧ W.cell? ⟨gx, 1, none⟩ = some (.int .i64 gen'))
          (first | assumption | (exact KS.out _ (by assumption)) | (exact KS.out _ (Lat.drew (by assumption))))
          (first
            | (go_at_call 20; (with_reducible refine (D20.out _ ?_).mono ?_); (first | assumption | exact Lat.drew (by assumption)); rintro x w12 ⟨a12, c12, rfl, hr12, hd12⟩)
            | (go_at_call 19; (with_reducible refine (D19.out _ _ _ ?_ ?_).mono ?_); (first | assumption | exact Lat.drew (by assumption)); (first | assumption | exact MRd.drewN (by assumption) 1); rintro x w13 ⟨rfl, hd13⟩)
            | (go_at_call 22; (with_reducible refine (D22.out _ ?_).mono ?_); (first | assumption | exact Lat.drew (by assumption)); rintro x w14 ⟨a14, c14, rfl, hr14, hd14⟩)
            | (go_at_call 23; (with_reducible refine (D23.out _ ?_).mono ?_); (first | assumption | exact Lat.drew (by assumption)); rintro x w15 ⟨a15, c15, rfl, hr15, hb15, hd15⟩; have hr16 := SRd.belowW (by first | assumption | exact SRd.drew (by assumption)) hb15)
            | (go_at_call 21; (with_reducible refine (D21.out _ _ _ _ _ ?_ ?_ ?_).mono ?_); (first | assumption | exact Lat.drew (by assumption)); (first | assumption | exact SRd.drew (by assumption)); (first | assumption | exact SRd.drew (by assumption)); rintro x w17 ⟨rfl, hd17⟩)
            | (go_at_call 24; (with_reducible refine (D24.out _ ?_).mono ?_); (first | assumption | exact Lat.drew (by assumption)); rintro x w18 ⟨rfl, hd18⟩)
            | (go_at_call 25; (with_reducible refine (D25.out _ ?_).mono ?_); (first | assumption | exact Lat.drew (by assumption)); rintro x w19 ⟨rfl, hd19⟩)
            | (go_at_call 26; (with_reducible refine (D26.out _ ?_).mono ?_); (first | assumption | exact Lat.drew (by assumption)); rintro x w20 ⟨rfl, rfl⟩))
        have HPP := Lib.hid (show PP w w19 g gx L' gen' L' gen' from ⟨v, _, HBO2.out.below hd19, HBE.out.trans ((HBB.out.trans (Below.mono hd19 HBB.out.size)).mono HBE.out.size)⟩)
        clear hd12 hr12 hd13 hd14 hr14 hd15 hr15 hb15 hr16 hd17 hd18 hd19 s1 s2 s3 s4 s5 s6 s7 s8 s9 s10 hJ KS D20 D22 D23 D19 D21 D24 D25 D26 hte hag
        go_wp2_with fail
        go_roundw
        case rel => exact ⟨k + 1, gen', L', by omega, by go_num, HPP.out, by omega, by omega, HND'.out⟩
        case measure => simp [intOf]; omega
      · have HBE := Lib.hid hpp.bel
        have N1 := Lib.hid no_all
        have N2 := Lib.hid no_here
        have N3 := Lib.hid no_gen
        have N4 := Lib.hid no_owner
        clear hpp
        go_wp2_with fail
        refine (N1.out _).mono ?_
        rintro x w5 ⟨rfl, rfl⟩
        go_wp2_with fail
        refine (N2.out _).mono ?_
        rintro x w5 ⟨rfl, rfl⟩
        go_wp2_with fail
        refine (N3.out _).mono ?_
        rintro x w5 ⟨rfl, rfl⟩
        go_wp2_with fail
        refine (N4.out _).mono ?_
        rintro x w5 ⟨rfl, rfl⟩
        go_wp2_with fail
        refine (CA.out _).mono ?_
        rintro x w1 ⟨rfl, hbx⟩
        have HX := Lib.hid (HBE.out.trans (hbx.mono HBE.out.size))
        clear hbx
        go_wp2_with fail
        go_ret
        exact ⟨rfl, HX.out⟩
end
end Go.Proofs.Ytkjghlmlfanafaa

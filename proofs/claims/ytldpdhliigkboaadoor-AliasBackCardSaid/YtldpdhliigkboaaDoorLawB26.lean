/- What is proved here: AliasBack answers true for every greatest alias and topics. Conditions: the arguments are what a row says of them; ErrProtocol and the handle of the type error are laid. -/
import Derived.Test.YtldpdhliigkboaaDoorInT26
import Derived.Test.YtldpdhliigkboaaDoorEnvP26
namespace Go.Proofs.YtldpdhliigkboaaDoor
open Go.RowKit Go.Extern.Stop Go.Stop Go.Extern Go.Maps
/-- Aliases of both sides. -/
structure BackA (w W : World) (ga ba gi : Nat) (most : Int) (v : Value) (T : List ByteArray) : Prop where
  a : OutObj W w.heap.size ga ba (limI most) T
  i : InObj W w.heap.size gi (limI most) v T
  bel : Below w.heap.size w W
theorem idx_there {L : List ByteArray} {x : ByteArray} (h : 0 ≤ idxI L x) : L.getD (idxI L x).toNat e0 = x := by
  unfold idxI at h ⊢
  cases hf : L.findIdx? (fun y => decide (y = x)) with
  | none => rw [hf] at h; simp at h
  | some k =>
    rw [List.findIdx?_eq_some_iff_getElem] at hf
    obtain ⟨hk, hx, _⟩ := hf
    show L.getD k e0 = x
    rw [List.getD_eq_getElem?_getD, List.getElem?_eq_getElem hk]
    exact of_decide_eq_true hx
/-- What is told is the topic to the other. -/
theorem back_step (most : Int) (T : List ByteArray) (y : ByteArray) (hy : y ≠ e0) (hT : (T.length : Int) ≤ limI most) :
    topicI (limI most) T (nameO (limI most) T y).1 (nameO (limI most) T y).2.1 = (y, 0, (nameO (limI most) T y).2.2) ∧ 0 ≤ (nameO (limI most) T y).2.1 ∧ (nameO (limI most) T y).2.1 ≤ limI most ∧ ((nameO (limI most) T y).2.2.length : Int) ≤ limI most ∧ (nameO (limI most) T y).2.2.length ≤ T.length + 1 := by
  have hb := limI_bd most
  unfold nameO
  rw [if_neg hy]
  by_cases h1 : idxI T y = -1
  · rw [if_pos h1]
    by_cases h2 : limI most < (T.length : Int) + 1
    · rw [if_pos h2]
      dsimp only
      refine ⟨?_, by omega, by omega, hT, Nat.le_succ _⟩
      unfold topicI
      rw [if_pos rfl, if_neg hy]
    · rw [if_neg h2]
      dsimp only
      refine ⟨?_, by omega, by omega, by rw [List.length_append]; simp; omega, by simp⟩
      unfold topicI
      rw [if_neg (by omega), if_neg (by omega), if_neg hy]
      have e : ((T.length : Int) + 1).toNat - 1 = T.length := by omega
      rw [e]
      unfold setI
      rw [show T.length + 1 - T.length = 1 by omega]
      simp
  · rw [if_neg h1]
    have hi := idx_bd T y
    have h0 : 0 ≤ idxI T y := by omega
    dsimp only
    refine ⟨?_, by omega, by omega, hT, Nat.le_succ _⟩
    unfold topicI
    rw [if_neg (by omega), if_neg (by omega), if_pos rfl]
    have e : T.getD ((idxI T y + 1).toNat - 1) e0 = y := by
      rw [show (idxI T y + 1).toNat - 1 = (idxI T y).toNat by omega]
      exact idx_there h0
    rw [e, if_neg hy]
section
variable {w W W' : World} {ga ba gi : Nat} {most : Int} {v v' : Value} {T T' : List ByteArray}
theorem BackA.row_ne (h : BackA w W ga ba gi most v T) {k : Nat} (hk : v.ownBlock = some k) : k ≠ ba ∧ k ≠ ga := by
  rcases h.i.row.2 with ⟨rfl, _⟩ | ⟨gr, cap, cur, rfl, hB, hh, _⟩
  · cases hk
  · obtain rfl : gr = k := Option.some.inj hk
    exact ⟨h.a.mp.ne hh, fun e => h.a.blk.other hh (by decide) e.symm⟩
/-- One that is told: the one side has gone on, the other has not. -/
structure HalfA (w W : World) (ga ba gi : Nat) (most : Int) (v : Value) (T T' : List ByteArray) : Prop where
  a : OutObj W w.heap.size ga ba (limI most) T'
  i : InObj W w.heap.size gi (limI most) v T
  bel : Below w.heap.size w W
theorem BackA.left (h : BackA w W ga ba gi most v T) (ho : OutObj W' w.heap.size ga ba (limI most) T') (hf : Fr [ba] W W') : HalfA w W' ga ba gi most v T T' := by
  refine ⟨ho, ⟨h.i.low, h.i.blk.fr hf (by simpa using h.a.mp.ne h.i.blk), h.i.row.fr hf (fun k hk => by simpa using (h.row_ne hk).1)⟩, hf.later h.bel (fun y hy => ?_) h.bel.size⟩
  rw [List.mem_singleton] at hy
  rw [hy]; exact h.a.lowb
theorem HalfA.right {T2 : List ByteArray} (h : HalfA w W ga ba gi most v T T2) (hs : Next26 W W' w.heap.size gi (limI most) v v' T2) : BackA w W' ga ba gi most v' T2 := by
  have hne : ∀ k, v.ownBlock = some k → k ≠ ba ∧ k ≠ ga := fun k hk => by
    rcases h.i.row.2 with ⟨rfl, _⟩ | ⟨gr, cap, cur, rfl, hB, hh, _⟩
    · cases hk
    · obtain rfl : gr = k := Option.some.inj hk
      exact ⟨h.a.mp.ne hh, fun e => h.a.blk.other hh (by decide) e.symm⟩
  have hX : ∀ k, k ≠ gi → v.ownBlock ≠ some k → k ∉ gi :: v.ownBlock.toList := fun k h1 h2 hm => by
    rcases List.mem_cons.1 hm with e | e
    · exact h1 e
    · have : v.ownBlock = some k := by cases hv : v.ownBlock with | none => rw [hv] at e; cases e | some j => rw [hv] at e; simp at e; rw [e]
      exact h2 this
  refine ⟨h.a.fr hs.fr (hX ga (fun e => h.a.blk.other h.i.blk (by decide) e) fun e => (hne _ e).2 rfl) (hX ba (fun e => h.a.mp.ne h.i.blk e.symm) fun e => (hne _ e).1 rfl), hs.obj, hs.fr.later h.bel (fun y hy => ?_) h.bel.size⟩
  rcases List.mem_cons.1 hy with e | e
  · rw [e]; exact h.i.low
  · have hk : v.ownBlock = some y := by cases hv : v.ownBlock with | none => rw [hv] at e; cases e | some j => rw [hv] at e; simp at e; rw [e]
    exact (World.ownsRow.lt h.i.row y hk).1
set_option maxHeartbeats 4000000 in
set_option maxRecDepth 100000 in
theorem aliasBack_core (most : Int) (A : Option Addr) (n c : Nat) (L : List ByteArray) (s : Addr) (w : World) (hnz : n ≤ maxLen) (ha : StrsOf w A n L) (hp : ProtoAt w s) (hh : Handle w) : Calls Tryd.prog 5 #[.int .i64 most, .slice A n c] w fun x w' => x = .returned (.bool true) ∧ Below w.heap.size w w' := by
  unfold maxLen at hnz
  obtain ⟨hn, hr⟩ := ha
  have h0 : 0 < w.heap.size := lt_of_cell hp
  have HAW := Lib.hid (fun W (hb : Below w.heap.size w W) => (awake26 W (hp.below hb h0) (show Handle W from by
    unfold Handle at *
    exact (World.cell?_of_block (w := w) (hb.block 7 (lt_of_cell hh))).trans hh)).mono fun x w' hx => show x = .returned (.bool true) ∧ Below w.heap.size w w' from ⟨hx.1, hb.trans (hx.2.mono hb.size)⟩)
  have HP := Lib.hid (fun W (hb : Below w.heap.size w W) => hp.below hb h0)
  have W1 := Lib.hid (few26_any hr n c hn hnz)
  have HR := Lib.hid (fun W (hb : Below w.heap.size w W) => show SRd W A L from fun hpos => by
    obtain ⟨g, off, e, hc⟩ := hr hpos
    exact ⟨g, off, e, fun k hk => (World.cell?_of_block (w := w) (hb.block g (lt_of_cell (hc k hk)))).trans (hc k hk)⟩)
  have HN := Lib.hid hn
  have C2 := Lib.hid (newout_any most w (B := w.heap.size) (Nat.le_refl _))
  have C3 := Lib.hid (fun W => newin_any most W)
  clear hr hp hh h0 hn
  go_enter Tryd.func5, Tryd.ntmps5
  go_wp2_with fail
  refine W1.out.mono ?_
  rintro x w1 ⟨⟨b, rfl, hb2⟩, rfl⟩
  clear W1
  cases b with
  | false =>
    clear hb2
    go_wp2_with fail
    refine (HAW.out _ (Below.refl _ _)).mono ?_
    rintro x w1 ⟨rfl, hb⟩
    have HB := Lib.hid hb
    clear hb
    go_wp2_with fail
    go_ret
    exact ⟨rfl, HB.out⟩
  | true =>
    obtain ⟨hn40, hz⟩ := hb2 rfl
    have hn40' : n ≤ 40 := by have := HN.out; omega
    have HZ := Lib.hid hz
    clear hb2 hn40 hz hnz
    go_wp2_with fail
    refine C2.out.mono ?_
    rintro x w2 ⟨ga, ba, rfl, ho2, hb2⟩
    have HALL := Lib.hid (show BackA w (w2.alloc (.cells #[.int .i64 (limI most), .slice none 0 0] 33)) ga ba w2.heap.size most (.slice none 0 0) [] from by
      have x1 := Blk.made w2 33 #[.int .i64 (limI most), .slice none 0 0]
      exact ⟨ho2.fr ((Fr.refl [] w2).alloc _) (by simp) (by simp), ⟨hb2.size, x1, Row.nil _ _⟩, hb2.alloc hb2.size _⟩)
    clear ho2 hb2 C2
    go_wp2_with fail
    refine (C3.out _).mono ?_
    rintro x wA ⟨rfl, hwA⟩
    rw [← hwA] at HALL
    clear hwA C3
    obtain ⟨gi, hgi⟩ : ∃ gi, gi = w2.heap.size := ⟨_, rfl⟩
    rw [← hgi] at HALL ⊢
    clear hgi
    go_wp2_with fail
    go_loopw [7] (fun i wr => ∃ (k : Nat) (v : Value) (T : List ByteArray), k ≤ n ∧ i = .int .i64 k ∧ BackA w wr ga ba gi most v T ∧ T.length ≤ k ∧ Hid ((T.length : Int) ≤ limI most)) (fun i _ => n - (intOf i).toNat)
    case atStart => exact ⟨0, _, [], by omega, rfl, HALL.out, by simp, Lib.hid (by simpa using (limI_bd most).1)⟩
    case round =>
      obtain ⟨k, v, T, hk, rfl, hall, htk, HT⟩ := hrel
      have HA := Lib.hid hall
      by_cases hlt : k < n
      · have hkL : k < L.length := by have := HN.out; omega
        obtain ⟨g1, off, rfl, _⟩ := HR.out w (Below.refl _ _) (by have := HN.out; omega)
        have HC := Lib.hid (fun W (hb : Below w.heap.size w W) => show W.cell? ⟨g1, off + k, none⟩ = some (.string (L.getD k e0)) from by
          obtain ⟨g', off', e, hc⟩ := HR.out W hb (by have := HN.out; omega)
          obtain ⟨rfl, rfl⟩ : g1 = g' ∧ off = off' := by
            have := Option.some.inj e
            injection this with h1 h2
            exact ⟨h1, h2⟩
          exact hc k hkL)
        have hys := HZ.out k hkL
        obtain ⟨y, hy⟩ : ∃ y, y = L.getD k e0 := ⟨_, rfl⟩
        rw [← hy] at HC hys
        have c0 := HC.out wr hall.bel
        have hemp := empty_iff y
        by_cases h0 : y = e0
        · rw [decide_eq_true h0] at hemp
          have HBE := Lib.hid hall.bel
          clear hy hall hkL htk h0 hys
          go_wp2_with fail
          refine (HAW.out _ HBE.out).mono ?_
          rintro x w1 ⟨rfl, hb⟩
          have HB := Lib.hid hb
          clear hb
          go_wp2_with fail
          go_ret
          exact ⟨rfl, HB.out⟩
        · rw [decide_eq_false h0] at hemp
          have N1 := Lib.hid (name_any hall.a (by omega) y (by omega))
          obtain ⟨hst, hr0, hr1, hT', hlen⟩ := back_step most T y h0 HT.out
          generalize nameO (limI most) T y = R at *
          obtain ⟨r1, r2, T'⟩ := R
          dsimp only at hst hr0 hr1 hT' hlen
          have hbd := limI_bd most
          have N2 := Lib.hid (fun W (h : HalfA w W ga ba gi most v T T') => topic_any (HP.out W h.bel) h.i h.bel.size (by omega) hbd.2 r1 r2 (WalkArith.wf_i64 (by omega)))
          rw [hst] at N2
          have HT2 := Lib.hid hT'
          have hT3 : T'.length ≤ k + 1 := by omega
          have hmx : (0 ≤ most ∧ r2 ≤ most) ∨ (most < 0 ∧ r2 = 0) := by unfold limI at hr1; omega
          clear hy hall hkL htk hst hT' hlen hbd hr1 h0
          go_wp2_with fail
          refine N1.out.mono ?_
          rintro x w3 ⟨rfl, ho3, hf3⟩
          have hall3 := HA.out.left ho3 hf3
          have HA3 := Lib.hid hall3
          have N3 := Lib.hid (N2.out w3 hall3)
          dsimp only
          clear ho3 hf3 hall3 N1 N2 c0
          go_wp2_with fail
          refine N3.out.mono ?_
          rintro x w4 ⟨e, v4, rfl, he, hs4⟩
          dsimp only at he hs4 ⊢
          obtain rfl : e = .nilIface := by
            rcases he with ⟨_, h⟩ | ⟨h, _⟩
            · exact h
            · exact absurd rfl h
          have hall4 := HA3.out.right hs4
          have HA4 := Lib.hid hall4
          have he2 : (y.toList == y.toList) = true := by rw [eq_text]; exact decide_eq_true rfl
          have c0 := HC.out w4 hall4.bel
          clear hs4 hall4 N3 HA3 he
          rcases hmx with ⟨hm1, hm2⟩ | ⟨hm1, rfl⟩
          all_goals
            go_wp2_with fail
            go_roundw
            case rel => exact ⟨k + 1, v4, T', by omega, by go_num, HA4.out, by omega, HT2⟩
            case measure => simp [intOf]; omega
      · have HBE := Lib.hid hall.bel
        clear hall
        go_wp2_with fail
        refine (HAW.out _ HBE.out).mono ?_
        rintro x w1 ⟨rfl, hb⟩
        have HB := Lib.hid hb
        clear hb
        go_wp2_with fail
        go_ret
        exact ⟨rfl, HB.out⟩
end
theorem aliasBack_walk (S : Nat → Addr) (most : Int) (A : Option Addr) (n c : Nat) (L : List ByteArray) (w : World) (h : EnvP w S) (_ : (Lit.int .i64 most).wf = true) (hnz : n ≤ maxLen) (ha : StrsOf w A n L) : Calls Tryd.prog 5 #[.int .i64 most, .slice A n c] w fun x w' => x = .returned (.bool true) ∧ Below w.heap.size w w' :=
  aliasBack_core most A n c L (S 0) w hnz ha h.1 h.2
end Go.Proofs.YtldpdhliigkboaaDoor

/- What is proved here: AliasOut answers true for every greatest alias and topics. Conditions: the arguments are what a row says of them; ErrProtocol and the handle of the type error are laid. -/
import Derived.Test.YtldpdhliigkboaaDoorAwk26
import Derived.Deep.RegionHeld3
namespace Go.Proofs.YtldpdhliigkboaaDoor
open Go.RowKit Go.Extern.Stop Go.Stop Go.Extern Go.Maps
def FewS (L : List ByteArray) (w : World) (x : Ending) (w' : World) : Prop := (∃ b : Bool, x = .returned (.bool b) ∧ (b = true → L.length ≤ 40 ∧ ∀ k, k < L.length → (L.getD k e0).size ≤ 200)) ∧ w = w'
section
variable {w w' : World} {A : Option Addr} {L : List ByteArray}
theorem few26_any (h : SRd w A L) (n c : Nat) (hn : n = L.length) (hm : n ≤ 9223372036854775807) : Calls Tryd.prog 6 #[.slice A n c] w (FewS L w) := by
  by_cases hp : n = 0
  · have hl : L = [] := List.eq_nil_of_length_eq_zero (by omega)
    subst hp hl
    clear h hm hn
    go_enter Tryd.func6, Tryd.ntmps6
    go_wp2_with fail
    go_loop [3] (fun i => i = .int .i64 0) (fun _ => 0)
    case atStart => rfl
    case round =>
      subst hrel
      go_wp2_with fail
      go_ret
      exact ⟨⟨true, rfl, fun _ => ⟨by simp, fun k hk => absurd hk (by simp)⟩⟩, rfl⟩
  · obtain ⟨g, off, rfl, hc⟩ := h (by omega)
    have HC := Lib.hid hc
    have HN := Lib.hid hn
    clear hc h hn
    go_enter Tryd.func6, Tryd.ntmps6
    go_wp2_with fail
    go_loop [3] (fun i => ∃ k : Nat, k ≤ n ∧ k ≤ 40 ∧ i = .int .i64 k ∧ Hid (∀ j, j < k → (L.getD j e0).size ≤ 200)) (fun i => 40 - (intOf i).toNat)
    case atStart => exact ⟨0, by omega, by omega, rfl, Lib.hid fun j hj => absurd hj (by omega)⟩
    case round =>
      obtain ⟨k, hk, hk2, rfl, HG⟩ := hrel
      by_cases hlt : k < n ∧ k < 40
      · obtain ⟨hlt, hlt2⟩ := hlt
        have c1 := HC.out k (by have := HN.out; omega)
        obtain ⟨y, hy⟩ : ∃ y, y = L.getD k e0 := ⟨_, rfl⟩
        rw [← hy] at c1
        have HY := Lib.hid hy
        clear hy
        by_cases hz : 200 < y.size
        · go_wp2_with fail
          go_ret
          exact ⟨⟨false, rfl, fun h => by cases h⟩, rfl⟩
        · have hz' : y.size ≤ 200 := by omega
          have HGN := Lib.hid (show ∀ j, j < k + 1 → (L.getD j e0).size ≤ 200 from fun j hj => by
            by_cases e : j = k
            · rw [e, ← HY.out]; exact hz'
            · exact HG.out j (by omega))
          clear hz
          go_wp2_with fail
          go_round
          case rel => exact ⟨k + 1, by omega, by omega, by go_num, HGN⟩
          case measure => simp [intOf]; omega
      · have HT := Lib.hid (fun (h : k = n) (h2 : k ≤ 40) => show FewS L w (.returned (.bool true)) w from ⟨⟨true, rfl, fun _ => ⟨by have := HN.out; omega, fun j hj => HG.out j (by have := HN.out; omega)⟩⟩, rfl⟩)
        have HF := Lib.hid (show FewS L w (.returned (.bool false)) w from ⟨⟨false, rfl, fun h => by cases h⟩, rfl⟩)
        by_cases hkn : k < n
        · obtain rfl : k = 40 := by omega
          have HD := Lib.hid (show decide ((n : Int) ≤ 40) = false from decide_eq_false (by omega))
          go_wp2_with fail
          go_ret
          have hx := HF.out
          rw [← HD.out] at hx
          exact hx
        · have hkn' : k = n := by omega
          have HT2 := Lib.hid (HT.out hkn' hk2)
          subst hkn'
          have HD := Lib.hid (show decide ((k : Int) ≤ 40) = true from decide_eq_true (by omega))
          go_wp2_with fail
          go_ret
          have hx := HT2.out
          rw [← HD.out] at hx
          exact hx
theorem ROut.fr {B g : Nat} {most : Int} {v : Value} {X : List Nat} (h : ROut w B g most v L) (hf : Fr X w w') (hg : g ∉ X) (hv : ∀ k, v.ownBlock = some k → k ∉ X) : ROut w' B g most v L := ⟨h.low, h.blk.fr hf hg, h.row.fr hf hv⟩
/-- Aliases of both kinds, and nobody's. -/
structure AllA (w W : World) (ga ba gx gz gn : Nat) (most : Int) (v : Value) (Ta Tx : List ByteArray) : Prop where
  a : OutObj W w.heap.size ga ba (limI most) Ta
  x : ROut W w.heap.size gx most v Tx
  z : Blk W gz 54 #[.int .i64 0, .map none]
  n : Blk W gn 47 #[.pointer none, .pointer (some ⟨gz, 0, none⟩)]
  bel : Below w.heap.size w W
section
variable {W W' : World} {ga ba gx gz gn : Nat} {most : Int} {v v' : Value} {Ta Tx T' : List ByteArray}
theorem AllA.row_ne (h : AllA w W ga ba gx gz gn most v Ta Tx) {k : Nat} (hk : v.ownBlock = some k) : k ≠ ba ∧ k ≠ ga ∧ k ≠ gz ∧ k ≠ gn := by
  rcases h.x.row.2 with ⟨rfl, _⟩ | ⟨gr, cap, cur, rfl, hB, hh, _⟩
  · cases hk
  · obtain rfl : gr = k := Option.some.inj hk
    exact ⟨h.a.mp.ne hh, fun e => h.a.blk.other hh (by decide) e.symm, fun e => h.z.other hh (by decide) e.symm, fun e => h.n.other hh (by decide) e.symm⟩
theorem AllA.left (h : AllA w W ga ba gx gz gn most v Ta Tx) (ho : OutObj W' w.heap.size ga ba (limI most) T') (hf : Fr [ba] W W') : AllA w W' ga ba gx gz gn most v T' Tx := by
  refine ⟨ho, h.x.fr hf (by simpa using h.a.mp.ne h.x.blk) (fun k hk => by simpa using (h.row_ne hk).1), h.z.fr hf (by simpa using h.a.mp.ne h.z), h.n.fr hf (by simpa using h.a.mp.ne h.n), hf.later h.bel (fun y hy => ?_) h.bel.size⟩
  rw [List.mem_singleton] at hy
  rw [hy]; exact h.a.lowb
theorem AllA.right (h : AllA w W ga ba gx gz gn most v Ta Tx) (hs : RNm W W' w.heap.size gx most v v' T') : AllA w W' ga ba gx gz gn most v' Ta T' := by
  have hX : ∀ k, k ≠ gx → v.ownBlock ≠ some k → k ∉ gx :: v.ownBlock.toList := fun k h1 h2 hm => by
    rcases List.mem_cons.1 hm with e | e
    · exact h1 e
    · have : v.ownBlock = some k := by cases hv : v.ownBlock with | none => rw [hv] at e; cases e | some j => rw [hv] at e; simp at e; rw [e]
      exact h2 this
  refine ⟨h.a.fr hs.fr (hX ga (fun e => ?_) fun e => (h.row_ne e).2.1 rfl) (hX ba (fun e => h.a.mp.ne h.x.blk e.symm) fun e => (h.row_ne e).1 rfl), hs.obj, h.z.fr hs.fr (hX gz (fun e => ?_) fun e => (h.row_ne e).2.2.1 rfl), h.n.fr hs.fr (hX gn (fun e => ?_) fun e => (h.row_ne e).2.2.2 rfl), hs.fr.later h.bel (fun y hy => ?_) h.bel.size⟩
  · exact h.a.blk.other h.x.blk (by decide) e
  · exact h.z.other h.x.blk (by decide) e
  · exact h.n.other h.x.blk (by decide) e
  · rcases List.mem_cons.1 hy with e | e
    · rw [e]; exact h.x.low
    · have hk : v.ownBlock = some y := by cases hv : v.ownBlock with | none => rw [hv] at e; cases e | some j => rw [hv] at e; simp at e; rw [e]
      exact (World.ownsRow.lt h.x.row y hk).1
theorem AllA.drewN (h : AllA w W ga ba gx gz gn most v Ta Tx) (d : Nat) : AllA w (W.drewN d) ga ba gx gz gn most v Ta Tx := ⟨h.a.fr ((Fr.refl [] W).drewN d) (by simp) (by simp), h.x.drewN d, h.z.drewN d, h.n.drewN d, below_drewN h.bel d⟩
end
theorem nameR_keeps (most : Int) (T : List ByteArray) (y : ByteArray) (he : idxI T e0 = -1) : (nameR most T y).2.2.length ≤ T.length + 1 ∧ idxI (nameR most T y).2.2 e0 = -1 := by
  unfold nameR
  by_cases h1 : idxI T y = -1
  · rw [if_pos h1]
    by_cases h2 : y = e0 ∨ min most 65535 ≤ (T.length : Int)
    · rw [if_pos h2]
      exact ⟨Nat.le_succ _, he⟩
    · rw [if_neg h2]
      refine ⟨by simp, ?_⟩
      have := congrFun (idx_app T y e0 h1) e0
      rw [if_neg (fun e => h2 (.inl e.symm))] at this
      unfold outM at this
      rw [he, if_pos rfl] at this
      by_cases h3 : idxI (T ++ [y]) e0 = -1
      · exact h3
      · rw [if_neg h3] at this; cases this
  · rw [if_neg h1]
    exact ⟨Nat.le_succ _, he⟩
set_option maxHeartbeats 4000000 in
set_option maxRecDepth 100000 in
theorem aliasOut_core (most : Int) (A : Option Addr) (n c : Nat) (L : List ByteArray) (s : Addr) (w : World) (hnz : n ≤ maxLen) (ha : StrsOf w A n L) (hp : ProtoAt w s) (hh : Handle w) : Calls Tryd.prog 4 #[.int .i64 most, .slice A n c] w fun x w' => x = .returned (.bool true) ∧ Below w.heap.size w w' := by
  unfold maxLen at hnz
  obtain ⟨hn, hr⟩ := ha
  have h0 : 0 < w.heap.size := lt_of_cell hp
  have HAW := Lib.hid (fun W (hb : Below w.heap.size w W) => (awake26 W (hp.below hb h0) (show Handle W from by
    unfold Handle at *
    exact (World.cell?_of_block (w := w) (hb.block 7 (lt_of_cell hh))).trans hh)).mono fun x w' hx => show x = .returned (.bool true) ∧ Below w.heap.size w w' from ⟨hx.1, hb.trans (hx.2.mono hb.size)⟩)
  have W1 := Lib.hid (few26_any hr n c hn hnz)
  have HR := Lib.hid (fun W (hb : Below w.heap.size w W) => show SRd W A L from fun hpos => by
    obtain ⟨g, off, e, hc⟩ := hr hpos
    exact ⟨g, off, e, fun k hk => (World.cell?_of_block (w := w) (hb.block g (lt_of_cell (hc k hk)))).trans (hc k hk)⟩)
  have HN := Lib.hid hn
  have C2 := Lib.hid (newout_any most w (B := w.heap.size) (Nat.le_refl _))
  clear hr hp hh h0 hn
  go_enter Tryd.func4, Tryd.ntmps4
  go_wp2_with fail
  refine W1.out.mono ?_
  rintro x w1 ⟨⟨b, rfl, hb2⟩, rfl⟩
  clear W1
  cases b with
  | false =>
    clear hb2
    go_wp2_with fail
    refine (HAW.out _ (Below.refl _ _)).mono ?_
    rintro x w1 ⟨rfl, hb⟩
    have HB := Lib.hid hb
    clear hb
    go_wp2_with fail
    go_ret
    exact ⟨rfl, HB.out⟩
  | true =>
    obtain ⟨hn40, hz⟩ := hb2 rfl
    have hn40' : n ≤ 40 := by have := HN.out; omega
    have HZ := Lib.hid hz
    clear hb2 hn40 hz hnz
    go_wp2_with fail
    refine C2.out.mono ?_
    rintro x w2 ⟨ga, ba, rfl, ho2, hb2⟩
    have HALL := Lib.hid (show AllA w (((w2.alloc (.cells #[.int .i64 most, .slice none 0 0] 51)).alloc (.cells #[.int .i64 0, .map none] 54)).alloc (.cells #[.pointer none, .pointer (some ⟨w2.heap.size + 1, 0, none⟩)] 47)) ga ba w2.heap.size (w2.heap.size + 1) (w2.heap.size + 1 + 1) most (.slice none 0 0) [] [] from by
      have e1 : (w2.alloc (.cells #[.int .i64 most, .slice none 0 0] 51)).heap.size = w2.heap.size + 1 := by simp
      have e2 : ((w2.alloc (.cells #[.int .i64 most, .slice none 0 0] 51)).alloc (.cells #[.int .i64 0, .map none] 54)).heap.size = w2.heap.size + 1 + 1 := by simp
      have x1 := Blk.made w2 51 #[.int .i64 most, .slice none 0 0]
      have z1 := Blk.made (w2.alloc (.cells #[.int .i64 most, .slice none 0 0] 51)) 54 #[.int .i64 0, .map none]
      have n1 := Blk.made ((w2.alloc (.cells #[.int .i64 most, .slice none 0 0] 51)).alloc (.cells #[.int .i64 0, .map none] 54)) 47 #[.pointer none, .pointer (some ⟨w2.heap.size + 1, 0, none⟩)]
      rw [e1] at z1
      rw [e2] at n1
      have hf : Fr [] w2 (((w2.alloc (.cells #[.int .i64 most, .slice none 0 0] 51)).alloc (.cells #[.int .i64 0, .map none] 54)).alloc (.cells #[.pointer none, .pointer (some ⟨w2.heap.size + 1, 0, none⟩)] 47)) := (((Fr.refl [] w2).alloc _).alloc _).alloc _
      exact ⟨ho2.fr hf (by simp) (by simp), ⟨hb2.size, (x1.alloc _).alloc _, Row.nil _ _⟩, z1.alloc _, n1, ((hb2.alloc hb2.size _).alloc (by simp; exact Nat.le_succ_of_le hb2.size) _).alloc (by simp; have := hb2.size; omega) _⟩)
    clear ho2 hb2 C2
    go_wp2_with fail
    obtain ⟨wA, hwA⟩ : ∃ wA, wA = (((w2.alloc (.cells #[.int .i64 most, .slice none 0 0] 51)).alloc (.cells #[.int .i64 0, .map none] 54)).alloc (.cells #[.pointer none, .pointer (some ⟨w2.heap.size + 1, 0, none⟩)] 47)) := ⟨_, rfl⟩
    rw [← hwA] at HALL ⊢
    clear hwA
    obtain ⟨gn, hgn⟩ : ∃ gn, gn = w2.heap.size + 1 + 1 := ⟨_, rfl⟩
    obtain ⟨gz, hgz⟩ : ∃ gz, gz = w2.heap.size + 1 := ⟨_, rfl⟩
    obtain ⟨gx, hgx⟩ : ∃ gx, gx = w2.heap.size := ⟨_, rfl⟩
    rw [← hgn, ← hgz, ← hgx] at HALL
    rw [← hgn, ← hgz, ← hgx]
    clear hgn hgz hgx
    go_loopw [8] (fun i wr => ∃ (k : Nat) (v : Value) (T : List ByteArray), k ≤ n ∧ i = .int .i64 k ∧ AllA w wr ga ba gx gz gn most v T T ∧ T.length ≤ k ∧ idxI T e0 = -1) (fun i _ => n - (intOf i).toNat)
    case atStart => exact ⟨0, _, [], by omega, rfl, HALL.out, by simp, by decide⟩
    case round =>
      obtain ⟨k, v, T, hk, rfl, hall, htk, hte⟩ := hrel
      have HA := Lib.hid hall
      by_cases hlt : k < n
      · have hkL : k < L.length := by have := HN.out; omega
        obtain ⟨g1, off, rfl, _⟩ := HR.out w (Below.refl _ _) (by have := HN.out; omega)
        have HC := Lib.hid (fun W (hb : Below w.heap.size w W) => show W.cell? ⟨g1, off + k, none⟩ = some (.string (L.getD k e0)) from by
          obtain ⟨g', off', e, hc⟩ := HR.out W hb (by have := HN.out; omega)
          obtain ⟨rfl, rfl⟩ : g1 = g' ∧ off = off' := by
            have := Option.some.inj e
            injection this with h1 h2
            exact ⟨h1, h2⟩
          exact hc k hkL)
        have hys := HZ.out k hkL
        obtain ⟨y, hy⟩ : ∃ y, y = L.getD k e0 := ⟨_, rfl⟩
        rw [← hy] at HC hys
        have c0 := HC.out wr hall.bel
        have N1 := Lib.hid (name_any hall.a (by omega) y (by omega))
        rw [name_same most T y hte] at N1
        have N2 := Lib.hid (fun W v' T' (h : AllA w W ga ba gx gz gn most v' T' T) => rname_any h.x (by omega) h.bel.size y)
        have hkeep := nameR_keeps most T y hte
        generalize nameR most T y = R at *
        obtain ⟨r1, r2, T'⟩ := R
        dsimp only at hkeep
        obtain ⟨hk1, hk2⟩ := hkeep
        have HK2 := Lib.hid hk2
        have hT' : T'.length ≤ k + 1 := by omega
        clear hy hall hkL hte htk hk1 hk2
        go_wp2_with fail
        refine N1.out.mono ?_
        rintro x w3 ⟨rfl, ho3, hf3⟩
        have hall3 := HA.out.left ho3 hf3
        have HA3 := Lib.hid hall3
        have N3 := Lib.hid (N2.out w3 v T' hall3)
        have c1 := HC.out w3 hall3.bel
        dsimp only
        clear ho3 hf3 hall3 N1 N2 c0
        go_wp2_with fail
        refine N3.out.mono ?_
        rintro x w4 ⟨rfl, v4, hs4⟩
        have hall4 := HA3.out.right hs4
        dsimp only at hall4 ⊢
        have HA4 := Lib.hid hall4
        have he : (r1.toList == r1.toList) = true := by rw [eq_text]; exact decide_eq_true rfl
        have he2 : (y.toList == y.toList) = true := by rw [eq_text]; exact decide_eq_true rfl
        clear hs4 hall4 N3 c1 HA3
        go_wp2_with fail
        go_loopw [13] (fun i wr' => ∃ p : Nat, p ≤ 2 ∧ i = .int .i64 p ∧ AllA w wr' ga ba gx gz gn most v4 T' T') (fun i _ => 2 - (intOf i).toNat)
        case atStart => exact ⟨0, by omega, rfl, HA4.out⟩
        case round =>
          obtain ⟨p, hp2, rfl, hA5⟩ := hrel
          have HA5 := Lib.hid hA5
          by_cases hpl : p < 2
          · rcases (show p = 0 ∨ p = 1 by omega) with rfl | rfl
            · have D15 := Lib.hid (fun W (h : AllA w W ga ba gx gz gn most v4 T' T') => (no_name (w := W) (pv := .pointer none) (.inl rfl) y (by omega)).mono fun x w' (hx : x = .returned (.tuple #[.string y, .int .i64 0]) ∧ W = w') => show x = .returned (.tuple #[.string y, .int .i64 0]) ∧ AllA w w' ga ba gx gz gn most v4 T' T' from ⟨hx.1, hx.2 ▸ h⟩)
              have KS := Lib.hid (fun W (h : AllA w W ga ba gx gz gn most v4 T' T') => show W.cell? ⟨gn, 0, none⟩ = some (.pointer none) ∧ W.cell? ⟨g1, off + k, none⟩ = some (.string y) from ⟨h.n.cell 0, HC.out W h.bel⟩)
              have hJ : AllA w wr ga ba gx gz gn most v4 T' T' := hA5
              obtain ⟨s0, s1⟩ := KS.out _ hJ
              clear hA5
              go_upto_region 15 with fail
              go_region_held3 (fun W => W.cell? ⟨gn, 0, none⟩ = some (.pointer none) ∧ W.cell? ⟨g1, off + k, none⟩ = some (.string y))
                (first | assumption | (exact KS.out _ (by assumption)) | (exact KS.out _ (AllA.drewN (by assumption) 1)))
                (first
                  | (go_at_call 15; (with_reducible refine (D15.out _ ?_).mono ?_); (first | assumption | exact AllA.drewN (by assumption) 1); rintro x w6 ⟨rfl, hd6⟩))
              have HD6 := Lib.hid hd6
              clear s0 s1
              obtain ⟨s0, s1⟩ := KS.out _ hd6
              clear hd6 hJ D15 KS
              go_wp2_with fail
              go_roundw
              case rel => exact ⟨1, by omega, by go_num, HD6.out⟩
              case measure => simp [intOf]
            · have D15 := Lib.hid (fun W (h : AllA w W ga ba gx gz gn most v4 T' T') => (no_name (w := W) (pv := .pointer (some ⟨gz, 0, none⟩)) (.inr ⟨gz, rfl, h.z⟩) y (by omega)).mono fun x w' (hx : x = .returned (.tuple #[.string y, .int .i64 0]) ∧ W = w') => show x = .returned (.tuple #[.string y, .int .i64 0]) ∧ AllA w w' ga ba gx gz gn most v4 T' T' from ⟨hx.1, hx.2 ▸ h⟩)
              have KS := Lib.hid (fun W (h : AllA w W ga ba gx gz gn most v4 T' T') => show W.cell? ⟨gn, 1, none⟩ = some (.pointer (some ⟨gz, 0, none⟩)) ∧ W.cell? ⟨g1, off + k, none⟩ = some (.string y) from ⟨h.n.cell 1, HC.out W h.bel⟩)
              have hJ : AllA w wr ga ba gx gz gn most v4 T' T' := hA5
              obtain ⟨s0, s1⟩ := KS.out _ hJ
              clear hA5
              go_upto_region 15 with fail
              go_region_held3 (fun W => W.cell? ⟨gn, 1, none⟩ = some (.pointer (some ⟨gz, 0, none⟩)) ∧ W.cell? ⟨g1, off + k, none⟩ = some (.string y))
                (first | assumption | (exact KS.out _ (by assumption)) | (exact KS.out _ (AllA.drewN (by assumption) 1)))
                (first
                  | (go_at_call 15; (with_reducible refine (D15.out _ ?_).mono ?_); (first | assumption | exact AllA.drewN (by assumption) 1); rintro x w6 ⟨rfl, hd6⟩))
              have HD6 := Lib.hid hd6
              clear s0 s1
              obtain ⟨s0, s1⟩ := KS.out _ hd6
              clear hd6 hJ D15 KS
              go_wp2_with fail
              go_roundw
              case rel => exact ⟨2, by omega, by go_num, HD6.out⟩
              case measure => simp [intOf]
          · clear hA5 he he2
            go_wp2_with fail
            go_roundw
            case rel => exact ⟨k + 1, v4, T', by omega, by go_num, HA5.out, by omega, HK2.out⟩
            case measure => simp [intOf]; omega
      · have HBE := Lib.hid hall.bel
        clear hall
        go_wp2_with fail
        refine (HAW.out _ HBE.out).mono ?_
        rintro x w1 ⟨rfl, hb⟩
        have HB := Lib.hid hb
        clear hb
        go_wp2_with fail
        go_ret
        exact ⟨rfl, HB.out⟩
end
end Go.Proofs.YtldpdhliigkboaaDoor

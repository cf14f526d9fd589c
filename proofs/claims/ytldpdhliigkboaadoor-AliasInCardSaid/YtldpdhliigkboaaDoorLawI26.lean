/- What is proved here: AliasIn answers true for every greatest alias, topics and numbers. Conditions: the arguments are what a row says of them; the errors and the handle of the type error are laid. -/
import Derived.Test.YtldpdhliigkboaaDoorSt26
import Derived.Test.YtldpdhliigkboaaDoorErN26
import Derived.Test.YtldpdhliigkboaaDoorLawA26
namespace Go.Proofs.YtldpdhliigkboaaDoor
open Go.RowKit Go.Extern.Stop Go.Stop Go.Extern Go.Maps
section
variable {w w' : World}
/-- How it begins. -/
theorem inA_made (w : World) (most : Int) : InA w (((((w.alloc (.cells #[.int .i64 (limI most), .slice none 0 0] 33)).alloc (.cells #[.int .i64 most, .slice none 0 0] 31)).alloc (.cells #[.int .i64 0, .slice none 0 0] 33)).alloc
    (.cells #[.pointer none, .pointer (some ⟨w.heap.size + 1 + 1, 0, none⟩)] 26)).alloc (.cells #[.int .i64 0, .slice none 0 0] 31)) w.heap.size (w.heap.size + 1) (w.heap.size + 1 + 1) (w.heap.size + 1 + 1 + 1) (w.heap.size + 1 + 1 + 1 + 1) most (.slice none 0 0) (.slice none 0 0) [] [] := by
  have a1 := Blk.made w 33 #[.int .i64 (limI most), .slice none 0 0]
  generalize hw1 : w.alloc (.cells #[.int .i64 (limI most), .slice none 0 0] 33) = w1 at *
  have s1 : w1.heap.size = w.heap.size + 1 := by rw [← hw1]; simp
  have b1 : Below w.heap.size w w1 := by rw [← hw1]; exact (Below.refl _ _).alloc (Nat.le_refl _) _
  have a2 := Blk.made w1 31 #[.int .i64 most, .slice none 0 0]
  rw [s1] at a2
  generalize hw2 : w1.alloc (.cells #[.int .i64 most, .slice none 0 0] 31) = w2 at *
  have s2 : w2.heap.size = w.heap.size + 1 + 1 := by rw [← hw2]; simp [s1]
  have b2 : Below w.heap.size w w2 := by rw [← hw2]; exact b1.alloc (by omega) _
  have f2 : Fr [] w1 w2 := by rw [← hw2]; exact (Fr.refl _ _).alloc _
  have a3 := Blk.made w2 33 #[.int .i64 0, .slice none 0 0]
  rw [s2] at a3
  generalize hw3 : w2.alloc (.cells #[.int .i64 0, .slice none 0 0] 33) = w3 at *
  have s3 : w3.heap.size = w.heap.size + 1 + 1 + 1 := by rw [← hw3]; simp [s2]
  have b3 : Below w.heap.size w w3 := by rw [← hw3]; exact b2.alloc (by omega) _
  have f3 : Fr [] w2 w3 := by rw [← hw3]; exact (Fr.refl _ _).alloc _
  have a4 := Blk.made w3 26 #[.pointer none, .pointer (some ⟨w.heap.size + 1 + 1, 0, none⟩)]
  rw [s3] at a4
  generalize hw4 : w3.alloc (.cells #[.pointer none, .pointer (some ⟨w.heap.size + 1 + 1, 0, none⟩)] 26) = w4 at *
  have s4 : w4.heap.size = w.heap.size + 1 + 1 + 1 + 1 := by rw [← hw4]; simp [s3]
  have b4 : Below w.heap.size w w4 := by rw [← hw4]; exact b3.alloc (by omega) _
  have f4 : Fr [] w3 w4 := by rw [← hw4]; exact (Fr.refl _ _).alloc _
  have a5 := Blk.made w4 31 #[.int .i64 0, .slice none 0 0]
  rw [s4] at a5
  have b5 : Below w.heap.size w (w4.alloc (.cells #[.int .i64 0, .slice none 0 0] 31)) := b4.alloc (by omega) _
  have f5 : Fr [] w4 (w4.alloc (.cells #[.int .i64 0, .slice none 0 0] 31)) := (Fr.refl _ _).alloc _
  have hn : ∀ k, k ∉ ([] : List Nat) := by simp
  exact ⟨⟨Nat.le_refl _, (((a1.fr f2 (hn _)).fr f3 (hn _)).fr f4 (hn _)).fr f5 (hn _), Row.nil _ _⟩,
    ⟨by omega, ((a2.fr f3 (hn _)).fr f4 (hn _)).fr f5 (hn _), World.ownsRow_nil _ _ _ _, fun _ => rfl⟩, (a3.fr f4 (hn _)).fr f5 (hn _), a4.fr f5 (hn _),
    ⟨by omega, a5, World.ownsRow_nil _ _ _ _, fun _ => rfl⟩, by omega, by omega, b5⟩
theorem es_fr {W W' : World} {s : Addr} {r : Int} {e : Value} {g : Nat} {cs : Array Value} (h : ErrSays26 W s r e) (hb : Blk W g 31 cs) (hf : Fr [g] W W') : ErrSays26 W' s r e :=
  h.imp id fun ⟨h1, k, he, hk⟩ => ⟨h1, k, he, hk.fr hf (by simpa using hk.other hb (by decide))⟩
theorem es_drew {W : World} {s : Addr} {r : Int} {e : Value} (h : ErrSays26 W s r e) (d : Nat) : ErrSays26 (W.drewN d) s r e :=
  h.imp id fun ⟨h1, k, he, hk⟩ => ⟨h1, k, he, hk.drewN d⟩
theorem es_below {W W' : World} {s : Addr} {r : Int} {e : Value} (h : ErrSays26 W s r e) (hb : Below W.heap.size W W') : ErrSays26 W' s r e :=
  h.imp id fun ⟨h1, k, he, hk⟩ => ⟨h1, k, he, hk.below hb hk.lt⟩
theorem ba26 {w W : World} (o : Obj) (h : Below w.heap.size w W) : Below w.heap.size w (W.alloc o) := h.alloc h.size o
theorem bdr26 {w W : World} (h : Below w.heap.size w W) : Below w.heap.size w W.drew := below_drewN h 1
theorem bset26 {w W : World} {p : Addr} {u : Value} (h : Below w.heap.size w W) (hp : w.heap.size ≤ p.block) : Below w.heap.size w (W.setCell p u) := h.setCell hp u
theorem stored41 {w W : World} {ga gx gz gn g0 : Nat} {most : Int} {v vx : Value} {T : List ByteArray} {L : GL} {s : Addr} {r : Int} {e : Value} {k : Nat} {a b c : Value} (h : InA w W ga gx gz gn g0 most v vx T L) (he : ErrSays26 W s r e) (hk : Blk W k 41 #[a, b, c]) (hB : w.heap.size ≤ k) (u0 u1 u2 : Value) :
    InA w (((W.setCell ⟨k, 0, none⟩ u0).setCell ⟨k, 1, none⟩ u1).setCell ⟨k, 2, none⟩ u2) ga gx gz gn g0 most v vx T L ∧ ErrSays26 (((W.setCell ⟨k, 0, none⟩ u0).setCell ⟨k, 1, none⟩ u1).setCell ⟨k, 2, none⟩ u2) s r e ∧ Blk (((W.setCell ⟨k, 0, none⟩ u0).setCell ⟨k, 1, none⟩ u1).setCell ⟨k, 2, none⟩ u2) k 41 #[u0, u1, u2] := by
  have hf : Fr [k] W (((W.setCell ⟨k, 0, none⟩ u0).setCell ⟨k, 1, none⟩ u1).setCell ⟨k, 2, none⟩ u2) := (((Fr.refl [k] W).setCell (p := ⟨k, 0, none⟩) (.inl (List.mem_singleton_self k)) u0).setCell (p := ⟨k, 1, none⟩) (.inl (List.mem_singleton_self k)) u1).setCell (p := ⟨k, 2, none⟩) (.inl (List.mem_singleton_self k)) u2
  have hb := ((hk.store 0 u0).store 1 u1).store 2 u2
  simp only [List.setIfInBounds_toArray, List.set_cons_zero, List.set_cons_succ] at hb
  generalize (((W.setCell ⟨k, 0, none⟩ u0).setCell ⟨k, 1, none⟩ u1).setCell ⟨k, 2, none⟩ u2) = W' at *
  have hX : ∀ (j : Nat) (t : TypeId) (cs : Array Value), W.heap[j]? = some (.cells cs t (0, 0)) → t ≠ 41 → j ∉ [k] := fun j t cs hj ht hm => by
    rw [List.mem_singleton] at hm
    exact hk.other hj (fun e => ht e.symm) hm.symm
  refine ⟨⟨⟨h.a.low, h.a.blk.fr hf (hX _ _ _ h.a.blk (by decide)), h.a.row.fr hf (fun j hj => ?_)⟩, h.x.fr hf (hX _ _ _ h.x.blk (by decide)) (fun j hj => ?_), h.z.fr hf (hX _ _ _ h.z (by decide)), h.n.fr hf (hX _ _ _ h.n (by decide)), h.o.fr hf (hX _ _ _ h.o.blk (by decide)) (fun j hj => by cases hj), h.az, h.xo, hf.later h.bel (fun y hy => by rw [List.mem_singleton] at hy; rw [hy]; exact hB) h.bel.size⟩, ?_, hb⟩
  · obtain ⟨cs, hc⟩ := own_row h.a.row hj
    exact hX _ _ _ hc (by decide)
  · obtain ⟨cs, hc⟩ := own_rin h.x hj
    exact hX _ _ _ hc (by decide)
  · exact he.imp id fun ⟨h1, j, h2, hj⟩ => ⟨h1, j, h2, hj.fr hf (hX _ _ _ hj (by decide))⟩
def Keeps41 (W W' : World) : Prop := ∀ k cs, Blk W k 41 cs → Blk W' k 41 cs
theorem keeps41 {W W' : World} {g : Nat} {cs : Array Value} (hb : Blk W g 31 cs) (hf : Fr [g] W W') : Keeps41 W W' := fun k c hk => hk.fr hf (by simpa using hk.other hb (by decide))
/-- Aliases, what was told last as an error, and what the document says, in a block of its own. -/
structure A41 (w W : World) (ga gx gz gn g0 : Nat) (most : Int) (v vx : Value) (T : List ByteArray) (L : GL) (s : Addr) (r : Int) (e : Value) (k : Nat) (a b : Value) : Prop where
  inA : InA w W ga gx gz gn g0 most v vx T L
  err : ErrSays26 W s r e
  blk : Blk W k 41 #[a, b, .int .i64 0]
theorem A41.below {w W W' : World} {ga gx gz gn g0 : Nat} {most : Int} {v vx : Value} {T : List ByteArray} {L : GL} {s : Addr} {r : Int} {e : Value} {k : Nat} {a b : Value} (h : A41 w W ga gx gz gn g0 most v vx T L s r e k a b) (hb : Below W.heap.size W W') : A41 w W' ga gx gz gn g0 most v vx T L s r e k a b :=
  ⟨h.inA.below hb, es_below h.err hb, h.blk.below hb h.blk.lt⟩
theorem A41.drewN {w W : World} {ga gx gz gn g0 : Nat} {most : Int} {v vx : Value} {T : List ByteArray} {L : GL} {s : Addr} {r : Int} {e : Value} {k : Nat} {a b : Value} (h : A41 w W ga gx gz gn g0 most v vx T L s r e k a b) (d : Nat) : A41 w (W.drewN d) ga gx gz gn g0 most v vx T L s r e k a b :=
  h.below (below_drewN (Below.refl _ _) d)
set_option maxHeartbeats 8000000 in
set_option maxRecDepth 100000 in
theorem aliasIn_core (most : Int) (A : Option Addr) (n c : Nat) (L0 : List ByteArray) (A2 : Option Addr) (n2 c2 : Nat) (X : Nat → Int) (S : Nat → Addr) (w : World) (hnz : n ≤ maxLen) (hnz2 : n2 ≤ maxLen) (ha : StrsOf w A n L0)
    (hx : n2 = 0 ∨ ∃ b off, A2 = some ⟨b, off, none⟩ ∧ ∀ i, i < n2 → w.cell? ⟨b, off + i, none⟩ = some (.int .i64 (X i)) ∧ (Lit.int .i64 (X i)).wf = true) (hE : Env w S) :
    Calls Tryd.prog 3 #[.int .i64 most, .slice A n c, .slice A2 n2 c2] w fun x w' => x = .returned (.bool true) ∧ Below w.heap.size w w' := by
  unfold maxLen at hnz hnz2
  obtain ⟨hn, hr⟩ := ha
  have hp : ProtoAt w (S 2) := hE.kind 2 (by decide)
  have hh := hE.handle
  have h0 : 0 < w.heap.size := lt_of_cell hp
  have HENV := Lib.hid (fun W (hb : Below w.heap.size w W) => hE.later hb)
  have HAW := Lib.hid (fun W (hb : Below w.heap.size w W) => (awake26 W (hp.below hb h0) (show Handle W from by
    unfold Handle at *
    exact (World.cell?_of_block (w := w) (hb.block 7 (lt_of_cell hh))).trans hh)).mono fun x w' hx => show x = .returned (.bool true) ∧ Below w.heap.size w w' from ⟨hx.1, hb.trans (hx.2.mono hb.size)⟩)
  have HP := Lib.hid (fun W (hb : Below w.heap.size w W) => hp.below hb h0)
  have W1 := Lib.hid (few26_any hr n c hn hnz)
  have HR := Lib.hid (fun W (hb : Below w.heap.size w W) => show SRd W A L0 from fun hpos => by
    obtain ⟨g, off, e, hc⟩ := hr hpos
    exact ⟨g, off, e, fun k hk => (World.cell?_of_block (w := w) (hb.block g (lt_of_cell (hc k hk)))).trans (hc k hk)⟩)
  have HX := Lib.hid (fun (hpos : 0 < n2) => show ∃ b off, A2 = some ⟨b, off, none⟩ ∧ ∀ i, i < n2 → (Lit.int .i64 (X i)).wf = true ∧ ∀ W, Below w.heap.size w W → W.cell? ⟨b, off + i, none⟩ = some (.int .i64 (X i)) from by
    rcases hx with hx | ⟨b, off, e, hx⟩
    · omega
    · exact ⟨b, off, e, fun i hi => ⟨(hx i hi).2, fun W hb => (World.cell?_of_block (w := w) (hb.block b (lt_of_cell (hx i hi).1))).trans (hx i hi).1⟩⟩)
  have HN := Lib.hid hn
  have C3 := Lib.hid (newin_any most w)
  clear hr hp hh h0 hn hE hx
  go_enter Tryd.func3, Tryd.ntmps3
  go_wp2_with fail
  refine W1.out.mono ?_
  rintro x w1 ⟨⟨b, rfl, hb2⟩, rfl⟩
  clear W1
  cases b with
  | false =>
    clear hb2
    go_wp2_with fail
    refine (HAW.out _ (Below.refl _ _)).mono ?_
    rintro x w1 ⟨rfl, hb⟩
    have HB := Lib.hid hb
    clear hb
    go_wp2_with fail
    go_ret
    exact ⟨rfl, HB.out⟩
  | true =>
    obtain ⟨hn40, hz⟩ := hb2 rfl
    have hn40' : n ≤ 40 := by have := HN.out; omega
    have HZ := Lib.hid hz
    clear hb2 hn40 hz hnz
    by_cases hnn : n2 < n
    · have hnn2 : (n2 : Int) < (n : Int) := by omega
      go_wp2_with fail
      refine (HAW.out _ (Below.refl _ _)).mono ?_
      rintro x w1 ⟨rfl, hb⟩
      have HB := Lib.hid hb
      clear hb
      go_wp2_with fail
      go_ret
      exact ⟨rfl, HB.out⟩
    · have hnn2 : ¬ (n2 : Int) < (n : Int) := by omega
      have HALL := Lib.hid (inA_made w most)
      go_wp2_with fail
      refine C3.out.mono ?_
      rintro x wA ⟨rfl, rfl⟩
      go_wp2_with fail
      generalize (((((w.alloc (.cells #[.int .i64 (limI most), .slice none 0 0] 33)).alloc (.cells #[.int .i64 most, .slice none 0 0] 31)).alloc (.cells #[.int .i64 0, .slice none 0 0] 33)).alloc
        (.cells #[.pointer none, .pointer (some ⟨w.heap.size + 1 + 1, 0, none⟩)] 26)).alloc (.cells #[.int .i64 0, .slice none 0 0] 31)) = wA at HALL ⊢
      clear C3
      obtain ⟨g0, hg0⟩ : ∃ g0, g0 = w.heap.size + 1 + 1 + 1 + 1 := ⟨_, rfl⟩
      obtain ⟨gn, hgn⟩ : ∃ gn, gn = w.heap.size + 1 + 1 + 1 := ⟨_, rfl⟩
      obtain ⟨gz, hgz⟩ : ∃ gz, gz = w.heap.size + 1 + 1 := ⟨_, rfl⟩
      obtain ⟨gx, hgx⟩ : ∃ gx, gx = w.heap.size + 1 := ⟨_, rfl⟩
      obtain ⟨ga, hga⟩ : ∃ ga, ga = w.heap.size := ⟨_, rfl⟩
      have HALL2 := Lib.hid (show InA w wA ga gx gz gn g0 most (.slice none 0 0) (.slice none 0 0) [] [] from by rw [hg0, hgn, hgz, hgx, hga]; exact HALL.out)
      clear HALL
      rw [← hg0, ← hgn, ← hgx, ← hga]
      clear hg0 hgn hgz hgx hga
      go_loopw [11] (fun i wr => ∃ (k : Nat) (v vx : Value) (T : List ByteArray) (L : GL), k ≤ n ∧ i = .int .i64 k ∧ InA w wr ga gx gz gn g0 most v vx T L ∧ L.length ≤ k ∧ Hid (Agree (limI most) T L)) (fun i _ => n - (intOf i).toNat)
      case atStart => exact ⟨0, _, _, [], [], by omega, rfl, HALL2.out, by simp, Lib.hid (Agree.nil _ (limI_bd most).1)⟩
      case round =>
        obtain ⟨k, v, vx, T, L, hk, rfl, hall, hlk, HAG⟩ := hrel
        by_cases hlt : k < n
        · have hkL : k < L0.length := by have := HN.out; omega
          obtain ⟨g1, off, rfl, _⟩ := HR.out w (Below.refl _ _) (by have := HN.out; omega)
          obtain ⟨g2, off2, rfl, hx2⟩ := HX.out (by omega)
          obtain ⟨hwf, hxc⟩ := hx2 k (by omega)
          have hlt2 : k < n2 := by omega
          have KS := Lib.hid (fun W (hb : Below w.heap.size w W) => show W.cell? ⟨g1, off + k, none⟩ = some (.string (L0.getD k e0)) ∧ W.cell? ⟨g2, off2 + k, none⟩ = some (.int .i64 (X k)) from by
            obtain ⟨g', off', e, hc⟩ := HR.out W hb (by have := HN.out; omega)
            obtain ⟨rfl, rfl⟩ : g1 = g' ∧ off = off' := by
              have := Option.some.inj e
              injection this with h1 h2
              exact ⟨h1, h2⟩
            exact ⟨hc k hkL, hxc W hb⟩)
          have hys := HZ.out k hkL
          obtain ⟨y, hy⟩ : ∃ y, y = L0.getD k e0 := ⟨_, rfl⟩
          obtain ⟨al, hal⟩ : ∃ al, al = X k := ⟨_, rfl⟩
          rw [← hy] at KS hys
          rw [← hal] at KS hwf
          obtain ⟨s1, s2, s3, hag, hle⟩ := in_step most T L HAG.out y al
          obtain ⟨o1, o2, o3, o4⟩ := in_none y al
          have HAG2 := Lib.hid hag
          have D9 := Lib.hid (fun W (h : InA w W ga gx gz gn g0 most v vx T L) => (topic_any (HP.out W h.bel) h.a h.bel.size (by have := HAG.out.len; have := limI_bd most; omega) (limI_bd most).2 y al hwf).mono fun x w' ⟨e, v', he, hf, hs⟩ =>
            show ∃ e v', x = Ending.returned (.tuple #[.string (topicI (limI most) T y al).1, e]) ∧ ErrSays26 w' (S 2) (topicI (limI most) T y al).2.1 e ∧ InA w w' ga gx gz gn g0 most v' vx (topicI (limI most) T y al).2.2 L ∧ Below w.heap.size w w' from ⟨e, v', he, hf, h.topic hs, (h.topic hs).bel⟩)
          have D10 := Lib.hid (fun W v6 T6 r e (h : InA w W ga gx gz gn g0 most v6 vx T6 L) (he : ErrSays26 W (S 2) r e) => (rtopic_any h.x (by omega) h.bel.size y al hwf).mono fun x w' ⟨hxx, v', hs⟩ =>
            show ∃ v', x = Ending.returned (.tuple #[.string (refI most L y al).1, .agg #[.int .i64 (refI most L y al).2.1, .int .i64 (refI most L y al).2.2.1, .int .i64 0]]) ∧ InA w w' ga gx gz gn g0 most v6 v' T6 (refI most L y al).2.2.2 ∧ ErrSays26 w' (S 2) r e ∧ Below w.heap.size w w' ∧ Keeps41 W w' from ⟨v', hxx, h.rtopic hs, es_fr he h.x.blk hs.fr, (h.rtopic hs).bel, keeps41 h.x.blk hs.fr⟩)
          have D13 := Lib.hid (fun W v6 v7 T6 L6 (h : InA w W ga gx gz gn g0 most v6 v7 T6 L6) => (rtopic_any h.o (Nat.zero_le _) h.bel.size y al hwf).mono fun x w' ⟨hxx, v', hs⟩ =>
            show x = Ending.returned (.tuple #[.string (refI 0 [] y al).1, .agg #[.int .i64 (refI 0 [] y al).2.1, .int .i64 (refI 0 [] y al).2.2.1, .int .i64 0]]) ∧ InA w w' ga gx gz gn g0 most v6 v7 T6 L6 ∧ Below w.heap.size w w' ∧ Keeps41 W w' from ⟨hxx, h.rnone (o4 ▸ hs), (h.rnone (o4 ▸ hs)).bel, keeps41 h.o.blk hs.fr⟩)
          have D17 := Lib.hid (fun W v6 v7 T6 L6 pv (h : InA w W ga gx gz gn g0 most v6 v7 T6 L6) (hp : NoIn W pv) => (no_topic (HP.out W h.bel) hp y al hwf).mono fun x w' ⟨e, he, hf, hb⟩ =>
            show ∃ e, x = Ending.returned (.tuple #[.string (noI y al).1, e]) ∧ ErrSays26 w' (S 2) (noI y al).2 e ∧ InA w w' ga gx gz gn g0 most v6 v7 T6 L6 ∧ Below w.heap.size w w' ∧ Keeps41 W w' from ⟨e, he, hf, h.below hb, (h.below hb).bel, fun k cs hk => hk.below hb hk.lt⟩)
          clear HAG
          generalize topicI (limI most) T y al = R at *
          obtain ⟨r1, r2, T'⟩ := R
          generalize refI most L y al = RF at *
          obtain ⟨f1, f2, f3, L'⟩ := RF
          generalize refI 0 [] y al = RN at *
          obtain ⟨n1, n2', n3, LN⟩ := RN
          generalize noI y al = RZ at *
          obtain ⟨z1, z2⟩ := RZ
          dsimp only at *
          subst s1 s2 o1 o2 o4
          have S3 := Lib.hid s3
          have O3 := Lib.hid o3
          have hle' : L'.length ≤ k + 1 := by omega
          clear hy hal hkL hxc hx2 hag s3 o3 hle
          have hJ := hall
          have hB := hall.bel
          obtain ⟨q0, q1⟩ := KS.out _ hB
          clear hall
          go_upto_region 9 with fail
          go_region_held3 (fun W => W.cell? ⟨g1, off + k, none⟩ = some (.string y) ∧ W.cell? ⟨g2, off2 + k, none⟩ = some (.int .i64 al))
            (first | assumption | (exact KS.out _ (by assumption)) | (exact KS.out _ (below_drewN (by assumption) 1)))
            (first
              | (go_at_call 9; (with_reducible refine (D9.out _ ?_).mono ?_); (first | assumption | exact InA.drewN (by assumption) 1); rintro x w6 ⟨e6, v6, rfl, he6, hj6, hb6⟩))
          clear q0 q1
          obtain ⟨q0, q1⟩ := KS.out _ hb6
          clear hB hJ D9
          go_upto_region 10 with fail
          go_region_held3 (fun W => W.cell? ⟨g1, off + k, none⟩ = some (.string y) ∧ W.cell? ⟨g2, off2 + k, none⟩ = some (.int .i64 al))
            (first | assumption | ((refine KS.out _ ?_); repeat (first | assumption | (exact Below.size (by assumption)) | apply ba26 | apply bdr26 | (refine bset26 ?_ ?_))))
            (first
              | (go_at_call 10; (with_reducible refine (D10.out _ v6 T' r2 e6 ?_ ?_).mono ?_); (first | assumption | exact InA.drewN (by assumption) 1); (first | assumption | exact es_drew (by assumption) 1); rintro x w7 ⟨v7, rfl, hj7, he7, hb7, hk7⟩)
              | (go_at_call 10; (with_reducible refine (D10.out _ v6 T' r2 e6 ?_ ?_).mono ?_); (exact InA.below (by assumption) (bdr26 (ba26 _ (Below.refl _ _)))); (exact es_below (by assumption) (bdr26 (ba26 _ (Below.refl _ _)))); rintro x w7 ⟨v7, rfl, hj7, he7, hb7, hk7⟩; have hr7 := hk7 _ _ ((Blk.made w6 41 #[.int .i64 0, .int .i64 0, .int .i64 0]).drewN 1); have z0 := hr7.cell 0; have z1 := hr7.cell 1; have z2 := hr7.cell 2; have zf0 := hr7.frozen 0; have zf1 := hr7.frozen 1; have zf2 := hr7.frozen 2))
          all_goals
            have hsz8 : w.heap.size ≤ w7.heap.size ∧ w.heap.size ≤ w6.heap.size := ⟨hb7.size, hb6.size⟩
            clear q0 q1
            first
              | (obtain ⟨hj8, he8, hr8⟩ := stored41 hj7 he7 hr7 hb6.size (.int .i64 f2) (.int .i64 r2) (.int .i64 0)
                 have HR8 := Lib.hid hr8
                 have HJ8 := Lib.hid hj8
                 have HE8 := Lib.hid he8
                 clear hj8 he8 hr8 z0 z1 z2 zf0 zf1 zf2 hr7
                 generalize (((w7.setCell ⟨w6.heap.size, 0, none⟩ (.int .i64 f2)).setCell ⟨w6.heap.size, 1, none⟩ (.int .i64 r2)).setCell ⟨w6.heap.size, 2, none⟩ (.int .i64 0)) = w8 at *
                 generalize w6.heap.size = r8 at *)
              | (have HR8 := Lib.hid (Blk.made w7 41 #[.int .i64 f2, .int .i64 r2, .int .i64 0])
                 have HJ8 := Lib.hid (hj7.below (ba26 (w := w7) (.cells #[.int .i64 f2, .int .i64 r2, .int .i64 0] 41) (Below.refl _ _)))
                 have HE8 := Lib.hid (es_below he7 (ba26 (w := w7) (.cells #[.int .i64 f2, .int .i64 r2, .int .i64 0] 41) (Below.refl _ _)))
                 generalize w7.alloc (.cells #[.int .i64 f2, .int .i64 r2, .int .i64 0] 41) = w8 at *
                 generalize w7.heap.size = r8 at *)
            have hrw : w.heap.size ≤ r8 := by omega
            have hA8 : A41 w w8 ga gx gz gn g0 most v6 v7 T' L' (S 2) r2 e6 r8 (.int .i64 f2) (.int .i64 r2) := ⟨HJ8.out, HE8.out, HR8.out⟩
            have KR := Lib.hid (fun W (h : A41 w W ga gx gz gn g0 most v6 v7 T' L' (S 2) r2 e6 r8 (.int .i64 f2) (.int .i64 r2)) => show W.cell? ⟨r8, 0, none⟩ = some (.int .i64 f2) ∧ W.cell? ⟨r8, 1, none⟩ = some (.int .i64 r2) from ⟨h.blk.cell 0, h.blk.cell 1⟩)
            have D11 := Lib.hid (fun W (h : A41 w W ga gx gz gn g0 most v6 v7 T' L' (S 2) r2 e6 r8 (.int .i64 f2) (.int .i64 r2)) => (terr_number (HENV.out W h.inA.bel) (terr_of h.err)).mono fun x w' ⟨hx, hb⟩ => show x = Ending.returned (.int .i64 f2) ∧ A41 w w' ga gx gz gn g0 most v6 v7 T' L' (S 2) r2 e6 r8 (.int .i64 f2) (.int .i64 r2) from ⟨by rw [hx, S3.out], h.below hb⟩)
            have D12 := Lib.hid (fun W (h : A41 w W ga gx gz gn g0 most v6 v7 T' L' (S 2) r2 e6 r8 (.int .i64 f2) (.int .i64 r2)) => (terr_reason (HENV.out W h.inA.bel) (terr_of h.err)).mono fun x w' ⟨hx, hb⟩ => show x = Ending.returned (.int .i64 r2) ∧ A41 w w' ga gx gz gn g0 most v6 v7 T' L' (S 2) r2 e6 r8 (.int .i64 f2) (.int .i64 r2) from ⟨hx, h.below hb⟩)
            have D14 := Lib.hid (fun W (h : A41 w W ga gx gz gn g0 most v6 v7 T' L' (S 2) r2 e6 r8 (.int .i64 f2) (.int .i64 r2)) => (terr_at (HENV.out W h.inA.bel) (terr_of h.err)).mono fun x w' ⟨hx, hb⟩ => show x = Ending.returned (.int .i64 0) ∧ A41 w w' ga gx gz gn g0 most v6 v7 T' L' (S 2) r2 e6 r8 (.int .i64 f2) (.int .i64 r2) from ⟨hx, h.below hb⟩)
            have he1 : (r1.toList == r1.toList) = true := by rw [eq_text]; exact decide_eq_true rfl
            have he2 : (n1.toList == n1.toList) = true := by rw [eq_text]; exact decide_eq_true rfl
            clear hj7 he7 hb7 hk7 he6 hj6 hb6 HJ8 HE8 HR8 D10
            obtain ⟨q0, q1⟩ := KR.out _ hA8
            go_upto_region 11 with fail
            go_region_held3 (fun W => W.cell? ⟨r8, 0, none⟩ = some (.int .i64 f2) ∧ W.cell? ⟨r8, 1, none⟩ = some (.int .i64 r2))
              (first | assumption | exact KR.out _ (by assumption) | exact KR.out _ (A41.drewN (by assumption) 1))
              (first
                | (go_at_call 11; (with_reducible refine (D11.out _ ?_).mono ?_); (first | assumption | exact A41.drewN (by assumption) 1); rintro x w9 ⟨rfl, hA9⟩)
                | (go_at_call 12; (with_reducible refine (D12.out _ ?_).mono ?_); (first | assumption | exact A41.drewN (by assumption) 1); rintro x w10 ⟨rfl, hA10⟩)
                | (go_at_call 13; (with_reducible refine (D14.out _ ?_).mono ?_); (first | assumption | exact A41.drewN (by assumption) 1); rintro x w11 ⟨rfl, hA11⟩))
            clear q0 q1 hA8 hA9 hA10 D11 D12 D14 KR
            have hj11 := hA11.inA
            have hr11 := hA11.blk
            have hb11 := hA11.inA.bel
            obtain ⟨q0, q1⟩ := KS.out _ hb11
            clear hA11
            go_upto_region 13 with fail
            go_region_held3 (fun W => W.cell? ⟨g1, off + k, none⟩ = some (.string y) ∧ W.cell? ⟨g2, off2 + k, none⟩ = some (.int .i64 al))
              (first | assumption | ((refine KS.out _ ?_); repeat (first | assumption | apply ba26 | apply bdr26 | (refine bset26 ?_ ?_))))
              (first
                | (go_at_call 10; (with_reducible refine (D13.out _ v6 v7 T' L' ?_).mono ?_); (first | assumption | exact InA.drewN (by assumption) 1); rintro x w12 ⟨rfl, hj12, hb12, hk12⟩; have hr12 := hk12 _ _ (hr11.drewN 1); have z0 := hr12.cell 0; have z1 := hr12.cell 1; have z2 := hr12.cell 2; have zf0 := hr12.frozen 0; have zf1 := hr12.frozen 1; have zf2 := hr12.frozen 2))
            obtain ⟨hj13, _, hr13⟩ := stored41 hj12 (.inl ⟨rfl, rfl⟩ : ErrSays26 w12 (S 2) 0 .nilIface) hr12 hrw (.int .i64 n2') (.int .i64 n3) (.int .i64 0)
            have HR13 := Lib.hid hr13
            have HJ13 := Lib.hid hj13
            clear hj13 hr13 z0 z1 z2 zf0 zf1 zf2 hr12 hj12 hb12 hk12 hj11 hr11 hb11 q0 q1 D13
            generalize (((w12.setCell ⟨r8, 0, none⟩ (.int .i64 n2')).setCell ⟨r8, 1, none⟩ (.int .i64 n3)).setCell ⟨r8, 2, none⟩ (.int .i64 0)) = w13 at *
            go_wp2_with fail
            go_loopw [16] (fun i wr2 => ∃ p : Nat, p ≤ 2 ∧ i = .int .i64 p ∧ InA w wr2 ga gx gz gn g0 most v6 v7 T' L' ∧ Blk wr2 r8 41 #[.int .i64 n2', .int .i64 n3, .int .i64 0]) (fun i _ => 2 - (intOf i).toNat)
            case atStart => exact ⟨0, by omega, rfl, HJ13.out, HR13.out⟩
            case round =>
              obtain ⟨p, hp2, rfl, hjr, hrr⟩ := hrel
              have HJR := Lib.hid hjr
              have HRR := Lib.hid hrr
              by_cases hpl : p < 2
              · obtain ⟨pv, hpv, HNI⟩ : ∃ pv, wr.cell? ⟨gn, p, none⟩ = some pv ∧ Hid (∀ W, InA w W ga gx gz gn g0 most v6 v7 T' L' → W.cell? ⟨gn, p, none⟩ = some pv ∧ NoIn W pv) := by
                  rcases (show p = 0 ∨ p = 1 by omega) with rfl | rfl
                  · exact ⟨.pointer none, hjr.n.cell 0, Lib.hid fun W h => ⟨h.n.cell 0, .inl rfl⟩⟩
                  · exact ⟨.pointer (some ⟨gz, 0, none⟩), hjr.n.cell 1, Lib.hid fun W h => ⟨h.n.cell 1, .inr ⟨gz, rfl, h.z⟩⟩⟩
                have D9 := Lib.hid (fun W (h : InA w W ga gx gz gn g0 most v6 v7 T' L') => D17.out W v6 v7 T' L' pv h (HNI.out W h).2)
                have KN := Lib.hid (fun W (h : InA w W ga gx gz gn g0 most v6 v7 T' L') => show W.cell? ⟨gn, p, none⟩ = some pv ∧ W.cell? ⟨g1, off + k, none⟩ = some (.string y) ∧ W.cell? ⟨g2, off2 + k, none⟩ = some (.int .i64 al) from ⟨(HNI.out W h).1, KS.out W h.bel⟩)
                obtain ⟨t0, t1, t2⟩ := KN.out _ hjr
                have hp1 : (p : Int) < 2 := by omega
                have hp0 : (0 : Int) ≤ (p : Int) := by omega
                clear hpv
                go_upto_region 17 with fail
                go_region_held3 (fun W => W.cell? ⟨gn, p, none⟩ = some pv ∧ W.cell? ⟨g1, off + k, none⟩ = some (.string y) ∧ W.cell? ⟨g2, off2 + k, none⟩ = some (.int .i64 al))
                  (first | assumption | exact KN.out _ (by assumption) | exact KN.out _ (InA.drewN (by assumption) 1))
                  (first
                    | (go_at_call 9; (with_reducible refine (D9.out _ ?_).mono ?_); (first | assumption | exact InA.drewN (by assumption) 1); rintro x w14 ⟨e14, rfl, he14, hj14, hb14, hk14⟩))
                have hA14 : A41 w w14 ga gx gz gn g0 most v6 v7 T' L' (S 2) n3 e14 r8 (.int .i64 n2') (.int .i64 n3) := ⟨hj14, he14, hk14 _ _ (hrr.drewN 1)⟩
                clear hjr hrr t0 t1 t2 he14 hj14 hb14 hk14 D9 KN
                have KR := Lib.hid (fun W (h : A41 w W ga gx gz gn g0 most v6 v7 T' L' (S 2) n3 e14 r8 (.int .i64 n2') (.int .i64 n3)) => show W.cell? ⟨r8, 0, none⟩ = some (.int .i64 n2') ∧ W.cell? ⟨r8, 1, none⟩ = some (.int .i64 n3) from ⟨h.blk.cell 0, h.blk.cell 1⟩)
                have D11 := Lib.hid (fun W (h : A41 w W ga gx gz gn g0 most v6 v7 T' L' (S 2) n3 e14 r8 (.int .i64 n2') (.int .i64 n3)) => (terr_number (HENV.out W h.inA.bel) (terr_of h.err)).mono fun x w' ⟨hx, hb⟩ => show x = Ending.returned (.int .i64 n2') ∧ A41 w w' ga gx gz gn g0 most v6 v7 T' L' (S 2) n3 e14 r8 (.int .i64 n2') (.int .i64 n3) from ⟨by rw [hx, O3.out], h.below hb⟩)
                have D12 := Lib.hid (fun W (h : A41 w W ga gx gz gn g0 most v6 v7 T' L' (S 2) n3 e14 r8 (.int .i64 n2') (.int .i64 n3)) => (terr_reason (HENV.out W h.inA.bel) (terr_of h.err)).mono fun x w' ⟨hx, hb⟩ => show x = Ending.returned (.int .i64 n3) ∧ A41 w w' ga gx gz gn g0 most v6 v7 T' L' (S 2) n3 e14 r8 (.int .i64 n2') (.int .i64 n3) from ⟨hx, h.below hb⟩)
                obtain ⟨t0, t1⟩ := KR.out _ hA14
                go_upto_region 18 with fail
                go_region_held3 (fun W => W.cell? ⟨r8, 0, none⟩ = some (.int .i64 n2') ∧ W.cell? ⟨r8, 1, none⟩ = some (.int .i64 n3))
                  (first | assumption | exact KR.out _ (by assumption) | exact KR.out _ (A41.drewN (by assumption) 1))
                  (first
                    | (go_at_call 11; (with_reducible refine (D11.out _ ?_).mono ?_); (first | assumption | exact A41.drewN (by assumption) 1); rintro x w15 ⟨rfl, hA15⟩)
                    | (go_at_call 12; (with_reducible refine (D12.out _ ?_).mono ?_); (first | assumption | exact A41.drewN (by assumption) 1); rintro x w16 ⟨rfl, hA16⟩))
                have HJ16 := Lib.hid hA16.inA
                have HR16 := Lib.hid hA16.blk
                clear hA14 hA15 hA16 t0 t1 D11 D12 KR
                go_wp2_with fail
                go_roundw
                case rel => exact ⟨p + 1, by omega, by go_num, HJ16.out, HR16.out⟩
                case measure => simp [intOf]; omega
              · clear hjr hrr
                go_wp2_with fail
                go_roundw
                case rel => exact ⟨k + 1, v6, v7, T', L', by omega, by go_num, HJR.out, hle', HAG2⟩
                case measure => simp [intOf]; omega
        · have HBE := Lib.hid hall.bel
          clear hall
          go_wp2_with fail
          refine (HAW.out _ HBE.out).mono ?_
          rintro x w1 ⟨rfl, hb⟩
          have HB := Lib.hid hb
          clear hb
          go_wp2_with fail
          go_ret
          exact ⟨rfl, HB.out⟩
end
end Go.Proofs.YtldpdhliigkboaaDoor

/- What is proved here: FieldWrites answers true for every fields. Conditions: the argument is what a row says of it; what the rows list of the package's variables. -/
import Derived.Test.YtfojoeafhdiaiaaDoorAwk04
import Derived.Test.YtfojoeafhdiaiaaDoorRwr04
namespace Go.Proofs.YtfojoeafhdiaiaaDoor
set_option maxRecDepth 100000
open Go.RowKit Go.Extern.Stop Go.Stop Go.Extern
/-- A slice of fields that came in. -/
def ActsOf04 (w : World) (A : Option Addr) (n : Nat) (X : Nat → FV) : Prop := n = 0 ∨ ∃ b off, A = some ⟨b, off, none⟩ ∧ ∀ i, i < n → w.cell? ⟨b, off + i * 3, none⟩ = some (.int .i64 (X i).k) ∧ w.cell? ⟨b, off + i * 3 + 1, none⟩ = some (.int .i64 (X i).n) ∧ w.cell? ⟨b, off + i * 3 + 2, none⟩ = some (.string (X i).s)
/-- The first ones. -/
def actsL (X : Nat → FV) (i : Nat) : List FV := (List.range i).map X
theorem acts_succ (X : Nat → FV) (i : Nat) : actsL X (i + 1) = actsL X i ++ [X i] := by unfold actsL; rw [List.range_succ, List.map_append]; rfl
theorem acts_len (X : Nat → FV) (i : Nat) : (actsL X i).length = i := by unfold actsL; simp
theorem acts_mem {X : Nat → FV} {i : Nat} {a : FV} (h : a ∈ actsL X i) : ∃ j, j < i ∧ a = X j := by
  unfold actsL at h
  obtain ⟨j, hj, rfl⟩ := List.mem_map.1 h
  exact ⟨j, List.mem_range.1 hj, rfl⟩
theorem wr_succ (X : Nat → FV) (i : Nat) : wrAll (actsL X (i + 1)) = stepW (wrAll (actsL X i)) (encA (X i)) := by rw [acts_succ, wrAll_snoc]
section
variable {w w' : World} {A : Option Addr}
def Few04 (n : Nat) (X : Nat → FV) (w : World) (x : Ending) (w' : World) : Prop := (∃ b : Bool, x = .returned (.bool b) ∧ (b = true → n ≤ 20 ∧ ∀ i, i < n → (X i).s.size ≤ 200)) ∧ w = w'
theorem few04_any (n c : Nat) (X : Nat → FV) (h : ActsOf04 w A n X) (hm : n ≤ 9223372036854775807) : Calls Tryd.prog 9 #[.slice A n c] w (Few04 n X w) := by
  by_cases hp : n = 0
  · subst hp
    clear h hm
    go_enter Tryd.func9, Tryd.ntmps9
    go_wp2
    go_loop [3] (fun i => i = .int .i64 0) (fun _ => 0)
    case atStart => rfl
    case round =>
      subst hrel
      go_wp2
      go_ret
      exact ⟨⟨true, rfl, fun _ => ⟨by omega, fun i hi => absurd hi (by omega)⟩⟩, rfl⟩
  · obtain ⟨b, off, rfl, hc⟩ := h.resolve_left hp
    have HC := Lib.hid hc
    clear hc h
    go_enter Tryd.func9, Tryd.ntmps9
    go_wp2
    go_loop [3] (fun i => ∃ k : Nat, k ≤ n ∧ k ≤ 20 ∧ i = .int .i64 k ∧ Hid (∀ j, j < k → (X j).s.size ≤ 200)) (fun i => 20 - (intOf i).toNat)
    case atStart => exact ⟨0, by omega, by omega, rfl, Lib.hid fun j hj => absurd hj (by omega)⟩
    case round =>
      obtain ⟨k, hk, hk2, rfl, HS⟩ := hrel
      by_cases hlt : k < n ∧ k < 20
      · obtain ⟨hlt, hlt2⟩ := hlt
        obtain ⟨_, _, c2⟩ := HC.out k hlt
        by_cases hz : 200 < (X k).s.size
        · generalize (X k).s = y at *
          go_wp2
          go_ret
          exact ⟨⟨false, rfl, fun h => by cases h⟩, rfl⟩
        · have hz' : (X k).s.size ≤ 200 := by omega
          have HS2 := Lib.hid (show ∀ j, j < k + 1 → (X j).s.size ≤ 200 from fun j hj => by
            by_cases e : j = k
            · subst e; exact hz'
            · exact HS.out j (by omega))
          clear hz
          generalize (X k).s = y at *
          go_wp2
          go_round
          case rel => exact ⟨k + 1, by omega, by omega, by go_num, HS2⟩
          case measure => simp [intOf]; omega
      · by_cases hkn : k < n
        · obtain rfl : k = 20 := by omega
          go_wp2
          go_ret
          exact ⟨⟨_, rfl, fun h => by have := of_decide_eq_true h; omega⟩, rfl⟩
        · obtain rfl : k = n := by omega
          go_wp2
          go_ret
          exact ⟨⟨_, rfl, fun _ => ⟨hk2, HS.out⟩⟩, rfl⟩
end
/-- The two writers, behind some fields. -/
structure FwS (w W : World) (S : Nat → Addr) (gw gx : Nat) (V : EV) : Prop where
  wo : ∃ v, WObj W S w.heap.size gw v V
  xo : RWObj W gx V
  low : w.heap.size ≤ gx
  bel : Below w.heap.size w W
section
variable {w W W' : World} {S : Nat → Addr} {gw gx : Nat} {V V' : EV} {v v' : Value}
theorem foot04 (h : WObj W S w.heap.size gw v V) (hx : RWObj W gx V') : gx ∉ gw :: v.ownBlock.toList := by
  obtain ⟨l, a, hb, _⟩ := hx
  intro hm
  rcases List.mem_cons.1 hm with rfl | hm
  · obtain ⟨e, hw, _⟩ := h.blk
    exact hb.other hw (by decide) rfl
  · obtain ⟨_, _, cs', hh⟩ := h.row.lt _ (own_list.1 hm)
    exact hb.other hh (by decide) rfl
theorem FwS.below (h : FwS w W S gw gx V) (hb : Below W.heap.size W W') : FwS w W' S gw gx V := by
  obtain ⟨v, hw⟩ := h.wo
  exact ⟨⟨v, hw.below hb⟩, h.xo.below hb, h.low, h.bel.trans (hb.mono h.bel.size)⟩
theorem FwS.drewN (h : FwS w W S gw gx V) (d : Nat) : FwS w (W.drewN d) S gw gx V := h.below (below_drewN (Below.refl _ _) d)
/-- In the midst of a round: the one writer is ahead of the other. -/
structure FwM (w W : World) (S : Nat → Addr) (gw gx : Nat) (V V' : EV) : Prop where
  wo : ∃ v, WObj W S w.heap.size gw v V'
  xo : RWObj W gx V
  low : w.heap.size ≤ gx
  bel : Below w.heap.size w W
theorem FwM.below (h : FwM w W S gw gx V V') (hb : Below W.heap.size W W') : FwM w W' S gw gx V V' := by
  obtain ⟨v, hw⟩ := h.wo
  exact ⟨⟨v, hw.below hb⟩, h.xo.below hb, h.low, h.bel.trans (hb.mono h.bel.size)⟩
theorem FwS.one (h : FwS w W S gw gx V) (ho : WObj W S w.heap.size gw v V) (hn : WNext W W' S w.heap.size gw v v' V') : FwM w W' S gw gx V V' :=
  ⟨⟨v', hn.obj⟩, h.xo.fr hn.fr (foot04 ho h.xo), h.low, hn.later ho h.bel⟩
theorem FwM.two (h : FwM w W S gw gx V V') (hn : RWNext W W' gx V') : FwS w W' S gw gx V' := by
  obtain ⟨v, hw⟩ := h.wo
  have hne := foot04 hw h.xo
  have hg : gw ∉ [gx] := fun hm => by rw [List.mem_singleton] at hm; exact hne (hm ▸ List.mem_cons_self ..)
  have hv : ∀ k, v.ownBlock = some k → k ∉ [gx] := fun k hk hm => by rw [List.mem_singleton] at hm; subst hm; exact hne (List.mem_cons_of_mem _ (own_list.2 hk))
  have hX : NoF W [gx] := NoF.of fun k hk => by
    rw [List.mem_singleton] at hk
    subst hk
    obtain ⟨l, a, hb, _⟩ := h.xo
    exact ⟨_, _, hb, by decide⟩
  exact ⟨⟨v, hw.fr hn.2 hg hv hX⟩, hn.1, h.low, hn.2.later h.bel (fun b hb => by rw [List.mem_singleton] at hb; subst hb; exact h.low) h.bel.size⟩
def StS (w : World) (S : Nat → Addr) (gw gx : Nat) (V : EV) (x : Ending) (W' : World) : Prop := x = .returned (.tuple #[]) ∧ FwS w W' S gw gx V
def StM (w : World) (S : Nat → Addr) (gw gx : Nat) (V V' : EV) (x : Ending) (W' : World) : Prop := x = .returned (.tuple #[]) ∧ FwM w W' S gw gx V V'
theorem d11 (hE : Env w S) (h : FwS w W S gw gx V) (a : FV) (hl : V.L.length ≤ 800000) (hs : a.s.size ≤ 65535) :
    Calls Tryd.prog 11 #[.pointer (some ⟨gw, 0, none⟩), .agg #[.int .i64 a.k, .int .i64 a.n, .string a.s]] W (StM w S gw gx V (stepW V (encA a))) := by
  obtain ⟨v, hw⟩ := h.wo
  exact (write_any (hE.later h.bel) hw hl a hs).mono fun x w' hx => ⟨hx.1, h.one hw hx.2.choose_spec⟩
theorem d11n (h : FwM w W S gw gx V V') (a : FV) (hs : a.s.size ≤ 65535) :
    Calls Tryd.prog 11 #[.pointer none, .agg #[.int .i64 a.k, .int .i64 a.n, .string a.s]] W (StM w S gw gx V V') :=
  (nwrite_any a.k a.n a.s hs W).mono fun _ _ hx => ⟨hx.1, h.below hx.2⟩
theorem d12 (a : FV) (h : FwM w W S gw gx V (stepW V (encA a))) (hl : V.L.length ≤ 800000) (hs : a.s.size ≤ 65535) :
    Calls Tryd.prog 12 #[.pointer (some ⟨gx, 0, none⟩), .agg #[.int .i64 a.k, .int .i64 a.n, .string a.s]] W (StS w S gw gx (stepW V (encA a))) :=
  (rwdo_any h.xo (by omega) a hs).mono fun _ _ hx => ⟨hx.1, h.two hx.2⟩
end
/-- Behind the loop: the error that the writer told is there, too. -/
structure FwE (w W : World) (S : Nat → Addr) (gw gx : Nat) (V : EV) (e : Value) : Prop where
  fw : FwS w W S gw gx V
  er : ErrOf W S 129 V.no V.at_ e
  env : Env W S
theorem FwE.below {w W W' : World} {S : Nat → Addr} {gw gx : Nat} {V : EV} {e : Value} (h : FwE w W S gw gx V e) (hb : Below W.heap.size W W') : FwE w W' S gw gx V e := ⟨h.fw.below hb, h.er.later hb, h.env.later hb⟩
theorem FwE.drewN {w W : World} {S : Nat → Addr} {gw gx : Nat} {V : EV} {e : Value} (h : FwE w W S gw gx V e) (d : Nat) : FwE w (W.drewN d) S gw gx V e := h.below (below_drewN (Below.refl _ _) d)
theorem FwE.c1 {w W : World} {S : Nat → Addr} {gw gx : Nat} {V : EV} {e : Value} (h : FwE w W S gw gx V e) : W.cell? ⟨gx, 1, none⟩ = some (.int .i64 V.no) := by obtain ⟨l, a, hb, _⟩ := h.fw.xo; exact hb.cell 1
theorem FwE.c0 {w W : World} {S : Nat → Addr} {gw gx : Nat} {V : EV} {e : Value} (h : FwE w W S gw gx V e) (h0 : V.no = 0) : W.cell? ⟨gx, 0, none⟩ = some (.string ⟨V.L.toArray⟩) := by obtain ⟨l, a, hb, h1, _⟩ := h.fw.xo; rw [← h1 h0]; exact hb.cell 0
theorem FwE.c2 {w W : World} {S : Nat → Addr} {gw gx : Nat} {V : EV} {e : Value} (h : FwE w W S gw gx V e) (h0 : V.no ≠ 0) : W.cell? ⟨gx, 2, none⟩ = some (.int .i64 V.at_) := by obtain ⟨l, a, hb, _, h2⟩ := h.fw.xo; rw [← h2 h0]; exact hb.cell 2
def StE (w : World) (S : Nat → Addr) (gw gx : Nat) (V : EV) (e r : Value) (x : Ending) (W' : World) : Prop := x = .returned r ∧ FwE w W' S gw gx V e
theorem e14 {w W : World} {S : Nat → Addr} {gw gx : Nat} {V : EV} {e : Value} (h : FwE w W S gw gx V e) : Calls Tryd.prog 14 #[e] W (StE w S gw gx V e (.int .i64 V.no)) :=
  (number_of h.env h.er).mono fun _ _ hx => ⟨hx.1, h.below hx.2⟩
theorem e15 {w W : World} {S : Nat → Addr} {gw gx : Nat} {V : EV} {e : Value} (h0 : V.no ≠ 0) (h : FwE w W S gw gx V e) : Calls Tryd.prog 15 #[e] W (StE w S gw gx V e (.int .i64 129)) :=
  (reason_err h.env (h.er.is h0)).mono fun _ _ hx => ⟨hx.1, h.below hx.2⟩
theorem e16 {w W : World} {S : Nat → Addr} {gw gx : Nat} {V : EV} {e : Value} (h0 : V.no ≠ 0) (h : FwE w W S gw gx V e) : Calls Tryd.prog 16 #[e] W (StE w S gw gx V e (.int .i64 V.at_)) :=
  (at_err h.env (h.er.is h0)).mono fun _ _ hx => ⟨hx.1, h.below hx.2⟩
theorem e10 {w W : World} {S : Nat → Addr} {gw gx : Nat} {V : EV} {e : Value} (h : FwE w W S gw gx V e) : Calls Tryd.prog 10 #[] W (StE w S gw gx V e (.bool true)) :=
  (awake04 h.env).mono fun _ _ hx => ⟨hx.1, h.below hx.2⟩
set_option maxHeartbeats 2000000 in
theorem fieldWrites_walk (S : Nat → Addr) (A : Option Addr) (n c : Nat) (X : Nat → FV) (w : World) (hE : Env w S) (hm : n ≤ maxLen) (h : ActsOf04 w A n X) :
    Calls Tryd.prog 3 #[.slice A n c] w fun x w' => x = .returned (.bool true) ∧ Below w.heap.size w w' := by
  have hm' : n ≤ 9223372036854775807 := by unfold maxLen at hm; omega
  clear hm
  have HFW := Lib.hid (few04_any n c X h hm')
  have HE := Lib.hid hE
  have HA := Lib.hid h
  clear h hE
  go_enter Tryd.func3, Tryd.ntmps3
  go_wp2_with fail
  refine HFW.out.mono ?_
  rintro x w1 ⟨⟨b, rfl, hb⟩, rfl⟩
  cases b
  · clear hb
    go_wp2_with fail
    refine (awake04 HE.out).mono ?_
    rintro x w2 ⟨rfl, hb⟩
    go_wp2
    go_ret
    exact ⟨rfl, hb⟩
  · obtain ⟨hn, hs⟩ := hb rfl
    have HS := Lib.hid hs
    clear hb hs
    go_wp2_with fail
    have hst : FwS w ((w.alloc (.cells #[.slice none 0 0, .nilIface] 30)).alloc (.cells #[.string ⟨#[]⟩, .int .i64 0, .int .i64 0] 34)) S w.heap.size (w.heap.size + 1) (wrAll (actsL X 0)) := by
      have h1 := WObj.made w S (Nat.le_refl w.heap.size)
      have h2 := RWObj.made (w.alloc (.cells #[.slice none 0 0, .nilIface] 30))
      rw [World.size_alloc] at h2
      exact ⟨⟨_, h1.below ((Below.refl _ _).alloc (Nat.le_refl _) _)⟩, h2, by omega, ((Below.refl _ _).alloc (Nat.le_refl _) _).alloc (by rw [World.size_alloc]; omega) _⟩
    have HST := Lib.hid hst
    clear hst
    generalize hgx : w.heap.size + 1 = gx at HST ⊢
    clear hgx
    go_loopg [6] n (fun f x wr => ∃ i : Nat, f = n - i ∧ i ≤ n ∧ x = .int .i64 i ∧ FwS w wr S w.heap.size gx (wrAll (actsL X i)))
    case atStart => exact ⟨0, rfl, Nat.zero_le _, rfl, HST.out⟩
    case round =>
      obtain ⟨i, rfl, hi, rfl, hF⟩ := hrel
      have HF := Lib.hid hF
      clear hF HST
      by_cases hlt : i < n
      · obtain ⟨b, off, rfl, hc⟩ := HA.out.resolve_left (by omega)
        have HW := Lib.hid (wr_succ X i)
        have hlen : (wrAll (actsL X i)).L.length ≤ 800000 := by
          have := wr_len (actsL X i) 200 fun a ha => by
            obtain ⟨j, hj, rfl⟩ := acts_mem ha
            exact HS.out j (by omega)
          rw [acts_len] at this
          omega
        have HL := Lib.hid hlen
        have HSZ := Lib.hid (show (X i).s.size ≤ 65535 by have := HS.out i hlt; omega)
        have KC := Lib.hid (fun (W : World) (hb : Below w.heap.size w W) => show W.cell? ⟨b, off + i * 3, none⟩ = some (.int .i64 (X i).k) ∧ W.cell? ⟨b, off + i * 3 + 1, none⟩ = some (.int .i64 (X i).n) ∧ W.cell? ⟨b, off + i * 3 + 2, none⟩ = some (.string (X i).s) from by
          obtain ⟨q0, q1, q2⟩ := hc i hlt
          exact ⟨(hb.cell (lt_of_cell q0)).trans q0, (hb.cell (lt_of_cell q1)).trans q1, (hb.cell (lt_of_cell q2)).trans q2⟩)
        clear hc hlen
        generalize wrAll (actsL X i) = V at *
        obtain ⟨c0, c1, c2⟩ := KC.out _ HF.out.bel
        go_wp2_with fail
        refine (d11 HE.out HF.out (X i) HL.out HSZ.out).mono ?_
        rintro x w2 ⟨rfl, hM⟩
        have HM := Lib.hid hM
        obtain ⟨e0, e1, e2⟩ := KC.out _ hM.bel
        clear hM c0 c1 c2
        go_wp2_with fail
        refine (d11n HM.out (X i) HSZ.out).mono ?_
        rintro x w3 ⟨rfl, hM⟩
        have HM3 := Lib.hid hM
        obtain ⟨f0, f1, f2⟩ := KC.out _ hM.bel
        clear hM e0 e1 e2
        go_wp2_with fail
        refine (d12 (X i) HM3.out HL.out HSZ.out).mono ?_
        rintro x w4 ⟨rfl, hF4⟩
        have HF4 := Lib.hid hF4
        clear hF4 f0 f1 f2 HM HM3
        go_wp2_with fail
        go_roundg (n - (i + 1))
        case rel => exact ⟨i + 1, rfl, hlt, by go_num, by rw [HW.out]; exact HF4.out⟩
        case measure => omega
      · obtain rfl : i = n := by omega
        generalize wrAll (actsL X i) = V at *
        obtain ⟨v, hw⟩ := HF.out.wo
        have HB := Lib.hid (wbytes_any hw)
        clear hw
        go_wp2_with fail
        refine HB.out.mono ?_
        rintro x w2 ⟨e, rfl, he, hb⟩
        have HF2 := Lib.hid (HF.out.below hb)
        have HX := Lib.hid he
        clear hb he HB
        go_wp2_with fail
        refine (nbytes _).mono ?_
        rintro x w3 ⟨rfl, rfl⟩
        have hi0 : FwE w w2 S w.heap.size gx V e := ⟨HF2.out, HX.out, HE.out.later HF2.out.bel⟩
        have hbad : V.no ≠ 0 → V.L = [] := fun h => by obtain ⟨v, hw⟩ := HF2.out.wo; exact (hw.bad h).2
        have HBAD := Lib.hid hbad
        have KT := Lib.hid (fun (W : World) (h : FwE w W S w.heap.size gx V e) => h.c1)
        have D14 := Lib.hid (fun (W : World) (h : FwE w W S w.heap.size gx V e) => e14 h)
        have t0 := KT.out _ hi0
        clear hbad HX HF2 HF HS HFW HA
        go_wp2_with fail
        go_region_held3 (fun W => W.cell? ⟨gx, 1, none⟩ = some (.int .i64 V.no))
          (first | assumption | (exact KT.out _ (by assumption)) | (exact KT.out _ (FwE.drewN (by assumption) 1)))
          ((go_at_call 14; (with_reducible refine (D14.out _ ?_).mono ?_); (first | assumption | exact FwE.drewN (by assumption) 1); rintro x w6 ⟨rfl, hi6⟩))
        have c1 := hi6.c1
        have HI6 := Lib.hid hi6
        clear hi6 t0 hi0 KT
        by_cases h0 : V.no = 0
        · have c0 := HI6.out.c0 h0
          go_wp2_with fail
          refine (e10 HI6.out).mono ?_
          rintro x w7 ⟨rfl, hi7⟩
          have HI7 := Lib.hid hi7.fw.bel
          clear hi7
          go_wp2_with fail
          go_ret
          exact ⟨rfl, HI7.out⟩
        · have z0 : ((V.no : Int) == 0) = false := beq_eq_false_iff_ne.2 (by omega)
          have hnil := HBAD.out h0
          have c2 := HI6.out.c2 h0
          have D15 := Lib.hid (fun (W : World) (h : FwE w W S w.heap.size gx V e) => e15 h0 h)
          have D16 := Lib.hid (fun (W : World) (h : FwE w W S w.heap.size gx V e) => e16 h0 h)
          have D10 := Lib.hid (fun (W : World) (h : FwE w W S w.heap.size gx V e) => e10 h)
          have KU := Lib.hid (fun (W : World) (h : FwE w W S w.heap.size gx V e) => h.c2 h0)
          go_wp2_with fail
          have hs0 : (⟨V.L.toArray⟩ : ByteArray) = ⟨#[]⟩ := by rw [hnil]
          rw [hs0]
          have hi0 := HI6.out
          clear hs0 hnil c1
          go_region_held3 (fun W => W.cell? ⟨gx, 2, none⟩ = some (.int .i64 V.at_))
            (first | assumption | (exact KU.out _ (by assumption)) | (exact KU.out _ (FwE.drewN (by assumption) 1)))
            (first
            | (go_at_call 15; (with_reducible refine (D15.out _ ?_).mono ?_); (first | assumption | exact FwE.drewN (by assumption) 1); rintro x w7 ⟨rfl, hi7⟩)
            | (go_at_call 16; (with_reducible refine (D16.out _ ?_).mono ?_); (first | assumption | exact FwE.drewN (by assumption) 1); rintro x w8 ⟨rfl, hi8⟩)
            | (go_at_call 10; (with_reducible refine (D10.out _ ?_).mono ?_); (first | assumption | exact FwE.drewN (by assumption) 1); rintro x w9 ⟨rfl, hi9⟩))
          have HI9 := Lib.hid hi9.fw.bel
          clear hi7 hi8 hi9 hi0 c2
          go_wp2_with fail
          go_ret
          exact ⟨rfl, HI9.out⟩
end Go.Proofs.YtfojoeafhdiaiaaDoor

/- What is proved here: FieldBack answers true for every fields, and wherever it is cut. Conditions: the argument is what a row says of it; what the rows list of the package's variables. -/
import Derived.Test.YtfojoeafhdiaiaaDoorLawA04
namespace Go.Proofs.YtfojoeafhdiaiaaDoor
set_option maxRecDepth 100000
open Go.RowKit Go.Extern.Stop Go.Stop Go.Extern
/-- May a field of this kind be written, and read? -/
def KOk (a : FV) : Prop := a.k = 1 ∨ a.k = 2 ∨ a.k = 4 ∨ a.k = 5 ∨ a.k = 6 ∨ a.k = 7
theorem acts_split (X : Nat → FV) {i n : Nat} (h : i < n) : ∃ rest, actsL X n = actsL X i ++ X i :: rest := by
  refine ⟨((List.range n).drop (i + 1)).map X, ?_⟩
  unfold actsL
  have h1 : List.range n = List.range i ++ i :: (List.range n).drop (i + 1) := by
    have h2 : (List.range n).drop i = i :: (List.range n).drop (i + 1) := by
      rw [List.drop_eq_getElem_cons (by rw [List.length_range]; exact h), List.getElem_range]
    have h3 : (List.range n).take i = List.range i := by
      rw [List.take_range, Nat.min_eq_left (Nat.le_of_lt h)]
    rw [← h2, ← h3, List.take_append_drop]
  rw [h1, List.map_append, List.map_cons, ← h1]
theorem cat_split (A B : List FV) (a : FV) : catE (A ++ a :: B) = catE A ++ ((encA a).L ++ catE B) := by rw [catE_app]; unfold catE; simp
theorem acts_all {X : Nat → FV} {n : Nat} {p : FV → Prop} (h : ∀ a ∈ actsL X n, p a) {i : Nat} (hi : i < n) : p (X i) := by
  obtain ⟨rest, e⟩ := acts_split X hi
  exact h _ (by rw [e]; simp)
/-- Behind some fields that were written. -/
structure Fb1 (w W : World) (S : Nat → Addr) (X : Nat → FV) (i : Nat) : Prop where
  wo : ∃ v, WObj W S w.heap.size w.heap.size v (wrAll (actsL X i))
  bel : Below w.heap.size w W
  ok : ∀ j, j < i → KOk (X j)
/-- A reader, where it is. -/
structure Fb2 (w W : World) (S : Nat → Addr) (gr : Nat) (s : ByteArray) (R : RV) : Prop where
  ro : RObj W S gr s R
  bel : Below w.heap.size w W
  low : w.heap.size ≤ gr
theorem Fb2.below {w W W' : World} {S : Nat → Addr} {gr : Nat} {s : ByteArray} {R : RV} (h : Fb2 w W S gr s R) (hb : Below W.heap.size W W') : Fb2 w W' S gr s R := ⟨h.ro.below hb, h.bel.trans (hb.mono h.bel.size), h.low⟩
theorem Fb2.next {w W W' : World} {S : Nat → Addr} {gr : Nat} {s : ByteArray} {R R' : RV} (h : Fb2 w W S gr s R) (hn : RNext W W' S gr s R') : Fb2 w W' S gr s R' := ⟨hn.obj, hn.later h.low h.bel.size h.bel, h.low⟩
def RdS (w : World) (S : Nat → Addr) (gr : Nat) (s : ByteArray) (q : Nat × ByteArray × RV) (x : Ending) (W' : World) : Prop := x = .returned (.tuple #[.int .i64 q.1, .string q.2.1]) ∧ Fb2 w W' S gr s q.2.2
theorem d18 {w W : World} {S : Nat → Addr} {gr : Nat} {s : ByteArray} {R : RV} (hE : Env w S) (h : Fb2 w W S gr s R) (hs : s.size ≤ 900000) (a : FV) (hk : KOk a) :
    Calls Tryd.prog 18 #[.pointer (some ⟨gr, 0, none⟩), .agg #[.int .i64 a.k, .int .i64 a.n, .string a.s]] W (RdS w S gr s (rdA a.k s R)) :=
  (read_any (env_cl hE h.bel h.low) h.ro hs a hk).mono fun _ _ hx => ⟨hx.1, h.next hx.2⟩
theorem cut_range {n : Int} (h : (Lit.int .u16 n).wf = true) : 0 ≤ n ∧ n ≤ 65535 := by
  simp [Lit.wf, IntKind.min, IntKind.max, IntKind.signed, IntKind.bits] at h
  omega
theorem kok_bools {a : FV} (h : KOk a) : decide (a.k < 1) = false ∧ decide (7 < a.k) = false ∧ (a.k == 3) = false := by
  unfold KOk at h
  refine ⟨decide_eq_false (by omega), decide_eq_false (by omega), beq_eq_false_iff_ne.2 (by omega)⟩
set_option maxHeartbeats 2000000 in
theorem fieldBack_walk (S : Nat → Addr) (A : Option Addr) (n c : Nat) (X : Nat → FV) (cut : Int) (w : World) (hE : Env w S) (hm : n ≤ maxLen) (h : ActsOf04 w A n X) (hcut : (Lit.int .u16 cut).wf = true) :
    Calls Tryd.prog 4 #[.slice A n c, .int .u16 cut] w fun x w' => x = .returned (.bool true) ∧ Below w.heap.size w w' := by
  have hm' : n ≤ 9223372036854775807 := by unfold maxLen at hm; omega
  clear hm
  have HFW := Lib.hid (few04_any n c X h hm')
  have HE := Lib.hid hE
  have HA := Lib.hid h
  clear h hE
  go_enter Tryd.func4, Tryd.ntmps4
  go_wp2_with fail
  refine HFW.out.mono ?_
  rintro x w1 ⟨⟨b, rfl, hb⟩, rfl⟩
  cases b
  · clear hb
    go_wp2_with fail
    refine (awake04 HE.out).mono ?_
    rintro x w2 ⟨rfl, hb⟩
    go_wp2
    go_ret
    exact ⟨rfl, hb⟩
  · obtain ⟨hn, hs⟩ := hb rfl
    have HS := Lib.hid hs
    clear hb hs HFW
    go_wp2_with fail
    have hst : Fb1 w (w.alloc (.cells #[.slice none 0 0, .nilIface] 30)) S X 0 :=
      ⟨⟨_, WObj.made w S (Nat.le_refl w.heap.size)⟩, (Below.refl _ _).alloc (Nat.le_refl _) _, fun j hj => absurd hj (by omega)⟩
    have HST := Lib.hid hst
    clear hst
    go_loopg [6] n (fun f x wr => ∃ i : Nat, f = n - i ∧ i ≤ n ∧ x = .int .i64 i ∧ Fb1 w wr S X i)
    case atStart => exact ⟨0, rfl, Nat.zero_le _, rfl, HST.out⟩
    case round =>
      obtain ⟨i, rfl, hi, rfl, hF⟩ := hrel
      have HF := Lib.hid hF
      clear hF
      by_cases hlt : i < n
      · obtain ⟨b, off, rfl, hc⟩ := HA.out.resolve_left (by omega)
        have hlen : (wrAll (actsL X i)).L.length ≤ 800000 := by
          have := wr_len (actsL X i) 200 fun a ha => by
            obtain ⟨j, hj, rfl⟩ := acts_mem ha
            exact HS.out j (by omega)
          rw [acts_len] at this
          omega
        have HL := Lib.hid hlen
        have HSZ := Lib.hid (show (X i).s.size ≤ 65535 by have := HS.out i hlt; omega)
        have KC := Lib.hid (fun (W : World) (hb : Below w.heap.size w W) => show W.cell? ⟨b, off + i * 3, none⟩ = some (.int .i64 (X i).k) ∧ W.cell? ⟨b, off + i * 3 + 1, none⟩ = some (.int .i64 (X i).n) ∧ W.cell? ⟨b, off + i * 3 + 2, none⟩ = some (.string (X i).s) from by
          obtain ⟨q0, q1, q2⟩ := hc i hlt
          exact ⟨(hb.cell (lt_of_cell q0)).trans q0, (hb.cell (lt_of_cell q1)).trans q1, (hb.cell (lt_of_cell q2)).trans q2⟩)
        clear hc hlen
        obtain ⟨c0, c1, c2⟩ := KC.out _ HF.out.bel
        by_cases hk : KOk (X i)
        · obtain ⟨b1, b7, b3⟩ := kok_bools hk
          have HK := Lib.hid hk
          clear hk
          go_wp2_with fail
          obtain ⟨v, hw⟩ := HF.out.wo
          refine (write_any (HE.out.later HF.out.bel) hw HL.out (X i) HSZ.out).mono ?_
          rintro x w2 ⟨rfl, v', hN⟩
          have HN := Lib.hid (show Fb1 w w2 S X (i + 1) from ⟨⟨v', by rw [wr_succ]; exact hN.obj⟩, hN.later hw HF.out.bel, fun j hj => by
            by_cases e : j = i
            · subst e; exact HK.out
            · exact HF.out.ok j (by omega)⟩)
          clear hN hw c0 c1 c2 b1 b7 b3
          go_wp2_with fail
          go_roundg (n - (i + 1))
          case rel => exact ⟨i + 1, rfl, hlt, by go_num, HN.out⟩
          case measure => omega
        · have hbad : (X i).k < 1 ∨ (1 ≤ (X i).k ∧ 7 < (X i).k) ∨ (1 ≤ (X i).k ∧ (X i).k ≤ 7 ∧ (X i).k = 3) := by unfold KOk at hk; omega
          have HB := Lib.hid HF.out.bel
          clear hk c1 c2 HF HST
          generalize (X i).k = kk at *
          rcases hbad with hk | ⟨hk0, hk⟩ | ⟨hk0, hk1, rfl⟩
          all_goals go_wp2_with fail
          all_goals refine (awake04 (HE.out.later HB.out)).mono ?_
          all_goals rintro x w2 ⟨rfl, hb⟩
          all_goals have HB2 := Lib.hid (HB.out.trans (hb.mono HB.out.size))
          all_goals clear hb
          all_goals go_wp2_with fail
          all_goals go_ret
          all_goals exact ⟨rfl, HB2.out⟩
      · obtain rfl : i = n := by omega
        have hwl : (wrAll (actsL X i)).L.length ≤ 900000 := by
          have := wr_len (actsL X i) 200 fun a ha => by
            obtain ⟨j, hj, rfl⟩ := acts_mem ha
            exact HS.out j hj
          rw [acts_len] at this
          omega
        have hwo : (wrAll (actsL X i)).no = 0 → (wrAll (actsL X i)).L = catE (actsL X i) ∧ ∀ j, j < i → OkA (X j) := fun h0 => by
          obtain ⟨h1, h2⟩ := wr_ok _ h0
          exact ⟨h1, fun j hj => ⟨HF.out.ok j hj, acts_all h2 hj, by have := HS.out j hj; omega⟩⟩
        have HWO := Lib.hid hwo
        have HWL := Lib.hid hwl
        clear hwo hwl
        have hF := HF.out
        obtain ⟨v, hw⟩ := hF.wo
        have hbad : (wrAll (actsL X i)).no ≠ 0 → (wrAll (actsL X i)).L = [] := fun h => (hw.bad h).2
        have HBAD := Lib.hid hbad
        have HB := Lib.hid (wbytes_any hw)
        have HBL := Lib.hid hF.bel
        have HOK := Lib.hid hF.ok
        clear hw hF HF HST hbad
        generalize wrAll (actsL X i) = V at *
        go_wp2_with fail
        refine HB.out.mono ?_
        rintro x w2 ⟨e, rfl, he, hb⟩
        have HB2 := Lib.hid (HBL.out.trans (hb.mono HBL.out.size))
        clear hb HB HBL
        by_cases h0 : V.no = 0
        · unfold ErrOf at he
          rw [if_pos h0] at he
          subst he
          obtain ⟨hL, hok⟩ := HWO.out h0
          have hsz : (⟨V.L.toArray⟩ : ByteArray).size = V.L.length := bsize _
          have hdl : (⟨V.L.toArray⟩ : ByteArray).data.toList = catE (actsL X i) := by rw [← hL]
          have hsl : (⟨V.L.toArray⟩ : ByteArray).size ≤ 900000 := by rw [hsz]; exact HWL.out
          have hsc : (⟨V.L.toArray⟩ : ByteArray).size = (catE (actsL X i)).length := by rw [hsz, hL]
          have HOKA := Lib.hid hok
          clear hL hok hsz HWL HWO HBAD h0
          generalize (⟨V.L.toArray⟩ : ByteArray) = s at *
          have HDL := Lib.hid hdl
          have HSC := Lib.hid hsc
          have HSL := Lib.hid hsl
          clear hdl hsc
          go_wp2_with fail
          refine (rnew_any s _).mono ?_
          rintro x w3 ⟨rfl, rfl⟩
          have hst2 : Fb2 w (w2.alloc (.cells #[.string s, .int .i64 0, .nilIface] 101)) S w2.heap.size s ⟨(catE (actsL X 0)).length, 0, 0⟩ := ⟨RObj.made w2 S s, HB2.out.alloc HB2.out.size _, HB2.out.size⟩
          have HST2 := Lib.hid hst2
          clear hst2
          generalize w2.alloc (.cells #[.string s, .int .i64 0, .nilIface] 101) = w3 at *
          generalize w2.heap.size = gr at *
          go_wp2_with fail
          go_loopg [10] i (fun f x wr => ∃ k : Nat, f = i - k ∧ k ≤ i ∧ x = .int .i64 k ∧ Fb2 w wr S gr s ⟨(catE (actsL X k)).length, 0, 0⟩)
          case atStart => exact ⟨0, rfl, Nat.zero_le _, rfl, HST2.out⟩
          case round =>
            obtain ⟨k, rfl, hk, rfl, hF⟩ := hrel
            have HF := Lib.hid hF
            clear hF HST2
            by_cases hlt2 : k < i
            · obtain ⟨b, off, rfl, hc⟩ := HA.out.resolve_left (by omega)
              have KC := Lib.hid (fun (W : World) (hb : Below w.heap.size w W) => show W.cell? ⟨b, off + k * 3, none⟩ = some (.int .i64 (X k).k) ∧ W.cell? ⟨b, off + k * 3 + 1, none⟩ = some (.int .i64 (X k).n) ∧ W.cell? ⟨b, off + k * 3 + 2, none⟩ = some (.string (X k).s) from by
                obtain ⟨q0, q1, q2⟩ := hc k hlt2
                exact ⟨(hb.cell (lt_of_cell q0)).trans q0, (hb.cell (lt_of_cell q1)).trans q1, (hb.cell (lt_of_cell q2)).trans q2⟩)
              clear hc
              obtain ⟨rest, hsp⟩ := acts_split X hlt2
              have hd2 := HDL.out
              rw [hsp, cat_split] at hd2
              obtain ⟨N, T, hrd, hN, hT⟩ := rd_enc (HOKA.out k hlt2) hd2 0
              have hcat : (catE (actsL X (k + 1))).length = (catE (actsL X k)).length + (encA (X k)).L.length := by rw [acts_succ, catE_snoc, List.length_append]
              have HCAT := Lib.hid hcat
              have hd := d18 HE.out HF.out HSL.out (X k) (HOK.out k hlt2)
              rw [hrd, ← hcat] at hd
              have HD := Lib.hid hd
              have hkk := HOK.out k hlt2
              clear hsp hd2 hrd hcat hd
              obtain ⟨c0, c1, c2⟩ := KC.out _ HF.out.bel
              go_wp2_with fail
              refine HD.out.mono ?_
              rintro x w4 ⟨rfl, hF4⟩
              have HF4 := Lib.hid hF4
              clear hF4 HD c0 c1 c2
              obtain ⟨c0, c1, c2⟩ := KC.out _ HF4.out.bel
              clear KC HCAT HF
              by_cases h6 : (X k).k < 6
              · have hn6 := hN h6
                have g5 : decide (5 < (X k).k) = false := decide_eq_false (by omega)
                clear hN hT hkk
                generalize (X k).k = xk at *
                generalize (X k).n = xn at *
                subst hn6
                go_wp2_with fail
                go_roundg (i - (k + 1))
                case rel => exact ⟨k + 1, rfl, hlt2, by go_num, HF4.out⟩
                case measure => omega
              · have h5 : 5 < (X k).k := by unfold KOk at hkk; omega
                have ht := hT h5
                have g6 : decide ((X k).k < 6) = false := decide_eq_false h6
                clear hN hT hkk
                generalize (X k).k = xk at *
                generalize (X k).s = xs at *
                subst ht
                go_wp2_with fail
                go_roundg (i - (k + 1))
                case rel => exact ⟨k + 1, rfl, hlt2, by go_num, HF4.out⟩
                case measure => omega
            · obtain rfl : k = i := by omega
              have hp : (catE (actsL X k)).length = s.size := HSC.out.symm
              have h1 := rdone_end HF.out.ro rfl (by have := HSL.out; omega) hp
              have H1 := Lib.hid h1
              have HSC2 := Lib.hid hp
              clear h1 hp
              go_wp2_with fail
              refine H1.out.mono ?_
              rintro x w4 ⟨rfl, hb4⟩
              have HF4 := Lib.hid (HF.out.below hb4)
              have h2 := rleft_any HF4.out.ro (by have := HSL.out; omega)
              have e0 : s.size - (catE (actsL X k)).length = 0 := by have := HSC2.out; omega
              simp only [e0] at h2
              have H2 := Lib.hid h2
              clear h2 hb4 H1 HF e0
              go_wp2_with fail
              refine H2.out.mono ?_
              rintro x w5 ⟨rfl, hb5⟩
              have HB5 := Lib.hid (HF4.out.bel.trans (hb5.mono HF4.out.bel.size))
              clear hb5 H2 HF4
              by_cases hz : s.size = 0
              · go_wp2_with fail
                refine (awake04 (HE.out.later HB5.out)).mono ?_
                rintro x w6 ⟨rfl, hb⟩
                have HB6 := Lib.hid (HB5.out.trans (hb.mono HB5.out.size))
                clear hb
                go_wp2_with fail
                go_ret
                exact ⟨rfl, HB6.out⟩
              · have hc0 : 0 ≤ cut ∧ cut ≤ 65535 := cut_range hcut
                obtain ⟨cu, rfl⟩ : ∃ cu : Nat, cut = (cu : Int) := ⟨cut.toNat, by omega⟩
                have hml : cu % s.size < s.size := Nat.mod_lt _ (by omega)
                have hne : ((s.size : Int) == 0) = false := beq_eq_false_iff_ne.2 (by omega)
                have hw : wrap64 (cu : Int) = (cu : Int) := by unfold wrap64; omega
                have hq : (wrap64 (cu : Int)).tmod (s.size : Int) = ((cu % s.size : Nat) : Int) := by rw [hw]; exact (Int.ofNat_tmod cu s.size).symm
                clear hcut hc0 hw
                generalize cu % s.size = m at *
                have hdm : (s.extract 0 m).data.toList = (catE (actsL X k)).take m := by rw [ext_list, HDL.out]; simp
                have HDM := Lib.hid hdm
                have HML := Lib.hid (show m < (catE (actsL X k)).length by have := HSC2.out; omega)
                have HMZ := Lib.hid (show (s.extract 0 m).size ≤ 900000 by have := HSL.out; simp; omega)
                clear hdm
                go_wp2_with fail
                refine (rnew_any (s.extract 0 m) _).mono ?_
                rintro x w6 ⟨rfl, rfl⟩
                generalize s.extract 0 m = sc at *
                have hst3 : Fb2 w (w5.alloc (.cells #[.string sc, .int .i64 0, .nilIface] 101)) S w5.heap.size sc ⟨0, 0, 0⟩ := ⟨RObj.made w5 S sc, HB5.out.alloc HB5.out.size _, HB5.out.size⟩
                have HST3 := Lib.hid hst3
                clear hst3
                generalize w5.alloc (.cells #[.string sc, .int .i64 0, .nilIface] 101) = w6 at *
                generalize w5.heap.size = gc at *
                go_wp2_with fail
                go_loopg [14] k (fun f x wr => ∃ j : Nat, ∃ R : RV, f = k - j ∧ j ≤ k ∧ x = .int .i64 j ∧ Fb2 w wr S gc sc R ∧ CutAt m (actsL X j) R)
                case atStart => exact ⟨0, ⟨0, 0, 0⟩, rfl, Nat.zero_le _, rfl, HST3.out, .inr ⟨rfl, rfl, Nat.zero_le _⟩⟩
                case round =>
                  obtain ⟨j, R, rfl, hj, rfl, hF, hC⟩ := hrel
                  have HF := Lib.hid hF
                  have HC := Lib.hid hC
                  clear hF hC HST3
                  by_cases hlt3 : j < k
                  · obtain ⟨b, off, rfl, hc⟩ := HA.out.resolve_left (by omega)
                    have KC := Lib.hid (fun (W : World) (hb : Below w.heap.size w W) => show W.cell? ⟨b, off + j * 3, none⟩ = some (.int .i64 (X j).k) ∧ W.cell? ⟨b, off + j * 3 + 1, none⟩ = some (.int .i64 (X j).n) ∧ W.cell? ⟨b, off + j * 3 + 2, none⟩ = some (.string (X j).s) from by
                      obtain ⟨q0, q1, q2⟩ := hc j hlt3
                      exact ⟨(hb.cell (lt_of_cell q0)).trans q0, (hb.cell (lt_of_cell q1)).trans q1, (hb.cell (lt_of_cell q2)).trans q2⟩)
                    clear hc
                    obtain ⟨rest, hsp⟩ := acts_split X hlt3
                    have hd2 := HDM.out
                    rw [hsp] at hd2
                    have hst := cut_step (HOKA.out j hlt3) hd2 HC.out
                    rw [← acts_succ] at hst
                    have HN := Lib.hid hst
                    have HD := Lib.hid (d18 HE.out HF.out HMZ.out (X j) (HOK.out j hlt3))
                    clear hsp hd2 hst
                    generalize rdA (X j).k sc R = q at *
                    obtain ⟨c0, c1, c2⟩ := KC.out _ HF.out.bel
                    go_wp2_with fail
                    refine HD.out.mono ?_
                    rintro x w7 ⟨rfl, hF7⟩
                    have HF7 := Lib.hid hF7
                    clear hF7 HD c0 c1 c2
                    go_wp2_with fail
                    go_roundg (k - (j + 1))
                    case rel => exact ⟨j + 1, _, rfl, hlt3, by go_num, HF7.out, HN.out⟩
                    case measure => omega
                  · obtain rfl : j = k := by omega
                    have hno := cut_end HC.out HML.out
                    go_wp2_with fail
                    refine (rerr_any HF.out.ro).mono ?_
                    rintro x w7 ⟨e, rfl, he, rfl⟩
                    rw [hno] at he
                    have HX := Lib.hid he
                    clear he
                    go_wp2_with fail
                    refine (number_of (HE.out.later HF.out.bel) HX.out).mono ?_
                    rintro x w8 ⟨rfl, hb⟩
                    have HB8 := Lib.hid (HF.out.bel.trans (hb.mono HF.out.bel.size))
                    clear hb
                    go_wp2_with fail
                    refine (awake04 (HE.out.later HB8.out)).mono ?_
                    rintro x w9 ⟨rfl, hb⟩
                    have HB9 := Lib.hid (HB8.out.trans (hb.mono HB8.out.size))
                    clear hb
                    go_wp2_with fail
                    go_ret
                    exact ⟨rfl, HB9.out⟩
        · have z0 := HBAD.out h0
          obtain ⟨t, u, rfl⟩ := err_iface he h0
          have hs0 : (⟨V.L.toArray⟩ : ByteArray) = ⟨#[]⟩ := by rw [z0]
          rw [hs0]
          clear he z0 hs0
          go_wp2_with fail
          refine (awake04 (HE.out.later HB2.out)).mono ?_
          rintro x w3 ⟨rfl, hb⟩
          have HB3 := Lib.hid (HB2.out.trans (hb.mono HB2.out.size))
          clear hb
          go_wp2_with fail
          go_ret
          exact ⟨rfl, HB3.out⟩
end Go.Proofs.YtfojoeafhdiaiaaDoor

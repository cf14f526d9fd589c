/- What is proved here: ShareIs answers true for every text and share. Conditions: the two errors that utf.Check names are errors. -/
import Derived.Test.YtdaicjplmnpooaaDoorRefP17
namespace Go.Proofs.YtdaicjplmnpooaaDoor
open Go.RowKit Go.Extern.Stop Go.Stop Go.Extern
/-- The three shares where they lie, and everything older as it was. -/
structure Three17 (w0 w : World) (gx gy gz : Nat) (cx cy : Array Value) : Prop where
  old : Below w0.heap.size w0 w
  x : Blk w gx 59 cx
  y : Blk w gy 59 cy
  z : Blk w gz 59 cy
section
variable {S : Nat → Addr} {w w0 w' : World} {gx gy gz : Nat} {cx cy : Array Value}
theorem Three17.drew (h : Three17 w0 w gx gy gz cx cy) : Three17 w0 w.drew gx gy gz cx cy := ⟨h.old.drew, h.x.drew, h.y.drew, h.z.drew⟩
theorem Three17.next (h : Three17 w0 w gx gy gz cx cy) (hb : Below w.heap.size w w') : Three17 w0 w' gx gy gz cx cy := ⟨h.old.trans (hb.mono h.old.size), h.x.below hb h.x.lt, h.y.below hb h.y.lt, h.z.below hb h.z.lt⟩
theorem Three17.cells {b pb : Bool} {g f pg pf : ByteArray} (h : Three17 w0 w gx gy gz #[.bool b, .string g, .string f] #[.bool pb, .string pg, .string pf]) :
    w.cell? ⟨gx, 0, none⟩ = some (.bool b) ∧ w.cell? ⟨gx, 1, none⟩ = some (.string g) ∧ w.cell? ⟨gx, 2, none⟩ = some (.string f) ∧ w.cell? ⟨gy, 0, none⟩ = some (.bool pb) ∧ w.cell? ⟨gy, 1, none⟩ = some (.string pg) ∧ w.cell? ⟨gy, 2, none⟩ = some (.string pf) ∧
    w.cell? ⟨gz, 0, none⟩ = some (.bool pb) ∧ w.cell? ⟨gz, 1, none⟩ = some (.string pg) ∧ w.cell? ⟨gz, 2, none⟩ = some (.string pf) :=
  ⟨h.x.cell 0, h.x.cell 1, h.x.cell 2, h.y.cell 0, h.y.cell 1, h.y.cell 2, h.z.cell 0, h.z.cell 1, h.z.cell 2⟩
set_option maxHeartbeats 2000000 in
theorem shareIs_walk (S : Nat → Addr) (a : ByteArray) (b : Bool) (g f : ByteArray) (w : World) (he : EnvT w S) (hs : a.size ≤ maxLen) (hs2 : g.size ≤ maxLen) (hs3 : f.size ≤ maxLen) : Calls Tryd.prog 9 #[.string a, .agg #[.bool b, .string g, .string f]] w fun x w' => x = .returned (.bool true) ∧ Below w.heap.size w w' := by
  unfold maxLen at hs hs2 hs3
  have E := Lib.hid (fun w' (hb : Below w.heap.size w w') => he.later hb)
  have C8 := Lib.hid (fun w' (hb : Below w.heap.size w w') => awake17 (E.out w' hb))
  by_cases hb : 300 < a.size
  · clear he
    go_enter Tryd.func9, Tryd.ntmps9
    go_wp2_with fail
    refine (C8.out _ ((Below.refl _ _).alloc (Nat.le_refl _) _)).mono ?_
    rintro x w1 ⟨rfl, hb⟩
    have B1 := Lib.hid (((Below.refl w.heap.size w).alloc (Nat.le_refl _) _).trans (hb.mono (by simp)))
    clear hb
    go_wp2_with fail
    go_ret
    exact ⟨rfl, B1.out⟩
  · have ha : a.size ≤ 300 := by omega
    have FW := Lib.hid (fun w => few_any (w := w) b g f hs2 hs3)
    cases hfw : (decide (g.size ≤ 200) && decide (f.size ≤ 200)) with
    | false =>
      rw [hfw] at FW
      clear he hb hfw
      go_enter Tryd.func9, Tryd.ntmps9
      go_wp2_with fail
      refine (FW.out _).mono ?_
      rintro x w1 ⟨rfl, hb⟩
      have B1 := Lib.hid (((Below.refl w.heap.size w).alloc (Nat.le_refl _) _).trans (hb.mono (by simp)))
      clear hb
      go_wp2_with fail
      refine (C8.out _ B1.out).mono ?_
      rintro x w2 ⟨rfl, hb⟩
      have B2 := Lib.hid (B1.out.trans (hb.mono B1.out.size))
      clear hb
      go_wp2_with fail
      go_ret
      exact ⟨rfl, B2.out⟩
    | true =>
      have hg2 : g.size ≤ 200 ∧ f.size ≤ 200 := by simpa using hfw
      obtain ⟨hg2, hf2⟩ := hg2
      rw [hfw] at FW
      have T1 := Lib.hid (fun w => text_any (w := w) b g f (by omega) (by omega))
      have T2 := Lib.hid (fun w => rtext_any (w := w) b g f (by omega) (by omega))
      have K1 := Lib.hid (fun w => key_any (w := w) 43 (.inl rfl) b g f (by omega) (by omega))
      have K2 := Lib.hid (fun w => key_any (w := w) 44 (.inr rfl) b g f (by omega) (by omega))
      have S1 := Lib.hid (fun w => strategy_any (w := w) a)
      have S2 := Lib.hid (fun w => rstrategy_any (w := w) a (by omega))
      have S3 := Lib.hid (fun w => strategy_any (w := w) g)
      have S4 := Lib.hid (fun w => rstrategy_any (w := w) g (by omega))
      have htx : (textOf b g f).size ≤ 500 := by
        have h1 : (sShare ++ (g ++ ⟨#[47]⟩ ++ f)).size ≤ 500 := by
          rw [← ls_size, ls_app, ls_app, ls_app]
          simp only [List.length_append, ls_size]
          show 7 + (g.size + 1 + f.size) ≤ 500
          omega
        cases b
        · show f.size ≤ 500; omega
        · exact h1
      have hky : (g ++ ⟨#[47]⟩ ++ f).size ≤ 500 := by
        rw [← ls_size, ls_app, ls_app]
        simp only [List.length_append, ls_size]
        show g.size + 1 + f.size ≤ 500
        omega
      have hsa := strat_bd (ls a)
      have hsg := strat_bd (ls g)
      generalize textOf b g f = tx at *
      generalize g ++ ⟨#[47]⟩ ++ f = kx at *
      generalize strat (ls a) = na at *
      generalize strat (ls g) = ng at *
      have CP := Lib.hid (fun w' (hb : Below w.heap.size w w') => parse_any a (by omega) (E.out w' hb))
      have CR := Lib.hid (fun w' => rparse_any (w := w') a (by omega))
      unfold ParseSays at CP CR
      generalize parse17 a = pa at *
      obtain ⟨⟨pb, pg, pf⟩, po⟩ := pa
      dsimp only at CP CR
      generalize bs pg = pg' at *
      generalize bs pf = pf' at *
      clear he hb hfw
      go_enter Tryd.func9, Tryd.ntmps9
      go_wp2_with fail
      refine (FW.out _).mono ?_
      rintro x w1 ⟨rfl, hb⟩
      have B1 := Lib.hid (((Below.refl w.heap.size w).alloc (Nat.le_refl _) _).trans (hb.mono (by simp)))
      have hkx := (Blk.made w 59 #[.bool b, .string g, .string f]).below hb (by simp)
      obtain ⟨gx, hgx⟩ : ∃ gx, gx = w.heap.size := ⟨_, rfl⟩
      rw [← hgx] at hkx ⊢
      have HX := Lib.hid hkx
      clear hb hkx hgx
      go_wp2_with fail
      refine (CP.out _ B1.out).mono ?_
      rintro x w2 ⟨rfl, hb⟩
      have B2 := Lib.hid ((B1.out.trans (hb.mono B1.out.size)).alloc (B1.out.trans (hb.mono B1.out.size)).size (.cells #[.bool pb, .string pg', .string pf'] 59))
      have hkx := (HX.out.below hb HX.out.lt)
      have hkx2 := Lib.hid (hkx.below ((Below.refl w2.heap.size w2).alloc (Nat.le_refl _) (.cells #[.bool pb, .string pg', .string pf'] 59)) hkx.lt)
      have HY := Lib.hid (Blk.made w2 59 #[.bool pb, .string pg', .string pf'])
      clear hkx HX hb
      go_wp2_with fail
      obtain ⟨gy, hgy⟩ : ∃ gy, gy = w2.heap.size := ⟨_, rfl⟩
      rw [← hgy] at HY ⊢
      generalize w2.alloc (.cells #[.bool pb, .string pg', .string pf'] 59) = wA at *
      clear hgy
      refine (CR.out _).mono ?_
      rintro x w3 ⟨rfl, hb⟩
      have hTT : Three17 w (w3.alloc (.cells #[.bool pb, .string pg', .string pf'] 59)) gx gy w3.heap.size #[.bool b, .string g, .string f] #[.bool pb, .string pg', .string pf'] := by
        have h1 := hkx2.out.below hb hkx2.out.lt
        have h2 := HY.out.below hb HY.out.lt
        have h3 := B2.out.trans (hb.mono B2.out.size)
        exact ⟨h3.alloc h3.size _, h1.alloc _, h2.alloc _, Blk.made w3 59 _⟩
      have TT := Lib.hid hTT
      clear hb hTT HY hkx2 B2 B1
      go_wp2_with fail
      have hT := TT.out
      clear TT
      generalize w3.alloc (.cells #[.bool pb, .string pg', .string pf'] 59) = wB at *
      generalize w3.heap.size = gz at *
      have C1 := Lib.hid (fun W (h : Three17 w W gx gy gz #[.bool b, .string g, .string f] #[.bool pb, .string pg', .string pf']) => (T1.out W).mono fun _ _ ⟨e, hb⟩ => And.intro e (h.next hb))
      have C2 := Lib.hid (fun W (h : Three17 w W gx gy gz #[.bool b, .string g, .string f] #[.bool pb, .string pg', .string pf']) => (T2.out W).mono fun _ _ ⟨e, hb⟩ => And.intro e (h.next hb))
      have C3 := Lib.hid (fun W (h : Three17 w W gx gy gz #[.bool b, .string g, .string f] #[.bool pb, .string pg', .string pf']) => (K1.out W).mono fun _ _ ⟨e, hb⟩ => And.intro e (h.next hb))
      have C4 := Lib.hid (fun W (h : Three17 w W gx gy gz #[.bool b, .string g, .string f] #[.bool pb, .string pg', .string pf']) => (K2.out W).mono fun _ _ ⟨e, hb⟩ => And.intro e (h.next hb))
      have C9 := Lib.hid (fun W (h : Three17 w W gx gy gz #[.bool b, .string g, .string f] #[.bool pb, .string pg', .string pf']) => (C8.out W h.old).mono fun _ _ ⟨e, hb⟩ => And.intro e (h.next hb))
      have KS := Lib.hid (fun W (h : Three17 w W gx gy gz #[.bool b, .string g, .string f] #[.bool pb, .string pg', .string pf']) => h.cells)
      have hS := hT.cells
      clear T1 T2 K1 K2 C8 E CP CR FW hs hs2 hs3
      go_region_held3 (fun W => W.cell? ⟨gx, 0, none⟩ = some (.bool b) ∧ W.cell? ⟨gx, 1, none⟩ = some (.string g) ∧ W.cell? ⟨gx, 2, none⟩ = some (.string f) ∧ W.cell? ⟨gy, 0, none⟩ = some (.bool pb) ∧ W.cell? ⟨gy, 1, none⟩ = some (.string pg') ∧ W.cell? ⟨gy, 2, none⟩ = some (.string pf') ∧
          W.cell? ⟨gz, 0, none⟩ = some (.bool pb) ∧ W.cell? ⟨gz, 1, none⟩ = some (.string pg') ∧ W.cell? ⟨gz, 2, none⟩ = some (.string pf'))
        (first | assumption | (exact KS.out _ (by assumption)))
        (first
          | (go_at_call_of 41 (Value.agg #[.bool b, .string g, .string f]); (with_reducible refine (C1.out _ ?_).mono ?_); (first | assumption | exact Three17.drew (by assumption)); rintro x w6 ⟨rfl, hd6⟩)
          | (go_at_call_of 42 (Value.agg #[.bool b, .string g, .string f]); (with_reducible refine (C2.out _ ?_).mono ?_); (first | assumption | exact Three17.drew (by assumption)); rintro x w6 ⟨rfl, hd6⟩)
          | (go_at_call_of 43 (Value.agg #[.bool b, .string g, .string f]); (with_reducible refine (C3.out _ ?_).mono ?_); (first | assumption | exact Three17.drew (by assumption)); rintro x w6 ⟨rfl, hd6⟩)
          | (go_at_call_of 44 (Value.agg #[.bool b, .string g, .string f]); (with_reducible refine (C4.out _ ?_).mono ?_); (first | assumption | exact Three17.drew (by assumption)); rintro x w6 ⟨rfl, hd6⟩)
          | (go_at_call_of 45 (Value.string a); (with_reducible refine (S1.out _).mono ?_); rintro x w6 ⟨rfl, rfl⟩)
          | (go_at_call_of 46 (Value.string a); (with_reducible refine (S2.out _).mono ?_); rintro x w6 ⟨rfl, rfl⟩)
          | (go_at_call_of 45 (Value.string g); (with_reducible refine (S3.out _).mono ?_); rintro x w6 ⟨rfl, rfl⟩)
          | (go_at_call_of 46 (Value.string g); (with_reducible refine (S4.out _).mono ?_); rintro x w6 ⟨rfl, rfl⟩)
          | (go_at_call 38; (with_reducible refine (C9.out _ ?_).mono ?_); (first | assumption | exact Three17.drew (by assumption)); rintro x w6 ⟨rfl, hd6⟩))
      have HD6 := Lib.hid hd6
      clear hS hT C1 C2 C3 C4 C9 KS
      go_wp2_with fail
      go_ret
      exact ⟨rfl, HD6.out.old⟩
end
end Go.Proofs.YtdaicjplmnpooaaDoor

/- What is proved here: ShareKeys answers true for every two texts. Conditions: the two errors that utf.Check names are errors. -/
import Derived.Test.YtdaicjplmnpooaaDoorLawT17
namespace Go.Proofs.YtdaicjplmnpooaaDoor
open Go.RowKit Go.Extern.Stop Go.Stop Go.Extern
/-- Both shares where they lie, and everything older as it was. -/
structure Two17 (w0 w : World) (gx gy : Nat) (ga fa gb fb : ByteArray) : Prop where
  old : Below w0.heap.size w0 w
  x : Blk w gx 59 #[.bool true, .string ga, .string fa]
  y : Blk w gy 59 #[.bool true, .string gb, .string fb]
section
variable {S : Nat → Addr} {w w0 w' : World} {gx gy : Nat} {ga fa gb fb : ByteArray}
theorem Two17.drew (h : Two17 w0 w gx gy ga fa gb fb) : Two17 w0 w.drew gx gy ga fa gb fb := ⟨h.old.drew, h.x.drew, h.y.drew⟩
theorem Two17.next (h : Two17 w0 w gx gy ga fa gb fb) (hb : Below w.heap.size w w') : Two17 w0 w' gx gy ga fa gb fb := ⟨h.old.trans (hb.mono h.old.size), h.x.below hb h.x.lt, h.y.below hb h.y.lt⟩
theorem Two17.cells (h : Two17 w0 w gx gy ga fa gb fb) : w.cell? ⟨gx, 0, none⟩ = some (.bool true) ∧ w.cell? ⟨gx, 1, none⟩ = some (.string ga) ∧ w.cell? ⟨gx, 2, none⟩ = some (.string fa) ∧ w.cell? ⟨gy, 0, none⟩ = some (.bool true) ∧ w.cell? ⟨gy, 1, none⟩ = some (.string gb) ∧ w.cell? ⟨gy, 2, none⟩ = some (.string fb) :=
  ⟨h.x.cell 0, h.x.cell 1, h.x.cell 2, h.y.cell 0, h.y.cell 1, h.y.cell 2⟩
theorem key_one {ga fa gb fb : BL} {a b : ByteArray} (ea : ls a = [36, 115, 104, 97, 114, 101, 47] ++ (ga ++ 47 :: fa)) (eb : ls b = [36, 115, 104, 97, 114, 101, 47] ++ (gb ++ 47 :: fb)) :
    (bs ga ++ ⟨#[47]⟩ ++ bs fa = bs gb ++ ⟨#[47]⟩ ++ bs fb) ↔ a = b := by
  have hx : ∀ g f : BL, bs g ++ ⟨#[47]⟩ ++ bs f = bs (g ++ 47 :: f) := fun g f => by
    rw [← bs_ls (bs g ++ ⟨#[47]⟩ ++ bs f), ls_app, ls_app, ls_bs, ls_bs, List.append_assoc]
    rfl
  rw [hx, hx, ← bs_ls a, ← bs_ls b, ea, eb]
  constructor
  · intro h
    have := congrArg ls h
    rw [ls_bs, ls_bs] at this
    rw [this]
  · intro h
    have := congrArg ls h
    rw [ls_bs, ls_bs] at this
    rw [List.append_cancel_left this]
set_option maxHeartbeats 2000000 in
theorem shareKeys_walk (S : Nat → Addr) (a b : ByteArray) (w : World) (he : EnvT w S) (hs : a.size ≤ maxLen) (hs2 : b.size ≤ maxLen) : Calls Tryd.prog 11 #[.string a, .string b] w fun x w' => x = .returned (.bool true) ∧ Below w.heap.size w w' := by
  unfold maxLen at hs hs2
  have E := Lib.hid (fun w' (hb : Below w.heap.size w w') => he.later hb)
  have C8 := Lib.hid (fun w' (hb : Below w.heap.size w w') => awake17 (E.out w' hb))
  have hcases : 300 < a.size ∨ (a.size ≤ 300 ∧ 300 < b.size) ∨ (a.size ≤ 300 ∧ b.size ≤ 300) := by omega
  rcases hcases with hb | ⟨hb, hb2⟩ | ⟨hsa, hsb⟩
  · clear he
    go_enter Tryd.func11, Tryd.ntmps11
    go_wp2_with fail
    refine (C8.out _ (Below.refl _ _)).mono ?_
    rintro x w1 ⟨rfl, hb⟩
    go_wp2_with fail
    go_ret
    exact ⟨rfl, hb⟩
  · clear he
    go_enter Tryd.func11, Tryd.ntmps11
    go_wp2_with fail
    refine (C8.out _ (Below.refl _ _)).mono ?_
    rintro x w1 ⟨rfl, hb⟩
    go_wp2_with fail
    go_ret
    exact ⟨rfl, hb⟩
  · have CP1 := Lib.hid (parse_any a (by omega) he)
    have CP2 := Lib.hid (fun w' (hb : Below w.heap.size w w') => parse_any b (by omega) (E.out w' hb))
    unfold ParseSays at CP1 CP2
    clear he
    have hca := parse_cases a
    have hcb := parse_cases b
    generalize parse17 a = pa at *
    generalize parse17 b = pb at *
    obtain ⟨⟨ba, ga, fa⟩, oa⟩ := pa
    obtain ⟨⟨bb, gb, fb⟩, ob⟩ := pb
    dsimp only at CP1 CP2
    by_cases hall : oa = true ∧ ob = true ∧ ba = true ∧ bb = true
    · obtain ⟨rfl, rfl, rfl, rfl⟩ := hall
      have ea : ls a = [36, 115, 104, 97, 114, 101, 47] ++ (ga ++ 47 :: fa) := by
        rcases hca with h | ⟨h, _⟩ | ⟨g, f, h, h2, _⟩
        · cases h
        · cases h
        · cases h; exact h2
      have eb : ls b = [36, 115, 104, 97, 114, 101, 47] ++ (gb ++ 47 :: fb) := by
        rcases hcb with h | ⟨h, _⟩ | ⟨g, f, h, h2, _⟩
        · cases h
        · cases h
        · cases h; exact h2
      have hla : a.size = 7 + (ga.length + (fa.length + 1)) := by rw [← ls_size, ea]; simp; omega
      have hlb : b.size = 7 + (gb.length + (fb.length + 1)) := by rw [← ls_size, eb]; simp; omega
      have K1 := Lib.hid (fun w => key_any (w := w) 43 (.inl rfl) true (bs ga) (bs fa) (by rw [bs_size]; omega) (by rw [bs_size]; omega))
      have K2 := Lib.hid (fun w => key_any (w := w) 43 (.inl rfl) true (bs gb) (bs fb) (by rw [bs_size]; omega) (by rw [bs_size]; omega))
      have hk1 : (bs ga ++ ⟨#[47]⟩ ++ bs fa).size ≤ 300 := by rw [← ls_size, ls_app, ls_app, ls_bs, ls_bs]; simp; show ga.length + (1 + fa.length) ≤ _ ; omega
      have hk2 : (bs gb ++ ⟨#[47]⟩ ++ bs fb).size ≤ 300 := by rw [← ls_size, ls_app, ls_app, ls_bs, ls_bs]; simp; show gb.length + (1 + fb.length) ≤ _ ; omega
      have hkey : (bs ga ++ ⟨#[47]⟩ ++ bs fa = bs gb ++ ⟨#[47]⟩ ++ bs fb) ↔ a = b := key_one ea eb
      clear hca hcb ea eb hla hlb
      generalize bs ga ++ ⟨#[47]⟩ ++ bs fa = ka at *
      generalize bs gb ++ ⟨#[47]⟩ ++ bs fb = kb at *
      generalize bs ga = ga' at *
      generalize bs fa = fa' at *
      generalize bs gb = gb' at *
      generalize bs fb = fb' at *
      go_enter Tryd.func11, Tryd.ntmps11
      go_wp2_with fail
      refine (CP1.out).mono ?_
      rintro x w1 ⟨rfl, hb⟩
      have B1 := Lib.hid (hb.alloc hb.size (.cells #[.bool true, .string ga', .string fa'] 59))
      clear hb
      go_wp2_with fail
      refine (CP2.out _ B1.out).mono ?_
      rintro x w2 ⟨rfl, hb⟩
      have hkx := ((Blk.made w1 59 #[.bool true, .string ga', .string fa']).below hb (by simp))
      obtain ⟨gx, hgx⟩ : ∃ gx, gx = w1.heap.size := ⟨_, rfl⟩
      rw [← hgx] at hkx ⊢
      have hB2 := B1.out.trans (hb.mono B1.out.size)
      have hBA := hB2.alloc hB2.size (.cells #[.bool true, .string gb', .string fb'] 59)
      have hkx2 := hkx.below ((Below.refl w2.heap.size w2).alloc (Nat.le_refl _) (.cells #[.bool true, .string gb', .string fb'] 59)) hkx.lt
      have hky := Blk.made w2 59 #[.bool true, .string gb', .string fb']
      clear hkx hB2 hb
      have BA := Lib.hid hBA
      have HX := Lib.hid hkx2
      have HY := Lib.hid hky
      have x0 := hkx2.cell 0
      have y0 := hky.cell 0
      have hT : Two17 w (w2.alloc (.cells #[.bool true, .string gb', .string fb'] 59)) gx w2.heap.size ga' fa' gb' fb' := ⟨hBA, hkx2, hky⟩
      have TT := Lib.hid hT
      clear hBA hkx2 hky hgx hT BA HX HY B1
      go_wp2_with fail
      have hT := TT.out
      clear TT x0 y0
      generalize w2.alloc (.cells #[.bool true, .string gb', .string fb'] 59) = wA at *
      generalize w2.heap.size = gy at *
      have C1 := Lib.hid (fun W (h : Two17 w W gx gy ga' fa' gb' fb') => (K1.out W).mono fun _ _ ⟨e, hb⟩ => And.intro e (h.next hb))
      have C2 := Lib.hid (fun W (h : Two17 w W gx gy ga' fa' gb' fb') => (K2.out W).mono fun _ _ ⟨e, hb⟩ => And.intro e (h.next hb))
      have C3 := Lib.hid (fun W (h : Two17 w W gx gy ga' fa' gb' fb') => (C8.out W h.old).mono fun _ _ ⟨e, hb⟩ => And.intro e (h.next hb))
      have KS := Lib.hid (fun W (h : Two17 w W gx gy ga' fa' gb' fb') => h.cells)
      have hS := hT.cells
      clear K1 K2 C8 E CP1 CP2 hs hs2
      by_cases hab : a = b
      · obtain rfl : ka = kb := hkey.2 hab
        subst hab
        clear hkey
        go_region_held3 (fun W => W.cell? ⟨gx, 0, none⟩ = some (.bool true) ∧ W.cell? ⟨gx, 1, none⟩ = some (.string ga') ∧ W.cell? ⟨gx, 2, none⟩ = some (.string fa') ∧ W.cell? ⟨gy, 0, none⟩ = some (.bool true) ∧ W.cell? ⟨gy, 1, none⟩ = some (.string gb') ∧ W.cell? ⟨gy, 2, none⟩ = some (.string fb'))
          (first | assumption | (exact KS.out _ (by assumption)))
          (first
            | (go_at_call_of 43 (Value.agg #[.bool true, .string ga', .string fa']); (with_reducible refine (C1.out _ ?_).mono ?_); (first | assumption | exact Two17.drew (by assumption)); rintro x w6 ⟨rfl, hd6⟩)
            | (go_at_call_of 43 (Value.agg #[.bool true, .string gb', .string fb']); (with_reducible refine (C2.out _ ?_).mono ?_); (first | assumption | exact Two17.drew (by assumption)); rintro x w6 ⟨rfl, hd6⟩)
            | (go_at_call 38; (with_reducible refine (C3.out _ ?_).mono ?_); (first | assumption | exact Two17.drew (by assumption)); rintro x w6 ⟨rfl, hd6⟩))
        have HD6 := Lib.hid hd6
        clear hS hT C1 C2 C3 KS
        go_wp2_with fail
        go_ret
        exact ⟨rfl, HD6.out.old⟩
      · have hk0 : ¬ ka = kb := fun h => hab (hkey.1 h)
        have l1 : (ka.toList == kb.toList) = false := by
          rw [toList_ls, toList_ls]
          exact beq_eq_false_iff_ne.2 fun h => hk0 (by rw [← bs_ls ka, h, bs_ls])
        have l2 : (a.toList == b.toList) = false := by
          rw [toList_ls, toList_ls]
          exact beq_eq_false_iff_ne.2 fun h => hab (by rw [← bs_ls a, h, bs_ls])
        clear hkey
        go_region_held3 (fun W => W.cell? ⟨gx, 0, none⟩ = some (.bool true) ∧ W.cell? ⟨gx, 1, none⟩ = some (.string ga') ∧ W.cell? ⟨gx, 2, none⟩ = some (.string fa') ∧ W.cell? ⟨gy, 0, none⟩ = some (.bool true) ∧ W.cell? ⟨gy, 1, none⟩ = some (.string gb') ∧ W.cell? ⟨gy, 2, none⟩ = some (.string fb'))
          (first | assumption | (exact KS.out _ (by assumption)))
          (first
            | (go_at_call_of 43 (Value.agg #[.bool true, .string ga', .string fa']); (with_reducible refine (C1.out _ ?_).mono ?_); (first | assumption | exact Two17.drew (by assumption)); rintro x w6 ⟨rfl, hd6⟩)
            | (go_at_call_of 43 (Value.agg #[.bool true, .string gb', .string fb']); (with_reducible refine (C2.out _ ?_).mono ?_); (first | assumption | exact Two17.drew (by assumption)); rintro x w6 ⟨rfl, hd6⟩)
            | (go_at_call 38; (with_reducible refine (C3.out _ ?_).mono ?_); (first | assumption | exact Two17.drew (by assumption)); rintro x w6 ⟨rfl, hd6⟩))
        have HD6 := Lib.hid hd6
        clear hS hT C1 C2 C3 KS
        go_wp2_with fail
        go_ret
        exact ⟨rfl, HD6.out.old⟩
    · clear hca hcb
      go_enter Tryd.func11, Tryd.ntmps11
      go_wp2_with fail
      refine (CP1.out).mono ?_
      rintro x w1 ⟨rfl, hb⟩
      have B1 := Lib.hid (hb.alloc hb.size (.cells #[.bool ba, .string (bs ga), .string (bs fa)] 59))
      clear hb
      go_wp2_with fail
      refine (CP2.out _ B1.out).mono ?_
      rintro x w2 ⟨rfl, hb⟩
      have hkx := ((Blk.made w1 59 #[.bool ba, .string (bs ga), .string (bs fa)]).below hb (by simp))
      obtain ⟨gx, hgx⟩ : ∃ gx, gx = w1.heap.size := ⟨_, rfl⟩
      rw [← hgx] at hkx ⊢
      have hB2 := B1.out.trans (hb.mono B1.out.size)
      have hBA := hB2.alloc hB2.size (.cells #[.bool bb, .string (bs gb), .string (bs fb)] 59)
      have hkx2 := hkx.below ((Below.refl w2.heap.size w2).alloc (Nat.le_refl _) (.cells #[.bool bb, .string (bs gb), .string (bs fb)] 59)) hkx.lt
      have hky := Blk.made w2 59 #[.bool bb, .string (bs gb), .string (bs fb)]
      have BA := Lib.hid hBA
      have x0 := hkx2.cell 0
      have y0 := hky.cell 0
      clear hBA hkx2 hky hgx hkx hB2 hb B1 CP1 CP2 hs hs2 E
      cases oa <;> cases ba <;> cases ob <;> cases bb <;> first
        | exact absurd ⟨rfl, rfl, rfl, rfl⟩ hall
        | (clear hall
           go_wp2_with fail
           refine (C8.out _ BA.out).mono ?_
           rintro x w5 ⟨rfl, hb⟩
           have B5 := Lib.hid (BA.out.trans (hb.mono BA.out.size))
           clear hb
           go_wp2_with fail
           go_ret
           exact ⟨rfl, B5.out⟩)
end
end Go.Proofs.YtdaicjplmnpooaaDoor

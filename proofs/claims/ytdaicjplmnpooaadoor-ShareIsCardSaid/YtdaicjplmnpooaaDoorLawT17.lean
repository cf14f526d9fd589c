/- What is proved here: ShareBack answers true for every text. Conditions: the two errors that utf.Check names are errors. -/
import Derived.Test.YtdaicjplmnpooaaDoorAwak17
import Derived.Test.YtdaicjplmnpooaaDoorRune17
namespace Go.Proofs.YtdaicjplmnpooaaDoor
open Go.RowKit Go.Extern.Stop Go.Stop Go.Extern

theorem filt_nil : filtB (bs []) = false := by decide +kernel
theorem pre_seven {l : BL} (h : Lib.hasPrefix l [36, 115, 104, 97, 114, 101, 47] = true) : l = [36, 115, 104, 97, 114, 101, 47] ++ l.drop 7 := by
  unfold Lib.hasPrefix at h
  rw [List.isPrefixOf_iff_prefix] at h
  obtain ⟨t, rfl⟩ := h
  rfl
theorem cutG_or (l : BL) : (¬ 47 ∈ l ∧ cutG l = (l, [])) ∨ ∃ a b, l = a ++ 47 :: b ∧ ¬ 47 ∈ a ∧ cutG l = (a, b) := by
  rcases index_or l with ⟨_, hno⟩ | ⟨i, _, _, hno, e⟩
  · exact .inl ⟨hno, cutG_no hno⟩
  · exact .inr ⟨_, _, e, hno, by conv => { lhs; rw [e] }; exact cutG_at hno⟩
theorem parse_cases (s : ByteArray) : parse17 s = ((false, [], []), false) ∨ (parse17 s = ((false, [], ls s), true) ∧ filtB s = true) ∨
    ∃ g f, parse17 s = ((true, g, f), true) ∧ ls s = [36, 115, 104, 97, 114, 101, 47] ++ (g ++ 47 :: f) ∧ g ≠ [] ∧ (¬ 47 ∈ g) ∧ filtB (bs f) = true := by
  unfold parse17
  by_cases h1 : filtB s = false
  · rw [if_pos h1]; exact .inl rfl
  · rw [if_neg h1]
    by_cases h2 : Lib.hasPrefix (ls s) [36, 115, 104, 97, 114, 101, 47] = false
    · rw [if_pos h2]; exact .inr (.inl ⟨rfl, by simpa using h1⟩)
    · rw [if_neg h2]
      have h2' := pre_seven (by simpa using h2)
      split
      · exact .inl rfl
      · rename_i hc
        simp only [Bool.or_eq_true, Bool.not_eq_true', not_or, Bool.not_eq_true, Bool.not_eq_false] at hc
        obtain ⟨⟨c1, c2⟩, c3⟩ := hc
        rcases cutG_or ((ls s).drop 7) with ⟨_, e⟩ | ⟨a, b, e1, e2, e3⟩
        · rw [e] at c3
          rw [filt_nil] at c3
          cases c3
        · rw [e3] at c1 c3 ⊢
          refine .inr (.inr ⟨a, b, rfl, ?_, ?_, e2, c3⟩)
          · rw [← e1]; exact h2'
          · intro h; rw [h] at c1; cases c1
section
variable {S : Nat → Addr} {w : World}
theorem parse_any (s : ByteArray) (hm : s.size ≤ 100000) (he : EnvT w S) : Calls Tryd.prog 39 #[.string s] w (ParseSays s w) :=
  parse_told s hm he (fun w0 => by
    have hl := (cutG_le ((ls s).drop 7)).1
    have := contains_all (w := w0) (bs (cutG ((ls s).drop 7)).1) (by rw [bs_size]; rw [List.length_drop, ls_size] at hl; omega)
    rw [ls_bs] at this
    exact this)
set_option maxHeartbeats 2000000 in
theorem shareBack_walk (S : Nat → Addr) (s : ByteArray) (w : World) (he : EnvT w S) (hs : s.size ≤ maxLen) : Calls Tryd.prog 10 #[.string s] w fun x w' => x = .returned (.bool true) ∧ Below w.heap.size w w' := by
  unfold maxLen at hs
  have E := Lib.hid (fun w' (hb : Below w.heap.size w w') => he.later hb)
  have C8 := Lib.hid (fun w' (hb : Below w.heap.size w w') => awake17 (E.out w' hb))
  by_cases hb : 300 < s.size
  · clear he
    go_enter Tryd.func10, Tryd.ntmps10
    go_wp2_with fail
    refine (C8.out _ (Below.refl _ _)).mono ?_
    rintro x w1 ⟨rfl, hb⟩
    go_wp2_with fail
    go_ret
    exact ⟨rfl, hb⟩
  · have hsm : s.size ≤ 300 := by omega
    have CP := Lib.hid (parse_any s (by omega) he)
    unfold ParseSays at CP
    clear he hb
    rcases parse_cases s with e | ⟨e, hf⟩ | ⟨g, f, e, hl, hg, hng, hf⟩
    · rw [e] at CP
      have CP' : Hid (Calls Tryd.prog 39 #[.string s] w fun x w' => x = .returned (.tuple #[.agg #[.bool false, .string ⟨#[]⟩, .string ⟨#[]⟩], .bool false]) ∧ Below w.heap.size w w') := Lib.hid CP.out
      clear e CP
      go_enter Tryd.func10, Tryd.ntmps10
      go_wp2_with fail
      refine (CP'.out).mono ?_
      rintro x w1 ⟨rfl, hb⟩
      have B1 := Lib.hid hb
      clear hb
      go_wp2_with fail
      refine (C8.out _ (B1.out.alloc B1.out.size _)).mono ?_
      rintro x w2 ⟨rfl, hb⟩
      have B2 := Lib.hid ((B1.out.alloc B1.out.size (.cells #[.bool false, .string ⟨#[]⟩, .string ⟨#[]⟩] 59)).trans (hb.mono (Nat.le_trans B1.out.size ((Fr.refl [] w1).alloc _).size)))
      clear hb
      go_wp2_with fail
      go_ret
      exact ⟨rfl, B2.out⟩
    · rw [e] at CP
      have CP' : Hid (Calls Tryd.prog 39 #[.string s] w fun x w' => x = .returned (.tuple #[.agg #[.bool false, .string ⟨#[]⟩, .string s], .bool true]) ∧ Below w.heap.size w w') := Lib.hid (by have := CP.out; rw [bs_ls] at this; exact this)
      have CT : Hid (∀ w, Calls Tryd.prog 41 #[.agg #[.bool false, .string ⟨#[]⟩, .string s]] w fun x w' => x = .returned (.string s) ∧ Below w.heap.size w w') := Lib.hid (fun w => text_any false ⟨#[]⟩ s (by decide) (by omega))
      have CF := Lib.hid (fun w => rIsFilter_any (w := w) s (by omega))
      rw [hf] at CF
      clear e CP hf
      go_enter Tryd.func10, Tryd.ntmps10
      go_wp2_with fail
      refine (CP'.out).mono ?_
      rintro x w1 ⟨rfl, hb⟩
      have B1 := Lib.hid hb
      have B1a := Lib.hid (B1.out.alloc B1.out.size (.cells #[.bool false, .string ⟨#[]⟩, .string s] 59))
      clear hb
      go_wp2_with fail
      refine (CT.out _).mono ?_
      rintro x w2 ⟨rfl, hb⟩
      have B2 := Lib.hid (B1a.out.trans (hb.mono B1a.out.size))
      have hk := (Blk.made w1 59 #[.bool false, .string ⟨#[]⟩, .string s]).below hb (by simp)
      obtain ⟨gx, hgx⟩ : ∃ gx, gx = w1.heap.size := ⟨_, rfl⟩
      rw [← hgx] at hk ⊢
      have HK := Lib.hid hk
      have k0 := hk.cell 0
      have k1 := hk.cell 1
      have k2 := hk.cell 2
      clear hb hk hgx
      go_wp2_with fail
      refine (CF.out _).mono ?_
      rintro x w3 ⟨rfl, hb⟩
      have B3 := Lib.hid (B2.out.trans (hb.mono B2.out.size))
      have hk := HK.out.below hb HK.out.lt
      clear k0 k1 k2
      have k0 := hk.cell 0
      have k1 := hk.cell 1
      have k2 := hk.cell 2
      clear hb hk
      go_wp2_with fail
      refine (C8.out _ B3.out).mono ?_
      rintro x w4 ⟨rfl, hb⟩
      have B4 := Lib.hid (B3.out.trans (hb.mono B3.out.size))
      clear hb
      go_wp2_with fail
      go_ret
      exact ⟨rfl, B4.out⟩
    · rw [e] at CP
      have hlen : s.size = 7 + (g.length + (f.length + 1)) := by rw [← ls_size, hl]; simp; omega
      have hgs : (bs g).size ≤ 300 := by rw [bs_size]; omega
      have hfs : (bs f).size ≤ 300 := by rw [bs_size]; omega
      have htx : textOf true (bs g) (bs f) = s := by
        rw [← bs_ls s, hl, ← bs_ls (textOf true (bs g) (bs f))]
        congr 1
        show ls (sShare ++ (bs g ++ ⟨#[47]⟩ ++ bs f)) = _
        rw [ls_app, ls_app, ls_app, ls_bs, ls_bs, List.append_assoc]
        rfl
      have CT := Lib.hid (fun w => text_any (w := w) true (bs g) (bs f) (by omega) (by omega))
      rw [htx] at CT
      have CF := Lib.hid (fun w => rIsFilter_any (w := w) (bs f) (by omega))
      rw [hf] at CF
      have CL := Lib.hid (fun w => rlevels_any (w := w) (bs g) (by omega))
      rw [ls_bs, spl_no hng] at CL
      unfold LevSays at CL
      have e0 : bs g ≠ ⟨#[]⟩ := fun h => hg (by rw [← ls_bs g, h]; rfl)
      have e1 := str_full e0
      have e2 := str_full2 e1
      clear e hf hl hlen htx hg hng e0
      generalize bs g = gs at *
      generalize bs f = fs at *
      go_enter Tryd.func10, Tryd.ntmps10
      go_wp2_with fail
      refine (CP.out).mono ?_
      rintro x w1 ⟨rfl, hb⟩
      have B1 := Lib.hid hb
      have B1a := Lib.hid (B1.out.alloc B1.out.size (.cells #[.bool true, .string gs, .string fs] 59))
      clear hb
      go_wp2_with fail
      refine (CT.out _).mono ?_
      rintro x w2 ⟨rfl, hb⟩
      have B2 := Lib.hid (B1a.out.trans (hb.mono B1a.out.size))
      have hk := (Blk.made w1 59 #[.bool true, .string gs, .string fs]).below hb (by simp)
      obtain ⟨gx, hgx⟩ : ∃ gx, gx = w1.heap.size := ⟨_, rfl⟩
      rw [← hgx] at hk ⊢
      have HK := Lib.hid hk
      have k0 := hk.cell 0
      have k1 := hk.cell 1
      have k2 := hk.cell 2
      clear hb hk hgx
      go_wp2_with fail
      refine (CF.out _).mono ?_
      rintro x w3 ⟨rfl, hb⟩
      have B3 := Lib.hid (B2.out.trans (hb.mono B2.out.size))
      have hk := HK.out.below hb HK.out.lt
      clear k0 k1 k2
      have k0 := hk.cell 0
      have k1 := hk.cell 1
      have k2 := hk.cell 2
      clear hb hk
      go_wp2_with fail
      refine (CL.out _).mono ?_
      rintro x w4 ⟨v, rfl, ht, hb⟩
      obtain ⟨al, cl, rfl⟩ := ht.form
      have B4 := Lib.hid (B3.out.trans (hb.mono B3.out.size))
      clear hb ht k0 k1 k2
      go_wp2_with fail
      refine (C8.out _ B4.out).mono ?_
      rintro x w5 ⟨rfl, hb⟩
      have B5 := Lib.hid (B4.out.trans (hb.mono B4.out.size))
      clear hb
      go_wp2_with fail
      go_ret
      exact ⟨rfl, B5.out⟩
end
end Go.Proofs.YtdaicjplmnpooaaDoor

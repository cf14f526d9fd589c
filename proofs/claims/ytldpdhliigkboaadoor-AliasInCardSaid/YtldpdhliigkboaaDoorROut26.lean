/- What is proved here: how a topic is told by the aliases that were given, as the document has it. Conditions: the aliases stand there; few of them. -/
import Derived.Test.YtldpdhliigkboaaDoorOut26
import Derived.Deep.QuietTactic
import Derived.BigQuiet
import Derived.Deep.Cut
import Derived.Deep.CutRange
import Derived.Deep.CutBlock
import Derived.Deep.DeepMust
import Derived.Deep.AppendLies
namespace Go.Proofs.YtldpdhliigkboaaDoor
open Go.RowKit Go.Extern.Stop Go.Stop Go.Extern Go.Maps
/-- The document's aliases: a block with the greatest one and a row of topics, and the row. -/
structure ROut (w : World) (B g : Nat) (most : Int) (v : Value) (L : List ByteArray) : Prop where
  low : B ≤ g
  blk : Blk w g 51 #[.int .i64 most, v]
  row : Row w B v L
def nameR (most : Int) (L : List ByteArray) (t : ByteArray) : ByteArray × Int × List ByteArray :=
  if idxI L t = -1 then (if t = e0 ∨ min most 65535 ≤ (L.length : Int) then (t, 0, L) else (t, (L.length : Int) + 1, L ++ [t])) else (e0, idxI L t + 1, L)
theorem name_same (most : Int) (L : List ByteArray) (t : ByteArray) (he : idxI L e0 = -1) : nameO (limI most) L t = nameR most L t := by
  unfold nameO nameR limI
  by_cases h0 : t = e0
  · rw [if_pos h0, h0, he, if_pos rfl, if_pos (.inl rfl)]
  · rw [if_neg h0]
    by_cases h1 : idxI L t = -1
    · rw [if_pos h1, if_pos h1]
      by_cases h2 : min (max most 0) 65535 < (L.length : Int) + 1
      · rw [if_pos h2, if_pos (.inr (by omega))]
      · rw [if_neg h2, if_neg (fun h => h.elim h0 (by omega))]
    · rw [if_neg h1, if_neg h1]
structure RNm (w w' : World) (B g : Nat) (most : Int) (v v' : Value) (L' : List ByteArray) : Prop where
  obj : ROut w' B g most v' L'
  fr : Fr (g :: v.ownBlock.toList) w w'
  own : ∀ k, v'.ownBlock = some k → v.ownBlock = some k ∨ w.heap.size ≤ k
def RNameSays (w : World) (B g : Nat) (most : Int) (v : Value) (r : ByteArray × Int × List ByteArray) (x : Ending) (w' : World) : Prop := x = .returned (.tuple #[.string r.1, .int .i64 r.2.1]) ∧ ∃ v', RNm w w' B g most v v' r.2.2
section
variable {w w' : World} {B g : Nat} {most : Int} {v : Value} {L : List ByteArray}
theorem grown_cell (w : World) (g i : Nat) (u : Value) : w.grownBy (w.setCell ⟨g, i, none⟩ u) (some g) := ⟨rfl, rfl, rfl, by simp, fun k _ hk => Below.heap_setCell w _ _ k (fun e => hk (by rw [e]))⟩
theorem ROut.drewN (h : ROut w B g most v L) (d : Nat) : ROut (w.drewN d) B g most v L := ⟨h.low, h.blk.drewN d, h.row⟩
theorem ROut.ne (h : ROut w B g most v L) {k : Nat} (hk : v.ownBlock = some k) : g ≠ k := by
  rcases h.row.2 with ⟨rfl, _⟩ | ⟨gr, cap, cur, rfl, hB, hh, _⟩
  · cases hk
  · obtain rfl : gr = k := Option.some.inj hk
    exact h.blk.other hh (by decide)
set_option maxHeartbeats 1000000 in
set_option maxRecDepth 100000 in
theorem rname_any (h : ROut w B g most v L) (hm : L.length ≤ 900) (hB : B ≤ w.heap.size) (t : ByteArray) : Calls Tryd.prog 16 #[.pointer (some ⟨g, 0, none⟩), .string t] w (RNameSays w B g most v (nameR most L t)) := by
  obtain ⟨a, cp, rfl⟩ := h.row.form
  have HO := Lib.hid h
  have hb0 := h.blk.cell 0
  have hb1 := h.blk.cell 1
  have f1 := h.blk.frozen 1
  have HRD := Lib.hid h.row.rd
  obtain ⟨n, hn⟩ : ∃ n, n = L.length := ⟨_, rfl⟩
  rw [← hn] at hb1
  have HN := Lib.hid hn
  have HB := Lib.hid hB
  have hm9 : n ≤ 900 := by omega
  have HSAME := Lib.hid (fun d => show RNm w (w.drewN d) B g most (.slice a L.length cp) (.slice a L.length cp) L from ⟨h.drewN d, (Fr.refl _ _).drewN d, fun k hk => .inl hk⟩)
  have hR1 : ∀ (k : Nat), idxI L t = (k : Int) → nameR most L t = (e0, (k : Int) + 1, L) := fun k hk => by unfold nameR; rw [hk, if_neg (by omega)]
  have hR2 : idxI L t = -1 → (t = e0 ∨ min most 65535 ≤ (L.length : Int)) → nameR most L t = (t, 0, L) := fun h1 h2 => by unfold nameR; rw [if_pos h1, if_pos h2]
  have hR3 : idxI L t = -1 → ¬ (t = e0 ∨ min most 65535 ≤ (L.length : Int)) → nameR most L t = (t, (L.length : Int) + 1, L ++ [t]) := fun h1 h2 => by unfold nameR; rw [if_pos h1, if_neg h2]
  have HR1 := Lib.hid hR1
  have HR2 := Lib.hid hR2
  have HR3 := Lib.hid hR3
  clear h hn hm hB hR1 hR2 hR3
  generalize nameR most L t = R at *
  go_enter Tryd.func16, Tryd.ntmps16
  go_wp2_with fail
  go_loopw [6] (fun i wr => ∃ k : Nat, k ≤ n ∧ i = .int .i64 k ∧ wr = w ∧ Hid (∀ j, j < k → L.getD j e0 ≠ t)) (fun i _ => n - (intOf i).toNat)
  case atStart => exact ⟨0, by omega, rfl, rfl, Lib.hid fun j hj => absurd hj (by omega)⟩
  case round =>
    obtain ⟨k, hk, rfl, rfl, HP⟩ := hrel
    by_cases hlt : k < n
    · have hkL : k < L.length := by have := HN.out; omega
      obtain ⟨g1, off, rfl, hcc⟩ := HRD.out (by omega)
      have c0 := hcc k hkL
      have he := eq_text (L.getD k e0) t
      by_cases hv : L.getD k e0 = t
      · rw [decide_eq_true hv] at he
        have HI := Lib.hid (HR1.out k (idx_at (e := e0) hkL hv HP.out))
        have hs0 := HSAME.out 0
        have HS0 := Lib.hid hs0
        clear hv hcc hs0
        generalize L.getD k e0 = y at *
        go_wp2_with fail
        go_ret2
        rw [HI.out]
        exact ⟨rfl, _, HS0.out⟩
      · rw [decide_eq_false hv] at he
        have HE := Lib.hid (show ∀ j, j < k + 1 → L.getD j e0 ≠ t from fun j hj => by
          by_cases hjk : j = k
          · subst hjk; exact hv
          · exact HP.out j (by omega))
        clear hv hcc
        generalize L.getD k e0 = y at *
        go_wp2_with fail
        go_roundw
        case rel => exact ⟨k + 1, by omega, by go_num, trivial, HE⟩
        case measure => simp [intOf]; omega
    · have HI := Lib.hid (idx_no (L := L) (e := e0) (x := t) fun j hj => HP.out j (by have := HN.out; omega))
      have he := empty_iff t
      by_cases h0 : t = e0
      · have HX := Lib.hid (HR2.out HI.out (.inl h0))
        rw [decide_eq_true h0] at he
        clear h0
        go_wp2_with fail
        go_quiet (fail)
        go_wp2_with fail
        go_ret2
        rw [HX.out]
        exact ⟨rfl, _, HSAME.out _⟩
      · rw [decide_eq_false h0] at he
        by_cases h2 : min most 65535 ≤ (L.length : Int)
        · have HX := Lib.hid (HR2.out HI.out (.inr h2))
          rw [← HN.out] at h2
          clear h0
          go_wp2_with fail
          go_quiet (fail)
          go_wp2_with fail
          go_ret2
          rw [HX.out]
          exact ⟨rfl, _, HSAME.out _⟩
        · have HX := Lib.hid (HR3.out HI.out (fun h => h.elim h0 h2))
          have HD1 := Lib.hid (show decide (most ≤ (n : Int)) = false from decide_eq_false (by have := HN.out; omega))
          have HD2 := Lib.hid (show decide ((65535 : Int) ≤ (n : Int)) = false from decide_eq_false (by have := HN.out; omega))
          clear h0 h2
          rcases (show most ≤ 65535 ∨ 65535 < most by omega) with hmo | hmo
          all_goals
            go_wp2_with fail
            go_quiet (fail)
            first | rw [HD1.out] | rw [HD2.out]
            clear hmo
            go_upto_region 8 with fail
            obtain ⟨i0, hi0, hz0, hz1, hz2⟩ := info_parts Tryd.strInfo
            have hbk := HO.out.blk
            have hne := fun k hk => HO.out.ne (k := k) hk
            have hrow1 : (wr.alloc (.cells #[.string t] 9)).ownsRow B 9 1 (.slice a n cp) n (L.map Value.string) := by
              have := HO.out.row.below ((Below.refl _ wr).alloc (Nat.le_refl _) (.cells #[.string t] 9))
              unfold Row at this
              rw [← HN.out] at this
              exact this
            have HROW1 := Lib.hid (fun d => show ((wr.drewN d).alloc (.cells #[.string t] 9)).ownsRow B 9 1 (.slice a n cp) n (L.map Value.string) from by
              have := (HO.out.drewN d).row.below ((Below.refl _ (wr.drewN d)).alloc (Nat.le_refl _) (.cells #[.string t] 9))
              unfold Row at this
              rw [← HN.out] at this
              exact this)
            have HBK := Lib.hid hbk
            have HNE := Lib.hid hne
            clear hrow1 hbk hne
            go_wp2_with (at_builtin; go_must (refine wpList_append_lies _ rfl _ _ _ rfl B 9 i0 (.string ⟨#[]⟩) 1 16 Tryd.underlying22 hi0 hz0 hz1 hz2 rfl (by decide) (.slice a n cp) n (L.map Value.string) rfl (HROW1.out _) ⟨wr.heap.size, 0, none⟩ 1 1 [.string t] rfl rfl (World.news_of_block (heap_alloc_new _ _)) (fun u hu => by rw [List.mem_singleton] at hu; subst hu; rfl) (by omega) (by unfold maxLen; omega) (by omega) (Nat.le_trans HB.out (by simp)) _ rfl ?_))
            intro gg cap w3 hown3 hgrow hat hlt3
            have hfar : some g ≠ (Value.slice a n cp).ownBlock := fun e => HNE.out g (by rw [← HN.out]; exact e.symm) rfl
            have hb3 : Blk w3 g 51 #[.int .i64 most, .slice a n cp] := by
              have := HBK.out
              rw [← HN.out] at this
              exact ((this.drewN _).alloc _).grown hgrow hfar
            have z1 := hb3.cell 1
            have z2 := hb3.frozen 1
            have hst := hb3.store 1 (.slice (some ⟨gg, 0, none⟩) (n + 1) cap)
            have y0 := hst.cell 0
            have y1 := hst.cell 1
            have HE := Lib.hid (show RNm wr (w3.setCell ⟨g, 1, none⟩ (.slice (some ⟨gg, 0, none⟩) (n + 1) cap)) B g most (.slice a L.length cp) (.slice (some ⟨gg, 0, none⟩) (n + 1) cap) (L ++ [t]) from by
              have hgg : g ≠ gg := by
                rcases hat with h | h
                · exact HNE.out gg (by rw [← HN.out]; exact h)
                · have h1 := HBK.out.lt
                  omega
              refine ⟨⟨HO.out.low, hst, ?_⟩, ?_, ?_⟩
              · unfold Row
                rw [List.length_append, List.map_append, ← HN.out]
                exact World.ownsRow.kept hown3 (grown_cell w3 g 1 _) (.inr fun e => hgg (Option.some.inj e).symm)
              · rw [← HN.out]
                exact ((((Fr.refl _ wr).drewN _).alloc _).grown hgrow (fun k hk => .inl (by simp [hk]))).setCell (.inl (by simp)) _
              · intro k hk
                obtain rfl : gg = k := Option.some.inj hk
                rcases hat with h | h
                · rw [← HN.out]; exact .inl h
                · exact .inr (by omega))
            have HN1 := Lib.hid (show (n : Int) + 1 = (L.length : Int) + 1 by rw [HN.out])
            clear hb3 hst hown3 hgrow hat hlt3 hfar
            have HD := Lib.hid (fun d => show RNm wr ((w3.setCell ⟨g, 1, none⟩ (.slice (some ⟨gg, 0, none⟩) (n + 1) cap)).drewN d) B g most (.slice a L.length cp) (.slice (some ⟨gg, 0, none⟩) (n + 1) cap) (L ++ [t]) from ⟨HE.out.obj.drewN d, HE.out.fr.drewN d, HE.out.own⟩)
            go_wp2_with fail
            go_quiet (fail)
            go_wp2_with fail
            go_ret2
            rw [HX.out, ← HN1.out]
            exact ⟨rfl, _, HD.out _⟩
end
end Go.Proofs.YtldpdhliigkboaaDoor

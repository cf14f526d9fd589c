/- What is proved here: what is left where the document's list drops a pair. Condition: there are few. -/
import Derived.Test.YtbicoiciapngdaaRef25
namespace Go.Proofs.Ytbicoiciapngdaa
open Go.RowKit Go.Extern.Stop Go.Stop Go.Extern Go.Maps
section
variable {w : World} {B g : Nat} {most : Int} {L : PL}
theorem own_base {e size n B' : Nat} {v : Value} {xs : List Value} (h : w.ownsRow B' e size v n xs) (hb : B ≤ B') : w.ownsRow B e size v n xs := by
  obtain ⟨h1, h2⟩ := h
  refine ⟨h1, ?_⟩
  rcases h2 with h2 | ⟨gr, cap, cur, rfl, hB, h3⟩
  · exact .inl h2
  · exact .inr ⟨gr, cap, cur, rfl, Nat.le_trans hb hB, h3⟩
theorem own_slice {e size n : Nat} {v : Value} {xs : List Value} (h : w.ownsRow B e size v n xs) : ∃ a c, v = .slice a n c := by
  rcases h.2 with ⟨rfl, h0⟩ | ⟨gr, cap, cur, rfl, _⟩
  · exact ⟨none, 0, by rw [h0]⟩
  · exact ⟨_, _, rfl⟩
theorem dropi_end {v v' : Value} {W : World} {L' : PL} (h1 : Blk w g 77 #[.int .i64 most, v]) (hB : B ≤ g) (hBw : B ≤ w.heap.size) (hW : Fr [] w W) {n : Nat} (hn : n = L'.length) {xs : List Value} (hxs : xs = pcells L') (ho : W.ownsRow w.heap.size 92 2 v' n xs) :
    IsRefI (W.setCell ⟨g, 1, none⟩ v') B g most L' ∧ NearI B g w (W.setCell ⟨g, 1, none⟩ v') := by
  subst hn hxs
  have hb1 := h1.fr hW (by simp)
  refine ⟨⟨⟨v', hb1.store 1 v', own_base (row_fr ho (Fr.setCell (X := [g]) (Fr.refl _ _) (.inl (by simp)) _) (fun k hk => by simpa using (row_ne ho hb1 (by decide) k hk).1)) hBw⟩, hB⟩, [g], (hW.mono (by simp)).setCell (.inl (by simp)) _, fun b hb => ?_⟩
  rw [List.mem_singleton.1 hb]
  exact ⟨hB, .inl rfl⟩
set_option maxHeartbeats 1000000 in
theorem refi_drop (h : IsRefI w B g most L) (hBw : B ≤ w.heap.size) (hl : L.length ≤ 65535) (k : Nat) (hk : k < L.length) :
    Calls Try.prog 58 #[.pointer (some ⟨g, 0, none⟩), .int .i64 k] w fun e w' => e = .returned (.tuple #[]) ∧ IsRefI w' B g most (L.eraseIdx k) ∧ NearI B g w w' := by
  obtain ⟨i0, hi0, hz0, hz1, hz2⟩ := info_parts Try.pairInfo
  obtain ⟨⟨v, b1, r1⟩, hB⟩ := h
  have HB := Lib.hid b1
  have HR := Lib.hid r1
  have HZ := Lib.hid (And.intro hB hBw)
  have hgl := b1.lt
  rcases r1.2 with ⟨rfl, h0⟩ | ⟨gr, cap, cur, rfl, hB2, hh, hlc, hcm, hcs, htk⟩
  · omega
  have c2 := b1.cell 1
  have f2 := b1.frozen 1
  have hgr := lt_of_block hh
  have HC := Lib.hid (r1.cells (g := gr) rfl)
  unfold maxLen at hcm
  clear b1 r1 hh hcs htk hB hBw hB2
  go_enter Try.func58, Try.ntmps58
  go_wp2_with (at_builtin; refine wpList_append_own _ rfl _ _ 75 rfl w.heap.size 92 i0 (.agg #[.int .i64 0, .int .i64 0]) 2 16 Try.underlying75 hi0 hz0 hz1 hz2 rfl (by decide) (.slice none 0 0) 0 [] rfl (World.ownsRow_nil _ _ _ _) ⟨gr, 0, none⟩ k cap (pcells (L.take k)) rfl ?c1 ?c2 ?c3 ?c4 ?c5 (Nat.le_refl _) ?_)
  case c1 => rw [pcells_len, List.length_take]; omega
  case c2 => exact fun j u hj => HC.out j u (by rw [← pcells_take, List.getElem?_take] at hj; split at hj; exact hj; cases hj)
  case c3 => exact pcells_ints _
  case c4 => unfold maxLen; omega
  case c5 => omega
  intro v1 w1 ho1 hg1 hn1
  have hF1 : Fr [] w w1 := (Fr.refl _ _).grown hg1 (fun b hb => by cases hb)
  have HF1 := Lib.hid hF1
  obtain ⟨a1, c1, rfl⟩ := own_slice ho1
  have HO1 := Lib.hid ho1
  have d2 := (HB.out.fr hF1 (by simp)).cell 1
  have e2 := (HB.out.fr hF1 (by simp)).frozen 1
  have hgl1 := (HB.out.fr hF1 (by simp)).lt
  have hz : w.heap.size ≤ w1.heap.size := hF1.size
  have HCC := Lib.hid (fun j u h => (hF1.cell (b := gr) (o := j) hgr (by simp)).trans (by simpa [Addr.add_lit] using HC.out j u h))
  clear hF1 ho1 hg1 hn1 c2 f2
  by_cases hcap : cap = k + 1
  · subst hcap
    have hLk : L.length = k + 1 := by omega
    have HL := Lib.hid hLk
    have d3 : w1.cell? ⟨g, 1, none⟩ = some (.slice (some ⟨gr, 0, none⟩) L.length (k + 1)) := d2
    rw [hLk] at d3
    clear d2 hLk
    go_wp2_with (at_builtin; go_loud (refine wpList_append_own _ rfl _ _ 75 rfl w.heap.size 92 i0 (.agg #[.int .i64 0, .int .i64 0]) 2 16 Try.underlying75 hi0 hz0 hz1 hz2 rfl (by decide) (.slice a1 k c1) k (pcells (L.take k)) rfl HO1.out ⟨gr, 0, none⟩ 0 0 [] rfl rfl ?d1 ?d2 ?d3 ?d4 hz ?_))
    case d1 => intro j u hj; simp at hj
    case d2 => intro u hu; cases hu
    case d3 => unfold maxLen; omega
    case d4 => omega
    intro v2 w2 ho2 hg2 hn2
    have HX := Lib.hid (show pcells (L.take k) = pcells (L.eraseIdx k) by
      have := HL.out
      rw [List.eraseIdx_eq_take_drop_succ, List.drop_eq_nil_of_le (by omega), List.append_nil])
    have HY := Lib.hid (show k = (L.eraseIdx k).length by rw [List.length_eraseIdx, if_pos hk]; have := HL.out; omega)
    have hF2 : Fr [] w w2 := HF1.out.grown hg2 (fun b hb => .inr ((HO1.out.lt b hb).1))
    have HE := Lib.hid (dropi_end HB.out HZ.out.1 HZ.out.2 hF2 HY.out HX.out ho2)
    have f2 := (HB.out.fr hF2 (by simp)).frozen 1
    have f3 := (HB.out.fr hF2 (by simp)).cell 1
    have hgl2 := (HB.out.fr hF2 (by simp)).lt
    obtain ⟨a2, c2, rfl⟩ := own_slice ho2
    clear d3 e2 hF2 ho2 hg2 hn2 hgl1
    go_wp2_with fail
    go_end0
    exact ⟨rfl, HE.out⟩
  · have hcap2 : k + 1 < cap := by omega
    clear hcap
    go_wp2_with (at_builtin; go_loud (refine wpList_append_own _ rfl _ _ 75 rfl w.heap.size 92 i0 (.agg #[.int .i64 0, .int .i64 0]) 2 16 Try.underlying75 hi0 hz0 hz1 hz2 rfl (by decide) (.slice a1 k c1) k (pcells (L.take k)) rfl HO1.out ⟨gr, (k + 1) * 2, none⟩ (L.length - (k + 1)) (cap - (k + 1)) (pcells (L.drop (k + 1))) rfl ?e0 ?e1 ?e2 ?e3 ?e4 hz ?_))
    case e0 => rw [pcells_len, List.length_drop]
    case e1 =>
      intro j u hj
      rw [← pcells_drop, List.getElem?_drop] at hj
      simpa [Addr.add_lit] using HCC.out _ u hj
    case e2 => exact pcells_ints _
    case e3 => unfold maxLen; omega
    case e4 => omega
    intro v2 w2 ho2 hg2 hn2
    have HX := Lib.hid (show pcells (L.take k) ++ pcells (L.drop (k + 1)) = pcells (L.eraseIdx k) by rw [← pcells_app, List.eraseIdx_eq_take_drop_succ])
    have HY := Lib.hid (show k + (L.length - (k + 1)) = (L.eraseIdx k).length by rw [List.length_eraseIdx, if_pos hk]; omega)
    have hF2 : Fr [] w w2 := HF1.out.grown hg2 (fun b hb => .inr ((HO1.out.lt b hb).1))
    have HE := Lib.hid (dropi_end HB.out HZ.out.1 HZ.out.2 hF2 HY.out HX.out ho2)
    have f2 := (HB.out.fr hF2 (by simp)).frozen 1
    have f3 := (HB.out.fr hF2 (by simp)).cell 1
    have hgl2 := (HB.out.fr hF2 (by simp)).lt
    obtain ⟨a2, c2, rfl⟩ := own_slice ho2
    clear d2 e2 hF2 ho2 hg2 hn2 hgl1
    go_wp2_with fail
    go_end0
    exact ⟨rfl, HE.out⟩
end
end Go.Proofs.Ytbicoiciapngdaa

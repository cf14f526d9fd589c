/- What is proved here: append of one row of texts to a row of one's own, as a step of a walk. No conditions. -/
import Derived.Test.YtibjnaccdhcbcaaDoorLawW16
import Derived.Test.YtibjnaccdhcbcaaDoorJoin16
namespace Go.Proofs.YtibjnaccdhcbcaaDoor
open Go.RowKit Go.Extern.Stop Go.Stop Go.Extern
theorem add_at (g off j : Nat) : (⟨g, off, none⟩ : Addr).add j = ⟨g, off + j, none⟩ := by
  unfold Addr.add
  split
  · rename_i h; subst h; rfl
  · rfl
theorem rd_news {w : World} {ad : Addr} {M : List BL} (h : Rd w (some ad) M) : ∀ (j : Nat) (u : Value), (strs M)[j]? = some u → w.cell? (ad.add j) = some u := by
  intro j u hj
  have hl : j < M.length := by
    have := (List.getElem?_eq_some_iff.1 hj).1
    rwa [strs_len] at this
  obtain ⟨g, off, e, hc⟩ := h (by omega)
  obtain rfl : ad = ⟨g, off, none⟩ := Option.some.inj e
  rw [add_at, hc j hl, ← strs_get hl]
  exact hj
theorem strs_one (M : List BL) : ∀ u ∈ strs M, u.oneCell' = true := by
  intro u hu
  unfold strs at hu
  obtain ⟨x, _, rfl⟩ := List.mem_map.1 hu
  rfl
theorem strs_app (L M : List BL) : strs (L ++ M) = strs L ++ strs M := by unfold strs; rw [List.map_append]
theorem rd_one (w : World) (s : ByteArray) : Rd (w.alloc (.cells #[.string s] 9)) (some ⟨w.heap.size, 0, none⟩) [ls s] := by
  intro _
  refine ⟨_, 0, rfl, fun k hk => ?_⟩
  obtain rfl : k = 0 := by simp at hk; omega
  simp [bs_ls]
theorem rd_part {w : World} {g : Nat} {B n c : Nat} {L : List BL} (h : Texts w B (.slice (some ⟨g, 0, none⟩) n c) L) (p : Nat) {M : List BL} (hM : ∀ k, k < M.length → p + k < L.length ∧ L.getD (p + k) [] = M.getD k []) : Rd w (some ⟨g, p, none⟩) M := by
  intro hp
  obtain ⟨g', e, _, _, hc⟩ := h.at_ (by have := hM 0 hp; omega)
  injection e with e
  injection e with e
  subst e
  exact ⟨_, p, rfl, fun k hk => by rw [hc _ (hM k hk).1, (hM k hk).2]⟩
theorem rd_take {w : World} {g : Nat} {B n c : Nat} {L : List BL} (h : Texts w B (.slice (some ⟨g, 0, none⟩) n c) L) (k : Nat) : Rd w (some ⟨g, 0, none⟩) (L.take k) :=
  rd_part h 0 fun j hj => by
    rw [List.length_take] at hj
    refine ⟨by omega, ?_⟩
    rw [Nat.zero_add, List.getD_eq_getElem?_getD, List.getD_eq_getElem?_getD, List.getElem?_take, if_pos (by omega)]
theorem rd_drop {w : World} {g : Nat} {B n c : Nat} {L : List BL} (h : Texts w B (.slice (some ⟨g, 0, none⟩) n c) L) (k : Nat) : Rd w (some ⟨g, k, none⟩) (L.drop k) :=
  rd_part h k fun j hj => by
    rw [List.length_drop] at hj
    refine ⟨by omega, ?_⟩
    rw [List.getD_eq_getElem?_getD, List.getD_eq_getElem?_getD, List.getElem?_drop]
theorem below_grow {w0 w w1 : World} {v : Value} {L : List BL} (hb : Below w0.heap.size w0 w) (ht : Texts w w0.heap.size v L) (hg : w.grownBy w1 v.ownBlock) : Below w0.heap.size w0 w1 := by
  refine Fr.later (X := v.ownBlock.toList) ((Fr.refl _ w).grown hg (fun k hk => .inl (by simp [hk]))) hb (fun b hm => ?_) hb.size
  have hk : v.ownBlock = some b := by cases hv : v.ownBlock with | none => rw [hv] at hm; cases hm | some k => rw [hv] at hm; simp at hm; rw [hm]
  exact (World.ownsRow.lt ht b hk).1
theorem append_texts {ops : Array Oper} {rest : List Oper} {o : Oper} {a : Act} {Q : Exit → Act → World → Prop} {w0 w : World} (hgd : o.guard = none) (s x : Operand) (ho : o.op = .call { callee := .builtin .append, args := #[s, x], argTypes := #[53, 53] })
    {v : Value} {L M : List BL} (hb : Below w0.heap.size w0 w) (ht : Texts w w0.heap.size v L) (hs : a.eval s = v) (ad : Addr) (m c : Nat) (hx : a.eval x = .slice (some ad) m c) (hm : m = M.length) (hrd : Rd w (some ad) M) (hsm : L.length + M.length ≤ 1000)
    (h : ∀ v' w', Texts w' w0.heap.size v' (L ++ M) → Below w0.heap.size w0 w' → wpList Tryd.prog ops Q rest (a.put o.dst v') w') : wpList Tryd.prog ops Q (o :: rest) a w := by
  obtain ⟨i0, hi0, hz0, hz1, hz2⟩ := info_parts Tryd.strInfo
  subst hm
  refine wpList_append_own w hgd s x 53 ho w0.heap.size 9 i0 (.string ⟨#[]⟩) 1 16 Tryd.underlying53 hi0 hz0 hz1 hz2 rfl (by decide) v L.length (strs L) hs ht ad M.length c (strs M) hx (by rw [strs_len, Nat.mul_one]) (rd_news hrd) (strs_one M) (by unfold maxLen; omega) (by omega) hb.size ?_
  intro v' w' ho' hg _
  refine h v' w' ?_ (below_grow hb ht hg)
  unfold Texts
  rw [List.length_append, strs_app]
  exact ho'
end Go.Proofs.YtibjnaccdhcbcaaDoor

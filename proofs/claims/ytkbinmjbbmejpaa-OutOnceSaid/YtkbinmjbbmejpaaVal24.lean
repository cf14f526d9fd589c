/- What is proved here: the library's iterator over the elements of a map hands out each of them once, in some order. Conditions: those that each theorem names. -/
import Derived.Test.YtkbinmjbbmejpaaOpc24
import Derived.Test.YtkbinmjbbmejpaaAMapIn
namespace Go.Proofs.Ytkbinmjbbmejpaa
open Go.RowKit Go.Extern.Stop Go.Stop Go.Extern Go.Maps Go.Shelf
set_option maxRecDepth 100000
theorem wof_perm {f : FV} {M : FL} (hf : f ∈ M) (hd : (ids M).Nodup) : M.Perm (f :: wof f.id M) := by
  have hd2 : (M.map ent24).Pairwise (fun p q => p.1 ≠ q.1) := by
    rw [List.pairwise_map]
    unfold ids at hd
    rw [List.Nodup, List.pairwise_map] at hd
    exact hd
  have h1 := (perm_pick (lt_of_mem hf) hd2).map Prod.snd
  rw [wof_ent, List.map_map, List.map_cons, List.map_map] at h1
  have e : ∀ l : FL, l.map (Prod.snd ∘ ent24) = l := fun l => by
    conv => rhs; rw [← List.map_id l]
    rfl
  rw [e, e] at h1
  exact h1
theorem ids_sub {f : FV} {M : FL} (hd : (ids M).Nodup) : (ids (wof f.id M)).Nodup := by
  unfold ids wof at *
  rw [List.Nodup, List.pairwise_map] at *
  exact hd.filter _
attribute [local go_sem] Oper.semAt_some
set_option maxHeartbeats 4000000 in
theorem values1_in (F : Fence) (n : Nat) (h60 : F.fn 60) (hro : F.round = none) (hn : 1 ≤ n) (l Bm b : Nat) (L : FL) (hd : (ids L).Nodup) (J Jx : FL → World → Prop)
    (hY : ∀ pre x W, J pre W → pre.length < L.length → YieldAt F (n - 1) Try.prog l #[x.agg] W fun e W' => (e = .returned (.bool true) ∧ J (pre ++ [x]) W' ∧ KeepsWalks W W') ∨ (e = .returned (.bool false) ∧ Jx (pre ++ [x]) W'))
    (W : World) (hJ : AbidesFrom W.heap.size J) (hm : W.cell? ⟨Bm, 0, none⟩ = some (.map (some b))) (hown : AMap Try.prog 3 intKE FV.agg W b (L.map ent24)) (h0 : J [] W) :
    CallsIn F n Try.prog 60 #[.func (.yield l) #[] #[], .pointer (some ⟨Bm, 0, none⟩)] W fun e W' => (∃ v, e = .returned v) ∧ ((∃ ss, ss.Perm L ∧ J ss W') ∨ (∃ pre, True ∧ Jx pre W')) := by
  refine callsIn_of_wp Try.func60 rfl h60 ?_ hro
  simp only [Try.ntmps60, List.size_toArray, List.length_cons, List.length_nil, Nat.reduceAdd, Nat.reduceSub, Array.replicate_succ, Array.replicate_zero, List.push_toArray, List.append_toArray, List.nil_append, List.cons_append]
  gi_wp2_with (first
    | (gi_at_range; refine wpai_range rfl _ 30 rfl 3 77 KI Try.underlying30 b rfl hown ?_; intro w0 hrg0 hg0 hs0)
    | gi_in)
  go_frame
  gi_loopw [4] (fun _ wr => ∃ (C M : FL), ARange Try.prog 3 intKE FV.agg wr b W.heap.size (L.map ent24) (M.map ent24) ∧ (C ++ M).Perm L ∧ (ids M).Nodup ∧ J C wr)
    (fun _ wr => wr.rangeLeft b W.heap.size)
  case atStart =>
    exact ⟨[], L, hrg0, List.Perm.refl _, hd, hJ [] W w0 none h0 hg0 (fun r e => by cases e)⟩
  case round =>
    obtain ⟨C, M, hrg, hp, hdM, hJs⟩ := hrel
    gi_wp2_with (first
      | (gi_at_next; refine wpai_next rfl _ rfl 3 KI intKE_inj b W.heap.size rfl hrg ?_ ?_)
      | gi_in)
    · intro hM
      subst hM
      gi_wp2
      go_end0
      rw [List.append_nil] at hp
      exact ⟨⟨_, rfl⟩, .inl ⟨C, hp, hJs⟩⟩
    · intro x v w2 f hf hfe hrg2 hlt hg2 hs2 hen
      obtain ⟨rfl, rfl⟩ : f.id = x ∧ f = v := by
        unfold ent24 at hfe
        injection hfe with e1 e2
        exact ⟨e1, e2⟩
      have hpf := wof_perm hf hdM
      have hp2 : ((C ++ [f]) ++ wof f.id M).Perm L := by
        rw [List.append_assoc]
        exact (List.Perm.append_left C hpf.symm).trans hp
      have hJ2 : J C w2 := hJ C wr w2 (some W.heap.size) hJs hg2 (fun r e => by cases e; exact ⟨Nat.le_refl _, hrg.iter_walk⟩)
      have hlen : C.length < L.length := by
        have := hp.length_eq
        rw [List.length_append] at this
        have := List.length_pos_of_mem hf
        omega
      have hyy := hY C f
      have hen2 : (Instr.entry (.pointer (some ⟨W.heap.size, 0, none⟩))).run Try.prog w2 = .ok (.tuple #[.int .i64 f.id, f.agg]) w2 := hen
      clear hs2 hen
      have HJ := Lib.hid hJ
      have HRG := Lib.hid (And.intro hrg2 (And.intro hlt (And.intro hp2 (And.intro (ids_sub (f := f) hdM) hg2))))
      have hb3 := (Below.refl w2.heap.size w2).alloc (Nat.le_refl _) (.cells f.cells.toArray 77)
      have hJ3 : J C (w2.alloc (.cells f.cells.toArray 77)) := hJ C w2 _ none hJ2 (World.grownBy_alloc w2 _ none) (fun r e => by cases e)
      obtain ⟨fn, tmps, assign, body, hy, hR⟩ := hyy _ hJ3 hlen
      have HR := Lib.hid hR
      unfold FV.agg at hy hen2
      unfold FV.cells at hy HR
      clear hR hJ hJ2 hJ3 hyy hY hrg2 hlt hp2 hg2 hpf hrg hrg0 hown h0 hb3
      gi_wp2
      refine HR.out.mono ?_
      obtain ⟨hrg2, hlt, hp2, hd2, hg2⟩ := HRG.out
      have hfa := (Fr.refl [] w2).alloc (.cells #[.int .i64 f.id, .int .i64 f.st, .string f.q.m.topic, .string f.q.m.payload, .int .i64 f.q.m.qos, .bool f.q.m.retain, .slice f.q.pa f.q.m.props.length f.q.pc, .string f.q.m.frm, .int .i64 f.q.m.til, .int .i64 f.q.m.seq, .string f.q.m.grp, .int .i64 f.pl] 77)
      have hrg4 := hrg2.fr hfa (by simp) (by simp)
      have hl4 := hrg2.left_fr hfa (by simp) (by simp)
      clear HR HRG
      rintro e W3 (⟨rfl, hJ3, hk3⟩ | ⟨rfl, hJx3⟩)
      · have HX := Lib.hid (And.intro (hrg4.of_walks hk3) (And.intro ((hrg4.left_walks hk3).trans hl4) (And.intro hJ3 (And.intro hlt (And.intro hp2 hd2)))))
        clear hrg4 hl4 hJ3 hk3 hrg2 hlt hp2 hd2 hg2 hfa
        gi_wp2
        go_roundw
        case rel =>
          obtain ⟨x1, x2, x3, x4, x5, x6⟩ := HX.out
          rw [wof_ent] at x1
          exact ⟨C ++ [f], wof f.id M, x1, x5, x6, x3⟩
        case measure =>
          obtain ⟨x1, x2, x3, x4, x5, x6⟩ := HX.out
          rw [x2]
          exact x4
      · have HX := Lib.hid hJx3
        clear hrg4 hl4 hJx3 hrg2 hlt hp2 hd2 hg2 hfa
        gi_wp2
        refine bodyPost_ret (results_none rfl _ _ _) rfl ?_
        exact ⟨⟨_, rfl⟩, .inr ⟨C ++ [f], trivial, HX.out⟩⟩
end Go.Proofs.Ytkbinmjbbmejpaa

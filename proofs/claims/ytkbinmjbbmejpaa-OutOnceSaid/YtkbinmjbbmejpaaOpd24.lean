/- What is proved here: a new Out, how many there are, and that a message is sent. Conditions: those that each theorem names. -/
import Derived.Test.YtkbinmjbbmejpaaOpc24
import Derived.Deep.RegionHeld3
namespace Go.Proofs.Ytkbinmjbbmejpaa
open Go.RowKit Go.Extern.Stop Go.Stop Go.Extern Go.Maps
set_option maxRecDepth 100000
theorem out_new (w : World) : Calls Try.prog 8 #[] w fun x w' => ∃ g gp bp bm, x = .returned (.pointer (some ⟨g, 0, none⟩)) ∧ OutI w' g gp bp bm [] 0 0 ∧ w.heap.size ≤ g ∧ w.heap.size ≤ gp ∧ w.heap.size ≤ bp ∧ w.heap.size ≤ bm ∧ Below w.heap.size w w' := by
  have hmm := @run_makeMap Try.prog
  have HP := Lib.hid (pids_new (w := w))
  go_enter Try.func8, Try.ntmps8
  go_wp2_with fail
  refine HP.out.mono ?_
  rintro x w1 ⟨rfl, hp, hb⟩
  have HI := Lib.hid hp
  have HB := Lib.hid hb
  clear hp hb HP
  go_wp2_with fail
  go_ret
  have hs := HB.out.size
  have h1 := HI.out.is.1.lt
  have hb1 := Blk.made (w1.alloc (.map #[] 0)) 32 #[.pointer (some ⟨w.heap.size + 1, 0, none⟩), .int .i64 0, .map (some w1.heap.size)]
  rw [World.size_alloc] at hb1
  have hp2 : IsPids ((w1.alloc (.map #[] 0)).alloc (.cells #[.pointer (some ⟨w.heap.size + 1, 0, none⟩), .int .i64 0, .map (some w1.heap.size)] 32)) (w.heap.size + 1) w.heap.size 65535 0 (fun x => decide (x ∈ ids [])) 0 := (HI.out.then ((Fr.refl [] _).alloc _)).then ((Fr.refl [] _).alloc _)
  have hm2 : AMap Try.prog 3 intKE FV.agg ((w1.alloc (.map #[] 0)).alloc (.cells #[.pointer (some ⟨w.heap.size + 1, 0, none⟩), .int .i64 0, .map (some w1.heap.size)] 32)) w1.heap.size (([] : FL).map ent24) := (AMap.made w1 Try.prog 3 intKE FV.agg).fr (X := []) ((Fr.refl [] _).alloc _) (by simp)
  have hbm := HI.out.is.2.lt
  exact ⟨w1.heap.size + 1, w.heap.size + 1, w.heap.size, w1.heap.size, rfl, ⟨hb1, hp2, hm2, by omega, List.Pairwise.nil, fun f h => (by cases h), Nat.le_refl _, by omega, fun f h => (by cases h)⟩, by omega, by omega, by omega, by omega, (HB.out.alloc hs _).alloc (by simp; omega) _⟩
section
variable {w : World} {g gp bp bm : Nat} {L : FL} {last sent : Nat}
theorem out_len (h : OutI w g gp bp bm L last sent) : Calls Try.prog 21 #[.pointer (some ⟨g, 0, none⟩)] w fun x w' => x = .returned (.int .i64 L.length) ∧ w = w' := by
  have c2 := h.blk.cell 2
  have hl := h.map.len Try.underlying30 3
  rw [List.length_map] at hl
  clear h
  go_enter Try.func21, Try.ntmps21
  go_wp2
  go_ret
  exact ⟨rfl, rfl⟩
/-- What stands while a message is being put. -/
structure SndIn (w W : World) (k g gp bp bm B : Nat) (L : FL) (x sent : Nat) (q : QV) : Prop where
  fr : Fr [g, gp, bp] w W
  box : Blk W k 36 q.cells.toArray
  blk : Blk W g 32 #[.pointer (some ⟨gp, 0, none⟩), .int .i64 (sent + 1 : Nat), .map (some bm)]
  pids : IsPids W gp bp 65535 x (onB (fun y => decide (y ∈ ids L)) x) (L.length + 1)
  map : AMap Try.prog 3 intKE FV.agg W bm (L.map ent24)
  props : FProps W L
  own : PIn W B q.pa q.m.props
theorem SndIn.below {w W W' : World} {k g gp bp bm B : Nat} {L : FL} {x sent : Nat} {q : QV} (h : SndIn w W k g gp bp bm B L x sent q) (hb : Below W.heap.size W W') : SndIn w W' k g gp bp bm B L x sent q :=
  ⟨h.fr.then (Fr.of_below hb), h.box.below hb h.box.lt, h.blk.below hb h.blk.lt, h.pids.then (Fr.of_below hb), h.map.below hb h.map.lt, h.props.below hb, h.own.below hb⟩
theorem below_dn {B : Nat} {a w : World} (h : Below B a w) (n : Nat) : Below B a (w.drewN n) := ⟨h.os, h.tape, h.output, h.size, h.block⟩
theorem SndIn.drewN {w W : World} {k g gp bp bm B : Nat} {L : FL} {x sent : Nat} {q : QV} (h : SndIn w W k g gp bp bm B L x sent q) (d : Nat) : SndIn w (W.drewN d) k g gp bp bm B L x sent q := h.below (below_dn (Below.refl _ _) d)
theorem onB_ids (x : Int) (L : FL) (f : FV) (hf : f.id = x) : onB (fun y => decide (y ∈ ids L)) x = fun y => decide (y ∈ ids (L ++ [f])) := by
  funext y
  unfold onB ids
  rw [List.map_append]
  by_cases h : y = x
  · rw [if_pos h]
    symm
    apply decide_eq_true
    simp [h, hf]
  · rw [if_neg h]
    apply decide_eq_decide.2
    simp [hf, h]
/-- The message is put. -/
theorem SndIn.put {w W : World} {k B : Nat} {x : Nat} {qos : Int} {q : QV} (h : SndIn w W k g gp bp bm B L x sent q) (h0 : OutI w g gp bp bm L last sent) (hf : sent < 1000) (hx : (x : Int) ∉ ids L) (hx2 : 1 ≤ x ∧ x ≤ 65535) {pa : Option Addr} {pc : Nat} (hp : PIn W 0 pa q.m.props) (hl : q.m.props.length ≤ 1000) :
    ∃ W', (Instr.mapUpdate 30 (.map (some bm)) (.int .i64 x) (FV.agg ⟨x, qos, ⟨q.m, pa, pc⟩, (sent + 1 : Nat)⟩)).run Try.prog W = .ok () W' ∧ Out3 w g gp bp bm (L ++ [⟨x, qos, ⟨q.m, pa, pc⟩, (sent + 1 : Nat)⟩]) x (sent + 1) W' ∧ (∀ y t cs, Blk W y t cs → Blk W' y t cs) := by
  have hw := wf_id (i := (x : Int)) (by omega)
  obtain ⟨n1, n2, n3, n4, n5⟩ := h0.nef
  obtain ⟨W', hrun, hm, hg⟩ := h.map.put (x := (x : Int)) KI Try.underlying30 intKE_inj (by rw [List.length_map]; have := h0.len; have := h0.few; unfold maxLen; omega) (intKE_ok Try.underlying3 hw) (⟨x, qos, ⟨q.m, pa, pc⟩, (sent + 1 : Nat)⟩ : FV)
  have e1 : wo (x : Int) (L.map ent24) = L.map ent24 := List.filter_eq_self.2 fun p hp2 => decide_eq_true fun e => hx (by
    obtain ⟨f, hf2, rfl⟩ := List.mem_map.1 hp2
    exact List.mem_map.2 ⟨f, hf2, e⟩)
  rw [e1] at hm
  have hf1 : Fr [bm] W W' := (Fr.refl _ _).grown hg (fun b hb => by injection hb with hb; subst hb; exact .inl (List.mem_singleton_self _))
  have hm2 := hm.perm (M := (L ++ [(⟨x, qos, ⟨q.m, pa, pc⟩, (sent + 1 : Nat)⟩ : FV)]).map ent24) (by
    rw [List.map_append]
    exact (List.perm_append_comm (l₁ := [_])))
  have hnp : ∀ b ∈ [bm], ∀ cs, W.heap[b]? ≠ some (.cells cs 94 (0, 0)) := by
    intro b hb cs hc
    rw [List.mem_singleton] at hb
    subst hb
    exact h.map.ne (show Blk W b _ cs from hc) rfl
  refine ⟨W', hrun, ⟨⟨h.blk.fr hf1 (by simpa using n3), ?_, hm2, h0.ne, ?_, ?_, ?_, by omega, ?_⟩, ?_⟩, fun y t cs hb => hb.fr hf1 (by simpa using h.map.ne hb)⟩
  · have hp1 : IsPids W' gp bp 65535 x (onB (fun y => decide (y ∈ ids L)) x) (L.length + 1) := ⟨⟨h.pids.is.1.fr hf1 (by simpa using n5), h.pids.is.2.fr hf1 (by simpa using Ne.symm h0.ne)⟩, h.pids.ok⟩
    rw [onB_ids x L ⟨x, qos, ⟨q.m, pa, pc⟩, (sent + 1 : Nat)⟩ rfl] at hp1
    rw [List.length_append, List.length_singleton]
    exact hp1
  · refine List.pairwise_append.2 ⟨h0.ord, List.pairwise_singleton _ _, fun a ha b hb => ?_⟩
    rw [List.mem_singleton] at hb
    subst hb
    have := h0.le a ha
    show a.pl < ((sent + 1 : Nat) : Int)
    omega
  · intro f hf2
    rcases List.mem_append.1 hf2 with hf2 | hf2
    · have := h0.le f hf2
      omega
    · rw [List.mem_singleton] at hf2
      subst hf2
      exact Int.le_refl _
  · rw [List.length_append, List.length_singleton]
    have := h0.len
    omega
  · intro f hf2
    rcases List.mem_append.1 hf2 with hf2 | hf2
    · exact h.props.fr hf1 hnp f hf2
    · rw [List.mem_singleton] at hf2
      subst hf2
      exact ⟨hp.fr hf1 (fun b hb => ⟨Nat.zero_le _, hnp b hb⟩), hl⟩
  · exact (h.fr.mono (fun b hb _ => by simp at hb ⊢; rcases hb with rfl | rfl | rfl <;> simp)).trans hf1 (fun b hb _ => by simp at hb; subst hb; simp)
end
end Go.Proofs.Ytkbinmjbbmejpaa

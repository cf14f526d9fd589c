/- What is proved here: what Put does to retained messages. Conditions: those that each theorem names. -/
import Derived.Test.YtfmkeapbddhndaaDoorSto19
namespace Go.Proofs.YtfmkeapbddhndaaDoor
open Go.RowKit Go.Extern.Stop Go.Stop Go.Extern Go.Maps Go.Deep
set_option maxRecDepth 100000
/-- Without those of a topic. -/
def woT (s : ByteArray) (L : QL) : QL := L.filter (fun q => decide (q.m.topic ≠ s))
theorem woT_ent (s : ByteArray) (L : QL) : wo s (L.map entQ) = (woT s L).map entQ := by
  unfold wo woT
  rw [List.filter_map]
  rfl
theorem mem_woT {s : ByteArray} {L : QL} {q : QV} : q ∈ woT s L ↔ q ∈ L ∧ q.m.topic ≠ s := by simp [woT, List.mem_filter]
theorem woT_le (s : ByteArray) (L : QL) : (woT s L).length ≤ L.length := List.length_filter_le _ _
theorem tySt : Ty Tryd.prog 72 #[.int .i64 0, .map none] := ty_mk (n := 2) (by kernel_rfl) rfl Tryd.underlying72 rfl (by kernel_rfl) rfl
section
variable {w W : World} {g bm : Nat} {most : Int} {L : QL} {S : Nat → Addr}
/-- What a step of the store's own may change. -/
def St2 (w : World) (g bm : Nat) (most : Int) (L : QL) (w' : World) : Prop := StI w' g bm most L ∧ Fr [bm] w w'
theorem StI.noprop (h : StI w g bm most L) : ∀ cs, w.heap[bm]? ≠ some (.cells cs 109 (0, 0)) := fun cs hc => by
  obtain ⟨D, hD, _⟩ := h.map
  obtain ⟨es, clock, hb, _⟩ := hD
  rw [hb] at hc
  cases hc
theorem StI.del (h : StI w g bm most L) {s : ByteArray} (hs : s.size ≤ maxLen) (ty : TypeId) :
    ∃ w', (Builtin.delete_ #[70, 9] ty #[.map (some bm), .string s]).run Tryd.prog w = .ok (.tuple #[]) w' ∧ St2 w g bm most (woT s L) w' := by
  obtain ⟨w1, hrun, hm, hg⟩ := h.map.del (x := s) KS Tryd.underlying70 strKE_inj ty (strKE_ok Tryd.underlying9 hs)
  rw [woT_ent] at hm
  have hf : Fr [bm] w w1 := (Fr.refl _ _).grown hg (fun k hk => by injection hk with hk; subst hk; exact .inl (List.mem_singleton_self _))
  exact ⟨w1, hrun, ⟨h.blk.fr hf (by simpa using h.ne), hm, Nat.le_trans (woT_le _ _) h.few, fun q hq => ⟨(h.ms q (mem_woT.1 hq).1).1.fr hf fun b hb => ⟨Nat.zero_le _, by rw [List.mem_singleton.1 hb]; exact h.noprop⟩, (h.ms q (mem_woT.1 hq).1).2⟩⟩, hf⟩
theorem StI.put (h : StI w g bm most L) {q : QV} {pa : Option Addr} {pc : Nat} (hs : q.m.topic.size ≤ maxLen) (hl : L.length < 900) (hp : PIn w 0 pa q.m.props) (hn : q.m.props.length ≤ 1000) :
    ∃ w', (Instr.mapUpdate 70 (.map (some bm)) (.string q.m.topic) (QV.agg ⟨q.m, pa, pc⟩)).run Tryd.prog w = .ok () w' ∧ St2 w g bm most (⟨q.m, pa, pc⟩ :: woT q.m.topic L) w' := by
  obtain ⟨w1, hrun, hm, hg⟩ := h.map.put (x := q.m.topic) KS Tryd.underlying70 strKE_inj (by rw [List.length_map]; unfold maxLen; omega) (strKE_ok Tryd.underlying9 hs) ⟨q.m, pa, pc⟩
  rw [woT_ent] at hm
  have hf : Fr [bm] w w1 := (Fr.refl _ _).grown hg (fun k hk => by injection hk with hk; subst hk; exact .inl (List.mem_singleton_self _))
  have hX : ∀ b ∈ [bm], 0 ≤ b ∧ ∀ cs, w.heap[b]? ≠ some (.cells cs 109 (0, 0)) := fun b hb => ⟨Nat.zero_le _, by rw [List.mem_singleton.1 hb]; exact h.noprop⟩
  refine ⟨w1, hrun, ⟨h.blk.fr hf (by simpa using h.ne), hm, ?_, fun q' hq => ?_⟩, hf⟩
  · have := woT_le q.m.topic L
    rw [List.length_cons]
    omega
  · rcases List.mem_cons.1 hq with rfl | hq
    · exact ⟨hp.fr hf hX, hn⟩
    · exact ⟨(h.ms q' (mem_woT.1 hq).1).1.fr hf hX, (h.ms q' (mem_woT.1 hq).1).2⟩
set_option maxHeartbeats 4000000 in
/-- No name: no message. -/
theorem sput_no (o : Value) (ho : o = .pointer none ∨ ∃ g, o = .pointer (some ⟨g, 0, none⟩)) (q : QV) (hs : q.m.topic.size ≤ 1000) (he : EnvT w S) (hn : nameB q.m.topic = false) :
    Calls Tryd.prog 26 #[o, q.agg] w fun x w' => x = .returned (.bool false) ∧ Below w.heap.size w w' := by
  have HO := Lib.hid (Own.start [] w)
  have HN : Hid (∀ W, Below w.heap.size w W → Calls Tryd.prog 52 #[.string q.m.topic] W fun x w' => x = .returned (.bool false) ∧ Below W.heap.size W w') := Lib.hid fun W hb => by
    have := isName_any q.m.topic (by omega) (he.later hb)
    rw [hn] at this
    exact this
  have HQ := Lib.hid (show q.agg = .agg q.cells.toArray from rfl)
  have HC := Lib.hid (show q.cells.toArray[0]? = some (.string q.m.topic) from rfl)
  rw [HQ.out]
  clear hs he hn HQ
  generalize q.cells.toArray = qc at *
  go_enter Tryd.func26, Tryd.ntmps26
  rcases ho with rfl | ⟨g, rfl⟩
  all_goals
    go_upto_region 3 with (first
      | (refine wpo_box (t := 57) HO.out _ rfl rfl rfl ?_; clear HO; rintro k3 W1 hO; have HO := Lib.hid hO; clear hO; simp only [Act.put, List.setIfInBounds_toArray, List.set_cons_zero, List.set_cons_succ])
      | (refine wpo_zero tySt rfl rfl ?_)
      | (refine wpo_box (t := 72) HO.out _ rfl rfl rfl ?_; clear HO; rintro k10 W2 hO; have HO := Lib.hid hO; clear hO; simp only [Act.put, List.setIfInBounds_toArray, List.set_cons_zero, List.set_cons_succ]))
    have c0 := ((HO.out.blk _ (show (k3, 57, qc) ∈ _ by simp)).cell 0).trans HC.out
    have HN2 := Lib.hid (HN.out _ HO.out.bel)
    go_wp2_with fail
    refine HN2.out.mono ?_
    rintro x W3 ⟨rfl, hb⟩
    have HB := Lib.hid (HO.out.below hb)
    clear hb c0 HN2
    go_wp2_with fail
    go_ret
    exact ⟨rfl, HB.out.bel⟩
end
end Go.Proofs.YtfmkeapbddhndaaDoor

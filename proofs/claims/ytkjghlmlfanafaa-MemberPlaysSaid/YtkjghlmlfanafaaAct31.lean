/- What is proved here: joining, and coming and going, of members. Conditions: the members are there; few of them. -/
import Derived.Test.YtkjghlmlfanafaaAll31
import Derived.Deep.RegionHeld3
import Derived.Deep.AppendLies
import Derived.Deep.RegionLaw
namespace Go.Proofs.Ytkjghlmlfanafaa
open Go.RowKit Go.Extern.Stop Go.Stop Go.Extern
/-- What an act leaves: the members as they are then; nothing else changes but what is theirs. -/
structure MStep (w w' : World) (B g : Nat) (v v' : Value) (L' : ML) (gen' : Nat) : Prop where
  obj : MObj w' B g v' L' gen'
  fr : Fr (g :: v.ownBlock.toList) w w'
  own : ∀ k, v'.ownBlock = some k → v.ownBlock = some k ∨ w.heap.size ≤ k
def setQ (m : MV) (q : Int) : MV := { m with qos := q }
def setOn (m : MV) (b : Bool) : MV := { m with on := b }
theorem mcs_setq (L : ML) : ∀ i, i < L.length → ∀ q, mcs (L.set i (setQ (L.getD i m0) q)) = (mcs L).set (i * 4 + 2) (.int .i64 q) := by
  induction L with
  | nil => intro i hi; cases hi
  | cons p L ih =>
    intro i hi q
    rcases i with _ | i
    · rfl
    · rw [List.set_cons_succ, mcs_cons, mcs_cons, show (i + 1) * 4 + 2 = i * 4 + 2 + 1 + 1 + 1 + 1 by omega]
      simp only [List.set_cons_succ]
      rw [List.getD_cons_succ, ih i (by simpa using hi) q]
theorem mcs_seton (L : ML) : ∀ i, i < L.length → ∀ b, mcs (L.set i (setOn (L.getD i m0) b)) = (mcs L).set (i * 4 + 3) (.bool b) := by
  induction L with
  | nil => intro i hi; cases hi
  | cons p L ih =>
    intro i hi q
    rcases i with _ | i
    · rfl
    · rw [List.set_cons_succ, mcs_cons, mcs_cons, show (i + 1) * 4 + 3 = i * 4 + 3 + 1 + 1 + 1 + 1 by omega]
      simp only [List.set_cons_succ]
      rw [List.getD_cons_succ, ih i (by simpa using hi) q]
section
variable {w w' : World} {B g : Nat} {v : Value} {L : ML} {gen : Nat}
theorem MObj.step (h : MObj w B g v L gen) (hb : Below w.heap.size w w') : MStep w w' B g v v L gen := ⟨h.below hb, Fr.of_below hb, fun k hk => .inl hk⟩
theorem MObj.apart (h : MObj w B g v L gen) {k : Nat} (hk : v.ownBlock = some k) : g ≠ k := by
  rcases h.row.2 with ⟨rfl, _⟩ | ⟨gr, cap, cur, rfl, hB, hh, _⟩
  · cases hk
  · obtain rfl : gr = k := Option.some.inj hk
    exact h.blk.other hh (by decide)
/-- The world behind a store into the row. -/
theorem MObj.stored {L' : ML} {gr n cp j : Nat} {u : Value} (h : MObj w B g (.slice (some ⟨gr, 0, none⟩) n cp) L gen) (hl : L'.length = L.length) (hc : mcs L' = (mcs L).set j u) : MObj (w.setCell ⟨gr, j, none⟩ u) B g (.slice (some ⟨gr, 0, none⟩) n cp) L' gen := by
  have hne : g ≠ gr := h.apart rfl
  have hn : n = L.length := by
    obtain ⟨a, c, e⟩ := h.form
    injection e
  subst hn
  refine ⟨h.low, h.blk.far hne u, ?_⟩
  have := (h.row.stored j u).1
  rw [hl, hc]
  exact this
theorem grown_set (w : World) (g : Nat) (u : Value) : w.grownBy (w.setCell ⟨g, 0, none⟩ u) (some g) := ⟨rfl, rfl, rfl, by simp, fun k _ hk => Below.heap_setCell w _ _ k (fun e => hk (by rw [e]))⟩
theorem grown_set1 (w : World) (g : Nat) (u : Value) : w.grownBy (w.setCell ⟨g, 1, none⟩ u) (some g) := ⟨rfl, rfl, rfl, by simp, fun k _ hk => Below.heap_setCell w _ _ k (fun e => hk (by rw [e]))⟩
def JoinSays (w : World) (B g : Nat) (v : Value) (L : ML) (gen : Nat) (c : ByteArray) (q : Int) (x : Ending) (w' : World) : Prop :=
  (∃ i : Nat, idxM L c = i ∧ i < L.length ∧ x = .returned (.bool false) ∧ MStep w w' B g v v (L.set i (setQ (L.getD i m0) q)) gen) ∨
  (idxM L c = -1 ∧ x = .returned (.bool true) ∧ ∃ v', MStep w w' B g v v' (L ++ [MV.mk c ((gen : Int) + 1) q true]) (gen + 1))
set_option maxHeartbeats 1000000 in
theorem join_any (h : MObj w B g v L gen) (hm : L.length ≤ 900) (hg : gen ≤ 1000000) (c : ByteArray) (q : Int) : Calls Try.prog 54 #[.pointer (some ⟨g, 0, none⟩), .string c, .int .i64 q] w (JoinSays w B g v L gen c q) := by
  obtain ⟨i0, hi0, hz0, hz1, hz2⟩ := info_parts Try.memInfo
  have HF := Lib.hid (find_any h (by omega) c)
  have HM := Lib.hid h
  rcases idxM_or L c with ⟨i, hi, hil⟩ | hi
  · rw [hi] at HF
    have HI := Lib.hid hi
    clear hi h
    go_enter Try.func54, Try.ntmps54
    go_wp2_with fail
    refine HF.out.mono ?_
    rintro x w1 ⟨rfl, hb1⟩
    have hM1 := HM.out.below hb1
    have HM1 := Lib.hid hM1
    have HB1 := Lib.hid hb1
    obtain ⟨a, cp, rfl⟩ := hM1.form
    have c0 : w1.cell? ⟨g, 0, none⟩ = some (.slice a L.length cp) := hM1.blk.cell 0
    obtain ⟨gr, off, rfl, hcc⟩ := row_mrd hM1.row (by omega)
    have hoff : off = 0 := by
      rcases hM1.row.2 with ⟨e, _⟩ | ⟨_, _, _, e, _⟩
      · cases e
      · injection e with e; injection e with e; injection e
    subst hoff
    obtain ⟨c1, c2, c3, c4⟩ := hcc i hil
    have c3' : w1.cell? ⟨gr, i * 4 + 2, none⟩ = some (.int .i64 (L.getD i m0).qos) := by simpa using c3
    have f3 := hM1.row.frozenAt (i * 4 + 2)
    clear hcc hM1 hb1 HM c1 c2 c3 c4
    go_wp2_with fail
    go_ret
    refine .inl ⟨i, HI.out, hil, rfl, HM1.out.stored (by simp) (mcs_setq L i hil q), ?_, fun k hk => .inl hk⟩
    exact (Fr.of_below HB1.out).setCell (.inl (by simp [Value.ownBlock])) _
  · rw [hi] at HF
    have HI := Lib.hid hi
    clear hi h
    go_enter Try.func54, Try.ntmps54
    go_wp2_with fail
    refine HF.out.mono ?_
    rintro x w1 ⟨rfl, hb1⟩
    have hM1 := HM.out.below hb1
    have HB1 := Lib.hid hb1
    obtain ⟨a, cp, rfl⟩ := hM1.form
    have d1 : w1.cell? ⟨g, 1, none⟩ = some (.int .i64 gen) := hM1.blk.cell 1
    have f1 := hM1.blk.frozen 1
    have HM1 := Lib.hid hM1
    clear hM1 hb1 HM HF
    go_upto_region 8 with fail
    -- the world behind the generation's store
    have hne := fun k hk => HM1.out.apart (k := k) hk
    have hblk2 := HM1.out.blk.store 1 (.int .i64 ((gen : Int) + 1))
    have hrow2 : (w1.setCell ⟨g, 1, none⟩ (.int .i64 ((gen : Int) + 1))).ownsRow B 37 4 (.slice a L.length cp) L.length (mcs L) := by
      have hr := HM1.out.row
      refine hr.kept (grown_set1 w1 g _) ?_
      cases hv : Value.ownBlock (.slice a L.length cp) with
      | none => exact .inl rfl
      | some k => exact .inr (fun e => hne k hv (Option.some.inj e).symm)
    have hfr2 : Fr (g :: (Value.slice a L.length cp).ownBlock.toList) w (w1.setCell ⟨g, 1, none⟩ (.int .i64 ((gen : Int) + 1))) := (Fr.of_below HB1.out).setCell (.inl (by simp)) _
    obtain ⟨w2, hw2⟩ : ∃ x, x = w1.setCell ⟨g, 1, none⟩ (.int .i64 ((gen : Int) + 1)) := ⟨_, rfl⟩
    rw [← hw2] at hblk2 hrow2 hfr2 ⊢
    have HBLK := Lib.hid hblk2
    have HROW := Lib.hid hrow2
    have HFR := Lib.hid hfr2
    have hfar : some g ≠ (Value.slice a L.length cp).ownBlock := fun e => hne g e.symm rfl
    have hBs : B ≤ w2.heap.size := Nat.le_trans HM1.out.low (Nat.le_of_lt HBLK.out.lt)
    have KS := Lib.hid (fun W (h : Blk W g 28 #[.slice a L.length cp, .int .i64 ((gen : Int) + 1)]) => show W.cell? ⟨g, 0, none⟩ = some (.slice a L.length cp) ∧ W.cell? ⟨g, 1, none⟩ = some (.int .i64 ((gen : Int) + 1)) ∧ W.frozen? ⟨g, 0, none⟩ = false from ⟨h.cell 0, h.cell 1, h.frozen 0⟩)
    have hS := KS.out _ HBLK.out
    clear hblk2 hrow2 hfr2 hw2 f1 d1
    have q0 : w2.drew.cell? ⟨g, 0, none⟩ = some (.slice a L.length cp) := hS.1
    have q1 : w2.drew.cell? ⟨g, 1, none⟩ = some (.int .i64 ((gen : Int) + 1)) := hS.2.1
    have q2 : w2.frozen? ⟨g, 0, none⟩ = false := hS.2.2
    have q3 : (w2.alloc (.cells #[.string c, .int .i64 ((gen : Int) + 1), .int .i64 q, .bool true] 37)).cell? ⟨g, 0, none⟩ = some (.slice a L.length cp) := (HBLK.out.alloc _).cell 0
    go_region_law ((refine step_append_lies _ (by rfl) _ _ _ (by rfl) B 37 i0 (.agg #[.string ⟨#[]⟩, .int .i64 0, .int .i64 0, .bool false]) 4 40 Try.underlying26 hi0 hz0 hz1 hz2 (by rfl) (by decide) (.slice a L.length cp) L.length (mcs L) (by rfl) (HROW.out.drew.alloc _) ⟨w2.heap.size, 0, none⟩ 1 1 [.string c, .int .i64 ((gen : Int) + 1), .int .i64 q, .bool true] (by rfl) (by rfl) (World.news_of_block (heap_alloc_new _ _)) (mcs_ones [MV.mk c ((gen : Int) + 1) q true]) (by omega) (by unfold maxLen; omega) (by omega) (Nat.le_trans hBs (by simp)) _ rfl ?_; intro gg cap w3 hown3 hgrow hat hlt; have z0 : w3.cell? ⟨g, 0, none⟩ = some (.slice a L.length cp) := ((HBLK.out.drew.alloc _).grown hgrow hfar).cell 0; have z1 : w3.frozen? ⟨g, 0, none⟩ = false := ((HBLK.out.drew.alloc _).grown hgrow hfar).frozen 0))
    all_goals
      have hb3 : Blk (w3.setCell ⟨g, 0, none⟩ (.slice (some ⟨gg, 0, none⟩) (L.length + 1) cap)) g 28 #[.slice (some ⟨gg, 0, none⟩) (L.length + 1) cap, .int .i64 ((gen : Int) + 1)] := ((HBLK.out.drew.alloc (.cells #[.string c, .int .i64 ((gen : Int) + 1), .int .i64 q, .bool true] 37)).grown hgrow hfar).store 0 (.slice (some ⟨gg, 0, none⟩) (L.length + 1) cap)
      have hgg : g ≠ gg := by
        rcases hat with h | h
        · exact hne gg h
        · have h1 := HBLK.out.lt
          have h2 : gg = w2.heap.size + 1 := by simpa using h
          omega
      have hr3 : (w3.setCell ⟨g, 0, none⟩ (.slice (some ⟨gg, 0, none⟩) (L.length + 1) cap)).ownsRow B 37 4 (.slice (some ⟨gg, 0, none⟩) (L.length + 1) cap) (L ++ [MV.mk c ((gen : Int) + 1) q true]).length (mcs (L ++ [MV.mk c ((gen : Int) + 1) q true])) := by
        rw [List.length_append, mcs_app]
        exact hown3.kept (grown_set w3 g _) (.inr fun e => hgg (Option.some.inj e).symm)
      have hf3 : Fr (g :: (Value.slice a L.length cp).ownBlock.toList) w (w3.setCell ⟨g, 0, none⟩ (.slice (some ⟨gg, 0, none⟩) (L.length + 1) cap)) :=
        (((HFR.out.drew.alloc (.cells #[.string c, .int .i64 ((gen : Int) + 1), .int .i64 q, .bool true] 37)).grown hgrow (fun k hk => .inl (by simp [hk]))).setCell (.inl (by simp)) _)
      have ho3 : ∀ k, (Value.slice (some ⟨gg, 0, none⟩) (L.length + 1) cap).ownBlock = some k → (Value.slice a L.length cp).ownBlock = some k ∨ w.heap.size ≤ k := fun k hk => by
        obtain rfl : gg = k := Option.some.inj hk
        rcases hat with h | h
        · exact .inl h
        · have h1 := HFR.out.size
          have h2 : gg = w2.heap.size + 1 := by simpa using h
          exact .inr (by omega)
      have HE := Lib.hid (show JoinSays w B g (.slice a L.length cp) L gen c q (.returned (.bool true)) (w3.setCell ⟨g, 0, none⟩ (.slice (some ⟨gg, 0, none⟩) (L.length + 1) cap)) from
        Or.inr ⟨HI.out, rfl, .slice (some ⟨gg, 0, none⟩) (L.length + 1) cap, MStep.mk (MObj.mk HM1.out.low hb3 hr3) hf3 ho3⟩)
      clear hb3 hgg hr3 hf3 ho3 hown3 hgrow hat hlt z0 z1 q0 q1 q2 q3 hS hne hfar
      go_wp2_with fail
      go_ret
      exact HE.out
end
end Go.Proofs.Ytkjghlmlfanafaa

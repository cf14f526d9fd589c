/- What is proved here: a message is taken away; a new Out; how many there are. Conditions: those that each theorem names. -/
import Derived.Test.YtkbinmjbbmejpaaOpb24
namespace Go.Proofs.Ytkbinmjbbmejpaa
open Go.RowKit Go.Extern.Stop Go.Stop Go.Extern Go.Maps
set_option maxRecDepth 100000
/-- All but those of a number. -/
def wof (i : Int) (L : FL) : FL := L.filter (fun f => decide (f.id ≠ i))
theorem wof_ent (i : Int) (L : FL) : wo i (L.map ent24) = (wof i L).map ent24 := by
  unfold wo wof
  rw [List.filter_map]
  rfl
theorem mem_wof {i : Int} {L : FL} {f : FV} : f ∈ wof i L ↔ f ∈ L ∧ f.id ≠ i := by
  unfold wof
  rw [List.mem_filter]
  simp
theorem ids_wof (i : Int) (L : FL) : offB (fun x => decide (x ∈ ids L)) i = fun x => decide (x ∈ ids (wof i L)) := by
  funext x
  unfold offB
  by_cases h : x = i
  · rw [if_pos h]
    subst h
    symm
    apply decide_eq_false
    intro hm
    obtain ⟨f, hf, e⟩ := List.mem_map.1 hm
    exact (mem_wof.1 hf).2 e
  · rw [if_neg h]
    apply decide_eq_decide.2
    constructor
    · intro hm
      obtain ⟨f, hf, e⟩ := List.mem_map.1 hm
      exact List.mem_map.2 ⟨f, mem_wof.2 ⟨hf, fun e2 => h (e.symm.trans e2)⟩, e⟩
    · intro hm
      obtain ⟨f, hf, e⟩ := List.mem_map.1 hm
      exact List.mem_map.2 ⟨f, (mem_wof.1 hf).1, e⟩
theorem wof_len {i : Int} : ∀ {L : FL}, (ids L).Nodup → i ∈ ids L → (wof i L).length = L.length - 1
  | [], _, h => by cases h
  | f :: L, hn, h => by
    obtain ⟨h1, h2⟩ := List.nodup_cons.1 hn
    unfold wof
    by_cases hf : f.id = i
    · rw [List.filter_cons, if_neg (by simpa using hf)]
      have : L.filter (fun f => decide (f.id ≠ i)) = L := List.filter_eq_self.2 fun q hq => decide_eq_true fun e => h1 (by
        show f.id ∈ ids L
        rw [hf, ← e]
        exact List.mem_map.2 ⟨q, hq, rfl⟩)
      rw [this]
      simp
    · rw [List.filter_cons, if_pos (by simpa using hf)]
      have hi : i ∈ ids L := by
        rcases List.mem_cons.1 h with e | e
        · exact absurd e.symm hf
        · exact e
      have := wof_len h2 hi
      unfold wof at this
      rw [List.length_cons, this, List.length_cons]
      have : 0 < L.length := by
        obtain ⟨q, hq, _⟩ := List.mem_map.1 hi
        exact List.length_pos_of_mem hq
      omega
theorem wof_le (i : Int) (L : FL) : (wof i L).length ≤ L.length := List.length_filter_le _ _
section
variable {w : World} {g gp bp bm : Nat} {L : FL} {last sent : Nat}
theorem OutI.nodup (h : OutI w g gp bp bm L last sent) : (ids L).Nodup := by
  have h1 := h.map.apart KI
  rw [List.pairwise_map] at h1
  unfold ids
  rw [List.Nodup, List.pairwise_map]
  exact h1.imp fun hne e => hne (congrArg intKE.kl e)
theorem OutI.range (h : OutI w g gp bp bm L last sent) {i : Int} (hi : i ∈ ids L) : 1 ≤ i ∧ i ≤ 65535 := by
  have := h.pids.ok.range i (decide_eq_true hi)
  omega
theorem wf_id {i : Int} (h : 1 ≤ i ∧ i ≤ 65535) : (Lit.int .i64 i).wf = true := WalkArith.wf_i64 (by omega)
theorem OutI.noprop (h : OutI w g gp bp bm L last sent) : ∀ b ∈ [g, gp, bp, bm], ∀ cs, w.heap[b]? ≠ some (.cells cs 94 (0, 0)) := by
  intro b hb cs hc
  simp only [List.mem_cons, List.not_mem_nil, or_false] at hb
  rcases hb with rfl | rfl | rfl | rfl
  · exact h.blk.other hc (by decide) rfl
  · exact h.pids.is.1.other hc (by decide) rfl
  · exact h.pids.is.2.ne (show Blk w b _ cs from hc) rfl
  · exact h.map.ne (show Blk w b _ cs from hc) rfl
/-- What a method that changes an Out may change. -/
def Out3 (w : World) (g gp bp bm : Nat) (L : FL) (last sent : Nat) (w' : World) : Prop := OutI w' g gp bp bm L last sent ∧ Fr [g, gp, bp, bm] w w'
set_option maxHeartbeats 2000000 in
theorem remove_any (h : OutI w g gp bp bm L last sent) {i : Int} (hi : i ∈ ids L) :
    Calls Try.prog 36 #[.pointer (some ⟨g, 0, none⟩), .int .i64 i] w fun x w' => x = .returned (.tuple #[]) ∧ Out3 w g gp bp bm (wof i L) last sent w' := by
  have hw := wf_id (h.range hi)
  obtain ⟨n1, n2, n3, n4, n5⟩ := h.nef
  obtain ⟨w1, hrun, hs, hg⟩ := h.map.del (x := i) KI Try.underlying30 intKE_inj 0 (intKE_ok Try.underlying3 hw)
  rw [wof_ent] at hs
  have hrun2 : (Builtin.delete_ #[30, 3] 0 #[.map (some bm), .int .i64 i]).run Try.prog w = .ok (.tuple #[]) w1 := hrun
  have hf1 : Fr [bm] w w1 := (Fr.refl _ _).grown hg (fun k hk => by injection hk with hk; subst hk; exact .inl (List.mem_singleton_self _))
  have hp1 : IsPids w1 gp bp 65535 last (fun x => decide (x ∈ ids L)) L.length := ⟨⟨h.pids.is.1.fr hf1 (by simpa using n5), h.pids.is.2.fr hf1 (by simpa using Ne.symm h.ne)⟩, h.pids.ok⟩
  have HP := Lib.hid (pids_free hp1 i hw)
  rw [decide_eq_true hi, if_pos rfl, if_pos rfl, ids_wof, ← wof_len h.nodup hi] at HP
  have c0 := h.blk.cell 0
  have c2 := h.blk.cell 2
  have d0 := (h.blk.fr hf1 (by simpa using n3)).cell 0
  have HH := Lib.hid h
  have HS := Lib.hid hs
  have HF := Lib.hid hf1
  have HN := Lib.hid (And.intro n1 (And.intro n2 (And.intro n3 (And.intro n4 n5))))
  clear h hw hs hg hrun hf1 hp1 n1 n2 n3 n4 n5 hi
  go_enter Try.func36, Try.ntmps36
  go_wp2_with fail
  refine HP.out.mono ?_
  rintro x w2 ⟨rfl, hp2, hf2⟩
  have HP2 := Lib.hid hp2
  have HF2 := Lib.hid hf2
  clear hp2 hf2 HP
  go_wp2_with fail
  obtain ⟨n1, n2, n3, n4, n5⟩ := HN.out
  have h := HH.out
  have hfr : Fr [g, gp, bp, bm] w w2 := (HF.out.mono (fun b hb _ => by simp at hb; subst hb; simp)).trans HF2.out (fun b hb _ => by simp at hb; rcases hb with rfl | rfl <;> simp)
  refine bodyPost_end (v := .tuple #[]) (by simp [results, Try.results36, go_sem]) rfl ⟨rfl, ⟨?_, HP2.out, ?_, h.ne, h.ord.filter _, ?_, ?_, h.few, ?_⟩, hfr⟩
  · exact (h.blk.fr HF.out (by simpa using n3)).fr HF2.out (by simp; exact ⟨n1, n2⟩)
  · exact HS.out.fr HF2.out (by simp; exact ⟨Ne.symm n5, h.ne⟩)
  · exact fun f hf => h.le f (mem_wof.1 hf).1
  · exact Nat.le_trans (wof_le _ _) h.len
  · exact fun f hf => h.props.fr hfr h.noprop f (mem_wof.1 hf).1
end
end Go.Proofs.Ytkbinmjbbmejpaa

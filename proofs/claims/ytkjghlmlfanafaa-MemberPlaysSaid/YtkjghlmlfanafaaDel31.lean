/- What is proved here: leaving of members. Conditions: the members are there; few of them. -/
import Derived.Test.YtkjghlmlfanafaaOnl31
import Derived.Deep.Upon
namespace Go.Proofs.Ytkjghlmlfanafaa
open Go.RowKit Go.Extern.Stop Go.Stop Go.Extern
/-- Cells with others laid over them from a place on. -/
def layA (cs : Array Value) : Nat → List Value → Array Value
  | _, [] => cs
  | o, v :: r => layA (cs.setIfInBounds o v) (o + 1) r
theorem layA_size : ∀ (vs : List Value) (o : Nat) (cs : Array Value), (layA cs o vs).size = cs.size
  | [], _, _ => rfl
  | v :: r, o, cs => by rw [layA, layA_size r]; simp
theorem layA_list : ∀ (vs : List Value) (o : Nat) (cs : Array Value), o + vs.length ≤ cs.size → (layA cs o vs).toList = cs.toList.take o ++ vs ++ cs.toList.drop (o + vs.length)
  | [], o, cs, _ => by simp [layA]
  | v :: r, o, cs, h => by
    simp only [List.length_cons] at h
    have hl : o < cs.toList.length := by rw [Array.length_toList]; omega
    rw [layA, layA_list r (o + 1) _ (by rw [Array.size_setIfInBounds]; omega), Array.toList_setIfInBounds]
    have e1 : (cs.toList.set o v).take (o + 1) = cs.toList.take o ++ [v] := by
      rw [List.take_succ_eq_append_getElem (by rw [List.length_set]; exact hl), List.take_set_of_le (Nat.le_refl _)]
      simp
    have e2 : (cs.toList.set o v).drop (o + 1 + r.length) = cs.toList.drop (o + (v :: r).length) := by
      rw [List.drop_set_of_lt (by omega)]
      congr 1
      simp only [List.length_cons]
      omega
    rw [e1, e2]
    simp
theorem setCells_blk {t : TypeId} {g : Nat} : ∀ (vs : List Value) (o : Nat) (w : World) (cs : Array Value), w.heap[g]? = some (.cells cs t (0, 0)) → (w.setCells g o vs).heap[g]? = some (.cells (layA cs o vs) t (0, 0))
  | [], _, _, _, h => h
  | v :: r, o, _, _, h => setCells_blk r (o + 1) _ _ ((Blk.store (t := t) h o v : Blk _ _ _ _))
theorem setCells_size (g : Nat) : ∀ (vs : List Value) (o : Nat) (w : World), (w.setCells g o vs).heap.size = w.heap.size
  | [], _, _ => rfl
  | v :: r, o, w => by rw [World.setCells, setCells_size g r]; simp [World.setCell]
theorem setCells_grown (g : Nat) : ∀ (vs : List Value) (o : Nat) (w : World), w.grownBy (w.setCells g o vs) (some g)
  | [], _, w => ⟨rfl, rfl, rfl, Nat.le_refl _, fun _ _ _ => rfl⟩
  | v :: r, o, w => by
    have h := setCells_grown g r (o + 1) (w.setCell ⟨g, o, none⟩ v)
    have hs : (w.setCell ⟨g, o, none⟩ v).heap.size = w.heap.size := by simp [World.setCell]
    exact ⟨h.os, h.tape, h.output, by rw [← hs]; exact h.size, fun k hk hn => (h.block k (by rw [hs]; exact hk) hn).trans (Below.heap_setCell w _ _ k (fun e => hn (by rw [e])))⟩
theorem z37 (w : World) : (zeroValue 37).run Try.prog w = .ok (.agg #[.string ⟨#[]⟩, .int .i64 0, .int .i64 0, .bool false]) w := by kernel_rfl
/-- clear of one member. -/
theorem run_clear1 (w : World) (ty : TypeId) (g o c : Nat) (hc : ∀ j, j < 4 → (w.cell? ⟨g, o + j, none⟩).isSome = true) (hf : ∀ j, j < 4 → w.frozen? ⟨g, o + j, none⟩ = false) :
    (Builtin.clear_ #[26] ty #[.slice (some ⟨g, o, none⟩) 1 c]).run Try.prog w = .ok (.tuple #[]) (w.setCells g o [.string ⟨#[]⟩, .int .i64 0, .int .i64 0, .bool false]) := by
  have hzc : (Builtin.zeroCells (Value.agg #[.string ⟨#[]⟩, .int .i64 0, .int .i64 0, .bool false]).cells 1).toList = [.string ⟨#[]⟩, .int .i64 0, .int .i64 0, .bool false] := by kernel_rfl
  have hst := run_storeCells_cells (P := Try.prog) g o [.string ⟨#[]⟩, .int .i64 0, .int .i64 0, .bool false] 0 w (by simpa using hc) (by simpa using hf) (by intro v hv; simp at hv; rcases hv with rfl | rfl | rfl | rfl <;> rfl)
  simp only [Nat.add_zero] at hst
  simp [Builtin.clear_, run_underlying Try.underlying26, hzc, hst]
theorem mcs_erase (L : ML) : ∀ i, i < L.length → mcs (L.eraseIdx i) = (mcs L).take (i * 4) ++ (mcs L).drop ((i + 1) * 4) := by
  induction L with
  | nil => intro i hi; cases hi
  | cons p L ih =>
    intro i hi
    rcases i with _ | i
    · rfl
    · rw [List.eraseIdx_cons_succ, mcs_cons, mcs_cons, show (i + 1) * 4 = i * 4 + 1 + 1 + 1 + 1 by omega, show (i + 1 + 1) * 4 = (i + 1) * 4 + 1 + 1 + 1 + 1 by omega]
      simp only [List.take_succ_cons, List.drop_succ_cons, List.cons_append]
      rw [ih i (by simpa using hi)]
section
variable {w w' : World} {B g : Nat} {v : Value} {L : ML} {gen : Nat}
/-- Deleting one of a row's members. -/
theorem delete_any {gr cp : Nat} {cur : Array Value} (hh : w.heap[gr]? = some (.cells cur 37 (0, 0))) (hcs : cur.size = cp * 4) (hlc : L.length ≤ cp) (htk : cur.toList.take (L.length * 4) = mcs L) (hm : L.length ≤ 1000) (i : Nat) (hi : i < L.length) :
    Calls Try.prog 65 #[.slice (some ⟨gr, 0, none⟩) L.length cp, .int .i64 i, .int .i64 ((i : Int) + 1)] w fun x w' => x = .returned (.slice (some ⟨gr, 0, none⟩) (L.length - 1) cp) ∧
      (∃ cur', w'.heap[gr]? = some (.cells cur' 37 (0, 0)) ∧ cur'.size = cp * 4 ∧ cur'.toList.take ((L.length - 1) * 4) = mcs (L.eraseIdx i)) ∧ w.grownBy w' (some gr) := by
  obtain ⟨i0, hi0, hz0, hz1, hz2⟩ := info_parts Try.memInfo
  obtain ⟨news, hnews⟩ : ∃ news, news = (mcs L).drop ((i + 1) * 4) := ⟨_, rfl⟩
  have hlen : news.length = (L.length - (i + 1)) * 4 := by rw [hnews, List.length_drop, mcs_len]; omega
  have hcell : ∀ j, j < cur.size → w.cell? ⟨gr, j, none⟩ = cur[j]? := fun j hj => by simp [World.cell?, hh]
  have hfro : ∀ j, w.frozen? ⟨gr, j, none⟩ = false := fun j => by simp [World.frozen?, hh]
  have hone : ∀ u ∈ news, u.oneCell' = true := fun u hu => mcs_ones L u (by rw [hnews] at hu; exact List.mem_of_mem_drop hu)
  obtain ⟨A, hA, hsrc⟩ : ∃ A : Addr, (if cp = i + 1 then some (⟨gr, 0, none⟩ : Addr) else some ⟨gr, (i + 1) * 4, none⟩) = some A ∧ ∀ t u, news[t]? = some u → w.drew.cell? (A.add t) = some u := by
    by_cases h : cp = i + 1
    · refine ⟨⟨gr, 0, none⟩, by simp [h], fun t u hu => ?_⟩
      have h0 : news.length = 0 := by rw [hlen]; omega
      rw [List.length_eq_zero_iff.1 h0] at hu
      simp at hu
    · refine ⟨⟨gr, (i + 1) * 4, none⟩, by simp [h], fun t u hu => ?_⟩
      have ht := (List.getElem?_eq_some_iff.1 hu).1
      rw [hlen] at ht
      rw [add_to]
      show w.cell? _ = some u
      rw [hcell _ (by omega), ← Array.getElem?_toList]
      rw [hnews, List.getElem?_drop, ← htk, List.getElem?_take, if_pos (by omega)] at hu
      exact hu
  have hroom : ∀ t, t < news.length → (w.drew.cell? ⟨gr, 0 + i * 4 + t, none⟩).isSome = true ∧ w.drew.frozen? ⟨gr, 0 + i * 4 + t, none⟩ = false := fun t ht => by
    rw [hlen] at ht
    refine ⟨?_, hfro _⟩
    show (w.cell? _).isSome = true
    rw [hcell _ (by omega)]
    rw [Array.getElem?_eq_getElem (by omega)]
    rfl
  obtain ⟨W1, hW1⟩ : ∃ W1, W1 = w.drew.setCells gr (0 + i * 4) news := ⟨_, rfl⟩
  have hb1 : W1.heap[gr]? = some (.cells (layA cur (i * 4) news) 37 (0, 0)) := by rw [hW1, Nat.zero_add]; exact setCells_blk news (i * 4) w.drew cur hh
  have hg1 : w.grownBy W1 (some gr) := by
    rw [hW1]
    have h := setCells_grown gr news (0 + i * 4) w.drew
    exact ⟨h.os, h.tape, h.output, h.size, h.block⟩
  have hs1 : (layA cur (i * 4) news).size = cp * 4 := by rw [layA_size]; exact hcs
  have hls1 : (layA cur (i * 4) news).toList.length = cp * 4 := by rw [Array.length_toList (xs := layA cur (i * 4) news)]; exact hs1
  have hlc0 : cur.toList.length = cp * 4 := by rw [Array.length_toList (xs := cur)]; exact hcs
  have hl1 := layA_list news (i * 4) cur (by rw [hlen]; omega)
  have hc1 : ∀ j, j < 4 → (W1.cell? ⟨gr, (L.length - 1) * 4 + j, none⟩).isSome = true := fun j hj => by
    simp only [World.cell?, hb1]
    rw [show (layA cur (i * 4) news)[(L.length - 1) * 4 + j]? = some ((layA cur (i * 4) news)[(L.length - 1) * 4 + j]'(by omega)) from Array.getElem?_eq_getElem _]
    rfl
  have hf1 : ∀ j, j < 4 → W1.frozen? ⟨gr, (L.length - 1) * 4 + j, none⟩ = false := fun j _ => by simp [World.frozen?, hb1]
  have HCL := Lib.hid (fun ty c => run_clear1 W1 ty gr ((L.length - 1) * 4) c hc1 hf1)
  have HEND := Lib.hid (show (∃ cur', (W1.setCells gr ((L.length - 1) * 4) [.string ⟨#[]⟩, .int .i64 0, .int .i64 0, .bool false]).heap[gr]? = some (.cells cur' 37 (0, 0)) ∧ cur'.size = cp * 4 ∧ cur'.toList.take ((L.length - 1) * 4) = mcs (L.eraseIdx i)) ∧
      w.grownBy (W1.setCells gr ((L.length - 1) * 4) [.string ⟨#[]⟩, .int .i64 0, .int .i64 0, .bool false]) (some gr) from by
    have hg2 := setCells_grown gr [.string ⟨#[]⟩, .int .i64 0, .int .i64 0, .bool false] ((L.length - 1) * 4) W1
    refine ⟨⟨_, setCells_blk _ _ W1 _ hb1, by rw [layA_size]; exact hs1, ?_⟩, ⟨hg2.os.trans hg1.os, hg2.tape.trans hg1.tape, hg2.output.trans hg1.output, Nat.le_trans hg1.size hg2.size, fun k hk hn => (hg2.block k (Nat.lt_of_lt_of_le hk hg1.size) hn).trans (hg1.block k hk hn)⟩⟩
    rw [layA_list _ _ _ (by rw [hs1]; show (L.length - 1) * 4 + 4 ≤ _; omega), List.append_assoc, List.take_append_of_le_length (by rw [List.length_take, hls1]; omega), List.take_take, Nat.min_self, hl1, mcs_erase L i hi, ← hnews]
    have e1 : cur.toList.take (i * 4) = (mcs L).take (i * 4) := by rw [← htk, List.take_take, Nat.min_eq_left (by omega)]
    have e2 : (cur.toList.take (i * 4) ++ news).length = (L.length - 1) * 4 := by rw [List.length_append, List.length_take, hlc0, hlen]; omega
    rw [List.take_append_of_le_length (by rw [e2]; exact Nat.le_refl _), List.take_of_length_le (by rw [e2]; exact Nat.le_refl _), e1])
  have HSR := Lib.hid hsrc
  have HRM := Lib.hid hroom
  have HW1 := Lib.hid hW1
  have hic : i ≤ cp := by omega
  have hjc : i + 1 ≤ cp := by omega
  obtain ⟨n, hn⟩ : ∃ n, n = L.length := ⟨_, rfl⟩
  rw [← hn] at HCL HEND hlen hlc hi hm ⊢
  have HN := Lib.hid hn
  clear hsrc hroom hW1 hb1 hg1 hs1 hls1 hlc0 hl1 hc1 hf1 hcell hfro hh hcs htk hnews hn
  obtain ⟨j, hj⟩ : ∃ j, j = i + 1 := ⟨_, rfl⟩
  have ej : ((i : Int) + 1) = ((j : Nat) : Int) := by rw [hj]; rfl
  rw [← hj] at hA hlen hjc
  have hij : i < j := by omega
  have hjn : j ≤ n := by omega
  have hij2 : ((i : Int) == (j : Int)) = false := beq_eq_false_iff_ne.2 (by omega)
  have HJ := Lib.hid hj
  rw [ej]
  have hn1 : i + (n - j) = n - 1 := by omega
  obtain ⟨p, rfl⟩ : ∃ p, n = p + 1 := ⟨n - 1, by omega⟩
  simp only [Nat.add_sub_cancel] at HCL HEND hn1 ⊢
  have hji : (j : Int) ≤ (p : Int) + 1 := by omega
  clear ej hj
  go_enter Try.func65, Try.ntmps65
  go_upto_region 5 with fail
  go_region_law (refine step_append_room rfl (.tmp 22) (.tmp 25) 26 rfl 37 i0 4 Try.underlying26 hi0 hz1 gr 0 i cp (by simp [Act.eval, Act.put]) A (p + 1 - j) (cp - j) news (by simp [Act.eval, Act.put]) hlen HSR.out hone (by omega) HRM.out ?_; rw [← HW1.out])
  have hcl := HCL.out
  have hpp : p + 1 - p = 1 := by omega
  clear hA hone HSR HRM HW1 HCL hz0 hi0
  go_wp2_with fail
  go_ret
  exact ⟨rfl, HEND.out.1, HEND.out.2⟩
def LeaveSays (w : World) (B g : Nat) (v : Value) (L : ML) (gen : Nat) (c : ByteArray) (x : Ending) (w' : World) : Prop :=
  (∃ i : Nat, idxM L c = i ∧ i < L.length ∧ x = .returned (.bool true) ∧ ∃ v', MStep w w' B g v v' (L.eraseIdx i) (gen + 1)) ∨ (idxM L c = -1 ∧ x = .returned (.bool false) ∧ MStep w w' B g v v L gen)
set_option maxHeartbeats 1000000 in
theorem leave_any (h : MObj w B g v L gen) (hm : L.length ≤ 900) (hg : gen ≤ 1000000) (c : ByteArray) : Calls Try.prog 56 #[.pointer (some ⟨g, 0, none⟩), .string c] w (LeaveSays w B g v L gen c) := by
  have HF := Lib.hid (find_any h (by omega) c)
  have HM := Lib.hid h
  rcases idxM_or L c with ⟨i, hi, hil⟩ | hi
  · rw [hi] at HF
    have HI := Lib.hid hi
    clear hi h
    go_enter Try.func56, Try.ntmps56
    go_wp2_with fail
    refine HF.out.mono ?_
    rintro x w1 ⟨rfl, hb1⟩
    have hM1 := HM.out.below hb1
    have HM1 := Lib.hid hM1
    have HB1 := Lib.hid hb1
    obtain ⟨gr, cp, cur, rfl, hBg, hh, hlc, hcp, hcs, htk⟩ : ∃ gr cp cur, v = .slice (some ⟨gr, 0, none⟩) L.length cp ∧ B ≤ gr ∧ w1.heap[gr]? = some (.cells cur 37 (0, 0)) ∧ L.length ≤ cp ∧ cp ≤ maxLen ∧ cur.size = cp * 4 ∧ cur.toList.take (L.length * 4) = mcs L := by
      rcases hM1.row.2 with ⟨_, h0⟩ | ⟨gr, cap, cur, e, h1, h2, h3, h4, h5, h6⟩
      · omega
      · exact ⟨gr, cap, cur, e, h1, h2, h3, h4, h5, h6⟩
    have HD := Lib.hid (delete_any hh hcs hlc htk (by omega) i hil)
    have c0 : w1.cell? ⟨g, 0, none⟩ = some (.slice (some ⟨gr, 0, none⟩) L.length cp) := hM1.blk.cell 0
    have hne : g ≠ gr := hM1.apart rfl
    clear hM1 hb1 HM hh hcs htk
    go_wp2_with fail
    refine HD.out.mono ?_
    rintro x w2 ⟨rfl, ⟨cur', hh2, hs2, ht2⟩, hg2⟩
    have hblk2 := HM1.out.blk.grown hg2 (fun e => hne (Option.some.inj e))
    have d0 : w2.cell? ⟨g, 0, none⟩ = some (.slice (some ⟨gr, 0, none⟩) L.length cp) := hblk2.cell 0
    have d1 : w2.frozen? ⟨g, 0, none⟩ = false := hblk2.frozen 0
    have hM3 : MObj (w2.setCell ⟨g, 0, none⟩ (.slice (some ⟨gr, 0, none⟩) (L.length - 1) cp)) B g (.slice (some ⟨gr, 0, none⟩) (L.length - 1) cp) (L.eraseIdx i) gen := by
      refine ⟨HM1.out.low, hblk2.store 0 _, ?_⟩
      have hlen : (L.eraseIdx i).length = L.length - 1 := by rw [List.length_eraseIdx, if_pos hil]
      have hr : w2.ownsRow B 37 4 (.slice (some ⟨gr, 0, none⟩) (L.length - 1) cp) (L.eraseIdx i).length (mcs (L.eraseIdx i)) := by
        rw [hlen]
        exact ⟨by rw [mcs_len, hlen], .inr ⟨gr, cp, cur', rfl, hBg, hh2, by omega, hcp, hs2, ht2⟩⟩
      exact hr.kept (grown_set w2 g _) (.inr fun e => hne (Option.some.inj e).symm)
    have f0 : (w2.setCell ⟨g, 0, none⟩ (.slice (some ⟨gr, 0, none⟩) (L.length - 1) cp)).cell? ⟨g, 1, none⟩ = some (.int .i64 gen) := hM3.blk.cell 1
    have f1 : (w2.setCell ⟨g, 0, none⟩ (.slice (some ⟨gr, 0, none⟩) (L.length - 1) cp)).frozen? ⟨g, 1, none⟩ = false := hM3.blk.frozen 1
    have HM4 := Lib.hid (hM3.regen (gen + 1))
    have HFR := Lib.hid ((((Fr.of_below (X := g :: (Value.slice (some ⟨gr, 0, none⟩) L.length cp).ownBlock.toList) HB1.out).grown hg2 (fun k hk => .inl (by rw [← Option.some.inj hk]; simp [Value.ownBlock]))).setCell (p := ⟨g, 0, none⟩) (.inl (by simp)) (.slice (some ⟨gr, 0, none⟩) (L.length - 1) cp)).setCell (p := ⟨g, 1, none⟩) (.inl (by simp)) (.int .i64 ((gen + 1 : Nat) : Int)))
    clear hh2 hs2 ht2 hg2 hblk2 hM3 hcp hlc
    obtain ⟨p, hp⟩ : ∃ p, p = L.length - 1 := ⟨_, rfl⟩
    rw [← hp] at HM4 HFR f0 f1 ⊢
    clear hp
    go_wp2_with fail
    go_ret
    exact .inl ⟨i, HI.out, hil, rfl, _, HM4.out, HFR.out, fun k hk => .inl hk⟩
  · rw [hi] at HF
    have HI := Lib.hid hi
    clear hi h
    go_enter Try.func56, Try.ntmps56
    go_wp2_with fail
    refine HF.out.mono ?_
    rintro x w1 ⟨rfl, hb1⟩
    have HST := Lib.hid (HM.out.step hb1)
    clear hb1
    go_wp2_with fail
    go_ret
    exact .inr ⟨HI.out, rfl, HST.out⟩
end
end Go.Proofs.Ytkjghlmlfanafaa

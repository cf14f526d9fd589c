/- What is proved here: append of so many empty texts (append of make) to a row of texts of a call's own. No conditions but those that each theorem names. -/
import Derived.Test.YtldpdhliigkboaaDoorIn26
import Derived.Lib.AppendZerosOnto
namespace Go.Proofs.YtldpdhliigkboaaDoor
open Go.RowKit Go.Extern.Stop Go.Stop Go.Extern Go.Maps
theorem zc_list (m : Nat) : (Builtin.zeroCells #[.string ⟨#[]⟩] m).toList = List.replicate m (.string ⟨#[]⟩) := by
  unfold Builtin.zeroCells
  refine List.ext_getElem (by simp) fun i h1 h2 => ?_
  simp [Nat.mod_one]
theorem zc_map (T : List ByteArray) (m : Nat) : (T ++ List.replicate m e0).map Value.string = T.map Value.string ++ (Builtin.zeroCells #[.string ⟨#[]⟩] m).toList := by
  rw [zc_list, List.map_append, List.map_replicate]
  rfl
section
variable {w : World} {B : Nat} {v : Value} {T : List ByteArray}
set_option maxRecDepth 100000 in
theorem run_zeros (hB : B ≤ w.heap.size) (h : Row w B v T) (m : Nat) (hm : 0 < m) (h63 : T.length + m ≤ 70000) :
    ∃ g cap w', (Builtin.append_ #[22, 3] 22 #[v, .int .i64 (m : Int)]).run Tryd.prog w = .ok (.slice (some ⟨g, 0, none⟩) (T.length + m) cap) w' ∧ Row w' B (.slice (some ⟨g, 0, none⟩) (T.length + m) cap) (T ++ List.replicate m e0) ∧ w.grownBy w' v.ownBlock ∧ (v.ownBlock = some g ∨ g = w.heap.size) := by
  obtain ⟨i0, hi0, hz0, hz1, hz2⟩ := info_parts Tryd.strInfo
  have hl : (T ++ List.replicate m e0).length = T.length + m := by simp
  have grown : ∀ (old : Nat), Row (w.drew.alloc (.cells ((T.map Value.string).toArray ++ Builtin.zeroCells #[.string ⟨#[]⟩] m ++ Builtin.zeroCells #[.string ⟨#[]⟩] (grownCap w (T.length + m) old 9 - (T.length + m))) 9)) B (.slice (some ⟨w.heap.size, 0, none⟩) (T.length + m) (grownCap w (T.length + m) old 9)) (T ++ List.replicate m e0) ∧
      w.grownBy (w.drew.alloc (.cells ((T.map Value.string).toArray ++ Builtin.zeroCells #[.string ⟨#[]⟩] m ++ Builtin.zeroCells #[.string ⟨#[]⟩] (grownCap w (T.length + m) old 9 - (T.length + m))) 9)) v.ownBlock := by
    intro old
    have hge := grownCap_ge w (T.length + m) old 9
    have hcm : grownCap w (T.length + m) old 9 ≤ maxLen := grownCap_le_maxLen w (T.length + m) old 9 (by unfold maxLen; omega)
    refine ⟨?_, ⟨rfl, rfl, rfl, by simp, fun k hk _ => heap_alloc_old w.drew _ hk⟩⟩
    unfold Row
    rw [hl]
    refine ⟨by simp, .inr ⟨w.heap.size, _, _, rfl, hB, heap_alloc_new w.drew _, hge, hcm, ?_, ?_⟩⟩
    · simp only [Array.size_append, List.size_toArray, size_zeroCells, List.length_map]
      simp
      omega
    · rw [zc_map]
      simp only [Array.toList_append, List.append_assoc]
      rw [← List.append_assoc]
      refine List.take_left' ?_
      simp [zc_list]
  have hw : IntKind.i64.wrap (m : Int) = m := by rw [IntKind.wrap_i64]; omega
  have hneg : ¬ ((m : Int) < 0) := by omega
  have hn0 : m ≠ 0 := by omega
  rcases h.2 with ⟨rfl, h0⟩ | ⟨g, cap, cur, rfl, hbg, hg, hnc, hcm, hcs, htake⟩
  · have ht : T = [] := List.eq_nil_of_length_eq_zero h0
    subst ht
    have hr := Lib.run_append_nil_zeros (P := Tryd.prog) w 22 3 22 9 i0 (.string ⟨#[]⟩) .i64 .i64 Tryd.underlying22 Tryd.underlying3 hi0 hz0 m hm (by omega) (by omega) (by rw [hz2]; omega)
    have hgr := grown 0
    simp only [List.length_nil, Nat.zero_add, List.map_nil, Array.empty_append, List.nil_append] at hgr ⊢
    exact ⟨_, _, _, hr, hgr.1, hgr.2, .inr rfl⟩
  · by_cases hroom : T.length + m ≤ cap
    · have hfit : T.length * 1 + (List.replicate m (Value.string ⟨#[]⟩)).length ≤ cur.size := by rw [List.length_replicate, hcs]; omega
      have h1 : ∀ u ∈ List.replicate m (Value.string ⟨#[]⟩), u.oneCell' = true := by intro u hu; rw [List.eq_of_mem_replicate hu]; rfl
      have hst := run_storeCells_at Tryd.prog g T.length 9 (List.replicate m (Value.string ⟨#[]⟩)) 0 cur w hg (by simpa using hfit) h1
      simp only [Nat.add_zero] at hst
      have hzc : (Builtin.zeroCells #[.string ⟨#[]⟩] m).toList = List.replicate m (Value.string ⟨#[]⟩) := zc_list m
      have h48i : ¬ (281474976710656 < (m : Int) * (16 : Int)) := by omega
      refine ⟨g, cap, w.setRow g (cur.toList.take T.length ++ List.replicate m (Value.string ⟨#[]⟩) ++ cur.toList.drop (T.length + (List.replicate m (Value.string ⟨#[]⟩)).length)).toArray, ?_, ⟨by simp, .inr ⟨g, cap, _, by rw [hl], hbg, setRow_heap w g cur _ 9 _ hg, by omega, hcm, ?_, ?_⟩⟩, ⟨rfl, rfl, rfl, by simp, fun k _ hk => setRow_other w g k _ (fun e => hk (by simp [Value.ownBlock, e]))⟩, .inl (by simp [Value.ownBlock])⟩
      · simp [Builtin.append_, run_underlying Tryd.underlying22, run_underlying Tryd.underlying3, sizeOf, typeInfo, zeroValue, hi0, hz0, hz1, hz2, asInt, asIntOf, hw, hn0, hneg, h48i, Builtin.lenOf, hroom, Addr.add_lit, hzc, hst, Value.cells]
      · simp only [List.size_toArray, List.length_append, List.length_take, List.length_drop, Array.length_toList, List.length_replicate]
        omega
      · have hlt : (T.map Value.string).length = T.length := by simp
        rw [List.map_append, List.map_replicate]
        have htk : cur.toList.take T.length = T.map Value.string := by simpa using htake
        simp only [Nat.mul_one] at htake ⊢
        rw [htk]
        have : (T ++ List.replicate m e0).length = (T.map Value.string ++ List.replicate m (Value.string ⟨#[]⟩)).length := by simp
        rw [this]
        exact List.take_left
    · have holds : ∀ j u, (T.map Value.string)[j]? = some u → w.cell? ((⟨g, 0, none⟩ : Addr).add j) = some u := World.ownsRow.cells (g := g) h rfl
      have hfo := run_firstCells_some (P := Tryd.prog) w.drew i0.size T.length ⟨g, 0, none⟩ T.length cap (T.map Value.string) (by simp [hz1]) (by simpa using holds)
      have hr := Lib.run_append_grow_zeros (P := Tryd.prog) w 22 3 22 9 i0 (.string ⟨#[]⟩) .i64 .i64 Tryd.underlying22 Tryd.underlying3 hi0 hz0 (some ⟨g, 0, none⟩) T.length cap (T.map Value.string) hfo m hm (by omega) (by omega) (by omega) (by rw [hz2]; omega) (growslice_fits (by omega) (by rw [hz2]; omega))
      have hgr := grown cap
      exact ⟨_, _, _, hr, hgr.1, hgr.2, .inr rfl⟩
end
end Go.Proofs.YtldpdhliigkboaaDoor

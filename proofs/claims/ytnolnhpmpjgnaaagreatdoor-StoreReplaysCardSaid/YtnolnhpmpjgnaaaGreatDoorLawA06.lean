/- What is proved here: the document's own answers on properties: the first of an identifier, its number, the others, whether a place may have it. Conditions: the properties stand where the slices say, few of them. What is proved here: PropBack answers true for every place, properties and bytes. Condition: what the rows list of the package's variables. What is proved here: an argument that is a slice of properties holds properties. No conditions. -/
import Derived.Test.YtnolnhpmpjgnaaaGreatDoorAwk06
namespace Go.Proofs.YtnolnhpmpjgnaaaGreatDoor
set_option maxRecDepth 100000
open Go.RowKit Go.Extern.Stop Go.Stop Go.Extern
section
variable {w w' : World} {B : Nat} {A : Option Addr} {L : PL}
set_option maxHeartbeats 4000000 in
theorem rplaces_any (i : Int) (w : World) : Calls Tryz.prog 106 #[.int .i64 i] w (PlSays i w) := by
  by_cases h : i ∈ ids06
  · unfold ids06 at h
    simp only [List.mem_cons, List.not_mem_nil, or_false] at h
    rcases h with rfl | rfl | rfl | rfl | rfl | rfl | rfl | rfl | rfl | rfl | rfl | rfl | rfl | rfl | rfl | rfl | rfl | rfl | rfl | rfl | rfl | rfl | rfl | rfl | rfl | rfl | rfl
    all_goals
      go_enter Tryz.func106, Tryz.ntmps106
      go_wp2
      go_ret
      exact ⟨_, _, rfl, ird_made w _ _, (Below.refl _ _).alloc (Nat.le_refl _) _⟩
  · obtain ⟨⟨⟨a1, a2, a3, a4, a5, a6, a7⟩, b1, b2, b3, b4, b5, b6, b7⟩, ⟨c1, c2, c3, c4, c5, c6, c7⟩, d1, d2, d3, d4, d5, d6⟩ := no_ids h
    have HT := Lib.hid (show PlSays i w (.returned (.slice none 0 0)) w from by
      unfold PlSays
      rw [(no_type h).2.1]
      exact ⟨none, 0, rfl, fun hp => absurd hp (by simp), Below.refl _ _⟩)
    clear h
    go_enter Tryz.func106, Tryz.ntmps106
    go_wp2
    go_ret
    exact HT.out
theorem rallowed_any (i p : Int) (w : World) : Calls Tryz.prog 79 #[.int .i64 i, .int .i64 p] w fun x w' => x = .returned (.bool (allowI i p)) ∧ Below w.heap.size w w' := by
  have hln : (placesI i).length ≤ 14 := by
    by_cases h : i ∈ ids06
    · unfold ids06 at h
      simp only [List.mem_cons, List.not_mem_nil, or_false] at h
      rcases h with rfl | rfl | rfl | rfl | rfl | rfl | rfl | rfl | rfl | rfl | rfl | rfl | rfl | rfl | rfl | rfl | rfl | rfl | rfl | rfl | rfl | rfl | rfl | rfl | rfl | rfl | rfl
      all_goals decide
    · rw [(no_type h).2.1]
      decide
  unfold allowI
  obtain ⟨M, hM⟩ : ∃ M, M = placesI i := ⟨_, rfl⟩
  rw [← hM] at hln ⊢
  have HM := Lib.hid hM
  clear hM
  go_enter Tryz.func79, Tryz.ntmps79
  go_wp2_with fail
  refine (rplaces_any i w).mono ?_
  rintro x w1 ⟨a, c, rfl, hr, hb⟩
  rw [← HM.out] at hr ⊢
  have HR := Lib.hid hr
  have HB := Lib.hid hb
  clear hr hb
  obtain ⟨n, hn⟩ : ∃ n, n = M.length := ⟨_, rfl⟩
  rw [← hn] at hln ⊢
  have HN := Lib.hid hn
  clear hn
  go_wp2_with fail
  go_loop [6] (fun j => ∃ k : Nat, k ≤ n ∧ j = .int .i64 k ∧ Hid (∀ j, j < k → M.getD j 0 ≠ p)) (fun j => n - (intOf j).toNat)
  case atStart => exact ⟨0, by omega, rfl, Lib.hid fun j hj => absurd hj (by omega)⟩
  case round =>
    obtain ⟨k, hk, rfl, HJ⟩ := hrel
    by_cases hlt : k < n
    · obtain ⟨g, off, rfl, hc⟩ := HR.out (by have := HN.out; omega)
      have c1 := hc k (by have := HN.out; omega)
      obtain ⟨y, hy⟩ : ∃ y, y = M.getD k 0 := ⟨_, rfl⟩
      rw [← hy] at c1
      have HY := Lib.hid hy
      clear hy hc
      by_cases hv : y = p
      · have HX := Lib.hid (show decide (p ∈ M) = true from decide_eq_true (by
          have hkM : k < M.length := by have := HN.out; omega
          rw [← hv, HY.out, List.getD_eq_getElem?_getD, List.getElem?_eq_getElem hkM]
          exact List.getElem_mem hkM))
        have hvb : (y == p) = true := beq_iff_eq.2 hv
        clear hv
        go_wp2_with fail
        go_ret
        exact ⟨ret_bool HX.out.symm, HB.out⟩
      · have hvb : (y == p) = false := beq_eq_false_iff_ne.2 hv
        have HV := Lib.hid hv
        clear hv
        go_wp2_with fail
        go_round
        case rel => exact ⟨k + 1, by omega, by go_num, Lib.hid fun j hj => by
          rcases Nat.lt_or_eq_of_le (Nat.le_of_lt_succ hj) with h | h
          · exact HJ.out j h
          · rw [h, ← HY.out]; exact HV.out⟩
        case measure => simp [intOf]; omega
    · have HX := Lib.hid (show decide (p ∈ M) = false from decide_eq_false (fun h => by
        obtain ⟨j, hj, e⟩ := List.mem_iff_getElem.1 h
        refine HJ.out j (by have := HN.out; omega) ?_
        rw [List.getD_eq_getElem?_getD, List.getElem?_eq_getElem hj]
        exact e))
      go_wp2_with fail
      go_ret
      exact ⟨ret_bool HX.out.symm, HB.out⟩
end
end Go.Proofs.YtnolnhpmpjgnaaaGreatDoor
namespace Go.Proofs.YtnolnhpmpjgnaaaGreatDoor
set_option maxRecDepth 100000
open Go.RowKit Go.Extern.Stop Go.Stop Go.Extern
/-- These properties are an argument. -/
structure PArg (w : World) (A : Option Addr) (n c : Nat) (L : PL) : Prop where
  len : n = L.length
  rd : PIn w w.heap.size A L
  cap : n ≤ c
theorem enc_ok {place : Int} {L : PL} (h : (encR place L).no = 0) : (chkL place L).1 = 0 ∧ (wrAll (actsL6 L)).no = 0 ∧ (encR place L).L = vb (wrAll (actsL6 L)).L.length ++ (wrAll (actsL6 L)).L := by
  unfold encR at h ⊢
  split at h
  · rename_i h1
    rw [if_pos h1]
    split at h
    · rename_i h2
      rw [if_pos h2]
      exact ⟨h1, h2, rfl⟩
    · rename_i h2; exact absurd h h2
  · rename_i h1; exact absurd h h1
theorem enc_bad {place : Int} {L : PL} (h : (encR place L).no ≠ 0) : (encR place L).L = [] := by
  unfold encR at h ⊢
  split
  · rename_i h1
    rw [if_pos h1] at h
    split
    · rename_i h2
      rw [if_pos h2] at h
      exact absurd rfl h
    · rfl
  · rfl
/-- What PropBack holds. -/
structure PbIn (w W : World) (A : Option Addr) (L : PL) : Prop where
  bel : Below w.heap.size w W
  rd : PIn W w.heap.size A L
section
variable {w W W' : World} {S : Nat → Addr} {A : Option Addr} {L : PL} {g : Nat} {s : ByteArray} {R R' : RV}
theorem PbIn.below (h : PbIn w W A L) (hb : Below W.heap.size W W') : PbIn w W' A L := ⟨h.bel.trans (hb.mono h.bel.size), h.rd.below hb⟩
theorem PbIn.step (h : PbIn w W A L) (ho : RObj W S g s R) (hn : RNext W W' S g s R') (hg : w.heap.size ≤ g) : PbIn w W' A L :=
  ⟨hn.later hg h.bel.size h.bel, h.rd.fr hn.fr fun k hk => by
    rw [List.mem_singleton] at hk
    subst hk
    refine ⟨hg, fun cs hc => ?_⟩
    obtain ⟨e, hb, _⟩ := ho.blk
    exact hb.other hc (by decide) rfl⟩
end
open Go.ChangeShapes Go.WideShapes Go.RowKit Go.Deep
set_option maxRecDepth 100000
section
variable {H : Type} {enc : TypeId × Value → H} {P : Program} {w : World}
theorem slice_cap {b1 : Nat} {sp : Nat → Bool} {held : Bool} {t e : TypeId} {a : Option Addr} {len cap : Nat} {d : DataW H} {ps : List MemPlace} (ht : P.underlying t = some (.slice e)) (hd : DataW.Trod enc P w b1 sp held t (.slice a len cap) d ps) : len ≤ cap := by
  obtain ⟨fuel, hf⟩ := hd
  rcases open_slice ht hf with ⟨hcs, hx⟩ | ⟨a, len', cap', m, n, D, Pl, hcs, hb, hl, hm, hmm, hx, hi⟩
  · simp [Value.cells] at hcs
    obtain ⟨rfl, rfl, rfl⟩ := hcs
    exact Nat.le_refl _
  · simp [Value.cells] at hcs
    obtain ⟨rfl, rfl, rfl⟩ := hcs
    exact hl
end
section
variable {H : Type} {enc : TypeId × Value → H} {w : World}
theorem props_open06 {r : Reach} {b0 b1 : Nat} {sp : Nat → Bool} {held : Bool} {v : Value} {d : DataW H} {ps : List MemPlace} (hval : Value.okWide Tryz.prog w r b0 23 v) (hd : DataW.Trod enc Tryz.prog w b1 sp held 23 v d ps) :
    ∃ a len cap xs, v = .slice a len cap ∧ len ≤ maxLen ∧ PArg w a len cap xs := by
  obtain ⟨a, len, cap, rfl, hl, hx⟩ := struct_slice (P := Tryz.prog) Tryz.underlying23 Tryz.underlying98 (by kernel_rfl) (by kernel_rfl) (by decide) hval hd
  have hcap := slice_cap (P := Tryz.prog) Tryz.underlying23 hd
  rcases hx with rfl | ⟨b, off, rfl, hc⟩
  · exact ⟨a, 0, cap, [], rfl, hl, rfl, fun h => absurd h (by simp), hcap⟩
  · have hex : ∀ i, ∃ x : PV, i < len → PCells w b (off + i * 4) x := by
      intro i
      by_cases hi : i < len
      · obtain ⟨u0, n0, y0, q0, t0⟩ := hc i hi 0 _ rfl
        obtain ⟨u1, n1, y1, q1, t1⟩ := hc i hi 1 _ rfl
        obtain ⟨u2, n2, y2, q2, t2⟩ := hc i hi 2 _ rfl
        obtain ⟨u3, n3, y3, q3, t3⟩ := hc i hi 3 _ rfl
        obtain ⟨k0, e0, _⟩ := DataW.trod_int Tryz.underlying3 t0
        obtain ⟨k1, e1, _⟩ := DataW.trod_int Tryz.underlying3 t1
        obtain ⟨k2, e2, _⟩ := DataW.trod_string Tryz.underlying9 t2
        obtain ⟨k3, e3, _⟩ := DataW.trod_string Tryz.underlying9 t3
        simp at e0 e1 e2 e3
        subst e0 e1 e2 e3
        exact ⟨⟨k0, k1, k2, k3⟩, fun _ => ⟨q0, q1, q2, q3⟩⟩
      · exact ⟨p0, fun h => absurd h hi⟩
    obtain ⟨xs, hxs⟩ := Classical.axiomOfChoice hex
    have hget : ∀ k, k < len → ((List.range len).map xs).getD k p0 = xs k := fun k hk => by
      rw [List.getD_eq_getElem?_getD, List.getElem?_map, List.getElem?_range hk]
      rfl
    refine ⟨_, len, cap, (List.range len).map xs, rfl, hl, by simp, fun hp => ?_, hcap⟩
    rw [List.length_map, List.length_range] at hp
    refine ⟨b, off, rfl, fun k hk => ?_, .inl ?_⟩
    · rw [List.length_map, List.length_range] at hk
      rw [hget k hk]
      exact hxs k hk
    · exact Go.Proofs.YtnolnhpmpjgnaaaGreatDoor.lt_of_cell (hxs 0 hp).c0
end
end Go.Proofs.YtnolnhpmpjgnaaaGreatDoor

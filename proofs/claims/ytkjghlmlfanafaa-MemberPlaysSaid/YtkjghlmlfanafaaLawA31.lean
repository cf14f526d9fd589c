/- What is proved here: MemberCounts answers true for every acts. Condition: the argument is what a row says of it. -/
import Derived.Test.YtkjghlmlfanafaaAwak31
import Derived.Deep.QuietTactic
import Derived.BigQuiet
namespace Go.Proofs.Ytkjghlmlfanafaa
open Go.RowKit Go.Extern.Stop Go.Stop Go.Extern
/-- An act. -/
structure AV where
  kind : Int
  client : ByteArray
  qos : Int
/-- A slice of acts that came in. -/
def ActsOf31 (w : World) (A : Option Addr) (n : Nat) (X : Nat → AV) : Prop := n = 0 ∨ ∃ b off, A = some ⟨b, off, none⟩ ∧ ∀ i, i < n → w.cell? ⟨b, off + i * 3, none⟩ = some (.int .i64 (X i).kind) ∧ w.cell? ⟨b, off + i * 3 + 1, none⟩ = some (.string (X i).client) ∧ w.cell? ⟨b, off + i * 3 + 2, none⟩ = some (.int .i64 (X i).qos)
section
variable {w w' : World} {A : Option Addr} {L : ML} {gen : Nat}
theorem clients_setq (L : ML) (i : Nat) (q : Int) : clientsOf (L.set i (setQ (L.getD i m0) q)) = clientsOf L := by
  unfold clientsOf
  rw [List.map_set]
  by_cases h : i < L.length
  · refine List.ext_getElem? fun j => ?_
    rw [List.getElem?_set]
    by_cases e : i = j
    · subst e
      rw [if_pos rfl, if_pos (by rw [List.length_map]; exact h), List.getElem?_map, List.getElem?_eq_getElem h, List.getD_eq_getElem?_getD, List.getElem?_eq_getElem h]
      rfl
    · rw [if_neg e]
  · rw [List.set_eq_of_length_le (by rw [List.length_map]; omega)]
theorem clients_seton (L : ML) (i : Nat) (b : Bool) : clientsOf (L.set i (setOn (L.getD i m0) b)) = clientsOf L := by
  unfold clientsOf
  rw [List.map_set]
  by_cases h : i < L.length
  · refine List.ext_getElem? fun j => ?_
    rw [List.getElem?_set]
    by_cases e : i = j
    · subst e
      rw [if_pos rfl, if_pos (by rw [List.length_map]; exact h), List.getElem?_map, List.getElem?_eq_getElem h, List.getD_eq_getElem?_getD, List.getElem?_eq_getElem h]
      rfl
    · rw [if_neg e]
  · rw [List.set_eq_of_length_le (by rw [List.length_map]; omega)]
theorem idxM_mem (L : ML) (c : ByteArray) : idxM L c = -1 ↔ ¬ c ∈ clientsOf L := by
  have h := idx_bd (clientsOf L) c
  unfold idxM
  constructor
  · intro e hm
    have := h.2.2.2 hm
    omega
  · intro hn
    by_cases h0 : 0 ≤ idxI (clientsOf L) c
    · exact absurd (h.2.2.1 h0) hn
    · omega
/-- What every act keeps: clients are there once; the generation counts; there is one more at most. -/
theorem actM_keeps (k : Int) (c : ByteArray) (q : Int) (L : ML) (gen : Nat) (hnd : (clientsOf L).Nodup) :
    (clientsOf (actM k c q L gen).2.1).Nodup ∧ (actM k c q L gen).2.2 = gen + (if (actM k c q L gen).1 then 1 else 0) ∧ (actM k c q L gen).2.1.length ≤ L.length + 1 := by
  unfold actM
  by_cases k1 : k = 1
  · rw [if_pos k1]
    unfold joinM
    by_cases h : idxM L c = -1
    · rw [if_pos h]
      refine ⟨?_, rfl, by simp⟩
      have e : clientsOf (L ++ [MV.mk c ((gen : Int) + 1) q true]) = clientsOf L ++ [c] := by unfold clientsOf; rw [List.map_append]; rfl
      rw [e]
      refine List.nodup_append.2 ⟨hnd, by simp, fun a ha b hb e2 => ?_⟩
      rw [List.mem_singleton] at hb
      exact (idxM_mem L c).1 h (hb ▸ e2 ▸ ha)
    · rw [if_neg h]
      exact ⟨by rw [clients_setq]; exact hnd, rfl, by simp⟩
  · rw [if_neg k1]
    by_cases k2 : k = 2
    · rw [if_pos k2]
      unfold leaveM
      by_cases h : idxM L c = -1
      · rw [if_pos h]; exact ⟨hnd, rfl, by simp⟩
      · rw [if_neg h]
        refine ⟨?_, rfl, Nat.le_trans (List.length_eraseIdx_le _ _) (Nat.le_succ _)⟩
        exact hnd.sublist ((List.eraseIdx_sublist _ _).map _)
    · rw [if_neg k2]
      by_cases k3 : k = 3 ∨ k = 4
      · rw [if_pos k3]
        unfold onlineM
        by_cases h : idxM L c = -1
        · rw [if_pos h]; exact ⟨hnd, rfl, by simp⟩
        · rw [if_neg h]
          split
          · exact ⟨hnd, rfl, by simp⟩
          · exact ⟨by rw [clients_seton]; exact hnd, rfl, by simp⟩
      · rw [if_neg k3]; exact ⟨hnd, rfl, by simp⟩
theorem client_ne {L : ML} (hnd : (clientsOf L).Nodup) {j k : Nat} (hjk : j < k) (hk : k < L.length) : (L.getD j m0).client ≠ (L.getD k m0).client := by
  have hl : (clientsOf L).length = L.length := by unfold clientsOf; rw [List.length_map]
  have := List.pairwise_iff_getElem.1 hnd j k (by omega) (by omega) hjk
  intro e
  apply this
  have h1 := clients_get L j (by omega)
  have h2 := clients_get L k hk
  rw [List.getD_eq_getElem?_getD, List.getElem?_eq_getElem (by omega)] at h1 h2
  exact h1.trans (e.trans h2.symm)
def Few31 (n : Nat) (w : World) (x : Ending) (w' : World) : Prop := (∃ b : Bool, x = .returned (.bool b) ∧ (b = true → n ≤ 60)) ∧ w = w'
theorem few31_any (n c : Nat) (X : Nat → AV) (h : ActsOf31 w A n X) (hm : n ≤ 9223372036854775807) : Calls Try.prog 13 #[.slice A n c] w (Few31 n w) := by
  by_cases hp : n = 0
  · subst hp
    clear h hm
    go_enter Try.func13, Try.ntmps13
    go_wp2
    go_loop [3] (fun i => i = .int .i64 0) (fun _ => 0)
    case atStart => rfl
    case round =>
      subst hrel
      go_wp2
      go_ret
      exact ⟨⟨true, rfl, fun _ => by omega⟩, rfl⟩
  · obtain ⟨b, off, rfl, hc⟩ := h.resolve_left hp
    have HC := Lib.hid hc
    clear hc h
    go_enter Try.func13, Try.ntmps13
    go_wp2
    go_loop [3] (fun i => ∃ k : Nat, k ≤ n ∧ k ≤ 60 ∧ i = .int .i64 k) (fun i => 60 - (intOf i).toNat)
    case atStart => exact ⟨0, by omega, by omega, rfl⟩
    case round =>
      obtain ⟨k, hk, hk2, rfl⟩ := hrel
      by_cases hlt : k < n ∧ k < 60
      · obtain ⟨hlt, hlt2⟩ := hlt
        obtain ⟨_, c1, _⟩ := HC.out k hlt
        by_cases hz : 100 < (X k).client.size
        · generalize (X k).client = y at *
          go_wp2
          go_ret
          exact ⟨⟨false, rfl, fun h => by cases h⟩, rfl⟩
        · have hz' : (X k).client.size ≤ 100 := by omega
          clear hz
          generalize (X k).client = y at *
          go_wp2
          go_round
          case rel => exact ⟨k + 1, by omega, by omega, by go_num⟩
          case measure => simp [intOf]; omega
      · by_cases hkn : k < n
        · obtain rfl : k = 60 := by omega
          go_wp2
          go_ret
          exact ⟨⟨_, rfl, fun h => by have := of_decide_eq_true h; omega⟩, rfl⟩
        · go_wp2
          go_ret
          exact ⟨⟨_, rfl, fun h => by have := of_decide_eq_true h; omega⟩, rfl⟩
theorem MObj.drewN {B g : Nat} {v : Value} (h : MObj w B g v L gen) (n : Nat) : MObj (w.drewN n) B g v L gen := ⟨h.low, h.blk.drewN n, h.row⟩
theorem MRd.drewN (h : MRd w A L) (n : Nat) : MRd (w.drewN n) A L := h
set_option maxHeartbeats 4000000 in
set_option maxRecDepth 10000 in
theorem memberCounts_walk (A : Option Addr) (n c : Nat) (X : Nat → AV) (w : World) (hnz : n ≤ maxLen) (ha : ActsOf31 w A n X) : Calls Try.prog 5 #[.slice A n c] w fun x w' => x = .returned (.bool true) ∧ Below w.heap.size w w' := by
  unfold maxLen at hnz
  have CA := Lib.hid awake31
  have W1 := Lib.hid (few31_any n c X ha hnz)
  have HA := Lib.hid ha
  have HB0 := Lib.hid ((Below.refl w.heap.size w).alloc (Nat.le_refl _) (.cells #[.slice none 0 0, .int .i64 0] 28))
  have HM0 := Lib.hid (mobj_new w (Nat.le_refl w.heap.size))
  clear ha
  go_enter Try.func5, Try.ntmps5
  go_wp2_with fail
  refine W1.out.mono ?_
  rintro x w1 ⟨⟨b, rfl, hfew⟩, rfl⟩
  clear W1
  cases b with
  | false =>
    clear hfew
    go_wp2_with fail
    refine (CA.out _).mono ?_
    rintro x w1 ⟨rfl, hb⟩
    have HB := Lib.hid hb
    clear hb
    go_wp2_with fail
    go_ret
    exact ⟨rfl, HB.out⟩
  | true =>
    have hn60 := hfew rfl
    clear hfew hnz
    go_wp2_with fail
    obtain ⟨g, hg⟩ : ∃ g, g = w.heap.size := ⟨_, rfl⟩
    have HG := Lib.hid hg
    rw [← hg]
    rw [← hg] at HM0
    clear hg
    go_loopw [4, 5] (fun cv i wr => ∃ (k gen : Nat) (v : Value) (L : ML), k ≤ n ∧ i = .int .i64 k ∧ cv = .int .i64 gen ∧ MObj wr w.heap.size g v L gen ∧ L.length ≤ k ∧ gen ≤ k ∧ (clientsOf L).Nodup ∧ Below w.heap.size w wr) (fun _ i _ => n - (intOf i).toNat)
    case atStart => exact ⟨0, 0, _, [], by omega, rfl, rfl, by rw [HG.out]; rw [HG.out] at HM0; exact HM0.out, by simp, by omega, by simp [clientsOf], HB0.out⟩
    case round =>
      obtain ⟨k, gen, v, L, hk, rfl, rfl, hm, hlk, hgk, hnd, hb⟩ := hrel
      have HM := Lib.hid hm
      have HB := Lib.hid hb
      have HND := Lib.hid hnd
      clear hm hb hnd
      by_cases hlt : k < n
      · obtain ⟨b0, off, rfl, hcc⟩ := (HA.out).resolve_left (by omega)
        obtain ⟨c1, c2, c3⟩ := hcc k hlt
        have hgb := HB.out.block b0 (lt_of_cell c1)
        have c1' := (World.cell?_of_block (w := w) (w' := wr) hgb).trans c1
        have c2' := (World.cell?_of_block (w := w) (w' := wr) hgb).trans c2
        have c3' := (World.cell?_of_block (w := w) (w' := wr) hgb).trans c3
        clear c1 c2 c3 hgb hcc
        have HD := Lib.hid (do_any HM.out (by omega) (by omega) (X k).kind (X k).client (X k).qos)
        have hkeep := actM_keeps (X k).kind (X k).client (X k).qos L gen HND.out
        generalize actM (X k).kind (X k).client (X k).qos L gen = r at *
        obtain ⟨rb, L', gen'⟩ := r
        obtain ⟨hnd', hgen', hlen'⟩ := hkeep
        dsimp only at hnd' hgen' hlen'
        generalize (X k).kind = xk at *
        generalize (X k).client = xc at *
        generalize (X k).qos = xq at *
        have HND' := Lib.hid hnd'
        clear hnd' HND
        go_wp2_with fail
        refine HD.out.mono ?_
        rintro x w2 ⟨rfl, v', hst⟩
        have HB2 := Lib.hid (hst.below HM.out HB.out HM.out.size)
        have HM2 := Lib.hid (show MObj w2 w.heap.size g v' L' gen' from hst.obj)
        clear hst HD c1' c2' c3'
        dsimp only
        have HAL := Lib.hid (all_any HM2.out (by omega))
        have hl61 : L'.length ≤ 61 := by omega
        have hlk' : L'.length ≤ k + 1 := by omega
        have hgk' : gen' ≤ k + 1 := by
          cases rb
          · simp at hgen'; omega
          · simp at hgen'; omega
        clear hlen'
        cases rb
        all_goals
          simp at hgen'
          subst hgen'
          go_wp2_with fail
          refine HAL.out.mono ?_
          rintro x w3 ⟨va, rfl, ho, hb⟩
          have HB3 := Lib.hid (HB2.out.trans (hb.mono HM2.out.size))
          have HM3 := Lib.hid (HM2.out.below hb)
          obtain ⟨aa, ac, rfl⟩ : ∃ a c, va = .slice a L'.length c := by
            rcases ho.2 with ⟨rfl, h0⟩ | ⟨gr, cap, cur, rfl, _⟩
            · exact ⟨none, 0, by rw [h0]⟩
            · exact ⟨_, _, rfl⟩
          have HR3 := Lib.hid (row_mrd ho)
          clear ho hb HAL HM2 HB2
          go_wp2_with fail
          go_loopw [7] (fun i wr => ∃ p d : Nat, p ≤ L'.length ∧ i = .int .i64 p ∧ wr = w3.drewN d) (fun i _ => L'.length - (intOf i).toNat)
          case atStart => exact ⟨0, 0, by omega, rfl, rfl⟩
          case round =>
            obtain ⟨p, d, hp, rfl, hwr⟩ := hrel
            have HW := Lib.hid hwr
            by_cases hpl : p < L'.length
            · have hR := Lib.hid (show MRd wr aa L' by rw [hwr]; exact HR3.out.drewN d)
              clear hwr
              go_wp2_with fail
              go_loopw [8] (fun i wr' => ∃ j d : Nat, j ≤ p ∧ i = .int .i64 j ∧ wr' = wr.drewN d) (fun i _ => p - (intOf i).toNat)
              case atStart => exact ⟨0, 0, by omega, rfl, rfl⟩
              case round =>
                obtain ⟨j, d2, hj, rfl, hwr2⟩ := hrel
                have HW2 := Lib.hid hwr2
                by_cases hjp : j < p
                · obtain ⟨g1, off1, rfl, hcc1⟩ := hR.out (by omega)
                  have e1 : wr.cell? ⟨g1, off1 + j * 4, none⟩ = some (.string (L'.getD j m0).client) := by rw [hwr2]; exact (hcc1 j (by omega)).1
                  have e2 : wr.cell? ⟨g1, off1 + p * 4, none⟩ = some (.string (L'.getD p m0).client) := by rw [hwr2]; exact (hcc1 p hpl).1
                  have t1 : ((L'.getD j m0).client.toList == (L'.getD p m0).client.toList) = false := by rw [eq_text]; exact decide_eq_false (client_ne HND'.out hjp hpl)
                  clear hcc1 hwr2
                  generalize (L'.getD j m0).client = y1 at *
                  generalize (L'.getD p m0).client = y2 at *
                  go_wp2_with fail
                  go_quiet (fail)
                  go_wp2_with fail
                  go_roundw
                  case rel => exact ⟨j + 1, _, by omega, by go_num, drew_on HW2.out _⟩
                  case measure => simp [intOf]; omega
                · clear hwr2
                  go_wp2_with fail
                  go_roundw
                  case rel => exact ⟨p + 1, _, by omega, by go_num, by rw [HW2.out]; exact drew_on HW.out _⟩
                  case measure => simp [intOf]; omega
            · have hM4 := Lib.hid (show MObj wr w.heap.size g v' L' _ by rw [hwr]; exact HM3.out.drewN d)
              have hB4 := Lib.hid (show Below w.heap.size w wr by rw [hwr]; exact below_drewN HB3.out d)
              clear hwr
              go_wp2_with fail
              refine (gen_any hM4.out).mono ?_
              rintro x w5 ⟨rfl, rfl⟩
              go_wp2_with fail
              refine (here_any hM4.out (by omega)).mono ?_
              rintro x w6 ⟨vh, rfl, hrow, hb6⟩
              obtain ⟨ha1, hc1, rfl⟩ := hrow.form
              have hhl := here_len L'
              have HM6 := Lib.hid (hM4.out.below hb6)
              have HB6 := Lib.hid (hB4.out.trans (hb6.mono hM4.out.size))
              clear hrow hb6
              generalize (hereOf L').length = hl at *
              go_wp2_with fail
              go_roundw
              case rel => exact ⟨k + 1, _, v', L', by omega, by go_num, by go_num, HM6.out, by omega, by omega, HND'.out, HB6.out⟩
              case measure => simp [intOf]; omega
      · go_wp2_with fail
        refine (CA.out _).mono ?_
        rintro x w1 ⟨rfl, hbx⟩
        have HX := Lib.hid (HB.out.trans (hbx.mono HB.out.size))
        clear hbx
        go_wp2_with fail
        go_ret
        exact ⟨rfl, HX.out⟩
end
end Go.Proofs.Ytkjghlmlfanafaa

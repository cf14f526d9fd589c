/- What is proved here: the few calls on aliases of a client that must come whatever the arguments are. Conditions: the aliases stand there; ErrProtocol is laid. -/
import Derived.Test.YtldpdhliigkboaaDoorROut26
import Derived.Test.YtldpdhliigkboaaDoorAt
import Derived.Room.AppendZeros
namespace Go.Proofs.YtldpdhliigkboaaDoor
open Go.RowKit Go.Extern.Stop Go.Stop Go.Extern Go.Maps
/-- The error of the protocol stands in its variable. -/
def ProtoAt (w : World) (s : Addr) : Prop := w.cell? ⟨0, 0, none⟩ = some (.iface 110 (.pointer (some s)))
section
variable {w w' : World} {g : Nat} {s : Addr}
set_option maxRecDepth 100000 in
theorem set_first (h : Blk w g 33 #[.int .i64 2, .slice none 0 0]) (t : ByteArray) : Calls Tryd.prog 21 #[.pointer (some ⟨g, 0, none⟩), .int .i64 2, .string t] w fun x w' => x = .returned (.tuple #[]) ∧ ∃ k c, Blk w' g 33 #[.int .i64 2, .slice (some ⟨k, 0, none⟩) 2 c] ∧ g ≠ k ∧ w'.cell? ⟨k, 0, none⟩ = some (.string ⟨#[]⟩) ∧ w'.cell? ⟨k, 1, none⟩ = some (.string t) ∧ Fr [g] w w' := by
  obtain ⟨i0, hi0, hz0, hz1, hz2⟩ := info_parts Tryd.strInfo
  have h0 := h.cell 0
  have h1 := h.cell 1
  have f1 := h.frozen 1
  have hrun := Lib.run_append_nil_zeros (P := Tryd.prog) w 22 3 22 9 i0 (.string ⟨#[]⟩) .i64 .i64 Tryd.underlying22 Tryd.underlying3 hi0 hz0 2 (by omega) (by omega) (by omega) (by omega)
  obtain ⟨Z, hZ⟩ : ∃ Z, Z = Builtin.zeroCells (Value.string ⟨#[]⟩).cells 2 ++ Builtin.zeroCells (Value.string ⟨#[]⟩).cells (grownCap w 2 0 9 - 2) := ⟨_, rfl⟩
  have hZ0 : Z[0]? = some (.string ⟨#[]⟩) := by rw [hZ, show Builtin.zeroCells (Value.string ⟨#[]⟩).cells 2 = #[.string ⟨#[]⟩, .string ⟨#[]⟩] from by kernel_rfl, Array.getElem?_append_left (by simp)]; rfl
  have hZ1 : Z[1]? = some (.string ⟨#[]⟩) := by rw [hZ, show Builtin.zeroCells (Value.string ⟨#[]⟩).cells 2 = #[.string ⟨#[]⟩, .string ⟨#[]⟩] from by kernel_rfl, Array.getElem?_append_left (by simp)]; rfl
  rw [← hZ] at hrun
  obtain ⟨cap, hcap⟩ : ∃ cap, cap = grownCap w 2 0 9 := ⟨_, rfl⟩
  rw [← hcap] at hrun
  obtain ⟨k, hk⟩ : ∃ k, k = w.heap.size := ⟨_, rfl⟩
  rw [← hk] at hrun
  have hgk : g ≠ k := by have := h.lt; omega
  have hW1 : Blk (w.alloc (.cells Z 9)) g 33 #[.int .i64 2, .slice none 0 0] := h.alloc _
  have hK1 : Blk (w.alloc (.cells Z 9)) k 9 Z := by rw [hk]; exact Blk.made w 9 Z
  have a1 : (w.alloc (.cells Z 9)).drew.cell? ⟨g, 1, none⟩ = some (.slice none 0 0) := hW1.cell 1
  have b1 : (w.alloc (.cells Z 9)).drew.frozen? ⟨g, 1, none⟩ = false := hW1.frozen 1
  have hW2 := hW1.store 1 (.slice (some ⟨k, 0, none⟩) 2 cap)
  have hK2 : Blk ((w.alloc (.cells Z 9)).setCell ⟨g, 1, none⟩ (.slice (some ⟨k, 0, none⟩) 2 cap)) k 9 Z := hK1.far hgk.symm _
  have a2 : ((w.alloc (.cells Z 9)).setCell ⟨g, 1, none⟩ (.slice (some ⟨k, 0, none⟩) 2 cap)).drew.cell? ⟨g, 1, none⟩ = some (.slice (some ⟨k, 0, none⟩) 2 cap) := hW2.cell 1
  have c1 : ((w.alloc (.cells Z 9)).setCell ⟨g, 1, none⟩ (.slice (some ⟨k, 0, none⟩) 2 cap)).drew.cell? ⟨k, 1, none⟩ = some (.string ⟨#[]⟩) := (hK2.cell 1).trans hZ1
  have d1 : ((w.alloc (.cells Z 9)).setCell ⟨g, 1, none⟩ (.slice (some ⟨k, 0, none⟩) 2 cap)).drew.frozen? ⟨k, 1, none⟩ = false := hK2.frozen 1
  have HE := Lib.hid (show ∃ k' c, Blk (((w.alloc (.cells Z 9)).setCell ⟨g, 1, none⟩ (.slice (some ⟨k, 0, none⟩) 2 cap)).setCell ⟨k, 1, none⟩ (.string t)).drew g 33 #[.int .i64 2, .slice (some ⟨k', 0, none⟩) 2 c] ∧ g ≠ k' ∧ (((w.alloc (.cells Z 9)).setCell ⟨g, 1, none⟩ (.slice (some ⟨k, 0, none⟩) 2 cap)).setCell ⟨k, 1, none⟩ (.string t)).drew.cell? ⟨k', 0, none⟩ = some (.string ⟨#[]⟩) ∧ (((w.alloc (.cells Z 9)).setCell ⟨g, 1, none⟩ (.slice (some ⟨k, 0, none⟩) 2 cap)).setCell ⟨k, 1, none⟩ (.string t)).drew.cell? ⟨k', 1, none⟩ = some (.string t) ∧ Fr [g] w (((w.alloc (.cells Z 9)).setCell ⟨g, 1, none⟩ (.slice (some ⟨k, 0, none⟩) 2 cap)).setCell ⟨k, 1, none⟩ (.string t)).drew from by
    have hs := hK2.store 1 (.string t)
    refine ⟨k, cap, ((hW2.far hgk _).drewN 1), hgk, ?_, ?_, ?_⟩
    · refine (hs.cell 0).trans ?_
      simp [hZ0]
    · refine (hs.cell 1).trans ?_
      have hz : 1 < Z.size := (Array.getElem?_eq_some_iff.1 hZ1).1
      simp [hz]
    · exact ((((Fr.refl _ w).alloc _).setCell (.inl (by simp)) _).setCell (.inr (by simp [hk])) _).drewN 1)
  have HRUN := Lib.hid hrun
  clear h hrun hZ hZ0 hZ1 hcap hW1 hK1 hW2 hK2 hk
  go_enter Tryd.func21, Tryd.ntmps21
  go_wp2_with (at_builtin; go_must (refine Lib.wpList_append_run _ rfl _ _ _ _ rfl _ _ rfl rfl _ _ HRUN.out ?_))
  exact bodyPost_end (v := .tuple #[]) (by simp [results, Tryd.results21, go_sem]) rfl ⟨rfl, HE.out⟩
theorem newin_any (n : Int) (w : World) : Calls Tryd.prog 8 #[.int .i64 n] w fun x w' => x = .returned (.pointer (some ⟨w.heap.size, 0, none⟩)) ∧ w' = w.alloc (.cells #[.int .i64 (limI n), .slice none 0 0] 33) := by
  have HL := Lib.hid (limit_any n w)
  go_enter Tryd.func8, Tryd.ntmps8
  go_wp2_with fail
  refine HL.out.mono ?_
  rintro x w1 ⟨rfl, rfl⟩
  go_wp2_with fail
  go_ret
  exact ⟨rfl, rfl⟩
theorem newout_any (n : Int) (w : World) {B : Nat} (hB : B ≤ w.heap.size) : Calls Tryd.prog 14 #[.int .i64 n] w fun x w' => ∃ g b, x = .returned (.pointer (some ⟨g, 0, none⟩)) ∧ OutObj w' B g b (limI n) [] ∧ Below w.heap.size w w' := by
  have HL := Lib.hid (limit_any n w)
  have hmm := @run_makeMap Tryd.prog
  have hb1 := Blk.made (w.alloc (.map #[] 0)) 54 #[.int .i64 (limI n), .map (some w.heap.size)]
  have e : (w.alloc (.map #[] 0)).heap.size = w.heap.size + 1 := by simp
  have HE := Lib.hid (show OutObj ((w.alloc (.map #[] 0)).alloc (.cells #[.int .i64 (limI n), .map (some w.heap.size)] 54)) B (w.heap.size + 1) w.heap.size (limI n) [] ∧ Below w.heap.size w ((w.alloc (.map #[] 0)).alloc (.cells #[.int .i64 (limI n), .map (some w.heap.size)] 54)) from by
    rw [e] at hb1
    have hm : StrMapN Tryd.prog 9 3 (w.alloc (.map #[] 0)) w.heap.size (outM []) 0 := StrMapN.made w
    exact ⟨⟨by omega, hB, hb1, hm.fr ((Fr.refl [] _).alloc _) (by simp)⟩, ((Below.refl _ _).alloc (Nat.le_refl _) _).alloc (by simp) _⟩)
  clear hb1 e
  go_enter Tryd.func14, Tryd.ntmps14
  go_wp2_with fail
  refine HL.out.mono ?_
  rintro x w1 ⟨rfl, rfl⟩
  go_wp2_with fail
  go_ret
  exact ⟨_, _, rfl, HE.out.1, HE.out.2⟩
theorem topic_first (h : Blk w g 33 #[.int .i64 2, .slice none 0 0]) : Calls Tryd.prog 9 #[.pointer (some ⟨g, 0, none⟩), .string ⟨#[116]⟩, .int .i64 2] w fun x w' => x = .returned (.tuple #[.string ⟨#[116]⟩, .nilIface]) ∧ ∃ k c, Blk w' g 33 #[.int .i64 2, .slice (some ⟨k, 0, none⟩) 2 c] ∧ g ≠ k ∧ w'.cell? ⟨k, 0, none⟩ = some (.string ⟨#[]⟩) ∧ w'.cell? ⟨k, 1, none⟩ = some (.string ⟨#[116]⟩) ∧ Fr [g] w w' := by
  have HS := Lib.hid (set_first h ⟨#[116]⟩)
  have h0 := h.cell 0
  have h1 := h.cell 1
  clear h
  go_enter Tryd.func9, Tryd.ntmps9
  go_wp2_with fail
  refine HS.out.mono ?_
  rintro x w1 ⟨rfl, hx⟩
  have HX := Lib.hid hx
  clear hx
  go_wp2_with fail
  go_ret2
  exact ⟨rfl, HX.out⟩
/-- A fault over the error of the protocol. -/
def FaultIs26 (w : World) (s : Addr) (r : Int) (e : Value) : Prop := ∃ k, e = .iface 68 (.pointer (some ⟨k, 0, none⟩)) ∧ Blk w k 71 #[.int .i64 r, .int .i64 0, .iface 110 (.pointer (some s))]
theorem missing_any (hp : ProtoAt w s) : Calls Tryd.prog 18 #[.string ⟨#[]⟩] w fun x w' => ∃ e, x = .returned (.tuple #[.string ⟨#[]⟩, e]) ∧ FaultIs26 w' s 130 e ∧ Below w.heap.size w w' := by
  unfold ProtoAt at hp
  have HN := Lib.hid (fun W => new_any 130 0 110 (.pointer (some s)) W)
  go_enter Tryd.func18, Tryd.ntmps18
  go_wp2_with fail
  refine (HN.out _).mono ?_
  rintro x w1 ⟨rfl, rfl⟩
  go_wp2_with fail
  go_ret2
  exact ⟨_, rfl, ⟨_, rfl, Blk.made w 71 _⟩, (Below.refl _ _).alloc (Nat.le_refl _) _⟩
theorem there_any (t : ByteArray) (ht : t.toList.isEmpty = false) : Calls Tryd.prog 18 #[.string t] w fun x w' => x = .returned (.tuple #[.string t, .nilIface]) ∧ w = w' := by
  go_enter Tryd.func18, Tryd.ntmps18
  go_wp2_with fail
  go_ret2
  exact ⟨rfl, rfl⟩
theorem topic_again {k c : Nat} (h : Blk w g 33 #[.int .i64 2, .slice (some ⟨k, 0, none⟩) 2 c]) (h1 : w.cell? ⟨k, 1, none⟩ = some (.string ⟨#[116]⟩)) : Calls Tryd.prog 9 #[.pointer (some ⟨g, 0, none⟩), .string ⟨#[]⟩, .int .i64 2] w fun x w' => x = .returned (.tuple #[.string ⟨#[116]⟩, .nilIface]) ∧ w = w' := by
  have g0 := h.cell 0
  have g1 := h.cell 1
  have HG := Lib.hid (show Calls Tryd.prog 20 #[.pointer (some ⟨g, 0, none⟩), .int .i64 2] w fun x w' => x = .returned (.string ⟨#[116]⟩) ∧ w = w' from by
    go_enter Tryd.func20, Tryd.ntmps20
    go_wp2_with fail
    go_ret
    exact ⟨rfl, rfl⟩)
  have HT := Lib.hid (there_any (w := w) ⟨#[116]⟩ (by rw [ByteArray.toList_eq]; rfl))
  clear h
  go_enter Tryd.func9, Tryd.ntmps9
  go_wp2_with fail
  refine HG.out.mono ?_
  rintro x w1 ⟨rfl, rfl⟩
  go_wp2_with fail
  refine HT.out.mono ?_
  rintro x w1 ⟨rfl, rfl⟩
  go_wp2_with fail
  go_ret2
  exact ⟨rfl, rfl⟩
theorem topic_none {k c : Nat} (hp : ProtoAt w s) (h : Blk w g 33 #[.int .i64 2, .slice (some ⟨k, 0, none⟩) 2 c]) (h1 : w.cell? ⟨k, 0, none⟩ = some (.string ⟨#[]⟩)) : Calls Tryd.prog 9 #[.pointer (some ⟨g, 0, none⟩), .string ⟨#[]⟩, .int .i64 1] w fun x w' => ∃ e, x = .returned (.tuple #[.string ⟨#[]⟩, e]) ∧ FaultIs26 w' s 130 e ∧ Below w.heap.size w w' := by
  have g0 := h.cell 0
  have g1 := h.cell 1
  have HG := Lib.hid (show Calls Tryd.prog 20 #[.pointer (some ⟨g, 0, none⟩), .int .i64 1] w fun x w' => x = .returned (.string ⟨#[]⟩) ∧ w = w' from by
    go_enter Tryd.func20, Tryd.ntmps20
    go_wp2_with fail
    go_ret
    exact ⟨rfl, rfl⟩)
  have HM := Lib.hid (missing_any hp)
  clear h
  go_enter Tryd.func9, Tryd.ntmps9
  go_wp2_with fail
  refine HG.out.mono ?_
  rintro x w1 ⟨rfl, rfl⟩
  go_wp2_with fail
  refine HM.out.mono ?_
  rintro x w1 ⟨e, rfl, hf, hb⟩
  have HF := Lib.hid hf
  have HB := Lib.hid hb
  obtain ⟨q, rfl, _⟩ := hf
  clear hb
  go_wp2_with fail
  go_ret2
  exact ⟨_, rfl, HF.out, HB.out⟩
theorem topic_bad {v : Value} (hp : ProtoAt w s) (h : Blk w g 33 #[.int .i64 2, v]) : Calls Tryd.prog 9 #[.pointer (some ⟨g, 0, none⟩), .string ⟨#[116]⟩, .int .i64 3] w fun x w' => ∃ e, x = .returned (.tuple #[.string ⟨#[]⟩, e]) ∧ FaultIs26 w' s 148 e ∧ Below w.heap.size w w' := by
  unfold ProtoAt at hp
  have HN := Lib.hid (fun W => new_any 148 0 110 (.pointer (some s)) W)
  have g0 := h.cell 0
  clear h
  go_enter Tryd.func9, Tryd.ntmps9
  go_wp2_with fail
  refine (HN.out _).mono ?_
  rintro x w1 ⟨rfl, rfl⟩
  go_wp2_with fail
  go_ret2
  exact ⟨_, rfl, ⟨_, rfl, Blk.made w 71 _⟩, (Below.refl _ _).alloc (Nat.le_refl _) _⟩
end
end Go.Proofs.YtldpdhliigkboaaDoor

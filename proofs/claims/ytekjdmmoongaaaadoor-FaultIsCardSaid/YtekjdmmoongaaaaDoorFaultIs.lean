/- What is proved here: the statement FaultIs answers true at every three numbers. Condition: the package's errors are seven different errors of errors.New, errors.errorType holds the handle of the type error, and the library's table holds the powers of ten. -/
import Derived.Test.YtekjdmmoongaaaaDoorDeeper
import Derived.Test.YtekjdmmoongaaaaDoorSays
namespace Go.Proofs.YtekjdmmoongaaaaDoor
open Go.RowKit Go.Extern.Stop Go.Stop Go.Extern

set_option maxHeartbeats 1000000 in
theorem is_none (n r a : Int) (S : Nat → Addr) (w : World) (h : Env w S) (hk : KindSays n .nilIface w) :
    Calls Tryd.prog 3 #[.int .i64 n, .int .i64 r, .int .i64 a] w fun x w' => x = .returned (.bool true) ∧ Below w.heap.size w w' := by
  go_enter Tryd.func3, Tryd.ntmps3
  go_wp2_with fail
  refine Calls.mono hk ?_
  rintro x w' ⟨rfl, rfl⟩
  go_wp2_with fail
  refine (new_nil _ _ _).mono ?_
  rintro x w' ⟨rfl, rfl⟩
  go_wp2_with fail
  refine (deeper_nil _ _).mono ?_
  rintro x w' ⟨rfl, rfl⟩
  go_wp2_with fail
  refine (awake_any S _ h).mono ?_
  rintro x w' ⟨rfl, hb⟩
  go_wp2
  go_ret
  exact ⟨rfl, hb⟩

theorem Good.self {W : World} {S : Nat → Addr} {i k : Nat} {r a : Int} {l : List (Int × Int)} {e : Value} {w : World} (h : Good W S i k r a l e w) : Good w S i k r a l e w :=
  ⟨h.env, h.chain, h.tab, h.here, Below.refl _ _⟩

/-- The target of errors.As, behind the call. -/
def Slot (t k : Nat) (w : World) : Prop := w.heap[t]? = some (.cells #[.pointer (some ⟨k, 0, none⟩)] 29 (0, 0))
theorem Slot.later {t k : Nat} {w w' : World} (h : Slot t k w) (hb : Below w.heap.size w w') : Slot t k w' := (hb.block _ (lt_of_block h)).trans h
theorem Slot.cell {t k : Nat} {w : World} (h : Slot t k w) : w.cell? ⟨t, 0, none⟩ = some (.pointer (some ⟨k, 0, none⟩)) := cell_of_one h

/-- errors.As, with the target's block made just before. -/
theorem as_here (W : World) (S : Nat → Addr) (i k : Nat) (r a : Int) (l : List (Int × Int)) (e : Value) (w : World) (h : Good W S i k r a l e w) :
    Calls Tryd.prog 10 #[.iface 29 (.pointer (some ⟨k, 0, none⟩)), .iface 33 (.pointer (some ⟨w.heap.size + 1, 0, none⟩))] ((w.alloc (.cells #[.int .i64 0, .int .i64 0, .nilIface] 31)).alloc (.cells #[.pointer (some ⟨w.heap.size, 0, none⟩)] 29)) fun x w' =>
      x = .returned (.bool true) ∧ Good W S i k r a l e w' ∧ Slot (w.heap.size + 1) k w' := by
  have hb0 : Below w.heap.size w ((w.alloc (.cells #[.int .i64 0, .int .i64 0, .nilIface] 31)).alloc (.cells #[.pointer (some ⟨w.heap.size, 0, none⟩)] 29)) :=
    ((Below.refl _ _).alloc (Nat.le_refl _) _).alloc (by rw [World.size_alloc]; omega) _
  have hz : ((w.alloc (.cells #[.int .i64 0, .int .i64 0, .nilIface] 31)).alloc (.cells #[.pointer (some ⟨w.heap.size, 0, none⟩)] 29)).heap.size = w.heap.size + 1 + 1 := by rw [World.size_alloc, World.size_alloc]
  have ht : ((w.alloc (.cells #[.int .i64 0, .int .i64 0, .nilIface] 31)).alloc (.cells #[.pointer (some ⟨w.heap.size, 0, none⟩)] 29)).heap[w.heap.size + 1]? = some (.cells #[.pointer (some ⟨w.heap.size, 0, none⟩)] 29 (0, 0)) := by
    have := (MapKept.heap_alloc (w.alloc (.cells #[.int .i64 0, .int .i64 0, .nilIface] 31)) (.cells #[.pointer (some ⟨w.heap.size, 0, none⟩)] 29)).1
    rw [World.size_alloc] at this
    exact this
  generalize (w.alloc (.cells #[.int .i64 0, .int .i64 0, .nilIface] 31)).alloc (.cells #[.pointer (some ⟨w.heap.size, 0, none⟩)] 29) = w1 at *
  have hg := h.later hb0
  refine (as_fault k (w.heap.size + 1) _ w1 hg.env.handle ht).mono ?_
  rintro x w' ⟨rfl, hb⟩
  have hb2 : Below w.heap.size w (w1.setCell ⟨w.heap.size + 1, 0, none⟩ (.pointer (some ⟨k, 0, none⟩))) := hb0.setCell (by show w.heap.size ≤ w.heap.size + 1; omega) _
  have hb3 : Below w.heap.size w w' := hb2.trans (hb.mono (by omega))
  refine ⟨rfl, h.later hb3, ?_⟩
  unfold Slot
  rw [hb.block _ (by omega)]
  exact one_setCell ht

set_option maxHeartbeats 2000000 in
theorem is_some (n r a : Int) (i : Nat) (hi : i < 7) (hn : n = (i + 1 : Nat)) (S : Nat → Addr) (w : World) (h : Env w S) (htab : Lib.TabIs Tryd.prog w "internal/strconv.uint64pow10" .u64 Lib.pow10Tab)
    (hk : KindSays n (.iface 64 (.pointer (some (S i)))) w) (hr0 : -9223372036854775808 ≤ r) (hr1 : r ≤ 9223372036854775807) (ha0 : -9223372036854775808 ≤ a) (ha1 : a ≤ 9223372036854775807) :
    Calls Tryd.prog 3 #[.int .i64 n, .int .i64 r, .int .i64 a] w fun x w' => x = .returned (.bool true) ∧ Below w.heap.size w w' := by
  obtain ⟨tx, hts, ht⟩ := text_some n (by omega) (by omega)
  obtain ⟨t1, t2, t3, k1, k2, k3, k4⟩ := says_parts tx r a hts hr0 hr1 ha0 ha1
  have herr : ∀ w k, Good w S i k r a [] (.iface 64 (.pointer (some (S i)))) w → Calls Tryd.prog 13 #[.pointer (some ⟨k, 0, none⟩)] w fun x w' => x = .returned (.string (Says tx r a)) ∧ Below w.heap.size w w' := fun w k hg =>
    error_any n r a i k [] 64 _ S w hi hn hg hr0 hr1 ha0 ha1 tx hts (fun w => (ht w).1)
  have hdr : ∀ w, Calls Tryd.prog 15 #[.int .i64 r] w fun x w' => x = .returned (.string ⟨(Lib.itoa r).toArray⟩) ∧ w = w' := dec_any r hr0 hr1
  have hda : ∀ w, Calls Tryd.prog 15 #[.int .i64 a] w fun x w' => x = .returned (.string ⟨(Lib.itoa a).toArray⟩) ∧ w = w' := dec_any a ha0 ha1
  have htx : ∀ w, TextSays 14 n tx w := fun w => (ht w).2
  generalize Says tx r a = t4 at *
  generalize (⟨(Lib.itoa r).toArray⟩ : ByteArray) = tr at *
  generalize (⟨(Lib.itoa a).toArray⟩ : ByteArray) = ta at *
  have HErr := Lib.hid herr
  have HDr := Lib.hid hdr
  have HDa := Lib.hid hda
  have HTx := Lib.hid htx
  have HN := Lib.hid hn
  have HTab := Lib.hid htab
  clear herr hdr hda htx hn htab ht hts hr0 hr1 ha0 ha1
  go_enter Tryd.func3, Tryd.ntmps3
  go_wp2_with fail
  refine Calls.mono hk ?_
  rintro x w' ⟨rfl, rfl⟩
  clear hk
  go_wp2_with fail
  refine (new_any r a 64 (.pointer (some (S i))) w).mono ?_
  rintro x w' ⟨rfl, rfl⟩
  have hg1 : Good w S i w.heap.size r a [] (.iface 64 (.pointer (some (S i)))) (w.alloc (.cells #[.int .i64 r, .int .i64 a, .iface 64 (.pointer (some (S i)))] 31)) := by
    have hb := Below.one w (.cells #[.int .i64 r, .int .i64 a, .iface 64 (.pointer (some (S i)))] 31)
    exact ⟨h.later hb, ⟨w.heap.size, _, by rw [World.size_alloc]; omega, rfl, (MapKept.heap_alloc w _).1, rfl⟩, Go.Joins.tab_stays (g := 8) (by kernel_rfl) HTab.out hb (Nat.le_refl _), (MapKept.heap_alloc w _).1, hb⟩
  generalize hN : w.heap.size = k at *
  generalize hw1 : w.alloc (.cells #[.int .i64 r, .int .i64 a, .iface 64 (.pointer (some (S i)))] 31) = w1 at *
  have HK := Lib.hid hN
  have HG1 := Lib.hid hg1
  clear hN hw1 hg1 h
  go_wp2_with fail
  refine (as_here w S i k r a [] _ w1 HG1.out).mono ?_
  rintro x w2 ⟨rfl, hg2, hs2⟩
  generalize w1.heap.size + 1 = t at *
  have c2 := hs2.cell
  have HG2 := Lib.hid hg2
  have HS2 := Lib.hid hs2
  clear hg2 hs2
  go_wp2_with fail
  refine (unwrap_any k r a _ _ HG2.out.here).mono ?_
  rintro x w' ⟨rfl, rfl⟩
  go_wp2_with fail
  refine (is_self 0 [] _ (S i) _ rfl).mono ?_
  rintro x w' ⟨rfl, rfl⟩
  go_wp2_with fail
  refine (is_self _ _ _ (S i) _ HG2.out.chain).mono ?_
  rintro x w' ⟨rfl, rfl⟩
  go_wp2_with fail
  refine (HErr.out _ _ HG2.out.self).mono ?_
  rintro x w3 ⟨rfl, hb⟩
  have HG3 := Lib.hid (HG2.out.later hb)
  have c3 := (HS2.out.later hb).cell
  have c30 := HG3.out.cells.1
  have c31 := HG3.out.cells.2.1
  clear hb c2
  go_wp2_with fail
  refine Calls.mono (HTx.out _) ?_
  rintro x w' ⟨rfl, rfl⟩
  go_wp2_with fail
  refine (HDr.out _).mono ?_
  rintro x w' ⟨rfl, rfl⟩
  go_wp2_with fail
  refine (HDa.out _).mono ?_
  rintro x w' ⟨rfl, rfl⟩
  go_wp2_with fail
  refine (reason_chain HG3.out.env.handle HG3.out.chain).mono ?_
  rintro x w4 ⟨rfl, hb⟩
  have HG4 := Lib.hid (HG3.out.later hb)
  clear hb
  go_wp2_with fail
  refine (at_chain HG4.out.env.handle HG4.out.chain).mono ?_
  rintro x w5 ⟨rfl, hb⟩
  have HG5 := Lib.hid (HG4.out.later hb)
  clear hb
  go_wp2_with fail
  refine (number_kind HG5.out.env i hi HG5.out.chain).mono ?_
  rintro x w6 ⟨rfl, hb⟩
  have HG6 := Lib.hid (HG5.out.later hb)
  clear hb
  rw [← HN.out]
  go_wp2_with fail
  refine (awake_any S _ HG6.out.env).mono ?_
  rintro x w7 ⟨rfl, hb⟩
  have HB7 := Lib.hid (HG6.out.below.trans (hb.mono HG6.out.below.size))
  clear hb
  go_wp2
  go_ret
  exact ⟨rfl, HB7.out⟩
end Go.Proofs.YtekjdmmoongaaaaDoor

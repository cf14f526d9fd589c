/- What is proved here: the statement FaultOthers answers true at every text. Condition: the package's errors are seven different errors of errors.New, and errors.errorType holds the handle of the type error. -/
import Derived.Test.YtekjdmmoongaaaaDoorAwake
namespace Go.Proofs.YtekjdmmoongaaaaDoor
open Go.RowKit Go.Extern.Stop Go.Stop Go.Extern

theorem errors_new (s : ByteArray) (w : World) :
    Calls Tryd.prog 20 #[.string s] w fun x w' => x = .returned (.iface 64 (.pointer (some ⟨w.heap.size, 0, none⟩))) ∧ w' = w.alloc (.cells #[.string s] 66) := by
  go_enter Tryd.func20, Tryd.ntmps20
  go_wp2
  go_ret
  exact ⟨rfl, rfl⟩
theorem error_nil (w : World) :
    Calls Tryd.prog 13 #[.pointer none] w fun x w' => x = .returned (.string ⟨#[]⟩) ∧ w = w' := by
  go_enter Tryd.func13, Tryd.ntmps13
  go_wp2
  go_ret
  exact ⟨rfl, rfl⟩
theorem is_self (B : Nat) (l : List (Int × Int)) (e : Value) (s : Addr) (w : World)
    (hc : Chain w (.iface 64 (.pointer (some s))) B l e) :
    Calls Tryd.prog 12 #[e, .iface 64 (.pointer (some s))] w fun x w' => x = .returned (.bool true) ∧ w = w' := Is_same B l e s w hc

set_option maxHeartbeats 1000000 in
theorem others_long (S : Nat → Addr) (s : ByteArray) (w : World) (h : Env w S) (hs : 100 < s.size) (hm : s.size ≤ 9223372036854775807) :
    Calls Tryd.prog 5 #[.string s] w fun x w' => x = .returned (.bool true) ∧ Below w.heap.size w w' := by
  go_enter Tryd.func5, Tryd.ntmps5
  go_wp2_with fail
  refine (awake_any S _ h).mono ?_
  rintro x w' ⟨rfl, hb⟩
  go_wp2
  go_ret
  exact ⟨rfl, hb⟩

set_option maxHeartbeats 1000000 in
theorem others_short (S : Nat → Addr) (s : ByteArray) (w : World) (h : Env w S) (hs : s.size ≤ 100) :
    Calls Tryd.prog 5 #[.string s] w fun x w' => x = .returned (.bool true) ∧ Below w.heap.size w w' := by
  go_enter Tryd.func5, Tryd.ntmps5
  go_wp2_with fail
  refine (errors_new s w).mono ?_
  rintro x w' ⟨rfl, rfl⟩
  go_wp2_with fail
  refine (error_nil _).mono ?_
  rintro x w' ⟨rfl, rfl⟩
  go_wp2_with fail
  refine (unwrap_nil _).mono ?_
  rintro x w' ⟨rfl, rfl⟩
  have h1 : Env (w.alloc (.cells #[.string s] 66)) S := h.later (Below.one w _)
  have hb1 := Below.one w (.cells #[.string s] 66)
  have hl : ∃ c t, (w.alloc (.cells #[.string s] 66)).heap[w.heap.size]? = some (.cells c t (0, 0)) := ⟨_, _, (MapKept.heap_alloc w _).1⟩
  have hne : ∀ j, j < 7 → (⟨w.heap.size, 0, none⟩ : Addr) ≠ S j := by
    intro j hj e
    obtain ⟨c, t, hc⟩ := h.there j hj
    have := lt_of_block hc
    rw [← e] at this
    simp at this
  have hc1 : Chain (w.alloc (.cells #[.string s] 66)) (.iface 64 (.pointer (some ⟨w.heap.size, 0, none⟩))) (w.alloc (.cells #[.string s] 66)).heap.size [] (.iface 64 (.pointer (some ⟨w.heap.size, 0, none⟩))) := rfl
  generalize hN : w.heap.size = N at *
  generalize w.alloc (.cells #[.string s] 66) = w1 at *
  have HN := Lib.hid hN
  have HE1 := Lib.hid h1
  have HB1 := Lib.hid hb1
  have HL1 := Lib.hid hl
  have HNE := Lib.hid hne
  clear hN h1 hb1 hl hne hc1
  have HNS : Hid (N ≤ w.heap.size) := Nat.le_of_eq HN.out.symm
  go_wp2_with fail
  refine (deeper_leaf HE1.out.handle ⟨N, 0, none⟩ 5).mono ?_
  rintro x w2 ⟨e2, rfl, hc2, hb⟩
  have e : further 0 5 = 5 := by decide
  rw [e] at hc2
  have HC2 := Lib.hid hc2
  have HB2 := Lib.hid (HB1.out.trans (hb.mono (Nat.le_trans HNS.out HB1.out.size)))
  have HE2 := Lib.hid (HE1.out.later hb)
  have HL2 : Hid (∃ c t, w2.heap[N]? = some (.cells c t (0, 0))) := HL1.out.elim fun c h => h.elim fun t h => ⟨c, t, (hb.block _ (lt_of_block h)).trans h⟩
  clear hc2 hb e
  obtain ⟨t2, v2, he2⟩ := HC2.out.iface
  subst he2
  go_wp2_with fail
  refine (is_self _ _ _ _ _ HC2.out).mono ?_
  rintro x w' ⟨rfl, rfl⟩
  go_wp2_with fail
  refine (reason_leaf ⟨N, 0, none⟩ _ HE2.out.handle).mono ?_
  rintro x w3 ⟨rfl, hb⟩
  have HC3 := Lib.hid ((HC2.out.later hb (Nat.le_refl _)).mono hb.size)
  have HB3 := Lib.hid (HB2.out.trans (hb.mono (Nat.le_trans HNS.out HB2.out.size)))
  have HE3 := Lib.hid (HE2.out.later hb)
  have HL3 : Hid (∃ c t, w3.heap[N]? = some (.cells c t (0, 0))) := HL2.out.elim fun c h => h.elim fun t h => ⟨c, t, (hb.block _ (lt_of_block h)).trans h⟩
  clear hb
  go_wp2_with fail
  refine (at_leaf ⟨N, 0, none⟩ _ HE3.out.handle).mono ?_
  rintro x w4 ⟨rfl, hb⟩
  have HC4 := Lib.hid ((HC3.out.later hb (Nat.le_refl _)).mono hb.size)
  have HB4 := Lib.hid (HB3.out.trans (hb.mono (Nat.le_trans HNS.out HB3.out.size)))
  have HE4 := Lib.hid (HE3.out.later hb)
  have HL4 : Hid (∃ c t, w4.heap[N]? = some (.cells c t (0, 0))) := HL3.out.elim fun c h => h.elim fun t h => ⟨c, t, (hb.block _ (lt_of_block h)).trans h⟩
  clear hb
  go_wp2_with fail
  refine (number_other (l := []) HE4.out HL4.out HNE.out rfl).mono ?_
  rintro x w5 ⟨rfl, hb⟩
  have HC5 := Lib.hid ((HC4.out.later hb (Nat.le_refl _)).mono hb.size)
  have HB5 := Lib.hid (HB4.out.trans (hb.mono (Nat.le_trans HNS.out HB4.out.size)))
  have HE5 := Lib.hid (HE4.out.later hb)
  have HL5 : Hid (∃ c t, w5.heap[N]? = some (.cells c t (0, 0))) := HL4.out.elim fun c h => h.elim fun t h => ⟨c, t, (hb.block _ (lt_of_block h)).trans h⟩
  clear hb
  go_wp2_with fail
  refine (reason_chain HE5.out.handle HC5.out).mono ?_
  rintro x w6 ⟨rfl, hb⟩
  have HC6 := Lib.hid ((HC5.out.later hb (Nat.le_refl _)).mono hb.size)
  have HB6 := Lib.hid (HB5.out.trans (hb.mono (Nat.le_trans HNS.out HB5.out.size)))
  have HE6 := Lib.hid (HE5.out.later hb)
  have HL6 : Hid (∃ c t, w6.heap[N]? = some (.cells c t (0, 0))) := HL5.out.elim fun c h => h.elim fun t h => ⟨c, t, (hb.block _ (lt_of_block h)).trans h⟩
  clear hb
  go_wp2_with fail
  refine (at_chain HE6.out.handle HC6.out).mono ?_
  rintro x w7 ⟨rfl, hb⟩
  have HC7 := Lib.hid ((HC6.out.later hb (Nat.le_refl _)).mono hb.size)
  have HB7 := Lib.hid (HB6.out.trans (hb.mono (Nat.le_trans HNS.out HB6.out.size)))
  have HE7 := Lib.hid (HE6.out.later hb)
  have HL7 : Hid (∃ c t, w7.heap[N]? = some (.cells c t (0, 0))) := HL6.out.elim fun c h => h.elim fun t h => ⟨c, t, (hb.block _ (lt_of_block h)).trans h⟩
  clear hb
  go_wp2_with fail
  refine (number_other HE7.out HL7.out HNE.out HC7.out).mono ?_
  rintro x w8 ⟨rfl, hb⟩
  have HC8 := Lib.hid ((HC7.out.later hb (Nat.le_refl _)).mono hb.size)
  have HB8 := Lib.hid (HB7.out.trans (hb.mono (Nat.le_trans HNS.out HB7.out.size)))
  have HE8 := Lib.hid (HE7.out.later hb)
  have HL8 : Hid (∃ c t, w8.heap[N]? = some (.cells c t (0, 0))) := HL7.out.elim fun c h => h.elim fun t h => ⟨c, t, (hb.block _ (lt_of_block h)).trans h⟩
  clear hb
  go_wp2_with fail
  refine (awake_any S _ HE8.out).mono ?_
  rintro x w9 ⟨rfl, hb⟩
  have HB9 := Lib.hid (HB8.out.trans (hb.mono (Nat.le_trans HNS.out HB8.out.size)))
  clear hb
  go_wp2
  go_ret
  exact ⟨rfl, HN.out.symm ▸ HB9.out⟩
end Go.Proofs.YtekjdmmoongaaaaDoor

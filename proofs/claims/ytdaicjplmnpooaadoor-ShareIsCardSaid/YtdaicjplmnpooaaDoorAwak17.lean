/- What is proved here: what must come, whatever the arguments are (layer 17's awake). Conditions: the two errors that utf.Check names are errors. -/
import Derived.Test.YtdaicjplmnpooaaDoorPars17
namespace Go.Proofs.YtdaicjplmnpooaaDoor
open Go.RowKit Go.Extern.Stop Go.Stop Go.Extern

theorem told_all {l : BL} (h : l.all (fun b => decide (b.toNat < 128)) = true) : Told (bs l) := by
  refine .inr fun j b hj => ?_
  have hm : b ∈ l := List.mem_of_getElem? hj
  exact of_decide_eq_true (List.all_eq_true.1 h b hm)
def uA : ByteArray := ⟨#[36, 115, 104, 97, 114, 101, 47, 104, 45, 103, 47, 97, 47, 35]⟩
def uB : ByteArray := ⟨#[36, 115, 104, 97, 114, 101, 47, 103]⟩
theorem pA : parse17 uA = ((true, [104, 45, 103], [97, 47, 35]), true) := by decide +kernel
theorem pB : parse17 uB = ((false, [], []), false) := by decide +kernel
theorem tA' : Told (bs (cutG ((ls uA).drop 7)).1) := told_all (by decide +kernel)
theorem tB' : Told (bs (cutG ((ls uB).drop 7)).1) := told_all (by decide +kernel)
theorem sA : strat (ls ⟨#[104, 45, 103]⟩) = 3 := by decide +kernel
theorem sB : strat (ls ⟨#[103]⟩) = 1 := by decide +kernel
section
variable {S : Nat → Addr} {w : World}
set_option maxHeartbeats 1000000 in
theorem awake17 (he : EnvT w S) : Calls Tryd.prog 38 #[] w fun x w' => x = .returned (.bool true) ∧ Below w.heap.size w w' := by
  have E := Lib.hid (fun w' (hb : Below w.heap.size w w') => he.later hb)
  have CA : Hid (∀ w', Below w.heap.size w w' → Calls Tryd.prog 39 #[.string ⟨#[36, 115, 104, 97, 114, 101, 47, 104, 45, 103, 47, 97, 47, 35]⟩] w' fun x w2 => x = .returned (.tuple #[.agg #[.bool true, .string ⟨#[104, 45, 103]⟩, .string ⟨#[97, 47, 35]⟩], .bool true]) ∧ Below w'.heap.size w' w2) := Lib.hid fun w' hb => by
    have := parse_told uA (by decide) (E.out w' hb) (fun w => contains_told (bs (cutG ((ls uA).drop 7)).1) (by decide +kernel) tA')
    unfold ParseSays at this
    rw [pA] at this
    exact this
  have CB : Hid (∀ w', Below w.heap.size w w' → Calls Tryd.prog 39 #[.string ⟨#[36, 115, 104, 97, 114, 101, 47, 103]⟩] w' fun x w2 => x = .returned (.tuple #[.agg #[.bool false, .string ⟨#[]⟩, .string ⟨#[]⟩], .bool false]) ∧ Below w'.heap.size w' w2) := Lib.hid fun w' hb => by
    have := parse_told uB (by decide) (E.out w' hb) (fun w => contains_told (bs (cutG ((ls uB).drop 7)).1) (by decide +kernel) tB')
    unfold ParseSays at this
    rw [pB] at this
    exact this
  have CT : Hid (∀ w', Calls Tryd.prog 41 #[.agg #[.bool true, .string ⟨#[104, 45, 103]⟩, .string ⟨#[97, 47, 35]⟩]] w' fun x w2 => x = .returned (.string ⟨#[36, 115, 104, 97, 114, 101, 47, 104, 45, 103, 47, 97, 47, 35]⟩) ∧ Below w'.heap.size w' w2) := Lib.hid fun w' => text_any true ⟨#[104, 45, 103]⟩ ⟨#[97, 47, 35]⟩ (by decide) (by decide)
  have CK : Hid (∀ w', Calls Tryd.prog 43 #[.agg #[.bool true, .string ⟨#[104, 45, 103]⟩, .string ⟨#[97, 47, 35]⟩]] w' fun x w2 => x = .returned (.string ⟨#[104, 45, 103, 47, 97, 47, 35]⟩) ∧ Below w'.heap.size w' w2) := Lib.hid fun w' => key_any 43 (.inl rfl) true ⟨#[104, 45, 103]⟩ ⟨#[97, 47, 35]⟩ (by decide) (by decide)
  have S1 : Hid (∀ w', Calls Tryd.prog 45 #[.string ⟨#[104, 45, 103]⟩] w' fun x w2 => x = .returned (.int .i64 3) ∧ w' = w2) := Lib.hid fun w' => by have := strategy_any (w := w') ⟨#[104, 45, 103]⟩; rw [sA] at this; exact this
  have S2 : Hid (∀ w', Calls Tryd.prog 45 #[.string ⟨#[103]⟩] w' fun x w2 => x = .returned (.int .i64 1) ∧ w' = w2) := Lib.hid fun w' => by have := strategy_any (w := w') ⟨#[103]⟩; rw [sB] at this; exact this
  clear he
  go_enter Tryd.func38, Tryd.ntmps38
  go_wp2_with fail
  refine (CA.out _ (Below.refl _ _)).mono ?_
  rintro x w1 ⟨rfl, hb⟩
  have B1 := Lib.hid hb
  clear hb
  go_wp2_with fail
  refine (CB.out _ (B1.out.alloc B1.out.size _)).mono ?_
  rintro x w2 ⟨rfl, hb⟩
  have B2 := Lib.hid ((B1.out.alloc B1.out.size (.cells #[.bool true, .string ⟨#[104, 45, 103]⟩, .string ⟨#[97, 47, 35]⟩] 59)).trans (hb.mono (Nat.le_trans B1.out.size ((Fr.refl [] w1).alloc _).size)))
  obtain ⟨g, hg⟩ : ∃ g, g = w1.heap.size := ⟨_, rfl⟩
  have hk := (Blk.made w1 59 #[.bool true, .string ⟨#[104, 45, 103]⟩, .string ⟨#[97, 47, 35]⟩]).below hb (by simp)
  rw [← hg] at hk ⊢
  have HK := Lib.hid hk
  have k0 := hk.cell 0
  have k1 := hk.cell 1
  have k2 := hk.cell 2
  have hgl := hk.lt
  clear hb hk hg
  go_wp2_with fail
  refine (CT.out _).mono ?_
  rintro x w3 ⟨rfl, hb⟩
  have B3 := Lib.hid ((B2.out.alloc B2.out.size (.cells #[.bool false, .string ⟨#[]⟩, .string ⟨#[]⟩] 59)).trans (hb.mono (Nat.le_trans B2.out.size ((Fr.refl [] w2).alloc _).size)))
  have hk3 := (HK.out.alloc (.cells #[.bool false, .string ⟨#[]⟩, .string ⟨#[]⟩] 59)).below hb (by simp; omega)
  clear k0 k1 k2
  have k0 := hk3.cell 0
  have k1 := hk3.cell 1
  have k2 := hk3.cell 2
  clear hb hk3
  go_wp2_with fail
  refine (CK.out _).mono ?_
  rintro x w4 ⟨rfl, hb⟩
  have B4 := Lib.hid (B3.out.trans (hb.mono B3.out.size))
  clear hb k0 k1 k2
  go_wp2_with fail
  refine (S1.out _).mono ?_
  rintro x w5 ⟨rfl, rfl⟩
  go_wp2_with fail
  refine (S2.out _).mono ?_
  rintro x w5 ⟨rfl, rfl⟩
  go_wp2_with fail
  go_ret
  exact ⟨rfl, B4.out⟩
end
end Go.Proofs.YtdaicjplmnpooaaDoor

/- What is proved here: what the document's Decode of layer 11 tells as its fault. Conditions: few bytes. -/
import Derived.Test.YtinhecggmakbnaaGreatDoorRdx08
import Derived.Test.YtinhecggmakbnaaGreatDoorAck11
import Derived.Deep.QuietTactic
import Derived.BigQuiet
namespace Go.Proofs.YtinhecggmakbnaaGreatDoor
set_option maxRecDepth 100000
open Go.RowKit Go.Extern.Stop Go.Stop Go.Extern
theorem rNum2_ok {s : ByteArray} {R : RV} (h0 : R.no = 0) (hp : R.p + 2 ≤ s.size) : (rNum s 2 R).2 = ⟨R.p + 2, 0, R.ea⟩ := by
  unfold rNum rTake
  rw [if_pos h0, if_neg (by omega)]
theorem rNum2_short {s : ByteArray} {R : RV} (h0 : R.no = 0) (hp : s.size < R.p + 2) : rNum s 2 R = (0, ⟨R.p, 1, s.size⟩) := by
  unfold rNum rTake
  rw [if_pos h0, if_pos hp]
  rfl
theorem dcA_short {F : Int} {s : ByteArray} (hk : ¬ kA F = 0) (h : s.size < 2) : (dcA F s).1 = ⟨1, 129, s.size⟩ := by
  unfold dcA idR
  rw [if_neg hk, rNum2_short rfl (show s.size < 0 + 2 by omega)]
  rfl
theorem dcA_zero {F : Int} {s : ByteArray} (hk : ¬ kA F = 0) (h : 2 ≤ s.size) (hi : (rNum s 2 ⟨0, 0, 0⟩).1 = 0) : (dcA F s).1 = ⟨3, 130, 0⟩ := by
  unfold dcA idR
  rw [if_neg hk, rNum2_ok rfl (show 0 + 2 ≤ s.size by omega)]
  simp [hi]
theorem dcA_id {F kd : Int} {s : ByteArray} (hk : kA F = kd) (hk0 : ¬ kd = 0) (h : 2 ≤ s.size) (hi : ¬ (rNum s 2 ⟨0, 0, 0⟩).1 = 0) : (dcA F s).1 = (tkR kd s ⟨2, 0, 0⟩).e := by
  have e : idR s ⟨0, 0, 0⟩ = ⟨e00, (rNum s 2 ⟨0, 0, 0⟩).1, ⟨2, 0, 0⟩⟩ := by
    unfold idR
    rw [rNum2_ok rfl (show 0 + 2 ≤ s.size by omega), if_pos rfl, if_neg hi]
  unfold dcA
  rw [hk, if_neg hk0, e, if_pos (show e00.no = 0 from rfl)]
  by_cases h : (tkR kd s ⟨2, 0, 0⟩).e.no = 0
  · rw [if_pos h, tkR_e h]
  · rw [if_neg h]
theorem rbuilt2 {z y : Array Value} (hz : z = pk0.cells pa0) {kd id : Int} (hy : y = (z.setIfInBounds 0 (.int .i64 kd)).setIfInBounds 1 (.int .i64 id)) : Tryz.prog.built 29 [(0, .int .i64 kd), (1, .int .i64 id)] = some y := by rw [hy, hz]; rfl
def fR11 (kind : Int) : Int := if kind = 4 then 64 else if kind = 5 then 80 else if kind = 7 then 112 else if kind = 6 then 98 else 0
theorem rfirst11_any (k : Int) (w : World) : Calls Tryz.prog 66 #[.int .i64 k] w fun x w' => x = .returned (.int .i64 (fR11 k)) ∧ w = w' := by
  by_cases h4 : k = 4
  · subst h4
    go_enter Tryz.func66, Tryz.ntmps66
    go_wp2_with fail
    go_ret
    exact ⟨rfl, rfl⟩
  by_cases h5 : k = 5
  · subst h5
    go_enter Tryz.func66, Tryz.ntmps66
    go_wp2_with fail
    go_ret
    exact ⟨rfl, rfl⟩
  by_cases h7 : k = 7
  · subst h7
    go_enter Tryz.func66, Tryz.ntmps66
    go_wp2_with fail
    go_ret
    exact ⟨rfl, rfl⟩
  by_cases h6 : k = 6
  · subst h6
    go_enter Tryz.func66, Tryz.ntmps66
    go_wp2_with fail
    go_ret
    exact ⟨rfl, rfl⟩
  have e : fR11 k = 0 := by unfold fR11; rw [if_neg h4, if_neg h5, if_neg h7, if_neg h6]
  rw [e]
  have b4 : (k == 4) = false := beq_eq_false_iff_ne.2 h4
  have b5 : (k == 5) = false := beq_eq_false_iff_ne.2 h5
  have b7 : (k == 7) = false := beq_eq_false_iff_ne.2 h7
  have b6 : (k == 6) = false := beq_eq_false_iff_ne.2 h6
  go_enter Tryz.func66, Tryz.ntmps66
  go_wp2_with fail
  go_ret
  exact ⟨rfl, rfl⟩
end Go.Proofs.YtinhecggmakbnaaGreatDoor

/- What is proved here: what the small functions of package outq answer. Conditions: those that each theorem names. -/
import Derived.Test.YtkbinmjbbmejpaaFlt24
import Derived.Test.YtkbinmjbbmejpaaOwn
import Derived.Test.YtkbinmjbbmejpaaPkx08
import Derived.Deep.QuietTactic
import Derived.BigQuiet
import Derived.Deep.DeepMust
import Derived.Deep.DeepCutAuto
namespace Go.Proofs.Ytkbinmjbbmejpaa
open Go.RowKit Go.Extern.Stop Go.Stop Go.Extern Go.Maps
set_option maxRecDepth 100000
/-- A struct and what stands in a slot, as results. -/
theorem res_own10 {P : Program} {X : List Nat} {w0 w : World} {L : OL} {fn : Func} {tmps : Array Value} {i j h : Nat} {tB : TypeId} {zB cB : Array Value} (n : Nat) (hO : Own X w0 w L) (hTB : Ty P tB zB) (hr : fn.results = #[.cell i tB, .tmp j]) (hi : tmps.getD i undef = .pointer (some ⟨h, 0, none⟩)) {u : Value} (hj : tmps.getD j undef = u)
    (hn : L[n]? = some (h, tB, cB)) (nB : cB.size = zB.size) : (results fn tmps).run P w = .ok (.tuple #[.agg cB, u]) w := by
  subst hj
  have h2 := run_load_own hTB (hO.get n hn) nB
  have hi' : tmps[i]?.getD undef = .pointer (some ⟨h, 0, none⟩) := by simpa using hi
  simp [results, hr, hi', asAddr, h2]
/-- What stands in a slot, and a struct, as results. -/
theorem res_own01 {P : Program} {X : List Nat} {w0 w : World} {L : OL} {fn : Func} {tmps : Array Value} {i j h : Nat} {tB : TypeId} {zB cB : Array Value} (n : Nat) (hO : Own X w0 w L) (hTB : Ty P tB zB) (hr : fn.results = #[.tmp j, .cell i tB]) (hi : tmps.getD i undef = .pointer (some ⟨h, 0, none⟩)) {u : Value} (hj : tmps.getD j undef = u)
    (hn : L[n]? = some (h, tB, cB)) (nB : cB.size = zB.size) : (results fn tmps).run P w = .ok (.tuple #[u, .agg cB]) w := by
  subst hj
  have h2 := run_load_own hTB (hO.get n hn) nB
  have hi' : tmps[i]?.getD undef = .pointer (some ⟨h, 0, none⟩) := by simpa using hi
  simp [results, hr, hi', asAddr, h2]
theorem tyFt : Ty Try.prog 77 f0.cells.toArray := ty_mk (n := 12) (by kernel_rfl) rfl Try.underlying77 rfl (by kernel_rfl) rfl
theorem tyMs : Ty Try.prog 36 zq := ty_mk (n := 9) (by kernel_rfl) rfl Try.underlying36 rfl (by kernel_rfl) rfl
theorem tyI : Ty1 Try.prog 3 := ⟨by kernel_rfl, _, Try.underlying3, rfl⟩
theorem mixed : Try.prog.follows .mixedOrders = true := by kernel_rfl
theorem lt_of_mem {f : FV} {L : FL} (h : f ∈ L) : (f.id, f) ∈ L.map ent24 := List.mem_map.2 ⟨f, h, rfl⟩
section
variable {w : World} {g gp bp bm : Nat} {L : FL} {last sent : Nat}
def GetSays (w : World) (v : Value) (b : Bool) (x : Ending) (w' : World) : Prop := x = .returned (.tuple #[v, .bool b]) ∧ Below w.heap.size w w'
theorem get_run (h : OutI w g gp bp bm L last sent) (i : Int) (hi : (Lit.int .i64 i).wf = true) {v : FV} {b : Bool} (hv : (b = true ∧ v ∈ L ∧ v.id = i) ∨ (b = false ∧ v = f0 ∧ i ∉ ids L)) :
    (Instr.lookup 30 (.map (some bm)) (.int .i64 i) true).run Try.prog w = .ok (.tuple #[v.agg, .bool b]) w := by
  rcases hv with ⟨rfl, hv, rfl⟩ | ⟨rfl, rfl, hv⟩
  · exact (h.map.hit KI Try.underlying30 Try.zflight (lt_of_mem hv)).1
  · refine (h.map.miss (x := i) KI Try.underlying30 Try.zflight (intKE_ok Try.underlying3 hi) fun p hp e => ?_).1
    obtain ⟨f, hf, rfl⟩ := List.mem_map.1 hp
    exact hv (List.mem_map.2 ⟨f, hf, intKE_inj _ _ e⟩)
set_option maxHeartbeats 2000000 in
theorem get_any (h : OutI w g gp bp bm L last sent) (i : Int) (hi : (Lit.int .i64 i).wf = true) {v : FV} {b : Bool} (hv : (b = true ∧ v ∈ L ∧ v.id = i) ∨ (b = false ∧ v = f0 ∧ i ∉ ids L)) :
    Calls Try.prog 34 #[.pointer (some ⟨g, 0, none⟩), .int .i64 i] w (GetSays w v.agg b) := by
  have HO := Lib.hid (Own.start [] w)
  have HH := Lib.hid h
  have HV := Lib.hid hv
  have HI := Lib.hid hi
  have HS : Hid (v.cells.toArray.size = f0.cells.toArray.size ∧ v.cells.toArray.toList.all (·.oneCell') = true) := Lib.hid ⟨rfl, by rw [List.all_eq_true]; exact fun u hu => fv_one v u (by simpa using hu)⟩
  rw [FV.agg_eq] at *
  clear h hv hi
  go_enter Try.func34, Try.ntmps34
  go_upto_region 1 with (refine wpo_alloc tyFt HO.out rfl rfl ?_; clear HO; rintro k2 W1 hO; have HO := Lib.hid hO; clear hO; simp only [Act.put, List.setIfInBounds_toArray, List.set_cons_zero, List.set_cons_succ])
  have c2 := (HO.out.eld HH.out.blk (by simp)).cell 2
  have hr := get_run (HH.out.below HO.out.bel) i HI.out HV.out
  rw [FV.agg_eq] at hr
  generalize v.cells.toArray = vc at *
  go_wp2_with (first
    | (refine wpo_alloc tyFt HO.out rfl rfl ?_; clear HO; rintro k3 W2 hO; have HO := Lib.hid hO; clear hO; simp only [Act.put, List.setIfInBounds_toArray, List.set_cons_zero, List.set_cons_succ])
    | (refine wpo_store (k := k3) HO.out 0 tyFt rfl _ _ rfl rfl rfl rfl rfl HS.out.1 HS.out.2 ?_; clear HO; rintro W3 hO; have HO := Lib.hid hO; clear hO; simp only [Act.put])
    | (refine wpo_load (k := k3) HO.out 0 tyFt rfl HS.out.1 _ rfl rfl rfl ?_; simp only [Act.put, List.setIfInBounds_toArray, List.set_cons_zero, List.set_cons_succ])
    | (refine wpo_store (k := k2) HO.out 1 tyFt rfl _ _ rfl rfl rfl rfl rfl HS.out.1 HS.out.2 ?_; clear HO; rintro W3 hO; have HO := Lib.hid hO; clear hO; simp only [Act.put]))
  exact bodyPost_ret (v := .tuple #[.agg vc, .bool b]) (res_own10 1 HO.out tyFt rfl rfl rfl rfl HS.out.1) rfl ⟨rfl, HO.out.bel⟩
end
end Go.Proofs.Ytkbinmjbbmejpaa

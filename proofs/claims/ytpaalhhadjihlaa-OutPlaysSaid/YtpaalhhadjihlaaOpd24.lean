/- What is proved here: what the small functions of package outq answer. Conditions: those that each theorem names. What is proved here: what becomes of an acknowledgement, and that a message is taken away. Conditions: those that each theorem names. What is proved here: a message is taken away; a new Out; how many there are. Conditions: those that each theorem names. What is proved here: a new Out, how many there are, and that a message is sent. Conditions: those that each theorem names. -/
import Derived.Test.YtpaalhhadjihlaaFlt24
import Derived.Test.YtpaalhhadjihlaaOwn
import Derived.Test.YtpaalhhadjihlaaPkx08
import Derived.Deep.QuietTactic
import Derived.BigQuiet
import Derived.Deep.DeepMust
import Derived.Deep.DeepCutAuto
import Derived.Deep.RegionHeld3
namespace Go.Proofs.Ytpaalhhadjihlaa
open Go.RowKit Go.Extern.Stop Go.Stop Go.Extern Go.Maps
set_option maxRecDepth 100000
/-- A struct and what stands in a slot, as results. -/
theorem res_own10 {P : Program} {X : List Nat} {w0 w : World} {L : OL} {fn : Func} {tmps : Array Value} {i j h : Nat} {tB : TypeId} {zB cB : Array Value} (n : Nat) (hO : Own X w0 w L) (hTB : Ty P tB zB) (hr : fn.results = #[.cell i tB, .tmp j]) (hi : tmps.getD i undef = .pointer (some ⟨h, 0, none⟩)) {u : Value} (hj : tmps.getD j undef = u)
    (hn : L[n]? = some (h, tB, cB)) (nB : cB.size = zB.size) : (results fn tmps).run P w = .ok (.tuple #[.agg cB, u]) w := by
  subst hj
  have h2 := run_load_own hTB (hO.get n hn) nB
  have hi' : tmps[i]?.getD undef = .pointer (some ⟨h, 0, none⟩) := by simpa using hi
  simp [results, hr, hi', asAddr, h2]
/-- What stands in a slot, and a struct, as results. -/
theorem res_own01 {P : Program} {X : List Nat} {w0 w : World} {L : OL} {fn : Func} {tmps : Array Value} {i j h : Nat} {tB : TypeId} {zB cB : Array Value} (n : Nat) (hO : Own X w0 w L) (hTB : Ty P tB zB) (hr : fn.results = #[.tmp j, .cell i tB]) (hi : tmps.getD i undef = .pointer (some ⟨h, 0, none⟩)) {u : Value} (hj : tmps.getD j undef = u)
    (hn : L[n]? = some (h, tB, cB)) (nB : cB.size = zB.size) : (results fn tmps).run P w = .ok (.tuple #[u, .agg cB]) w := by
  subst hj
  have h2 := run_load_own hTB (hO.get n hn) nB
  have hi' : tmps[i]?.getD undef = .pointer (some ⟨h, 0, none⟩) := by simpa using hi
  simp [results, hr, hi', asAddr, h2]
theorem tyFt : Ty Try.prog 73 f0.cells.toArray := ty_mk (n := 12) (by kernel_rfl) rfl Try.underlying73 rfl (by kernel_rfl) rfl
theorem tyMs : Ty Try.prog 36 zq := ty_mk (n := 9) (by kernel_rfl) rfl Try.underlying36 rfl (by kernel_rfl) rfl
theorem tyI : Ty1 Try.prog 3 := ⟨by kernel_rfl, _, Try.underlying3, rfl⟩
theorem mixed : Try.prog.follows .mixedOrders = true := by kernel_rfl
theorem lt_of_mem {f : FV} {L : FL} (h : f ∈ L) : (f.id, f) ∈ L.map ent24 := List.mem_map.2 ⟨f, h, rfl⟩
section
variable {w : World} {g gp bp bm : Nat} {L : FL} {last sent : Nat}
def GetSays (w : World) (v : Value) (b : Bool) (x : Ending) (w' : World) : Prop := x = .returned (.tuple #[v, .bool b]) ∧ Below w.heap.size w w'
theorem get_run (h : OutI w g gp bp bm L last sent) (i : Int) (hi : (Lit.int .i64 i).wf = true) {v : FV} {b : Bool} (hv : (b = true ∧ v ∈ L ∧ v.id = i) ∨ (b = false ∧ v = f0 ∧ i ∉ ids L)) :
    (Instr.lookup 30 (.map (some bm)) (.int .i64 i) true).run Try.prog w = .ok (.tuple #[v.agg, .bool b]) w := by
  rcases hv with ⟨rfl, hv, rfl⟩ | ⟨rfl, rfl, hv⟩
  · exact (h.map.hit KI Try.underlying30 Try.zflight (lt_of_mem hv)).1
  · refine (h.map.miss (x := i) KI Try.underlying30 Try.zflight (intKE_ok Try.underlying3 hi) fun p hp e => ?_).1
    obtain ⟨f, hf, rfl⟩ := List.mem_map.1 hp
    exact hv (List.mem_map.2 ⟨f, hf, intKE_inj _ _ e⟩)
set_option maxHeartbeats 2000000 in
theorem get_any (h : OutI w g gp bp bm L last sent) (i : Int) (hi : (Lit.int .i64 i).wf = true) {v : FV} {b : Bool} (hv : (b = true ∧ v ∈ L ∧ v.id = i) ∨ (b = false ∧ v = f0 ∧ i ∉ ids L)) :
    Calls Try.prog 29 #[.pointer (some ⟨g, 0, none⟩), .int .i64 i] w (GetSays w v.agg b) := by
  have HO := Lib.hid (Own.start [] w)
  have HH := Lib.hid h
  have HV := Lib.hid hv
  have HI := Lib.hid hi
  have HS : Hid (v.cells.toArray.size = f0.cells.toArray.size ∧ v.cells.toArray.toList.all (·.oneCell') = true) := Lib.hid ⟨rfl, by rw [List.all_eq_true]; exact fun u hu => fv_one v u (by simpa using hu)⟩
  rw [FV.agg_eq] at *
  clear h hv hi
  go_enter Try.func29, Try.ntmps29
  go_upto_region 1 with (refine wpo_alloc tyFt HO.out rfl rfl ?_; clear HO; rintro k2 W1 hO; have HO := Lib.hid hO; clear hO; simp only [Act.put, List.setIfInBounds_toArray, List.set_cons_zero, List.set_cons_succ])
  have c2 := (HO.out.eld HH.out.blk (by simp)).cell 2
  have hr := get_run (HH.out.below HO.out.bel) i HI.out HV.out
  rw [FV.agg_eq] at hr
  generalize v.cells.toArray = vc at *
  go_wp2_with (first
    | (refine wpo_alloc tyFt HO.out rfl rfl ?_; clear HO; rintro k3 W2 hO; have HO := Lib.hid hO; clear hO; simp only [Act.put, List.setIfInBounds_toArray, List.set_cons_zero, List.set_cons_succ])
    | (refine wpo_store (k := k3) HO.out 0 tyFt rfl _ _ rfl rfl rfl rfl rfl HS.out.1 HS.out.2 ?_; clear HO; rintro W3 hO; have HO := Lib.hid hO; clear hO; simp only [Act.put])
    | (refine wpo_load (k := k3) HO.out 0 tyFt rfl HS.out.1 _ rfl rfl rfl ?_; simp only [Act.put, List.setIfInBounds_toArray, List.set_cons_zero, List.set_cons_succ])
    | (refine wpo_store (k := k2) HO.out 1 tyFt rfl _ _ rfl rfl rfl rfl rfl HS.out.1 HS.out.2 ?_; clear HO; rintro W3 hO; have HO := Lib.hid hO; clear hO; simp only [Act.put]))
  exact bodyPost_ret (v := .tuple #[.agg vc, .bool b]) (res_own10 1 HO.out tyFt rfl rfl rfl rfl HS.out.1) rfl ⟨rfl, HO.out.bel⟩
end
end Go.Proofs.Ytpaalhhadjihlaa
namespace Go.Proofs.Ytpaalhhadjihlaa
open Go.RowKit Go.Extern.Stop Go.Stop Go.Extern Go.Maps
set_option maxRecDepth 100000
/-- The state that a packet of a kind ends. -/
def endsOf (k : Int) : Int := if k = 4 then 1 else if k = 5 then 2 else if k = 7 then 3 else 0
def badI (r : Int) : Bool := decide (128 ≤ r) && decide (r ≤ 255)
/-- What becomes of an acknowledgement. -/
def ansR (e r st : Int) (is : Bool) : Int := if e = 0 then 5 else if is = false then 0 else if st ≠ e then 5 else if st = 3 then 4 else if badI r = true then 2 else if st = 2 then 3 else 1
theorem ended_any (k : Int) (w : World) : Calls Try.prog 44 #[.int .i64 k] w fun x w' => x = .returned (.int .i64 (endsOf k)) ∧ w = w' := by
  unfold endsOf
  by_cases h1 : k = 4
  · subst h1
    go_enter Try.func44, Try.ntmps44
    go_wp2
    go_ret
    exact ⟨rfl, rfl⟩
  · rw [if_neg h1]
    by_cases h2 : k = 5
    · subst h2
      go_enter Try.func44, Try.ntmps44
      go_wp2
      go_ret
      exact ⟨rfl, rfl⟩
    · rw [if_neg h2]
      by_cases h3 : k = 7
      · subst h3
        go_enter Try.func44, Try.ntmps44
        go_wp2
        go_ret
        exact ⟨rfl, rfl⟩
      · rw [if_neg h3]
        go_enter Try.func44, Try.ntmps44
        go_wp2
        go_ret
        exact ⟨rfl, rfl⟩
theorem badp_any (r : Int) (w : World) : Calls Try.prog 45 #[.int .i64 r] w fun x w' => x = .returned (.bool (badI r)) ∧ w = w' := by
  unfold badI
  by_cases h1 : 128 ≤ r
  · by_cases h2 : r ≤ 255
    · have e1 : decide (128 ≤ r) = true := decide_eq_true h1
      have e2 : decide (r ≤ 255) = true := decide_eq_true h2
      rw [e1, e2]
      go_enter Try.func45, Try.ntmps45
      go_wp2
      go_ret
      exact ⟨rfl, rfl⟩
    · have e1 : decide (128 ≤ r) = true := decide_eq_true h1
      have e2 : decide (r ≤ 255) = false := decide_eq_false h2
      rw [e1, e2]
      go_enter Try.func45, Try.ntmps45
      go_wp2
      go_ret
      exact ⟨rfl, rfl⟩
  · have e1 : decide (128 ≤ r) = false := decide_eq_false h1
    rw [e1, Bool.false_and]
    go_enter Try.func45, Try.ntmps45
    go_wp2
    go_ret
    exact ⟨rfl, rfl⟩
theorem badr_any (r : Int) (w : World) : Calls Try.prog 33 #[.int .i64 r] w fun x w' => x = .returned (.bool (badI r)) ∧ w = w' := by
  unfold badI
  by_cases h1 : 128 ≤ r
  · by_cases h2 : r ≤ 255
    · have e1 : decide (128 ≤ r) = true := decide_eq_true h1
      have e2 : decide (r ≤ 255) = true := decide_eq_true h2
      rw [e1, e2]
      go_enter Try.func33, Try.ntmps33
      go_wp2
      go_ret
      exact ⟨rfl, rfl⟩
    · have e1 : decide (128 ≤ r) = true := decide_eq_true h1
      have e2 : decide (r ≤ 255) = false := decide_eq_false h2
      rw [e1, e2]
      go_enter Try.func33, Try.ntmps33
      go_wp2
      go_ret
      exact ⟨rfl, rfl⟩
  · have e1 : decide (128 ≤ r) = false := decide_eq_false h1
    rw [e1, Bool.false_and]
    go_enter Try.func33, Try.ntmps33
    go_wp2
    go_ret
    exact ⟨rfl, rfl⟩
def AnsSays (w : World) (n : Int) (x : Ending) (w' : World) : Prop := x = .returned (.int .i64 n) ∧ Below w.heap.size w w'
set_option maxHeartbeats 4000000 in
theorem ans_any (c : Array Value) (k r st : Int) (is : Bool) (h0 : c[0]? = some (.int .i64 k)) (h2 : c[2]? = some (.int .i64 r)) (w : World) :
    Calls Try.prog 30 #[.agg c, .int .i64 st, .bool is] w (AnsSays w (ansR (endsOf k) r st is)) := by
  have HO := Lib.hid (Own.start [] w)
  have HE := Lib.hid (fun w => ended_any k w)
  have HB := Lib.hid (fun w => badp_any r w)
  have H0 := Lib.hid h0
  have H2 := Lib.hid h2
  obtain ⟨e, he⟩ : ∃ e, e = endsOf k := ⟨_, rfl⟩
  rw [← he] at HE ⊢
  obtain ⟨bd, hbd⟩ : ∃ b, b = badI r := ⟨_, rfl⟩
  rw [← hbd] at HB
  obtain ⟨n, hn⟩ : ∃ n, n = ansR e r st is := ⟨_, rfl⟩
  unfold ansR at hn
  rw [← hbd] at hn
  have HN := Lib.hid (show ansR e r st is = n by unfold ansR; rw [← hbd, hn])
  rw [HN.out]
  clear h0 h2 he hbd HN
  by_cases q1 : e = 0
  · rw [if_pos q1] at hn
    subst q1
    go_enter Try.func30, Try.ntmps30
    go_upto_region 1 with (refine wpo_box HO.out _ rfl rfl rfl ?_; clear HO; rintro k2 W1 hO; have HO := Lib.hid hO; clear hO; simp only [Act.put, List.setIfInBounds_toArray, List.set_cons_zero, List.set_cons_succ])
    have c0 := ((HO.out.get 0 rfl).cell 0).trans H0.out
    have c2 := ((HO.out.get 0 rfl).cell 2).trans H2.out
    go_wp2_with fail
    refine (HE.out _).mono ?_
    rintro x V1 ⟨rfl, rfl⟩
    go_wp2_with fail
    go_ret
    subst hn
    exact ⟨rfl, HO.out.bel⟩
  · rw [if_neg q1] at hn
    cases is with
    | false =>
      rw [if_pos rfl] at hn
      go_enter Try.func30, Try.ntmps30
      go_upto_region 1 with (refine wpo_box HO.out _ rfl rfl rfl ?_; clear HO; rintro k2 W1 hO; have HO := Lib.hid hO; clear hO; simp only [Act.put, List.setIfInBounds_toArray, List.set_cons_zero, List.set_cons_succ])
      have c0 := ((HO.out.get 0 rfl).cell 0).trans H0.out
      have c2 := ((HO.out.get 0 rfl).cell 2).trans H2.out
      go_wp2_with fail
      refine (HE.out _).mono ?_
      rintro x V1 ⟨rfl, rfl⟩
      go_wp2_with fail
      go_ret
      subst hn
      exact ⟨rfl, HO.out.bel⟩
    | true =>
      rw [if_neg (by simp)] at hn
      by_cases q2 : st = e
      · rw [if_neg (by simpa using q2)] at hn
        subst q2
        by_cases q3 : st = 3
        · rw [if_pos q3] at hn
          subst q3
          go_enter Try.func30, Try.ntmps30
          go_upto_region 1 with (refine wpo_box HO.out _ rfl rfl rfl ?_; clear HO; rintro k2 W1 hO; have HO := Lib.hid hO; clear hO; simp only [Act.put, List.setIfInBounds_toArray, List.set_cons_zero, List.set_cons_succ])
          have c0 := ((HO.out.get 0 rfl).cell 0).trans H0.out
          have c2 := ((HO.out.get 0 rfl).cell 2).trans H2.out
          go_wp2_with fail
          refine (HE.out _).mono ?_
          rintro x V1 ⟨rfl, rfl⟩
          go_wp2_with fail
          go_ret
          subst hn
          exact ⟨rfl, HO.out.bel⟩
        · rw [if_neg q3] at hn
          cases bd with
          | true =>
            rw [if_pos rfl] at hn
            go_enter Try.func30, Try.ntmps30
            go_upto_region 1 with (refine wpo_box HO.out _ rfl rfl rfl ?_; clear HO; rintro k2 W1 hO; have HO := Lib.hid hO; clear hO; simp only [Act.put, List.setIfInBounds_toArray, List.set_cons_zero, List.set_cons_succ])
            have c0 := ((HO.out.get 0 rfl).cell 0).trans H0.out
            have c2 := ((HO.out.get 0 rfl).cell 2).trans H2.out
            go_wp2_with fail
            refine (HE.out _).mono ?_
            rintro x V1 ⟨rfl, rfl⟩
            go_wp2_with fail
            refine (HB.out _).mono ?_
            rintro x V1 ⟨rfl, rfl⟩
            go_wp2_with fail
            go_ret
            subst hn
            exact ⟨rfl, HO.out.bel⟩
          | false =>
            rw [if_neg (by simp)] at hn
            by_cases q4 : st = 2
            · rw [if_pos q4] at hn
              subst q4
              go_enter Try.func30, Try.ntmps30
              go_upto_region 1 with (refine wpo_box HO.out _ rfl rfl rfl ?_; clear HO; rintro k2 W1 hO; have HO := Lib.hid hO; clear hO; simp only [Act.put, List.setIfInBounds_toArray, List.set_cons_zero, List.set_cons_succ])
              have c0 := ((HO.out.get 0 rfl).cell 0).trans H0.out
              have c2 := ((HO.out.get 0 rfl).cell 2).trans H2.out
              go_wp2_with fail
              refine (HE.out _).mono ?_
              rintro x V1 ⟨rfl, rfl⟩
              go_wp2_with fail
              refine (HB.out _).mono ?_
              rintro x V1 ⟨rfl, rfl⟩
              go_wp2_with fail
              go_ret
              subst hn
              exact ⟨rfl, HO.out.bel⟩
            · rw [if_neg q4] at hn
              go_enter Try.func30, Try.ntmps30
              go_upto_region 1 with (refine wpo_box HO.out _ rfl rfl rfl ?_; clear HO; rintro k2 W1 hO; have HO := Lib.hid hO; clear hO; simp only [Act.put, List.setIfInBounds_toArray, List.set_cons_zero, List.set_cons_succ])
              have c0 := ((HO.out.get 0 rfl).cell 0).trans H0.out
              have c2 := ((HO.out.get 0 rfl).cell 2).trans H2.out
              go_wp2_with fail
              refine (HE.out _).mono ?_
              rintro x V1 ⟨rfl, rfl⟩
              go_wp2_with fail
              refine (HB.out _).mono ?_
              rintro x V1 ⟨rfl, rfl⟩
              go_wp2_with fail
              go_ret
              subst hn
              exact ⟨rfl, HO.out.bel⟩
      · rw [if_pos q2] at hn
        go_enter Try.func30, Try.ntmps30
        go_upto_region 1 with (refine wpo_box HO.out _ rfl rfl rfl ?_; clear HO; rintro k2 W1 hO; have HO := Lib.hid hO; clear hO; simp only [Act.put, List.setIfInBounds_toArray, List.set_cons_zero, List.set_cons_succ])
        have c0 := ((HO.out.get 0 rfl).cell 0).trans H0.out
        have c2 := ((HO.out.get 0 rfl).cell 2).trans H2.out
        go_wp2_with fail
        refine (HE.out _).mono ?_
        rintro x V1 ⟨rfl, rfl⟩
        go_wp2_with fail
        go_ret
        subst hn
        exact ⟨rfl, HO.out.bel⟩
end Go.Proofs.Ytpaalhhadjihlaa
namespace Go.Proofs.Ytpaalhhadjihlaa
open Go.RowKit Go.Extern.Stop Go.Stop Go.Extern Go.Maps
set_option maxRecDepth 100000
/-- All but those of a number. -/
def wof (i : Int) (L : FL) : FL := L.filter (fun f => decide (f.id ≠ i))
theorem wof_ent (i : Int) (L : FL) : wo i (L.map ent24) = (wof i L).map ent24 := by
  unfold wo wof
  rw [List.filter_map]
  rfl
theorem mem_wof {i : Int} {L : FL} {f : FV} : f ∈ wof i L ↔ f ∈ L ∧ f.id ≠ i := by
  unfold wof
  rw [List.mem_filter]
  simp
theorem ids_wof (i : Int) (L : FL) : offB (fun x => decide (x ∈ ids L)) i = fun x => decide (x ∈ ids (wof i L)) := by
  funext x
  unfold offB
  by_cases h : x = i
  · rw [if_pos h]
    subst h
    symm
    apply decide_eq_false
    intro hm
    obtain ⟨f, hf, e⟩ := List.mem_map.1 hm
    exact (mem_wof.1 hf).2 e
  · rw [if_neg h]
    apply decide_eq_decide.2
    constructor
    · intro hm
      obtain ⟨f, hf, e⟩ := List.mem_map.1 hm
      exact List.mem_map.2 ⟨f, mem_wof.2 ⟨hf, fun e2 => h (e.symm.trans e2)⟩, e⟩
    · intro hm
      obtain ⟨f, hf, e⟩ := List.mem_map.1 hm
      exact List.mem_map.2 ⟨f, (mem_wof.1 hf).1, e⟩
theorem wof_len {i : Int} : ∀ {L : FL}, (ids L).Nodup → i ∈ ids L → (wof i L).length = L.length - 1
  | [], _, h => by cases h
  | f :: L, hn, h => by
    obtain ⟨h1, h2⟩ := List.nodup_cons.1 hn
    unfold wof
    by_cases hf : f.id = i
    · rw [List.filter_cons, if_neg (by simpa using hf)]
      have : L.filter (fun f => decide (f.id ≠ i)) = L := List.filter_eq_self.2 fun q hq => decide_eq_true fun e => h1 (by
        show f.id ∈ ids L
        rw [hf, ← e]
        exact List.mem_map.2 ⟨q, hq, rfl⟩)
      rw [this]
      simp
    · rw [List.filter_cons, if_pos (by simpa using hf)]
      have hi : i ∈ ids L := by
        rcases List.mem_cons.1 h with e | e
        · exact absurd e.symm hf
        · exact e
      have := wof_len h2 hi
      unfold wof at this
      rw [List.length_cons, this, List.length_cons]
      have : 0 < L.length := by
        obtain ⟨q, hq, _⟩ := List.mem_map.1 hi
        exact List.length_pos_of_mem hq
      omega
theorem wof_le (i : Int) (L : FL) : (wof i L).length ≤ L.length := List.length_filter_le _ _
section
variable {w : World} {g gp bp bm : Nat} {L : FL} {last sent : Nat}
theorem OutI.nodup (h : OutI w g gp bp bm L last sent) : (ids L).Nodup := by
  have h1 := h.map.apart KI
  rw [List.pairwise_map] at h1
  unfold ids
  rw [List.Nodup, List.pairwise_map]
  exact h1.imp fun hne e => hne (congrArg intKE.kl e)
theorem OutI.range (h : OutI w g gp bp bm L last sent) {i : Int} (hi : i ∈ ids L) : 1 ≤ i ∧ i ≤ 65535 := by
  have := h.pids.ok.range i (decide_eq_true hi)
  omega
theorem wf_id {i : Int} (h : 1 ≤ i ∧ i ≤ 65535) : (Lit.int .i64 i).wf = true := WalkArith.wf_i64 (by omega)
theorem OutI.noprop (h : OutI w g gp bp bm L last sent) : ∀ b ∈ [g, gp, bp, bm], ∀ cs, w.heap[b]? ≠ some (.cells cs 93 (0, 0)) := by
  intro b hb cs hc
  simp only [List.mem_cons, List.not_mem_nil, or_false] at hb
  rcases hb with rfl | rfl | rfl | rfl
  · exact h.blk.other hc (by decide) rfl
  · exact h.pids.is.1.other hc (by decide) rfl
  · exact h.pids.is.2.ne (show Blk w b _ cs from hc) rfl
  · exact h.map.ne (show Blk w b _ cs from hc) rfl
/-- What a method that changes an Out may change. -/
def Out3 (w : World) (g gp bp bm : Nat) (L : FL) (last sent : Nat) (w' : World) : Prop := OutI w' g gp bp bm L last sent ∧ Fr [g, gp, bp, bm] w w'
set_option maxHeartbeats 2000000 in
theorem remove_any (h : OutI w g gp bp bm L last sent) {i : Int} (hi : i ∈ ids L) :
    Calls Try.prog 31 #[.pointer (some ⟨g, 0, none⟩), .int .i64 i] w fun x w' => x = .returned (.tuple #[]) ∧ Out3 w g gp bp bm (wof i L) last sent w' := by
  have hw := wf_id (h.range hi)
  obtain ⟨n1, n2, n3, n4, n5⟩ := h.nef
  obtain ⟨w1, hrun, hs, hg⟩ := h.map.del (x := i) KI Try.underlying30 intKE_inj 0 (intKE_ok Try.underlying3 hw)
  rw [wof_ent] at hs
  have hrun2 : (Builtin.delete_ #[30, 3] 0 #[.map (some bm), .int .i64 i]).run Try.prog w = .ok (.tuple #[]) w1 := hrun
  have hf1 : Fr [bm] w w1 := (Fr.refl _ _).grown hg (fun k hk => by injection hk with hk; subst hk; exact .inl (List.mem_singleton_self _))
  have hp1 : IsPids w1 gp bp 65535 last (fun x => decide (x ∈ ids L)) L.length := ⟨⟨h.pids.is.1.fr hf1 (by simpa using n5), h.pids.is.2.fr hf1 (by simpa using Ne.symm h.ne)⟩, h.pids.ok⟩
  have HP := Lib.hid (pids_free hp1 i hw)
  rw [decide_eq_true hi, if_pos rfl, if_pos rfl, ids_wof, ← wof_len h.nodup hi] at HP
  have c0 := h.blk.cell 0
  have c2 := h.blk.cell 2
  have d0 := (h.blk.fr hf1 (by simpa using n3)).cell 0
  have HH := Lib.hid h
  have HS := Lib.hid hs
  have HF := Lib.hid hf1
  have HN := Lib.hid (And.intro n1 (And.intro n2 (And.intro n3 (And.intro n4 n5))))
  clear h hw hs hg hrun hf1 hp1 n1 n2 n3 n4 n5 hi
  go_enter Try.func31, Try.ntmps31
  go_wp2_with fail
  refine HP.out.mono ?_
  rintro x w2 ⟨rfl, hp2, hf2⟩
  have HP2 := Lib.hid hp2
  have HF2 := Lib.hid hf2
  clear hp2 hf2 HP
  go_wp2_with fail
  obtain ⟨n1, n2, n3, n4, n5⟩ := HN.out
  have h := HH.out
  have hfr : Fr [g, gp, bp, bm] w w2 := (HF.out.mono (fun b hb _ => by simp at hb; subst hb; simp)).trans HF2.out (fun b hb _ => by simp at hb; rcases hb with rfl | rfl <;> simp)
  refine bodyPost_end (v := .tuple #[]) (by simp [results, Try.results31, go_sem]) rfl ⟨rfl, ⟨?_, HP2.out, ?_, h.ne, h.ord.filter _, ?_, ?_, h.few, ?_⟩, hfr⟩
  · exact (h.blk.fr HF.out (by simpa using n3)).fr HF2.out (by simp; exact ⟨n1, n2⟩)
  · exact HS.out.fr HF2.out (by simp; exact ⟨Ne.symm n5, h.ne⟩)
  · exact fun f hf => h.le f (mem_wof.1 hf).1
  · exact Nat.le_trans (wof_le _ _) h.len
  · exact fun f hf => h.props.fr hfr h.noprop f (mem_wof.1 hf).1
end
end Go.Proofs.Ytpaalhhadjihlaa
namespace Go.Proofs.Ytpaalhhadjihlaa
open Go.RowKit Go.Extern.Stop Go.Stop Go.Extern Go.Maps
set_option maxRecDepth 100000
theorem out_new (w : World) : Calls Try.prog 6 #[] w fun x w' => ∃ g gp bp bm, x = .returned (.pointer (some ⟨g, 0, none⟩)) ∧ OutI w' g gp bp bm [] 0 0 ∧ w.heap.size ≤ g ∧ w.heap.size ≤ gp ∧ w.heap.size ≤ bp ∧ w.heap.size ≤ bm ∧ Below w.heap.size w w' := by
  have hmm := @run_makeMap Try.prog
  have HP := Lib.hid (pids_new (w := w))
  go_enter Try.func6, Try.ntmps6
  go_wp2_with fail
  refine HP.out.mono ?_
  rintro x w1 ⟨rfl, hp, hb⟩
  have HI := Lib.hid hp
  have HB := Lib.hid hb
  clear hp hb HP
  go_wp2_with fail
  go_ret
  have hs := HB.out.size
  have h1 := HI.out.is.1.lt
  have hb1 := Blk.made (w1.alloc (.map #[] 0)) 32 #[.pointer (some ⟨w.heap.size + 1, 0, none⟩), .int .i64 0, .map (some w1.heap.size)]
  rw [World.size_alloc] at hb1
  have hp2 : IsPids ((w1.alloc (.map #[] 0)).alloc (.cells #[.pointer (some ⟨w.heap.size + 1, 0, none⟩), .int .i64 0, .map (some w1.heap.size)] 32)) (w.heap.size + 1) w.heap.size 65535 0 (fun x => decide (x ∈ ids [])) 0 := (HI.out.then ((Fr.refl [] _).alloc _)).then ((Fr.refl [] _).alloc _)
  have hm2 : AMap Try.prog 3 intKE FV.agg ((w1.alloc (.map #[] 0)).alloc (.cells #[.pointer (some ⟨w.heap.size + 1, 0, none⟩), .int .i64 0, .map (some w1.heap.size)] 32)) w1.heap.size (([] : FL).map ent24) := (AMap.made w1 Try.prog 3 intKE FV.agg).fr (X := []) ((Fr.refl [] _).alloc _) (by simp)
  have hbm := HI.out.is.2.lt
  exact ⟨w1.heap.size + 1, w.heap.size + 1, w.heap.size, w1.heap.size, rfl, ⟨hb1, hp2, hm2, by omega, List.Pairwise.nil, fun f h => (by cases h), Nat.le_refl _, by omega, fun f h => (by cases h)⟩, by omega, by omega, by omega, by omega, (HB.out.alloc hs _).alloc (by simp; omega) _⟩
section
variable {w : World} {g gp bp bm : Nat} {L : FL} {last sent : Nat}
theorem out_len (h : OutI w g gp bp bm L last sent) : Calls Try.prog 19 #[.pointer (some ⟨g, 0, none⟩)] w fun x w' => x = .returned (.int .i64 L.length) ∧ w = w' := by
  have c2 := h.blk.cell 2
  have hl := h.map.len Try.underlying30 3
  rw [List.length_map] at hl
  clear h
  go_enter Try.func19, Try.ntmps19
  go_wp2
  go_ret
  exact ⟨rfl, rfl⟩
/-- What stands while a message is being put. -/
structure SndIn (w W : World) (k g gp bp bm B : Nat) (L : FL) (x sent : Nat) (q : QV) : Prop where
  fr : Fr [g, gp, bp] w W
  box : Blk W k 36 q.cells.toArray
  blk : Blk W g 32 #[.pointer (some ⟨gp, 0, none⟩), .int .i64 (sent + 1 : Nat), .map (some bm)]
  pids : IsPids W gp bp 65535 x (onB (fun y => decide (y ∈ ids L)) x) (L.length + 1)
  map : AMap Try.prog 3 intKE FV.agg W bm (L.map ent24)
  props : FProps W L
  own : PIn W B q.pa q.m.props
theorem SndIn.below {w W W' : World} {k g gp bp bm B : Nat} {L : FL} {x sent : Nat} {q : QV} (h : SndIn w W k g gp bp bm B L x sent q) (hb : Below W.heap.size W W') : SndIn w W' k g gp bp bm B L x sent q :=
  ⟨h.fr.then (Fr.of_below hb), h.box.below hb h.box.lt, h.blk.below hb h.blk.lt, h.pids.then (Fr.of_below hb), h.map.below hb h.map.lt, h.props.below hb, h.own.below hb⟩
theorem below_dn {B : Nat} {a w : World} (h : Below B a w) (n : Nat) : Below B a (w.drewN n) := ⟨h.os, h.tape, h.output, h.size, h.block⟩
theorem SndIn.drewN {w W : World} {k g gp bp bm B : Nat} {L : FL} {x sent : Nat} {q : QV} (h : SndIn w W k g gp bp bm B L x sent q) (d : Nat) : SndIn w (W.drewN d) k g gp bp bm B L x sent q := h.below (below_dn (Below.refl _ _) d)
theorem onB_ids (x : Int) (L : FL) (f : FV) (hf : f.id = x) : onB (fun y => decide (y ∈ ids L)) x = fun y => decide (y ∈ ids (L ++ [f])) := by
  funext y
  unfold onB ids
  rw [List.map_append]
  by_cases h : y = x
  · rw [if_pos h]
    symm
    apply decide_eq_true
    simp [h, hf]
  · rw [if_neg h]
    apply decide_eq_decide.2
    simp [hf, h]
/-- The message is put. -/
theorem SndIn.put {w W : World} {k B : Nat} {x : Nat} {qos : Int} {q : QV} (h : SndIn w W k g gp bp bm B L x sent q) (h0 : OutI w g gp bp bm L last sent) (hf : sent < 1000) (hx : (x : Int) ∉ ids L) (hx2 : 1 ≤ x ∧ x ≤ 65535) {pa : Option Addr} {pc : Nat} (hp : PIn W 0 pa q.m.props) (hl : q.m.props.length ≤ 1000) :
    ∃ W', (Instr.mapUpdate 30 (.map (some bm)) (.int .i64 x) (FV.agg ⟨x, qos, ⟨q.m, pa, pc⟩, (sent + 1 : Nat)⟩)).run Try.prog W = .ok () W' ∧ Out3 w g gp bp bm (L ++ [⟨x, qos, ⟨q.m, pa, pc⟩, (sent + 1 : Nat)⟩]) x (sent + 1) W' ∧ (∀ y t cs, Blk W y t cs → Blk W' y t cs) := by
  have hw := wf_id (i := (x : Int)) (by omega)
  obtain ⟨n1, n2, n3, n4, n5⟩ := h0.nef
  obtain ⟨W', hrun, hm, hg⟩ := h.map.put (x := (x : Int)) KI Try.underlying30 intKE_inj (by rw [List.length_map]; have := h0.len; have := h0.few; unfold maxLen; omega) (intKE_ok Try.underlying3 hw) (⟨x, qos, ⟨q.m, pa, pc⟩, (sent + 1 : Nat)⟩ : FV)
  have e1 : wo (x : Int) (L.map ent24) = L.map ent24 := List.filter_eq_self.2 fun p hp2 => decide_eq_true fun e => hx (by
    obtain ⟨f, hf2, rfl⟩ := List.mem_map.1 hp2
    exact List.mem_map.2 ⟨f, hf2, e⟩)
  rw [e1] at hm
  have hf1 : Fr [bm] W W' := (Fr.refl _ _).grown hg (fun b hb => by injection hb with hb; subst hb; exact .inl (List.mem_singleton_self _))
  have hm2 := hm.perm (M := (L ++ [(⟨x, qos, ⟨q.m, pa, pc⟩, (sent + 1 : Nat)⟩ : FV)]).map ent24) (by
    rw [List.map_append]
    exact (List.perm_append_comm (l₁ := [_])))
  have hnp : ∀ b ∈ [bm], ∀ cs, W.heap[b]? ≠ some (.cells cs 93 (0, 0)) := by
    intro b hb cs hc
    rw [List.mem_singleton] at hb
    subst hb
    exact h.map.ne (show Blk W b _ cs from hc) rfl
  refine ⟨W', hrun, ⟨⟨h.blk.fr hf1 (by simpa using n3), ?_, hm2, h0.ne, ?_, ?_, ?_, by omega, ?_⟩, ?_⟩, fun y t cs hb => hb.fr hf1 (by simpa using h.map.ne hb)⟩
  · have hp1 : IsPids W' gp bp 65535 x (onB (fun y => decide (y ∈ ids L)) x) (L.length + 1) := ⟨⟨h.pids.is.1.fr hf1 (by simpa using n5), h.pids.is.2.fr hf1 (by simpa using Ne.symm h0.ne)⟩, h.pids.ok⟩
    rw [onB_ids x L ⟨x, qos, ⟨q.m, pa, pc⟩, (sent + 1 : Nat)⟩ rfl] at hp1
    rw [List.length_append, List.length_singleton]
    exact hp1
  · refine List.pairwise_append.2 ⟨h0.ord, List.pairwise_singleton _ _, fun a ha b hb => ?_⟩
    rw [List.mem_singleton] at hb
    subst hb
    have := h0.le a ha
    show a.pl < ((sent + 1 : Nat) : Int)
    omega
  · intro f hf2
    rcases List.mem_append.1 hf2 with hf2 | hf2
    · have := h0.le f hf2
      omega
    · rw [List.mem_singleton] at hf2
      subst hf2
      exact Int.le_refl _
  · rw [List.length_append, List.length_singleton]
    have := h0.len
    omega
  · intro f hf2
    rcases List.mem_append.1 hf2 with hf2 | hf2
    · exact h.props.fr hf1 hnp f hf2
    · rw [List.mem_singleton] at hf2
      subst hf2
      exact ⟨hp.fr hf1 (fun b hb => ⟨Nat.zero_le _, hnp b hb⟩), hl⟩
  · exact (h.fr.mono (fun b hb _ => by simp at hb ⊢; rcases hb with rfl | rfl | rfl <;> simp)).trans hf1 (fun b hb _ => by simp at hb; subst hb; simp)
end
end Go.Proofs.Ytpaalhhadjihlaa

/- What is proved here: what the methods answer of no Out at all (nil). No conditions but those that each theorem names. What is proved here: what the methods of no Out at all answer to an acknowledgement, given what its look-up answers. No conditions but those that each theorem names. What is proved here: what some methods of an Out that nobody made (a zero one) answer. Conditions: the block is one. What is proved here: the look-up in an Out that nobody made finds nothing. Conditions: the block is one. -/
import Derived.Test.YtpaalhhadjihlaaOpg24
import Derived.MapKept
namespace Go.Proofs.Ytpaalhhadjihlaa
open Go.RowKit Go.Extern.Stop Go.Stop Go.Extern Go.Maps
set_option maxRecDepth 100000
theorem nil_len (w : World) : Calls Try.prog 19 #[.pointer none] w fun e w' => e = .returned (.int .i64 0) ∧ w = w' := by
  go_enter Try.func19, Try.ntmps19
  go_wp2
  go_ret
  exact ⟨rfl, rfl⟩
theorem nil_order (w : World) : Calls Try.prog 35 #[.pointer none] w fun e w' => e = .returned (.slice none 0 0) ∧ w = w' := by
  go_enter Try.func35, Try.ntmps35
  go_wp2
  go_ret
  exact ⟨rfl, rfl⟩
theorem nil_send (q : QV) (qos : Int) (w : World) : Calls Try.prog 8 #[.pointer none, q.agg, .int .i64 qos] w fun e w' => e = .returned (.tuple #[.int .i64 0, .bool false]) ∧ Below w.heap.size w w' := by
  have HB := Lib.hid ((Below.refl w.heap.size w).alloc (Nat.le_refl _) (.cells q.cells.toArray 36))
  unfold QV.agg
  unfold QV.cells at *
  go_enter Try.func8, Try.ntmps8
  go_wp2
  go_ret2
  exact ⟨rfl, HB.out⟩
theorem nil_group (w : World) : Calls Try.prog 15 #[.pointer none] w fun e w' => e = .returned (.slice none 0 0) ∧ w = w' := by
  have HI := Lib.hid (nil_order w)
  go_enter Try.func15, Try.ntmps15
  go_wp2_with fail
  refine HI.out.mono ?_
  rintro e w1 ⟨rfl, rfl⟩
  go_wp2_with fail
  go_loop [3, 9] (fun o i => o = .slice none 0 0 ∧ i = .int .i64 0) (fun _ _ => 0)
  case atStart => exact ⟨rfl, rfl⟩
  case round =>
    obtain ⟨rfl, rfl⟩ := hrel
    go_wp2_with fail
    go_ret
    exact ⟨rfl, rfl⟩
theorem nil_all (w : World) : Calls Try.prog 18 #[.pointer none] w fun e w' => e = .returned (.slice none 0 0) ∧ w = w' := by
  have HI := Lib.hid (nil_order w)
  go_enter Try.func18, Try.ntmps18
  go_wp2_with fail
  refine HI.out.mono ?_
  rintro e w1 ⟨rfl, rfl⟩
  go_wp2_with fail
  go_loop [3, 9] (fun o i => o = .slice none 0 0 ∧ i = .int .i64 0) (fun _ _ => 0)
  case atStart => exact ⟨rfl, rfl⟩
  case round =>
    obtain ⟨rfl, rfl⟩ := hrel
    go_wp2_with fail
    go_ret
    exact ⟨rfl, rfl⟩
theorem nil_again (w : World) : Calls Try.prog 21 #[.pointer none] w fun e w' => e = .returned (.slice none 0 0) ∧ w = w' := by
  have HI := Lib.hid (nil_order w)
  go_enter Try.func21, Try.ntmps21
  go_wp2_with fail
  refine HI.out.mono ?_
  rintro e w1 ⟨rfl, rfl⟩
  go_wp2_with fail
  go_loop [3, 9] (fun o i => o = .slice none 0 0 ∧ i = .int .i64 0) (fun _ _ => 0)
  case atStart => exact ⟨rfl, rfl⟩
  case round =>
    obtain ⟨rfl, rfl⟩ := hrel
    go_wp2_with fail
    go_ret
    exact ⟨rfl, rfl⟩
end Go.Proofs.Ytpaalhhadjihlaa
namespace Go.Proofs.Ytpaalhhadjihlaa
open Go.RowKit Go.Extern.Stop Go.Stop Go.Extern Go.Maps
set_option maxRecDepth 100000
set_option maxHeartbeats 2000000 in
theorem nil_get (i : Int) (w : World) : Calls Try.prog 29 #[.pointer none, .int .i64 i] w (GetSays w f0.agg false) := by
  have HO := Lib.hid (Own.start [] w)
  rw [FV.agg_eq]
  go_enter Try.func29, Try.ntmps29
  go_wp2_with (first
    | (refine wpo_alloc tyFt HO.out rfl rfl ?_; clear HO; rintro k2 W1 hO; have HO := Lib.hid hO; clear hO; simp only [Act.put, List.setIfInBounds_toArray, List.set_cons_zero, List.set_cons_succ])
    | (refine wpo_zero tyFt rfl rfl ?_)
    | (refine wpo_store (k := k2) HO.out 0 tyFt rfl _ _ rfl rfl rfl rfl rfl rfl rfl ?_; clear HO; rintro W3 hO; have HO := Lib.hid hO; clear hO; simp only [Act.put]))
  exact bodyPost_ret (v := .tuple #[.agg f0.cells.toArray, .bool false]) (res_own10 0 HO.out tyFt rfl rfl rfl rfl rfl) rfl ⟨rfl, HO.out.bel⟩
section
variable {w : World}
set_option maxHeartbeats 4000000 in
/-- Where the look-up finds nothing. -/
theorem ack_none (o : Value) (c : Array Value) (hc : c.size = 26) (k i r : Int) (h0 : c[0]? = some (.int .i64 k)) (h1 : c[1]? = some (.int .i64 i)) (h2 : c[2]? = some (.int .i64 r))
    (hg : ∀ W, Below w.heap.size w W → Calls Try.prog 29 #[o, .int .i64 i] W (GetSays W f0.agg false)) {n : Int} (hn : n = ansR (endsOf k) r f0.st false) (hn2 : n = 0 ∨ n = 5) :
    Calls Try.prog 10 #[o, .agg c] w fun x w' => ∃ pa pc, x = .returned (.tuple #[.int .i64 n, QV.agg ⟨m0, pa, pc⟩]) ∧ Below w.heap.size w w' := by
  have HO := Lib.hid (Own.start [] w)
  have HG := Lib.hid hg
  have HA := Lib.hid (fun W => ans_any c k r f0.st false h0 h2 W)
  rw [← hn] at HA
  have H0 := Lib.hid (And.intro h0 (And.intro h1 h2))
  have HC := Lib.hid hc
  have HS : Hid (f0.cells.toArray.size = f0.cells.toArray.size ∧ f0.cells.toArray.toList.all (·.oneCell') = true) := Lib.hid ⟨rfl, by rw [List.all_eq_true]; exact fun u hu => fv_one f0 u (by simpa using hu)⟩
  have HST : Hid (f0.cells.toArray[1]? = some (.int .i64 f0.st)) := Lib.hid rfl
  rw [FV.agg_eq] at HG
  clear hg h0 h1 h2 hn hc
  obtain ⟨vf, hvf⟩ : ∃ vf : FV, vf = f0 := ⟨_, rfl⟩
  have HVF := Lib.hid hvf
  rw [← hvf] at HG HST HA
  have HS9 : Hid (vf.cells.toArray.size = f0.cells.toArray.size ∧ vf.cells.toArray.toList.all (·.oneCell') = true) := Lib.hid ⟨rfl, by rw [List.all_eq_true]; exact fun u hu => fv_one vf u (by simpa using hu)⟩
  clear hvf
  generalize vf.cells.toArray = vc at *
  go_enter Try.func10, Try.ntmps10
  go_upto_region 1 with (first
    | (refine wpo_box HO.out _ rfl rfl rfl ?_; clear HO; rintro k2 W1 hO; have HO := Lib.hid hO; clear hO; simp only [Act.put, List.setIfInBounds_toArray, List.set_cons_zero, List.set_cons_succ])
    | (refine wpo_alloc tyMs HO.out rfl rfl ?_; clear HO; rintro k3 W1 hO; have HO := Lib.hid hO; clear hO; simp only [Act.put, List.setIfInBounds_toArray, List.set_cons_zero, List.set_cons_succ]))
  have c1 := ((HO.out.get 1 rfl).cell 1).trans H0.out.2.1
  have HG2 := Lib.hid (HG.out _ HO.out.bel)
  go_wp2_with fail
  refine HG2.out.mono ?_
  rintro x V1 ⟨rfl, hb⟩
  have HB := Lib.hid (HO.out.below hb)
  clear HO hb HG2 c1
  have HO := HB
  clear HB
  go_upto_region 2 with (first
    | (refine wpo_alloc tyFt HO.out rfl rfl ?_; clear HO; rintro k4 W2 hO; have HO := Lib.hid hO; clear hO; simp only [Act.put, List.setIfInBounds_toArray, List.set_cons_zero, List.set_cons_succ])
    | (refine wpo_store (k := k4) HO.out 0 tyFt rfl _ _ rfl rfl rfl rfl rfl HS9.out.1 HS9.out.2 ?_; clear HO; rintro W3 hO; have HO := Lib.hid hO; clear hO; simp only [Act.put]))
  have c1 := ((HO.out.get 0 rfl).cell 1).trans HST.out
  have HA2 := Lib.hid (HA.out W3)
  go_wp2_with (refine wpo_load (k := k2) HO.out 2 tyPk rfl HC.out _ rfl rfl rfl ?_; simp only [Act.put, List.setIfInBounds_toArray, List.set_cons_zero, List.set_cons_succ])
  refine HA2.out.mono ?_
  rintro x V2 ⟨rfl, hb⟩
  have HB := Lib.hid (HO.out.below hb)
  clear HO hb HA2 c1
  have HO := HB
  clear HB
  rcases hn2 with rfl | rfl
  all_goals
    go_wp2_with (first
      | (refine wpo_zero tyMs rfl rfl ?_)
      | (refine wpo_store (k := k3) HO.out 1 tyMs rfl _ _ rfl rfl rfl rfl rfl rfl rfl ?_; clear HO; rintro W5 hO; have HO := Lib.hid hO; clear hO; simp only [Act.put]))
    exact bodyPost_ret (v := .tuple #[.int .i64 _, .agg zq]) (res_own01 1 HO.out tyMs rfl rfl rfl rfl rfl) rfl ⟨none, 0, rfl, HO.out.bel⟩
end
end Go.Proofs.Ytpaalhhadjihlaa
namespace Go.Proofs.Ytpaalhhadjihlaa
open Go.RowKit Go.Extern.Stop Go.Stop Go.Extern Go.Maps
set_option maxRecDepth 100000
/-- Block g is an Out that nobody made. -/
def ZOut (w : World) (g : Nat) : Prop := Blk w g 32 #[.pointer none, .int .i64 0, .map none]
theorem ZOut.below {w w' : World} {g : Nat} (h : ZOut w g) (hb : Below w.heap.size w w') : ZOut w' g := Blk.below h hb (Blk.lt h)
theorem zero_len {w : World} {g : Nat} (h : ZOut w g) : Calls Try.prog 19 #[.pointer (some ⟨g, 0, none⟩)] w fun e w' => e = .returned (.int .i64 0) ∧ w = w' := by
  have c2 := Blk.cell h 2
  clear h
  go_enter Try.func19, Try.ntmps19
  go_wp2
  go_ret
  exact ⟨rfl, rfl⟩
theorem nil_next (w : World) : Calls Try.prog 26 #[.pointer none] w fun e w' => e = .returned (.tuple #[.int .i64 0, .bool false]) ∧ w = w' := by
  go_enter Try.func26, Try.ntmps26
  go_wp2
  go_ret2
  exact ⟨rfl, rfl⟩
theorem zero_send {w : World} {g : Nat} (h : ZOut w g) (q : QV) (qos : Int) : Calls Try.prog 8 #[.pointer (some ⟨g, 0, none⟩), q.agg, .int .i64 qos] w fun e w' => e = .returned (.tuple #[.int .i64 0, .bool false]) ∧ Below w.heap.size w w' := by
  by_cases hq : qos = 1 ∨ qos = 2
  · have hb := (Below.refl w.heap.size w).alloc (Nat.le_refl _) (.cells q.cells.toArray 36)
    have HB := Lib.hid hb
    have c0 := Blk.cell (h.below hb) 0
    have HN := Lib.hid (nil_next (w.alloc (.cells q.cells.toArray 36)))
    unfold QV.agg
    unfold QV.cells at *
    clear h hb
    rcases hq with rfl | rfl
    all_goals
      go_enter Try.func8, Try.ntmps8
      go_wp2_with fail
      refine HN.out.mono ?_
      rintro e w2 ⟨rfl, rfl⟩
      go_wp2_with fail
      go_ret2
      exact ⟨rfl, HB.out⟩
  · exact send_no q qos ⟨fun e => hq (.inl e), fun e => hq (.inr e)⟩ w
end Go.Proofs.Ytpaalhhadjihlaa
namespace Go.Proofs.Ytpaalhhadjihlaa
open Go.RowKit Go.Extern.Stop Go.Stop Go.Extern Go.Maps
set_option maxRecDepth 100000
theorem look_nil (i : Int) (W : World) : (Instr.lookup 30 (.map none) (.int .i64 i) true).run Try.prog W = .ok (.tuple #[.agg f0.cells.toArray, .bool false]) W := by
  have hz := Try.zflight W
  rw [FV.agg_eq] at hz
  have hu := run_underlying Try.underlying30 W
  have hck : (Instr.checkKey true 10000 3 (.int .i64 i)).run Try.prog W = .ok () W := MapKept.run_checkKey Try.underlying3 (by first | rfl | trivial | simp [MapKept.IsKey]) true 9999
  have hf : (Instr.findKey 3 (.int .i64 i) []).run Try.prog W = .ok Option.none W := rfl
  simp [Instr.lookup, hu, hck, hf, hz]
set_option maxHeartbeats 2000000 in
theorem zero_get {w : World} {g : Nat} (h : ZOut w g) (i : Int) : Calls Try.prog 29 #[.pointer (some ⟨g, 0, none⟩), .int .i64 i] w (GetSays w f0.agg false) := by
  have HO := Lib.hid (Own.start [] w)
  have HH := Lib.hid h
  have hl := look_nil i
  rw [FV.agg_eq]
  clear h
  obtain ⟨vc, hvc⟩ : ∃ vc, vc = f0.cells.toArray := ⟨_, rfl⟩
  have HS9 : Hid (vc.size = f0.cells.toArray.size ∧ vc.toList.all (·.oneCell') = true) := Lib.hid ⟨by rw [hvc], by rw [hvc]; rfl⟩
  rw [← hvc] at hl ⊢
  clear hvc
  go_enter Try.func29, Try.ntmps29
  go_upto_region 1 with (refine wpo_alloc tyFt HO.out rfl rfl ?_; clear HO; rintro k2 W1 hO; have HO := Lib.hid hO; clear hO; simp only [Act.put, List.setIfInBounds_toArray, List.set_cons_zero, List.set_cons_succ])
  have c2 := Blk.cell (HH.out.below HO.out.bel) 2
  go_wp2_with (first
    | (refine wpo_alloc tyFt HO.out rfl rfl ?_; clear HO; rintro k3 W2 hO; have HO := Lib.hid hO; clear hO; simp only [Act.put, List.setIfInBounds_toArray, List.set_cons_zero, List.set_cons_succ])
    | (refine wpo_store (k := k3) HO.out 0 tyFt rfl _ _ rfl rfl rfl rfl rfl HS9.out.1 HS9.out.2 ?_; clear HO; rintro W3 hO; have HO := Lib.hid hO; clear hO; simp only [Act.put])
    | (refine wpo_load (k := k3) HO.out 0 tyFt rfl HS9.out.1 _ rfl rfl rfl ?_; simp only [Act.put, List.setIfInBounds_toArray, List.set_cons_zero, List.set_cons_succ])
    | (refine wpo_store (k := k2) HO.out 1 tyFt rfl _ _ rfl rfl rfl rfl rfl HS9.out.1 HS9.out.2 ?_; clear HO; rintro W4 hO; have HO := Lib.hid hO; clear hO; simp only [Act.put]))
  exact bodyPost_ret (v := .tuple #[.agg vc, .bool false]) (res_own10 1 HO.out tyFt rfl rfl rfl rfl HS9.out.1) rfl ⟨rfl, HO.out.bel⟩
end Go.Proofs.Ytpaalhhadjihlaa

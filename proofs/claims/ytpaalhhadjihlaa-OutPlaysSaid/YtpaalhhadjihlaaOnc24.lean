/- What is proved here: what each act does to messages under way, how many are under way and how many came out. Conditions: those that each theorem names. -/
import Derived.Test.YtpaalhhadjihlaaAwk24
import Derived.Test.YtpaalhhadjihlaaAll24
import Derived.Test.YtpaalhhadjihlaaGrp24
import Derived.Test.YtpaalhhadjihlaaAct24
namespace Go.Proofs.Ytpaalhhadjihlaa
open Go.RowKit Go.Extern.Stop Go.Stop Go.Extern Go.Maps Go.Deep
set_option maxRecDepth 100000
/-- What stands in a walk: so many came out, the others are under way, each in a state. -/
structure Oc24 (w W : World) (g gp bp bm : Nat) (L : FL) (last sent out : Nat) : Prop where
  aw : AwI w W g gp bp bm L last sent
  num : L.length + out = sent
  st : ∀ f ∈ L, 1 ≤ f.st ∧ f.st ≤ 3
theorem tyAc : Ty Try.prog 38 a0.cells.toArray := ty_mk (n := 14) (by kernel_rfl) rfl Try.underlying38 rfl (by kernel_rfl) rfl
/-- An acknowledgement. -/
def ackQ (k id rs : Int) : Pk := { pk0 with kind := k, id := id, reason := rs }
theorem builtQ (k id rs : Int) : Try.prog.built 49 [(0, .int .i64 k), (1, .int .i64 id), (2, .int .i64 rs)] = some ((ackQ k id rs).cells pa0) := by kernel_rfl
set_option maxHeartbeats 2000000 in
theorem packet13_any (a : AV) (w : World) : Calls Try.prog 11 #[.agg a.cells.toArray] w fun x w' => x = .returned (.agg ((ackQ a.of a.id a.rs).cells pa0)) ∧ Below w.heap.size w w' := by
  have HO := Lib.hid (Own.start [] w)
  have HB := Lib.hid (builtQ a.of a.id a.rs)
  have HS : Hid (((ackQ a.of a.id a.rs).cells pa0).size = 26 ∧ ((ackQ a.of a.id a.rs).cells pa0).toList.all (·.oneCell') = true) := Lib.hid ⟨rfl, rfl⟩
  have HC : Hid (a.cells.toArray[11]? = some (.int .i64 a.of) ∧ a.cells.toArray[12]? = some (.int .i64 a.id) ∧ a.cells.toArray[13]? = some (.int .i64 a.rs)) := Lib.hid ⟨rfl, rfl, rfl⟩
  generalize (ackQ a.of a.id a.rs).cells pa0 = pc at *
  generalize a.cells.toArray = ac at *
  go_enter Try.func11, Try.ntmps11
  go_wp2_with (first
    | (refine wpo_box (t := 38) HO.out _ rfl rfl rfl ?_; clear HO; rintro k1 W1 hO; have HO := Lib.hid hO; clear hO; simp only [Act.put, List.setIfInBounds_toArray, List.set_cons_zero, List.set_cons_succ])
    | (refine wpo_alloc tyPk HO.out rfl rfl ?_; clear HO; rintro k2 W2 hO; have c11 := ((hO.get 1 rfl).cell 11).trans HC.out.1; have c12 := ((hO.get 1 rfl).cell 12).trans HC.out.2.1; have c13 := ((hO.get 1 rfl).cell 13).trans HC.out.2.2; have HO := Lib.hid hO; clear hO; simp only [Act.put, List.setIfInBounds_toArray, List.set_cons_zero, List.set_cons_succ])
    | (refine wpo_built HB.out rfl rfl rfl ?_)
    | (refine wpo_store HO.out 0 tyPk rfl _ _ rfl rfl rfl rfl rfl HS.out.1 HS.out.2 ?_; clear HO c11 c12 c13; rintro W3 hO; have HO := Lib.hid hO; clear hO))
  exact bodyPost_ret (v := .agg pc) (res_own1 0 HO.out tyPk rfl rfl rfl HS.out.1) rfl (And.intro rfl HO.out.bel)
section
variable {w W : World} {g gp bp bm : Nat} {L : FL} {last sent out : Nat}
theorem Oc24.below {W' : World} (h : Oc24 w W g gp bp bm L last sent out) (hb : Below W.heap.size W W') : Oc24 w W' g gp bp bm L last sent out := ⟨h.aw.below hb, h.num, h.st⟩
/-- One is sent, or not. -/
theorem on_send (h : Oc24 w W g gp bp bm L last sent out) (q : QV) (hq : PIn W w.heap.size q.pa q.m.props) (hl : q.m.props.length ≤ 1000) (qos : Int) (hs : sent < 100) :
    Calls Try.prog 8 #[.pointer (some ⟨g, 0, none⟩), q.agg, .int .i64 qos] W fun x w' => ∃ (id : Int) (ok : Bool) (L' : FL) (last' : Nat), x = .returned (.tuple #[.int .i64 id, .bool ok]) ∧ Oc24 w w' g gp bp bm L' last' (sent + ok.toNat) out := by
  by_cases hqos : qos = 1 ∨ qos = 2
  · obtain ⟨x, hx⟩ : ∃ x, scan (fun y => decide (y ∈ ids L)) 65535 last 65535 0 = some x := by
      cases hs : scan (fun y => decide (y ∈ ids L)) 65535 last 65535 0 with
      | some x => exact ⟨x, rfl⟩
      | none =>
        have h1 := (next_none h.aw.out.pids.ok).1 hs
        have h2 := h.aw.out.len
        omega
    refine (send_ok (B := w.heap.size) h.aw.out ⟨h.aw.ge.1, h.aw.ge.2.1, h.aw.ge.2.2.1⟩ q hq hl qos hqos (by omega) hx).mono ?_
    rintro e w' ⟨rfl, pa, pc, ho⟩
    refine ⟨_, true, _, _, rfl, h.aw.on ho, ?_, fun f hf => ?_⟩
    · have := h.num
      rw [List.length_append, List.length_singleton]
      show _ = sent + 1
      omega
    · rcases List.mem_append.1 hf with hf | hf
      · exact h.st f hf
      · rw [List.mem_singleton] at hf
        subst hf
        show 1 ≤ qos ∧ qos ≤ 3
        omega
  · refine (send_no q qos ⟨fun e => hqos (.inl e), fun e => hqos (.inr e)⟩ W).mono ?_
    rintro e w' ⟨rfl, hb⟩
    exact ⟨0, false, L, last, rfl, h.below hb⟩
theorem wof_len1 {v : FV} (hv : v ∈ L) (hd : (ids L).Nodup) : (wof v.id L).length + 1 = L.length := by
  have := (wof_perm hv hd).length_eq
  rw [List.length_cons] at this
  omega
/-- Which answers say that a message came out. -/
def outB (n : Int) : Bool := decide (n = 1) || decide (n = 2) || decide (n = 4)
theorem ans_six (e r st : Int) (is : Bool) : ansR e r st is = 0 ∨ ansR e r st is = 1 ∨ ansR e r st is = 2 ∨ ansR e r st is = 3 ∨ ansR e r st is = 4 ∨ ansR e r st is = 5 := by
  unfold ansR
  repeat' split
  all_goals simp
theorem ans_none (e r st : Int) : ansR e r st false = 0 ∨ ansR e r st false = 5 := by
  unfold ansR
  repeat' split
  all_goals simp_all
/-- An acknowledgement. -/
theorem on_ack (h : Oc24 w W g gp bp bm L last sent out) (k i r : Int) (hi : (Lit.int .i64 i).wf = true) :
    Calls Try.prog 10 #[.pointer (some ⟨g, 0, none⟩), .agg ((ackQ k i r).cells pa0)] W fun x w' => ∃ (n : Int) (q : QV) (L' : FL), x = .returned (.tuple #[.int .i64 n, q.agg]) ∧ (n = 0 ∨ n = 1 ∨ n = 2 ∨ n = 3 ∨ n = 4 ∨ n = 5) ∧ Oc24 w w' g gp bp bm L' last sent (out + (outB n).toNat) := by
  by_cases hm : i ∈ ids L
  · obtain ⟨v, hv, rfl⟩ := List.mem_map.1 hm
    obtain ⟨n, hn⟩ : ∃ n, n = ansR (endsOf k) r v.st true := ⟨_, rfl⟩
    have hsix := ans_six (endsOf k) r v.st true
    rw [← hn] at hsix
    have endCase : (n = 1 ∨ n = 2 ∨ n = 4) → Calls Try.prog 10 #[.pointer (some ⟨g, 0, none⟩), .agg ((ackQ k v.id r).cells pa0)] W fun x w' => ∃ (n : Int) (q : QV) (L' : FL), x = .returned (.tuple #[.int .i64 n, q.agg]) ∧ (n = 0 ∨ n = 1 ∨ n = 2 ∨ n = 3 ∨ n = 4 ∨ n = 5) ∧ Oc24 w w' g gp bp bm L' last sent (out + (outB n).toNat) := fun h2 =>
      (ack_end h.aw.out _ rfl k v.id r rfl rfl rfl hv rfl hn h2).mono fun e w' ⟨pa, pc, he, _, ho⟩ => by
        refine ⟨n, ⟨v.q.m, pa, pc⟩, wof v.id L, he, by omega, h.aw.on ho, ?_, fun f hf => h.st f (mem_wof.1 hf).1⟩
        have h3 : (outB n).toNat = 1 := by rcases h2 with rfl | rfl | rfl <;> rfl
        have := wof_len1 hv h.aw.out.nodup
        have := h.num
        omega
    have noCase : (n = 0 ∨ n = 5) → Calls Try.prog 10 #[.pointer (some ⟨g, 0, none⟩), .agg ((ackQ k v.id r).cells pa0)] W fun x w' => ∃ (n : Int) (q : QV) (L' : FL), x = .returned (.tuple #[.int .i64 n, q.agg]) ∧ (n = 0 ∨ n = 1 ∨ n = 2 ∨ n = 3 ∨ n = 4 ∨ n = 5) ∧ Oc24 w w' g gp bp bm L' last sent (out + (outB n).toNat) := fun h2 =>
      (ack_no h.aw.out _ rfl k v.id r rfl rfl rfl hi (v := v) (b := true) (.inl ⟨rfl, hv, rfl⟩) hn h2).mono fun e w' ⟨pa, pc, he, _, ho⟩ => by
        refine ⟨n, ⟨m0, pa, pc⟩, L, he, by omega, h.aw.on ho, ?_, h.st⟩
        have h3 : (outB n).toNat = 0 := by rcases h2 with rfl | rfl <;> rfl
        have := h.num
        omega
    rcases hsix with e | e | e | e | e | e
    · exact noCase (.inl e)
    · exact endCase (.inl e)
    · exact endCase (.inr (.inl e))
    · refine (ack_rel h.aw.out _ rfl k v.id r rfl rfl rfl hv rfl (by rw [← hn]; exact e.symm)).mono fun e w' ⟨pa, pc, he, _, ho⟩ => ?_
      refine ⟨3, ⟨v.q.m, pa, pc⟩, setS v.id L, he, by omega, h.aw.on ho, ?_, fun f hf => ?_⟩
      · have := h.num
        rw [len_setS]
        exact this
      · obtain ⟨y, hy, rfl⟩ := List.mem_map.1 hf
        split
        · show (1 : Int) ≤ 3 ∧ (3 : Int) ≤ 3
          omega
        · exact h.st y hy
    · exact endCase (.inr (.inr e))
    · exact noCase (.inr e)
  · refine (ack_no h.aw.out _ rfl k i r rfl rfl rfl hi (v := f0) (b := false) (.inr ⟨rfl, rfl, hm⟩) rfl (ans_none _ _ _)).mono fun e w' ⟨pa, pc, he, _, ho⟩ => ?_
    refine ⟨_, ⟨m0, pa, pc⟩, L, he, ans_six _ _ _ _, h.aw.on ho, ?_, h.st⟩
    have h3 : (outB (ansR (endsOf k) r f0.st false)).toNat = 0 := by rcases ans_none (endsOf k) r f0.st with e | e <;> rw [e] <;> rfl
    have := h.num
    omega
theorem filter_two (p : FV → Bool) : ∀ M : FL, (M.filter p).length + (M.filter (fun f => !p f)).length = M.length
  | [] => rfl
  | f :: M => by
    have := filter_two p M
    cases hp : p f <;> simp [hp] <;> omega
/-- Those of groups are taken away. -/
theorem on_group (h : Oc24 w W g gp bp bm L last sent out) :
    Calls Try.prog 15 #[.pointer (some ⟨g, 0, none⟩)] W fun x w' => ∃ (a : Option Addr) (n c : Nat) (L' : FL), x = .returned (.slice a n c) ∧ Oc24 w w' g gp bp bm L' last sent (out + n) :=
  (group_any h.aw.out).mono fun e w' ⟨v, M, he, hr, hm, _, ho⟩ => by
    obtain ⟨a, c, rfl⟩ := hr.form
    refine ⟨a, M.length, c, _, he, h.aw.on ho, ?_, fun f hf => h.st f (List.mem_filter.1 hf).1⟩
    have h1 := congrArg List.length hm
    rw [List.length_map, List.length_map] at h1
    have h2 := filter_two keepB L
    have := h.num
    omega
/-- What the row of all of them says. -/
structure Row24 (w W : World) (v : Value) (n : Nat) (G : FL) : Prop where
  form : ∃ a c, v = .slice a n c
  len : G.length = n
  cell : 0 < n → ∃ gr c, v = .slice (some ⟨gr, 0, none⟩) n c ∧ ∀ k, k < n → W.cell? ⟨gr, k * 11, none⟩ = some (.int .i64 (G.getD k f0).id) ∧ W.cell? ⟨gr, k * 11 + 1, none⟩ = some (.int .i64 (G.getD k f0).st)
  ok : ∀ k, k < n → 1 ≤ (G.getD k f0).id ∧ 1 ≤ (G.getD k f0).st ∧ (G.getD k f0).st ≤ 3
  ne : ∀ j k, j < k → k < n → (G.getD j f0).id ≠ (G.getD k f0).id
theorem getD_at {M : FL} {k : Nat} (h : k < M.length) : M.getD k f0 = M[k] := by rw [List.getD_eq_getElem?_getD, List.getElem?_eq_getElem h]; rfl
theorem on_all (h : Oc24 w W g gp bp bm L last sent out) :
    Calls Try.prog 18 #[.pointer (some ⟨g, 0, none⟩)] W fun x w' => ∃ v G, x = .returned v ∧ Row24 w w' v L.length G ∧ Oc24 w w' g gp bp bm L last sent out :=
  (all_any h.aw.out).mono fun e w' ⟨v, G, he, hr, hm, _, hb⟩ => by
    have hl : G.length = L.length := by
      have h1 := congrArg List.length hm
      rwa [List.length_map, List.length_map] at h1
    have hg : ∀ k, k < L.length → ∃ f ∈ L, (G.getD k f0).id = f.id ∧ (G.getD k f0).st = f.st := fun k hk => by
      have h1 : (G.map says24)[k]? = (L.map says24)[k]? := by rw [hm]
      rw [List.getElem?_map, List.getElem?_map, List.getElem?_eq_getElem (by omega), List.getElem?_eq_getElem hk] at h1
      have h2 : says24 G[k] = says24 L[k] := Option.some.inj h1
      rw [getD_at (by omega)]
      exact ⟨L[k], List.getElem_mem _, (Prod.mk.inj h2).1, (Prod.mk.inj (Prod.mk.inj h2).2).1⟩
    have hid : ids G = ids L := by
      have h1 := congrArg (List.map Prod.fst) hm
      rw [List.map_map, List.map_map] at h1
      exact h1
    refine ⟨v, G, he, ⟨?_, hl, fun hp => ?_, fun k hk => ?_, fun j k hjk hk => ?_⟩, h.below hb⟩
    · obtain ⟨a, c, rfl⟩ := hr.form
      exact ⟨a, c, by rw [hl]⟩
    · obtain ⟨a, c, rfl⟩ := hr.form
      obtain ⟨gr, rfl, _, hc⟩ := hr.cell (by omega)
      exact ⟨gr, c, by rw [hl], fun k hk => ⟨hc k 0 (by omega) (by omega), hc k 1 (by omega) (by omega)⟩⟩
    · obtain ⟨f, hf, e1, e2⟩ := hg k hk
      have h1 := h.aw.out.range (List.mem_map.2 ⟨f, hf, rfl⟩)
      have h2 := h.st f hf
      rw [e1, e2]
      exact ⟨h1.1, h2⟩
    · have hd := h.aw.out.nodup
      rw [← hid] at hd
      have h1 := List.pairwise_iff_getElem.1 hd j k (by simp [ids]; omega) (by simp [ids]; omega) hjk
      simp only [ids, List.getElem_map] at h1
      rw [getD_at (by omega), getD_at (by omega)]
      exact h1
theorem on_new (w : World) : Calls Try.prog 6 #[] w fun x w' => ∃ g gp bp bm, x = .returned (.pointer (some ⟨g, 0, none⟩)) ∧ Oc24 w w' g gp bp bm [] 0 0 0 :=
  (out_new w).mono fun _ _ ⟨g, gp, bp, bm, hx, ho, h1, h2, h3, h4, hb⟩ => ⟨g, gp, bp, bm, hx, ⟨ho, hb, h1, h2, h3, h4⟩, rfl, fun f hf => by cases hf⟩
end
end Go.Proofs.Ytpaalhhadjihlaa

/- What is proved here: what both tell of what they hold is the same; and those that nobody made hold nothing. Conditions: both hold the same, and few. -/
import Derived.Test.YtpaalhhadjihlaaPls24
import Derived.Test.YtpaalhhadjihlaaRag24
import Derived.Test.YtpaalhhadjihlaaSmf24
import Derived.Test.YtpaalhhadjihlaaSmk24
import Derived.Test.YtpaalhhadjihlaaNor24
namespace Go.Proofs.Ytpaalhhadjihlaa
open Go.RowKit Go.Extern.Stop Go.Stop Go.Extern Go.Maps Go.Deep
set_option maxRecDepth 100000
section
variable {w V : World} {g gp bp bm x xp sent last : Nat} {K : OL} {L D : FL} {v : Value} {LP : List Int}
theorem st_props {G L : FL} (h : G.map says24 = L.map says24) (hp : ∀ f ∈ L, f.q.m.props.length ≤ 1000) : ∀ f ∈ G, f.q.m.props.length ≤ 1000 := fun f hf => by
  obtain ⟨y, hy, hs⟩ := says_mem h hf
  have q3 : y.q.m = f.q.m := congrArg (fun p => p.2.2) hs
  rw [← q3]
  exact hp y hy
theorem pl_len (h : PlS w V g gp bp bm L last sent x xp v D LP K) (W : World) (hb : Below V.heap.size V W) : Calls Try.prog 19 #[.pointer (some ⟨g, 0, none⟩)] W fun e W' => e = .returned (.int .i64 L.length) ∧ Below V.heap.size V W' :=
  (out_len (h.m.below hb).aw.out).mono fun _ _ ⟨he, hw⟩ => ⟨he, hw ▸ hb⟩
theorem pl_all (h : PlS w V g gp bp bm L last sent x xp v D LP K) (hs : sent ≤ 100) (W : World) (hb : Below V.heap.size V W) :
    Calls Try.prog 18 #[.pointer (some ⟨g, 0, none⟩)] W fun e W1 => ∃ (A : Option Addr) (c : Nat), e = .returned (.slice A L.length c) ∧ Below V.heap.size V W1 ∧
      Hid (∀ W2, Below W1.heap.size W1 W2 → Calls Try.prog 17 #[.slice A L.length c, v] W2 fun e W3 => e = .returned (.bool true) ∧ Below V.heap.size V W3) := by
  have hM := h.m.below hb
  have hlen := h.m.aw.out.len
  refine (all_any hM.aw.out).mono ?_
  rintro e W1 ⟨u, G, rfl, hrow, hm, hpin, hb1⟩
  have hM1 := hM.below hb1
  obtain ⟨A, c, rfl⟩ := hrow.form
  obtain ⟨A2, c2, hv⟩ := h.m.rf.form
  have hl := says_len hm
  have hl2 := says_len h.eq
  have hbb := hb.trans (hb1.mono hb.size)
  rw [hl] at hrow ⊢
  refine ⟨A, c, rfl, hbb, Lib.hid fun W2 hb2 => ?_⟩
  have hM2 := hM1.below hb2
  have hr2 := hM2.rf.row
  rw [hv, hl2] at hr2
  rw [hv, hl2]
  refine (fsame_any (B1 := 0) (B2 := w.heap.size) (hrow.below hb2) hr2 (fun f hf => ⟨(hpin f hf).below hb2, st_props hm (fun f hf => (h.m.aw.out.props f hf).2) f hf⟩) (fun f hf => (hM2.rf.ms f hf).1) (hm.trans h.eq.symm) hl.symm (by omega)).mono ?_
  rintro e W3 ⟨he, hb3⟩
  exact ⟨he, (hbb.trans (hb2.mono hbb.size)).trans (hb3.mono (hbb.trans (hb2.mono hbb.size)).size)⟩
def pkS (p : Int × Int × MV) : Pk := if p.2.1 = 3 then relP p.1 else pkP p.2.2 p.2.1 p.1 true
theorem pkA_says {D L : FL} (h : D.map says24 = L.map says24) : D.map pkA = L.map pkA := by
  have e : ∀ M : FL, M.map pkA = (M.map says24).map pkS := fun M => by
    rw [List.map_map]
    rfl
  rw [e, e, h]
theorem pkI_of {W : World} {B : Nat} {y : Pk × PkA} (h : (∃ a c, y.2 = paR a c) ∧ PIn W B y.2.pa y.1.props) (hs : ∃ f : FV, y.1 = pkA f) : PkI W B y.2 y.1 := by
  obtain ⟨⟨a, c, e⟩, hp⟩ := h
  obtain ⟨f, hf⟩ := hs
  have hw : y.1.wProps = [] ∧ y.1.filters = [] ∧ y.1.codes = [] := by
    rw [hf]
    unfold pkA
    split <;> exact ⟨rfl, rfl, rfl⟩
  obtain ⟨w1, w2, w3⟩ := hw
  exact ⟨hp, by rw [w1]; exact PIn.nil _ _ _, by rw [w2]; exact CIn.nil _ _ _ _, by rw [w3]; exact CIn.nil _ _ _ _⟩
theorem pkA_few (f : FV) (h : f.q.m.props.length ≤ 1000) : PkFew (pkA f) := by
  unfold pkA
  split
  · exact ⟨rfl, Nat.zero_le _, Nat.zero_le _, Nat.zero_le _, Nat.zero_le _⟩
  · exact ⟨rfl, h, Nat.zero_le _, Nat.zero_le _, Nat.zero_le _⟩
theorem pl_again (h : PlS w V g gp bp bm L last sent x xp v D LP K) (hs : sent ≤ 100) (W : World) (hb : Below V.heap.size V W) :
    Calls Try.prog 21 #[.pointer (some ⟨g, 0, none⟩)] W fun e W1 => ∃ (A : Option Addr) (c : Nat), e = .returned (.slice A L.length c) ∧ Below V.heap.size V W1 ∧
      Hid (∀ W2, Below W1.heap.size W1 W2 → Calls Try.prog 22 #[.pointer (some ⟨x, 0, none⟩)] W2 fun e W3 => ∃ (A2 : Option Addr) (c2 : Nat), e = .returned (.slice A2 L.length c2) ∧ Below V.heap.size V W3 ∧
        Hid (∀ W4, Below W3.heap.size W3 W4 → Calls Try.prog 20 #[.slice A L.length c, .slice A2 L.length c2] W4 fun e W5 => e = .returned (.bool true) ∧ Below V.heap.size V W5)) := by
  have hM := h.m.below hb
  have hlen := h.m.aw.out.len
  have hl2 := says_len h.eq
  refine (again_any hM.aw.out).mono ?_
  rintro e W1 ⟨u, KL, rfl, hrow, hm, hpin, hb1⟩
  have hM1 := hM.below hb1
  obtain ⟨A, c, rfl⟩ := hrow.form
  have hl : KL.length = L.length := by
    have h1 := congrArg List.length hm
    rwa [List.length_map, List.length_map] at h1
  have hbb := hb.trans (hb1.mono hb.size)
  rw [hl] at hrow ⊢
  refine ⟨A, c, rfl, hbb, Lib.hid fun W2 hb2 => ?_⟩
  have hM2 := hM1.below hb2
  have hbb2 := hbb.trans (hb2.mono hbb.size)
  refine (ragain_any hM2.rf).mono ?_
  rintro e W3 ⟨u2, KL2, rfl, hrow2, hm2, hpin2, hb3⟩
  obtain ⟨A2, c2, rfl⟩ := hrow2.form
  have hlk : KL2.length = L.length := by
    have h1 := congrArg List.length hm2
    rw [List.length_map, List.length_map] at h1
    exact h1.trans hl2
  have hbb3 := hbb2.trans (hb3.mono hbb2.size)
  rw [hlk] at hrow2 ⊢
  refine ⟨A2, c2, rfl, hbb3, Lib.hid fun W4 hb4 => ?_⟩
  have hb14 : Below W1.heap.size W1 W4 := (hb2.trans (hb3.mono hb2.size)).trans (hb4.mono (hb2.trans (hb3.mono hb2.size)).size)
  have hof : ∀ {M : FL} {Q : List (Pk × PkA)}, Q.map Prod.fst = M.map pkA → ∀ y ∈ Q, ∃ f ∈ M, y.1 = pkA f := fun {M Q} hq y hy => by
    have h1 : y.1 ∈ Q.map Prod.fst := List.mem_map.2 ⟨y, hy, rfl⟩
    rw [hq] at h1
    obtain ⟨f, hf, he⟩ := List.mem_map.1 h1
    exact ⟨f, hf, he.symm⟩
  refine (ksame_any (B1 := 0) (B2 := w.heap.size) (hrow.below hb14) (hrow2.below hb4) (fun y hy => ?_) (fun y hy => ?_) (by rw [hm, hm2, pkA_says h.eq]) hl.symm (by omega)).mono ?_
  · obtain ⟨f, hf, he⟩ := hof hm y hy
    refine ⟨(pkI_of (hpin y hy) ⟨f, he⟩).below hb14, ?_⟩
    rw [he]
    exact pkA_few f (h.m.aw.out.props f hf).2
  · obtain ⟨f, hf, he⟩ := hof hm2 y hy
    exact (pkI_of (hpin2 y hy) ⟨f, he⟩).below hb4
  · rintro e W5 ⟨he, hb5⟩
    have hbb4 := hbb3.trans (hb4.mono hbb3.size)
    exact ⟨he, hbb4.trans (hb5.mono hbb4.size)⟩
end
/-- An Out that nobody made: none, or a zero one. -/
def NoO (V : World) (o : Value) : Prop := o = .pointer none ∨ ∃ z, o = .pointer (some ⟨z, 0, none⟩) ∧ ZOut V z
section
variable {V W : World} {o : Value}
theorem no_send (h : NoO V o) (q : QV) (qos : Int) (hb : Below V.heap.size V W) : Calls Try.prog 8 #[o, q.agg, .int .i64 qos] W fun e W' => e = .returned (.tuple #[.int .i64 0, .bool false]) ∧ Below V.heap.size V W' := by
  rcases h with rfl | ⟨z, rfl, hz⟩
  · exact (nil_send q qos W).mono fun _ _ ⟨he, hb2⟩ => ⟨he, hb.trans (hb2.mono hb.size)⟩
  · exact (zero_send (hz.below hb) q qos).mono fun _ _ ⟨he, hb2⟩ => ⟨he, hb.trans (hb2.mono hb.size)⟩
theorem no_ack (h : NoO V o) (k i r : Int) (hb : Below V.heap.size V W) : Calls Try.prog 10 #[o, .agg ((ackQ k i r).cells pa0)] W fun e W' => ∃ pa pc, e = .returned (.tuple #[.int .i64 (ansR (endsOf k) r f0.st false), QV.agg ⟨m0, pa, pc⟩]) ∧ Below V.heap.size V W' := by
  have hn := ans_none (endsOf k) r f0.st
  have key : ∀ (_ : ∀ U, Below W.heap.size W U → Calls Try.prog 29 #[o, .int .i64 i] U (GetSays U f0.agg false)), Calls Try.prog 10 #[o, .agg ((ackQ k i r).cells pa0)] W fun e W' => ∃ pa pc, e = .returned (.tuple #[.int .i64 (ansR (endsOf k) r f0.st false), QV.agg ⟨m0, pa, pc⟩]) ∧ Below V.heap.size V W' := fun hg =>
    (ack_none o _ rfl k i r rfl rfl rfl hg rfl hn).mono fun _ _ ⟨pa, pc, he, hb2⟩ => ⟨pa, pc, he, hb.trans (hb2.mono hb.size)⟩
  rcases h with rfl | ⟨z, rfl, hz⟩
  · exact key fun U _ => nil_get i U
  · exact key fun U hU => zero_get ((hz.below hb).below hU) i
theorem no_group (h : NoO V o) (hb : Below V.heap.size V W) : Calls Try.prog 15 #[o] W fun e W' => e = .returned (.slice none 0 0) ∧ Below V.heap.size V W' := by
  rcases h with rfl | ⟨z, rfl, hz⟩
  · exact (nil_group W).mono fun _ _ ⟨he, hw⟩ => ⟨he, hw ▸ hb⟩
  · exact (zero_group (hz.below hb)).mono fun _ _ ⟨he, hb2⟩ => ⟨he, hb.trans (hb2.mono hb.size)⟩
theorem no_all (h : NoO V o) (hb : Below V.heap.size V W) : Calls Try.prog 18 #[o] W fun e W' => e = .returned (.slice none 0 0) ∧ Below V.heap.size V W' := by
  rcases h with rfl | ⟨z, rfl, hz⟩
  · exact (nil_all W).mono fun _ _ ⟨he, hw⟩ => ⟨he, hw ▸ hb⟩
  · exact (zero_all (hz.below hb)).mono fun _ _ ⟨he, hb2⟩ => ⟨he, hb.trans (hb2.mono hb.size)⟩
theorem no_again (h : NoO V o) (hb : Below V.heap.size V W) : Calls Try.prog 21 #[o] W fun e W' => e = .returned (.slice none 0 0) ∧ Below V.heap.size V W' := by
  rcases h with rfl | ⟨z, rfl, hz⟩
  · exact (nil_again W).mono fun _ _ ⟨he, hw⟩ => ⟨he, hw ▸ hb⟩
  · exact (zero_again (hz.below hb)).mono fun _ _ ⟨he, hb2⟩ => ⟨he, hb.trans (hb2.mono hb.size)⟩
theorem no_len (h : NoO V o) (hb : Below V.heap.size V W) : Calls Try.prog 19 #[o] W fun e W' => e = .returned (.int .i64 0) ∧ Below V.heap.size V W' := by
  rcases h with rfl | ⟨z, rfl, hz⟩
  · exact (nil_len W).mono fun _ _ ⟨he, hw⟩ => ⟨he, hw ▸ hb⟩
  · exact (zero_len (hz.below hb)).mono fun _ _ ⟨he, hw⟩ => ⟨he, hw ▸ hb⟩
end
end Go.Proofs.Ytpaalhhadjihlaa

/- What is proved here: each act, done to the program's messages under way and to the document's, is answered alike, and both hold the same behind it. Conditions: both held the same, and there are few. -/
import Derived.Test.YtpaalhhadjihlaaPlo24
import Derived.Test.YtpaalhhadjihlaaSmm24
namespace Go.Proofs.Ytpaalhhadjihlaa
open Go.RowKit Go.Extern.Stop Go.Stop Go.Extern Go.Maps Go.Deep
set_option maxRecDepth 100000
section
variable {w W : World} {g gp bp bm x xp sent : Nat} {K : OL}
/-- One is sent, or not. -/
theorem pl_send (h : PlX w W g gp bp bm x xp sent K) (q : QV) (hq : PIn W w.heap.size q.pa q.m.props) (hl : q.m.props.length ≤ 1000) (qos : Int) (hs : sent < 100) :
    Calls Try.prog 8 #[.pointer (some ⟨g, 0, none⟩), q.agg, .int .i64 qos] W fun e W1 => ∃ (id : Int) (ok : Bool) (L : FL) (last : Nat) (v : Value) (D : FL) (ld : Nat) (LP : List Int),
      e = .returned (.tuple #[.int .i64 id, .bool ok]) ∧ PlM w W1 g gp bp bm L last (sent + ok.toNat) x xp v D ld LP K ∧ PIn W1 w.heap.size q.pa q.m.props ∧
      Hid (∀ W2 K2, PlM w W2 g gp bp bm L last (sent + ok.toNat) x xp v D ld LP K2 → PIn W2 w.heap.size q.pa q.m.props →
        Calls Try.prog 9 #[.pointer (some ⟨x, 0, none⟩), q.agg, .int .i64 qos] W2 fun e W3 => e = .returned (.tuple #[.int .i64 id, .bool ok]) ∧ PlX w W3 g gp bp bm x xp (sent + ok.toNat) K2) := by
  obtain ⟨L, last, v, D, LP, hp⟩ := h
  have hlen := says_len hp.eq
  have hsl := hp.m.aw.out.len
  by_cases hqos : qos = 1 ∨ qos = 2
  · obtain ⟨y, hx⟩ : ∃ y, scan (fun y => decide (y ∈ ids L)) 65535 last 65535 0 = some y := by
      cases hs : scan (fun y => decide (y ∈ ids L)) 65535 last 65535 0 with
      | some y => exact ⟨y, rfl⟩
      | none =>
        have h1 := (next_none hp.m.aw.out.pids.ok).1 hs
        omega
    refine (send_ok (B := w.heap.size) hp.m.aw.out ⟨hp.m.aw.ge.1, hp.m.aw.ge.2.1, hp.m.aw.ge.2.2.1⟩ q hq hl qos hqos (by omega) hx).mono ?_
    rintro e W1 ⟨rfl, pa, pc, ho⟩
    refine ⟨_, true, _, _, v, D, last, LP, rfl, hp.m.on ho, hp.m.pin ho hq, Lib.hid fun W2 K2 hm hq2 => ?_⟩
    refine (rsend_ok hm.rf q hq2 hl qos hqos (by omega) (by rw [says_ids hp.eq]; exact hx)).mono ?_
    rintro e W3 ⟨rfl, v', hf, hr⟩
    refine ⟨rfl, _, _, v', _, _, hm.rn hr hf, by rw [List.map_append, List.map_append, hp.eq]; rfl, fun f hf => ?_⟩
    rcases List.mem_append.1 hf with hf | hf
    · exact hp.st f hf
    · rw [List.mem_singleton] at hf
      subst hf
      show 1 ≤ qos ∧ qos ≤ 3
      omega
  · have hq0 : qos ≠ 1 ∧ qos ≠ 2 := ⟨fun e => hqos (.inl e), fun e => hqos (.inr e)⟩
    refine (send_no q qos hq0 W).mono ?_
    rintro e W1 ⟨rfl, hb⟩
    refine ⟨0, false, L, last, v, D, last, LP, rfl, hp.m.below hb, hq.below hb, Lib.hid fun W2 K2 hm _ => ?_⟩
    refine (rsend_no q qos hq0 W2).mono ?_
    rintro e W3 ⟨rfl, hb3⟩
    exact ⟨rfl, L, last, v, D, LP, hm.below hb3, hp.eq, hp.st⟩
end
section
variable {w W : World} {g gp bp bm last sent : Nat} {L : FL}
/-- An acknowledgement, whatever it is. -/
theorem ack_all (h : OutI W g gp bp bm L last sent) (k i r : Int) (hi : (Lit.int .i64 i).wf = true) :
    Calls Try.prog 10 #[.pointer (some ⟨g, 0, none⟩), .agg ((ackQ k i r).cells pa0)] W fun e w' => ∃ (f : FV) (b : Bool), Pick L i f b ∧ ∃ q : QV, e = .returned (.tuple #[.int .i64 (ansR (endsOf k) r f.st b), q.agg]) ∧
      q.m = ackM (ansR (endsOf k) r f.st b) f.q.m ∧ PIn w' 0 q.pa q.m.props ∧ Out3 W g gp bp bm (ackD (ansR (endsOf k) r f.st b) i L) last sent w' := by
  by_cases hm : i ∈ ids L
  · obtain ⟨f, hf, rfl⟩ := List.mem_map.1 hm
    obtain ⟨n, hn⟩ : ∃ n, n = ansR (endsOf k) r f.st true := ⟨_, rfl⟩
    have hsix := ans_six (endsOf k) r f.st true
    rw [← hn] at hsix
    have hP : Pick L f.id f true := .inl ⟨rfl, hf, rfl⟩
    have endCase : (n = 1 ∨ n = 2 ∨ n = 4) → Calls Try.prog 10 #[.pointer (some ⟨g, 0, none⟩), .agg ((ackQ k f.id r).cells pa0)] W fun e w' => ∃ (f' : FV) (b : Bool), Pick L f.id f' b ∧ ∃ q : QV, e = .returned (.tuple #[.int .i64 (ansR (endsOf k) r f'.st b), q.agg]) ∧
        q.m = ackM (ansR (endsOf k) r f'.st b) f'.q.m ∧ PIn w' 0 q.pa q.m.props ∧ Out3 W g gp bp bm (ackD (ansR (endsOf k) r f'.st b) f.id L) last sent w' := fun h2 =>
      (ack_end h _ rfl k f.id r rfl rfl rfl hf rfl hn h2).mono fun e w' ⟨pa, pc, he, hp, ho⟩ => by
        have a1 : ackM n f.q.m = f.q.m := if_neg (by omega)
        have a2 : ackD n f.id L = wof f.id L := (if_neg (by omega)).trans (if_neg (by omega))
        refine ⟨f, true, hP, ⟨f.q.m, pa, pc⟩, ?_, ?_, hp, ?_⟩
        · rw [← hn]; exact he
        · rw [← hn]; exact a1.symm
        · rw [← hn, a2]; exact ho
    have noCase : (n = 0 ∨ n = 5) → Calls Try.prog 10 #[.pointer (some ⟨g, 0, none⟩), .agg ((ackQ k f.id r).cells pa0)] W fun e w' => ∃ (f' : FV) (b : Bool), Pick L f.id f' b ∧ ∃ q : QV, e = .returned (.tuple #[.int .i64 (ansR (endsOf k) r f'.st b), q.agg]) ∧
        q.m = ackM (ansR (endsOf k) r f'.st b) f'.q.m ∧ PIn w' 0 q.pa q.m.props ∧ Out3 W g gp bp bm (ackD (ansR (endsOf k) r f'.st b) f.id L) last sent w' := fun h2 =>
      (ack_no h _ rfl k f.id r rfl rfl rfl hi (v := f) (b := true) (.inl ⟨rfl, hf, rfl⟩) hn h2).mono fun e w' ⟨pa, pc, he, hp, ho⟩ => by
        have a1 : ackM n f.q.m = m0 := if_pos h2
        have a2 : ackD n f.id L = L := if_pos h2
        refine ⟨f, true, hP, ⟨m0, pa, pc⟩, ?_, ?_, hp, ?_⟩
        · rw [← hn]; exact he
        · rw [← hn]; exact a1.symm
        · rw [← hn, a2]; exact ho
    rcases hsix with e | e | e | e | e | e
    · exact noCase (.inl e)
    · exact endCase (.inl e)
    · exact endCase (.inr (.inl e))
    · refine (ack_rel h _ rfl k f.id r rfl rfl rfl hf rfl (by rw [← hn]; exact e.symm)).mono fun e' w' ⟨pa, pc, he, hp, ho⟩ => ?_
      have a1 : ackM n f.q.m = f.q.m := if_neg (by omega)
      have a2 : ackD n f.id L = setS f.id L := (if_neg (by omega)).trans (if_pos e)
      refine ⟨f, true, hP, ⟨f.q.m, pa, pc⟩, ?_, ?_, hp, ?_⟩
      · rw [← hn, e]; exact he
      · rw [← hn]; exact a1.symm
      · rw [← hn, a2]; exact ho
    · exact endCase (.inr (.inr e))
    · exact noCase (.inr e)
  · have hnn := ans_none (endsOf k) r f0.st
    refine (ack_no h _ rfl k i r rfl rfl rfl hi (v := f0) (b := false) (.inr ⟨rfl, rfl, hm⟩) rfl hnn).mono fun e w' ⟨pa, pc, he, hp, ho⟩ => ?_
    refine ⟨f0, false, .inr ⟨rfl, rfl, hm⟩, ⟨m0, pa, pc⟩, he, (if_pos hnn).symm, hp, ?_⟩
    rw [show ackD (ansR (endsOf k) r f0.st false) i L = L from if_pos hnn]
    exact ho
end
section
variable {w W : World} {g gp bp bm x xp sent : Nat} {K : OL}
/-- An acknowledgement to both. -/
theorem pl_ack (h : PlX w W g gp bp bm x xp sent K) (k i r : Int) (hi : (Lit.int .i64 i).wf = true) :
    Calls Try.prog 10 #[.pointer (some ⟨g, 0, none⟩), .agg ((ackQ k i r).cells pa0)] W fun e W1 => ∃ (n : Int) (q : QV) (L : FL) (last : Nat) (v : Value) (D : FL) (ld : Nat) (LP : List Int),
      e = .returned (.tuple #[.int .i64 n, q.agg]) ∧ PlM w W1 g gp bp bm L last sent x xp v D ld LP K ∧ PIn W1 0 q.pa q.m.props ∧
      Hid (∀ W2 K2, PlM w W2 g gp bp bm L last sent x xp v D ld LP K2 → PIn W2 0 q.pa q.m.props →
        Calls Try.prog 12 #[.pointer (some ⟨x, 0, none⟩), .agg ((ackQ k i r).cells pa0)] W2 fun e W3 => ∃ q2 : QV, e = .returned (.tuple #[.int .i64 n, q2.agg]) ∧ PlX w W3 g gp bp bm x xp sent K2 ∧
          Hid (∀ W4, Below W3.heap.size W3 W4 → Calls Try.prog 13 #[q.agg, q2.agg] W4 fun e W5 => e = .returned (.bool true) ∧ Below W4.heap.size W4 W5)) := by
  obtain ⟨L, last, v, D, LP, hp⟩ := h
  have hnd := hp.m.aw.out.nodup
  refine (ack_all hp.m.aw.out k i r hi).mono ?_
  rintro e W1 ⟨f, b, hpk, q, rfl, hqm, hpin, ho⟩
  refine ⟨_, q, _, _, v, D, last, LP, rfl, hp.m.on ho, hpin, Lib.hid fun W2 K2 hm hp2 => ?_⟩
  refine (rack_any hm.rf (by rw [says_ids hp.eq]; exact hnd) _ k i r rfl rfl rfl).mono ?_
  rintro e W3 ⟨f2, b2, hpk2, q2, v', rfl, hqm2, hpin2, hf, hr⟩
  obtain ⟨rfl, hst, hmm⟩ := pick_same hp.eq hnd hpk2 hpk
  rw [hst] at hqm2 hf
  rw [hst]
  have hlen : q.m.props.length ≤ 1000 := by
    rw [hqm]
    unfold ackM
    split
    · exact Nat.zero_le _
    · rcases hpk with ⟨_, hfL, _⟩ | ⟨_, rfl, _⟩
      · exact (hp.m.aw.out.props f hfL).2
      · exact Nat.zero_le _
  have hpin3 := hr.pin hp2 (Nat.zero_le _)
  refine ⟨q2, rfl, ⟨_, _, v', _, _, hm.rn hr hf, ackD_says hp.eq _ _, ackD_st hp.st _ _⟩, Lib.hid fun W4 hb => ?_⟩
  exact samemsg_any q q2 (by rw [hqm, hqm2, hmm]) (hpin3.below hb) (hpin2.below hb) hlen
def keepS (p : Int × Int × MV) : Bool := decide (p.2.1 = 3) || decide (p.2.2.grp = ⟨#[]⟩)
theorem keepR_says {D L : FL} (h : D.map says24 = L.map says24) (hst : ∀ f ∈ L, 1 ≤ f.st ∧ f.st ≤ 3) {f : FV} (hf : f ∈ D) : keepR f = keepS (says24 f) := by
  obtain ⟨y, hy, hs⟩ := says_mem h hf
  have q2 : y.st = f.st := congrArg (fun p => p.2.1) hs
  have h2 := hst y hy
  unfold keepR keepS says24
  have e : decide (3 ≤ f.st) = decide (f.st = 3) := by
    rw [decide_eq_decide]
    omega
  rw [e]
theorem group_says {D L : FL} (h : D.map says24 = L.map says24) (hst : ∀ f ∈ L, 1 ≤ f.st ∧ f.st ≤ 3) :
    (restR D.length D).map says24 = (L.filter keepB).map says24 ∧ ((goneR D.length D).map FV.q).map QV.m = (L.filter (fun f => !keepB f)).map (fun f => f.q.m) := by
  unfold restR goneR
  rw [List.take_length]
  have e1 : D.filter keepR = D.filter (keepS ∘ says24) := List.filter_congr fun f hf => keepR_says h hst hf
  have e2 : D.filter (fun f => !keepR f) = D.filter ((fun p => !keepS p) ∘ says24) := List.filter_congr fun f hf => by rw [keepR_says h hst hf]; rfl
  have e3 : L.filter keepB = L.filter (keepS ∘ says24) := rfl
  have e4 : L.filter (fun f => !keepB f) = L.filter ((fun p => !keepS p) ∘ says24) := rfl
  rw [e1, e2, e3, e4]
  constructor
  · rw [← List.filter_map, ← List.filter_map, h]
  · have k : ∀ M : FL, (M.filter ((fun p => !keepS p) ∘ says24)).map (fun f => f.q.m) = ((M.map says24).filter (fun p => !keepS p)).map (fun p => p.2.2) := fun M => by
      rw [List.filter_map, List.map_map]
      rfl
    rw [List.map_map]
    show (D.filter ((fun p => !keepS p) ∘ says24)).map (fun f => f.q.m) = _
    rw [k, k, h]
theorem qrow_rn {B B' : Nat} {W W' : World} {u : Value} {M : QL} (h : QRow W B' u M) (hr : RN B W W') : QRow W' B' u M := by
  obtain ⟨X, hf, hX⟩ := hr
  refine h.fr hf fun k hk hm => ?_
  obtain ⟨_, _, cs, hh⟩ := h.lt k hk
  obtain ⟨_, cur, t, f, h2, h3⟩ := hX k hm
  rw [hh] at h2
  injection h2 with h2
  injection h2 with _ ht _
  rcases h3 with rfl | rfl | rfl | rfl <;> exact absurd ht (by decide)
/-- Those of groups are taken away from both. -/
theorem pl_group (h : PlX w W g gp bp bm x xp sent K) (hs : sent ≤ 100) :
    Calls Try.prog 15 #[.pointer (some ⟨g, 0, none⟩)] W fun e W1 => ∃ (A : Option Addr) (n c : Nat), e = .returned (.slice A n c) ∧
      Hid (∀ W2, Below W1.heap.size W1 W2 → Calls Try.prog 16 #[.pointer (some ⟨x, 0, none⟩)] W2 fun e W3 => ∃ (A2 : Option Addr) (c2 : Nat), e = .returned (.slice A2 n c2) ∧ PlX w W3 g gp bp bm x xp sent K ∧
          Hid (∀ W4, Below W3.heap.size W3 W4 → Calls Try.prog 14 #[.slice A n c, .slice A2 n c2] W4 fun e W5 => e = .returned (.bool true) ∧ Below W4.heap.size W4 W5)) := by
  obtain ⟨L, last, v, D, LP, hp⟩ := h
  have hnd := hp.m.aw.out.nodup
  have hlen := hp.m.aw.out.len
  refine (group_any hp.m.aw.out).mono ?_
  rintro e W1 ⟨v1, M, rfl, hrow, hmm, hpin, ho⟩
  obtain ⟨A, c, rfl⟩ := hrow.form
  have hM1 := hp.m.on ho
  refine ⟨A, M.length, c, rfl, Lib.hid fun W2 hb => ?_⟩
  have hM2 := hM1.below hb
  refine (rgroup_any hM2.rf (by rw [says_ids hp.eq]; exact hnd)).mono ?_
  rintro e W3 ⟨A2, M2, c2, v', LP', rfl, hrow2, hmm2, hf, hr, hpin2⟩
  obtain ⟨g1, g2⟩ := group_says hp.eq hp.st
  have hmq : M.map QV.m = M2.map QV.m := by rw [hmm, hmm2, g2]
  have hll : M2.length = M.length := by
    have h1 := congrArg List.length hmq
    rw [List.length_map, List.length_map] at h1
    exact h1.symm
  have hle : M.length ≤ 900 := by
    have h1 := congrArg List.length hmm
    rw [List.length_map, List.length_map] at h1
    have := List.length_filter_le (fun f => !keepB f) L
    omega
  have hpl : ∀ q ∈ M, q.m.props.length ≤ 1000 := fun q hq => by
    have h1 : q.m ∈ M.map QV.m := List.mem_map.2 ⟨q, hq, rfl⟩
    rw [hmm] at h1
    obtain ⟨f, hfm, hfe⟩ := List.mem_map.1 h1
    rw [← hfe]
    exact (hp.m.aw.out.props f (List.mem_filter.1 hfm).1).2
  have hrow1 := qrow_rn (hrow.below hb) hr
  rw [hll] at hrow2 ⊢
  refine ⟨A2, c2, rfl, ⟨_, _, v', _, LP', hM2.rn hr hf, g1, fun f hf => hp.st f (List.mem_filter.1 hf).1⟩, Lib.hid fun W4 hb4 => ?_⟩
  exact msame_any (hrow1.below hb4).mrd (hrow2.below hb4).mrd (fun q hq => ⟨(hr.pin ((hpin q hq).below hb) (Nat.zero_le _)).below hb4, hpl q hq⟩) (fun q hq => (hpin2 q hq).below hb4) hmq M.length c c2 rfl hle
end
end Go.Proofs.Ytpaalhhadjihlaa

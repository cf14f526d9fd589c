/- What is proved here: a row of messages as an argument; a put into a store with room, in whole. Conditions: those that each theorem names. -/
import Derived.Test.YtfmkeapbddhndaaDoorAwk19
import Derived.Test.YtfmkeapbddhndaaDoorRlp19
import Derived.Test.YtfmkeapbddhndaaDoorOpn24
import Derived.Test.YtfmkeapbddhndaaDoorSml19
import Derived.Test.YtfmkeapbddhndaaDoorSmm24
import Derived.Test.YtfmkeapbddhndaaDoorEnvT16
namespace Go.Proofs.YtfmkeapbddhndaaDoor
open Go.RowKit Go.Extern.Stop Go.Stop Go.Extern Go.Maps Go.Deep Go.ChangeShapes Go.WideShapes
set_option maxRecDepth 100000
/-- A slice of messages that came in. -/
def MsgsN (w : World) (A : Option Addr) (n : Nat) (L : QL) : Prop := n = L.length ∧ MRd w A L ∧ ∀ k, k < L.length → MsgOf w (L.getD k q0)
section
variable {H : Type} {enc : TypeId × Value → H} {w : World}
theorem msgs_open19 {r : Reach} {b0 b1 : Nat} {sp : Nat → Bool} {held : Bool} {v : Value} {d : DataW H} {ps : List MemPlace} (hval : Value.okWide Tryd.prog w r b0 52 v) (hd : DataW.Trod enc Tryd.prog w b1 sp held 52 v d ps) :
    ∃ a len cap xs, v = .slice a len cap ∧ len ≤ maxLen ∧ MsgsN w a len xs := by
  obtain ⟨a9, len, cap, rfl⟩ := okWide_slice Tryd.underlying52 hval
  obtain ⟨fuel, hf⟩ := hd
  rcases open_slice Tryd.underlying52 hf with ⟨hcs, hx⟩ | ⟨a, len', cap', m, n, D, Pl, hcs, hb, hl, hm, hmm, hx, hi⟩
  · simp [Value.cells] at hcs
    obtain ⟨rfl, rfl, rfl⟩ := hcs
    exact ⟨none, 0, 0, [], rfl, Nat.zero_le _, rfl, fun h => absurd h (by simp), fun k hk => absurd hk (by simp)⟩
  · simp [Value.cells] at hcs
    obtain ⟨rfl, rfl, rfl⟩ := hcs
    have hlm : len ≤ m := by rw [hmm]; split <;> omega
    have hex : ∀ i, ∃ x : QV, i < len → (∀ j, j < 9 → w.cell? (a.add (i * 9 + j)) = x.cells[j]?) ∧ MsgOf w x := by
      intro i
      by_cases hil : i < len
      · obtain ⟨cs', hc, ht'⟩ := hi i (by omega)
        rw [cz36] at hc
        obtain ⟨_, hcl, hat⟩ := World.cells?_some hc
        obtain ⟨x, rfl, h1⟩ := trod_msg hcl ht'
        exact ⟨x, fun _ => ⟨fun j hj => by rw [← Go.Deep.add_add]; exact hat j hj, h1⟩⟩
      · exact ⟨q0, fun h => absurd h hil⟩
    obtain ⟨xs, hxs⟩ := Classical.axiomOfChoice hex
    have hlen : ((List.range len).map xs).length = len := by rw [List.length_map, List.length_range]
    have hget : ∀ k, k < len → ((List.range len).map xs).getD k q0 = xs k := fun k hk => by
      rw [List.getD_eq_getElem?_getD, List.getElem?_map, List.getElem?_range hk]
      rfl
    refine ⟨some a, len, cap, (List.range len).map xs, rfl, Nat.le_trans hl hm, hlen.symm, fun hp => ?_, fun k hk => ?_⟩
    · rw [hlen] at hp
      have hc0 := (hxs 0 hp).1 0 (by omega)
      obtain ⟨b, off, spot⟩ := a
      have hspot : spot = none := by simpa [Addr.add] using World.cell?_spot (show w.cell? _ = some _ from hc0)
      subst hspot
      refine ⟨b, off, rfl, fun k hk => ?_⟩
      rw [hlen] at hk
      rw [hget k hk]
      exact QCells.of fun j hj => by
        have := (hxs k hk).1 j hj
        rw [add_plain, ← Nat.add_assoc] at this
        exact this
    · rw [hlen] at hk
      rw [hget k hk]
      exact (hxs k hk).2
end
section
variable {w W : World} {g bm : Nat} {L : QL} {S : Nat → Addr}
/-- A put where there is room. -/
theorem put_all (h : AwS w W g bm 30 L) (he : EnvT w S) (q : QV) {B : Nat} (hq : PIn W B q.pa q.m.props) (hp : q.m.props.length ≤ 70) (hs : q.m.topic.size ≤ 200) (hl : L.length < 30) :
    Calls Tryd.prog 26 #[.pointer (some ⟨g, 0, none⟩), q.agg] W fun x w' => x = .returned (.bool (nameB q.m.topic)) ∧ ∃ L', AwS w w' g bm 30 L' ∧ L'.map QV.m = putF (L.map QV.m) q.m := by
  have hwo : (woT q.m.topic L).map QV.m = (L.map QV.m).filter (fun x => decide (x.topic ≠ q.m.topic)) := by
    unfold woT
    rw [List.filter_map]
    rfl
  cases hn : nameB q.m.topic with
  | false =>
    refine (sput_no _ (.inr ⟨g, rfl⟩) q (by omega) (he.later h.bel) hn).mono fun x w' ⟨hx, hb⟩ => ⟨hx, L, h.below hb, ?_⟩
    unfold putF
    rw [if_neg (by simp [hn])]
  | true =>
    by_cases hpe : q.m.payload = ⟨#[]⟩
    · refine (sput_del h.st q (by omega) (he.later h.bel) hn hpe).mono fun x w' ⟨hx, h2⟩ => ⟨hx, _, h.on h2, ?_⟩
      unfold putF isPay
      rw [if_pos hn, if_neg (by simp [hpe]), hwo]
    · obtain ⟨q1, b, hv⟩ := at_any L q.m.topic
      refine (sput_more h.st q hq (by omega) (by omega) (he.later h.bel) hn hpe hv (by omega)).mono fun x w' hx => ?_
      rcases hx with ⟨_, ⟨_, hm⟩, _⟩ | ⟨hx, _, pa, pc, h2⟩
      · omega
      · refine ⟨hx, _, h.on h2, ?_⟩
        unfold putF isPay
        rw [if_pos hn, if_pos (by simp [hpe]), List.map_cons, hwo]
end
end Go.Proofs.YtfmkeapbddhndaaDoor

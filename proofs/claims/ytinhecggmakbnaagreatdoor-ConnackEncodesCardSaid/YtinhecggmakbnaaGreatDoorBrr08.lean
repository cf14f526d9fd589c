/- What is proved here: what the statements of the layers of packets hold while they compare. Conditions: the packets' parts stand where they say, few of them. -/
import Derived.Test.YtinhecggmakbnaaGreatDoorDci08
import Derived.Test.YtinhecggmakbnaaGreatDoorSam08
import Derived.Test.YtinhecggmakbnaaGreatDoorPlr08
namespace Go.Proofs.YtinhecggmakbnaaGreatDoor
set_option maxRecDepth 100000
open Go.ChangeShapes Go.WideShapes Go.RowKit Go.Deep Go.Extern.Stop Go.Stop Go.Extern
theorem err_zero8 {w : World} {S : Nat → Addr} {r : Int} {no a : Nat} {e : Value} (h : ErrOf w S r no a e) (h0 : no = 0) : e = .nilIface := by
  unfold ErrOf at h
  rw [if_pos h0] at h
  exact h
def BrSays (w : World) (q : Pk) (x : Ending) (w' : World) : Prop := ∃ A, x = .returned (q.agg A) ∧ PkIn w' w.heap.size A q ∧ Below w.heap.size w w'
structure BrIn (w : World) (c : Array Value) (W : World) : Prop where
  bel : Below w.heap.size w W
  box : Blk W w.heap.size 29 c
  res : ∃ o, Blk W (w.heap.size + 1) 29 o ∧ o.size = 26
theorem BrIn.below {w W W' : World} {c : Array Value} (h : BrIn w c W) (hb : Below W.heap.size W W') : BrIn w c W' := by
  obtain ⟨o, ho, hs⟩ := h.res
  exact ⟨h.bel.trans (hb.mono h.bel.size), h.box.below hb h.box.lt, o, ho.below hb ho.lt, hs⟩
theorem BrIn.drewN {w W : World} {c : Array Value} (h : BrIn w c W) (d : Nat) : BrIn w c (W.drewN d) := h.below (below_drewN (Below.refl _ _) d)
theorem BrIn.row {w W : World} {c y : Array Value} (h : BrIn w c W) (hy : y.size = 26) : BrIn w c (W.setRow (w.heap.size + 1) y) := by
  obtain ⟨o, ho, hs⟩ := h.res
  exact ⟨below_row h.bel (by omega) y, h.box.fr (setRow_fr W _ y) (fun hm => by rw [List.mem_singleton] at hm; omega), y, setRow_blk ho y, hy⟩
/-- Few parts, and no subscriptions. -/
structure SmOk (p : Pk) : Prop where
  sb : p.subs = []
  pr : p.props.length ≤ 1000
  wr : p.wProps.length ≤ 1000
  fl : p.filters.length ≤ 1000
  cd : p.codes.length ≤ 1000
theorem smOk_zero : SmOk pk0 := ⟨rfl, Nat.zero_le _, Nat.zero_le _, Nat.zero_le _, Nat.zero_le _⟩
theorem same_ok {w : World} {B B2 : Nat} {A A2 : PkA} {p : Pk} (h : PkIn w B A p) (h2 : PkIn w B2 A2 p) (hk : SmOk p) :
    Calls Tryz.prog 38 #[p.agg A, p.agg A2] w fun x w' => x = .returned (.bool true) ∧ Below w.heap.size w w' := same08 h h2 hk.sb hk.pr hk.wr hk.fl hk.cd
theorem small_mem {L : PL} (h : SmallP L) : (∀ q ∈ L, q.s.size < 65536 ∧ q.v.size < 65536) ∧ (wrAll (actsL6 L)).L.length ≤ 268435455 := by
  refine ⟨fun q hq => by have := h.2.1 q hq; omega, ?_⟩
  have h1 := wr6_len h L.length
  rw [List.take_length] at h1
  omega
theorem small_few {L : PL} (h : SmallP L) : L.length ≤ 1000 := by
  have := h.1
  omega
end Go.Proofs.YtinhecggmakbnaaGreatDoor

/- What is proved here: properties and messages as plain values, where they stand, and rows of messages at any place of a block of the call's own. No conditions. What is proved here: copies of properties and of messages, and whether a message's time has come. Conditions: the properties stand where the slice says; few of them. What is proved here: whether properties, and a message's parts, are few; and that equal properties and messages are the same. Conditions: the properties stand where the slices say. -/
import Derived.Test.YtnolnhpmpjgnaaaGreatDoorPrp
import Derived.ArgAppend
import Derived.WalkKit
import Derived.WalkLawsBesides
import Derived.WalkSpells
import Derived.Maps.AppendAt
import Derived.Lib.AppendZeros
import Derived.Lib.SliceRun
import Derived.Deep.Cut
import Derived.Deep.CutRange
import Derived.Deep.CutBlock
import Derived.Deep.DeepMust
namespace Go.Proofs.YtnolnhpmpjgnaaaGreatDoor
open Go.RowKit Go.Extern.Stop Go.Stop Go.Extern
/-- A message. -/
structure MV where
  topic : ByteArray
  payload : ByteArray
  qos : Int
  retain : Bool
  props : PL
  frm : ByteArray
  til : Int
  seq : Int
  grp : ByteArray
def m0 : MV := ⟨e0, e0, 0, false, [], e0, 0, 0, e0⟩
/-- A message with the address and the capacity of its properties. -/
structure QV where
  m : MV
  pa : Option Addr
  pc : Nat
def q0 : QV := ⟨m0, none, 0⟩
def QV.cells (q : QV) : List Value := [.string q.m.topic, .string q.m.payload, .int .i64 q.m.qos, .bool q.m.retain, .slice q.pa q.m.props.length q.pc, .string q.m.frm, .int .i64 q.m.til, .int .i64 q.m.seq, .string q.m.grp]
def QV.agg (q : QV) : Value := .agg #[.string q.m.topic, .string q.m.payload, .int .i64 q.m.qos, .bool q.m.retain, .slice q.pa q.m.props.length q.pc, .string q.m.frm, .int .i64 q.m.til, .int .i64 q.m.seq, .string q.m.grp]
abbrev QL := List QV
def qcs (L : QL) : List Value := L.flatMap QV.cells
theorem qcs_cons (q : QV) (L : QL) : qcs (q :: L) = q.cells ++ qcs L := rfl
theorem qcs_len (L : QL) : (qcs L).length = L.length * 9 := by
  induction L with
  | nil => rfl
  | cons p L ih =>
    rw [qcs_cons, List.length_append, ih, List.length_cons]
    show 9 + _ = _
    omega
theorem qcs_app (L M : QL) : qcs (L ++ M) = qcs L ++ qcs M := by simp [qcs]
theorem qcs_get (L : QL) : ∀ k i, k < L.length → i < 9 → (qcs L)[k * 9 + i]? = (L.getD k q0).cells[i]? := by
  induction L with
  | nil => intro k i hk; cases hk
  | cons p L ih =>
    intro k i hk hi
    rw [qcs_cons]
    rcases k with _ | k
    · rw [Nat.zero_mul, Nat.zero_add, List.getElem?_append_left (show i < p.cells.length from hi)]
      rfl
    · rw [List.getElem?_append_right (show p.cells.length ≤ _ by show 9 ≤ _; omega)]
      show (qcs L)[(k + 1) * 9 + i - 9]? = _
      rw [show (k + 1) * 9 + i - 9 = k * 9 + i by omega]
      exact ih k i (by simpa using hk) hi
theorem qcs_ones (L : QL) : ∀ u ∈ qcs L, u.oneCell' = true := by
  intro u hu
  obtain ⟨p, _, hp⟩ := List.mem_flatMap.1 hu
  unfold QV.cells at hp
  simp only [List.mem_cons, List.not_mem_nil, or_false] at hp
  rcases hp with rfl | rfl | rfl | rfl | rfl | rfl | rfl | rfl | rfl <;> rfl
/-- The cells of a message. -/
structure QCells (w : World) (g o : Nat) (q : QV) : Prop where
  c0 : w.cell? ⟨g, o, none⟩ = some (.string q.m.topic)
  c1 : w.cell? ⟨g, o + 1, none⟩ = some (.string q.m.payload)
  c2 : w.cell? ⟨g, o + 2, none⟩ = some (.int .i64 q.m.qos)
  c3 : w.cell? ⟨g, o + 3, none⟩ = some (.bool q.m.retain)
  c4 : w.cell? ⟨g, o + 4, none⟩ = some (.slice q.pa q.m.props.length q.pc)
  c5 : w.cell? ⟨g, o + 5, none⟩ = some (.string q.m.frm)
  c6 : w.cell? ⟨g, o + 6, none⟩ = some (.int .i64 q.m.til)
  c7 : w.cell? ⟨g, o + 7, none⟩ = some (.int .i64 q.m.seq)
  c8 : w.cell? ⟨g, o + 8, none⟩ = some (.string q.m.grp)
theorem QCells.at {w w' : World} {g o : Nat} {q : QV} (h : QCells w g o q) (hb : w'.heap[g]? = w.heap[g]?) : QCells w' g o q :=
  ⟨(World.cell?_of_block (w := w) hb).trans h.c0, (World.cell?_of_block (w := w) hb).trans h.c1, (World.cell?_of_block (w := w) hb).trans h.c2, (World.cell?_of_block (w := w) hb).trans h.c3, (World.cell?_of_block (w := w) hb).trans h.c4, (World.cell?_of_block (w := w) hb).trans h.c5, (World.cell?_of_block (w := w) hb).trans h.c6, (World.cell?_of_block (w := w) hb).trans h.c7, (World.cell?_of_block (w := w) hb).trans h.c8⟩
theorem QCells.of {w : World} {g o : Nat} {q : QV} (h : ∀ i, i < 9 → w.cell? ⟨g, o + i, none⟩ = q.cells[i]?) : QCells w g o q :=
  ⟨h 0 (by omega), h 1 (by omega), h 2 (by omega), h 3 (by omega), h 4 (by omega), h 5 (by omega), h 6 (by omega), h 7 (by omega), h 8 (by omega)⟩
theorem Tryz.msgInfo : (Tryz.prog.info? 25).map (fun i => (i.zero, i.size, i.bytes)) = some (some (.agg #[.string ⟨#[]⟩, .string ⟨#[]⟩, .int .i64 0, .bool false, .slice none 0 0, .string ⟨#[]⟩, .int .i64 0, .int .i64 0, .string ⟨#[]⟩]), 9, 120) := by kernel_rfl
/-- These messages stand at an address, if there are any. -/
def MRd (w : World) (A : Option Addr) (L : QL) : Prop := 0 < L.length → ∃ g off, A = some ⟨g, off, none⟩ ∧ ∀ k, k < L.length → QCells w g (off + k * 9) (L.getD k q0)
/-- A row of messages of one's own, at any place of its block. -/
def QRow (w : World) (B : Nat) (v : Value) (L : QL) : Prop :=
  (v = .slice none 0 0 ∧ L = []) ∨ ∃ g off cap cur, v = .slice (some ⟨g, off, none⟩) L.length cap ∧ B ≤ g ∧ w.heap[g]? = some (.cells cur 25 (0, 0)) ∧ L.length ≤ cap ∧ cap ≤ maxLen ∧ off + cap * 9 ≤ cur.size ∧ ∀ j, j < L.length * 9 → cur[off + j]? = (qcs L)[j]?
section
variable {X : List Nat} {w w' : World} {B : Nat} {v : Value} {L : QL} {q : QV}
theorem QRow.nil (w : World) (B : Nat) : QRow w B (.slice none 0 0) [] := .inl ⟨rfl, rfl⟩
theorem QRow.form (h : QRow w B v L) : ∃ a c, v = .slice a L.length c := by
  rcases h with ⟨rfl, rfl⟩ | ⟨g, off, cap, cur, rfl, _⟩
  · exact ⟨none, 0, rfl⟩
  · exact ⟨_, _, rfl⟩
theorem QRow.lt (h : QRow w B v L) : ∀ k, v.ownBlock = some k → B ≤ k ∧ k < w.heap.size ∧ ∃ cs, w.heap[k]? = some (.cells cs 25 (0, 0)) := by
  intro k hk
  rcases h with ⟨rfl, _⟩ | ⟨g, off, cap, cur, rfl, hB, hh, _⟩
  · cases hk
  · obtain rfl : g = k := Option.some.inj hk
    exact ⟨hB, lt_of_block hh, cur, hh⟩
theorem QRow.fr (h : QRow w B v L) (hf : Fr X w w') (hX : ∀ k, v.ownBlock = some k → k ∉ X) : QRow w' B v L := by
  rcases h with h | ⟨g, off, cap, cur, rfl, hB, hh, hr⟩
  · exact .inl h
  · exact .inr ⟨g, off, cap, cur, rfl, hB, (hf.block g (lt_of_block hh) (hX g rfl)).trans hh, hr⟩
theorem QRow.below (h : QRow w B v L) (hb : Below w.heap.size w w') : QRow w' B v L := h.fr (X := []) (Fr.of_below hb) (fun _ _ => by simp)
theorem QRow.drewN (h : QRow w B v L) (d : Nat) : QRow (w.drewN d) B v L := h
theorem QRow.mrd {a : Option Addr} {n c : Nat} (h : QRow w B (.slice a n c) L) : MRd w a L := by
  intro hl
  rcases h with ⟨_, rfl⟩ | ⟨g, off, cap, cur, e, hB, hh, h1, h2, h3, h4⟩
  · exact absurd hl (by simp)
  · injection e with ha hn hc
    subst ha
    refine ⟨g, off, rfl, fun k hk => QCells.of fun i hi => ?_⟩
    rw [show w.cell? ⟨g, off + k * 9 + i, none⟩ = cur[off + k * 9 + i]? from cell_of_row w g _ cur _ (0, 0) hh, Nat.add_assoc, h4 _ (by omega), qcs_get L k i hk hi]
theorem own_qrow (h : w.ownsRow B 25 9 v L.length (qcs L)) : QRow w B v L := by
  rcases h.2 with ⟨rfl, h0⟩ | ⟨g, cap, cur, rfl, hB, hh, h1, h2, h3, h4⟩
  · exact .inl ⟨rfl, List.eq_nil_of_length_eq_zero h0⟩
  · refine .inr ⟨g, 0, cap, cur, rfl, hB, hh, h1, h2, by omega, fun j hj => ?_⟩
    rw [Nat.zero_add, ← h4, List.getElem?_take, if_pos hj, Array.getElem?_toList]
theorem run_append_off {P : Program} (w : World) (t ty e : TypeId) (i : TypeInfo) (ht : P.underlying t = some (.slice e)) (hi : P.info? e = some i)
    (g off sLen sCap : Nat) (cur : Array Value) (hg : w.heap[g]? = some (.cells cur e (0, 0)))
    (a : Addr) (m c : Nat) (news : List Value) (hl : news.length = m * i.size) (hnews : ∀ j u, news[j]? = some u → w.cell? (a.add j) = some u) (h1 : ∀ u ∈ news, u.oneCell' = true)
    (hroom : sLen + m ≤ sCap) (hfit : off + sLen * i.size + news.length ≤ cur.size) :
    (Builtin.append_ #[t, t] ty #[.slice (some ⟨g, off, none⟩) sLen sCap, .slice (some a) m c]).run P w =
      .ok (.slice (some ⟨g, off, none⟩) (sLen + m) sCap) (w.setRow g (cur.toList.take (off + sLen * i.size) ++ news ++ cur.toList.drop (off + sLen * i.size + news.length)).toArray) := by
  have hf := run_firstCells_some (P := P) w i.size m a m c news hl hnews
  have hst := run_storeCells_at P g (off + sLen * i.size) e news 0 cur w hg (by simpa using hfit) h1
  simp only [Nat.add_zero] at hst
  simp [Builtin.append_, run_underlying ht, sizeOf, typeInfo, hi, Builtin.lenOf, hroom, hf, Addr.add_lit, hst]
theorem QRow.mono {w : World} {B B' : Nat} {v : Value} {L : QL} (h : QRow w B v L) (hB : B' ≤ B) : QRow w B' v L := by
  rcases h with h | ⟨g, off, cap, cur, e, hBg, hr⟩
  · exact .inl h
  · exact .inr ⟨g, off, cap, cur, e, by omega, hr⟩
/-- One message more. -/
theorem QRow.push {t ty : TypeId} (ht : Tryz.prog.underlying t = some (.slice 25)) (h : QRow w B v L) (hB : B ≤ w.heap.size) (hl : L.length ≤ 1000) {ad : Addr} (hq : ∀ i, i < 9 → w.cell? (ad.add i) = q.cells[i]?) (c : Nat) :
    ∃ v' w', (Builtin.append_ #[t, t] ty #[v, .slice (some ad) 1 c]).run Tryz.prog w = .ok v' w' ∧ QRow w' B v' (L ++ [q]) ∧ w.grownBy w' v.ownBlock ∧ (v'.ownBlock = v.ownBlock ∨ ∃ k, v'.ownBlock = some k ∧ w.heap.size ≤ k) := by
  obtain ⟨i0, hi0, hz0, hz1, hz2⟩ := info_parts Tryz.msgInfo
  have hqc : qcs [q] = q.cells := by simp [qcs]
  have hn : ∀ j u, (q.cells)[j]? = some u → w.cell? (ad.add j) = some u := fun j u hj => by
    rw [hq j (by have := (List.getElem?_eq_some_iff.1 hj).1; exact this)]; exact hj
  have h1 : ∀ u ∈ q.cells, u.oneCell' = true := fun u hu => qcs_ones [q] u (by rw [hqc]; exact hu)
  have hlen : (L ++ [q]).length = L.length + 1 := by simp
  rcases h with ⟨rfl, rfl⟩ | ⟨g, off, cap, cur, rfl, hBg, hh, hle, hm, hsz, hcs⟩
  · obtain ⟨v', w', hr, ho, hg, _, hat⟩ := run_append_own_at (P := Tryz.prog) w B t ty _ i0 _ 9 120 ht hi0 hz0 hz1 hz2 rfl (by decide) (.slice none 0 0) 0 [] (World.ownsRow_nil w B _ 9) ad 1 c q.cells rfl hn h1 (by unfold maxLen; omega) (by omega) hB
    refine ⟨v', w', hr, own_qrow ?_, hg, hat.imp id fun e => ⟨_, e, Nat.le_refl _⟩⟩
    rw [qcs_app, hqc, hlen]
    exact ho
  · by_cases hroom : L.length + 1 ≤ cap
    · have hsz9 : off + L.length * 9 + 9 ≤ cur.size := by omega
      have hi9 : i0.size = 9 := hz1
      have hc : ∀ j, w.cell? ⟨g, j, none⟩ = cur[j]? := fun j => cell_of_row w g j cur _ (0, 0) hh
      have hr := run_append_off (P := Tryz.prog) w t ty _ i0 ht hi0 g off L.length cap cur hh ad 1 c q.cells (by rw [hi9]; rfl) hn h1 hroom (by rw [hi9]; exact hsz9)
      rw [hi9] at hr
      have hl9 : q.cells.length = 9 := rfl
      refine ⟨_, _, hr, .inr ⟨g, off, cap, (cur.toList.take (off + L.length * 9) ++ q.cells ++ cur.toList.drop (off + L.length * 9 + q.cells.length)).toArray, by rw [hlen], hBg, setRow_heap w g cur _ _ _ hh, by rw [hlen]; exact hroom, hm, ?_, fun j hj => ?_⟩, ⟨rfl, rfl, rfl, by simp, fun k _ hk => setRow_other w g k _ (fun e => hk (by simp [Value.ownBlock, e]))⟩, .inl rfl⟩
      · have e1 : cur.toList.length = cur.size := Array.length_toList
        simp only [List.size_toArray, List.length_append, List.length_take, List.length_drop, e1, hl9]
        omega
      · rw [hlen] at hj
        have e1 : cur.toList.length = cur.size := Array.length_toList
        have hsz2 : off + L.length * 9 ≤ cur.toList.length := by omega
        rw [List.getElem?_toArray, List.append_assoc, List.getElem?_append, List.length_take, Nat.min_eq_left hsz2]
        by_cases hj1 : j < L.length * 9
        · rw [if_pos (by omega), List.getElem?_take, if_pos (by omega), Array.getElem?_toList, hcs j hj1, qcs_app, List.getElem?_append_left (by rw [qcs_len]; exact hj1)]
        · rw [if_neg (by omega), List.getElem?_append_left (by rw [hl9]; omega), qcs_app, List.getElem?_append_right (by rw [qcs_len]; omega), qcs_len, hqc]
          rw [show off + j - (off + L.length * 9) = j - L.length * 9 by omega]
    · have h63 : L.length + 1 ≤ maxLen := Nat.le_trans (show L.length + 1 ≤ 1001 by omega) (by unfold maxLen; decide)
      have hgt : cap < L.length + 1 := by omega
      have hby : (L.length + 1) * 120 ≤ 140737488355328 := by omega
      clear hm hsz hle
      obtain ⟨v', w', hr, ho, hg⟩ := run_append_arg_grows (P := Tryz.prog) w t ty _ i0 _ 9 120 ht hi0 hz0 hz1 hz2 rfl (by decide) ⟨g, off, none⟩ L.length cap (qcs L) (qcs_len L) (fun j u hj => by
        rw [Addr.add_lit, show w.cell? ⟨g, off + j, none⟩ = cur[off + j]? from cell_of_row w g _ cur _ (0, 0) hh, hcs j (by have := (List.getElem?_eq_some_iff.1 hj).1; rwa [qcs_len] at this)]
        exact hj) ad 1 c q.cells rfl hn hgt h63 hby
      have ho2 : w'.ownsRow w.heap.size 25 9 v' (L ++ [q]).length (qcs (L ++ [q])) := by rw [qcs_app, hqc, hlen]; exact ho
      refine ⟨v', w', hr, (own_qrow ho2).mono hB, ⟨hg.os, hg.tape, hg.output, hg.size, fun k hk _ => hg.block k hk (by simp)⟩, .inr ?_⟩
      rcases ho2.2 with ⟨_, h0⟩ | ⟨gr, cap2, cur2, rfl, hB2, hh2, _⟩
      · rw [hlen] at h0; omega
      · exact ⟨gr, rfl, hB2⟩
end
end Go.Proofs.YtnolnhpmpjgnaaaGreatDoor
namespace Go.Proofs.YtnolnhpmpjgnaaaGreatDoor
open Go.RowKit Go.Extern.Stop Go.Stop Go.Extern
set_option maxRecDepth 100000
def CloneSays (w : World) (L : PL) (x : Ending) (w' : World) : Prop := ∃ v', x = .returned v' ∧ PRow w' w.heap.size v' L ∧ Below w.heap.size w w'
/-- A copy of a message, as a call answers it. -/
def CopySays (w : World) (q : QV) (x : Ending) (w' : World) : Prop := ∃ pa pc, x = .returned (QV.agg ⟨q.m, pa, pc⟩) ∧ PIn w' 0 pa q.m.props ∧ Below w.heap.size w w'
def exB (til now : Int) : Bool := decide (0 < til) && decide (til ≤ now)
section
variable {w w' : World} {B : Nat} {L : PL}
theorem msg_fr {A : Option Addr} {w1 : World} {g : Nat} {cs : Array Value} (h : PIn w1 B A L) (hb : Blk w1 g 25 cs) (hB : B ≤ g) (i : Nat) (u : Value) : PIn (w1.setCell ⟨g, i, none⟩ u) B A L :=
  h.fr (X := [g]) ((Fr.refl [g] w1).setCell (p := ⟨g, i, none⟩) (.inl (List.mem_singleton_self g)) u) fun k hk => by
    rw [List.mem_singleton] at hk
    subst hk
    exact ⟨hB, fun cs' hh => by
      unfold Blk at hb
      rw [hb] at hh
      injection hh with hh
      injection hh with _ ht
      exact absurd ht (by decide)⟩
/-- A message's cells stored one by one. -/
def put9 (W : World) (g : Nat) (u0 u1 u2 u3 u4 u5 u6 u7 u8 : Value) : World :=
  ((((((((W.setCell ⟨g, 0, none⟩ u0).setCell ⟨g, 1, none⟩ u1).setCell ⟨g, 2, none⟩ u2).setCell ⟨g, 3, none⟩ u3).setCell ⟨g, 4, none⟩ u4).setCell ⟨g, 5, none⟩ u5).setCell ⟨g, 6, none⟩ u6).setCell ⟨g, 7, none⟩ u7).setCell ⟨g, 8, none⟩ u8
section
variable {W : World} {g : Nat} {t : TypeId} {z0 z1 z2 z3 z4 z5 z6 z7 z8 : Value}
theorem put9_blk (h : Blk W g t #[z0, z1, z2, z3, z4, z5, z6, z7, z8]) (u0 u1 u2 u3 u4 u5 u6 u7 u8 : Value) : Blk (put9 W g u0 u1 u2 u3 u4 u5 u6 u7 u8) g t #[u0, u1, u2, u3, u4, u5, u6, u7, u8] := by
  have hh := ((((((((h.store 0 u0).store 1 u1).store 2 u2).store 3 u3).store 4 u4).store 5 u5).store 6 u6).store 7 u7).store 8 u8
  simp only [List.setIfInBounds_toArray, List.set_cons_zero, List.set_cons_succ] at hh
  exact hh
theorem put9_fr (W : World) (g : Nat) (u0 u1 u2 u3 u4 u5 u6 u7 u8 : Value) : Fr [g] W (put9 W g u0 u1 u2 u3 u4 u5 u6 u7 u8) := by
  have h : ∀ {V : World}, Fr [g] W V → ∀ i u, Fr [g] W (V.setCell ⟨g, i, none⟩ u) := fun hf i u => hf.setCell (p := ⟨g, i, none⟩) (.inl (List.mem_singleton_self g)) u
  exact h (h (h (h (h (h (h (h (h (Fr.refl _ _) 0 u0) 1 u1) 2 u2) 3 u3) 4 u4) 5 u5) 6 u6) 7 u7) 8 u8
theorem put9_below {w : World} (h : Below w.heap.size w W) (hg : w.heap.size ≤ g) (u0 u1 u2 u3 u4 u5 u6 u7 u8 : Value) : Below w.heap.size w (put9 W g u0 u1 u2 u3 u4 u5 u6 u7 u8) :=
  (put9_fr W g u0 u1 u2 u3 u4 u5 u6 u7 u8).later h (fun b hb => by rw [List.mem_singleton] at hb; rw [hb]; exact hg) h.size
theorem put9_pin {B : Nat} {A : Option Addr} {L : PL} (h : PIn W 0 A L) {cs : Array Value} (hb : Blk W g 25 cs) (u0 u1 u2 u3 u4 u5 u6 u7 u8 : Value) : PIn (put9 W g u0 u1 u2 u3 u4 u5 u6 u7 u8) B A L :=
  (h.fr (put9_fr W g u0 u1 u2 u3 u4 u5 u6 u7 u8) (fun k hk => by
    rw [List.mem_singleton] at hk
    subst hk
    exact ⟨Nat.zero_le _, fun cs' hh => hb.other hh (by decide) rfl⟩)).mono (Nat.zero_le _)
end
def zq : Array Value := #[.string ⟨#[]⟩, .string ⟨#[]⟩, .int .i64 0, .bool false, .slice none 0 0, .string ⟨#[]⟩, .int .i64 0, .int .i64 0, .string ⟨#[]⟩]
end
end Go.Proofs.YtnolnhpmpjgnaaaGreatDoor
namespace Go.Proofs.YtnolnhpmpjgnaaaGreatDoor
open Go.RowKit Go.Extern.Stop Go.Stop Go.Extern
set_option maxRecDepth 100000
def PFewB (n : Nat) (w : World) (x : Ending) (w' : World) : Prop := (∃ b : Bool, x = .returned (.bool b) ∧ (b = true → n ≤ 70)) ∧ w = w'
def SmallB (q : QV) (w : World) (x : Ending) (w' : World) : Prop := ∃ b : Bool, x = .returned (.bool b) ∧ (b = true → q.m.props.length ≤ 70) ∧ Below w.heap.size w w'
section
variable {w w' : World} {B : Nat} {A : Option Addr} {L : PL}
theorem pfew_any (n c : Nat) (h : PIn w B A L) (hn : n = L.length) (hm : n ≤ 9223372036854775807) : Calls Tryz.prog 39 #[.slice A n c] w (PFewB n w) := by
  by_cases hp : n = 0
  · subst hp
    clear h hm hn
    go_enter Tryz.func39, Tryz.ntmps39
    go_wp2_with fail
    go_loop [3] (fun i => i = .int .i64 0) (fun _ => 0)
    case atStart => rfl
    case round =>
      subst hrel
      go_wp2_with fail
      go_ret
      exact ⟨⟨true, rfl, fun _ => by omega⟩, rfl⟩
  · obtain ⟨g, off, rfl, hc, hgB⟩ := h (by omega)
    clear hgB
    have HC := Lib.hid hc
    have HN := Lib.hid hn
    clear hc h hn
    go_enter Tryz.func39, Tryz.ntmps39
    go_wp2_with fail
    go_loop [3] (fun i => ∃ k : Nat, k ≤ n ∧ k ≤ 70 ∧ i = .int .i64 k) (fun i => 70 - (intOf i).toNat)
    case atStart => exact ⟨0, by omega, by omega, rfl⟩
    case round =>
      obtain ⟨k, hk, hk2, rfl⟩ := hrel
      have HT := Lib.hid (fun (b : Bool) (hb : b = true → n ≤ 70) => show PFewB n w (.returned (.bool b)) w from ⟨⟨b, rfl, hb⟩, rfl⟩)
      by_cases hlt : k < n ∧ k < 70
      · obtain ⟨hlt, hlt2⟩ := hlt
        have hcc := HC.out k (by have := HN.out; omega)
        have c1 := hcc.c2
        have c2 := hcc.c3
        clear hcc
        obtain ⟨s, hs⟩ : ∃ s, s = (L.getD k p0).s := ⟨_, rfl⟩
        obtain ⟨v, hv⟩ : ∃ v, v = (L.getD k p0).v := ⟨_, rfl⟩
        rw [← hs] at c1
        rw [← hv] at c2
        clear hs hv
        by_cases hz : 200 < s.size
        · go_wp2_with fail
          go_ret
          exact HT.out _ (fun h => by cases h)
        · have hz' : s.size ≤ 200 := by omega
          clear hz
          by_cases hz2 : 200 < v.size
          · go_wp2_with fail
            go_ret
            exact HT.out _ (fun h => by cases h)
          · have hz2' : v.size ≤ 200 := by omega
            clear hz2
            go_wp2_with fail
            go_round
            case rel => exact ⟨k + 1, by omega, by omega, by go_num⟩
            case measure => simp [intOf]; omega
      · by_cases hkn : k < n
        · obtain rfl : k = 70 := by omega
          go_wp2_with fail
          go_ret
          exact HT.out _ (fun h => by have := of_decide_eq_true h; omega)
        · have hk70 : n ≤ 70 := by omega
          go_wp2_with fail
          go_ret
          exact HT.out _ (fun _ => hk70)
theorem small_any (q : QV) (h : PIn w B q.pa q.m.props) (hm : q.m.props.length ≤ 9223372036854775807) : Calls Tryz.prog 11 #[q.agg] w (SmallB q w) := by
  have HB0 := Lib.hid ((Below.refl w.heap.size w).alloc (Nat.le_refl _) (.cells q.cells.toArray 25))
  have HP := Lib.hid (pfew_any _ q.pc (h.below ((Below.refl w.heap.size w).alloc (Nat.le_refl _) (.cells q.cells.toArray 25))) rfl hm)
  have HF := Lib.hid (show ∀ w' : World, Below w.heap.size w w' → SmallB q w (.returned (.bool false)) w' from fun _ hb => ⟨false, rfl, (fun h => by cases h), hb⟩)
  have HS := Lib.hid (show ∀ (b : Bool) (w' : World), (b = true → q.m.props.length ≤ 70) → Below w.heap.size w w' → SmallB q w (.returned (.bool b)) w' from fun b _ h hb => ⟨b, rfl, h, hb⟩)
  clear h hm
  unfold QV.agg
  unfold QV.cells at *
  obtain ⟨⟨m1, m2, m3, m4, ml, m6, m7, m8, m9⟩, pa, pc⟩ := q
  dsimp only at *
  generalize ml.length = n at *
  by_cases h1 : m1.size ≤ 200
  · by_cases h2 : m2.size ≤ 200
    · by_cases h3 : m6.size ≤ 100
      · by_cases h4 : m9.size ≤ 200
        · go_enter Tryz.func11, Tryz.ntmps11
          go_wp2_with fail
          refine HP.out.mono ?_
          rintro x w1 ⟨⟨b, rfl, hb⟩, rfl⟩
          have HBB := Lib.hid hb
          clear hb
          go_wp2_with fail
          go_ret
          exact HS.out _ _ HBB.out HB0.out
        · go_enter Tryz.func11, Tryz.ntmps11
          go_wp2_with fail
          go_ret
          exact HF.out _ HB0.out
      · go_enter Tryz.func11, Tryz.ntmps11
        go_wp2_with fail
        go_ret
        exact HF.out _ HB0.out
    · go_enter Tryz.func11, Tryz.ntmps11
      go_wp2_with fail
      go_ret
      exact HF.out _ HB0.out
  · go_enter Tryz.func11, Tryz.ntmps11
    go_wp2_with fail
    go_ret
    exact HF.out _ HB0.out
end
end Go.Proofs.YtnolnhpmpjgnaaaGreatDoor

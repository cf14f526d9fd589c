/- What is proved here: RetainNobody answers true for every message and every time. Conditions: the message is one that came in, and the two errors that a check names are there. -/
import Derived.Test.YtfmkeapbddhndaaDoorAwk19
import Derived.Test.YtfmkeapbddhndaaDoorSml19
import Derived.Test.YtfmkeapbddhndaaDoorEnvT16
import Derived.Test.YtfmkeapbddhndaaDoorOpn24
namespace Go.Proofs.YtfmkeapbddhndaaDoor
open Go.RowKit Go.Extern.Stop Go.Stop Go.Extern Go.Maps Go.Deep
set_option maxRecDepth 100000
/-- Who nobody's are. -/
def nobS (z k : Nat) : Option Addr := if k = 0 then none else some ⟨z, 0, none⟩
theorem nobS_no {W : World} {z : Nat} (h : ZSt W z) (k : Nat) : NoS W (.pointer (nobS z k)) := by
  unfold nobS
  split
  · exact .inl rfl
  · exact .inr ⟨z, rfl, h⟩
theorem nobS_cell {W : World} {nb z k : Nat} (h : Blk W nb 49 #[.pointer none, .pointer (some ⟨z, 0, none⟩)]) (hk : k < 2) : W.cell? ⟨nb, k, none⟩ = some (.pointer (nobS z k)) := by
  rcases k with _ | _ | k
  · exact Blk.cell h 0
  · exact Blk.cell h 1
  · omega
/-- What stands in the walk: the message's box, nobody's store, the row of both. -/
structure LnI (w W : World) (k2 z nb : Nat) (q : QV) : Prop where
  bel : Below w.heap.size w W
  bx : Blk W k2 57 q.cells.toArray
  zs : ZSt W z
  nbk : Blk W nb 49 #[.pointer none, .pointer (some ⟨z, 0, none⟩)]
theorem LnI.below {w W W' : World} {k2 z nb : Nat} {q : QV} (h : LnI w W k2 z nb q) (hb : Below W.heap.size W W') : LnI w W' k2 z nb q :=
  ⟨h.bel.trans (hb.mono h.bel.size), h.bx.below hb h.bx.lt, h.zs.below hb, Blk.below h.nbk hb (Blk.lt h.nbk)⟩
theorem LnI.start {w W : World} {k2 : Nat} {q : QV} (hb : Below w.heap.size w W) (hx : Blk W k2 57 q.cells.toArray) : LnI w ((W.alloc (.cells #[.int .i64 0, .map none] 72)).alloc (.cells #[.pointer none, .pointer (some ⟨W.heap.size, 0, none⟩)] 49)) k2 W.heap.size (W.heap.size + 1) q := by
  have b1 := (Below.refl W.heap.size W).alloc (Nat.le_refl _) (.cells #[.int .i64 0, .map none] 72)
  have hs : (W.alloc (.cells #[.int .i64 0, .map none] 72)).heap.size = W.heap.size + 1 := World.size_alloc _ _
  have b2 := (Below.refl (W.alloc (.cells #[.int .i64 0, .map none] 72)).heap.size (W.alloc (.cells #[.int .i64 0, .map none] 72))).alloc (Nat.le_refl _) (.cells #[.pointer none, .pointer (some ⟨W.heap.size, 0, none⟩)] 49)
  have hz : ZSt (W.alloc (.cells #[.int .i64 0, .map none] 72)) W.heap.size := Blk.made _ _ _
  have hn := Blk.made (W.alloc (.cells #[.int .i64 0, .map none] 72)) 49 #[.pointer none, .pointer (some ⟨W.heap.size, 0, none⟩)]
  rw [hs] at hn
  exact ⟨(hb.trans (b1.mono hb.size)).trans (b2.mono (hb.trans (b1.mono hb.size)).size), (hx.below b1 hx.lt).below b2 (hx.below b1 hx.lt).lt, hz.below b2, hn⟩
set_option maxHeartbeats 16000000 in
theorem retainNobody_walk (S : Nat → Addr) (q : QV) (now : Int) (w : World) (he : EnvT w S) (h : MsgOf w q) (_ : (Lit.int .i64 now).wf = true) :
    Calls Tryd.prog 8 #[q.agg, .int .i64 now] w fun x w' => x = .returned (.bool true) ∧ Below w.heap.size w w' := by
  have HSM := Lib.hid (fun W (hb : Below w.heap.size w W) => small19_any q (h.1.below hb) h.2.1)
  have HAW := Lib.hid (fun W (hb : Below w.heap.size w W) => (awake19 W (he.later hb)).mono fun x w' hx => show x = .returned (.bool true) ∧ Below w.heap.size w w' from ⟨hx.1, hb.trans (hx.2.mono hb.size)⟩)
  have HE := Lib.hid he
  have HO := Lib.hid (Own.start [] w)
  have HAG := Lib.hid (show q.agg = .agg q.cells.toArray from rfl)
  have HSQ := Lib.hid (hone19 q)
  rw [HAG.out] at *
  clear h he
  go_enter Tryd.func8, Tryd.ntmps8
  go_upto_region 1 with (refine wpo_box (t := 57) HO.out _ rfl rfl rfl ?_; clear HO; rintro k2 W1 hO; have HO := Lib.hid hO; clear hO; simp only [Act.put, List.setIfInBounds_toArray, List.set_cons_zero, List.set_cons_succ])
  have HS2 := Lib.hid (HSM.out W1 HO.out.bel)
  go_wp2_with (refine wpo_load HO.out 0 tyMs rfl HSQ.out.1 _ rfl rfl rfl ?_; simp only [Act.put, List.setIfInBounds_toArray, List.set_cons_zero, List.set_cons_succ])
  refine HS2.out.mono ?_
  rintro x W3 ⟨b, rfl, hb, hb3⟩
  have HO3 := Lib.hid (HO.out.below hb3)
  clear hb3 HS2 HO HSM
  cases b with
  | false =>
    have HA := Lib.hid (HAW.out _ HO3.out.bel)
    clear hb
    go_wp2_with fail
    refine HA.out.mono ?_
    rintro x w4 ⟨rfl, hb4⟩
    have HB4 := Lib.hid hb4
    clear hb4
    go_wp2_with fail
    go_ret
    exact ⟨rfl, HB4.out⟩
  | true =>
    have HQ := Lib.hid (hb rfl)
    have HST := Lib.hid (LnI.start HO3.out.bel (HO3.out.get 0 rfl))
    clear hb HO3
    go_wp2_with fail
    generalize ((W3.alloc (.cells #[.int .i64 0, .map none] 72)).alloc (.cells #[.pointer none, .pointer (some ⟨W3.heap.size, 0, none⟩)] 49)) = W0 at *
    generalize W3.heap.size + 1 = nb at *
    generalize W3.heap.size = z at *
    go_loopw [6] (fun i wr => ∃ j : Nat, j ≤ 2 ∧ i = .int .i64 j ∧ Hid (LnI w wr k2 z nb q)) (fun i _ => 2 - (intOf i).toNat)
    case atStart => exact ⟨0, by omega, rfl, HST⟩
    case round =>
      obtain ⟨j, hj, rfl, HI⟩ := hrel
      by_cases hj2 : j < 2
      · have hno := nobS_no HI.out.zs j
        have D26 := Lib.hid (fun W (hb : Below wr.heap.size wr W) => (nos_put (hno.below hb) q (by have := HQ.out.2; omega) (HE.out.later (HI.out.bel.trans (hb.mono HI.out.bel.size)))).mono fun x w' hx => show x = .returned (.bool (nameB q.m.topic && decide (q.m.payload = ⟨#[]⟩))) ∧ Below wr.heap.size wr w' from ⟨hx.1, hb.trans (hx.2.mono hb.size)⟩)
        have D38 := Lib.hid (fun W (hb : Below wr.heap.size wr W) => (rIsName_any (w := W) q.m.topic (by have := HQ.out.2; omega)).mono fun x w' hx => show x = .returned (.bool (nameB q.m.topic)) ∧ Below wr.heap.size wr w' from ⟨hx.1, hb.trans (hx.2.mono hb.size)⟩)
        have D36 := Lib.hid (fun W (hb : Below wr.heap.size wr W) => (nos_len (hno.below hb)).mono fun x w' hx => show x = .returned (.int .i64 0) ∧ Below wr.heap.size wr w' from ⟨hx.1, hb.trans (hx.2.mono hb.size)⟩)
        have D34 := Lib.hid (fun W (hb : Below wr.heap.size wr W) => (nos_match (hno.below hb) ⟨#[35]⟩).mono fun x w' hx => show x = .returned (.slice none 0 0) ∧ Below wr.heap.size wr w' from ⟨hx.1, hb.trans (hx.2.mono hb.size)⟩)
        have D28 := Lib.hid (fun W (hb : Below wr.heap.size wr W) => (nos_exp (hno.below hb) now).mono fun x w' hx => show x = .returned (.int .i64 0) ∧ Below wr.heap.size wr w' from ⟨hx.1, hb.trans (hx.2.mono hb.size)⟩)
        have D30 := Lib.hid (fun W (hb : Below wr.heap.size wr W) => (nos_get (hno.below hb) q.m.topic).mono fun x w' hx => show (∃ pa pc, x = .returned (.tuple #[.agg #[.string ⟨#[]⟩, .string ⟨#[]⟩, .int .i64 0, .bool false, .slice pa 0 pc, .string ⟨#[]⟩, .int .i64 0, .int .i64 0, .string ⟨#[]⟩], .bool false])) ∧ Below wr.heap.size wr w' from ⟨hx.1, hb.trans (hx.2.mono hb.size)⟩)
        have DZ30 := Lib.hid (fun W r (hb : Below wr.heap.size wr W) (hz : Blk W r 57 zq) => (nos_get (hno.below hb) q.m.topic).mono fun x w' hx => show (∃ pa pc, x = .returned (.tuple #[.agg #[.string ⟨#[]⟩, .string ⟨#[]⟩, .int .i64 0, .bool false, .slice pa 0 pc, .string ⟨#[]⟩, .int .i64 0, .int .i64 0, .string ⟨#[]⟩], .bool false])) ∧ Below wr.heap.size wr w' ∧ Blk w' r 57 zq from ⟨hx.1, hb.trans (hx.2.mono hb.size), hz.below hx.2 hz.lt⟩)
        have KN := Lib.hid (fun W (hb : Below wr.heap.size wr W) => show W.cell? ⟨nb, j, none⟩ = some (.pointer (nobS z j)) ∧ _ from And.intro (nobS_cell (HI.out.below hb).nbk hj2) (blk9 (HI.out.below hb).bx))
        have HDL := Lib.hid (fun W (hb : Below wr.heap.size wr W) => HI.out.below hb)
        have hpl := text_dec19 q.m.payload
        generalize nobS z j = P at *
        unfold QV.agg at D26
        have hj1 : (j : Int) < 2 := by omega
        have hj0 : (0 : Int) ≤ (j : Int) := by omega
        have hb0 : Below wr.heap.size wr wr := Below.refl _ _
        clear hno
        generalize decide (q.m.payload = ⟨#[]⟩) = pb at *
        generalize nameB q.m.topic = nmb at *
        go_upto_region 7 with fail
        go_cut [62] (fun v wx => v = .bool false ∧ Below wr.heap.size wr wx)
        case first =>
          obtain ⟨p, t0, t1, t2, t3, t4, t5, t6, t7, t8⟩ := KN.out _ hb0
          cases nmb with
          | false =>
            rw [Bool.false_and] at D26
            refine wp_region_held_drew (S := (fun W => W.cell? ⟨nb, j, none⟩ = some (.pointer P) ∧ W.cell? ⟨k2, 0, none⟩ = some (.string q.m.topic) ∧ W.cell? ⟨k2, 1, none⟩ = some (.string q.m.payload) ∧ W.cell? ⟨k2, 2, none⟩ = some (.int .i64 q.m.qos) ∧ W.cell? ⟨k2, 3, none⟩ = some (.bool q.m.retain) ∧ W.cell? ⟨k2, 4, none⟩ = some (.slice q.pa q.m.props.length q.pc) ∧ W.cell? ⟨k2, 5, none⟩ = some (.string q.m.frm) ∧ W.cell? ⟨k2, 6, none⟩ = some (.int .i64 q.m.til) ∧ W.cell? ⟨k2, 7, none⟩ = some (.int .i64 q.m.seq) ∧ W.cell? ⟨k2, 8, none⟩ = some (.string q.m.grp))) (by kernel_rfl) ?_ (fun hHeld => ?_)
            · (first | with_reducible assumption | ((refine KN.out _ ?_); (first | with_reducible assumption | exact bvn (by assumption) 1)))
            refine wpAnyH_take (i := 0) (oi := { dst := some 22, op := Op.move (Operand.tmp 5), type := 73, pos := _, after := _, guard := none }) (v := (.slice (some ⟨nb, 0, none⟩) 2 2)) rfl (by kernel_rfl) (by kernel_rfl) (by kernel_rfl) (fun _ _ _ h => h) (Or.inl ⟨by rfl, fun w' _ => ?_⟩) (by assumption) ?_
            · go_simp
            simp only [Act.put, List.setIfInBounds_toArray, List.set_cons_zero, List.set_cons_succ]
            refine wpAnyH_take (i := 1) (oi := { dst := some 23, op := Op.move (Operand.tmp 6), type := 3, pos := _, after := _, guard := none }) (v := (.int .i64 j)) rfl (by kernel_rfl) (by kernel_rfl) (by kernel_rfl) (fun _ _ _ h => h) (Or.inl ⟨by rfl, fun w' _ => ?_⟩) (by assumption) ?_
            · go_simp
            simp only [Act.put, List.setIfInBounds_toArray, List.set_cons_zero, List.set_cons_succ]
            refine wpAnyH_take (i := 2) (oi := { dst := some 24, op := Op.indexAddr 73 (Operand.tmp 22) (Operand.tmp 23), type := 0, pos := _, after := _, guard := none }) (v := (.pointer (some ⟨nb, j, none⟩))) rfl (by kernel_rfl) (by kernel_rfl) (by kernel_rfl) (fun _ _ _ h => h) (Or.inl ⟨by rfl, fun w' _ => ?_⟩) (by assumption) ?_
            · go_simp
            simp only [Act.put, List.setIfInBounds_toArray, List.set_cons_zero, List.set_cons_succ]
            refine wpAnyH_take (i := 3) (oi := { dst := some 25, op := Op.load 49 (Operand.tmp 24), type := 49, pos := _, after := _, guard := none }) (v := (.pointer P)) rfl (by kernel_rfl) (by kernel_rfl) (by kernel_rfl) (fun _ _ _ h => h) (Or.inl ⟨by rfl, fun w' _ => ?_⟩) (by assumption) ?_
            · go_simp
            simp only [Act.put, List.setIfInBounds_toArray, List.set_cons_zero, List.set_cons_succ]
            refine wpAnyH_take (i := 4) (oi := { dst := some 26, op := Op.load 57 (Operand.tmp 2), type := 57, pos := _, after := _, guard := none }) (v := (.agg #[.string q.m.topic, .string q.m.payload, .int .i64 q.m.qos, .bool q.m.retain, .slice q.pa q.m.props.length q.pc, .string q.m.frm, .int .i64 q.m.til, .int .i64 q.m.seq, .string q.m.grp])) rfl (by kernel_rfl) (by kernel_rfl) (by kernel_rfl) (fun _ _ _ h => h) (Or.inl ⟨by rfl, fun w' _ => ?_⟩) (by assumption) ?_
            · go_simp
            simp only [Act.put, List.setIfInBounds_toArray, List.set_cons_zero, List.set_cons_succ]
            refine wpAnyH_take (i := 6) (oi := { dst := some 28, op := Op.fieldAddr 57 (Operand.tmp 2) 0, type := 0, pos := _, after := _, guard := none }) (v := (.pointer (some ⟨k2, 0, none⟩))) rfl (by kernel_rfl) (by kernel_rfl) (by kernel_rfl) (fun _ _ _ h => h) (Or.inl ⟨by rfl, fun w' _ => ?_⟩) (by assumption) ?_
            · go_simp
            simp only [Act.put, List.setIfInBounds_toArray, List.set_cons_zero, List.set_cons_succ]
            refine wpAnyH_take (i := 7) (oi := { dst := some 29, op := Op.load 9 (Operand.tmp 28), type := 9, pos := _, after := _, guard := none }) (v := (.string q.m.topic)) rfl (by kernel_rfl) (by kernel_rfl) (by kernel_rfl) (fun _ _ _ h => h) (Or.inl ⟨by rfl, fun w' _ => ?_⟩) (by assumption) ?_
            · go_simp
            simp only [Act.put, List.setIfInBounds_toArray, List.set_cons_zero, List.set_cons_succ]
            refine wpAnyH_ready (rs := [5]) (by kernel_rfl) (by simp) ?_
            refine AllReadyH.cons (o := { dst := some 27, op := Op.call { callee := Callee.value (Operand.func 26), args := #[Operand.tmp 25, Operand.tmp 26], argTypes := #[49, 57] }, type := 4, pos := _, after := _, guard := none }) rfl (fun K hK => ?_) AllReadyH.nil
            go_simp
            refine (D26.out _ (by first | exact hb0 | exact bvn hb0 1 | exact bvd hb0)).mono ?_
            rintro x w6 ⟨rfl, hb6⟩
            go_wp2_with fail
            refine hK.out _ _ ?_ (fun hHeld5 => ?_)
            · (first | with_reducible assumption | ((refine KN.out _ ?_); (first | with_reducible assumption | exact bvn (by assumption) 1)))
            clear hK K
            try simp only [Act.put, List.setIfInBounds_toArray, List.set_cons_zero, List.set_cons_succ]
            refine wpAnyH_ready (rs := [8]) (by kernel_rfl) (by simp) ?_
            refine AllReadyH.cons (o := { dst := some 30, op := Op.call { callee := Callee.value (Operand.func 38), args := #[Operand.tmp 29], argTypes := #[9] }, type := 4, pos := _, after := _, guard := none }) rfl (fun K hK => ?_) AllReadyH.nil
            go_simp
            refine (D38.out _ (by first | exact hb6 | exact bvn hb6 1 | exact bvd hb6)).mono ?_
            rintro x w7 ⟨rfl, hb7⟩
            go_wp2_with fail
            refine hK.out _ _ ?_ (fun hHeld8 => ?_)
            · (first | with_reducible assumption | ((refine KN.out _ ?_); (first | with_reducible assumption | exact bvn (by assumption) 1)))
            clear hK K
            try simp only [Act.put, List.setIfInBounds_toArray, List.set_cons_zero, List.set_cons_succ]
            refine wpAnyH_take (i := 9) (oi := { dst := some 31, op := Op.move (Operand.tmp 30), type := 4, pos := _, after := _, guard := none }) (v := (.bool false)) rfl (by kernel_rfl) (by kernel_rfl) (by kernel_rfl) (fun _ _ _ h => h) (Or.inl ⟨by rfl, fun w' _ => ?_⟩) (by assumption) ?_
            · go_simp
            simp only [Act.put, List.setIfInBounds_toArray, List.set_cons_zero, List.set_cons_succ]
            refine wpAnyH_take (i := 10) (oi := { dst := some 32, op := Op.fieldAddr 57 (Operand.tmp 2) 1, type := 0, pos := _, after := _, guard := some (9, true) }) (v := undef) rfl (by kernel_rfl) (by kernel_rfl) (by kernel_rfl) (fun _ _ _ h => h) (Or.inr ⟨by rfl, rfl⟩) (by assumption) ?_
            simp only [Act.put, List.setIfInBounds_toArray, List.set_cons_zero, List.set_cons_succ]
            refine wpAnyH_take (i := 11) (oi := { dst := some 33, op := Op.load 9 (Operand.tmp 32), type := 9, pos := _, after := _, guard := some (9, true) }) (v := undef) rfl (by kernel_rfl) (by kernel_rfl) (by kernel_rfl) (fun _ _ _ h => h) (Or.inr ⟨by rfl, rfl⟩) (by assumption) ?_
            simp only [Act.put, List.setIfInBounds_toArray, List.set_cons_zero, List.set_cons_succ]
            refine wpAnyH_take (i := 12) (oi := { dst := some 34, op := Op.binOp BinOp.eql 9 (Operand.tmp 33) (Operand.const (Value.string { data := #[] })) 9, type := 4, pos := _, after := _, guard := some (9, true) }) (v := undef) rfl (by kernel_rfl) (by kernel_rfl) (by kernel_rfl) (fun _ _ _ h => h) (Or.inr ⟨by rfl, rfl⟩) (by assumption) ?_
            simp only [Act.put, List.setIfInBounds_toArray, List.set_cons_zero, List.set_cons_succ]
            refine wpAnyH_take (i := 13) (oi := { dst := some 35, op := Op.pick (Operand.tmp 31) (Operand.tmp 34) (Operand.const (Value.bool false)), type := 4, pos := _, after := _, guard := none }) (v := (.bool false)) rfl (by kernel_rfl) (by kernel_rfl) (by kernel_rfl) (fun _ _ _ h => h) (Or.inl ⟨by rfl, fun w' _ => ?_⟩) (by assumption) ?_
            · go_simp
            simp only [Act.put, List.setIfInBounds_toArray, List.set_cons_zero, List.set_cons_succ]
            refine wpAnyH_take (i := 14) (oi := { dst := some 36, op := Op.binOp BinOp.neq 4 (Operand.tmp 27) (Operand.tmp 35) 4, type := 4, pos := _, after := _, guard := none }) (v := (.bool false)) rfl (by kernel_rfl) (by kernel_rfl) (by kernel_rfl) (fun _ _ _ h => h) (Or.inl ⟨by rfl, fun w' _ => ?_⟩) (by assumption) ?_
            · go_simp
            simp only [Act.put, List.setIfInBounds_toArray, List.set_cons_zero, List.set_cons_succ]
            refine wpAnyH_take (i := 15) (oi := { dst := some 37, op := Op.move (Operand.tmp 36), type := 4, pos := _, after := _, guard := none }) (v := (.bool false)) rfl (by kernel_rfl) (by kernel_rfl) (by kernel_rfl) (fun _ _ _ h => h) (Or.inl ⟨by rfl, fun w' _ => ?_⟩) (by assumption) ?_
            · go_simp
            simp only [Act.put, List.setIfInBounds_toArray, List.set_cons_zero, List.set_cons_succ]
            refine wpAnyH_take (i := 16) (oi := { dst := some 38, op := Op.move (Operand.tmp 5), type := 73, pos := _, after := _, guard := some (15, false) }) (v := (.slice (some ⟨nb, 0, none⟩) 2 2)) rfl (by kernel_rfl) (by kernel_rfl) (by kernel_rfl) (fun _ _ _ h => h) (Or.inl ⟨by rfl, fun w' _ => ?_⟩) (by assumption) ?_
            · go_simp
            simp only [Act.put, List.setIfInBounds_toArray, List.set_cons_zero, List.set_cons_succ]
            refine wpAnyH_take (i := 17) (oi := { dst := some 39, op := Op.move (Operand.tmp 6), type := 3, pos := _, after := _, guard := some (15, false) }) (v := (.int .i64 j)) rfl (by kernel_rfl) (by kernel_rfl) (by kernel_rfl) (fun _ _ _ h => h) (Or.inl ⟨by rfl, fun w' _ => ?_⟩) (by assumption) ?_
            · go_simp
            simp only [Act.put, List.setIfInBounds_toArray, List.set_cons_zero, List.set_cons_succ]
            refine wpAnyH_take (i := 18) (oi := { dst := some 40, op := Op.indexAddr 73 (Operand.tmp 38) (Operand.tmp 39), type := 0, pos := _, after := _, guard := some (15, false) }) (v := (.pointer (some ⟨nb, j, none⟩))) rfl (by kernel_rfl) (by kernel_rfl) (by kernel_rfl) (fun _ _ _ h => h) (Or.inl ⟨by rfl, fun w' _ => ?_⟩) (by assumption) ?_
            · go_simp
            simp only [Act.put, List.setIfInBounds_toArray, List.set_cons_zero, List.set_cons_succ]
            refine wpAnyH_take (i := 19) (oi := { dst := some 41, op := Op.load 49 (Operand.tmp 40), type := 49, pos := _, after := _, guard := some (15, false) }) (v := (.pointer P)) rfl (by kernel_rfl) (by kernel_rfl) (by kernel_rfl) (fun _ _ _ h => h) (Or.inl ⟨by rfl, fun w' _ => ?_⟩) (by assumption) ?_
            · go_simp
            simp only [Act.put, List.setIfInBounds_toArray, List.set_cons_zero, List.set_cons_succ]
            refine wpAnyH_ready (rs := [20]) (by kernel_rfl) (by simp) ?_
            refine AllReadyH.cons (o := { dst := some 42, op := Op.call { callee := Callee.value (Operand.func 36), args := #[Operand.tmp 41], argTypes := #[49] }, type := 3, pos := _, after := _, guard := some (15, false) }) rfl (fun K hK => ?_) AllReadyH.nil
            go_simp
            refine (D36.out _ (by first | exact hb7 | exact bvn hb7 1 | exact bvd hb7)).mono ?_
            rintro x w8 ⟨rfl, hb8⟩
            go_wp2_with fail
            refine hK.out _ _ ?_ (fun hHeld20 => ?_)
            · (first | with_reducible assumption | ((refine KN.out _ ?_); (first | with_reducible assumption | exact bvn (by assumption) 1)))
            clear hK K
            try simp only [Act.put, List.setIfInBounds_toArray, List.set_cons_zero, List.set_cons_succ]
            refine wpAnyH_take (i := 21) (oi := { dst := some 43, op := Op.binOp BinOp.neq 3 (Operand.tmp 42) (Operand.const (Value.int IntKind.i64 0)) 3, type := 4, pos := _, after := _, guard := some (15, false) }) (v := (.bool false)) rfl (by kernel_rfl) (by kernel_rfl) (by kernel_rfl) (fun _ _ _ h => h) (Or.inl ⟨by rfl, fun w' _ => ?_⟩) (by assumption) ?_
            · go_simp
            simp only [Act.put, List.setIfInBounds_toArray, List.set_cons_zero, List.set_cons_succ]
            refine wpAnyH_take (i := 22) (oi := { dst := some 44, op := Op.pick (Operand.tmp 37) (Operand.const (Value.bool true)) (Operand.tmp 43), type := 4, pos := _, after := _, guard := none }) (v := (.bool false)) rfl (by kernel_rfl) (by kernel_rfl) (by kernel_rfl) (fun _ _ _ h => h) (Or.inl ⟨by rfl, fun w' _ => ?_⟩) (by assumption) ?_
            · go_simp
            simp only [Act.put, List.setIfInBounds_toArray, List.set_cons_zero, List.set_cons_succ]
            refine wpAnyH_take (i := 23) (oi := { dst := some 45, op := Op.move (Operand.tmp 44), type := 4, pos := _, after := _, guard := none }) (v := (.bool false)) rfl (by kernel_rfl) (by kernel_rfl) (by kernel_rfl) (fun _ _ _ h => h) (Or.inl ⟨by rfl, fun w' _ => ?_⟩) (by assumption) ?_
            · go_simp
            simp only [Act.put, List.setIfInBounds_toArray, List.set_cons_zero, List.set_cons_succ]
            refine wpAnyH_take (i := 24) (oi := { dst := some 46, op := Op.move (Operand.tmp 5), type := 73, pos := _, after := _, guard := some (23, false) }) (v := (.slice (some ⟨nb, 0, none⟩) 2 2)) rfl (by kernel_rfl) (by kernel_rfl) (by kernel_rfl) (fun _ _ _ h => h) (Or.inl ⟨by rfl, fun w' _ => ?_⟩) (by assumption) ?_
            · go_simp
            simp only [Act.put, List.setIfInBounds_toArray, List.set_cons_zero, List.set_cons_succ]
            refine wpAnyH_take (i := 25) (oi := { dst := some 47, op := Op.move (Operand.tmp 6), type := 3, pos := _, after := _, guard := some (23, false) }) (v := (.int .i64 j)) rfl (by kernel_rfl) (by kernel_rfl) (by kernel_rfl) (fun _ _ _ h => h) (Or.inl ⟨by rfl, fun w' _ => ?_⟩) (by assumption) ?_
            · go_simp
            simp only [Act.put, List.setIfInBounds_toArray, List.set_cons_zero, List.set_cons_succ]
            refine wpAnyH_take (i := 26) (oi := { dst := some 48, op := Op.indexAddr 73 (Operand.tmp 46) (Operand.tmp 47), type := 0, pos := _, after := _, guard := some (23, false) }) (v := (.pointer (some ⟨nb, j, none⟩))) rfl (by kernel_rfl) (by kernel_rfl) (by kernel_rfl) (fun _ _ _ h => h) (Or.inl ⟨by rfl, fun w' _ => ?_⟩) (by assumption) ?_
            · go_simp
            simp only [Act.put, List.setIfInBounds_toArray, List.set_cons_zero, List.set_cons_succ]
            refine wpAnyH_take (i := 27) (oi := { dst := some 49, op := Op.load 49 (Operand.tmp 48), type := 49, pos := _, after := _, guard := some (23, false) }) (v := (.pointer P)) rfl (by kernel_rfl) (by kernel_rfl) (by kernel_rfl) (fun _ _ _ h => h) (Or.inl ⟨by rfl, fun w' _ => ?_⟩) (by assumption) ?_
            · go_simp
            simp only [Act.put, List.setIfInBounds_toArray, List.set_cons_zero, List.set_cons_succ]
            refine wpAnyH_ready (rs := [28]) (by kernel_rfl) (by simp) ?_
            refine AllReadyH.cons (o := { dst := some 50, op := Op.call { callee := Callee.value (Operand.func 34), args := #[Operand.tmp 49, Operand.const (Value.string { data := #[35] })], argTypes := #[49, 9] }, type := 52, pos := _, after := _, guard := some (23, false) }) rfl (fun K hK => ?_) AllReadyH.nil
            go_simp
            refine (D34.out _ (by first | exact hb8 | exact bvn hb8 1 | exact bvd hb8)).mono ?_
            rintro x w9 ⟨rfl, hb9⟩
            go_wp2_with fail
            refine hK.out _ _ ?_ (fun hHeld28 => ?_)
            · (first | with_reducible assumption | ((refine KN.out _ ?_); (first | with_reducible assumption | exact bvn (by assumption) 1)))
            clear hK K
            try simp only [Act.put, List.setIfInBounds_toArray, List.set_cons_zero, List.set_cons_succ]
            refine wpAnyH_take (i := 29) (oi := { dst := some 51, op := Op.call { callee := Callee.builtin Builtin.len, args := #[Operand.tmp 50], argTypes := #[52] }, type := 3, pos := _, after := _, guard := some (23, false) }) (v := (.int .i64 0)) rfl (by kernel_rfl) (by kernel_rfl) (by kernel_rfl) (fun _ _ _ h => h) (Or.inl ⟨by rfl, fun w' _ => ?_⟩) (by assumption) ?_
            · go_simp
            simp only [Act.put, List.setIfInBounds_toArray, List.set_cons_zero, List.set_cons_succ]
            refine wpAnyH_take (i := 30) (oi := { dst := some 52, op := Op.binOp BinOp.neq 3 (Operand.tmp 51) (Operand.const (Value.int IntKind.i64 0)) 3, type := 4, pos := _, after := _, guard := some (23, false) }) (v := (.bool false)) rfl (by kernel_rfl) (by kernel_rfl) (by kernel_rfl) (fun _ _ _ h => h) (Or.inl ⟨by rfl, fun w' _ => ?_⟩) (by assumption) ?_
            · go_simp
            simp only [Act.put, List.setIfInBounds_toArray, List.set_cons_zero, List.set_cons_succ]
            refine wpAnyH_take (i := 31) (oi := { dst := some 53, op := Op.pick (Operand.tmp 45) (Operand.const (Value.bool true)) (Operand.tmp 52), type := 4, pos := _, after := _, guard := none }) (v := (.bool false)) rfl (by kernel_rfl) (by kernel_rfl) (by kernel_rfl) (fun _ _ _ h => h) (Or.inl ⟨by rfl, fun w' _ => ?_⟩) (by assumption) ?_
            · go_simp
            simp only [Act.put, List.setIfInBounds_toArray, List.set_cons_zero, List.set_cons_succ]
            refine wpAnyH_take (i := 32) (oi := { dst := some 54, op := Op.move (Operand.tmp 53), type := 4, pos := _, after := _, guard := none }) (v := (.bool false)) rfl (by kernel_rfl) (by kernel_rfl) (by kernel_rfl) (fun _ _ _ h => h) (Or.inl ⟨by rfl, fun w' _ => ?_⟩) (by assumption) ?_
            · go_simp
            simp only [Act.put, List.setIfInBounds_toArray, List.set_cons_zero, List.set_cons_succ]
            refine wpAnyH_take (i := 33) (oi := { dst := some 55, op := Op.move (Operand.tmp 5), type := 73, pos := _, after := _, guard := some (32, false) }) (v := (.slice (some ⟨nb, 0, none⟩) 2 2)) rfl (by kernel_rfl) (by kernel_rfl) (by kernel_rfl) (fun _ _ _ h => h) (Or.inl ⟨by rfl, fun w' _ => ?_⟩) (by assumption) ?_
            · go_simp
            simp only [Act.put, List.setIfInBounds_toArray, List.set_cons_zero, List.set_cons_succ]
            refine wpAnyH_take (i := 34) (oi := { dst := some 56, op := Op.move (Operand.tmp 6), type := 3, pos := _, after := _, guard := some (32, false) }) (v := (.int .i64 j)) rfl (by kernel_rfl) (by kernel_rfl) (by kernel_rfl) (fun _ _ _ h => h) (Or.inl ⟨by rfl, fun w' _ => ?_⟩) (by assumption) ?_
            · go_simp
            simp only [Act.put, List.setIfInBounds_toArray, List.set_cons_zero, List.set_cons_succ]
            refine wpAnyH_take (i := 35) (oi := { dst := some 57, op := Op.indexAddr 73 (Operand.tmp 55) (Operand.tmp 56), type := 0, pos := _, after := _, guard := some (32, false) }) (v := (.pointer (some ⟨nb, j, none⟩))) rfl (by kernel_rfl) (by kernel_rfl) (by kernel_rfl) (fun _ _ _ h => h) (Or.inl ⟨by rfl, fun w' _ => ?_⟩) (by assumption) ?_
            · go_simp
            simp only [Act.put, List.setIfInBounds_toArray, List.set_cons_zero, List.set_cons_succ]
            refine wpAnyH_take (i := 36) (oi := { dst := some 58, op := Op.load 49 (Operand.tmp 57), type := 49, pos := _, after := _, guard := some (32, false) }) (v := (.pointer P)) rfl (by kernel_rfl) (by kernel_rfl) (by kernel_rfl) (fun _ _ _ h => h) (Or.inl ⟨by rfl, fun w' _ => ?_⟩) (by assumption) ?_
            · go_simp
            simp only [Act.put, List.setIfInBounds_toArray, List.set_cons_zero, List.set_cons_succ]
            refine wpAnyH_take (i := 37) (oi := { dst := some 59, op := Op.move (Operand.tmp 1), type := 3, pos := _, after := _, guard := some (32, false) }) (v := (.int .i64 now)) rfl (by kernel_rfl) (by kernel_rfl) (by kernel_rfl) (fun _ _ _ h => h) (Or.inl ⟨by rfl, fun w' _ => ?_⟩) (by assumption) ?_
            · go_simp
            simp only [Act.put, List.setIfInBounds_toArray, List.set_cons_zero, List.set_cons_succ]
            refine wpAnyH_ready (rs := [38]) (by kernel_rfl) (by simp) ?_
            refine AllReadyH.cons (o := { dst := some 60, op := Op.call { callee := Callee.value (Operand.func 28), args := #[Operand.tmp 58, Operand.tmp 59], argTypes := #[49, 3] }, type := 3, pos := _, after := _, guard := some (32, false) }) rfl (fun K hK => ?_) AllReadyH.nil
            go_simp
            refine (D28.out _ (by first | exact hb9 | exact bvn hb9 1 | exact bvd hb9)).mono ?_
            rintro x w10 ⟨rfl, hb10⟩
            go_wp2_with fail
            refine hK.out _ _ ?_ (fun hHeld38 => ?_)
            · (first | with_reducible assumption | ((refine KN.out _ ?_); (first | with_reducible assumption | exact bvn (by assumption) 1)))
            clear hK K
            try simp only [Act.put, List.setIfInBounds_toArray, List.set_cons_zero, List.set_cons_succ]
            refine wpAnyH_take (i := 39) (oi := { dst := some 61, op := Op.binOp BinOp.neq 3 (Operand.tmp 60) (Operand.const (Value.int IntKind.i64 0)) 3, type := 4, pos := _, after := _, guard := some (32, false) }) (v := (.bool false)) rfl (by kernel_rfl) (by kernel_rfl) (by kernel_rfl) (fun _ _ _ h => h) (Or.inl ⟨by rfl, fun w' _ => ?_⟩) (by assumption) ?_
            · go_simp
            simp only [Act.put, List.setIfInBounds_toArray, List.set_cons_zero, List.set_cons_succ]
            refine wpAnyH_take (i := 40) (oi := { dst := some 62, op := Op.pick (Operand.tmp 54) (Operand.const (Value.bool true)) (Operand.tmp 61), type := 4, pos := _, after := _, guard := none }) (v := (.bool false)) rfl (by kernel_rfl) (by kernel_rfl) (by kernel_rfl) (fun _ _ _ h => h) (Or.inl ⟨by rfl, fun w' _ => ?_⟩) (by assumption) ?_
            · go_simp
            simp only [Act.put, List.setIfInBounds_toArray, List.set_cons_zero, List.set_cons_succ]
            refine wpAnyH_done (by kernel_rfl) ?_ _
            go_wp2_with fail
            go_meet
            case rel => exact ⟨rfl, hb10⟩
          | true =>
            cases pb
            all_goals
              go_region_held3 (fun W => W.cell? ⟨nb, j, none⟩ = some (.pointer P) ∧ W.cell? ⟨k2, 0, none⟩ = some (.string q.m.topic) ∧ W.cell? ⟨k2, 1, none⟩ = some (.string q.m.payload) ∧ W.cell? ⟨k2, 2, none⟩ = some (.int .i64 q.m.qos) ∧ W.cell? ⟨k2, 3, none⟩ = some (.bool q.m.retain) ∧ W.cell? ⟨k2, 4, none⟩ = some (.slice q.pa q.m.props.length q.pc) ∧ W.cell? ⟨k2, 5, none⟩ = some (.string q.m.frm) ∧ W.cell? ⟨k2, 6, none⟩ = some (.int .i64 q.m.til) ∧ W.cell? ⟨k2, 7, none⟩ = some (.int .i64 q.m.seq) ∧ W.cell? ⟨k2, 8, none⟩ = some (.string q.m.grp))
                (first | with_reducible assumption | ((refine KN.out _ ?_); (first | with_reducible assumption | exact bvn (by assumption) 1)))
                (first
                  | (go_at_call 26; (with_reducible refine (D26.out _ ?_).mono ?_); (first | with_reducible assumption | exact bvn (by assumption) 1); rintro x w6 ⟨rfl, hb6⟩)
                  | (go_at_call 38; (with_reducible refine (D38.out _ ?_).mono ?_); (first | with_reducible assumption | exact bvn (by assumption) 1); rintro x w7 ⟨rfl, hb7⟩)
                  | (go_at_call 36; (with_reducible refine (D36.out _ ?_).mono ?_); (first | with_reducible assumption | exact bvn (by assumption) 1); rintro x w8 ⟨rfl, hb8⟩)
                  | (go_at_call 34; (with_reducible refine (D34.out _ ?_).mono ?_); (first | with_reducible assumption | exact bvn (by assumption) 1); rintro x w9 ⟨rfl, hb9⟩)
                  | (go_at_call 28; (with_reducible refine (D28.out _ ?_).mono ?_); (first | with_reducible assumption | exact bvn (by assumption) 1); rintro x w10 ⟨rfl, hb10⟩))
              clear p t0 t1 t2 t3 t4 t5 t6 t7 t8 D26 D38 D36 D34 D28
              go_wp2_with fail
              go_meet
              case rel => exact ⟨rfl, hb10⟩
        case rest =>
          obtain ⟨rfl, hb11⟩ := hcut
          clear hb0 D26 D38 D36 D34 D28
          have hzz := Lib.hid (fun (W : World) => Blk.made W 57 zq)
          unfold zq at hzz DZ30
          go_upto_region 9 with fail
          go_cut [8] (fun v wx => v = .bool false ∧ Below wr.heap.size wr wx)
          case first =>
            have KN2 := Lib.hid (fun W (hb : Below wr.heap.size wr W) => show W.cell? ⟨nb, j, none⟩ = some (.pointer P) ∧ W.cell? ⟨k2, 0, none⟩ = some (.string q.m.topic) from ⟨(KN.out W hb).1, (KN.out W hb).2.1⟩)
            obtain ⟨p, t0⟩ := KN2.out _ hb11
            go_region_held3 (fun W => W.cell? ⟨nb, j, none⟩ = some (.pointer P) ∧ W.cell? ⟨k2, 0, none⟩ = some (.string q.m.topic))
              (first | with_reducible assumption | ((refine KN2.out _ ?_); (repeat (first | with_reducible assumption | (with_reducible refine bvs ?_ ?_ _) | (with_reducible refine bva ?_ _) | (with_reducible refine bvd ?_) | (with_reducible refine bvn ?_ _) | (with_reducible exact Below.size (by assumption)) | (refine bva ?_ _) | (refine bvd ?_) | exact Below.refl _ _ | exact Below.size (by assumption) | exact Nat.le_refl _))))
              (first
                | (go_at_call 30; (with_reducible refine (D30.out _ ?_).mono ?_); (first | with_reducible assumption | exact bvn (by assumption) 1); rintro x w12 ⟨⟨pa9, pc9, rfl⟩, hb12⟩)
                | (go_at_call 30; (with_reducible refine (DZ30.out _ wc.heap.size ?_ ?_).mono ?_); (repeat (first | with_reducible assumption | (with_reducible refine bvs ?_ ?_ _) | (with_reducible refine bva ?_ _) | (with_reducible refine bvd ?_) | (with_reducible refine bvn ?_ _) | (with_reducible exact Below.size (by assumption)) | (refine bva ?_ _) | (refine bvd ?_) | exact Below.refl _ _ | exact Below.size (by assumption) | exact Nat.le_refl _)); (exact hzz.out wc); rintro x w12 ⟨⟨pa9, pc9, rfl⟩, hb12, hz12⟩; obtain ⟨z0, z1, z2, z3, z4, z5, z6, z7, z8⟩ := blk9z hz12; have zf0 := hz12.frozen 0; have zf1 := hz12.frozen 1; have zf2 := hz12.frozen 2; have zf3 := hz12.frozen 3; have zf4 := hz12.frozen 4; have zf5 := hz12.frozen 5; have zf6 := hz12.frozen 6; have zf7 := hz12.frozen 7; have zf8 := hz12.frozen 8))
            all_goals
              have HB11 := Lib.hid hb11
              have HB12 := Lib.hid hb12
              clear hb11 hb12 p t0 KN KN2 D30 DZ30
              go_wp2_with fail
              go_meet
              case rel =>
                have hb11 := HB11.out
                have hb12 := HB12.out
                exact ⟨rfl, by (repeat (first | with_reducible assumption | (with_reducible refine bvs ?_ ?_ _) | (with_reducible refine bva ?_ _) | (with_reducible refine bvd ?_) | (with_reducible refine bvn ?_ _) | (with_reducible exact Below.size (by assumption)) | (refine bva ?_ _) | (refine bvd ?_) | exact Below.refl _ _ | exact Below.size (by assumption) | exact Nat.le_refl _))⟩
          case rest =>
            obtain ⟨rfl, hb13⟩ := hcut
            have HI2 := Lib.hid (HDL.out _ hb13)
            clear hb11 hb13 KN D30 DZ30
            go_wp2_with fail
            go_roundw
            case rel => exact ⟨j + 1, by omega, by go_num, HI2⟩
            case measure => simp [intOf]; omega
      · have HA := Lib.hid (HAW.out wr HI.out.bel)
        go_wp2_with fail
        refine HA.out.mono ?_
        rintro x w9 ⟨rfl, hb9⟩
        have HB9 := Lib.hid hb9
        clear hb9
        go_wp2_with fail
        go_ret
        exact ⟨rfl, HB9.out⟩
end Go.Proofs.YtfmkeapbddhndaaDoor

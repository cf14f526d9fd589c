/- What is proved here: next and Scan of package wal tell what plain functions say. Conditions: few bytes; what the rows list of the package's variables. What is proved here: Scan of package wal tells what plain functions say. Conditions: few bytes; what the rows list of the package's variables. -/
import Derived.Test.YthplhdepllloaaaDoorSum22
import Derived.Test.YthplhdepllloaaaDoorRaw04
import Derived.Test.YthplhdepllloaaaDoorTexts
import Derived.StillTailTactics
import Derived.Deep.QuietTactic
import Derived.Deep.LoopGhost
import Derived.BigQuiet
namespace Go.Proofs.YthplhdepllloaaaDoor
set_option maxRecDepth 100000
open Go.RowKit Go.Extern.Stop Go.Stop Go.Extern
/-- What next leaves: the record, and its place behind it; or none. -/
def NxSays (w : World) (f : Nat) (s : ByteArray) (p : Nat) (r : Option ByteArray) (x : Ending) (w' : World) : Prop :=
  x = .returned (.tuple #[.string (r.getD ⟨#[]⟩), .bool r.isSome]) ∧ Fr [f] w w' ∧ Blk w' f 65 #[.string s, .int .i64 (match r with | some b => (p + (8 + b.size) : Nat) | none => (p : Nat))]
structure NxIn (w W : World) (f : Nat) (s : ByteArray) (p : Nat) : Prop where
  blk : Blk W f 65 #[.string s, .int .i64 p]
  bel : Below w.heap.size w W
/-- Behind the reader's making. -/
structure NxR (w W : World) (S : Nat → Addr) (f : Nat) (s : ByteArray) (p g : Nat) (t : ByteArray) (R : RV) : Prop where
  inn : NxIn w W f s p
  rd : RObj W S g t R
  low : w.heap.size ≤ g
section
variable {w W W' : World} {S : Nat → Addr} {f p g : Nat} {s t : ByteArray} {R R' : RV}
theorem NxIn.below (h : NxIn w W f s p) (hb : Below W.heap.size W W') : NxIn w W' f s p := ⟨h.blk.below hb h.blk.lt, h.bel.trans (hb.mono h.bel.size)⟩
theorem NxIn.drewN (h : NxIn w W f s p) (d : Nat) : NxIn w (W.drewN d) f s p := h.below (below_drewN (Below.refl _ _) d)
theorem NxR.below (h : NxR w W S f s p g t R) (hb : Below W.heap.size W W') : NxR w W' S f s p g t R := ⟨h.inn.below hb, h.rd.below hb, h.low⟩
theorem NxR.step (h : NxR w W S f s p g t R) (hn : RNext W W' S g t R') : NxR w W' S f s p g t R' := by
  refine ⟨⟨h.inn.blk.fr hn.fr fun hm => ?_, hn.later h.low h.inn.bel.size h.inn.bel⟩, hn.obj, h.low⟩
  rw [List.mem_singleton] at hm
  obtain ⟨e, h1, _⟩ := h.rd.blk
  exact h.inn.blk.other h1 (by decide) hm
set_option maxHeartbeats 8000000 in
theorem next_any (hE : Env w S) (h : Blk w f 65 #[.string s, .int .i64 p]) (hp : p ≤ s.size) (hs : s.size ≤ 9000) :
    Calls Tryd.prog 32 #[.pointer (some ⟨f, 0, none⟩)] w (NxSays w f s p (nxW (s.extract p s.size))) := by
  obtain ⟨t, ht⟩ : ∃ t, t = s.extract p s.size := ⟨_, rfl⟩
  have htz : t.size ≤ 9000 := by rw [ht, ext_size hp]; omega
  obtain ⟨r, hr⟩ : ∃ r, r = nxW (s.extract p s.size) := ⟨_, rfl⟩
  rw [← hr]
  rw [← ht] at hr
  have hsm := fun b (hb : nxW t = some b) => nxW_some hb
  unfold nxW nxB nxS nxN at hr hsm
  obtain ⟨⟨n, R1⟩, h1⟩ : ∃ V, V = rNum t 4 r00 := ⟨_, rfl⟩
  rw [← h1] at hr hsm
  simp only at hr hsm
  obtain ⟨⟨c, R2⟩, h2⟩ : ∃ V, V = rNum t 4 R1 := ⟨_, rfl⟩
  rw [← h2] at hr hsm
  simp only at hr hsm
  obtain ⟨⟨b, R3⟩, h3⟩ : ∃ V, V = rTake t n R2 := ⟨_, rfl⟩
  rw [← h3] at hr hsm
  simp only at hr hsm
  have hi0 : NxIn w w f s p := ⟨h, Below.refl _ _⟩
  have KS := Lib.hid (fun (W1 : World) (h : NxIn w W1 f s p) => show W1.cell? ⟨f, 0, none⟩ = some (.string s) ∧ W1.cell? ⟨f, 1, none⟩ = some (.int .i64 p) from ⟨h.blk.cell 0, h.blk.cell 1⟩)
  have HNW := Lib.hid (fun (W1 : World) (h : NxIn w W1 f s p) => (rnew_any (s.extract p s.size) W1).mono fun x w' hx => show ∃ g, x = Ending.returned (.pointer (some ⟨g, 0, none⟩)) ∧ NxR w w' S f s p g t r00 from by
    obtain ⟨rfl, rfl⟩ := hx
    rw [← ht]
    exact ⟨_, rfl, h.below ((Below.refl _ _).alloc (Nat.le_refl _) _), RObj.made W1 S t, h.bel.size⟩)
  have HSZ := Lib.hid hs
  have HPS := Lib.hid hp
  have HR := Lib.hid hr
  have HSM := Lib.hid hsm
  have H1 := Lib.hid h1
  have H2 := Lib.hid h2
  have H3 := Lib.hid h3
  have HE := Lib.hid hE
  have HTZ := Lib.hid htz
  have HT := Lib.hid ht
  have hpn : (p : Int) ≤ (s.size : Int) := by omega
  clear hr hsm h1 h2 h3 hE htz ht h hs
  obtain ⟨t0, t1⟩ := KS.out _ hi0
  go_enter Tryd.func32, Tryd.ntmps32
  go_wp2_with fail
  go_region_held3 (fun W => W.cell? ⟨f, 0, none⟩ = some (.string s) ∧ W.cell? ⟨f, 1, none⟩ = some (.int .i64 p))
    (first | assumption | (exact KS.out _ (by assumption)) | (exact KS.out _ (NxIn.drewN (by assumption) 1)) | (exact KS.out _ (NxR.inn (by assumption))))
    ((go_at_call 50; (with_reducible refine (HNW.out _ ?_).mono ?_); (first | assumption | exact NxIn.drewN (by assumption) 1); rintro x w6 ⟨g, rfl, hi6⟩))
  have HI6 := Lib.hid hi6
  have hu := ru32_any (HE.out.later hi6.inn.bel) hi6.rd (by have := HTZ.out; omega)
  rw [← H1.out] at hu
  have HU := Lib.hid hu
  clear t0 t1 hi6 hu HNW
  go_wp2_with fail
  refine HU.out.mono ?_
  rintro x w7 ⟨rfl, hn7⟩
  have HI7 := Lib.hid (HI6.out.step hn7)
  have hu := ru32_any (HE.out.later HI7.out.inn.bel) HI7.out.rd (by have := HTZ.out; omega)
  rw [← H2.out] at hu
  have HU2 := Lib.hid hu
  clear hn7 hu HU HI6
  go_wp2_with fail
  refine HU2.out.mono ?_
  rintro x w8 ⟨rfl, hn8⟩
  have HI8 := Lib.hid (HI7.out.step hn8)
  clear hn8 HU2 HI7
  have hr := HR.out
  by_cases hbig : 65536 < n
  · rw [if_pos hbig] at hr
    have hbi : (65536 : Int) < (n : Int) := by omega
    have HX := Lib.hid (show NxSays w f s p r (.returned (.tuple #[.string ⟨#[]⟩, .bool false])) w8 from by
      rw [hr]
      exact ⟨rfl, Fr.of_below HI8.out.inn.bel, HI8.out.inn.blk⟩)
    clear hr HR hbig
    go_wp2_with fail
    exact bodyPost_ret (v := .tuple #[.string ⟨#[]⟩, .bool false]) (by simp [results, Tryd.results32, go_sem]) rfl HX.out
  · rw [if_neg hbig] at hr
    have hbi : ¬ (65536 : Int) < (n : Int) := by omega
    have HR2 := Lib.hid hr
    have hu := rraw04_any (HE.out.later HI8.out.inn.bel) HI8.out.rd (by have := HTZ.out; omega) n
    have hbz := take_small t n R2
    rw [← H3.out] at hu hbz
    have HU := Lib.hid hu
    have HBZ := Lib.hid hbz
    clear hr HR hu hbz hbig
    go_wp2_with fail
    refine HU.out.mono ?_
    rintro x w9 ⟨rfl, hn9⟩
    have HI9 := Lib.hid (HI8.out.step hn9)
    have HRE := Lib.hid (rerr_any HI9.out.rd)
    clear hn9 HU HI8
    go_wp2_with fail
    refine HRE.out.mono ?_
    rintro x w10 ⟨e, rfl, he, rfl⟩
    have hr := HR2.out
    by_cases h0 : R3.no = 0
    · unfold ErrOf at he
      rw [if_pos h0] at he
      subst he
      have HSO := Lib.hid (sumof_any (HE.out.later HI9.out.inn.bel) b (by have := HBZ.out; have := HTZ.out; omega))
      clear HRE hr
      go_wp2_with fail
      refine HSO.out.mono ?_
      rintro x w11 ⟨rfl, hb11⟩
      have HI11 := Lib.hid (HI9.out.below hb11)
      have hr := HR2.out
      clear hb11 HSO HI9
      by_cases hc : c = crcW b
      · rw [if_pos ⟨h0, hc⟩] at hr
        have hsm := HSM.out b (by rw [if_neg (by omega), if_pos ⟨h0, hc⟩])
        obtain ⟨k1, _, k3, _, _⟩ := hsm
        obtain ⟨m, hm⟩ : ∃ m, m = 8 + b.size := ⟨_, rfl⟩
        rw [← hm] at k1 k3
        have hi := HI11.out
        rw [k3] at hi
        have HI := Lib.hid hi
        have hpm : p + m ≤ 9223372036854775807 := by have := HTZ.out; have := HSZ.out; omega
        have q1 : IntKind.i64.wrap ((p : Int) + (m : Int)) = (p : Int) + (m : Int) := IntWalk.i64_in _ (by omega)
        have t1 : w11.cell? ⟨f, 1, none⟩ = some (.int .i64 p) := hi.inn.blk.cell 1
        have f1 : w11.frozen? ⟨f, 1, none⟩ = false := hi.inn.blk.frozen 1
        have HX := Lib.hid (show NxSays w f s p r (.returned (.tuple #[.string b, .bool true])) (w11.drew.setCell ⟨f, 1, none⟩ (.int .i64 ((p : Int) + (m : Int)))) from by
          rw [hr]
          refine ⟨rfl, (Fr.of_below (X := [f]) (below_drewN hi.inn.bel 1)).setCell (p := ⟨f, 1, none⟩) (.inl (List.mem_singleton_self f)) _, ?_⟩
          have hb := (hi.inn.blk.below (below_drewN (Below.refl _ _) 1) hi.inn.blk.lt).store 1 (.int .i64 ((p : Int) + (m : Int)))
          have e : ((p + (8 + b.size) : Nat) : Int) = (p : Int) + (m : Int) := by rw [← hm]; exact Int.natCast_add p m
          show Blk _ f 65 #[.string s, .int .i64 ((p + (8 + b.size) : Nat) : Int)]
          rw [e]
          exact hb)
        have hcc : (c : Int) = ((crcW b : Nat) : Int) := by rw [hc]
        have HAT := Lib.hid (rat_any (HI.out.rd.below (below_drewN (Below.refl _ _) 1)))
        rw [← hc]
        clear hr hi k1 k3 hm hc hcc HI11 HR2 HSM
        go_wp2_with fail
        go_still_tail 9, (by kernel_rfl)
        still_call (HAT.out.mono (fun x w' hx => ⟨hx.1, hx.2.symm⟩))
        repeat still_step
        refine wpStill_nil ?_
        change wpList _ _ _ _ _ w11.drew
        go_wp2_with fail
        exact bodyPost_ret (v := .tuple #[.string b, .bool true]) (by simp [results, Tryd.results32, go_sem]) rfl HX.out
      · rw [if_neg (fun h => hc h.2)] at hr
        have hci : ¬ (c : Int) = ((crcW b : Nat) : Int) := by omega
        have HX := Lib.hid (show NxSays w f s p r (.returned (.tuple #[.string ⟨#[]⟩, .bool false])) w11 from by
          rw [hr]
          exact ⟨rfl, Fr.of_below HI11.out.inn.bel, HI11.out.inn.blk⟩)
        generalize crcW b = cw at *
        clear hr HR2 hc
        go_wp2_with fail
        exact bodyPost_ret (v := .tuple #[.string ⟨#[]⟩, .bool false]) (by simp [results, Tryd.results32, go_sem]) rfl HX.out
    · obtain ⟨te, ue, rfl⟩ := err_iface he h0
      rw [if_neg (fun h => h0 h.1)] at hr
      have HX := Lib.hid (show NxSays w f s p r (.returned (.tuple #[.string ⟨#[]⟩, .bool false])) w9 from by
        rw [hr]
        exact ⟨rfl, Fr.of_below HI9.out.inn.bel, HI9.out.inn.blk⟩)
      clear hr HR2 he HRE
      go_wp2_with fail
      exact bodyPost_ret (v := .tuple #[.string ⟨#[]⟩, .bool false]) (by simp [results, Tryd.results32, go_sem]) rfl HX.out
end
end Go.Proofs.YthplhdepllloaaaDoor
namespace Go.Proofs.YthplhdepllloaaaDoor
set_option maxRecDepth 100000
open Go.RowKit Go.Extern.Stop Go.Stop Go.Extern
theorem scR_len8 {s : ByteArray} : ∀ {L : List ByteArray} {p n : Nat}, ScR s L p n → p ≤ s.size → 8 * L.length ≤ n - p ∧ p ≤ n ∧ n ≤ s.size := by
  intro L
  induction L with
  | nil => rintro p n ⟨rfl, _⟩ hp; exact ⟨by simp, Nat.le_refl _, hp⟩
  | cons b L ih =>
    rintro p n ⟨h1, h2⟩ hp
    have h3 := (nxW_some h1).1
    rw [ext_size hp] at h3
    obtain ⟨k1, k2, k3⟩ := ih h2 (by omega)
    exact ⟨by rw [List.length_cons]; omega, by omega, k3⟩
structure RowGo22 (w w' : World) (B : Nat) (v v' : Value) (L : List ByteArray) : Prop where
  row : Row w' B v' L
  grown : w.grownBy w' v.ownBlock
section
variable {w w' : World} {B : Nat} {v : Value} {L : List ByteArray}
theorem Row.lt22 (h : Row w B v L) (k : Nat) (hk : v.ownBlock = some k) : B ≤ k ∧ k < w.heap.size ∧ ∃ cs, w.heap[k]? = some (.cells cs 9 (0, 0)) := by
  rcases h.2 with ⟨rfl, _⟩ | ⟨gr, cap, cur, rfl, hB, hh, _⟩
  · cases hk
  · injection hk with hk
    subst hk
    exact ⟨hB, lt_of_block hh, cur, hh⟩
theorem Row.some_form22 (h : Row w B v L) : ∃ a n c, v = .slice a n c ∧ n = L.length := by
  obtain ⟨a, c, rfl⟩ := h.form
  exact ⟨a, _, c, rfl, rfl⟩
/-- append of one text to a row of one's own. -/
theorem append_one22 {ops : Array Oper} {rest : List Oper} {o : Oper} {a : Act} {Q : Exit → Act → World → Prop} (b : ByteArray) (hgd : o.guard = none) (s x : Operand) (ho : o.op = .call { callee := .builtin .append, args := #[s, x], argTypes := #[23, 23] })
    (ht : Row w B v L) (hB : B ≤ w.heap.size) (hs : a.eval s = v) (g c : Nat) (hx : a.eval x = .slice (some ⟨g, 0, none⟩) 1 c) (hc : w.cell? ⟨g, 0, none⟩ = some (.string b)) (hsm : L.length ≤ 1000)
    (h : ∀ v' w', RowGo22 w w' B v v' (L ++ [b]) → wpList Tryd.prog ops Q rest (a.put o.dst v') w') : wpList Tryd.prog ops Q (o :: rest) a w := by
  obtain ⟨i0, hi0, hz0, hz1, hz2⟩ := info_parts Tryd.strInfo
  have hrd : SRd w (some ⟨g, 0, none⟩) [b] := fun _ => ⟨g, 0, rfl, fun k hk => by
    have : k = 0 := by simpa using hk
    subst this
    exact hc⟩
  refine wpList_append_own w hgd s x 23 ho B 9 i0 (.string ⟨#[]⟩) 1 16 Tryd.underlying23 hi0 hz0 hz1 hz2 rfl (by decide) v L.length (L.map Value.string) hs ht ⟨g, 0, none⟩ [b].length c ([b].map Value.string) hx (by rw [List.length_map, Nat.mul_one]) (srd_news hrd) (one_cells [b]) (by unfold maxLen; simp; omega) (by simp; omega) hB ?_
  intro v' w' ho' hg _
  refine h v' w' ⟨?_, hg⟩
  unfold Row
  rw [List.length_append, List.map_append]
  exact ho'
end
/-- What Scan's loop holds. -/
structure ScIn (w W : World) (f : Nat) (s : ByteArray) (p : Nat) (v : Value) (P : List ByteArray) : Prop where
  blk : Blk W f 65 #[.string s, .int .i64 p]
  row : Row W w.heap.size v P
  bel : Below w.heap.size w W
  low : w.heap.size ≤ f
section
variable {w W W' : World} {S : Nat → Addr} {f p p' : Nat} {s : ByteArray} {v v' : Value} {P P' : List ByteArray}
theorem ScIn.ne (h : ScIn w W f s p v P) : ∀ k, v.ownBlock = some k → k ≠ f := fun k hk he => by
  obtain ⟨_, _, cs, hh⟩ := h.row.lt22 k hk
  exact h.blk.other hh (by decide) he.symm
theorem ScIn.step (h : ScIn w W f s p v P) (hf : Fr [f] W W') (hb : Blk W' f 65 #[.string s, .int .i64 p']) : ScIn w W' f s p' v P :=
  ⟨hb, h.row.fr hf fun k hk hm => by
    rw [List.mem_singleton] at hm
    exact h.ne k hk hm, hf.later h.bel (fun b hx => by rw [List.mem_singleton] at hx; have := h.low; omega) h.bel.size, h.low⟩
theorem ScIn.below (h : ScIn w W f s p v P) (hb : Below W.heap.size W W') : ScIn w W' f s p v P := ⟨h.blk.below hb h.blk.lt, h.row.below hb, h.bel.trans (hb.mono h.bel.size), h.low⟩
theorem ScIn.grown (h : ScIn w W f s p v P) (hr : Row W' w.heap.size v' P') (hg : W.grownBy W' v.ownBlock) : ScIn w W' f s p v' P' :=
  ⟨h.blk.grown hg fun e => h.ne f e.symm rfl, hr, ⟨hg.os.trans h.bel.os, hg.tape.trans h.bel.tape, hg.output.trans h.bel.output, Nat.le_trans h.bel.size hg.size, fun k hk => (hg.block k (Nat.lt_of_lt_of_le hk h.bel.size) fun e => by
    have := (h.row.lt22 k e.symm).1
    omega).trans (h.bel.block k hk)⟩, h.low⟩
set_option maxHeartbeats 8000000 in
theorem scan_any (hE : Env w S) (hs : s.size ≤ 7900) {L : List ByteArray} {n : Nat} (hL : ScR s L 0 n) :
    Calls Tryd.prog 9 #[.string s] w fun x w' => ∃ a c, x = .returned (.tuple #[.slice a L.length c, .int .i64 n]) ∧ Row w' w.heap.size (.slice a L.length c) L ∧ Below w.heap.size w w' := by
  obtain ⟨Q, hQ⟩ : ∃ Q : Ending → World → Prop, Q = fun x w' => ∃ a c, x = .returned (.tuple #[.slice a L.length c, .int .i64 n]) ∧ Row w' w.heap.size (.slice a L.length c) L ∧ Below w.heap.size w w' := ⟨_, rfl⟩
  rw [← hQ]
  have hlen := scR_len8 hL (Nat.zero_le _)
  obtain ⟨W1, hW1⟩ : ∃ W, W = w.alloc (.cells #[.string s, .int .i64 0] 65) := ⟨_, rfl⟩
  have hb1 : Below w.heap.size w W1 := by rw [hW1]; exact (Below.refl _ _).alloc (Nat.le_refl _) _
  have HI0 := Lib.hid (show ScIn w W1 w.heap.size s 0 (.slice none 0 0) [] from ⟨by rw [hW1]; exact Blk.made w _ _, Row.nil _ _, hb1, Nat.le_refl _⟩)
  obtain ⟨f, hf⟩ : ∃ f, f = w.heap.size := ⟨_, rfl⟩
  have HE := Lib.hid hE
  have HS := Lib.hid hs
  have HL := Lib.hid hL
  have HQ := Lib.hid hQ
  have HLN := Lib.hid hlen
  have HW1 := Lib.hid hW1
  rw [← hf] at HI0
  have HF := Lib.hid hf
  clear hE hs hL hQ hlen hW1 hb1 hf
  go_enter Tryd.func9, Tryd.ntmps9
  go_wp2_with fail
  rw [← HW1.out, ← HF.out]
  go_loopg [5] L.length (fun gn u wr => ∃ (p : Nat) (P K : List ByteArray), gn = K.length ∧ p ≤ s.size ∧ Hid (ScIn w wr f s p u P ∧ ScR s K p n ∧ L = P ++ K))
  case atStart => exact ⟨0, [], L, rfl, Nat.zero_le _, Lib.hid ⟨HI0.out, HL.out, rfl⟩⟩
  case round =>
    obtain ⟨p, P, K, rfl, hp, HR⟩ := hrel
    obtain ⟨hi, hk, hl⟩ := HR.out
    obtain ⟨av, nv, cv, rfl, hnv⟩ := hi.row.some_form22
    have HI := Lib.hid hi
    have HNV := Lib.hid hnv
    have HX := Lib.hid (next_any (HE.out.later hi.bel) hi.blk hp (by have := HS.out; omega))
    clear hi hnv HI0 HW1
    cases K with
    | nil =>
      obtain ⟨k1, k2⟩ := hk
      have HK := Lib.hid (show p = n ∧ nxW (s.extract p s.size) = none from ⟨k1, k2⟩)
      have HPL := Lib.hid (show L = P by rw [hl, List.append_nil])
      clear k1 k2 hl HR
      go_wp2_with fail
      refine HX.out.mono ?_
      rintro x w1 hx
      rw [HK.out.2] at hx
      obtain ⟨rfl, hf1, hb1⟩ := hx
      have hi1 := HI.out.step hf1 hb1
      have c1 : w1.cell? ⟨f, 1, none⟩ = some (.int .i64 p) := hi1.blk.cell 1
      have HI1 := Lib.hid hi1
      clear hf1 hb1 hi1 HX HI
      go_wp2_with fail
      go_quiet (fail)
      go_wp2_with fail
      have hi2 := HI1.out.below (below_drewN (Below.refl _ _) nq)
      have HX := Lib.hid (show Q (.returned (.tuple #[.slice av nv cv, .int .i64 p])) (w1.drewN nq) from by
        rw [HQ.out, HPL.out]
        refine ⟨av, cv, by rw [← HNV.out, HK.out.1], ?_, hi2.bel⟩
        rw [← HNV.out]
        exact hi2.row)
      clear hi2
      exact HX.out
    | cons b K =>
      obtain ⟨k1, k2⟩ := hk
      have hlt := (nxW_some k1).1
      rw [ext_size hp] at hlt
      have HK := Lib.hid (show nxW (s.extract p s.size) = some b ∧ ScR s K (p + (8 + b.size)) n from ⟨k1, k2⟩)
      have HP2 := Lib.hid (show p + (8 + b.size) ≤ s.size by omega)
      have HPL := Lib.hid (show L = (P ++ [b]) ++ K by rw [hl]; simp)
      have hsm : P.length ≤ 1000 := by
        have h1 := HLN.out
        have h2 := HS.out
        have h3 : L.length = P.length + (K.length + 1) := by rw [hl]; simp
        omega
      have HSM := Lib.hid hsm
      clear k1 k2 hl HR hlt hsm
      go_wp2_with fail
      refine HX.out.mono ?_
      rintro x w1 hx
      rw [HK.out.1] at hx
      obtain ⟨rfl, hf1, hb1⟩ := hx
      have hi1 := HI.out.step hf1 hb1
      have hb2 : Below w1.heap.size w1 (w1.alloc (.cells #[.string b] 9)) := (Below.refl _ _).alloc (Nat.le_refl _) _
      have HI2 := Lib.hid (hi1.below hb2)
      have c0 : (w1.alloc (.cells #[.string b] 9)).cell? ⟨w1.heap.size, 0, none⟩ = some (.string b) := (Blk.made w1 9 #[.string b]).cell 0
      have HC0 := Lib.hid c0
      clear hf1 hb1 hi1 hb2 HX HI c0
      go_wp2_with (at_builtin; go_must (refine append_one22 b rfl _ _ rfl HI2.out.row HI2.out.bel.size rfl w1.heap.size 1 rfl HC0.out HSM.out ?_))
      intro v5 w5 hn5
      have HI5 := Lib.hid (HI2.out.grown hn5.row hn5.grown)
      clear hn5 HC0 HI2
      go_wp2_with fail
      go_roundg K.length
      case rel => exact ⟨p + (8 + b.size), P ++ [b], K, rfl, HP2.out, Lib.hid ⟨HI5.out, HK.out.2, HPL.out⟩⟩
      case measure => simp
end
end Go.Proofs.YthplhdepllloaaaDoor

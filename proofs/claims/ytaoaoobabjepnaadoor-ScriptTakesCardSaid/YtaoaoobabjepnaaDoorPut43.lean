/- What is proved here: what package script takes of bytes. Conditions: those that each theorem names. -/
import Derived.Test.YtaoaoobabjepnaaDoorCfg43
import Derived.Test.YtaoaoobabjepnaaDoorWlw04
import Derived.Test.YtaoaoobabjepnaaDoorOwg43
import Derived.Test.YtaoaoobabjepnaaDoorRaw04
import Derived.Test.YtaoaoobabjepnaaDoorRtx04
import Derived.Deep.QuietTactic
import Derived.BigQuiet
import Derived.Deep.DeepMust
import Derived.Deep.DeepCutAuto
namespace Go.Proofs.YtaoaoobabjepnaaDoor
set_option maxRecDepth 100000
open Go.ChangeShapes Go.WideShapes Go.RowKit Go.Deep Go.Extern.Stop Go.Stop Go.Extern
theorem stepW_len (W e : EV) : (stepW W e).L.length ≤ W.L.length + e.L.length := by
  unfold stepW
  split
  · split
    · simp only [List.length_append]; omega
    · simp
  · omega
theorem wB_len (C : Nat → Int) : ∀ i, (wB C i).L.length ≤ 5 + 4 * i
  | 0 => by
    have := stepW_len w0 ⟨0, 0, crier.data.toList⟩
    exact this
  | i + 1 => by
    have h1 := stepW_len (wB C i) (numE 4 (C i))
    have h2 := wB_len C i
    have h3 := numE_len 4 (C i)
    have e : wB C (i + 1) = stepW (wB C i) (numE 4 (C i)) := rfl
    rw [e]
    omega
theorem take_fold43 (W : EV) (L : List ET) (k : Nat) (hk : k < L.length) : (L.take (k + 1)).foldl wE W = wE ((L.take k).foldl wE W) (L.getD k et0) := by
  rw [List.take_succ_eq_append_getElem hk, List.foldl_append, List.foldl_cons, List.foldl_nil, List.getD_eq_getElem?_getD, List.getElem?_eq_getElem hk]
  rfl
theorem bk_at : ∀ (L : List ET) (j i : Nat), (∀ k, k < i → kOk (L.getD k et0).k) → i < L.length → ¬ kOk (L.getD i et0).k → bkF L j = (7, 128, j + i)
  | [], _, _, _, h, _ => by cases h
  | x :: L, j, 0, _, _, h => by
    unfold bkF
    rw [if_neg (show ¬ kOk x.k from h), Nat.add_zero]
  | x :: L, j, i + 1, hk, hi, h => by
    unfold bkF
    have h0 := hk 0 (by omega)
    rw [if_pos (show kOk x.k from h0), bk_at L (j + 1) i (fun k hki => hk (k + 1) (by omega)) (by simpa using hi) h, Nat.add_assoc, Nat.add_comm 1]
theorem bk_ok (L : List ET) (h : ∀ k, k < L.length → kOk (L.getD k et0).k) : (bkF L 0).1 = 0 := (bk_zero L 0).2 fun x hx => by
  obtain ⟨k, hk, rfl⟩ := List.mem_iff_getElem.1 hx
  have := h k hk
  rwa [List.getD_eq_getElem?_getD, List.getElem?_eq_getElem hk] at this
theorem kok_step {L : List ET} {i : Nat} (h : ∀ k, k < i → kOk (L.getD k et0).k) (h0 : kOk (L.getD i et0).k) : ∀ k, k < i + 1 → kOk (L.getD k et0).k := fun k hk => by
  by_cases e : k = i
  · subst e
    exact h0
  · exact h k (by omega)
theorem blk_wn {w w' : World} {S : Nat → Addr} {B g k : Nat} {v : Value} {V : EV} {t : TypeId} {c : Array Value} (hb : Blk w k t c) (ho : WObj w S B g v V) (hf : Fr (g :: v.ownBlock.toList) w w') (h1 : t ≠ 67) (h2 : t ≠ 5) : Blk w' k t c := hb.fr hf fun hm => by
  rcases List.mem_cons.1 hm with e | hm
  · obtain ⟨_, hb2, _⟩ := ho.blk
    exact hb.other hb2 h1 e
  · obtain ⟨_, _, cs, hh⟩ := ho.row.lt _ (own_list.1 hm)
    exact hb.other hh h2 rfl
theorem idx43 (C : Nat → Int) (i : Nat) (h : i < 13) (w : World) : (Instr.index 70 (.agg (cfgC C)) (.int .i64 (i : Int))).run Tryd.prog w = .ok (.int .i64 (C i)) w := by
  have x0 : ∀ w : World, (Instr.index 70 (.agg (cfgC C)) (.int .i64 ((0 : Nat) : Int))).run Tryd.prog w = .ok (.int .i64 (C 0)) w := fun _ => by kernel_rfl
  have x1 : ∀ w : World, (Instr.index 70 (.agg (cfgC C)) (.int .i64 ((1 : Nat) : Int))).run Tryd.prog w = .ok (.int .i64 (C 1)) w := fun _ => by kernel_rfl
  have x2 : ∀ w : World, (Instr.index 70 (.agg (cfgC C)) (.int .i64 ((2 : Nat) : Int))).run Tryd.prog w = .ok (.int .i64 (C 2)) w := fun _ => by kernel_rfl
  have x3 : ∀ w : World, (Instr.index 70 (.agg (cfgC C)) (.int .i64 ((3 : Nat) : Int))).run Tryd.prog w = .ok (.int .i64 (C 3)) w := fun _ => by kernel_rfl
  have x4 : ∀ w : World, (Instr.index 70 (.agg (cfgC C)) (.int .i64 ((4 : Nat) : Int))).run Tryd.prog w = .ok (.int .i64 (C 4)) w := fun _ => by kernel_rfl
  have x5 : ∀ w : World, (Instr.index 70 (.agg (cfgC C)) (.int .i64 ((5 : Nat) : Int))).run Tryd.prog w = .ok (.int .i64 (C 5)) w := fun _ => by kernel_rfl
  have x6 : ∀ w : World, (Instr.index 70 (.agg (cfgC C)) (.int .i64 ((6 : Nat) : Int))).run Tryd.prog w = .ok (.int .i64 (C 6)) w := fun _ => by kernel_rfl
  have x7 : ∀ w : World, (Instr.index 70 (.agg (cfgC C)) (.int .i64 ((7 : Nat) : Int))).run Tryd.prog w = .ok (.int .i64 (C 7)) w := fun _ => by kernel_rfl
  have x8 : ∀ w : World, (Instr.index 70 (.agg (cfgC C)) (.int .i64 ((8 : Nat) : Int))).run Tryd.prog w = .ok (.int .i64 (C 8)) w := fun _ => by kernel_rfl
  have x9 : ∀ w : World, (Instr.index 70 (.agg (cfgC C)) (.int .i64 ((9 : Nat) : Int))).run Tryd.prog w = .ok (.int .i64 (C 9)) w := fun _ => by kernel_rfl
  have x10 : ∀ w : World, (Instr.index 70 (.agg (cfgC C)) (.int .i64 ((10 : Nat) : Int))).run Tryd.prog w = .ok (.int .i64 (C 10)) w := fun _ => by kernel_rfl
  have x11 : ∀ w : World, (Instr.index 70 (.agg (cfgC C)) (.int .i64 ((11 : Nat) : Int))).run Tryd.prog w = .ok (.int .i64 (C 11)) w := fun _ => by kernel_rfl
  have x12 : ∀ w : World, (Instr.index 70 (.agg (cfgC C)) (.int .i64 ((12 : Nat) : Int))).run Tryd.prog w = .ok (.int .i64 (C 12)) w := fun _ => by kernel_rfl
  have hi : i = 0 ∨ i = 1 ∨ i = 2 ∨ i = 3 ∨ i = 4 ∨ i = 5 ∨ i = 6 ∨ i = 7 ∨ i = 8 ∨ i = 9 ∨ i = 10 ∨ i = 11 ∨ i = 12 := by omega
  rcases hi with rfl | rfl | rfl | rfl | rfl | rfl | rfl | rfl | rfl | rfl | rfl | rfl | rfl
  · exact x0 w
  · exact x1 w
  · exact x2 w
  · exact x3 w
  · exact x4 w
  · exact x5 w
  · exact x6 w
  · exact x7 w
  · exact x8 w
  · exact x9 w
  · exact x10 w
  · exact x11 w
  · exact x12 w
/-- What Put says. -/
def PtSays (w : World) (S : Nat → Addr) (q : ER × List UInt8) (x : Ending) (w' : World) : Prop := ∃ e, x = .returned (.tuple #[.string ⟨q.2.toArray⟩, e]) ∧ ErrT w' S q.1 e ∧ Below w.heap.size w w'
/-- What Put holds. -/
structure PtI (w W : World) (S : Nat → Addr) (g : Nat) (v : Value) (V : EV) : Prop where
  wo : WObj W S w.heap.size g v V
  bel : Below w.heap.size w W
theorem PtI.step {w W W' : World} {S : Nat → Addr} {g : Nat} {v v' : Value} {V V' : EV} (h : PtI w W S g v V) (hn : WNext W W' S w.heap.size g v v' V') : PtI w W' S g v' V' := ⟨hn.obj, hn.later h.wo h.bel⟩
theorem PtI.below {w W W' : World} {S : Nat → Addr} {g : Nat} {v : Value} {V : EV} (h : PtI w W S g v V) (hb : Below W.heap.size W W') : PtI w W' S g v V := ⟨h.wo.below hb, h.bel.trans (hb.mono h.bel.size)⟩
section
variable {w w' : World} {S : Nat → Addr} {C : Nat → Int} {L : List ET} {A : Option Addr}
set_option maxHeartbeats 32000000 in
theorem put_any (hE : Env w S) (c : Nat) (hr : ERd w A L) (hL : L.length ≤ 9000000) (hb : ∀ k, k < L.length → (L.getD k et0).b.size ≤ 65535) (hln : ∀ i, ((L.take i).foldl wE (wH C L.length)).L.length ≤ 100000) : Calls Tryd.prog 11 #[.agg (cfgC C), .slice A L.length c] w (PtSays w S (ptS C L)) := by
  obtain ⟨q, hq⟩ : ∃ q, q = ptS C L := ⟨_, rfl⟩
  rw [← hq]
  unfold ptS at hq
  have HE := Lib.hid hE
  have HR := Lib.hid hr
  have HB65 := Lib.hid hb
  have HLN := Lib.hid hln
  have HQ := Lib.hid hq
  have HO := Lib.hid (Own.start [] w)
  have HCK := Lib.hid (fun W (h : Env W S) => tcheck_any h C)
  have HSO := Lib.hid (fun W => sof_any C W)
  have HAT := Lib.hid (fun i h W => idx43 C i h W)
  have HCZ := Lib.hid (show (cfgC C).size = 13 from rfl)
  generalize cfgC C = cc at *
  clear hE hr hb hln hq
  obtain ⟨n, hn⟩ : ∃ n, n = L.length := ⟨_, rfl⟩
  rw [← hn] at hL ⊢
  have HN := Lib.hid hn
  clear hn
  go_enter Tryd.func11, Tryd.ntmps11
  go_wp2_with (first | (refine wpo_box (t := 24) HO.out _ rfl rfl rfl ?_; clear HO; rintro k2 W1 hO; have HO := Lib.hid hO; clear hO; simp only [Act.put, List.setIfInBounds_toArray, List.set_cons_zero, List.set_cons_succ]) | (refine wpo_load HO.out 0 tyC rfl HCZ.out _ rfl rfl rfl ?_))
  refine (HCK.out _ (HE.out.later HO.out.bel)).mono ?_
  rintro x V1 ⟨e, rfl, he, hb⟩
  have HB := Lib.hid (HO.out.below hb)
  clear HO hb HCK
  have HO := HB
  clear HB
  by_cases h0 : (chkV C).1 = 0
  case neg =>
    have hq := HQ.out
    rw [if_neg h0] at hq
    have HQ2 := Lib.hid hq
    obtain ⟨te, ue, rfl⟩ := he.isErr h0
    have HX := Lib.hid he
    clear hq HQ he h0
    go_wp2_with fail
    go_ret2
    exact ⟨_, by rw [HQ2.out] <;> rfl, by rw [HQ2.out]; exact HX.out, HO.out.bel⟩
  case pos =>
    have hq := HQ.out
    rw [if_pos h0] at hq
    have HQ2 := Lib.hid hq
    have hen := he.isNil h0
    subst hen
    clear hq HQ he h0
    by_cases hm : 16384 < n
    case pos =>
      have hq := HQ2.out
      rw [← HN.out, if_pos hm] at hq
      have HQ3 := Lib.hid hq
      have hmi : (16384 : Int) < (n : Int) := by omega
      have kT := (HE.out.later HO.out.bel).kTooLarge
      clear hq HQ2 hm
      go_wp2_with fail
      refine (new_err (w := V1) S 3 149 0).mono ?_
      rintro x V3 ⟨e, rfl, he, hb⟩
      have HB := Lib.hid (HO.out.below hb)
      have HX := Lib.hid (show ErrT V3 S (4, 149, 0) e from ErrOf.some (no := 4) (by omega) (by omega) he)
      clear HO he hb kT
      have HO := HB
      clear HB
      go_wp2_with fail
      go_ret2
      exact ⟨_, by rw [HQ3.out] <;> rfl, by rw [HQ3.out]; exact HX.out, HO.out.bel⟩
    case neg =>
      have hq := HQ2.out
      rw [← HN.out, if_neg hm] at hq
      have HQ3 := Lib.hid hq
      have hmi : ¬ (16384 : Int) < (n : Int) := by omega
      clear hq HQ2 hm
      go_upto_region 7 with fail
      clear hmi
      obtain ⟨W2, hW2⟩ : ∃ W, W = V1.alloc (.cells #[.slice none 0 0, .nilIface] 67) := ⟨_, rfl⟩
      rw [← hW2]
      have hb2 : Below V1.heap.size V1 W2 := by rw [hW2]; exact (Below.refl _ _).alloc (Nat.le_refl _) _
      have hp2 : PtI w W2 S V1.heap.size (.slice none 0 0) w0 := ⟨by rw [hW2]; exact WObj.made V1 S HO.out.bel.size, (HO.out.bel).trans (hb2.mono HO.out.bel.size)⟩
      have HP := Lib.hid hp2
      have HK2 := Lib.hid ((HO.out.get 0 rfl).below hb2 (HO.out.get 0 rfl).lt)
      clear HO hW2 hb2 hp2
      generalize V1.heap.size = g at *
      have HU := Lib.hid (wraw_any HP.out.wo (by decide) crier (by decide))
      go_wp2_with fail
      refine HU.out.mono ?_
      rintro x W3 ⟨rfl, v3, hn3⟩
      have HK3 := Lib.hid (blk_wn HK2.out HP.out.wo hn3.fr (by decide) (by decide))
      have HB := Lib.hid (HP.out.step hn3)
      clear HP HU HK2 hn3
      have HP := HB
      clear HB
      have HO := Lib.hid ((Own.start [k2] W3).elder HK3.out (List.mem_singleton_self _) (fun _ h => by cases h))
      go_wp2_with (refine wpo_load HO.out 0 tyC rfl HCZ.out _ rfl rfl rfl ?_)
      refine (HSO.out _).mono ?_
      rintro x W4 ⟨rfl, hb⟩
      have HB := Lib.hid (HP.out.below hb)
      clear HP HSO hb HO HK3
      have HP := HB
      clear HB
      go_wp2_with fail
      go_loopg [25] 13 (fun f x wr => ∃ (i : Nat) (v : Value), f = 13 - i ∧ i ≤ 13 ∧ x = .int .i64 i ∧ Hid (PtI w wr S g v (wB C i)))
      case atStart => exact ⟨0, v3, rfl, Nat.zero_le _, rfl, Lib.hid HP.out⟩
      case round =>
        obtain ⟨i, v, rfl, hi, rfl, HJ⟩ := hrel
        clear HP
        have HP := HJ
        clear HJ
        by_cases hlt : i < 13
        case pos =>
          have ha := HAT.out i hlt wr
          have hln := wB_len C i
          have HU := Lib.hid (wu32_any (HE.out.later HP.out.bel) HP.out.wo (by omega) (C i))
          clear hln
          go_wp2_with fail
          refine HU.out.mono ?_
          rintro x W5 ⟨rfl, v5, hn5⟩
          have HB := Lib.hid (show PtI w W5 S g v5 (wB C (i + 1)) from HP.out.step hn5)
          clear HP HU hn5
          have HP := HB
          clear HB
          go_wp2_with fail
          go_roundg (13 - (i + 1))
          case rel => exact ⟨i + 1, v5, rfl, hlt, by go_num, Lib.hid HP.out⟩
          case measure => omega
        case neg =>
          obtain rfl : i = 13 := by omega
          have hln := wB_len C 13
          have HU := Lib.hid (wu16_any (HE.out.later HP.out.bel) HP.out.wo (by omega) (n : Int))
          clear hln
          go_wp2_with fail
          refine HU.out.mono ?_
          rintro x W5 ⟨rfl, v5, hn5⟩
          have HB := Lib.hid (show PtI w W5 S g v5 (((L.take 0).foldl wE (wH C L.length))) from by rw [← HN.out, List.take_zero, List.foldl_nil]; unfold wH; exact HP.out.step hn5)
          clear HP HU hn5
          have HP := HB
          clear HB
          go_wp2_with fail
          go_loopg [36] n (fun f x wr => ∃ (i : Nat) (v : Value), f = n - i ∧ i ≤ n ∧ x = .int .i64 i ∧ Hid (PtI w wr S g v ((L.take i).foldl wE (wH C L.length)) ∧ ∀ k, k < i → kOk (L.getD k et0).k))
          case atStart => exact ⟨0, v5, rfl, Nat.zero_le _, rfl, Lib.hid ⟨HP.out, fun k hk => absurd hk (Nat.not_lt_zero _)⟩⟩
          case round =>
            obtain ⟨i, v, rfl, hi, rfl, HJ⟩ := hrel
            clear HP
            have HP := Lib.hid HJ.out.1
            have HKS := Lib.hid HJ.out.2
            clear HJ
            by_cases hlt : i < n
            case pos =>
              have hlL : i < L.length := by rw [← HN.out]; exact hlt
              have HTF := Lib.hid (take_fold43 (wH C L.length) L i hlL)
              obtain ⟨gx, off, hA, hc⟩ := (HR.out.below HP.out.bel) (by omega)
              subst hA
              obtain ⟨c0, c1, c2, c3⟩ := hc i hlL
              have HLN0 := Lib.hid (HLN.out i)
              have HS65 := Lib.hid (HB65.out i hlL)
              have HXK := Lib.hid (show ∃ x, x = L.getD i et0 from ⟨_, rfl⟩)
              obtain ⟨x0, hx0⟩ := HXK.out
              rw [← hx0] at HTF c0 c1 c2 c3 HS65
              have HX0 := Lib.hid hx0
              clear hc HXK hx0
              obtain ⟨xk, xc, xn, xb⟩ := x0
              simp only at c0 c1 c2 c3
              have hoff : ((off + i * 4 : Nat) : Int) = (off : Int) + (i : Int) * 4 := by omega
              clear hoff
              go_upto_region 17 with fail
              obtain ⟨W6, hW6⟩ : ∃ W, W = wr.alloc (.cells #[.int .i64 xk, .int .i64 xc, .string xb, .int .i64 xn] 44) := ⟨_, rfl⟩
              rw [← hW6]
              have hb6 : Below wr.heap.size wr W6 := by rw [hW6]; exact (Below.refl _ _).alloc (Nat.le_refl _) _
              have hk6 : Blk W6 wr.heap.size 44 #[.int .i64 xk, .int .i64 xc, .string xb, .int .i64 xn] := by rw [hW6]; exact Blk.made _ _ _
              have HB := Lib.hid (HP.out.below hb6)
              have HK := Lib.hid hk6
              clear HP c0 c1 c2 c3 hW6 hb6 hk6
              have HP := HB
              clear HB
              generalize wr.heap.size = k11 at *
              have k0 : W6.cell? ⟨k11, 0, none⟩ = some (.int .i64 xk) := HK.out.cell 0
              have HSK := Lib.hid (sk_any xk W6)
              by_cases hk : kOk xk
              case neg =>
                have hbk := bk_at L 0 i HKS.out hlL (by rw [← HX0.out]; exact hk)
                have hq := HQ3.out
                rw [hbk, if_neg (show ¬ ((7 : Nat), (128 : Int), 0 + i).1 = 0 from by simp only; decide), Nat.zero_add] at hq
                have HQ4 := Lib.hid hq
                rw [decide_eq_false hk] at HSK
                clear hq hbk hk
                go_wp2_with fail
                refine HSK.out.mono ?_
                rintro x W7 ⟨rfl, rfl⟩
                clear HSK k0
                have kA := (HE.out.later HP.out.bel).kArgument
                go_wp2_with fail
                refine (new_err (w := W6) S 6 128 (i : Int)).mono ?_
                rintro x V3 ⟨e, rfl, he, hb⟩
                have HB := Lib.hid (HP.out.below hb)
                have HX := Lib.hid (show ErrT V3 S (7, 128, i) e from ErrOf.some (no := 7) (by omega) (by omega) he)
                clear HP he hb kA
                have HP := HB
                clear HB
                go_wp2_with fail
                go_ret2
                exact ⟨_, by rw [HQ4.out] <;> rfl, by rw [HQ4.out]; exact HX.out, HP.out.bel⟩
              case pos =>
                rw [decide_eq_true hk] at HSK
                have HKX := Lib.hid hk
                clear hk
                go_wp2_with fail
                refine HSK.out.mono ?_
                rintro x W7 ⟨rfl, rfl⟩
                clear HSK
                obtain ⟨V0, hV0⟩ : ∃ V, V = (L.take i).foldl wE (wH C L.length) := ⟨_, rfl⟩
                rw [← hV0] at HTF HP HLN0
                clear hV0
                have hz0 : V0.L.length ≤ 100000 := HLN0.out
                have hz1 : (stepW V0 (numE 1 xk)).L.length ≤ 100001 := by have h1 := stepW_len V0 (numE 1 xk); have h2 := numE_len 1 xk; omega
                have hz2 : (stepW (stepW V0 (numE 1 xk)) (numE 1 xc)).L.length ≤ 100002 := by have h1 := stepW_len (stepW V0 (numE 1 xk)) (numE 1 xc); have h2 := numE_len 1 xc; omega
                have hz3 : (stepW (stepW (stepW V0 (numE 1 xk)) (numE 1 xc)) (numE 4 xn)).L.length ≤ 100006 := by have h1 := stepW_len (stepW (stepW V0 (numE 1 xk)) (numE 1 xc)) (numE 4 xn); have h2 := numE_len 4 xn; omega
                have HZ0 := Lib.hid hz0
                have HZ1 := Lib.hid hz1
                have HZ2 := Lib.hid hz2
                have HZ3 := Lib.hid hz3
                clear hz0 hz1 hz2 hz3 k0
                have k0 : W6.cell? ⟨k11, 0, none⟩ = some (.int .i64 xk) := HK.out.cell 0
                have HU := Lib.hid (wu8_any (HE.out.later HP.out.bel) HP.out.wo (by have := HZ0.out; omega) xk)
                go_wp2_with fail
                refine HU.out.mono ?_
                rintro x Y1 ⟨rfl, u1, hn5⟩
                have HK2 := Lib.hid (blk_wn HK.out HP.out.wo hn5.fr (by decide) (by decide))
                have HB := Lib.hid (HP.out.step hn5)
                clear HP HU hn5 k0 HK
                have HP := HB
                have HK := HK2
                clear HB HK2
                have k0 : Y1.cell? ⟨k11, 1, none⟩ = some (.int .i64 xc) := HK.out.cell 1
                have HU := Lib.hid (wu8_any (HE.out.later HP.out.bel) HP.out.wo (by have := HZ1.out; omega) xc)
                go_wp2_with fail
                refine HU.out.mono ?_
                rintro x Y2 ⟨rfl, u2, hn5⟩
                have HK2 := Lib.hid (blk_wn HK.out HP.out.wo hn5.fr (by decide) (by decide))
                have HB := Lib.hid (HP.out.step hn5)
                clear HP HU hn5 k0 HK
                have HP := HB
                have HK := HK2
                clear HB HK2
                have k0 : Y2.cell? ⟨k11, 3, none⟩ = some (.int .i64 xn) := HK.out.cell 3
                have HU := Lib.hid (wu32_any (HE.out.later HP.out.bel) HP.out.wo (by have := HZ2.out; omega) xn)
                go_wp2_with fail
                refine HU.out.mono ?_
                rintro x Y3 ⟨rfl, u3, hn5⟩
                have HK2 := Lib.hid (blk_wn HK.out HP.out.wo hn5.fr (by decide) (by decide))
                have HB := Lib.hid (HP.out.step hn5)
                clear HP HU hn5 k0 HK
                have HP := HB
                have HK := HK2
                clear HB HK2
                have k0 : Y3.cell? ⟨k11, 2, none⟩ = some (.string xb) := HK.out.cell 2
                have HU := Lib.hid (wbin_any (HE.out.later HP.out.bel) HP.out.wo (by have := HZ3.out; omega) xb HS65.out)
                go_wp2_with fail
                refine HU.out.mono ?_
                rintro x Y4 ⟨rfl, u4, hn5⟩
                have HK2 := Lib.hid (blk_wn HK.out HP.out.wo hn5.fr (by decide) (by decide))
                have HB := Lib.hid (HP.out.step hn5)
                clear HP HU hn5 k0 HK
                have HP := HB
                have HK := HK2
                clear HB HK2
                go_wp2_with fail
                go_roundg (n - (i + 1))
                case rel => exact ⟨i + 1, u4, rfl, hlt, by go_num, Lib.hid ⟨by rw [HTF.out]; exact HP.out, kok_step HKS.out (by rw [← HX0.out]; exact HKX.out)⟩⟩
                case measure => omega
            case neg =>
              obtain rfl : i = n := by omega
              have hbk := bk_ok L (fun k hk => HKS.out k (by rw [HN.out]; exact hk))
              have hq := HQ3.out
              rw [if_pos hbk] at hq
              have hwl : (L.take i).foldl wE (wH C L.length) = wL C i L := by unfold wL; rw [HN.out, List.take_length]
              rw [hwl] at HP
              obtain ⟨V, hV⟩ : ∃ V, V = wL C i L := ⟨_, rfl⟩
              rw [← hV] at HP hq
              have HQ4 := Lib.hid hq
              have HU := Lib.hid (wbytes_any HP.out.wo)
              have HBAD := Lib.hid (fun h => (HP.out.wo.bad h).2)
              clear hbk hq hwl hV HKS HQ3
              go_wp2_with fail
              refine HU.out.mono ?_
              rintro x Y9 ⟨e, rfl, he, hb⟩
              have HX := Lib.hid (show ErrT Y9 S (V.no, 129, V.at_) e from he)
              have HBL := Lib.hid (HP.out.bel.trans (hb.mono HP.out.bel.size))
              clear he hb HP HU
              by_cases h0 : V.no = 0
              case pos =>
                have hq := HQ4.out
                rw [if_pos h0] at hq
                have HQ5 := Lib.hid hq
                have hen := HX.out.isNil h0
                subst hen
                clear hq HQ4 h0
                go_wp2_with fail
                go_ret2
                exact ⟨_, by rw [HQ5.out] <;> rfl, by rw [HQ5.out]; exact errT_nil _ _ _ rfl, HBL.out⟩
              case neg =>
                have hq := HQ4.out
                rw [if_neg h0] at hq
                have HQ5 := Lib.hid hq
                have hVL := HBAD.out h0
                rw [hVL]
                clear hq HQ4 h0 hVL
                go_wp2_with fail
                go_ret2
                exact ⟨_, by rw [HQ5.out] <;> rfl, by rw [HQ5.out]; exact HX.out, HBL.out⟩
end
end Go.Proofs.YtaoaoobabjepnaaDoor

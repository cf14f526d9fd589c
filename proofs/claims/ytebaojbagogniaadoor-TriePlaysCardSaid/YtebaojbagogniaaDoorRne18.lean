/- What is proved here: texts with slashes between them, as the document joins them. Condition: few bytes. What is proved here: how many nodes the document counts. Conditions: its trie stands; few entries with short filters. What is proved here: how many nodes the document counts: the walk. Conditions: its trie stands; few entries with short filters. -/
import Derived.Test.YtebaojbagogniaaDoorTake16
import Derived.Test.YtebaojbagogniaaDoorTwk18
import Derived.Test.YtebaojbagogniaaDoorAct18
import Derived.Test.YtebaojbagogniaaDoorSme18
namespace Go.Proofs.YtebaojbagogniaaDoor
open Go.RowKit Go.Extern.Stop Go.Stop Go.Extern

theorem ret_str18 {a b : ByteArray} (h : a = b) : Ending.returned (.string a) = .returned (.string b) := by rw [h]
theorem ls_app (a b : ByteArray) : ls (a ++ b) = ls a ++ ls b := by
  unfold ls
  rw [ByteArray.data_append, Array.toList_append]
theorem join_snoc {L : List BL} (hL : L ≠ []) (x : BL) : joinL (L ++ [x]) = joinL L ++ 47 :: x := by
  induction L with
  | nil => exact absurd rfl hL
  | cons y r ih =>
    cases r with
    | nil => rfl
    | cons z r =>
      show y ++ 47 :: joinL (z :: r ++ [x]) = (y ++ 47 :: joinL (z :: r)) ++ 47 :: x
      rw [ih (by simp), List.append_assoc]
      rfl
theorem join_take {L : List BL} {k : Nat} (h : k < L.length) : joinL (L.take (k + 1)) = if k = 0 then L.getD k [] else joinL (L.take k) ++ 47 :: L.getD k [] := by
  rw [List.take_succ_eq_append_getElem h, List.getD_eq_getElem?_getD, List.getElem?_eq_getElem h]
  rcases k with _ | k
  · rfl
  · rw [if_neg (by omega), join_snoc (by intro e; have := congrArg List.length e; rw [List.length_take, List.length_nil] at this; omega)]
    rfl
theorem join_grow (L : List BL) : ∀ k, (joinL (L.take k)).length ≤ (joinL L).length := by
  intro k
  induction L generalizing k with
  | nil => simp
  | cons x r ih =>
    rcases k with _ | k
    · simp [joinL]
    · rw [List.take_succ_cons]
      cases r with
      | nil => simp
      | cons y r =>
        have := ih k
        rcases k with _ | k
        · show (joinL [x]).length ≤ (x ++ 47 :: joinL (y :: r)).length
          rw [List.length_append]
          exact Nat.le_add_right _ _
        · rw [List.take_succ_cons] at this ⊢
          rw [join_cons x (by simp), join_cons x (by simp)]
          simpa using this
section
variable {w : World}
set_option maxHeartbeats 1000000 in
theorem join_any {A : Option Addr} {c : Nat} {L : List BL} (h : Rd w A L) (hm : (joinL L).length ≤ 1000000) (hl : L.length ≤ 1000000) :
    Calls Tryd.prog 29 #[.slice A L.length c] w fun x w' => x = .returned (.string (bs (joinL L))) ∧ w = w' := by
  rcases Nat.eq_zero_or_pos L.length with h0 | hp
  · have hL : L = [] := List.eq_nil_of_length_eq_zero h0
    subst hL
    clear h hm h0 hl
    simp only [List.length_nil]
    go_enter Tryd.func29, Tryd.ntmps29
    go_wp2_with fail
    go_loop [3, 4] (fun sv iv => sv = .string ⟨#[]⟩ ∧ iv = .int .i64 0) (fun _ _ => 0)
    case atStart => exact ⟨rfl, rfl⟩
    case round =>
      obtain ⟨rfl, rfl⟩ := hrel
      go_wp2_with fail
      go_ret
      exact ⟨rfl, rfl⟩
  · obtain ⟨g, off, rfl, hc⟩ := h hp
    have HC := Lib.hid hc
    clear h hc
    go_enter Tryd.func29, Tryd.ntmps29
    go_wp2_with fail
    go_loop [3, 4] (fun sv iv => ∃ (t : ByteArray) (k : Nat), k ≤ L.length ∧ sv = .string t ∧ iv = .int .i64 k ∧ ls t = joinL (L.take k)) (fun _ iv => L.length - (intOf iv).toNat)
    case atStart => exact ⟨⟨#[]⟩, 0, Nat.zero_le _, rfl, rfl, rfl⟩
    case round =>
      obtain ⟨t, k, hk, rfl, rfl, ht⟩ := hrel
      have HT := Lib.hid ht
      clear ht
      by_cases hlt : k < L.length
      · have c0 := HC.out k hlt
        have HJ := Lib.hid (join_take hlt)
        have hg := join_grow L (k + 1)
        have hts : t.size ≤ 1000000 := by rw [← ls_size, HT.out]; have := join_grow L k; omega
        rcases Nat.eq_zero_or_pos k with h0 | hk0
        · subst h0
          have HJ' := Lib.hid HJ.out
          rw [if_pos rfl] at HJ'
          have hxs : (bs (L.getD 0 [])).size ≤ 1000000 := by rw [bs_size, ← HJ'.out]; omega
          have HE := Lib.hid (show ls (t ++ bs (L.getD 0 [])) = joinL (L.take (0 + 1)) by rw [ls_app, HT.out, ls_bs, HJ'.out]; rfl)
          have c1 : w.cell? ⟨g, off, none⟩ = some (.string (bs (L.getD 0 []))) := c0
          clear hg c0
          generalize bs (L.getD 0 []) = xs at *
          go_wp2_with fail
          go_round
          case rel => exact ⟨_, 0 + 1, by omega, rfl, by go_num, HE.out⟩
          case measure => simp [intOf]; omega
        · have HJ' := Lib.hid HJ.out
          rw [if_neg (by omega)] at HJ'
          have hxs : (bs (L.getD k [])).size ≤ 1000000 := by
            have e := congrArg List.length HJ'.out
            rw [List.length_append, List.length_cons] at e
            rw [bs_size]; omega
          have HE := Lib.hid (show ls (t ++ ⟨#[47]⟩ ++ bs (L.getD k [])) = joinL (L.take (k + 1)) by rw [ls_app, ls_app, HT.out, ls_bs, HJ'.out, List.append_assoc]; rfl)
          have hk1 : (0 : Int) < (k : Int) := by omega
          clear hg
          generalize bs (L.getD k []) = xs at *
          go_wp2_with fail
          go_round
          case rel => exact ⟨_, k + 1, by omega, rfl, by go_num, HE.out⟩
          case measure => simp [intOf]; omega
      · obtain rfl : k = L.length := by omega
        have HE := Lib.hid (show t = bs (joinL L) by rw [← bs_ls t, HT.out, List.take_length])
        go_wp2_with fail
        go_ret
        exact ⟨ret_str18 HE.out, rfl⟩
end
end Go.Proofs.YtebaojbagogniaaDoor
namespace Go.Proofs.YtebaojbagogniaaDoor
open Go.RowKit Go.Extern.Stop Go.Stop Go.Extern Go.Maps Go.Deep
set_option maxRecDepth 100000
def encP (q : List BL) : ByteArray := bs (joinL q.reverse ++ [47])
theorem encP_inj {q q' : List BL} (h0 : q ≠ []) (h0' : q' ≠ []) (h1 : ∀ x ∈ q, ¬ 47 ∈ x) (h1' : ∀ x ∈ q', ¬ 47 ∈ x) (h : encP q = encP q') : q = q' := by
  unfold encP at h
  have h2 := List.append_cancel_right (bs_inj.1 h)
  have h3 := congrArg spl h2
  rw [spl_join (by simpa using h0) (fun x hx => h1 x (List.mem_reverse.1 hx)), spl_join (by simpa using h0') (fun x hx => h1' x (List.mem_reverse.1 hx))] at h3
  exact List.reverse_inj.1 h3
theorem sufs_take {L : List BL} {q : List BL} : q ∈ sufs L.reverse ↔ ∃ j, 1 ≤ j ∧ j < L.length + 1 ∧ q = (L.take j).reverse := by
  rw [mem_sufs]
  constructor
  · rintro ⟨h0, h1⟩
    have h2 := h1.length_le
    rw [List.length_reverse] at h2
    have hpos : 0 < q.length := by
      rcases q with _ | ⟨x, q⟩
      · exact absurd rfl h0
      · simp
    refine ⟨q.length, hpos, by omega, ?_⟩
    have h3 : q.reverse <+: L := by
      have := List.reverse_prefix.2 h1
      rwa [List.reverse_reverse] at this
    have h4 := List.prefix_iff_eq_take.1 h3
    rw [List.length_reverse] at h4
    rw [← h4, List.reverse_reverse]
  · rintro ⟨j, h1, h2, rfl⟩
    refine ⟨fun e => ?_, ?_⟩
    · have := congrArg List.length e
      rw [List.length_reverse, List.length_take, List.length_nil] at this
      omega
    · exact List.reverse_suffix.2 (List.take_prefix j L)
theorem sufs_no {e : EV} {q : List BL} (h : q ∈ sufs (lv e)) : q ≠ [] ∧ ∀ x ∈ q, ¬ 47 ∈ x := by
  obtain ⟨h0, h1⟩ := mem_sufs.1 h
  exact ⟨h0, fun x hx => spl_mem (List.mem_reverse.1 (h1.subset hx))⟩
/-- The texts so far: of the first i entries, and of the next one's levels the first ones below k. -/
def NdM (D : List EV) (i : Nat) (L : List BL) (k : Nat) (N : List ByteArray) : Prop :=
  N.Nodup ∧ ∀ s, s ∈ N ↔ (∃ e ∈ D.take i, ∃ q ∈ sufs (lv e), encP q = s) ∨ ∃ j, 1 ≤ j ∧ j < k ∧ encP (L.take j).reverse = s
theorem NdM.next {D : List EV} {i : Nat} {N : List ByteArray} {L : List BL} (h : NdM D i L (L.length + 1) N) (hi : i < D.length) (hL : L = spl (ls (D.getD i ee0).2)) (L' : List BL) : NdM D (i + 1) L' 1 N := by
  refine ⟨h.1, fun s => ?_⟩
  rw [h.2, take_atE hi]
  have hl : lv (D.getD i ee0) = L.reverse := by unfold lv; rw [← hL]
  constructor
  · rintro (⟨e, he, hq⟩ | ⟨j, h1, h2, h3⟩)
    · exact .inl ⟨e, List.mem_append_left _ he, hq⟩
    · exact .inl ⟨_, List.mem_append_right _ (List.mem_singleton_self _), _, by rw [hl]; exact sufs_take.2 ⟨j, h1, h2, rfl⟩, h3⟩
  · rintro (⟨e, he, q, hq, hs⟩ | ⟨j, h1, h2, _⟩)
    · rcases List.mem_append.1 he with he | he
      · exact .inl ⟨e, he, q, hq, hs⟩
      · rw [List.mem_singleton] at he
        subst he
        rw [hl] at hq
        obtain ⟨j, h1, h2, rfl⟩ := sufs_take.1 hq
        exact .inr ⟨j, h1, h2, hs⟩
    · omega
theorem NdM.start (D : List EV) (L : List BL) : NdM D 0 L 1 [] := ⟨List.nodup_nil, fun s => by
  constructor
  · intro h
    cases h
  · rintro (⟨e, he, _⟩ | ⟨j, h1, h2, _⟩)
    · cases he
    · omega⟩
theorem NdM.re {D : List EV} {i : Nat} {N : List ByteArray} {L : List BL} (h : NdM D i L 1 N) (L' : List BL) : NdM D i L' 1 N := ⟨h.1, fun s => by
  rw [h.2]
  constructor
  · rintro (h | ⟨j, h1, h2, _⟩)
    · exact .inl h
    · omega
  · rintro (h | ⟨j, h1, h2, _⟩)
    · exact .inl h
    · omega⟩
theorem NdM.old {D : List EV} {i k : Nat} {N : List ByteArray} {L : List BL} (h : NdM D i L k N) (hk : 1 ≤ k) (hm : encP (L.take k).reverse ∈ N) : NdM D i L (k + 1) N := by
  refine ⟨h.1, fun s => ?_⟩
  constructor
  · intro hs
    rcases (h.2 s).1 hs with h1 | ⟨j, h1, h2, h3⟩
    · exact .inl h1
    · exact .inr ⟨j, h1, by omega, h3⟩
  · rintro (h1 | ⟨j, h1, h2, h3⟩)
    · exact (h.2 s).2 (.inl h1)
    · rcases Nat.lt_succ_iff_lt_or_eq.1 h2 with h2 | rfl
      · exact (h.2 s).2 (.inr ⟨j, h1, h2, h3⟩)
      · rw [← h3]
        exact hm
theorem NdM.new {D : List EV} {i k : Nat} {N : List ByteArray} {L : List BL} (h : NdM D i L k N) (hk : 1 ≤ k) (hm : encP (L.take k).reverse ∉ N) : NdM D i L (k + 1) (N ++ [encP (L.take k).reverse]) := by
  refine ⟨?_, fun s => ?_⟩
  · rw [List.nodup_append]
    exact ⟨h.1, List.nodup_cons.2 ⟨by simp, List.nodup_nil⟩, fun a ha b hb e => by
      rw [List.mem_singleton] at hb
      rw [e, hb] at ha
      exact hm ha⟩
  · rw [List.mem_append, List.mem_singleton, h.2]
    constructor
    · rintro ((h1 | ⟨j, h1, h2, h3⟩) | rfl)
      · exact .inl h1
      · exact .inr ⟨j, h1, by omega, h3⟩
      · exact .inr ⟨k, hk, by omega, rfl⟩
    · rintro (h1 | ⟨j, h1, h2, h3⟩)
      · exact .inl (.inl h1)
      · rcases Nat.lt_succ_iff_lt_or_eq.1 h2 with h2 | rfl
        · exact .inl (.inr ⟨j, h1, h2, h3⟩)
        · exact .inr h3.symm
theorem nodup_mapOn {α β : Type} {f : α → β} {L : List α} (hL : L.Nodup) (h : ∀ x ∈ L, ∀ y ∈ L, f x = f y → x = y) : (L.map f).Nodup := by
  unfold List.Nodup
  rw [List.pairwise_map]
  exact List.Pairwise.imp_of_mem (fun {a b} ha hb hne e => hne (h a ha b hb e)) hL
theorem NdM.len {D : List EV} {L : List BL} {N : List ByteArray} (h : NdM D D.length L 1 N) : N.length = nodesE D := by
  have hp : N.Perm ((dd (D.flatMap fun e => sufs (lv e))).map encP) := by
    refine nodup_perm h.1 (nodup_mapOn (dd_nodup _) fun x hx y hy e => ?_) fun s => ?_
    · obtain ⟨e1, _, h1⟩ := List.mem_flatMap.1 (mem_dd.1 hx)
      obtain ⟨e2, _, h2⟩ := List.mem_flatMap.1 (mem_dd.1 hy)
      exact encP_inj (sufs_no h1).1 (sufs_no h2).1 (sufs_no h1).2 (sufs_no h2).2 e
    · rw [h.2, List.take_length, List.mem_map]
      constructor
      · rintro (⟨e, he, q, hq, hs⟩ | ⟨j, h1, h2, _⟩)
        · exact ⟨q, mem_dd.2 (List.mem_flatMap.2 ⟨e, he, hq⟩), hs⟩
        · omega
      · rintro ⟨q, hq, hs⟩
        obtain ⟨e, he, hq⟩ := List.mem_flatMap.1 (mem_dd.1 hq)
        exact .inl ⟨e, he, q, hq, hs⟩
  rw [hp.length_eq, List.length_map]
  rfl
theorem append_row18 {w : World} {v : Value} {L M : List ByteArray} {ops : Array Oper} {rest : List Oper} {o : Oper} {a : Act} {Q : Exit → Act → World → Prop} {w0 : World} (hgd : o.guard = none) (s x : Operand) (ho : o.op = .call { callee := .builtin .append, args := #[s, x], argTypes := #[54, 54] })
    (hb : Below w0.heap.size w0 w) (ht : Row w w0.heap.size v L) (hs : a.eval s = v) (ad : Addr) (m c : Nat) (hx : a.eval x = .slice (some ad) m c) (hm : m = M.length) (hrd : SRd w (some ad) M) (hsm : L.length + M.length ≤ 100000)
    (h : ∀ v' w', Row w' w0.heap.size v' (L ++ M) → Below w0.heap.size w0 w' → Fr v.ownBlock.toList w w' → (v'.ownBlock = v.ownBlock ∨ v'.ownBlock = some w.heap.size) → wpList Tryd.prog ops Q rest (a.put o.dst v') w') : wpList Tryd.prog ops Q (o :: rest) a w := by
  obtain ⟨i0, hi0, hz0, hz1, hz2⟩ := info_parts Tryd.strInfo
  subst hm
  obtain ⟨v', w', hr, ho', hg, _, hat⟩ := run_append_own_at (P := Tryd.prog) w w0.heap.size 54 o.type _ i0 _ 1 16 Tryd.underlying54 hi0 hz0 hz1 hz2 rfl (by decide) v L.length (L.map Value.string) ht ad M.length c (M.map Value.string) (by rw [List.length_map, Nat.mul_one]) (srd_news hrd) (one_cells M) (by unfold maxLen; omega) (by omega) hb.size
  have hf : Fr v.ownBlock.toList w w' := (Fr.refl _ w).grown hg (fun k hk => .inl (own_listE.2 hk))
  refine Lib.wpList_append_run w hgd s x 54 54 ho v _ hs hx _ w' hr (h v' w' ?_ (row_grow hb ht hg) hf hat)
  unfold Row
  rw [List.length_append, List.map_append]
  exact ho'
def inQ18 (s : ByteArray) (N : List ByteArray) : Bool := N.any fun x => decide (x = s)
theorem inQ18_iff {s : ByteArray} {N : List ByteArray} : inQ18 s N = true ↔ s ∈ N := by
  unfold inQ18
  simp
theorem inB18 {N : List ByteArray} {s : ByteArray} {k : Nat} (h : ∀ j, j < k → N.getD j e0 ≠ s) (hk : k = N.length) : s ∉ N := fun hm => by
  obtain ⟨j, hj, e⟩ := List.getElem_of_mem hm
  refine h j (by omega) ?_
  rw [List.getD_eq_getElem?_getD, List.getElem?_eq_getElem hj]
  exact e
set_option maxHeartbeats 4000000 in
theorem rin_any {w : World} {A : Option Addr} {n c : Nat} {N : List ByteArray} (h : SRd w A N) (hn : n = N.length) (hm : n ≤ 100000) (s : ByteArray) :
    Calls Tryd.prog 30 #[.slice A n c, .string s] w fun x w' => x = .returned (.bool (inQ18 s N)) ∧ w = w' := by
  have HR := Lib.hid h
  have HN := Lib.hid hn
  clear h hn
  go_enter Tryd.func30, Tryd.ntmps30
  go_wp2_with fail
  go_loop [5] (fun i => ∃ k : Nat, k ≤ n ∧ i = .int .i64 k ∧ Hid (∀ j, j < k → N.getD j e0 ≠ s)) (fun i => n - (intOf i).toNat)
  case atStart => exact ⟨0, Nat.zero_le _, rfl, Lib.hid (fun j hj => by omega)⟩
  case round =>
    obtain ⟨k, hk, rfl, HJ⟩ := hrel
    by_cases hlt : k < n
    · have hkL : k < N.length := by have := HN.out; omega
      obtain ⟨g, off, rfl, HC⟩ := HR.out.cells (by omega)
      have c0 := HC.out k hkL
      obtain ⟨q, hq⟩ : ∃ q, N.getD k e0 = q := ⟨_, rfl⟩
      rw [hq] at c0
      obtain ⟨a, ha⟩ : ∃ a, (q.toList == s.toList) = a := ⟨_, rfl⟩
      have hd := eq_text q s
      rw [ha] at hd
      have HD := Lib.hid hd
      have HQ := Lib.hid hq
      have HKL := Lib.hid hkL
      clear hq hd hkL
      cases a with
      | true =>
        have HE := Lib.hid (show inQ18 s N = true from inQ18_iff.2 (by
          have h1 : q = s := of_decide_eq_true HD.out.symm
          rw [← h1, ← HQ.out, List.getD_eq_getElem?_getD, List.getElem?_eq_getElem HKL.out]
          exact List.getElem_mem HKL.out))
        go_wp2_with fail
        go_ret
        exact ⟨by rw [HE.out]; rfl, rfl⟩
      | false =>
        have HE : Hid (∀ j, j < k + 1 → N.getD j e0 ≠ s) := Lib.hid (fun j hj => by
          rcases Nat.lt_succ_iff_lt_or_eq.1 hj with hj | rfl
          · exact HJ.out j hj
          · rw [HQ.out]
            exact of_decide_eq_false HD.out.symm)
        clear HJ
        go_wp2_with fail
        go_round
        case rel => exact ⟨k + 1, by omega, by go_num, HE⟩
        case measure => simp [intOf]; omega
    · have HE := Lib.hid (show inQ18 s N = false from Bool.eq_false_iff.2 (fun hh => inB18 HJ.out (by have := HN.out; omega) (inQ18_iff.1 hh)))
      go_wp2_with fail
      go_ret
      exact ⟨by rw [HE.out]; rfl, rfl⟩
end Go.Proofs.YtebaojbagogniaaDoor
namespace Go.Proofs.YtebaojbagogniaaDoor
open Go.RowKit Go.Extern.Stop Go.Stop Go.Extern Go.Maps Go.Deep
set_option maxRecDepth 100000
structure NdS (w W : World) (B x : Nat) (v : Value) (D : List EV) (i : Nat) (L : List BL) (k : Nat) (u : Value) (N : List ByteArray) : Prop where
  st : RTr W B x v D
  row : Row W w.heap.size u N
  bel : Below w.heap.size w W
  nd : NdM D i L k N
  len : N.length ≤ 201 * i + k
theorem NdS.below {w W W' : World} {B x i k : Nat} {v u : Value} {D : List EV} {L : List BL} {N : List ByteArray} (h : NdS w W B x v D i L k u N) (hb : Below W.heap.size W W') : NdS w W' B x v D i L k u N :=
  ⟨h.st.below hb, h.row.below hb, h.bel.trans (hb.mono h.bel.size), h.nd, h.len⟩
theorem row_lt18 {w : World} {B : Nat} {v : Value} {L : List ByteArray} (h : Row w B v L) (k : Nat) (hk : v.ownBlock = some k) : B ≤ k ∧ k < w.heap.size := by
  rcases h.2 with ⟨rfl, h0⟩ | ⟨gr, cap, cur, rfl, hB, hh, _⟩
  · cases hk
  · injection hk with hk
    subst hk
    exact ⟨hB, lt_of_block hh⟩
theorem row_str18 {w : World} {B : Nat} {v : Value} {L : List ByteArray} (h : Row w B v L) (k : Nat) (hk : v.ownBlock = some k) : ∃ cs, w.heap[k]? = some (.cells cs 9 (0, 0)) := by
  rcases h.2 with ⟨rfl, h0⟩ | ⟨gr, cap, cur, rfl, hB, hh, _⟩
  · cases hk
  · injection hk with hk
    subst hk
    exact ⟨_, hh⟩
theorem srd_of {w : World} {g : Nat} {L : List BL} {k : Nat} {A : Option Addr} {n c B : Nat} (h : Texts w B (.slice A n c) L) (hA : A = some ⟨g, 0, none⟩) (hk : k ≤ L.length) : Rd w (some ⟨g, 0, none⟩) (L.take k) := fun hl => by
  obtain ⟨g2, e, _, _, hc⟩ := h.at_ (by rw [List.length_take] at hl; omega)
  rw [hA] at e
  injection e with e
  injection e with e _
  subst e
  refine ⟨g, 0, rfl, fun j hj => ?_⟩
  rw [List.length_take] at hj
  rw [Nat.zero_add, hc j (by omega)]
  congr 3
  rw [List.getD_eq_getElem?_getD, List.getD_eq_getElem?_getD, List.getElem?_take_of_lt (by omega)]
theorem encP_of (L : List BL) : bs (joinL L) ++ ⟨#[47]⟩ = encP L.reverse := by
  unfold encP
  rw [List.reverse_reverse, ← bs_ls (bs (joinL L) ++ ⟨#[47]⟩), ls_app, ls_bs]
  rfl
theorem one_srd (W : World) (s : ByteArray) : SRd (W.alloc (.cells #[.string s] 9)) (some ⟨W.heap.size, 0, none⟩) [s] := fun _ => ⟨W.heap.size, 0, rfl, fun k hk => by
  obtain rfl : k = 0 := by simpa using hk
  exact (Blk.made W 9 #[.string s]).cell 0⟩
set_option maxHeartbeats 8000000 in
theorem rnodes_any {w : World} {B x : Nat} {v : Value} {D : List EV} (h : RTr w B x v D) (hd : ∀ e ∈ D, e.2.size ≤ 200) (hD : D.length ≤ 400) :
    Calls Tryd.prog 16 #[.pointer (some ⟨x, 0, none⟩)] w fun x w' => x = .returned (.int .i64 (nodesE D : Nat)) ∧ Below w.heap.size w w' := by
  obtain ⟨A, c, rfl⟩ := h.row.form
  obtain ⟨n, hn⟩ : ∃ n, n = D.length := ⟨_, rfl⟩
  have HN9 := Lib.hid hn
  rw [← hn] at hD
  have HJ0 : Hid (NdS w w B x (.slice A n c) D 0 [] 1 (.slice none 0 0) []) := Lib.hid ⟨by rw [hn]; exact h, Row.nil _ _, Below.refl _ _, NdM.start D [], by simp⟩
  have HDS := Lib.hid hd
  clear h hd hn
  go_enter Tryd.func16, Tryd.ntmps16
  go_wp2_with fail
  go_loopw [3, 4] (fun u i wr => ∃ (k : Nat) (N : List ByteArray), k ≤ n ∧ i = .int .i64 k ∧ Hid (NdS w wr B x (.slice A n c) D k [] 1 u N)) (fun _ i _ => n - (intOf i).toNat)
  case atStart => exact ⟨0, [], Nat.zero_le _, rfl, HJ0⟩
  case round =>
    obtain ⟨i, N, hi, rfl, HJ⟩ := hrel
    clear HJ0
    have c1 := HJ.out.st.blk.cell 0
    by_cases hlt : i < n
    · have hiD : i < D.length := by have := HN9.out; omega
      obtain ⟨gr, rfl, _, hcl⟩ := HJ.out.st.row.cell (by omega)
      obtain ⟨q, hq⟩ : ∃ q, D.getD i ee0 = q := ⟨_, rfl⟩
      have HQ := Lib.hid hq
      have HID := Lib.hid hiD
      have HSZ := Lib.hid (HDS.out q (hq ▸ dtopE hiD))
      have t2 := hcl i 1 hiD (by omega)
      rw [hq] at t2
      have d2 : wr.cell? ⟨gr, i * 2 + 1, none⟩ = some (.string q.2) := t2
      have HLV := Lib.hid (rlevels_any (w := wr) q.2 (by have := HSZ.out; omega))
      clear hcl hq hiD t2
      go_wp2_with fail
      refine HLV.out.mono ?_
      rintro x5 W5 ⟨v5, rfl, htx, hb⟩
      obtain ⟨L, hL⟩ : ∃ L, L = spl (ls q.2) := ⟨_, rfl⟩
      have HLL := Lib.hid hL
      rw [← hL] at htx
      obtain ⟨a5, c5, rfl⟩ := htx.form
      have hL2 : L.length ≤ 201 := by rw [hL]; exact spl_few HSZ.out
      have HTX := Lib.hid (And.intro htx hL2)
      have hcap := texts_cap htx
      have hap : ∀ b, (_ : Value).ownBlock = some b → (Value.slice a5 L.length c5).ownBlock ≠ some b := fun b hb e => by
        have h1 := (row_lt18 HJ.out.row b hb).2
        have h2 := (htx.lt b e).1
        omega
      have HAP := Lib.hid hap
      have hjl : (joinL L).length ≤ 200 := by rw [hL, join_spl, ls_size]; exact HSZ.out
      have HJL := Lib.hid hjl
      have HJ5 := Lib.hid (show NdS w W5 B x (.slice (some ⟨gr, 0, none⟩) n c) D i L 1 _ N from ⟨(HJ.out.below hb).st, (HJ.out.below hb).row, (HJ.out.below hb).bel, HJ.out.nd.re L, HJ.out.len⟩)
      obtain ⟨m, hm⟩ : ∃ m, m = L.length := ⟨_, rfl⟩
      have HM := Lib.hid hm
      rw [← hm] at hL2 hcap HTX HAP ⊢
      generalize wr.heap.size = B5 at HTX
      clear htx hb hL hjl hm hap HLV HJ c1 d2
      go_wp2_with fail
      go_loopw [3, 6] (fun u kv wr => ∃ (k : Nat) (N : List ByteArray), 1 ≤ k ∧ k ≤ m + 1 ∧ kv = .int .i64 k ∧ Hid (NdS w wr B x (.slice (some ⟨gr, 0, none⟩) n c) D i L k u N ∧ Texts wr B5 (.slice a5 m c5) L ∧ ∀ b, u.ownBlock = some b → (Value.slice a5 m c5).ownBlock ≠ some b)) (fun _ kv _ => m + 1 - (intOf kv).toNat)
      case atStart => exact ⟨1, N, Nat.le_refl _, by omega, rfl, Lib.hid ⟨HJ5.out, HTX.out.1, HAP.out⟩⟩
      case round =>
        obtain ⟨k, N, hk1, hk, rfl, HJ⟩ := hrel
        clear HJ5
        obtain ⟨A6, c6, hu6⟩ := HJ.out.1.row.form
        subst hu6
        by_cases hlt2 : k ≤ m
        · have htx := HJ.out.2.1
          obtain ⟨g5, rfl, _, _, _⟩ := htx.at_ (by have := HM.out; omega)
          have hkL : k ≤ L.length := by have := HM.out; omega
          have hjo := join_any (w := wr) (c := c5) (srd_of htx rfl hkL) (by have := join_grow L k; have := HJL.out; omega) (by rw [List.length_take]; omega)
          rw [List.length_take, Nat.min_eq_left hkL] at hjo
          have HJO := Lib.hid hjo
          have hsz : (bs (joinL (L.take k))).size ≤ 200 := by
            rw [bs_size]
            have := join_grow L k
            have := HJL.out
            omega
          have HEN := Lib.hid (encP_of (L.take k))
          obtain ⟨sv, hsv⟩ : ∃ sv, sv = bs (joinL (L.take k)) := ⟨_, rfl⟩
          rw [← hsv] at HJO hsz HEN
          have HIN := Lib.hid (rin_any (c := c6) HJ.out.1.row.rd rfl (by have := HJ.out.1.len; omega) (sv ++ ⟨#[47]⟩))
          have hNl : N.length ≤ 100000 := by have := HJ.out.1.len; omega
          have htx5 := htx
          clear htx hjo hsv hkL
          go_wp2_with fail
          refine HJO.out.mono ?_
          rintro x7 W7 ⟨rfl, rfl⟩
          go_wp2_with fail
          refine HIN.out.mono ?_
          rintro x7 W7 ⟨rfl, rfl⟩
          cases hib : inQ18 (sv ++ ⟨#[47]⟩) N with
          | true =>
            have HJ8 := Lib.hid (show NdS w wr B x (.slice (some ⟨gr, 0, none⟩) n c) D i L (k + 1) (.slice A6 N.length c6) N ∧ Texts wr B5 (.slice (some ⟨g5, 0, none⟩) m c5) L ∧ ∀ b, (Value.slice A6 N.length c6).ownBlock = some b → (Value.slice (some ⟨g5, 0, none⟩) m c5).ownBlock ≠ some b from ⟨⟨HJ.out.1.st, HJ.out.1.row, HJ.out.1.bel, HJ.out.1.nd.old hk1 (by rw [← HEN.out]; exact inQ18_iff.1 hib), by have := HJ.out.1.len; omega⟩, HJ.out.2⟩)
            clear hib htx5 HIN HJO HJ
            go_wp2_with fail
            go_roundw
            case rel => exact ⟨k + 1, N, by omega, by omega, by go_num, HJ8⟩
            case measure => simp [intOf]; omega
          | false =>
            have hno : encP (L.take k).reverse ∉ N := fun hm => by
              rw [← HEN.out] at hm
              rw [inQ18_iff.2 hm] at hib
              cases hib
            have HNO := Lib.hid hno
            have hbq : Below wr.heap.size wr (wr.alloc (.cells #[.string (sv ++ ⟨#[47]⟩)] 9)) := (Below.refl _ _).alloc (Nat.le_refl _) _
            have HJ7 := Lib.hid (And.intro (HJ.out.1.below hbq) (And.intro (HJ.out.2.1.then (Fr.of_below hbq)) HJ.out.2.2))
            have HSR := Lib.hid (one_srd wr (sv ++ ⟨#[47]⟩))
            have HLT := Lib.hid (fun b hb => (row_lt18 HJ.out.1.row b hb).2)
            have HL5 := Lib.hid (fun b hb => (htx5.lt b hb).2.1)
            clear hib hno hbq htx5 HIN HJO HJ
            go_wp2_with (refine append_row18 (w0 := w) (M := [sv ++ ⟨#[47]⟩]) rfl _ _ rfl HJ7.out.1.bel HJ7.out.1.row rfl ⟨wr.heap.size, 0, none⟩ 1 1 rfl rfl HSR.out (by have := HJ7.out.1.len; show N.length + 1 ≤ 100000; omega) ?_; intro v9 W9 hrow hbel hfr9 hat9; have HX := Lib.hid (And.intro hrow (And.intro hbel (And.intro hfr9 hat9))); clear hrow hbel hfr9 hat9; simp only [Act.put, List.setIfInBounds_toArray, List.set_cons_zero, List.set_cons_succ])
            have HJ9 : Hid (NdS w W9 B x (.slice (some ⟨gr, 0, none⟩) n c) D i L (k + 1) v9 (N ++ [sv ++ ⟨#[47]⟩]) ∧ Texts W9 B5 (.slice (some ⟨g5, 0, none⟩) m c5) L ∧ ∀ b, v9.ownBlock = some b → (Value.slice (some ⟨g5, 0, none⟩) m c5).ownBlock ≠ some b) := Lib.hid (by
              have hX : ∀ b ∈ (Value.slice A6 N.length c6).ownBlock.toList, b ≠ x ∧ (Value.slice (some ⟨gr, 0, none⟩) n c).ownBlock ≠ some b := fun b hb => by
                obtain ⟨cs, hcs⟩ := row_str18 HJ7.out.1.row b (own_listE.1 hb)
                refine ⟨fun e => HJ7.out.1.st.blk.other (e ▸ hcs) (by decide) rfl, fun e => ?_⟩
                obtain ⟨_, _, cs2, hc2⟩ := HJ7.out.1.st.row.lt b e
                rw [hcs] at hc2
                injection hc2 with hc2
                injection hc2 with _ ht
                exact absurd ht (by decide)
              refine ⟨⟨HJ7.out.1.st.fr HX.out.2.2.1 hX, HX.out.1, HX.out.2.1, ?_, ?_⟩, ?_, ?_⟩
              · rw [HEN.out]
                exact HJ7.out.1.nd.new hk1 HNO.out
              · rw [List.length_append]
                have := HJ7.out.1.len
                show N.length + 1 ≤ _
                omega
              · exact HJ7.out.2.1.fr HX.out.2.2.1 fun b hb hm => HJ7.out.2.2 b (own_listE.1 hm) hb
              · intro b hb e
                rcases HX.out.2.2.2 with h | h
                · exact HJ7.out.2.2 b (h ▸ hb) e
                · rw [h] at hb
                  injection hb with hb
                  rw [World.size_alloc] at hb
                  have := HL5.out b e
                  omega)
            go_roundw
            case rel => exact ⟨k + 1, _, by omega, by omega, by go_num, HJ9⟩
            case measure => simp [intOf]; omega
        · have hkm : k = L.length + 1 := by have := HM.out; omega
          have HJ9 : Hid (NdS w wr B x (.slice (some ⟨gr, 0, none⟩) n c) D (i + 1) [] 1 (.slice A6 N.length c6) N) := Lib.hid ⟨HJ.out.1.st, HJ.out.1.row, HJ.out.1.bel, (hkm ▸ HJ.out.1.nd).next HID.out (by rw [HQ.out]; exact HLL.out) [], by have := HJ.out.1.len; omega⟩
          clear HJ hkm
          go_wp2_with fail
          go_roundw
          case rel => exact ⟨i + 1, N, by omega, by go_num, HJ9⟩
          case measure => simp [intOf]; omega
    · have hin : i = D.length := by have := HN9.out; omega
      obtain ⟨A6, c6, hu6⟩ := HJ.out.row.form
      have HL := Lib.hid (show N.length = nodesE D from (hin ▸ HJ.out.nd).len)
      have HB := Lib.hid HJ.out.bel
      subst hu6
      clear HJ hin
      go_wp2_with fail
      go_ret
      exact ⟨by rw [← HL.out]; rfl, HB.out⟩
end Go.Proofs.YtebaojbagogniaaDoor

/- What is proved here: what a topic and an alias come to, as the document has it, and what becomes of its aliases. Conditions: the aliases stand there; few of them. -/
import Derived.Test.YtldpdhliigkboaaDoorInT26
namespace Go.Proofs.YtldpdhliigkboaaDoor
open Go.RowKit Go.Extern.Stop Go.Stop Go.Extern Go.Maps
abbrev GL := List (Int × ByteArray)
def gcells (L : GL) : List Value := L.flatMap fun p => [.int .i64 p.1, .string p.2]
theorem gcells_len (L : GL) : (gcells L).length = L.length * 2 := by
  induction L with
  | nil => rfl
  | cons p L ih =>
    show (gcells L).length + 2 = (L.length + 1) * 2
    omega
theorem gcells_app (L M : GL) : gcells (L ++ M) = gcells L ++ gcells M := by simp [gcells]
theorem gcells_get (L : GL) : ∀ k, k < L.length → (gcells L)[k * 2]? = some (.int .i64 (L.getD k (0, e0)).1) ∧ (gcells L)[k * 2 + 1]? = some (.string (L.getD k (0, e0)).2) := by
  induction L with
  | nil => intro k hk; simp at hk
  | cons p L ih =>
    intro k hk
    have e : gcells (p :: L) = .int .i64 p.1 :: .string p.2 :: gcells L := rfl
    rcases Nat.eq_zero_or_pos k with rfl | hp
    · exact ⟨rfl, rfl⟩
    · obtain ⟨j, rfl⟩ : ∃ j, k = j + 1 := ⟨k - 1, by omega⟩
      rw [e, show (j + 1) * 2 = j * 2 + 1 + 1 by omega]
      exact ih j (by simpa using hk)
theorem gcells_ones (L : GL) : ∀ u ∈ gcells L, u.oneCell' = true := by
  intro u hu
  obtain ⟨p, _, hp⟩ := List.mem_flatMap.1 hu
  simp at hp
  rcases hp with rfl | rfl <;> rfl
theorem Tryd.givenInfo : (Tryd.prog.info? 65).map (fun i => (i.zero, i.size, i.bytes)) = some (some (.agg #[.int .i64 0, .string ⟨#[]⟩]), 2, 24) := by kernel_rfl
/-- The document's aliases: a block with the greatest one and a row of aliases with topics, and the row. -/
structure RIn (w : World) (B g : Nat) (most : Int) (v : Value) (L : GL) : Prop where
  low : B ≤ g
  blk : Blk w g 31 #[.int .i64 most, v]
  row : w.ownsRow B 65 2 v L.length (gcells L)
  nil : L = [] → v = .slice none 0 0
def givenOf (L : GL) (al : Int) : Option (Int × ByteArray) := L.find? fun p => decide (p.1 = al)
def lookI (L : GL) (al : Int) : ByteArray × Int × Int × GL := match givenOf L al with | some p => (p.2, 0, 0, L) | none => (e0, 3, 130, L)
def refI (most : Int) (L : GL) (t : ByteArray) (al : Int) : ByteArray × Int × Int × GL :=
  if al ≠ 0 ∧ (al < 1 ∨ min most 65535 < al) then (e0, 3, 148, L)
  else if t ≠ e0 then (t, 0, 0, if al = 0 then L else (al, t) :: L)
  else if al = 0 then (e0, 3, 130, L)
  else lookI L al
structure RNext (w w' : World) (B g : Nat) (most : Int) (v v' : Value) (L' : GL) : Prop where
  obj : RIn w' B g most v' L'
  fr : Fr [g] w w'
  own : ∀ k, v'.ownBlock = some k → v.ownBlock = some k ∨ w.heap.size ≤ k
def RTopicSays (w : World) (B g : Nat) (most : Int) (v : Value) (r : ByteArray × Int × Int × GL) (x : Ending) (w' : World) : Prop := x = .returned (.tuple #[.string r.1, .agg #[.int .i64 r.2.1, .int .i64 r.2.2.1, .int .i64 0]]) ∧ ∃ v', RNext w w' B g most v v' r.2.2.2
section
variable {w w' : World} {B g : Nat} {most : Int} {v : Value} {L : GL}
theorem RIn.fr {X : List Nat} (h : RIn w B g most v L) (hf : Fr X w w') (hg : g ∉ X) (hv : ∀ k, v.ownBlock = some k → k ∉ X) : RIn w' B g most v L := by
  refine ⟨h.low, h.blk.fr hf hg, ⟨h.row.1, ?_⟩, h.nil⟩
  rcases h.row.2 with h2 | ⟨gr, cap, cur, rfl, hB, hh, h3⟩
  · exact .inl h2
  · exact .inr ⟨gr, cap, cur, rfl, hB, (hf.block gr (lt_of_block hh) (hv gr rfl)).trans hh, h3⟩
theorem RIn.ne (h : RIn w B g most v L) {k : Nat} (hk : v.ownBlock = some k) : g ≠ k := by
  rcases h.row.2 with ⟨rfl, _⟩ | ⟨gr, cap, cur, rfl, hB, hh, _⟩
  · cases hk
  · obtain rfl : gr = k := Option.some.inj hk
    exact h.blk.other hh (by decide)
def zi : Value := .int .i64 0
theorem rin_end (h : RIn w B g most v L) {w3 : World} {gg n cap r : Nat} {L' : GL} (hf : Fr [] w w3) (hr : Blk w3 r 41 #[.int .i64 0, .int .i64 0, .int .i64 0]) (hrr : r = w.heap.size) (hown : w3.ownsRow B 65 2 (.slice (some ⟨gg, 0, none⟩) n cap) n (gcells L')) (hn : n = L'.length) (hgg : r < gg) (hL : L' ≠ []) :
    RNext w ((((w3.setCell ⟨g, 1, none⟩ (.slice (some ⟨gg, 0, none⟩) n cap)).setCell ⟨r, 0, none⟩ (.int .i64 0)).setCell ⟨r, 1, none⟩ (.int .i64 0)).setCell ⟨r, 2, none⟩ (.int .i64 0)) B g most v (.slice (some ⟨gg, 0, none⟩) n cap) L' ∧
    Blk ((((w3.setCell ⟨g, 1, none⟩ (.slice (some ⟨gg, 0, none⟩) n cap)).setCell ⟨r, 0, none⟩ (.int .i64 0)).setCell ⟨r, 1, none⟩ (.int .i64 0)).setCell ⟨r, 2, none⟩ (.int .i64 0)) r 41 #[.int .i64 0, .int .i64 0, .int .i64 0] := by
  subst hn
  have hg := h.blk.lt
  have hgr : g ≠ r := by omega
  have hg3 := (h.blk.fr hf (by simp)).store 1 (.slice (some ⟨gg, 0, none⟩) L'.length cap)
  have hr1 := (((hr.far (p := ⟨g, 1, none⟩) hgr.symm (.slice (some ⟨gg, 0, none⟩) L'.length cap)).store 0 (.int .i64 0)).store 1 (.int .i64 0)).store 2 (.int .i64 0)
  have hk : ∀ (W : World) (q i : Nat) (u : Value), q ≠ gg → W.ownsRow B 65 2 (.slice (some ⟨gg, 0, none⟩) L'.length cap) L'.length (gcells L') → (W.setCell ⟨q, i, none⟩ u).ownsRow B 65 2 (.slice (some ⟨gg, 0, none⟩) L'.length cap) L'.length (gcells L') := fun W q i u hq hw => World.ownsRow.kept hw (grown_cell W q i u) (.inr fun e => hq (Option.some.inj e).symm)
  refine ⟨⟨⟨h.low, ((hg3.far hgr _).far hgr _).far hgr _, hk _ _ _ _ (by omega) (hk _ _ _ _ (by omega) (hk _ _ _ _ (by omega) (hk _ _ _ _ (by omega) hown))), fun e => absurd e hL⟩, ?_, ?_⟩, hr1⟩
  · exact (((((hf.mono (Y := [g]) (by simp)).setCell (.inl (by simp)) _).setCell (.inr (by simp [hrr])) _).setCell (.inr (by simp [hrr])) _).setCell (.inr (by simp [hrr])) _)
  · intro k hk2
    obtain rfl : gg = k := Option.some.inj hk2
    exact .inr (by omega)
set_option maxHeartbeats 1000000 in
set_option maxRecDepth 100000 in
theorem rtopic_any (h : RIn w B g most v L) (hm : L.length ≤ 900) (hB : B ≤ w.heap.size) (t : ByteArray) (al : Int) (hal : (Lit.int .i64 al).wf = true) : Calls Tryd.prog 10 #[.pointer (some ⟨g, 0, none⟩), .string t, .int .i64 al] w (RTopicSays w B g most v (refI most L t al)) := by
  have g0 := h.blk.cell 0
  have HO := Lib.hid h
  have he := empty_iff t
  have HSAME := Lib.hid (fun w1 (hb : Below w.heap.size w w1) => show RNext w w1 B g most v v L from ⟨h.fr (Fr.of_below (X := []) hb) (by simp) (by simp), Fr.of_below hb, fun k hk => .inl hk⟩)
  unfold refI
  by_cases h1 : al ≠ 0 ∧ (al < 1 ∨ min most 65535 < al)
  · rw [if_pos h1]
    obtain ⟨h2, h3⟩ := h1
    by_cases h4 : al < 1
    · clear h h3 he g0
      go_enter Tryd.func10, Tryd.ntmps10
      go_wp2_with fail
      exact bodyPost_ret (v := .tuple #[.string ⟨#[]⟩, .agg #[.int .i64 3, .int .i64 148, .int .i64 0]]) (by simp [results, Tryd.results10, go_sem]) rfl ⟨rfl, v, HSAME.out _ ((Below.refl _ _).alloc (Nat.le_refl _) _)⟩
    · have h5 := h3.resolve_left h4
      have c0 : (w.alloc (.cells #[.int .i64 0, .int .i64 0, .int .i64 0] 41)).cell? ⟨g, 0, none⟩ = some (.int .i64 most) := (h.blk.alloc _).cell 0
      have HW := Lib.hid (fun k => HSAME.out _ ((Below.refl w.heap.size w).alloc (Nat.le_refl _) k))
      clear h h3 he g0
      rcases (show (most ≤ 65535 ∧ most < al) ∨ (65535 < most ∧ 65535 < al) by omega) with ⟨h6, h7⟩ | ⟨h6, h7⟩
      all_goals
        clear h5
        go_enter Tryd.func10, Tryd.ntmps10
        go_wp2_with fail
        exact bodyPost_ret (v := .tuple #[.string ⟨#[]⟩, .agg #[.int .i64 3, .int .i64 148, .int .i64 0]]) (by simp [results, Tryd.results10, go_sem]) rfl ⟨rfl, v, HW.out _⟩
  · rw [if_neg h1]
    have c0 : (w.alloc (.cells #[.int .i64 0, .int .i64 0, .int .i64 0] 41)).cell? ⟨g, 0, none⟩ = some (.int .i64 most) := (h.blk.alloc _).cell 0
    have HW := Lib.hid (fun k => HSAME.out _ ((Below.refl w.heap.size w).alloc (Nat.le_refl _) k))
    by_cases h2 : t = e0
    · rw [decide_eq_true h2] at he
      rw [if_neg (fun h => h h2)]
      obtain ⟨n, hn⟩ : ∃ n, n = L.length := ⟨_, rfl⟩
      have HN := Lib.hid hn
      have HG1 := Lib.hid (fun k => show (w.alloc k).cell? ⟨g, 1, none⟩ = some v from (h.blk.alloc k).cell 1)
      have HRD := Lib.hid (fun (k : Nat) (hk : k < n) (o : Obj) => show ∃ gr cap, v = .slice (some ⟨gr, 0, none⟩) n cap ∧ (w.alloc o).cell? ⟨gr, k * 2, none⟩ = some (.int .i64 (L.getD k (0, e0)).1) ∧ (w.alloc o).cell? ⟨gr, k * 2 + 1, none⟩ = some (.string (L.getD k (0, e0)).2) from by
        obtain ⟨gr, cap, hv, _, _⟩ := World.ownsRow.form h.row (by omega)
        have h' := h.row.alloc o
        subst hv
        obtain ⟨q1, q2⟩ := gcells_get L k (by omega)
        exact ⟨gr, cap, by rw [hn], by rw [World.ownsRow.cellAt h' (k * 2) (by omega)]; exact q1, by rw [World.ownsRow.cellAt h' (k * 2 + 1) (by omega)]; exact q2⟩)
      have hvf : ∃ a c, v = .slice a n c := by
        rcases h.row.2 with ⟨rfl, h0⟩ | ⟨gr, cap, cur, rfl, _⟩
        · exact ⟨none, 0, by rw [hn, h0]⟩
        · exact ⟨_, _, by rw [hn]⟩
      obtain ⟨a0, c1, rfl⟩ := hvf
      have g1 := HG1.out (.cells #[.int .i64 0, .int .i64 0, .int .i64 0] 41)
      have hn9 : n ≤ 900 := by omega
      subst h2
      have h0 : (e0 : ByteArray) = ⟨#[]⟩ := rfl
      by_cases h3 : al = 0
      · rw [if_pos h3]
        subst h3
        clear h h1 hn hm g0 c0
        rw [h0] at he ⊢
        clear h0
        go_enter Tryd.func10, Tryd.ntmps10
        go_wp2_with fail
        go_loopw [9] (fun i wr => ∃ k : Nat, k ≤ n ∧ i = .int .i64 k ∧ wr = w.alloc (.cells #[.int .i64 0, .int .i64 0, .int .i64 0] 41)) (fun i _ => n - (intOf i).toNat)
        case atStart => exact ⟨0, by omega, rfl, rfl⟩
        case round =>
          obtain ⟨k, hk, rfl, rfl⟩ := hrel
          by_cases hlt : k < n
          · go_wp2_with fail
            go_roundw
            case rel => exact ⟨k + 1, by omega, by go_num, trivial⟩
            case measure => simp [intOf]; omega
          · go_wp2_with fail
            exact bodyPost_ret (v := .tuple #[.string ⟨#[]⟩, .agg #[.int .i64 3, .int .i64 130, .int .i64 0]]) (by simp [results, Tryd.results10, go_sem]) rfl ⟨rfl, _, HW.out _⟩
      · rw [if_neg h3]
        have HNO := Lib.hid (fun (hno : ∀ j, j < n → (L.getD j (0, e0)).1 ≠ al) => show lookI L al = (e0, 3, 130, L) from by
          suffices givenOf L al = none by unfold lookI; rw [this]
          unfold givenOf
          rw [List.find?_eq_none]
          intro p hp
          obtain ⟨j, hj, rfl⟩ := List.mem_iff_getElem.1 hp
          have := hno j (by omega)
          rw [List.getD_eq_getElem?_getD, List.getElem?_eq_getElem hj] at this
          simpa using this)
        have HYES := Lib.hid (fun (k : Nat) (hk : k < n) (hy : (L.getD k (0, e0)).1 = al) (hno : ∀ j, j < k → (L.getD j (0, e0)).1 ≠ al) => show lookI L al = ((L.getD k (0, e0)).2, 0, 0, L) from by
          suffices givenOf L al = some (L.getD k (0, e0)) by unfold lookI; rw [this]
          unfold givenOf
          rw [List.find?_eq_some_iff_getElem]
          have hkl : k < L.length := by omega
          have e : L.getD k (0, e0) = L[k] := by rw [List.getD_eq_getElem?_getD, List.getElem?_eq_getElem hkl]; rfl
          refine ⟨by simpa using hy, k, hkl, e.symm, fun j hj => ?_⟩
          have := hno j hj
          rw [List.getD_eq_getElem?_getD, List.getElem?_eq_getElem (by omega)] at this
          simpa using this)
        have h4 : 1 ≤ al := by omega
        have h5 : al ≤ min most 65535 := by omega
        clear h h1 hn hm g0
        rw [h0] at he ⊢
        clear h0
        rcases (show (most ≤ 65535 ∧ al ≤ most) ∨ (65535 < most ∧ al ≤ 65535) by omega) with ⟨h6, h7⟩ | ⟨h6, h7⟩
        all_goals
          clear h5
          generalize lookI L al = R at *
          go_enter Tryd.func10, Tryd.ntmps10
          go_wp2_with fail
          go_loopw [9] (fun i wr => ∃ k : Nat, k ≤ n ∧ i = .int .i64 k ∧ wr = w.alloc (.cells #[.int .i64 0, .int .i64 0, .int .i64 0] 41) ∧ Hid (∀ j, j < k → (L.getD j (0, e0)).1 ≠ al)) (fun i _ => n - (intOf i).toNat)
          case atStart => exact ⟨0, by omega, rfl, rfl, Lib.hid fun j hj => absurd hj (by omega)⟩
          case round =>
            obtain ⟨k, hk, rfl, rfl, HP⟩ := hrel
            by_cases hlt : k < n
            · obtain ⟨gr, cap, hv, q1, q2⟩ := HRD.out k hlt (.cells #[.int .i64 0, .int .i64 0, .int .i64 0] 41)
              injection hv with hv1 hv2 hv3
              subst hv1 hv3
              by_cases hy : (L.getD k (0, e0)).1 = al
              · have HI := Lib.hid (HYES.out k hlt hy HP.out)
                clear hv2
                generalize L.getD k (0, e0) = y at *
                obtain ⟨y1, y2⟩ := y
                dsimp only at hy q1 q2
                subst hy
                go_wp2_with fail
                rw [HI.out]
                exact bodyPost_ret (v := .tuple #[.string y2, .agg #[.int .i64 0, .int .i64 0, .int .i64 0]]) (by simp [results, Tryd.results10, go_sem]) rfl ⟨rfl, _, HW.out _⟩
              · have HE := Lib.hid (show ∀ j, j < k + 1 → (L.getD j (0, e0)).1 ≠ al from fun j hj => by
                  by_cases hjk : j = k
                  · subst hjk; exact hy
                  · exact HP.out j (by omega))
                clear hv2
                generalize (L.getD k (0, e0)).1 = y1 at *
                have hb1 : (al != 0) = true := by simpa using h3
                have hb2 : (y1 == al) = false := by simpa using hy
                have hb3 : decide (al < 1) = false := decide_eq_false (by omega)
                go_wp2_with fail
                go_roundw
                case rel => exact ⟨k + 1, by omega, by go_num, trivial, HE⟩
                case measure => simp [intOf]; omega
            · have HI := Lib.hid (HNO.out fun j hj => HP.out j (by omega))
              go_wp2_with fail
              rw [HI.out]
              exact bodyPost_ret (v := .tuple #[.string ⟨#[]⟩, .agg #[.int .i64 3, .int .i64 130, .int .i64 0]]) (by simp [results, Tryd.results10, go_sem]) rfl ⟨rfl, _, HW.out _⟩
    · rw [decide_eq_false h2] at he
      rw [if_pos h2]
      by_cases h3 : al = 0
      · rw [if_pos h3]
        subst h3
        clear h h1 h2 g0 c0
        go_enter Tryd.func10, Tryd.ntmps10
        go_wp2_with fail
        exact bodyPost_ret (v := .tuple #[.string t, .agg #[.int .i64 0, .int .i64 0, .int .i64 0]]) (by simp [results, Tryd.results10, go_sem]) rfl ⟨rfl, v, HW.out _⟩
      · rw [if_neg h3]
        have h4 : 1 ≤ al := by omega
        have h5 : al ≤ min most 65535 := by omega
        clear h h1 h2 g0
        rcases (show (most ≤ 65535 ∧ al ≤ most) ∨ (65535 < most ∧ al ≤ 65535) by omega) with ⟨h6, h7⟩ | ⟨h6, h7⟩
        all_goals
          clear h5
          obtain ⟨i0, hi0, hz0, hz1, hz2⟩ := info_parts Tryd.givenInfo
          have HNB := Lib.hid (show ((w.alloc (.cells #[.int .i64 0, .int .i64 0, .int .i64 0] 41)).alloc (.cells #[.int .i64 al, .string t] 65)).heap[w.heap.size + 1]? = some (.cells #[.int .i64 al, .string t] 65) from by
            have hnb := heap_alloc_new (w.alloc (.cells #[.int .i64 0, .int .i64 0, .int .i64 0] 41)) (.cells #[.int .i64 al, .string t] 65)
            rw [show (w.alloc (.cells #[.int .i64 0, .int .i64 0, .int .i64 0] 41)).heap.size = w.heap.size + 1 by simp] at hnb
            exact hnb)
          go_enter Tryd.func10, Tryd.ntmps10
          go_wp2_with (at_builtin; go_must (refine wpList_append_lies _ rfl _ _ _ rfl B 65 i0 (.agg #[.int .i64 0, .string ⟨#[]⟩]) 2 24 Tryd.underlying29 hi0 hz0 hz1 hz2 rfl (by decide) (.slice none 0 0) 0 [] rfl (World.ownsRow_nil _ _ _ _) ⟨w.heap.size + 1, 0, none⟩ 1 1 [.int .i64 al, .string t] rfl rfl (World.news_of_block HNB.out) (fun u hu => by simp at hu; rcases hu with rfl | rfl <;> rfl) (by omega) (by unfold maxLen; omega) (by omega) (Nat.le_trans hB (by simp; omega)) _ rfl ?_))
          intro gg cap w3 hown3 hgrow hat hlt3
          obtain ⟨r, hrr⟩ : ∃ r, r = w.heap.size := ⟨_, rfl⟩
          have hsz : ((w.alloc (.cells #[.int .i64 0, .int .i64 0, .int .i64 0] 41)).alloc (.cells #[.int .i64 al, .string t] 65)).heap.size = w.heap.size + 2 := by simp
          have hgg : gg = w.heap.size + 2 := by
            rcases hat with h | h
            · cases h
            · rw [h, ← hsz]
          have hf3 : Fr [] w w3 := (((Fr.refl [] w).alloc _).alloc _).grown hgrow (fun k hk => by cases hk)
          have hr3 : Blk w3 r 41 #[.int .i64 0, .int .i64 0, .int .i64 0] := by
            rw [hrr]
            exact ((Blk.made w 41 _).alloc _).grown hgrow (fun e => by cases e)
          have hb3 : Blk w3 g 31 #[.int .i64 most, v] := HO.out.blk.fr hf3 (by simp)
          have hgr : g ≠ r := by have := HO.out.blk.lt; omega
          have HOWN := Lib.hid (show w3.ownsRow B 65 2 (.slice (some ⟨gg, 0, none⟩) 1 cap) 1 (gcells [(al, t)]) from hown3)
          have HF3 := Lib.hid hf3
          have HR3 := Lib.hid hr3
          have HB3 := Lib.hid hb3
          have HGG := Lib.hid hgg
          have HRR := Lib.hid hrr
          have b1 := hb3.cell 1
          have b2 := hb3.frozen 1
          rw [← hrr]
          clear hown3 hgrow hat hsz hf3 hr3 hb3 hgg hrr HNB c0
          rcases HO.out.row.2 with ⟨rfl, hl0⟩ | ⟨gr, cap2, cur, rfl, hBr, hhr, hrest⟩
          · have hl : L = [] := List.eq_nil_of_length_eq_zero hl0
            subst hl
            clear hl0
            obtain ⟨hnx, hre⟩ := rin_end HO.out HF3.out HR3.out HRR.out HOWN.out rfl (by have := HGG.out; have := HRR.out; omega) (by simp)
            have HNX := Lib.hid hnx
            have e0 := hre.cell 0
            have e1 := hre.cell 1
            have e2 := hre.cell 2
            have hr4 := HR3.out.far (p := ⟨g, 1, none⟩) hgr.symm (.slice (some ⟨gg, 0, none⟩) 1 cap)
            have x0 := hr4.cell 0
            have x1 := hr4.cell 1
            have x2 := hr4.cell 2
            have y0 := hr4.frozen 0
            have y1 := hr4.frozen 1
            have y2 := hr4.frozen 2
            clear hnx hre hr4
            go_wp2_with (at_builtin; go_must (refine wpList_append_own_none rfl _ _ _ rfl B 65 i0 2 Tryd.underlying29 hi0 (.slice (some ⟨gg, 0, none⟩) 1 cap) 1 (gcells [(al, t)]) rfl HOWN.out rfl ?_))
            exact bodyPost_ret (v := .tuple #[.string t, .agg #[.int .i64 0, .int .i64 0, .int .i64 0]]) (by simp [results, Tryd.results10, go_sem, e0, e1, e2]) rfl ⟨rfl, _, HNX.out⟩
          · have hL0 : L ≠ [] := fun e => by have := HO.out.nil e; cases this
            have hLp : 0 < L.length := by cases L with | nil => exact absurd rfl hL0 | cons x l => simp
            have hrow3 : w3.ownsRow B 65 2 (.slice (some ⟨gr, 0, none⟩) L.length cap2) L.length (gcells L) := (HO.out.fr HF3.out (by simp) (by simp)).row
            have HNEWS := Lib.hid (World.ownsRow.cells (g := gr) hrow3 rfl)
            have hB3 : B ≤ w3.heap.size := Nat.le_trans hB HF3.out.size
            clear hrow3 hhr hrest hBr hL0
            go_wp2_with (at_builtin; go_must (refine wpList_append_lies _ rfl _ _ _ rfl B 65 i0 (.agg #[.int .i64 0, .string ⟨#[]⟩]) 2 24 Tryd.underlying29 hi0 hz0 hz1 hz2 rfl (by decide) (.slice (some ⟨gg, 0, none⟩) 1 cap) 1 (gcells [(al, t)]) rfl HOWN.out ⟨gr, 0, none⟩ L.length cap2 (gcells L) rfl (gcells_len L) HNEWS.out (gcells_ones L) hLp (by unfold maxLen; omega) (by omega) hB3 _ rfl ?_))
            intro g4 cap4 w4 hown4 hgrow4 hat4 hlt4
            have hgg := HGG.out
            have hrr := HRR.out
            have hg4 : r < g4 := by
              rcases hat4 with h | h
              · have : gg = g4 := Option.some.inj h
                omega
              · rw [h]; have := HF3.out.size; have := HR3.out.lt; omega
            have hf4 : Fr [] w w4 := HF3.out.grown hgrow4 (fun k hk => by
              have : gg = k := Option.some.inj hk
              exact .inr (by omega))
            have hr4 : Blk w4 r 41 #[.int .i64 0, .int .i64 0, .int .i64 0] := HR3.out.grown hgrow4 (fun e => by
              have : r = gg := Option.some.inj e
              omega)
            have hb4 : Blk w4 g 31 #[.int .i64 most, .slice (some ⟨gr, 0, none⟩) L.length cap2] := HO.out.blk.fr hf4 (by simp)
            obtain ⟨hnx, hre⟩ := rin_end HO.out (L' := (al, t) :: L) hf4 hr4 hrr (show w4.ownsRow B 65 2 (.slice (some ⟨g4, 0, none⟩) (1 + L.length) cap4) (1 + L.length) (gcells ((al, t) :: L)) from hown4) (by simp; omega) hg4 (by simp)
            have HNX := Lib.hid hnx
            have e0 := hre.cell 0
            have e1 := hre.cell 1
            have e2 := hre.cell 2
            have b3 := hb4.cell 1
            have b4 := hb4.frozen 1
            have hr5 := hr4.far (p := ⟨g, 1, none⟩) hgr.symm (.slice (some ⟨g4, 0, none⟩) (1 + L.length) cap4)
            have x0 := hr5.cell 0
            have x1 := hr5.cell 1
            have x2 := hr5.cell 2
            have y0 := hr5.frozen 0
            have y1 := hr5.frozen 1
            have y2 := hr5.frozen 2
            clear hnx hre hr4 hr5 hb4 hf4 hown4 hgrow4 hat4 hlt4 hgg hrr hg4 b1 b2
            go_wp2_with fail
            exact bodyPost_ret (v := .tuple #[.string t, .agg #[.int .i64 0, .int .i64 0, .int .i64 0]]) (by simp [results, Tryd.results10, go_sem, e0, e1, e2]) rfl ⟨rfl, _, HNX.out⟩
end
end Go.Proofs.YtldpdhliigkboaaDoor

/- What is proved here: what an act does where two disks and the document's two stand side by side. Conditions: few bytes. -/
import Derived.Test.YtbicoiciapngdaaRef21
import Derived.Test.YtbicoiciapngdaaLawA21
import Derived.Deep.RegionHeld3
namespace Go.Proofs.Ytbicoiciapngdaa
open Go.RowKit Go.Extern.Stop Go.Stop Go.Extern

/-- A disk g and the document's gx, with the same bytes or not yet; and two without room, gz and gy. -/
structure Four (w0 w : World) (g gx gz gy : Nat) (R : Int) (l : List UInt8) (sure : Nat) (lx : List UInt8) (sx : Nat) : Prop where
  below : Below w0.heap.size w0 w
  far : w0.heap.size ≤ g ∧ w0.heap.size ≤ gx ∧ w0.heap.size ≤ gz ∧ w0.heap.size ≤ gy
  two : g ≠ gz ∧ gx ≠ gy
  disks : ∃ o oz, IsDisk w w0.heap.size g o l sure R.toNat ∧ IsDisk w w0.heap.size gz oz [] 0 0 ∧ ∀ k, o = some k → oz ≠ some k
  x : ∃ s t : ByteArray, IsRef w gx R s t ∧ s.data.toList ++ t.data.toList = lx ∧ s.size = sx
  y : ∃ s t : ByteArray, IsRef w gy 0 s t ∧ s.data.toList ++ t.data.toList = [] ∧ s.size = 0
theorem dstep_zero_all (kind : Int) (s : List UInt8) (k : Int) : (dstep 0 kind s k [] 0).2.1 = [] ∧ (dstep 0 kind s k [] 0).2.2 = 0 := by
  unfold dstep
  split
  · split
    · rename_i h
      have : s = [] := List.eq_nil_of_length_eq_zero (by simpa using h)
      subst this
      exact ⟨rfl, rfl⟩
    · exact ⟨rfl, rfl⟩
  · split
    · exact ⟨rfl, rfl⟩
    · split
      · simp
      · split
        · split
          · rename_i h
            have : s = [] := List.eq_nil_of_length_eq_zero (by omega)
            subst this
            exact ⟨rfl, rfl⟩
          · exact ⟨rfl, rfl⟩
        · exact ⟨rfl, rfl⟩
theorem do_nil {w : World} (kind k : Int) (s : ByteArray) (hz : s.size ≤ 9223372036854775807) :
    Calls Try.prog 23 #[.pointer none, .agg #[.int .i64 kind, .string s, .int .i64 k]] w fun e w' => e = .returned (.bool false) ∧ Fr [] w w' := by
  have hf0 : Fr [] w (w.alloc (.cells #[.int .i64 kind, .string s, .int .i64 k] 42)) := (Fr.refl _ _).alloc _
  have HF := Lib.hid hf0
  clear hf0
  by_cases h1 : kind = 1
  · subst h1
    go_enter Try.func23, Try.ntmps23
    go_wp2_with fail
    refine (nil_append s hz).mono ?_
    rintro e w1 ⟨rfl, hf⟩
    have HH := Lib.hid (HF.out.then hf)
    clear hf
    go_wp2
    go_ret
    exact ⟨rfl, HH.out⟩
  · have n1 : ((kind : Int) == 1) = false := beq_eq_false_iff_ne.2 h1
    by_cases h2 : kind = 2
    · subst h2
      clear n1 h1
      go_enter Try.func23, Try.ntmps23
      go_wp2_with fail
      refine (nil_sync).mono ?_
      rintro e w1 ⟨rfl, hf⟩
      have HH := Lib.hid (HF.out.then hf)
      clear hf
      go_wp2
      go_ret
      exact ⟨rfl, HH.out⟩
    · have n2 : ((kind : Int) == 2) = false := beq_eq_false_iff_ne.2 h2
      by_cases h3 : kind = 3
      · subst h3
        clear n1 h1 n2 h2
        go_enter Try.func23, Try.ntmps23
        go_wp2_with fail
        refine (nil_crash k).mono ?_
        rintro e w1 ⟨rfl, hf⟩
        have HH := Lib.hid (HF.out.then hf)
        clear hf
        go_wp2
        go_ret
        exact ⟨rfl, HH.out⟩
      · have n3 : ((kind : Int) == 3) = false := beq_eq_false_iff_ne.2 h3
        by_cases h4 : kind = 4
        · subst h4
          clear n1 h1 n2 h2 n3 h3
          go_enter Try.func23, Try.ntmps23
          go_wp2_with fail
          refine (nil_swap s hz).mono ?_
          rintro e w1 ⟨rfl, hf⟩
          have HH := Lib.hid (HF.out.then hf)
          clear hf
          go_wp2
          go_ret
          exact ⟨rfl, HH.out⟩
        · have n4 : ((kind : Int) == 4) = false := beq_eq_false_iff_ne.2 h4
          clear h1 h2 h3 h4
          go_enter Try.func23, Try.ntmps23
          go_wp2
          go_ret
          exact ⟨rfl, HF.out⟩
section
variable {w0 w w' : World} {g gx gz gy : Nat} {R : Int} {l lx : List UInt8} {sure sx : Nat}
theorem IsDisk.blk {B : Nat} {o : Option Nat} {room : Nat} (h : IsDisk w B g o l sure room) : ∃ v, Blk w g 39 #[v, .int .i64 sure, .int .i64 room] := by
  obtain ⟨⟨v, h1, _⟩, _⟩ := h
  exact ⟨v, h1⟩
theorem IsDisk.apart {B : Nat} {o : Option Nat} {room x : Nat} {t : TypeId} {cs : Array Value} (h : IsDisk w B g o l sure room) (hb : Blk w x t cs) (hne : t ≠ 5) : ∀ k, o = some k → k ≠ x := by
  obtain ⟨⟨v, _, h2, rfl⟩, _⟩ := h
  exact h2.ne hb hne
theorem Four.same (h : Four w0 w g gx gz gy R l sure lx sx) (hf : Fr [] w w') : Four w0 w' g gx gz gy R l sure lx sx := by
  obtain ⟨h1, h2, h3, ⟨o, oz, d1, d2, d3⟩, ⟨s, t, x1, x2⟩, ⟨s', t', y1, y2⟩⟩ := h
  exact ⟨hf.later h1 (by simp) h1.size, h2, h3, ⟨o, oz, d1.then hf, d2.then hf, d3⟩, ⟨s, t, Blk.fr x1 hf (by simp), x2⟩, ⟨s', t', Blk.fr y1 hf (by simp), y2⟩⟩
theorem Four.drew (h : Four w0 w g gx gz gy R l sure lx sx) : Four w0 w.drew g gx gz gy R l sure lx sx := h.same ((Fr.refl _ _).drew)
theorem Four.drewN (h : Four w0 w g gx gz gy R l sure lx sx) (n : Nat) : Four w0 (w.drewN n) g gx gz gy R l sure lx sx := h.same ((Fr.refl _ _).drewN n)
theorem Four.cells {b off len : Nat} {xs : Nat → Act21} {k : Nat} (ha : Acts w0 b off len xs) (hk : k < len) (h : Four w0 w g gx gz gy R l sure lx sx) :
    w.cell? ⟨b, off + k * 3, none⟩ = some (.int .i64 (xs k).kind) ∧ w.cell? ⟨b, off + k * 3 + 1, none⟩ = some (.string (xs k).s) ∧ w.cell? ⟨b, off + k * 3 + 2, none⟩ = some (.int .i64 (xs k).keep) := by
  obtain ⟨h0, h1, h2, _⟩ := (ha.below h.below) k hk
  exact ⟨h0, h1, h2⟩
theorem own_ne {o' o : Option Nat} (h : Own w w' o o') {x : Nat} (hx : x < w.heap.size) (ho : o ≠ some x) : o' ≠ some x := by
  rcases h with rfl | ⟨k, rfl, h1, _⟩
  · exact ho
  · intro e
    injection e with e
    omega
theorem four_d (h : Four w0 w g gx gz gy R l sure lx sx) (kind k : Int) (s : ByteArray) (hk : -9223372036854775808 ≤ k ∧ k ≤ 9223372036854775807) (hz : l.length + s.size ≤ 1000000) :
    Calls Try.prog 23 #[.pointer (some ⟨g, 0, none⟩), .agg #[.int .i64 kind, .string s, .int .i64 k]] w fun e w' => e = .returned (.bool (dstep R.toNat kind s.data.toList k l sure).1) ∧
      Four w0 w' g gx gz gy R (dstep R.toNat kind s.data.toList k l sure).2.1 (dstep R.toNat kind s.data.toList k l sure).2.2 lx sx := by
  obtain ⟨h1, h2, h3, ⟨o, oz, d1, d2, d3⟩, ⟨sx', tx', x1, x2⟩, ⟨sy', ty', y1, y2⟩⟩ := h
  refine (do_any d1 h1.size kind k s hk hz).mono fun e w' ⟨q1, q2, o', q3, q4⟩ => ⟨q1, now_below h1 d1 h2.1 q2 q3, h2, h3, ⟨o', oz, q3, ?_, ?_⟩, ⟨sx', tx', Blk.fr x1 q2 ?_, x2⟩, ⟨sy', ty', Blk.fr y1 q2 ?_, y2⟩⟩
  · refine d2.fr q2 ?_ ?_
    · intro hm
      rcases List.mem_cons.1 hm with hm | hm
      · exact h3.1 hm.symm
      · obtain ⟨v, hv⟩ := d2.blk
        have : o = some gz := by cases o with | none => cases hm | some j => simp at hm; rw [hm]
        exact d1.apart hv (by decide) gz this rfl
    · intro j hj hm
      rcases List.mem_cons.1 hm with hm | hm
      · obtain ⟨v, hv⟩ := d1.blk
        exact d2.apart hv (by decide) j hj hm
      · have : o = some j := by cases o with | none => cases hm | some i => simp at hm; rw [hm]
        exact d3 j this hj
  · intro j hj hoz
    have hlt := (d2.lt.2 j hoz).2.1
    exact own_ne q4 hlt (fun e => d3 j e hoz) hj
  · intro hm
    rcases List.mem_cons.1 hm with hm | hm
    · obtain ⟨v, hv⟩ := d1.blk
      exact hv.other x1 (by decide) hm.symm
    · have : o = some gx := by cases o with | none => cases hm | some i => simp at hm; rw [hm]
      exact d1.apart x1 (by decide) gx this rfl
  · intro hm
    rcases List.mem_cons.1 hm with hm | hm
    · obtain ⟨v, hv⟩ := d1.blk
      exact hv.other y1 (by decide) hm.symm
    · have : o = some gy := by cases o with | none => cases hm | some i => simp at hm; rw [hm]
      exact d1.apart y1 (by decide) gy this rfl
theorem four_z (h : Four w0 w g gx gz gy R l sure lx sx) (kind k : Int) (s : ByteArray) (hk : -9223372036854775808 ≤ k ∧ k ≤ 9223372036854775807) (hz : s.size ≤ 1000000) :
    Calls Try.prog 23 #[.pointer (some ⟨gz, 0, none⟩), .agg #[.int .i64 kind, .string s, .int .i64 k]] w fun e w' => e = .returned (.bool (dstep 0 kind s.data.toList k [] 0).1) ∧
      Four w0 w' g gx gz gy R l sure lx sx := by
  obtain ⟨h1, h2, h3, ⟨o, oz, d1, d2, d3⟩, ⟨sx', tx', x1, x2⟩, ⟨sy', ty', y1, y2⟩⟩ := h
  refine (do_any d2 h1.size kind k s hk (by show 0 + _ ≤ _; omega)).mono fun e w' ⟨q1, q2, o', q3, q4⟩ => ⟨q1, now_below h1 d2 h2.2.2.1 q2 q3, h2, h3, ⟨o, o', ?_, ?_, ?_⟩, ⟨sx', tx', Blk.fr x1 q2 ?_, x2⟩, ⟨sy', ty', Blk.fr y1 q2 ?_, y2⟩⟩
  · refine d1.fr q2 ?_ ?_
    · intro hm
      rcases List.mem_cons.1 hm with hm | hm
      · exact h3.1 hm
      · obtain ⟨v, hv⟩ := d1.blk
        have : oz = some g := by cases oz with | none => cases hm | some j => simp at hm; rw [hm]
        exact d2.apart hv (by decide) g this rfl
    · intro j hj hm
      rcases List.mem_cons.1 hm with hm | hm
      · obtain ⟨v, hv⟩ := d2.blk
        exact d1.apart hv (by decide) j hj hm
      · have : oz = some j := by cases oz with | none => cases hm | some i => simp at hm; rw [hm]
        exact d3 j hj this
  · have e1 := q3.room_le
    have e2 := q3.sure_le
    have e3 : (dstep 0 kind s.data.toList k [] 0).2.1 = [] := List.eq_nil_of_length_eq_zero (by omega)
    rw [e3] at q3 e2
    have e4 : (dstep 0 kind s.data.toList k [] 0).2.2 = 0 := by simpa using e2
    rw [e4] at q3
    exact q3
  · intro j hj hoz
    have hlt := (d1.lt.2 j hj).2.1
    exact own_ne q4 hlt (d3 j hj) hoz
  · intro hm
    rcases List.mem_cons.1 hm with hm | hm
    · obtain ⟨v, hv⟩ := d2.blk
      exact hv.other x1 (by decide) hm.symm
    · have : oz = some gx := by cases oz with | none => cases hm | some i => simp at hm; rw [hm]
      exact d2.apart x1 (by decide) gx this rfl
  · intro hm
    rcases List.mem_cons.1 hm with hm | hm
    · obtain ⟨v, hv⟩ := d2.blk
      exact hv.other y1 (by decide) hm.symm
    · have : oz = some gy := by cases oz with | none => cases hm | some i => simp at hm; rw [hm]
      exact d2.apart y1 (by decide) gy this rfl
theorem disk_far {B : Nat} {o : Option Nat} {room x : Nat} {cs : Array Value} (h : IsDisk w B g o l sure room) (hb : Blk w x 37 cs) (hf : Fr [x] w w') : IsDisk w' B g o l sure room := by
  refine h.fr hf ?_ ?_
  · intro hm
    obtain ⟨v, hv⟩ := h.blk
    exact hv.other hb (by decide) (by simpa using hm)
  · intro j hj hm
    exact h.apart hb (by decide) j hj (by simpa using hm)
theorem parts_len {s t : ByteArray} {l : List UInt8} (h : s.data.toList ++ t.data.toList = l) : s.size + t.size = l.length := by
  rw [← h, List.length_append, size_bytes, size_bytes]
theorem four_x (h : Four w0 w g gx gz gy R l sure lx sx) (hR : -9223372036854775808 ≤ R ∧ R ≤ 9223372036854775807) (kind k : Int) (s : ByteArray) (hk : -9223372036854775808 ≤ k ∧ k ≤ 9223372036854775807) (hl : lx.length ≤ 1000000) (hz : s.size ≤ 1000000) :
    Calls Try.prog 24 #[.pointer (some ⟨gx, 0, none⟩), .agg #[.int .i64 kind, .string s, .int .i64 k]] w fun e w' => e = .returned (.bool (dstep R.toNat kind s.data.toList k lx sx).1) ∧
      Four w0 w' g gx gz gy R l sure (dstep R.toNat kind s.data.toList k lx sx).2.1 (dstep R.toNat kind s.data.toList k lx sx).2.2 := by
  obtain ⟨h1, h2, h3, ⟨o, oz, d1, d2, d3⟩, ⟨sx', tx', x1, x2, rfl⟩, ⟨sy', ty', y1, y2⟩⟩ := h
  have hp := parts_len x2
  subst x2
  refine (ref_any x1 hR (by omega) (by omega) s hz kind k hk).mono fun e w' ⟨q1, q2, s', t', q3, q4, q5⟩ => ⟨q1, q2.later h1 (by simp; exact h2.2.1) h1.size, h2, h3, ⟨o, oz, disk_far d1 x1 q2, disk_far d2 x1 q2, d3⟩, ⟨s', t', q3, q4, q5⟩, ⟨sy', ty', Blk.fr y1 q2 (by simpa using h3.2.symm), y2⟩⟩
theorem four_y (h : Four w0 w g gx gz gy R l sure lx sx) (kind k : Int) (s : ByteArray) (hk : -9223372036854775808 ≤ k ∧ k ≤ 9223372036854775807) (hz : s.size ≤ 1000000) :
    Calls Try.prog 24 #[.pointer (some ⟨gy, 0, none⟩), .agg #[.int .i64 kind, .string s, .int .i64 k]] w fun e w' => e = .returned (.bool (dstep 0 kind s.data.toList k [] 0).1) ∧
      Four w0 w' g gx gz gy R l sure lx sx := by
  obtain ⟨h1, h2, h3, ⟨o, oz, d1, d2, d3⟩, ⟨sx', tx', x1, x2⟩, ⟨sy', ty', y1, y2, y3⟩⟩ := h
  have hp := parts_len y2
  rw [List.length_nil] at hp
  refine (ref_any y1 ⟨by omega, by omega⟩ (by omega) (by omega) s hz kind k hk).mono fun e w' ⟨q1, q2, s', t', q3, q4, q5⟩ => ?_
  rw [y2, y3] at q1 q4 q5
  have hle := dstep_zero_all kind s.data.toList k
  rw [show (0 : Int).toNat = 0 from rfl, hle.1] at q4
  rw [show (0 : Int).toNat = 0 from rfl, hle.2] at q5
  exact ⟨q1, q2.later h1 (by simp; exact h2.2.2.2) h1.size, h2, h3, ⟨o, oz, disk_far d1 y1 q2, disk_far d2 y1 q2, d3⟩, ⟨sx', tx', Blk.fr x1 q2 (by simpa using h3.2), x2⟩, ⟨s', t', q3, q4, q5⟩⟩
theorem four_no (h : Four w0 w g gx gz gy R l sure lx sx) (kind k : Int) (s : ByteArray) (_hz : s.size ≤ 1000000) :
    Calls Try.prog 23 #[.pointer none, .agg #[.int .i64 kind, .string s, .int .i64 k]] w fun e w' => e = .returned (.bool false) ∧ Four w0 w' g gx gz gy R l sure lx sx :=
  (do_nil kind k s (by omega)).mono fun _ _ ⟨q1, q2⟩ => ⟨q1, h.same q2⟩
end
end Go.Proofs.Ytbicoiciapngdaa

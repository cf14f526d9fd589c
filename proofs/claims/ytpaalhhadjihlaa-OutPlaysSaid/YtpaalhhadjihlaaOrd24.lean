/- What is proved here: the messages under way, in the order in which they were sent. Conditions: few messages. -/
import Derived.Test.YtpaalhhadjihlaaCol24
import Derived.Test.YtpaalhhadjihlaaSrtK
import Derived.Test.YtpaalhhadjihlaaLay24
namespace Go.Proofs.Ytpaalhhadjihlaa
open Go.RowKit Go.Extern.Stop Go.Stop Go.Extern Go.Maps Go.Shelf Go.Lib Go.Sort
set_option maxRecDepth 100000
def cmpF (x y : FV) : Int := Lib.compareInt x.pl y.pl
theorem ltF (x y : FV) : ltOf cmpF x y = decide (x.pl < y.pl) := by
  unfold ltOf cmpF Lib.compareInt
  by_cases h1 : x.pl < y.pl
  · simp [h1]
  · by_cases h2 : y.pl < x.pl <;> simp [h1, h2]
theorem swoF : SWO (ltOf cmpF) where
  irrefl x := by rw [ltF]; simp
  trans x y z h1 h2 := by rw [ltF] at *; simp at *; omega
  ntrans x y z h1 h2 := by rw [ltF] at *; simp at *; omega
set_option maxHeartbeats 2000000 in
theorem cmp_any (x y : FV) (W : World) : Calls Try.prog 49 #[.agg x.cells.toArray, .agg y.cells.toArray] W fun e w' => e = .returned (.int .i64 (cmpF x y)) ∧ ∃ q os', w' = grow (W.drewN q) os' := by
  have hcon := fun W' => Try.cmp_Compare_int x.pl y.pl W'
  unfold cmpF
  generalize Lib.compareInt x.pl y.pl = r at hcon ⊢
  unfold FV.cells
  go_enter Try.func49, Try.ntmps49
  go_wp2_with (go_at_call 50; refine (hcon _).mono ?_; rintro e w' ⟨rfl, rfl⟩)
  go_ret
  exact ⟨rfl, 0, _, by rw [alloc_eq_grow, alloc_eq_grow, grow_grow]; rfl⟩
theorem cmpLaysF (blk off size : Nat) (w : World) : CmpLays Try.prog 49 #[] FV.cells 12 cmpF blk off size w := fun _ _ _ _ x y => cmp_any x y _
/-- A row is sorted. -/
theorem sort_row {w : World} {B g cap : Nat} {ss L : FL} (hr : FRow w B (.slice (some ⟨g, 0, none⟩) ss.length cap) ss) (hp : ss.Perm L) (hL : L.Pairwise (fun a b => a.pl < b.pl)) (hl : L.length ≤ 1000) :
    Calls Try.prog 57 #[.slice (some ⟨g, 0, none⟩) ss.length cap, .func (.func 49) #[] #[]] w fun e w' => e = .returned (.tuple #[]) ∧ FRow w' B (.slice (some ⟨g, 0, none⟩) ss.length cap) L ∧ w.grownBy w' (some g) := by
  have eg : ∀ args w, (callFunc 49 args).run Try.prog w = .ok (.enter 49 args) w := enters_of Try.func49 (by kernel_rfl) rfl
  have hsz : ss.toArray.size = ss.length := by simp
  have hcon := AnyQ.slices_SortFunc Try.sortFl 12 Try.isAgg73 Try.sizeOf73 FV.cells fv_len fv_one cmpF swoF 49 #[] g 0 cap ss.toArray w eg (cmpLaysF g 0 _ w) (row_holds fv_len hr) (row_lt hr) (by rw [hsz]; have := hp.length_eq; omega)
  rw [hsz] at hcon
  change Calls Try.prog 57 _ _ _ at hcon
  refine hcon.mono ?_
  rintro e w' ⟨rfl, d', n, os, hpi, hsi, rfl⟩
  rw [← hsz] at hpi hsi
  have h1 := perm_of_in hpi
  have h2 := pair_of_in hpi hsi
  rw [List.toList_toArray] at h1
  have h3 : d'.toList = L := one_sorted (fun f : FV => f.pl) L d'.toList hL (h1.trans hp) (h2.imp fun {a b} hab => by
    rw [ltF] at hab
    simp at hab
    exact hab)
  obtain ⟨d⟩ := d'
  simp only at h3
  subst h3
  have h4 := row_sorted (n := n) (os := os) (M := d) fv_len (hp.length_eq.symm) hr
  rw [hp.length_eq]
  exact ⟨rfl, h4⟩
set_option maxHeartbeats 2000000 in
theorem sorted_any {w : World} {b Bm : Nat} {L : FL} (hL : L.length ≤ 1000) (hd : (ids L).Nodup) (ho : L.Pairwise (fun a b => a.pl < b.pl)) (hBm : Bm < w.heap.size) (hm : w.cell? ⟨Bm, 0, none⟩ = some (.map (some b))) (hown : AMap Try.prog 3 intKE FV.agg w b (L.map ent24)) :
    Calls Try.prog 47 #[.func (.func 58) #[] #[.pointer (some ⟨Bm, 0, none⟩)], .func (.func 49) #[] #[]] w fun e W' =>
      ∃ v, e = .returned v ∧ FRow W' w.heap.size v L ∧ Below w.heap.size w W' := by
  have HC := Lib.hid (collect_any hL hd hBm hm hown)
  have HO := Lib.hid (And.intro ho hL)
  clear hL hd ho hBm hm hown
  go_enter Try.func47, Try.ntmps47
  go_wp2_with fail
  refine HC.out.mono ?_
  rintro e W1 ⟨v, ss, rfl, hp, hr, hni, hb⟩
  rcases hr.2 with ⟨hv, h0⟩ | ⟨g, cap, cur, hv, hB, hh, h3⟩
  · obtain rfl : ss = [] := List.eq_nil_of_length_eq_zero h0
    obtain rfl : L = [] := List.Perm.eq_nil hp.symm
    subst hv
    have HN := Lib.hid (fun w => show Calls Try.prog 57 #[.slice none 0 0, .func (.func 49) #[] #[]] w _ from AnyF.slices_SortFunc_none Try.sortFl none 0 _ w)
    have HR := Lib.hid (And.intro hr hb)
    clear hr hb hp hni h0
    go_wp2_with fail
    refine (HN.out _).mono ?_
    rintro e W2 ⟨rfl, rfl⟩
    go_wp2_with fail
    go_ret
    exact ⟨_, rfl, HR.out⟩
  · subst hv
    have HS := Lib.hid (sort_row hr hp HO.out.1 HO.out.2)
    have HB := Lib.hid (And.intro hb hB)
    clear hr hb hp hni hh h3 hB
    go_wp2_with fail
    refine HS.out.mono ?_
    rintro e W2 ⟨rfl, hr2, hg⟩
    have HR := Lib.hid (And.intro hr2 hg)
    clear hr2 hg
    go_wp2_with fail
    go_ret
    exact ⟨_, rfl, HR.out.1, HB.out.1.grown HR.out.2 HB.out.1.size (fun k e => by injection e with e; subst e; exact HB.out.2)⟩
theorem mapsValues_any (b : Nat) (w : World) : Calls Try.prog 48 #[.map (some b)] w fun e w' => e = .returned (.func (.func 58) #[] #[.pointer (some ⟨w.heap.size, 0, none⟩)]) ∧ w' = w.alloc (.cells #[.map (some b)] 30) := by
  go_enter Try.func48, Try.ntmps48
  go_wp2
  go_ret
  exact ⟨rfl, rfl⟩
set_option maxHeartbeats 2000000 in
theorem inorder_any {w : World} {g gp bp bm : Nat} {L : FL} {last sent : Nat} (h : OutI w g gp bp bm L last sent) :
    Calls Try.prog 35 #[.pointer (some ⟨g, 0, none⟩)] w fun e W' => ∃ v, e = .returned v ∧ FRow W' w.heap.size v L ∧ Below w.heap.size w W' := by
  have c2 := h.blk.cell 2
  have hb := (Below.refl w.heap.size w).alloc (Nat.le_refl _) (.cells #[.map (some bm)] 30)
  have HS := Lib.hid (sorted_any (w := w.alloc (.cells #[.map (some bm)] 30)) (b := bm) (Bm := w.heap.size) (Nat.le_trans h.len h.few) h.nodup h.ord (by simp) (by simp) (h.map.below hb h.map.lt))
  have HV := Lib.hid (mapsValues_any bm w)
  have HB := Lib.hid hb
  clear h hb
  go_enter Try.func35, Try.ntmps35
  go_wp2_with (first
    | (go_at_call 48; refine HV.out.mono ?_; rintro e w' ⟨rfl, rfl⟩)
    | (go_at_call 47; refine HS.out.mono ?_; rintro e W2 ⟨v, rfl, hr, hb⟩; have HR := Lib.hid (And.intro hr hb); clear hr hb))
  go_ret
  refine ⟨_, rfl, ?_, HB.out.trans (HR.out.2.mono HB.out.size)⟩
  have hr := HR.out.1
  refine ⟨hr.1, ?_⟩
  rcases hr.2 with h1 | ⟨g1, cap, cur, e, hB, h3⟩
  · exact .inl h1
  · exact .inr ⟨g1, cap, cur, e, Nat.le_trans HB.out.size hB, h3⟩
end Go.Proofs.Ytpaalhhadjihlaa

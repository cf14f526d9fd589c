/- What is proved here: rows of entries are sorted by whose they are and their filters. Conditions: those that each theorem names. -/
import Derived.Test.YtebaojbagogniaaDoorErw18
import Derived.Test.YtebaojbagogniaaDoorLay18
import Derived.Test.YtebaojbagogniaaDoorTpt18
namespace Go.Proofs.YtebaojbagogniaaDoor
open Go.RowKit Go.Extern.Stop Go.Stop Go.Extern Go.Maps Go.Shelf Go.Lib Go.Sort
set_option maxRecDepth 100000
def orI (a b : Int) : Int := if a = 0 then b else a
def cmpE (x y : EV) : Int := orI (cmpT x.1 y.1) (cmpT x.2 y.2)
theorem cmpT_zero (a b : ByteArray) : cmpT a b = 0 ↔ a = b := by
  unfold cmpT
  cases h : lessT a b with
  | true =>
    constructor
    · intro h1
      simp at h1
    · rintro rfl
      rw [lessT_irr] at h
      cases h
  | false =>
    by_cases he : a = b
    · subst he
      simp
    · have : (a.toList == b.toList) = false := beq_eq_false_iff_ne.2 fun e => he (toList_inj e)
      simp [this, he]
theorem ltE (x y : EV) : decide (cmpE x y < 0) = lessE x y := by
  unfold cmpE orI lessE
  by_cases h : x.1 = y.1
  · rw [if_pos ((cmpT_zero _ _).2 h), ltT, decide_eq_true h, h, lessT_irr]
    rfl
  · rw [if_neg (fun e => h ((cmpT_zero _ _).1 e)), ltT, decide_eq_false h]
    simp
theorem ltOfE (x y : EV) : ltOf cmpE x y = lessE x y := by
  unfold ltOf
  exact ltE x y
theorem swoE : SWO (ltOf cmpE) where
  irrefl x := by rw [ltOfE]; exact lessE_irr _
  trans x y z h1 h2 := by rw [ltOfE] at *; exact lessE_trans h1 h2
  ntrans x y z h1 h2 := by
    rw [ltOfE] at *
    cases h : lessE x z with
    | false => rfl
    | true =>
      exfalso
      cases hyx : lessE y x with
      | true =>
        have h3 := lessE_trans hyx h
        rw [h2] at h3
        cases h3
      | false =>
        have e := lessE_tot h1 hyx
        rw [e] at h
        rw [h2] at h
        cases h
set_option maxHeartbeats 2000000 in
theorem or_any (a b : Int) {W : World} {k : Nat} (h0 : W.cell? ⟨k, 0, none⟩ = some (.int .i64 a)) (h1 : W.cell? ⟨k, 1, none⟩ = some (.int .i64 b)) :
    Calls Tryd.prog 43 #[.slice (some ⟨k, 0, none⟩) 2 2] W fun e w' => e = .returned (.int .i64 (orI a b)) ∧ W = w' := by
  have HR := Lib.hid (show (a ≠ 0 → orI a b = a) ∧ (a = 0 → orI a b = b) from ⟨fun h => if_neg h, fun h => if_pos h⟩)
  generalize orI a b = o at *
  go_enter Tryd.func43, Tryd.ntmps43
  go_wp2_with fail
  go_loop [8] (fun v8 => (v8 = .int .i64 0) ∨ (v8 = .int .i64 1 ∧ a = 0) ∨ (v8 = .int .i64 2 ∧ a = 0 ∧ b = 0)) (fun v8 => 2 - (intOf v8).toNat)
  case atStart => exact .inl rfl
  case round =>
    rcases hrel with rfl | ⟨rfl, ha⟩ | ⟨rfl, ha, hb⟩
    · by_cases hz : a = 0
      · have hz2 : (a != 0) = false := by simp [hz]
        have HZ := Lib.hid hz
        clear hz
        go_wp2_with fail
        go_round
        case rel => exact .inr (.inl ⟨rfl, HZ.out⟩)
        case measure => decide
      · have hz2 : (a != 0) = true := by simp [hz]
        have HZ := Lib.hid (HR.out.1 hz)
        clear hz
        go_wp2_with fail
        go_ret
        exact ⟨by first | (rw [HZ.out]; rfl) | rw [HZ.out], rfl⟩
    · have HA := Lib.hid ha
      clear ha
      by_cases hz : b = 0
      · have hz2 : (b != 0) = false := by simp [hz]
        have HZ := Lib.hid hz
        clear hz
        go_wp2_with fail
        go_round
        case rel => exact .inr (.inr ⟨rfl, HA.out, HZ.out⟩)
        case measure => decide
      · have hz2 : (b != 0) = true := by simp [hz]
        have HZ := Lib.hid (HR.out.2 HA.out)
        clear hz
        go_wp2_with fail
        go_ret
        exact ⟨by first | (rw [HZ.out]; rfl) | rw [HZ.out], rfl⟩
    · have HZ := Lib.hid ((HR.out.2 ha).trans hb)
      clear ha hb
      go_wp2_with fail
      go_ret
      exact ⟨by first | (rw [HZ.out]; rfl) | rw [HZ.out], rfl⟩
theorem grow_of {W : World} (a b c : Obj) : ∃ q os', (((W.alloc a).alloc b).alloc c).drew = grow (W.drewN q) os' := ⟨1, _, by rw [alloc_eq_grow, alloc_eq_grow, alloc_eq_grow]; show grow (grow (grow W.drew #[a]) #[b]) #[c] = _; rw [grow_grow, grow_grow]; rfl⟩
set_option maxHeartbeats 4000000 in
theorem cmpc18_any (x y : EV) (W : World) : Calls Tryd.prog 42 #[.agg (ecell x).toArray, .agg (ecell y).toArray] W fun e w' => e = .returned (.int .i64 (cmpE x y)) ∧ ∃ q os', w' = grow (W.drewN q) os' := by
  obtain ⟨x1, x2⟩ := x
  obtain ⟨y1, y2⟩ := y
  have HC1 := Lib.hid (fun W' => compareT_any x1 y1 W')
  have HC2 := Lib.hid (fun W' => compareT_any x2 y2 W')
  obtain ⟨r1, hr1⟩ : ∃ r1, cmpT x1 y1 = r1 := ⟨_, rfl⟩
  obtain ⟨r2, hr2⟩ : ∃ r2, cmpT x2 y2 = r2 := ⟨_, rfl⟩
  have HO := Lib.hid (show cmpE (x1, x2) (y1, y2) = orI r1 r2 by unfold cmpE; rw [hr1, hr2])
  rw [HO.out]
  rw [hr1] at HC1
  rw [hr2] at HC2
  clear hr1 hr2 HO
  change Calls Tryd.prog 42 #[.agg #[.string x1, .string x2], .agg #[.string y1, .string y2]] W _
  have HG := Lib.hid (fun c => grow_of (W := W) (.cells #[.string x1, .string x2] 46) (.cells #[.string y1, .string y2] 46) c)
  go_enter Tryd.func42, Tryd.ntmps42
  go_upto_region 1 with fail
  have b1 := (Blk.made W 46 #[.string x1, .string x2]).alloc (.cells #[.string y1, .string y2] 46)
  have b2 := Blk.made (W.alloc (.cells #[.string x1, .string x2] 46)) 46 #[.string y1, .string y2]
  rw [World.size_alloc] at b2
  generalize ((W.alloc (.cells #[.string x1, .string x2] 46)).alloc (.cells #[.string y1, .string y2] 46)) = V at *
  generalize W.heap.size = k1 at *
  have t1 := b1.cell 0
  have t2 := b1.cell 1
  have t3 := b2.cell 0
  have t4 := b2.cell 1
  have KS := Lib.hid (fun (V' : World) (hb : Below V.heap.size V V') => show V'.cell? ⟨k1, 0, none⟩ = some (.string x1) ∧ V'.cell? ⟨k1, 1, none⟩ = some (.string x2) ∧ V'.cell? ⟨k1 + 1, 0, none⟩ = some (.string y1) ∧ V'.cell? ⟨k1 + 1, 1, none⟩ = some (.string y2) from
    ⟨(b1.below hb b1.lt).cell 0, (b1.below hb b1.lt).cell 1, (b2.below hb b2.lt).cell 0, (b2.below hb b2.lt).cell 1⟩)
  have K1 := Lib.hid (KS.out V.drew (bvn18 V 1))
  have K2 := Lib.hid (KS.out ((V.alloc (.cells #[.int .i64 r1, .int .i64 r2] 3)).drew) (((Below.refl _ V).alloc (Nat.le_refl _) _).drew))
  have HOR : Hid (Calls Tryd.prog 43 #[.slice (some ⟨V.heap.size, 0, none⟩) 2 2] (V.alloc (.cells #[.int .i64 r1, .int .i64 r2] 3)).drew fun e w' => e = .returned (.int .i64 (orI r1 r2)) ∧ (V.alloc (.cells #[.int .i64 r1, .int .i64 r2] 3)).drew = w') := Lib.hid
    (or_any r1 r2 ((Blk.made V 3 #[.int .i64 r1, .int .i64 r2]).drew.cell 0) ((Blk.made V 3 #[.int .i64 r1, .int .i64 r2]).drew.cell 1))
  clear b1 b2 KS
  go_region_held3 (fun V' => V'.cell? ⟨k1, 0, none⟩ = some (.string x1) ∧ V'.cell? ⟨k1, 1, none⟩ = some (.string x2) ∧ V'.cell? ⟨k1 + 1, 0, none⟩ = some (.string y1) ∧ V'.cell? ⟨k1 + 1, 1, none⟩ = some (.string y2))
    (first | done | with_reducible assumption | exact K1.out | exact K2.out)
    (first
      | (go_at_call 44; (with_reducible refine (HC1.out _).mono ?_); rintro e w7 ⟨rfl, rfl⟩)
      | (go_at_call 44; (with_reducible refine (HC2.out _).mono ?_); rintro e w7 ⟨rfl, rfl⟩)
      | (go_at_call 43; (with_reducible refine HOR.out.mono ?_); rintro e w7 ⟨rfl, rfl⟩))
  go_wp2_with fail
  go_ret
  exact ⟨rfl, HG.out _⟩
theorem ecell_one (x : EV) : ∀ u ∈ ecell x, u.oneCell' = true := fun u hu => ecs_ones [x] u (by simpa [ecs] using hu)
theorem cmpLaysE (blk off size : Nat) (w : World) : CmpLays Tryd.prog 42 #[] ecell 2 cmpE blk off size w := fun _ _ _ _ x y => cmpc18_any x y _
/-- A row is sorted. -/
theorem sort_e {w : World} {B g cap : Nat} {ss : List EV} (hr : ERow18 w B (.slice (some ⟨g, 0, none⟩) ss.length cap) ss) (hl : ss.length ≤ 1000) :
    Calls Tryd.prog 41 #[.slice (some ⟨g, 0, none⟩) ss.length cap, .func (.func 42) #[] #[]] w fun e w' => ∃ d : List EV, e = .returned (.tuple #[]) ∧ d.Perm ss ∧ d.Pairwise (fun a b => lessE b a = false) ∧ ERow18 w' B (.slice (some ⟨g, 0, none⟩) ss.length cap) d ∧ w.grownBy w' (some g) := by
  have eg : ∀ args w, (callFunc 42 args).run Tryd.prog w = .ok (.enter 42 args) w := enters_of Tryd.func42 (by kernel_rfl) rfl
  have hsz : ss.toArray.size = ss.length := by simp
  have hk9 : ∀ q : EV, (ecell q).length = 2 := fun _ => rfl
  have hcon := AnyQ.slices_SortFunc Tryd.sortFe 2 Tryd.isAgg46 Tryd.sizeOf46 ecell hk9 ecell_one cmpE swoE 42 #[] g 0 cap ss.toArray w eg (cmpLaysE g 0 _ w) (row_holds hk9 hr) (row_lt hr) (by rw [hsz]; omega)
  rw [hsz] at hcon
  change Calls Tryd.prog 41 _ _ _ at hcon
  refine hcon.mono ?_
  rintro e w' ⟨rfl, d', n, os, hpi, hsi, rfl⟩
  rw [← hsz] at hpi hsi
  have h1 := perm_of_in hpi
  have h2 := pair_of_in hpi hsi
  rw [List.toList_toArray] at h1
  have h3 : d'.toList.Pairwise (fun a b => lessE b a = false) := h2.imp fun {a b} hab => by
    rw [ltOfE] at hab
    exact hab
  obtain ⟨d⟩ := d'
  have hd : d.length = ss.length := h1.length_eq
  have h4 := row_sorted (n := n) (os := os) (M := d) hk9 hd hr
  refine ⟨d, rfl, h1, h3, ?_, h4.2⟩
  rw [← hd]
  exact h4.1
end Go.Proofs.YtebaojbagogniaaDoor

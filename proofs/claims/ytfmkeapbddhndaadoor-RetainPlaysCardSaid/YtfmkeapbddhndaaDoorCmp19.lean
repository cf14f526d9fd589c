/- What is proved here: texts in the order of their bytes; messages sorted by their topics. Conditions: those that each theorem names. -/
import Derived.Test.YtfmkeapbddhndaaDoorPuu19
import Derived.Test.YtfmkeapbddhndaaDoorSrtK
import Derived.Test.YtfmkeapbddhndaaDoorLay19
namespace Go.Proofs.YtfmkeapbddhndaaDoor
open Go.RowKit Go.Extern.Stop Go.Stop Go.Extern Go.Maps Go.Shelf Go.Lib Go.Sort
set_option maxRecDepth 100000
theorem less_irr : ∀ a : List UInt8, Op.bytesLess a a = false
  | [] => rfl
  | a :: x => by simp [Op.bytesLess, less_irr x]
theorem less_trans : ∀ {a b c : List UInt8}, Op.bytesLess a b = true → Op.bytesLess b c = true → Op.bytesLess a c = true
  | _, [], _, h, _ => by simp [Op.bytesLess] at h
  | _, _ :: _, [], _, h => by simp [Op.bytesLess] at h
  | [], _ :: _, _ :: _, _, _ => by simp [Op.bytesLess]
  | a :: x, b :: y, c :: z, h1, h2 => by
    simp only [Op.bytesLess, Bool.or_eq_true, Bool.and_eq_true, decide_eq_true_eq, beq_iff_eq] at *
    rcases h1 with h1 | ⟨rfl, h1⟩
    · rcases h2 with h2 | ⟨rfl, h2⟩
      · exact .inl (UInt8.lt_trans h1 h2)
      · exact .inl h1
    · rcases h2 with h2 | ⟨rfl, h2⟩
      · exact .inl h2
      · exact .inr ⟨rfl, less_trans h1 h2⟩
theorem less_tot : ∀ {a b : List UInt8}, Op.bytesLess a b = false → Op.bytesLess b a = false → a = b
  | [], [], _, _ => rfl
  | [], _ :: _, h, _ => by simp [Op.bytesLess] at h
  | _ :: _, [], _, h => by simp [Op.bytesLess] at h
  | a :: x, b :: y, h1, h2 => by
    simp only [Op.bytesLess, Bool.or_eq_false_iff, Bool.and_eq_false_iff, decide_eq_false_iff_not] at *
    have hab : a = b := by
      rcases UInt8.lt_or_lt_of_ne (a := a) (b := b) |> fun _ => Classical.em (a = b) with e | e
      · exact e
      · rcases UInt8.lt_or_lt_of_ne e with h | h
        · exact absurd h h1.1
        · exact absurd h h2.1
    subst hab
    have e1 := h1.2.resolve_left (by simp)
    have e2 := h2.2.resolve_left (by simp)
    rw [less_tot e1 e2]
/-- One text stands ahead of the other. -/
def lessT (a b : ByteArray) : Bool := Op.bytesLess a.toList b.toList
theorem toList_inj {a b : ByteArray} (h : a.toList = b.toList) : a = b := ByteArray.ext (Array.toList_inj.mp (by rw [← ByteArray.toList_eq, ← ByteArray.toList_eq, h]))
def cmpT (a b : ByteArray) : Int := if lessT a b then -1 else if lessT a b || a.toList == b.toList then 0 else 1
def cmpQ (x y : QV) : Int := cmpT x.m.topic y.m.topic
theorem ltT (a b : ByteArray) : decide (cmpT a b < 0) = lessT a b := by
  unfold cmpT
  cases lessT a b with
  | true => simp
  | false => cases a.toList == b.toList <;> simp
theorem ltQ (x y : QV) : ltOf cmpQ x y = lessT x.m.topic y.m.topic := by
  unfold ltOf cmpQ
  exact ltT _ _
theorem swoQ : SWO (ltOf cmpQ) where
  irrefl x := by rw [ltQ]; exact less_irr _
  trans x y z h1 h2 := by rw [ltQ] at *; exact less_trans h1 h2
  ntrans x y z h1 h2 := by
    rw [ltQ] at *
    unfold lessT at *
    cases h : Op.bytesLess x.m.topic.toList z.m.topic.toList with
    | false => rfl
    | true =>
      exfalso
      cases hyx : Op.bytesLess y.m.topic.toList x.m.topic.toList with
      | true =>
        have h3 := less_trans hyx h
        rw [h2] at h3
        cases h3
      | false =>
        have e := less_tot h1 hyx
        rw [e] at h
        rw [h2] at h
        cases h
theorem isNaN_any (a : ByteArray) (W : World) : Calls Tryd.prog 78 #[.string a] W fun e w' => e = .returned (.bool false) ∧ W = w' := by
  go_enter Tryd.func78, Tryd.ntmps78
  go_wp2
  go_ret
  exact ⟨rfl, rfl⟩
theorem compareT_any (a b : ByteArray) (W : World) : Calls Tryd.prog 62 #[.string a, .string b] W fun e w' => e = .returned (.int .i64 (cmpT a b)) ∧ w' = W := by
  have HN := Lib.hid (fun s => isNaN_any s W)
  have hc : (if lessT a b then (-1 : Int) else if lessT a b || a.toList == b.toList then 0 else 1) = cmpT a b := rfl
  rw [← hc]
  clear hc
  unfold lessT
  generalize hl : Op.bytesLess a.toList b.toList = l
  generalize he : (a.toList == b.toList) = q
  go_enter Tryd.func62, Tryd.ntmps62
  cases l <;> cases q
  all_goals
    go_wp2_with (go_at_call 78; refine (HN.out _).mono ?_; rintro e w' ⟨rfl, rfl⟩)
    go_ret
    exact ⟨rfl, rfl⟩
end Go.Proofs.YtfmkeapbddhndaaDoor

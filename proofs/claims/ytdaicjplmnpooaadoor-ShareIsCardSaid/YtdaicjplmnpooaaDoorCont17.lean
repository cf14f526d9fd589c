/- What is proved here: whether a text has one of the two signs, as the library tells it, for a text of more than eight bytes or of ASCII alone; the texts and keys of shares; strategies. Condition: few bytes. -/
import Derived.Test.YtdaicjplmnpooaaDoorJoin16
import Derived.Test.YtdaicjplmnpooaaDoorShel2
namespace Go.Proofs.YtdaicjplmnpooaaDoor
open Go.RowKit Go.Extern.Stop Go.Stop Go.Extern

theorem index_any (l : BL) : decide ((0 : Int) ≤ Lib.indexAny l [43, 35]) = signB l := by
  induction l with
  | nil => rfl
  | cons b l ih =>
    have hg := Lib.indexAny_ge [43, 35] l
    by_cases hb : b = 43 ∨ b = 35
    · rw [Lib.indexAny, if_pos (by rcases hb with rfl | rfl <;> decide)]
      have : signB (b :: l) = true := by
        unfold signB hasB
        rcases hb with rfl | rfl <;> simp
      rw [this]
      decide
    · rw [not_or] at hb
      rw [Lib.indexAny, if_neg (by simp; exact hb)]
      have : signB (b :: l) = signB l := by
        unfold signB hasB
        have h1 : ((43 : UInt8) == b) = false := beq_eq_false_iff_ne.2 (fun e => hb.1 e.symm)
        have h2 : ((35 : UInt8) == b) = false := beq_eq_false_iff_ne.2 (fun e => hb.2 e.symm)
        rw [List.contains_cons, List.contains_cons, h1, h2]
        simp
      rw [this, ← ih]
      by_cases hi : Lib.indexAny l [43, 35] = -1
      · rw [hi]; rfl
      · have e : (Lib.indexAny l [43, 35] == -1) = false := beq_eq_false_iff_ne.2 hi
        rw [e]
        simp only [Bool.false_eq_true, if_false]
        exact decide_eq_decide.2 (by omega)
theorem zero137 (w : World) : (zeroValue 137).run Tryd.prog w = .ok (.agg (Array.replicate 256 (.bool false))) w := by kernel_rfl
theorem two_ascii : ∀ (j : Nat) b, (⟨#[43, 35]⟩ : ByteArray).data.toList[j]? = some b → b.toNat < 128 := by
  intro j b h
  rcases j with _ | _ | j
  · simp at h; subst h; decide
  · simp at h; subst h; decide
  · simp at h
/-- A text whose signs the library's own contracts tell. -/
def Told (s : ByteArray) : Prop := 8 < s.size ∨ ∀ (j : Nat) b, s.data.toList[j]? = some b → b.toNat < 128
section
variable {w : World}
theorem indexAny_told (s : ByteArray) (hm : s.size ≤ 1000000) (h : Told s) : Calls Tryd.prog 104 #[.string s, .string ⟨#[43, 35]⟩] w fun x w' => x = .returned (.int .i64 (Lib.indexAny (ls s) [43, 35])) ∧ Below w.heap.size w w' := by
  by_cases h8 : 8 < s.size
  · refine (Tryd.strings_IndexAny_long zero137 s ⟨#[43, 35]⟩ w (by decide) h8 (by omega) (by decide) two_ascii).mono ?_
    rintro x w' ⟨rfl, rfl⟩
    exact ⟨rfl, ((Below.refl _ _).alloc (Nat.le_refl _) _).alloc (by simp) _⟩
  · refine (Tryd.strings_IndexAny_short s ⟨#[43, 35]⟩ w (by decide) (by omega) (h.resolve_left h8)).mono ?_
    rintro x w' ⟨rfl, p, rfl⟩
    exact ⟨rfl, below_iter _ _ _⟩
theorem contains_told (s : ByteArray) (hm : s.size ≤ 1000000) (h : Told s) : Calls Tryd.prog 81 #[.string s, .string ⟨#[43, 35]⟩] w fun x w' => x = .returned (.bool (signB (ls s))) ∧ Below w.heap.size w w' := by
  have H := Lib.hid (indexAny_told (w := w) s hm h)
  have E := Lib.hid (index_any (ls s))
  clear h
  generalize Lib.indexAny (ls s) [43, 35] = i at *
  go_enter Tryd.func81, Tryd.ntmps81
  go_wp2_with fail
  refine (H.out).mono ?_
  rintro x w1 ⟨rfl, hb⟩
  have HB := Lib.hid hb
  clear hb
  go_wp2_with fail
  go_ret
  exact ⟨ret_bool E.out, HB.out⟩
/-- A share, as a value. -/
def shV (b : Bool) (g f : ByteArray) : Value := .agg #[.bool b, .string g, .string f]
theorem key_any (fn : Nat) (hfn : fn = 43 ∨ fn = 44) (b : Bool) (g f : ByteArray) (hg : g.size ≤ 1000000) (hf : f.size ≤ 1000000) : Calls Tryd.prog fn #[.agg #[.bool b, .string g, .string f]] w fun x w' => x = .returned (.string (g ++ ⟨#[47]⟩ ++ f)) ∧ Below w.heap.size w w' := by
  rcases hfn with rfl | rfl
  · go_enter Tryd.func43, Tryd.ntmps43
    go_wp2_with fail
    go_ret
    exact ⟨rfl, (Below.refl _ _).alloc (Nat.le_refl _) _⟩
  · go_enter Tryd.func44, Tryd.ntmps44
    go_wp2_with fail
    go_ret
    exact ⟨rfl, (Below.refl _ _).alloc (Nat.le_refl _) _⟩
def sShare : ByteArray := ⟨#[36, 115, 104, 97, 114, 101, 47]⟩
def textOf (b : Bool) (g f : ByteArray) : ByteArray := if b then sShare ++ (g ++ ⟨#[47]⟩ ++ f) else f
theorem text_any (b : Bool) (g f : ByteArray) (hg : g.size ≤ 1000000) (hf : f.size ≤ 1000000) : Calls Tryd.prog 41 #[.agg #[.bool b, .string g, .string f]] w fun x w' => x = .returned (.string (textOf b g f)) ∧ Below w.heap.size w w' := by
  cases b with
  | false =>
    go_enter Tryd.func41, Tryd.ntmps41
    go_wp2_with fail
    go_ret
    exact ⟨rfl, (Below.refl _ _).alloc (Nat.le_refl _) _⟩
  | true =>
    have HK := Lib.hid (fun w => key_any (w := w) 43 (.inl rfl) true g f hg hf)
    have hks : (g ++ ⟨#[47]⟩ ++ f).size ≤ 3000000 := by rw [← ls_size, ls_app, ls_app, List.length_append, List.length_append, ls_size, ls_size]; show g.size + 1 + f.size ≤ _; omega
    have HT := Lib.hid (show textOf true g f = (⟨#[36, 115, 104, 97, 114, 101, 47]⟩ : ByteArray) ++ (g ++ ⟨#[47]⟩ ++ f) from rfl)
    generalize g ++ ⟨#[47]⟩ ++ f = k at *
    go_enter Tryd.func41, Tryd.ntmps41
    go_wp2_with fail
    refine (HK.out _).mono ?_
    rintro x w1 ⟨rfl, hb⟩
    have HB := Lib.hid (((Below.refl w.heap.size w).alloc (Nat.le_refl _) _).trans (hb.mono (by simp)))
    clear hb
    go_wp2_with fail
    go_ret
    exact ⟨ret_str HT.out.symm, HB.out⟩
end
end Go.Proofs.YtdaicjplmnpooaaDoor

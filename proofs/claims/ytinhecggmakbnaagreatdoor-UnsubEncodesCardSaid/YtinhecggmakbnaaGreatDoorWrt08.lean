/- What is proved here: the document's writer among the blocks of a call's own. Conditions: those that each theorem names. -/
import Derived.Test.YtinhecggmakbnaaGreatDoorMad08
import Derived.Test.YtinhecggmakbnaaGreatDoorLawC06
namespace Go.Proofs.YtinhecggmakbnaaGreatDoor
set_option maxRecDepth 100000
open Go.RowKit Go.Extern.Stop Go.Stop Go.Extern
section
variable {X : List Nat} {w0 w w' : World} {L : OL} {g : Nat} {c : Array Value} {V : EV} {l : List UInt8} {a : Nat}
theorem Own.wr (h : Own X w0 w L) (i : Nat) (hi : L[i]? = some (g, 75, #[.string ⟨l.toArray⟩, .int .i64 V.no, .int .i64 a])) (h1 : V.no = 0 → l = V.L) (h2 : V.no ≠ 0 → a = V.at_) : RWObj w g V := ⟨l, a, h.get i hi, h1, h2⟩
theorem Own.wstep (h : Own X w0 w L) (i : Nat) (hi : L[i]? = some (g, 75, c)) (hn : RWNext w w' g V) : ∃ (l : List UInt8) (a : Nat), Own X w0 w' (L.set i (g, 75, #[.string ⟨l.toArray⟩, .int .i64 V.no, .int .i64 a])) ∧ (V.no = 0 → l = V.L) ∧ (V.no ≠ 0 → a = V.at_) := by
  obtain ⟨⟨l, a, hb, h1, h2⟩, hf⟩ := hn
  exact ⟨l, a, h.put i hi hf hb, h1, h2⟩
theorem encA_1 (n : Int) (s : ByteArray) : encA ⟨1, n, s⟩ = numE 1 n := by unfold encA; rw [if_pos rfl]
theorem encA_2 (n : Int) (s : ByteArray) : encA ⟨2, n, s⟩ = numE 2 n := by unfold encA; simp
theorem encA_6 (n : Int) (s : ByteArray) : encA ⟨6, n, s⟩ = textE s := by unfold encA; simp
theorem encA_7 (n : Int) (s : ByteArray) : encA ⟨7, n, s⟩ = binE s := by unfold encA; simp
theorem encA_8 (n : Int) (l : List UInt8) : encA ⟨8, n, ⟨l.toArray⟩⟩ = ⟨0, 0, l⟩ := by unfold encA; simp
theorem rwdo_num1 (h : RWObj w g V) (hl : V.L.length ≤ 900000) (n : Int) : Calls Tryz.prog 57 #[.pointer (some ⟨g, 0, none⟩), .agg #[.int .i64 1, .int .i64 n, .string ⟨#[]⟩]] w fun x w' => x = .returned (.tuple #[]) ∧ RWNext w w' g (stepW V (numE 1 n)) := by
  have h := rwdo_any h hl ⟨1, n, ⟨#[]⟩⟩ (Nat.zero_le _)
  rw [encA_1] at h
  exact h
theorem rwdo_num2 (h : RWObj w g V) (hl : V.L.length ≤ 900000) (n : Int) : Calls Tryz.prog 57 #[.pointer (some ⟨g, 0, none⟩), .agg #[.int .i64 2, .int .i64 n, .string ⟨#[]⟩]] w fun x w' => x = .returned (.tuple #[]) ∧ RWNext w w' g (stepW V (numE 2 n)) := by
  have h := rwdo_any h hl ⟨2, n, ⟨#[]⟩⟩ (Nat.zero_le _)
  rw [encA_2] at h
  exact h
theorem rwdo_raw (h : RWObj w g V) (hl : V.L.length ≤ 900000) (l : List UInt8) (hs : l.length ≤ 65535) : Calls Tryz.prog 57 #[.pointer (some ⟨g, 0, none⟩), .agg #[.int .i64 8, .int .i64 0, .string ⟨l.toArray⟩]] w fun x w' => x = .returned (.tuple #[]) ∧ RWNext w w' g (stepW V ⟨0, 0, l⟩) := by
  have h := rwdo_any h hl ⟨8, 0, ⟨l.toArray⟩⟩ (by rw [bsize]; exact hs)
  rw [encA_8] at h
  exact h
theorem w0_obj (h : Own X w0 w L) (i : Nat) (hi : L[i]? = some (g, 75, #[.string ⟨#[]⟩, .int .i64 0, .int .i64 0])) : RWObj w g Go.Proofs.YtinhecggmakbnaaGreatDoor.w0 := ⟨[], 0, h.get i hi, fun _ => rfl, fun h => absurd rfl h⟩
end
theorem frf_ok {P : Program} {f : FuncId} {args : Array Value} {w : World} {first : Int} {t : ByteArray} (h : Calls P f args w (FrF w ⟨e00, first, t⟩)) : Calls P f args w fun x w' => x = .returned (.tuple #[.agg #[.int .i64 first, .string t], .agg #[.int .i64 0, .int .i64 0, .int .i64 0]]) ∧ Below w.heap.size w w' := h.mono fun _ _ h => ⟨h.1, h.2⟩
theorem frf_bad {P : Program} {f : FuncId} {args : Array Value} {w : World} {first : Int} {t : ByteArray} {no at_ : Nat} {r : Int} (h : Calls P f args w (FrF w ⟨⟨no, r, at_⟩, first, t⟩)) : Calls P f args w fun x w' => x = .returned (.tuple #[.agg #[.int .i64 first, .string t], .agg #[.int .i64 no, .int .i64 r, .int .i64 at_]]) ∧ Below w.heap.size w w' := h.mono fun _ _ h => ⟨h.1, h.2⟩
theorem frR_eq (V : EV) (first : Int) (e : Er) {t : ByteArray} (ht : t = ⟨V.L.toArray⟩) : frR V first e = if V.no = 0 then if e.no = 0 then ⟨e00, first, t⟩ else ⟨e, 0, ⟨#[]⟩⟩ else ⟨⟨V.no, 129, V.at_⟩, 0, ⟨#[]⟩⟩ := by rw [ht]; rfl
end Go.Proofs.YtinhecggmakbnaaGreatDoor

/- What is proved here: nobody's aliases, of either kind: what a topic and an alias come to by them; what the functions of the faults say of what is told. Conditions: ErrProtocol is laid; the errors are laid. -/
import Derived.Test.YtldpdhliigkboaaDoorInT26
import Derived.Test.YtldpdhliigkboaaDoorEnv
namespace Go.Proofs.YtldpdhliigkboaaDoor
open Go.RowKit Go.Extern.Stop Go.Stop Go.Extern Go.Maps
/-- A pointer to aliases that nobody made. -/
def NoIn (w : World) (pv : Value) : Prop := pv = .pointer none ∨ ∃ g, pv = .pointer (some ⟨g, 0, none⟩) ∧ Blk w g 33 #[.int .i64 0, .slice none 0 0]
/-- The reason that nobody's aliases give. -/
def noI (t : ByteArray) (al : Int) : ByteArray × Int := if al = 0 then (t, if t = e0 then 130 else 0) else (e0, 148)
section
variable {w w' : World} {s : Addr}
theorem no_topic {pv : Value} (hp : ProtoAt w s) (h : NoIn w pv) (t : ByteArray) (al : Int) (hal : (Lit.int .i64 al).wf = true) : Calls Tryd.prog 9 #[pv, .string t, .int .i64 al] w fun x w' => ∃ e, x = .returned (.tuple #[.string (noI t al).1, e]) ∧ ErrSays26 w' s (noI t al).2 e ∧ Below w.heap.size w w' := by
  unfold noI
  by_cases h0 : al = 0
  · subst h0
    rw [if_pos rfl]
    have HM := Lib.hid (orm_any hp t)
    dsimp only
    generalize (if t = e0 then (130 : Int) else 0) = q at *
    clear hp
    rcases h with rfl | ⟨g, rfl, hb⟩
    all_goals
      go_enter Tryd.func9, Tryd.ntmps9
      go_wp2_with fail
      refine HM.out.mono ?_
      rintro x w1 ⟨e, rfl, hf, hb⟩
      have HE := Lib.hid hf
      have HB := Lib.hid hb
      clear hf hb HM
      go_wp2_with fail
      go_ret2
      exact ⟨_, rfl, HE.out, HB.out⟩
  · rw [if_neg h0]
    dsimp only
    have HF := Lib.hid (fun (w1 : World) (k : Nat) (hk : Blk w1 k 71 #[.int .i64 148, .int .i64 0, .iface 110 (.pointer (some s))]) => show ErrSays26 w1 s 148 (.iface 68 (.pointer (some ⟨k, 0, none⟩))) from .inr ⟨by decide, k, rfl, hk⟩)
    have HN := Lib.hid (fun W => new_any 148 0 110 (.pointer (some s)) W)
    unfold ProtoAt at hp
    rcases h with rfl | ⟨g, rfl, hb⟩
    · go_enter Tryd.func9, Tryd.ntmps9
      go_wp2_with fail
      refine (HN.out _).mono ?_
      rintro x w1 ⟨rfl, rfl⟩
      go_wp2_with fail
      go_ret2
      exact ⟨_, rfl, HF.out _ _ (Blk.made w 71 _), (Below.refl _ _).alloc (Nat.le_refl _) _⟩
    · have c0 := hb.cell 0
      rcases (show al < 0 ∨ 0 < al by omega) with h1 | h1
      all_goals
        clear hb
        go_enter Tryd.func9, Tryd.ntmps9
        go_wp2_with fail
        refine (HN.out _).mono ?_
        rintro x w1 ⟨rfl, rfl⟩
        go_wp2_with fail
        go_ret2
        exact ⟨_, rfl, HF.out _ _ (Blk.made w 71 _), (Below.refl _ _).alloc (Nat.le_refl _) _⟩
end
end Go.Proofs.YtldpdhliigkboaaDoor

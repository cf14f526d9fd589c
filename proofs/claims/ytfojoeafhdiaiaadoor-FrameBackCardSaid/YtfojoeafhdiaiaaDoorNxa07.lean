/- What is proved here: Next of a Splitter in all its cases, as one plain step. Conditions: the splitter is there, with few bytes; what the rows list of the package's variables. -/
import Derived.Test.YtfojoeafhdiaiaaDoorAwk07
import Derived.Test.YtfojoeafhdiaiaaDoorMth07
namespace Go.Proofs.YtfojoeafhdiaiaaDoor
set_option maxRecDepth 100000
open Go.RowKit Go.Extern.Stop Go.Stop Go.Extern
/-- What one Next leaves, and the packet that it gives. -/
def stepN (V : SV) : SV × Option FP :=
  if V.no ≠ 0 then (V, none)
  else if (headF V.most V.R).no ≠ 0 then (⟨V.most, V.R, (headF V.most V.R).no, (headF V.most V.R).r, (headF V.most V.R).a, V.R.length⟩, none)
  else if whole (headF V.most V.R) V.R then (⟨V.most, V.R.drop (headF V.most V.R).z, 0, V.r, V.a, V.lost⟩, some (fpOf V.R (headF V.most V.R)))
  else (V, none)
section
variable {w w' w2 : World} {S : Nat → Addr} {B g p p' : Nat} {v v' v2 : Value} {V V' V2 : SV} {X : List Nat} {L L' : List UInt8}
/-- What Next says. -/
def NxSays (w : World) (S : Nat → Addr) (B g : Nat) (v : Value) (m : Nat) (o : SV × Option FP) (x : Ending) (w' : World) : Prop :=
  match o.2 with
  | none => NoSays w S B g v m o.1 x w'
  | some f => PkSays w S B g v m f.1 f.2 o.1 x w'
theorem NoSays.mono {m m' : Nat} {x : Ending} (h : NoSays w S B g v m V' x w') (hm : m ≤ m') : NoSays w S B g v m' V' x w' := by
  obtain ⟨e, he, hx, v', L', p', hn, hl⟩ := h
  exact ⟨e, he, hx, v', L', p', hn, Nat.le_trans hl hm⟩
theorem next_any (hE : Env w S) (h : SObj w S B g v L p V) (hl : L.length ≤ 900000) :
    Calls Tryd.prog 43 #[.pointer (some ⟨g, 0, none⟩)] w (NxSays w S B g v L.length (stepN V)) := by
  by_cases h0 : V.no = 0
  · by_cases h1 : (headF V.most V.R).no = 0
    · by_cases h2 : whole (headF V.most V.R) V.R
      · have e : stepN V = (⟨V.most, V.R.drop (headF V.most V.R).z, 0, V.r, V.a, V.lost⟩, some (fpOf V.R (headF V.most V.R))) := by
          unfold stepN
          rw [if_neg (fun h => h h0), if_neg (fun h => h h1), if_pos h2]
        rw [e]
        exact next_some hE h h0 hl _ rfl h1 h2.2.1 h2.2.2
      · have e : stepN V = (V, none) := by
          unfold stepN
          rw [if_neg (fun h => h h0), if_neg (fun h => h h1), if_neg h2]
        rw [e]
        exact next_none hE h h0 hl _ rfl h1 (by
          rcases Nat.eq_zero_or_pos (headF V.most V.R).z with hz | hz
          · exact .inl hz
          · refine .inr ?_
            rcases Nat.lt_or_ge V.R.length (headF V.most V.R).z with hh | hh
            · exact hh
            · exact absurd ⟨h1, hz, hh⟩ h2)
    · have e : stepN V = (⟨V.most, V.R, (headF V.most V.R).no, (headF V.most V.R).r, (headF V.most V.R).a, V.R.length⟩, none) := by
        unfold stepN
        rw [if_neg (fun h => h h0), if_pos h1]
      rw [e]
      exact (next_bad hE h h0 hl _ rfl h1).mono fun x w' hx => NoSays.mono hx (Nat.zero_le _)
  · have e : stepN V = (V, none) := by
      unfold stepN
      rw [if_pos h0]
    rw [e]
    exact next_err h h0
end
/-- What all the Nexts leave, as drain calls them, and the packets. -/
def drainV (V : SV) : SV :=
  if V.no ≠ 0 then V
  else if (allF V.most V.R).no ≠ 0 then ⟨V.most, (allF V.most V.R).rest, (allF V.most V.R).no, (allF V.most V.R).r, (allF V.most V.R).a, (allF V.most V.R).rest.length⟩
  else ⟨V.most, (allF V.most V.R).rest, 0, V.r, V.a, V.lost⟩
def drainP (V : SV) : List FP := if V.no ≠ 0 then [] else (allF V.most V.R).pk
theorem drain_some {V V' : SV} {f : FP} (h : stepN V = (V', some f)) : V'.no = 0 ∧ V'.R.length + 2 ≤ V.R.length ∧ drainP V = f :: drainP V' ∧ drainV V = drainV V' := by
  unfold stepN at h
  by_cases h0 : V.no = 0
  · rw [if_neg (fun h => h h0)] at h
    by_cases h1 : (headF V.most V.R).no = 0
    · rw [if_neg (fun h => h h1)] at h
      by_cases h2 : whole (headF V.most V.R) V.R
      · rw [if_pos h2] at h
        injection h with e1 e2
        injection e2 with e2
        subst e1
        subst e2
        have hz := head_two V.most V.R h2.2.1
        have hz2 := h2.2.2
        refine ⟨rfl, ?_, ?_, ?_⟩
        · show (V.R.drop (headF V.most V.R).z).length + 2 ≤ V.R.length
          rw [List.length_drop]
          omega
        · unfold drainP
          rw [if_neg (fun h => h h0), if_neg (fun h => h rfl), allF_whole h2]
        · have e : drainV ⟨V.most, V.R.drop (headF V.most V.R).z, 0, V.r, V.a, V.lost⟩ = (if (allF V.most (V.R.drop (headF V.most V.R).z)).no ≠ 0 then ⟨V.most, (allF V.most (V.R.drop (headF V.most V.R).z)).rest, (allF V.most (V.R.drop (headF V.most V.R).z)).no, (allF V.most (V.R.drop (headF V.most V.R).z)).r, (allF V.most (V.R.drop (headF V.most V.R).z)).a, (allF V.most (V.R.drop (headF V.most V.R).z)).rest.length⟩ else ⟨V.most, (allF V.most (V.R.drop (headF V.most V.R).z)).rest, 0, V.r, V.a, V.lost⟩) := rfl
          rw [e]
          unfold drainV
          rw [if_neg (fun h => h h0), allF_whole h2]
      · rw [if_neg h2] at h
        injection h with e1 e2
        cases e2
    · rw [if_pos h1] at h
      injection h with e1 e2
      cases e2
  · rw [if_pos h0] at h
    injection h with e1 e2
    cases e2
theorem drain_none {V V' : SV} (h : stepN V = (V', none)) : drainP V = [] ∧ drainV V = V' := by
  unfold stepN at h
  by_cases h0 : V.no = 0
  · rw [if_neg (fun h => h h0)] at h
    by_cases h1 : (headF V.most V.R).no = 0
    · rw [if_neg (fun h => h h1)] at h
      by_cases h2 : whole (headF V.most V.R) V.R
      · rw [if_pos h2] at h
        injection h with e1 e2
        cases e2
      · rw [if_neg h2] at h
        injection h with e1 e2
        subst e1
        have hp := allF_part h2 h1
        refine ⟨?_, ?_⟩
        · unfold drainP
          rw [if_neg (fun h => h h0), hp]
        · unfold drainV
          rw [if_neg (fun h => h h0), hp, if_neg (fun h => h rfl)]
          obtain ⟨a, b, c, d, e, f⟩ := V
          simp only at h0 ⊢
          rw [h0]
    · rw [if_pos h1] at h
      injection h with e1 e2
      subst e1
      have hp := allF_bad h1
      refine ⟨?_, ?_⟩
      · unfold drainP
        rw [if_neg (fun h => h h0), hp]
      · unfold drainV
        rw [if_neg (fun h => h h0), hp, if_pos h1]
  · rw [if_pos h0] at h
    injection h with e1 e2
    subst e1
    refine ⟨?_, ?_⟩
    · unfold drainP
      rw [if_pos h0]
    · unfold drainV
      rw [if_pos h0]
end Go.Proofs.YtfojoeafhdiaiaaDoor

/- What is proved here: the run that the statements of retained messages come to where there are too many: it answers true. Condition: the two errors that a check names. -/
import Derived.Test.YtfmkeapbddhndaaDoorNop19
namespace Go.Proofs.YtfmkeapbddhndaaDoor
open Go.RowKit Go.Extern.Stop Go.Stop Go.Extern Go.Maps Go.Deep
set_option maxRecDepth 100000
/-- A store of the walk's own. -/
structure AwS (w W : World) (g bm : Nat) (most : Int) (L : QL) : Prop where
  st : StI W g bm most L
  bel : Below w.heap.size w W
  ge : w.heap.size ≤ g ∧ w.heap.size ≤ bm
section
variable {w W W' : World} {g bm : Nat} {most : Int} {L L' : QL}
theorem AwS.below (h : AwS w W g bm most L) (hb : Below W.heap.size W W') : AwS w W' g bm most L := ⟨h.st.below hb, h.bel.trans (hb.mono h.bel.size), h.ge⟩
theorem AwS.on (h : AwS w W g bm most L) (h2 : St2 W g bm most L' W') : AwS w W' g bm most L' :=
  ⟨h2.1, h2.2.later h.bel (fun b hb => by rw [List.mem_singleton.1 hb]; exact h.ge.2) h.bel.size, h.ge⟩
end
def mv19 (t p : ByteArray) (u : Int) : MV := ⟨t, p, 0, false, [], ⟨#[]⟩, u, 0, ⟨#[]⟩⟩
def qv19 (t p : ByteArray) (u : Int) : QV := ⟨mv19 t p u, none, 0⟩
theorem builtA (t p : ByteArray) : Tryd.prog.built 57 [(0, .string t), (1, .string p)] = some (qv19 t p 0).cells.toArray := by kernel_rfl
theorem builtB (t p : ByteArray) (u : Int) : Tryd.prog.built 57 [(0, .string t), (1, .string p), (6, .int .i64 u)] = some (qv19 t p u).cells.toArray := by kernel_rfl
theorem name_a : nameB ⟨#[97]⟩ = true := by kernel_rfl
theorem name_b : nameB ⟨#[98]⟩ = true := by kernel_rfl
theorem mat_a : matchB ⟨#[35]⟩ ⟨#[97]⟩ = true := by kernel_rfl
def LA19 (pa : Option Addr) (pc : Nat) : QL := [⟨mv19 ⟨#[97]⟩ ⟨#[120]⟩ 0, pa, pc⟩]
def LB19 (pa : Option Addr) (pc : Nat) : QL := [⟨mv19 ⟨#[97]⟩ ⟨#[121]⟩ 5, pa, pc⟩]
theorem sizLB (pa : Option Addr) (pc : Nat) : ∀ q ∈ LB19 pa pc, q.m.topic.size ≤ 1000 := fun q hq => by
  rw [List.mem_singleton.1 hq]
  exact (by decide : (⟨#[97]⟩ : ByteArray).size ≤ 1000)
theorem ne_bytes {a b : ByteArray} (h : a.data.toList ≠ b.data.toList) : a ≠ b := fun e => h (by rw [e])
section
variable {w W : World} {g bm : Nat} {S : Nat → Addr}
theorem aw_put1 (h : AwS w W g bm 1 []) (he : EnvT w S) : Calls Tryd.prog 26 #[.pointer (some ⟨g, 0, none⟩), .agg (qv19 ⟨#[97]⟩ ⟨#[120]⟩ 0).cells.toArray] W fun x w' => x = .returned (.bool true) ∧ ∃ pa pc, AwS w w' g bm 1 (LA19 pa pc) :=
  (sput_more h.st (qv19 ⟨#[97]⟩ ⟨#[120]⟩ 0) (B := 0) (PIn.nil _ _ _) (Nat.zero_le _) (by decide) (he.later h.bel) name_a (ne_bytes (by decide)) (q1 := q0) (b := false) (.inr ⟨rfl, rfl, by simp [tops]⟩) (by decide)).mono fun x w' hp => by
    rcases hp with ⟨_, ⟨_, hc⟩, _⟩ | ⟨hx, _, pa, pc, hs⟩
    · simp at hc
    · exact ⟨hx, pa, pc, h.on hs⟩
theorem aw_put2 {pa : Option Addr} {pc : Nat} (h : AwS w W g bm 1 (LA19 pa pc)) (he : EnvT w S) : Calls Tryd.prog 26 #[.pointer (some ⟨g, 0, none⟩), .agg (qv19 ⟨#[98]⟩ ⟨#[120]⟩ 0).cells.toArray] W fun x w' => x = .returned (.bool false) ∧ AwS w w' g bm 1 (LA19 pa pc) :=
  (sput_more h.st (qv19 ⟨#[98]⟩ ⟨#[120]⟩ 0) (B := 0) (PIn.nil _ _ _) (Nat.zero_le _) (by decide) (he.later h.bel) name_b (ne_bytes (by decide)) (q1 := q0) (b := false) (.inr ⟨rfl, rfl, fun hm => by simp [tops, LA19, mv19, qv19] at hm⟩) (by simp [LA19])).mono fun x w' hp => by
    rcases hp with ⟨hx, _, hb⟩ | ⟨_, hc, _⟩
    · exact ⟨hx, h.below hb⟩
    · rcases hc with hc | hc
      · cases hc
      · exact absurd (by simp [LA19]) hc
theorem aw_put3 {pa : Option Addr} {pc : Nat} (h : AwS w W g bm 1 (LA19 pa pc)) (he : EnvT w S) : Calls Tryd.prog 26 #[.pointer (some ⟨g, 0, none⟩), .agg (qv19 ⟨#[97]⟩ ⟨#[121]⟩ 5).cells.toArray] W fun x w' => x = .returned (.bool true) ∧ ∃ pa pc, AwS w w' g bm 1 (LB19 pa pc) :=
  (sput_more h.st (qv19 ⟨#[97]⟩ ⟨#[121]⟩ 5) (B := 0) (PIn.nil _ _ _) (Nat.zero_le _) (by decide) (he.later h.bel) name_a (ne_bytes (by decide)) (q1 := ⟨mv19 ⟨#[97]⟩ ⟨#[120]⟩ 0, pa, pc⟩) (b := true) (.inl ⟨rfl, List.mem_singleton_self _, rfl⟩) (by simp [LA19])).mono fun x w' hp => by
    rcases hp with ⟨_, ⟨hc, _⟩, _⟩ | ⟨hx, _, pb, pd, hs⟩
    · cases hc
    · refine ⟨hx, pb, pd, h.on ?_⟩
      have e : woT (qv19 ⟨#[97]⟩ ⟨#[121]⟩ 5).m.topic (LA19 pa pc) = [] := by simp [woT, LA19, mv19, qv19]
      rw [e] at hs
      exact hs
theorem aw_get {pa : Option Addr} {pc : Nat} (h : AwS w W g bm 1 (LB19 pa pc)) : Calls Tryd.prog 30 #[.pointer (some ⟨g, 0, none⟩), .string ⟨#[97]⟩] W fun x w' => (∃ qa qc, x = .returned (.tuple #[.agg (QV.cells ⟨mv19 ⟨#[97]⟩ ⟨#[121]⟩ 5, qa, qc⟩).toArray, .bool true])) ∧ AwS w w' g bm 1 (LB19 pa pc) :=
  (sget_any h.st (s := ⟨#[97]⟩) (by decide) (q := ⟨mv19 ⟨#[97]⟩ ⟨#[121]⟩ 5, pa, pc⟩) (b := true) (.inl ⟨rfl, List.mem_singleton_self _, rfl⟩)).mono fun x w' ⟨qa, qc, hx, _, hb⟩ => ⟨⟨qa, qc, hx⟩, h.below hb⟩
theorem aw_match {pa : Option Addr} {pc : Nat} (h : AwS w W g bm 1 (LB19 pa pc)) (he : EnvT w S) : Calls Tryd.prog 34 #[.pointer (some ⟨g, 0, none⟩), .string ⟨#[35]⟩] W fun x w' => (∃ A c, x = .returned (.slice A 1 c)) ∧ AwS w w' g bm 1 (LB19 pa pc) ∧ Below W.heap.size W w' :=
  (match19_any h.st (sizLB pa pc) ⟨#[35]⟩ (by decide) (he.later h.bel)).mono fun x w' ⟨v, R, hx, hr, hp, _, _, hb⟩ => by
    have hl := hp.length_eq
    rw [List.length_map, List.length_map] at hl
    have e : (LB19 pa pc).filter (mtB ⟨#[35]⟩) = LB19 pa pc := by
      unfold LB19
      rw [List.filter_cons, if_pos (show mtB ⟨#[35]⟩ ⟨mv19 ⟨#[97]⟩ ⟨#[121]⟩ 5, pa, pc⟩ = true from mat_a), List.filter_nil]
    rw [e] at hl
    obtain ⟨A, c, rfl⟩ := hr.form
    exact ⟨⟨A, c, by rw [hx, hl]; rfl⟩, h.below hb, hb⟩
theorem aw_exp4 {pa : Option Addr} {pc : Nat} (h : AwS w W g bm 1 (LB19 pa pc)) : Calls Tryd.prog 28 #[.pointer (some ⟨g, 0, none⟩), .int .i64 4] W fun x w' => x = .returned (.int .i64 0) ∧ AwS w w' g bm 1 (LB19 pa pc) :=
  (sexp_any h.st (sizLB pa pc) 4).mono fun x w' ⟨hx, hs⟩ => by
    have e : (LB19 pa pc).filter (kpB 4) = LB19 pa pc := rfl
    rw [e] at hx hs
    exact ⟨by rw [hx]; simp [LB19], h.on hs⟩
theorem aw_exp5 {pa : Option Addr} {pc : Nat} (h : AwS w W g bm 1 (LB19 pa pc)) : Calls Tryd.prog 28 #[.pointer (some ⟨g, 0, none⟩), .int .i64 5] W fun x w' => x = .returned (.int .i64 1) ∧ AwS w w' g bm 1 [] :=
  (sexp_any h.st (sizLB pa pc) 5).mono fun x w' ⟨hx, hs⟩ => by
    have e : (LB19 pa pc).filter (kpB 5) = [] := rfl
    rw [e] at hx hs
    exact ⟨by rw [hx]; simp [LB19], h.on hs⟩
end
set_option maxHeartbeats 8000000 in
theorem awake19 {S : Nat → Addr} (w : World) (he : EnvT w S) : Calls Tryd.prog 24 #[] w fun x w' => x = .returned (.bool true) ∧ Below w.heap.size w w' := by
  have HE := Lib.hid he
  have HN := Lib.hid (snew_any 1 w)
  have B1 := Lib.hid (builtA ⟨#[97]⟩ ⟨#[120]⟩)
  have B2 := Lib.hid (builtA ⟨#[98]⟩ ⟨#[120]⟩)
  have B3 := Lib.hid (builtB ⟨#[97]⟩ ⟨#[121]⟩ 5)
  clear he
  go_enter Tryd.func24, Tryd.ntmps24
  go_wp2_with fail
  refine HN.out.mono ?_
  rintro x w1 ⟨g, bm, rfl, hs, hg, hb, hbel⟩
  have A1 := Lib.hid (show AwS w w1 g bm 1 [] from ⟨hs, hbel, hg, hb⟩)
  have P1 := Lib.hid (aw_put1 A1.out HE.out)
  clear hs hg hb hbel HN
  generalize (qv19 ⟨#[97]⟩ ⟨#[120]⟩ 0).cells.toArray = c1 at *
  go_wp2_with (refine wpo_built B1.out rfl rfl rfl ?_; simp only [Act.put, List.setIfInBounds_toArray, List.set_cons_zero, List.set_cons_succ])
  refine P1.out.mono ?_
  rintro x w2 ⟨rfl, pa, pc, hA⟩
  have A2 := Lib.hid hA
  have P2 := Lib.hid (aw_put2 A2.out HE.out)
  clear hA P1 A1 B1
  generalize (qv19 ⟨#[98]⟩ ⟨#[120]⟩ 0).cells.toArray = c2 at *
  go_wp2_with (refine wpo_built B2.out rfl rfl rfl ?_; simp only [Act.put, List.setIfInBounds_toArray, List.set_cons_zero, List.set_cons_succ])
  refine P2.out.mono ?_
  rintro x w3 ⟨rfl, hA⟩
  have A3 := Lib.hid hA
  have P3 := Lib.hid (aw_put3 A3.out HE.out)
  clear hA P2 A2 B2
  generalize (qv19 ⟨#[97]⟩ ⟨#[121]⟩ 5).cells.toArray = c3 at *
  go_wp2_with (refine wpo_built B3.out rfl rfl rfl ?_; simp only [Act.put, List.setIfInBounds_toArray, List.set_cons_zero, List.set_cons_succ])
  refine P3.out.mono ?_
  rintro x w4 ⟨rfl, pb, pd, hA⟩
  have A4 := Lib.hid hA
  have G4 := Lib.hid (aw_get A4.out)
  clear hA P3 A3 B3
  go_wp2_with fail
  refine G4.out.mono ?_
  rintro x w5 ⟨⟨qa, qc, rfl⟩, hA⟩
  have A5 := Lib.hid hA
  have HC1 := Lib.hid (show (QV.cells ⟨mv19 ⟨#[97]⟩ ⟨#[121]⟩ 5, qa, qc⟩).toArray[1]? = some (.string ⟨#[121]⟩) from rfl)
  have HSZ := Lib.hid (hone19 ⟨mv19 ⟨#[97]⟩ ⟨#[121]⟩ 5, qa, qc⟩)
  have HO := Lib.hid (Own.start [] w5)
  clear hA G4 A4
  generalize (QV.cells ⟨mv19 ⟨#[97]⟩ ⟨#[121]⟩ 5, qa, qc⟩).toArray = vc at *
  go_upto_region 6 with (first
    | (refine wpo_alloc tyMs HO.out rfl rfl ?_; clear HO; rintro k5 W6 hO; have HO := Lib.hid hO; clear hO; simp only [Act.put, List.setIfInBounds_toArray, List.set_cons_zero, List.set_cons_succ])
    | (refine wpo_store (k := k5) HO.out 0 tyMs rfl _ _ rfl rfl rfl rfl rfl HSZ.out.1 HSZ.out.2 ?_; clear HO; rintro W7 hO; have HO := Lib.hid hO; clear hO; simp only [Act.put]))
  have A7 := Lib.hid (A5.out.below HO.out.bel)
  have M7 := Lib.hid (aw_match A7.out HE.out)
  clear A5
  go_wp2_with fail
  refine M7.out.mono ?_
  rintro x w8 ⟨⟨A8, c8, rfl⟩, hA, hb8⟩
  have A9 := Lib.hid hA
  have d1 := (((HO.out.get 0 rfl).below hb8 (HO.out.get 0 rfl).lt).cell 1).trans HC1.out
  have E4 := Lib.hid (aw_exp4 A9.out)
  clear hA hb8 M7 A7 A9
  go_wp2_with fail
  refine E4.out.mono ?_
  rintro x w10 ⟨rfl, hA⟩
  have A10 := Lib.hid hA
  have E5 := Lib.hid (aw_exp5 A10.out)
  clear hA E4 d1
  go_wp2_with fail
  refine E5.out.mono ?_
  rintro x w11 ⟨rfl, hA⟩
  have A11 := Lib.hid hA
  have EL := Lib.hid (slen_any A11.out.st)
  clear hA E5
  go_wp2_with fail
  refine EL.out.mono ?_
  rintro x w12 ⟨rfl, rfl⟩
  go_wp2_with fail
  go_ret
  exact ⟨rfl, A11.out.bel⟩
end Go.Proofs.YtfmkeapbddhndaaDoor

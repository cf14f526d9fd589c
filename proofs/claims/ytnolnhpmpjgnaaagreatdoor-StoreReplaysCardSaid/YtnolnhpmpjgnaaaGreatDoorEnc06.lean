/- What is proved here: the bytes of properties. Conditions: the properties stand where the slices say, few of them, of few bytes; what the rows list of the package's variables. What is proved here: the bytes of all properties, with their length ahead. Conditions: the properties stand where the slices say, few of them, of few bytes; what the rows list of the package's variables. -/
import Derived.Test.YtnolnhpmpjgnaaaGreatDoorChk06
import Derived.Test.YtnolnhpmpjgnaaaGreatDoorWlw04
namespace Go.Proofs.YtnolnhpmpjgnaaaGreatDoor
set_option maxRecDepth 100000
open Go.RowKit Go.Extern.Stop Go.Stop Go.Extern
/-- The fields of a property, behind its identifier. -/
def bodyP (p : PV) : List FV :=
  if typeI p.id = 6 then [⟨6, 0, p.s⟩] else if typeI p.id = 7 then [⟨7, 0, p.s⟩] else if typeI p.id = 9 then [⟨6, 0, p.s⟩, ⟨6, 0, p.v⟩]
  else if typeI p.id = 0 then [] else [⟨typeI p.id, p.n, ⟨#[]⟩⟩]
def actsP (p : PV) : List FV := ⟨5, p.id, ⟨#[]⟩⟩ :: bodyP p
def stepL (W : EV) (A : List FV) : EV := A.foldl (fun W a => stepW W (encA a)) W
theorem stepL_app (W : EV) (A A' : List FV) : stepL W (A ++ A') = stepL (stepL W A) A' := by unfold stepL; rw [List.foldl_append]
/-- The fields of all properties. -/
def actsL6 (L : PL) : List FV := L.flatMap actsP
theorem actsL6_snoc (L : PL) (p : PV) : actsL6 (L ++ [p]) = actsL6 L ++ actsP p := by unfold actsL6; simp
theorem wr_snoc6 (L : PL) (p : PV) : wrAll (actsL6 (L ++ [p])) = stepL (wrAll (actsL6 L)) (actsP p) := by
  rw [actsL6_snoc]
  unfold wrAll stepL
  rw [List.foldl_append]
theorem stepW_len (W e : EV) : (stepW W e).L.length ≤ W.L.length + e.L.length := by
  unfold stepW
  split
  · split
    · rw [List.length_append]; exact Nat.le_refl _
    · exact Nat.zero_le _
  · exact Nat.le_add_right _ _
theorem typeI_vals (i : Int) : typeI i = 0 ∨ typeI i = 1 ∨ typeI i = 2 ∨ typeI i = 4 ∨ typeI i = 5 ∨ typeI i = 6 ∨ typeI i = 7 ∨ typeI i = 9 := by
  by_cases h : i ∈ ids06
  · unfold ids06 at h
    simp only [List.mem_cons, List.not_mem_nil, or_false] at h
    rcases h with rfl | rfl | rfl | rfl | rfl | rfl | rfl | rfl | rfl | rfl | rfl | rfl | rfl | rfl | rfl | rfl | rfl | rfl | rfl | rfl | rfl | rfl | rfl | rfl | rfl | rfl | rfl
    all_goals decide
  · exact .inl (no_type h).1
theorem encA_5 (i : Int) : encA ⟨5, i, ⟨#[]⟩⟩ = varE i := rfl
theorem acts_0 (W : EV) {p : PV} (h : typeI p.id = 0) : stepL W (actsP p) = stepW W (varE p.id) := by unfold stepL actsP bodyP; simp [h, encA_5]
theorem acts_1 (W : EV) {p : PV} (h : typeI p.id = 1) : stepL W (actsP p) = stepW (stepW W (varE p.id)) (numE 1 p.n) := by unfold stepL actsP bodyP; simp [h, encA_5]; rfl
theorem acts_2 (W : EV) {p : PV} (h : typeI p.id = 2) : stepL W (actsP p) = stepW (stepW W (varE p.id)) (numE 2 p.n) := by unfold stepL actsP bodyP; simp [h, encA_5]; rfl
theorem acts_4 (W : EV) {p : PV} (h : typeI p.id = 4) : stepL W (actsP p) = stepW (stepW W (varE p.id)) (numE 4 p.n) := by unfold stepL actsP bodyP; simp [h, encA_5]; rfl
theorem acts_5 (W : EV) {p : PV} (h : typeI p.id = 5) : stepL W (actsP p) = stepW (stepW W (varE p.id)) (varE p.n) := by unfold stepL actsP bodyP; simp [h, encA_5]
theorem acts_6 (W : EV) {p : PV} (h : typeI p.id = 6) : stepL W (actsP p) = stepW (stepW W (varE p.id)) (textE p.s) := by unfold stepL actsP bodyP; simp [h, encA_5]; rfl
theorem acts_7 (W : EV) {p : PV} (h : typeI p.id = 7) : stepL W (actsP p) = stepW (stepW W (varE p.id)) (binE p.s) := by unfold stepL actsP bodyP; simp [h, encA_5]; rfl
theorem acts_9 (W : EV) {p : PV} (h : typeI p.id = 9) : stepL W (actsP p) = stepW (stepW (stepW W (varE p.id)) (textE p.s)) (textE p.v) := by unfold stepL actsP bodyP; simp [h, encA_5]; rfl
section
variable {w w' w2 : World} {S : Nat → Addr} {B g : Nat} {v v' v2 : Value} {W W' W2 : EV} {A : Option Addr} {L : PL}
theorem WObj.nof (h : WObj w S B g v W) : NoF w (g :: v.ownBlock.toList) := NoF.of fun k hk => by
  rcases List.mem_cons.1 hk with rfl | hk
  · obtain ⟨e, hb, _⟩ := h.blk
    exact ⟨_, _, hb, by decide⟩
  · obtain ⟨_, _, cs, hh⟩ := h.row.lt k (own_list.1 hk)
    exact ⟨_, _, hh, by decide⟩
/-- Blocks of another kind stand while a writer goes on. -/
theorem WNext.blk {x : Nat} {t : TypeId} {cs : Array Value} (h : WNext w w' S B g v v' W') (ho : WObj w S B g v W) (hb : Blk w x t cs) (h1 : t ≠ 82) (h2 : t ≠ 5) : Blk w' x t cs := by
  refine hb.fr h.fr fun hm => ?_
  rcases List.mem_cons.1 hm with rfl | hm
  · obtain ⟨e, hg, _⟩ := ho.blk
    exact hb.other hg h1 rfl
  · obtain ⟨_, _, cs2, hh⟩ := ho.row.lt x (own_list.1 hm)
    exact hb.other hh h2 rfl
/-- What write holds. -/
structure PwIn (z w W : World) (S : Nat → Addr) (g bx : Nat) (v0 v : Value) (V : EV) (p : PV) : Prop where
  obj : WObj W S z.heap.size g v V
  bel : Below z.heap.size z W
  box : Blk W bx 98 #[.int .i64 p.id, .int .i64 p.n, .string p.s, .string p.v]
  nxt : WNext w W S z.heap.size g v0 v V
theorem PwIn.step {z W0 W1 : World} {bx : Nat} {v0 : Value} {V V' : EV} {p : PV} (h : PwIn z w W0 S g bx v0 v V p) (hn : WNext W0 W1 S z.heap.size g v v' V') : PwIn z w W1 S g bx v0 v' V' p :=
  ⟨hn.obj, hn.later h.obj h.bel, hn.blk h.obj h.box (by decide) (by decide), h.nxt.trans hn⟩
end
section
variable {z w : World} {S : Nat → Addr} {g : Nat} {v : Value} {W : EV}
set_option maxHeartbeats 4000000 in
theorem pwrite_any (hE : Env z S) (hz : Below z.heap.size z w) (h : WObj w S z.heap.size g v W) (hl : W.L.length ≤ 600000) (p : PV) (hs : p.s.size ≤ 65535) (hv : p.v.size ≤ 65535) :
    Calls Tryz.prog 101 #[.pointer (some ⟨g, 0, none⟩), p.agg] w (WSays w S z.heap.size g v (stepL W (actsP p))) := by
  obtain ⟨pi, pn, ps, pv⟩ := p
  simp only at hs hv
  rw [show PV.agg ⟨pi, pn, ps, pv⟩ = .agg #[.int .i64 pi, .int .i64 pn, .string ps, .string pv] from rfl]
  have HE := Lib.hid hE
  have hb0 : Below w.heap.size w (w.alloc (.cells #[.int .i64 pi, .int .i64 pn, .string ps, .string pv] 98)) := (Below.refl _ _).alloc (Nat.le_refl _) _
  have hi0 : PwIn z w (w.alloc (.cells #[.int .i64 pi, .int .i64 pn, .string ps, .string pv] 98)) S g w.heap.size v v W ⟨pi, pn, ps, pv⟩ := ⟨h.below hb0, hz.trans (hb0.mono hz.size), Blk.made w _ _, h.step hb0⟩
  have HV := Lib.hid (wvar_any (hE.later hi0.bel) hi0.obj (by omega) pi)
  have hl1 : (stepW W (varE pi)).L.length ≤ 600004 := by
    have h1 := stepW_len W (varE pi)
    have h2 := varE_len pi
    omega
  have e0 := hi0.box.cell 0
  have HI0 := Lib.hid hi0
  have HL1 := Lib.hid hl1
  clear hE hz h hl hb0 hi0 hl1
  obtain ⟨W1, hW1⟩ : ∃ W1, W1 = stepW W (varE pi) := ⟨_, rfl⟩
  rw [← hW1] at HV HL1
  have HTY := Lib.hid (fun W : World => ptype_any pi W)
  rcases typeI_vals pi with ht | ht | ht | ht | ht | ht | ht | ht
  · rw [ht] at HTY
    rw [acts_0 W (p := ⟨pi, pn, ps, pv⟩) ht, ← hW1]
    clear hW1
    go_enter Tryz.func101, Tryz.ntmps101
    go_wp2_with fail
    refine HV.out.mono ?_
    rintro x w1 ⟨rfl, v1, hN⟩
    have HI1 := Lib.hid (HI0.out.step hN)
    have e0 := HI1.out.box.cell 0
    have e1 := HI1.out.box.cell 1
    have e2 := HI1.out.box.cell 2
    have e3 := HI1.out.box.cell 3
    clear hN HV
    go_wp2_with fail
    refine (HTY.out _).mono ?_
    rintro x w2 ⟨rfl, rfl⟩
    go_wp2
    exact bodyPost_end (v := .tuple #[]) (by simp [results, Tryz.results101, go_sem]) rfl ⟨rfl, _, HI1.out.nxt⟩
  · rw [ht] at HTY
    rw [acts_1 W (p := ⟨pi, pn, ps, pv⟩) ht, ← hW1]
    clear hW1
    go_enter Tryz.func101, Tryz.ntmps101
    go_wp2_with fail
    refine HV.out.mono ?_
    rintro x w1 ⟨rfl, v1, hN⟩
    have HI1 := Lib.hid (HI0.out.step hN)
    have e0 := HI1.out.box.cell 0
    have e1 := HI1.out.box.cell 1
    have e2 := HI1.out.box.cell 2
    have e3 := HI1.out.box.cell 3
    clear hN HV
    go_wp2_with fail
    refine (HTY.out _).mono ?_
    rintro x w2 ⟨rfl, rfl⟩
    have HC := Lib.hid (wu8_any (HE.out.later HI1.out.bel) HI1.out.obj (by have := HL1.out; omega) pn)
    go_wp2_with fail
    refine HC.out.mono ?_
    rintro x w3 ⟨rfl, v3, hN3⟩
    have HI3 := Lib.hid (HI1.out.step hN3)
    clear hN3
    go_wp2
    exact bodyPost_end (v := .tuple #[]) (by simp [results, Tryz.results101, go_sem]) rfl ⟨rfl, _, HI3.out.nxt⟩
  · rw [ht] at HTY
    rw [acts_2 W (p := ⟨pi, pn, ps, pv⟩) ht, ← hW1]
    clear hW1
    go_enter Tryz.func101, Tryz.ntmps101
    go_wp2_with fail
    refine HV.out.mono ?_
    rintro x w1 ⟨rfl, v1, hN⟩
    have HI1 := Lib.hid (HI0.out.step hN)
    have e0 := HI1.out.box.cell 0
    have e1 := HI1.out.box.cell 1
    have e2 := HI1.out.box.cell 2
    have e3 := HI1.out.box.cell 3
    clear hN HV
    go_wp2_with fail
    refine (HTY.out _).mono ?_
    rintro x w2 ⟨rfl, rfl⟩
    have HC := Lib.hid (wu16_any (HE.out.later HI1.out.bel) HI1.out.obj (by have := HL1.out; omega) pn)
    go_wp2_with fail
    refine HC.out.mono ?_
    rintro x w3 ⟨rfl, v3, hN3⟩
    have HI3 := Lib.hid (HI1.out.step hN3)
    clear hN3
    go_wp2
    exact bodyPost_end (v := .tuple #[]) (by simp [results, Tryz.results101, go_sem]) rfl ⟨rfl, _, HI3.out.nxt⟩
  · rw [ht] at HTY
    rw [acts_4 W (p := ⟨pi, pn, ps, pv⟩) ht, ← hW1]
    clear hW1
    go_enter Tryz.func101, Tryz.ntmps101
    go_wp2_with fail
    refine HV.out.mono ?_
    rintro x w1 ⟨rfl, v1, hN⟩
    have HI1 := Lib.hid (HI0.out.step hN)
    have e0 := HI1.out.box.cell 0
    have e1 := HI1.out.box.cell 1
    have e2 := HI1.out.box.cell 2
    have e3 := HI1.out.box.cell 3
    clear hN HV
    go_wp2_with fail
    refine (HTY.out _).mono ?_
    rintro x w2 ⟨rfl, rfl⟩
    have HC := Lib.hid (wu32_any (HE.out.later HI1.out.bel) HI1.out.obj (by have := HL1.out; omega) pn)
    go_wp2_with fail
    refine HC.out.mono ?_
    rintro x w3 ⟨rfl, v3, hN3⟩
    have HI3 := Lib.hid (HI1.out.step hN3)
    clear hN3
    go_wp2
    exact bodyPost_end (v := .tuple #[]) (by simp [results, Tryz.results101, go_sem]) rfl ⟨rfl, _, HI3.out.nxt⟩
  · rw [ht] at HTY
    rw [acts_5 W (p := ⟨pi, pn, ps, pv⟩) ht, ← hW1]
    clear hW1
    go_enter Tryz.func101, Tryz.ntmps101
    go_wp2_with fail
    refine HV.out.mono ?_
    rintro x w1 ⟨rfl, v1, hN⟩
    have HI1 := Lib.hid (HI0.out.step hN)
    have e0 := HI1.out.box.cell 0
    have e1 := HI1.out.box.cell 1
    have e2 := HI1.out.box.cell 2
    have e3 := HI1.out.box.cell 3
    clear hN HV
    go_wp2_with fail
    refine (HTY.out _).mono ?_
    rintro x w2 ⟨rfl, rfl⟩
    have HC := Lib.hid (wvar_any (HE.out.later HI1.out.bel) HI1.out.obj (by have := HL1.out; omega) pn)
    go_wp2_with fail
    refine HC.out.mono ?_
    rintro x w3 ⟨rfl, v3, hN3⟩
    have HI3 := Lib.hid (HI1.out.step hN3)
    clear hN3
    go_wp2
    exact bodyPost_end (v := .tuple #[]) (by simp [results, Tryz.results101, go_sem]) rfl ⟨rfl, _, HI3.out.nxt⟩
  · rw [ht] at HTY
    rw [acts_6 W (p := ⟨pi, pn, ps, pv⟩) ht, ← hW1]
    clear hW1
    go_enter Tryz.func101, Tryz.ntmps101
    go_wp2_with fail
    refine HV.out.mono ?_
    rintro x w1 ⟨rfl, v1, hN⟩
    have HI1 := Lib.hid (HI0.out.step hN)
    have e0 := HI1.out.box.cell 0
    have e1 := HI1.out.box.cell 1
    have e2 := HI1.out.box.cell 2
    have e3 := HI1.out.box.cell 3
    clear hN HV
    go_wp2_with fail
    refine (HTY.out _).mono ?_
    rintro x w2 ⟨rfl, rfl⟩
    have HC := Lib.hid (wtext_any (HE.out.later HI1.out.bel) HI1.out.obj (by have := HL1.out; omega) ps hs)
    go_wp2_with fail
    refine HC.out.mono ?_
    rintro x w3 ⟨rfl, v3, hN3⟩
    have HI3 := Lib.hid (HI1.out.step hN3)
    clear hN3
    go_wp2
    exact bodyPost_end (v := .tuple #[]) (by simp [results, Tryz.results101, go_sem]) rfl ⟨rfl, _, HI3.out.nxt⟩
  · rw [ht] at HTY
    rw [acts_7 W (p := ⟨pi, pn, ps, pv⟩) ht, ← hW1]
    clear hW1
    go_enter Tryz.func101, Tryz.ntmps101
    go_wp2_with fail
    refine HV.out.mono ?_
    rintro x w1 ⟨rfl, v1, hN⟩
    have HI1 := Lib.hid (HI0.out.step hN)
    have e0 := HI1.out.box.cell 0
    have e1 := HI1.out.box.cell 1
    have e2 := HI1.out.box.cell 2
    have e3 := HI1.out.box.cell 3
    clear hN HV
    go_wp2_with fail
    refine (HTY.out _).mono ?_
    rintro x w2 ⟨rfl, rfl⟩
    have HC := Lib.hid (wbin_any (HE.out.later HI1.out.bel) HI1.out.obj (by have := HL1.out; omega) ps hs)
    go_wp2_with fail
    refine HC.out.mono ?_
    rintro x w3 ⟨rfl, v3, hN3⟩
    have HI3 := Lib.hid (HI1.out.step hN3)
    clear hN3
    go_wp2
    exact bodyPost_end (v := .tuple #[]) (by simp [results, Tryz.results101, go_sem]) rfl ⟨rfl, _, HI3.out.nxt⟩
  · rw [ht] at HTY
    rw [acts_9 W (p := ⟨pi, pn, ps, pv⟩) ht, ← hW1]
    clear hW1
    go_enter Tryz.func101, Tryz.ntmps101
    go_wp2_with fail
    refine HV.out.mono ?_
    rintro x w1 ⟨rfl, v1, hN⟩
    have HI1 := Lib.hid (HI0.out.step hN)
    have e0 := HI1.out.box.cell 0
    have e1 := HI1.out.box.cell 1
    have e2 := HI1.out.box.cell 2
    have e3 := HI1.out.box.cell 3
    clear hN HV
    go_wp2_with fail
    refine (HTY.out _).mono ?_
    rintro x w2 ⟨rfl, rfl⟩
    have HC := Lib.hid (wtext_any (HE.out.later HI1.out.bel) HI1.out.obj (by have := HL1.out; omega) ps hs)
    go_wp2_with fail
    refine HC.out.mono ?_
    rintro x w3 ⟨rfl, v3, hN3⟩
    have HI3 := Lib.hid (HI1.out.step hN3)
    clear hN3
    have e3 := HI3.out.box.cell 3
    have HC3 := Lib.hid (wtext_any (HE.out.later HI3.out.bel) HI3.out.obj (by
      have h1 := stepW_len W1 (textE ps)
      have h2 := textE_len ps
      have h3 := HL1.out
      omega) pv hv)
    go_wp2_with fail
    refine HC3.out.mono ?_
    rintro x w4 ⟨rfl, v4, hN4⟩
    have HI4 := Lib.hid (HI3.out.step hN4)
    clear hN4
    go_wp2
    exact bodyPost_end (v := .tuple #[]) (by simp [results, Tryz.results101, go_sem]) rfl ⟨rfl, _, HI4.out.nxt⟩
end
set_option maxRecDepth 100000
open Go.RowKit Go.Extern.Stop Go.Stop Go.Extern
def SmallP (L : PL) : Prop := L.length ≤ 70 ∧ (∀ p ∈ L, p.s.size ≤ 65535 ∧ p.v.size ≤ 65535) ∧ ∀ k, (wrAll (actsL6 (L.take k))).L.length ≤ 63840
theorem SmallP.mem {L : PL} (h : SmallP L) : ∀ p ∈ L, p.s.size ≤ 65535 ∧ p.v.size ≤ 65535 := h.2.1
theorem SmallP.at {L : PL} (h : SmallP L) (k : Nat) (hk : k < L.length) : (L.getD k p0).s.size ≤ 65535 ∧ (L.getD k p0).v.size ≤ 65535 := by
  rw [List.getD_eq_getElem?_getD, List.getElem?_eq_getElem hk]
  exact h.mem _ (List.getElem_mem hk)
theorem bodyP_len (p : PV) : (bodyP p).length ≤ 2 := by unfold bodyP; (repeat' split) <;> simp
theorem actsL6_len (L : PL) : (actsL6 L).length ≤ 3 * L.length := by
  induction L with
  | nil => exact Nat.le_refl _
  | cons p L ih =>
    have h := bodyP_len p
    have e : actsL6 (p :: L) = actsP p ++ actsL6 L := rfl
    rw [e, List.length_append]
    show (bodyP p).length + 1 + _ ≤ 3 * (L.length + 1)
    omega
theorem actsL6_small {L : PL} (h : ∀ p ∈ L, p.s.size ≤ 300 ∧ p.v.size ≤ 300) : ∀ a ∈ actsL6 L, a.s.size ≤ 300 := by
  intro a ha
  obtain ⟨p, hp, ha⟩ := List.mem_flatMap.1 ha
  obtain ⟨h1, h2⟩ := h p hp
  have hz : (⟨#[]⟩ : ByteArray).size = 0 := rfl
  rcases List.mem_cons.1 ha with rfl | ha
  · show (⟨#[]⟩ : ByteArray).size ≤ 300
    omega
  · unfold bodyP at ha
    split at ha
    · simp at ha; rw [ha]; exact h1
    · split at ha
      · simp at ha; rw [ha]; exact h1
      · split at ha
        · simp at ha
          rcases ha with rfl | rfl
          · exact h1
          · exact h2
        · split at ha
          · cases ha
          · simp at ha; rw [ha]; show (⟨#[]⟩ : ByteArray).size ≤ 300; omega
theorem wr6_len {L : PL} (h : SmallP L) (k : Nat) : (wrAll (actsL6 (L.take k))).L.length ≤ 63840 := h.2.2 k
/-- Few properties, of few bytes. -/
theorem smallP_of {L : PL} (h : L.length ≤ 70) (hs : ∀ k, k < L.length → (L.getD k p0).s.size ≤ 300 ∧ (L.getD k p0).v.size ≤ 300) : SmallP L := by
  have hm : ∀ p ∈ L, p.s.size ≤ 300 ∧ p.v.size ≤ 300 := by
    intro p hp
    obtain ⟨k, hk, rfl⟩ := List.mem_iff_getElem.1 hp
    have := hs k hk
    rw [List.getD_eq_getElem?_getD, List.getElem?_eq_getElem hk] at this
    exact this
  refine ⟨h, fun p hp => ⟨by have := (hm p hp).1; omega, by have := (hm p hp).2; omega⟩, fun k => ?_⟩
  have h1 := wr_len (actsL6 (L.take k)) 300 (actsL6_small fun p hp => hm p (List.mem_of_mem_take hp))
  have h2 := actsL6_len (L.take k)
  have h3 : (L.take k).length ≤ 70 := by rw [List.length_take]; omega
  omega
/-- Encode: the error's number, its reason, where it is, and the bytes. -/
structure EnR where
  no : Nat
  r : Int
  at_ : Nat
  L : List UInt8
def encR (place : Int) (L : PL) : EnR :=
  if (chkL place L).1 = 0 then (if (wrAll (actsL6 L)).no = 0 then ⟨0, 129, 0, vb (wrAll (actsL6 L)).L.length ++ (wrAll (actsL6 L)).L⟩ else ⟨(wrAll (actsL6 L)).no, 129, (wrAll (actsL6 L)).at_, []⟩)
  else ⟨(chkL place L).1, (chkL place L).2.1, (chkL place L).2.2, []⟩
def EnSays (w : World) (S : Nat → Addr) (q : EnR) (x : Ending) (w' : World) : Prop := ∃ e, x = .returned (.tuple #[.string ⟨q.L.toArray⟩, e]) ∧ ErrOf w' S q.r q.no q.at_ e ∧ Below w.heap.size w w'
/-- What Encode's loop holds. -/
structure EnIn (w W : World) (S : Nat → Addr) (g g2 : Nat) (v : Value) (V : EV) (A : Option Addr) (L : PL) : Prop where
  obj : WObj W S w.heap.size g v V
  who : WObj W S w.heap.size g2 (.slice none 0 0) w0
  bel : Below w.heap.size w W
  rd : PIn W w.heap.size A L
  ne : g ≠ g2
section
variable {w W W' : World} {S : Nat → Addr} {g g2 : Nat} {v v' : Value} {V V' : EV} {A : Option Addr} {L : PL}
theorem EnIn.below (h : EnIn w W S g g2 v V A L) (hb : Below W.heap.size W W') : EnIn w W' S g g2 v V A L := ⟨h.obj.below hb, h.who.below hb, h.bel.trans (hb.mono h.bel.size), h.rd.below hb, h.ne⟩
theorem EnIn.step (h : EnIn w W S g g2 v V A L) (hn : WNext W W' S w.heap.size g v v' V') : EnIn w W' S g g2 v' V' A L := by
  refine ⟨hn.obj, h.who.fr hn.fr (fun hm => ?_) (fun k hk => by cases hk) h.obj.nof, hn.later h.obj h.bel, h.rd.fr hn.fr fun k hk => ⟨h.obj.own_ok k hk, fun cs hc => ?_⟩, h.ne⟩
  · rcases List.mem_cons.1 hm with e | hm
    · exact h.ne e.symm
    · obtain ⟨_, _, cs, hh⟩ := h.obj.row.lt g2 (own_list.1 hm)
      obtain ⟨e, hb, _⟩ := h.who.blk
      exact hb.other hh (by decide) rfl
  · rcases List.mem_cons.1 hk with rfl | hk
    · obtain ⟨e, hb, _⟩ := h.obj.blk
      exact hb.other hc (by decide) rfl
    · obtain ⟨_, _, cs2, hh⟩ := h.obj.row.lt k (own_list.1 hk)
      rw [hh] at hc
      injection hc with h1
      injection h1 with h1 h2
      exact absurd h2 (by decide)
end
section
variable {w : World} {S : Nat → Addr} {A : Option Addr} {L : PL}
theorem enc_whole (n : Nat) (hn : n ≤ 268435455) (s : List UInt8) : stepW (stepW w0 (varE n)) ⟨0, 0, s⟩ = ⟨0, 0, vb n ++ s⟩ := by
  have e : varE (n : Int) = ⟨0, 0, vb n⟩ := by unfold varE; rw [if_neg (by omega)]; rfl
  rw [e, stepW_ok rfl rfl, stepW_ok rfl rfl]
  rfl
set_option maxHeartbeats 4000000 in
theorem encode_any (hE : Env w S) (place : Int) (n c : Nat) (hn : n = L.length) (h : PIn w w.heap.size A L) (hS : SmallP L) (hcap : n ≤ c) : Calls Tryz.prog 70 #[.int .i64 place, .slice A n c] w (EnSays w S (encR place L)) := by
  have HC := Lib.hid (check_any hE place n c hn h (by have := hS.1; omega) hcap)
  have HN := Lib.hid hn
  have HA := Lib.hid h
  have HE := Lib.hid hE
  have HS := Lib.hid hS
  obtain ⟨q, hq⟩ : ∃ q, q = encR place L := ⟨_, rfl⟩
  rw [← hq]
  have HQ := Lib.hid hq
  have hn70 : n ≤ 70 := by have := hS.1; omega
  clear hE hn h hS hq
  go_enter Tryz.func70, Tryz.ntmps70
  go_wp2_with fail
  refine HC.out.mono ?_
  rintro x w1 ⟨e, rfl, he, hb1⟩
  by_cases h0 : (chkL place L).1 = 0
  · unfold ErrOf at he
    rw [if_pos h0] at he
    subst he
    have hq2 := HQ.out
    unfold encR at hq2
    rw [if_pos h0] at hq2
    have HQ2 := Lib.hid hq2
    have hb2 : Below w1.heap.size w1 (w1.alloc (.cells #[.slice none 0 0, .nilIface] 82)) := (Below.refl _ _).alloc (Nat.le_refl _) _
    have hb3 : Below (w1.alloc (.cells #[.slice none 0 0, .nilIface] 82)).heap.size (w1.alloc (.cells #[.slice none 0 0, .nilIface] 82)) ((w1.alloc (.cells #[.slice none 0 0, .nilIface] 82)).alloc (.cells #[.slice none 0 0, .nilIface] 82)) := (Below.refl _ _).alloc (Nat.le_refl _) _
    have hb23 := hb2.trans (hb3.mono hb2.size)
    have hi0 : EnIn w ((w1.alloc (.cells #[.slice none 0 0, .nilIface] 82)).alloc (.cells #[.slice none 0 0, .nilIface] 82)) S w1.heap.size (w1.heap.size + 1) (.slice none 0 0) w0 A L :=
      ⟨(WObj.made w1 S hb1.size).below hb3, by
        have h := WObj.made (w1.alloc (.cells #[.slice none 0 0, .nilIface] 82)) S (B := w.heap.size) (Nat.le_trans hb1.size hb2.size)
        rw [World.size_alloc] at h
        exact h, hb1.trans (hb23.mono hb1.size), (HA.out.below hb1).below hb23, by omega⟩
    have HI0 := Lib.hid hi0
    clear hb1 hb2 hb3 hb23 hi0 hq2 HC h0 HQ
    go_wp2_with fail
    go_loopw [21] (fun j wr => ∃ (k : Nat) (v : Value), k ≤ n ∧ j = .int .i64 k ∧ Hid (EnIn w wr S w1.heap.size (w1.heap.size + 1) v (wrAll (actsL6 (L.take k))) A L)) (fun j _ => n - (intOf j).toNat)
    case atStart => exact ⟨0, _, by omega, rfl, HI0⟩
    case round =>
      obtain ⟨k, v, hk, rfl, HI⟩ := hrel
      by_cases hlt : k < n
      · have hkL : k < L.length := by have := HN.out; omega
        obtain ⟨g, off, hA, hc, _⟩ := HI.out.rd (by omega)
        subst hA
        have hcw := hc k hkL
        have hsz := HS.out.at k hkL
        obtain ⟨p, hp⟩ : ∃ p, p = L.getD k p0 := ⟨_, rfl⟩
        rw [← hp] at hcw hsz
        have HP := Lib.hid hp
        obtain ⟨pi, pn, ps, pv⟩ := p
        obtain ⟨c0, c1, c2, c3⟩ := hcw
        have hb1 : Below wr.heap.size wr (wr.alloc (.cells #[.int .i64 pi, .int .i64 pn, .string ps, .string pv] 98)) := (Below.refl _ _).alloc (Nat.le_refl _) _
        have hbk := Blk.made wr 98 #[.int .i64 pi, .int .i64 pn, .string ps, .string pv]
        have e0 := hbk.cell 0
        have e1 := hbk.cell 1
        have e2 := hbk.cell 2
        have e3 := hbk.cell 3
        have HI1 := Lib.hid (HI.out.below hb1)
        have hwl := wr6_len HS.out k
        have HW := Lib.hid (pwrite_any HE.out HI1.out.bel HI1.out.obj (by omega) ⟨pi, pn, ps, pv⟩ (by have := hsz.1; simp only at this ⊢; omega) (by have := hsz.2; simp only at this ⊢; omega))
        have hsn : stepL (wrAll (actsL6 (L.take k))) (actsP ⟨pi, pn, ps, pv⟩) = wrAll (actsL6 (L.take (k + 1))) := by
          rw [← wr_snoc6, List.take_succ_eq_append_getElem hkL, hp, List.getD_eq_getElem?_getD, List.getElem?_eq_getElem hkL]
          rfl
        rw [hsn] at HW
        clear hc hb1 hbk hp hsz hwl hsn
        go_wp2_with fail
        refine HW.out.mono ?_
        rintro x w3 ⟨rfl, v3, hN⟩
        have HI3 := Lib.hid (HI1.out.step hN)
        clear hN HW
        go_wp2_with fail
        go_roundw
        case rel => exact ⟨k + 1, v3, by omega, by go_num, HI3⟩
        case measure => simp [intOf]; omega
      · have htk : L.take k = L := List.take_of_length_le (by have := HN.out; omega)
        rw [htk] at HI
        have hwl := wr6_len HS.out k
        rw [htk] at hwl
        have hwat : (wrAll (actsL6 L)).no ≠ 0 → (wrAll (actsL6 L)).L = [] := fun h => (HI.out.obj.bad h).2
        have HB := Lib.hid (wbytes_any HI.out.obj)
        obtain ⟨⟨no, at_, VL⟩, hV⟩ : ∃ V, V = wrAll (actsL6 L) := ⟨_, rfl⟩
        rw [← hV] at HI HB hwl hwat HQ2
        simp only at hwl hwat HQ2
        clear hV htk
        by_cases hno : no = 0
        · subst hno
          rw [if_pos rfl] at HQ2
          have hvs : (⟨VL.toArray⟩ : ByteArray).size = VL.length := rfl
          have hvd : (⟨VL.toArray⟩ : ByteArray).data.toList = VL := by simp
          obtain ⟨vs, hvs'⟩ : ∃ vs : ByteArray, vs = ⟨VL.toArray⟩ := ⟨_, rfl⟩
          have HBV := HB.out
          unfold BSays at HBV
          simp only at HBV
          rw [← hvs'] at HBV hvs hvd
          have HBV2 := Lib.hid HBV
          have HVD := Lib.hid hvd
          have hvz : vs.size ≤ 63840 := by omega
          have HVZ := Lib.hid hvs
          clear HB HBV hvs' hwat hvd hvs
          go_wp2_with fail
          refine HBV2.out.mono ?_
          rintro x w3 ⟨e3, rfl, he3, hb3⟩
          unfold ErrOf at he3
          rw [if_pos rfl] at he3
          subst he3
          have HI3 := Lib.hid (HI.out.below hb3)
          have HV3 := Lib.hid (wvar_any (HE.out.later HI3.out.bel) HI3.out.who (by decide) (vs.size : Int))
          clear hb3 HBV2
          go_wp2_with fail
          refine HV3.out.mono ?_
          rintro x w4 ⟨rfl, v4, hN4⟩
          have HB4 := Lib.hid (hN4.later HI3.out.who HI3.out.bel)
          have hvl : (stepW w0 (varE (vs.size : Int))).L.length ≤ 4 := by
            have h1 := stepW_len w0 (varE (vs.size : Int))
            have h2 := varE_len (vs.size : Int)
            have h3 : w0.L.length = 0 := rfl
            omega
          have HR := Lib.hid (wraw_any hN4.obj (by omega) vs (by omega))
          have HN4 := Lib.hid hN4
          clear hN4 HV3 hvl
          go_wp2_with fail
          refine HR.out.mono ?_
          rintro x w5 ⟨rfl, v5, hN5⟩
          have HB5 := Lib.hid (hN5.later HN4.out.obj HB4.out)
          have hby := wbytes_any hN5.obj
          rw [enc_whole vs.size (by omega), HVD.out] at hby
          have HY := Lib.hid hby
          clear hN5 HR hby
          go_wp2_with fail
          refine HY.out.mono ?_
          rintro x w6 ⟨e6, rfl, he6, hb6⟩
          unfold ErrOf at he6
          rw [if_pos rfl] at he6
          subst he6
          have HX := Lib.hid (show EnSays w S q (.returned (.tuple #[.string ⟨(vb vs.size ++ VL).toArray⟩, .nilIface])) w6 from by
            rw [HQ2.out, ← HVZ.out]
            exact ⟨_, rfl, ErrOf.none, HB5.out.trans (hb6.mono HB5.out.size)⟩)
          clear hb6 HY
          simp only at HX ⊢
          go_wp2_with fail
          go_ret2
          exact HX.out
        · rw [if_neg hno] at HQ2
          have hVL := hwat hno
          subst hVL
          have HBV := HB.out
          unfold BSays at HBV
          simp only at HBV
          have HBV2 := Lib.hid HBV
          clear HB HBV hwat
          go_wp2_with fail
          refine HBV2.out.mono ?_
          rintro x w3 ⟨e3, rfl, he3, hb3⟩
          obtain ⟨t3, u3, rfl⟩ := err_iface he3 hno
          have HX := Lib.hid (show EnSays w S q (.returned (.tuple #[.string ⟨#[]⟩, .iface t3 u3])) w3 from by
            rw [HQ2.out]
            exact ⟨_, rfl, he3, HI.out.bel.trans (hb3.mono HI.out.bel.size)⟩)
          clear he3 hb3 HBV2
          go_wp2_with fail
          go_ret2
          exact HX.out
  · obtain ⟨t1, u1, rfl⟩ := err_iface he h0
    have HX := Lib.hid (show EnSays w S q (.returned (.tuple #[.string ⟨#[]⟩, .iface t1 u1])) w1 from by
      rw [HQ.out]
      unfold encR
      rw [if_neg h0]
      exact ⟨_, rfl, he, hb1⟩)
    clear he hb1 h0
    go_wp2_with fail
    go_ret2
    exact HX.out
end
end Go.Proofs.YtnolnhpmpjgnaaaGreatDoor

/- What is proved here: all packets that a Splitter has, taken one by one; the same packets; few texts. Conditions: the splitter is there, with few bytes; what the rows list of the package's variables. -/
import Derived.Test.YtfojoeafhdiaiaaDoorMtc07
import Derived.Deep.QuietTactic
import Derived.BigQuiet
namespace Go.Proofs.YtfojoeafhdiaiaaDoor
set_option maxRecDepth 100000
open Go.RowKit Go.Extern.Stop Go.Stop Go.Extern
section
variable {w w' w2 : World} {S : Nat → Addr} {B B' g p p' : Nat} {v v' v2 u u' : Value} {V V' V2 : SV} {X : List Nat} {L L' : List UInt8} {M M' : List FP}
/-- Rows of packets change no splitter. -/
theorem frow_nof (hr : FRow w B u M) : NoF w u.ownBlock.toList := NoF.of fun k hk => by
  have hk' := own_list.1 hk
  obtain ⟨_, _, cs, hh⟩ := hr.lt k hk'
  exact ⟨_, _, hh, by decide⟩
theorem SObj.grown (h : SObj w S B g v L p V) {B2 : Nat} (hr : FRow w B2 u M) (hg : w.grownBy w' u.ownBlock) : SObj w' S B g v L p V := by
  refine h.fr (X := u.ownBlock.toList) ((Fr.refl _ w).grown hg fun k hk => .inl (own_list.2 hk)) (fun hm => ?_) (fun k hk hm => ?_) (frow_nof hr)
  · obtain ⟨_, _, cs, hh⟩ := hr.lt g (own_list.1 hm)
    obtain ⟨e, hb, _⟩ := h.blk
    exact hb.other hh (by decide) rfl
  · obtain ⟨_, _, cs, hh⟩ := hr.lt k (own_list.1 hm)
    obtain ⟨_, _, cs2, hh2⟩ := h.row.lt k hk
    rw [hh] at hh2
    injection hh2 with h1
    injection h1 with h1 h2
    exact absurd h2 (by decide)
theorem SNext.grown (h : SNext w w' S B g v v' L' p' V') (hr : FRow w' w.heap.size u M) (hg : w'.grownBy w2 u.ownBlock) : SNext w w2 S B g v v' L' p' V' := by
  refine ⟨h.obj.grown hr hg, ?_, h.own⟩
  refine h.fr.trans (Y := u.ownBlock.toList) ((Fr.refl _ w').grown hg fun k hk => .inl (own_list.2 hk)) fun k hk hlt => ?_
  have := (hr.lt k (own_list.1 hk)).1
  omega
/-- A row of packets stands while a splitter goes on. -/
theorem FRow.snext (hr : FRow w B u M) (ho : SObj w S B' g v L p V) (h : SNext w w' S B' g v v' L' p' V') : FRow w' B u M := by
  refine hr.fr h.fr fun k hk hm => ?_
  obtain ⟨_, _, cs, hh⟩ := hr.lt k hk
  rcases List.mem_cons.1 hm with e | hm
  · obtain ⟨e2, hb, _⟩ := ho.blk
    exact hb.other hh (by decide) e.symm
  · obtain ⟨_, _, cs2, hh2⟩ := ho.row.lt k (own_list.1 hm)
    rw [hh] at hh2
    injection hh2 with h1
    injection h1 with h1 h2
    exact absurd h2 (by decide)
end
/-- What drain says. -/
def DrSays (w : World) (S : Nat → Addr) (B g : Nat) (v : Value) (m : Nat) (V : SV) (x : Ending) (w' : World) : Prop :=
  ∃ a c e, x = .returned (.tuple #[.slice a (drainP V).length c, e, .bool true]) ∧ ErrOf w' S (drainV V).r (drainV V).no (drainV V).a e ∧ FRow w' w.heap.size (.slice a (drainP V).length c) (drainP V) ∧ ∃ v' L' p', SNext w w' S B g v v' L' p' (drainV V) ∧ L'.length ≤ m
/-- What drain's loop holds. -/
structure DrIn (w W : World) (S : Nat → Addr) (B g : Nat) (v : Value) (m : Nat) (V : SV) (u : Value) (done : List FP) (vi : Value) (Li : List UInt8) (pi : Nat) (Vi : SV) : Prop where
  row : FRow W w.heap.size u done
  nxt : SNext w W S B g v vi Li pi Vi
  len : Li.length ≤ m
  pk : drainP V = done ++ drainP Vi
  dv : drainV V = drainV Vi
set_option maxHeartbeats 4000000 in
theorem drain_any (S : Nat → Addr) (z w : World) (g p m : Nat) (v : Value) (V : SV) (L : List UInt8) (hE : Env z S) (hz : Below z.heap.size z w) (h : SObj w S z.heap.size g v L p V) (hm : L.length = m) (hl : m ≤ 9000) :
    Calls Tryd.prog 39 #[.pointer (some ⟨g, 0, none⟩)] w (DrSays w S z.heap.size g v m V) := by
  have hcount : (drainP V).length ≤ 4500 := by
    unfold drainP
    split
    · exact Nat.zero_le _
    · rename_i h0
      have h0' : V.no = 0 := Classical.not_not.1 h0
      have h1 := allF_len V.most V.R.length V.R (Nat.le_refl _)
      have h2 := h.rest h0'
      have h3 : V.R.length ≤ L.length := by rw [h2, List.length_drop]; omega
      omega
  have HE := Lib.hid hE
  have HO := Lib.hid h
  have HZ := Lib.hid hz
  have HC := Lib.hid hcount
  have HI0 : Hid (DrIn w w S z.heap.size g v m V (.slice none 0 0) [] v L p V) := Lib.hid ⟨FRow.nil _ _, h.step (Below.refl _ _), by omega, rfl, rfl⟩
  clear hE h hz hcount hm
  go_enter Tryd.func39, Tryd.ntmps39
  go_wp2_with fail
  go_loopw [5, 6] (fun u i wr => ∃ (k : Nat) (done : List FP) (vi : Value) (Li : List UInt8) (pi : Nat) (Vi : SV), i = .int .i64 k ∧ k = done.length ∧ DrIn w wr S z.heap.size g v m V u done vi Li pi Vi) (fun _ i _ => 5000 - (intOf i).toNat)
  case atStart => exact ⟨0, [], v, L, p, V, rfl, rfl, HI0.out⟩
  case round =>
    obtain ⟨k, done, vi, Li, pi, Vi, rfl, hk, hi⟩ := hrel
    obtain ⟨av, nv, cv, rfl, hnv⟩ := hi.row.some_form
    have hkl : k ≤ 4500 := by
      have h1 := HC.out
      rw [hi.pk, List.length_append] at h1
      omega
    have HI := Lib.hid hi
    have HK := Lib.hid hk
    have HNV := Lib.hid hnv
    have hB := hi.nxt.later HO.out HZ.out
    have HB := Lib.hid hB
    have HX := Lib.hid (next_any (HE.out.later hB) hi.nxt.obj (by have := hi.len; omega))
    clear hi hk hnv hB
    go_wp2_with fail
    refine HX.out.mono ?_
    intro x w1 hx
    clear HX
    unfold NxSays at hx
    cases hst : stepN Vi with
    | mk V1 o =>
      rw [hst] at hx
      cases o with
      | none =>
        obtain ⟨e, rfl, he, v1, L1, p1, hn1, hl1⟩ := hx
        obtain ⟨d1, d2⟩ := drain_none hst
        rw [show fr0 = .agg #[.int .i64 0, .string ⟨#[]⟩] from rfl]
        have HR1 := Lib.hid (HI.out.row.snext HI.out.nxt.obj hn1)
        have HN1 := Lib.hid (HI.out.nxt.trans hn1)
        have HE1 := Lib.hid he
        have HL1 := Lib.hid (Nat.le_trans hl1 HI.out.len)
        have e0 := (Blk.made w1 61 #[.int .i64 0, .string ⟨#[]⟩]).cell 0
        have e1 := (Blk.made w1 61 #[.int .i64 0, .string ⟨#[]⟩]).cell 1
        have HP := Lib.hid (show drainP V = done ∧ drainV V = V1 from ⟨by rw [HI.out.pk, d1, List.append_nil], HI.out.dv.trans d2⟩)
        have HT := Lib.hid (fun (d : Nat) => show DrSays w S z.heap.size g v m V (.returned (.tuple #[.slice av nv cv, e, .bool true])) ((w1.alloc (.cells #[.int .i64 0, .string ⟨#[]⟩] 61)).drewN d) from by
          have hb : Below w1.heap.size w1 ((w1.alloc (.cells #[.int .i64 0, .string ⟨#[]⟩] 61)).drewN d) := below_drewN ((Below.refl _ _).alloc (Nat.le_refl _) _) d
          obtain ⟨q1, q2⟩ := HP.out
          unfold DrSays
          rw [q1, q2, ← HNV.out]
          exact ⟨av, cv, e, rfl, HE1.out.later hb, HR1.out.below hb, v1, L1, p1, HN1.out.below hb, HL1.out⟩)
        clear hn1 he hl1 hst d1 d2 HI HB HK HNV HC
        go_wp2_with fail
        go_quiet (fail)
        go_wp2_with fail
        exact bodyPost_ret (v := .tuple #[.slice av nv cv, e, .bool true]) (by simp [results, Tryd.results39, go_sem]) rfl (HT.out _)
      | some f =>
        obtain ⟨rfl, v1, L1, p1, hn1, hl1⟩ := hx
        obtain ⟨d0, d3, d1, d2⟩ := drain_some hst
        obtain ⟨fc, fb⟩ := f
        rw [show frV fc fb = .agg #[.int .i64 fc, .string ⟨fb.toArray⟩] from rfl]
        have hr1 := HI.out.row.snext HI.out.nxt.obj hn1
        have hb1 : Below w1.heap.size w1 (w1.alloc (.cells #[.int .i64 fc, .string ⟨fb.toArray⟩] 61)) := (Below.refl _ _).alloc (Nat.le_refl _) _
        have e0 := (Blk.made w1 61 #[.int .i64 fc, .string ⟨fb.toArray⟩]).cell 0
        have e1 := (Blk.made w1 61 #[.int .i64 fc, .string ⟨fb.toArray⟩]).cell 1
        have HR1 := Lib.hid (hr1.below hb1)
        have hN1 := HI.out.nxt.trans hn1
        have HN1 := Lib.hid (hN1.below hb1)
        have HL1 := Lib.hid (Nat.le_trans hl1 HI.out.len)
        have HP := Lib.hid (show drainP V = (done ++ [(fc, fb)]) ++ drainP V1 ∧ drainV V = drainV V1 from ⟨by rw [HI.out.pk, d1, List.append_assoc]; rfl, HI.out.dv.trans d2⟩)
        have HS1 : Hid (w.heap.size ≤ (w1.alloc (.cells #[.int .i64 fc, .string ⟨fb.toArray⟩] 61)).heap.size) := Lib.hid HN1.out.fr.size
        have hdl : done.length ≤ 100000 := by have := HK.out; omega
        have HDL := Lib.hid hdl
        clear hr1 hb1 hN1 hn1 hl1 hst d0 d1 d2 d3 HI HB HNV HC hdl
        go_wp2_with (at_builtin; go_must (refine append_frame (fc, fb) rfl _ _ rfl HR1.out HS1.out rfl (w1.heap.size + 1) 1 rfl (by simp) HDL.out ?_))
        intro v5 w5 hn5
        have HR5 := Lib.hid hn5.row
        have HN5 := Lib.hid (HN1.out.grown HR1.out hn5.grown)
        clear hn5
        go_wp2_with fail
        go_roundw
        case rel => exact ⟨k + 1, done ++ [(fc, fb)], v1, L1, p1, V1, by go_num, by rw [List.length_append, List.length_singleton, HK.out], HR5.out, HN5.out, HL1.out, HP.out.1, HP.out.2⟩
        case measure => simp [intOf]; omega
end Go.Proofs.YtfojoeafhdiaiaaDoor

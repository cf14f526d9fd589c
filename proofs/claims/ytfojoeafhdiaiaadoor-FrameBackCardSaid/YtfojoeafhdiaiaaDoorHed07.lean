/- What is proved here: what a Splitter of package frame sees at the head of the bytes that are left. Conditions: the splitter is there, with few bytes; what the rows list of the package's variables. -/
import Derived.Test.YtfojoeafhdiaiaaDoorSpl07
import Derived.Test.YtfojoeafhdiaiaaDoorRrw04
namespace Go.Proofs.YtfojoeafhdiaiaaDoor
set_option maxRecDepth 100000
open Go.RowKit Go.Extern.Stop Go.Stop Go.Extern
/-- The greatest number of so many digits. -/
def gN : Nat → Nat
  | 0 => 0
  | f + 1 => 127 + 128 * gN f
theorem vt_num (s : ByteArray) (f : Nat) : ∀ i n b : Nat, (vt s f i n b).1 ≤ n + b * gN f := by
  induction f with
  | zero => exact fun i n b => Nat.zero_le _
  | succ f ih =>
    intro i n b
    by_cases hlt : i < s.size
    · have hc : s[i].toNat % 128 ≤ 127 := by omega
      have hm : s[i].toNat % 128 * b ≤ b * 127 := by rw [Nat.mul_comm]; exact Nat.mul_le_mul_left _ hc
      have hg : b * gN (f + 1) = b * 127 + b * 128 * gN f := by
        show b * (127 + 128 * gN f) = _
        rw [Nat.mul_add, Nat.mul_assoc]
      by_cases h1 : s[i].toNat < 128
      · by_cases h0 : s[i].toNat = 0 ∧ 0 < i
        · rw [vt_zero hlt h0.1 h0.2]; exact Nat.zero_le _
        · rw [vt_last hlt h1 h0]
          show n + s[i].toNat % 128 * b ≤ _
          omega
      · rw [vt_more hlt h1]
        have := ih (i + 1) (n + s[i].toNat % 128 * b) (b * 128)
        omega
    · rw [vt_short hlt]; exact Nat.zero_le _
/-- The first four bytes tell the number. -/
theorem vt_cong (s s' : ByteArray) (f : Nat) : ∀ i n b : Nat, s'.size = min s.size (i + f) → i ≤ s.size → (∀ j (h : j < s.size) (h' : j < s'.size), s'[j] = s[j]) → (∀ x, s.size = x → True) →
    (vt s' f i n b = vt s f i n b ∨ (s.size < i + f ∧ vt s' f i n b = (0, 0, 1, s'.size) ∧ vt s f i n b = (0, 0, 1, s.size))) := by
  induction f with
  | zero => exact fun _ _ _ _ _ _ _ => .inl rfl
  | succ f ih =>
    intro i n b hz hi hs _
    by_cases hlt : i < s.size
    · have hlt' : i < s'.size := by omega
      have hc := hs i hlt hlt'
      by_cases h1 : s[i].toNat < 128
      · by_cases h0 : s[i].toNat = 0 ∧ 0 < i
        · rw [vt_zero hlt h0.1 h0.2, vt_zero hlt' (by rw [hc]; exact h0.1) h0.2]
          exact .inl rfl
        · rw [vt_last hlt h1 h0, vt_last hlt' (by rw [hc]; exact h1) (by rw [hc]; exact h0), hc]
          exact .inl rfl
      · rw [vt_more hlt h1, vt_more hlt' (by rw [hc]; exact h1), hc]
        rcases ih (i + 1) (n + s[i].toNat % 128 * b) (b * 128) (by omega) hlt hs (fun _ _ => trivial) with h | ⟨h, h2, h3⟩
        · exact .inl h
        · exact .inr ⟨by omega, h2, h3⟩
    · have hlt' : ¬ i < s'.size := by omega
      rw [vt_short hlt, vt_short hlt']
      exact .inr ⟨by omega, rfl, rfl⟩
theorem vt_four (t : List UInt8) : (vt ⟨(t.take 4).toArray⟩ 4 0 0 1).1 = (vt ⟨t.toArray⟩ 4 0 0 1).1 ∧ (vt ⟨(t.take 4).toArray⟩ 4 0 0 1).2.1 = (vt ⟨t.toArray⟩ 4 0 0 1).2.1 ∧ (vt ⟨(t.take 4).toArray⟩ 4 0 0 1).2.2.1 = (vt ⟨t.toArray⟩ 4 0 0 1).2.2.1 ∧
    ((vt ⟨t.toArray⟩ 4 0 0 1).2.2.1 ≠ 1 → (vt ⟨(t.take 4).toArray⟩ 4 0 0 1).2.2.2 = (vt ⟨t.toArray⟩ 4 0 0 1).2.2.2) := by
  have h := vt_cong ⟨t.toArray⟩ ⟨(t.take 4).toArray⟩ 4 0 0 1 (by rw [bsize, bsize, List.length_take]; omega) (Nat.zero_le _) (fun j h h' => by
    show (t.take 4).toArray[j] = t.toArray[j]
    simp) (fun _ _ => trivial)
  rcases h with h | ⟨_, h1, h2⟩
  · rw [h]; exact ⟨rfl, rfl, rfl, fun _ => rfl⟩
  · rw [h1, h2]; exact ⟨rfl, rfl, rfl, fun h => absurd rfl h⟩
/-- What stands at the head: how many bytes are ahead of the body, how many the packet has, the error's number, its reason, and where it is. -/
structure HV where
  h : Nat
  z : Nat
  no : Nat
  r : Int
  a : Nat
def headT (most : Int) (f : Nat × Nat × Nat × Nat) : HV :=
  if f.2.2.1 = 1 then ⟨0, 0, 0, 129, 0⟩ else if f.2.2.1 = 0 then (if most < ((1 + f.2.1 + f.1 : Nat) : Int) then ⟨0, 0, 4, 149, 0⟩ else ⟨1 + f.2.1, 1 + f.2.1 + f.1, 0, 129, 0⟩) else ⟨0, 0, f.2.2.1, 129, f.2.2.2 + 1⟩
def headF (most : Int) : List UInt8 → HV
  | [] => ⟨0, 0, 0, 129, 0⟩
  | b :: t => if mayI (b.toNat : Int) = true then headT most (vt ⟨t.toArray⟩ 4 0 0 1) else ⟨0, 0, 2, 129, 0⟩
theorem head_four (most : Int) (t : List UInt8) : headT most (vt ⟨(t.take 4).toArray⟩ 4 0 0 1) = headT most (vt ⟨t.toArray⟩ 4 0 0 1) := by
  obtain ⟨h1, h2, h3, h4⟩ := vt_four t
  unfold headT
  rw [h1, h2, h3]
  split
  · rfl
  · split
    · rfl
    · rename_i hn _
      rw [h4 hn]
theorem Tryd.nilEq (a : Addr) (w : World) : (binOp .eql 28 .nilIface (.iface 177 (.pointer (some a)))).run Tryd.prog w = .ok (.bool false) w := by kernel_rfl
section
variable {w w' w2 : World} {S : Nat → Addr} {B g p p' : Nat} {v v' v2 : Value} {V V' V2 : SV} {X : List Nat} {L L' : List UInt8}
theorem is_short (hE : Env w S) {r : Int} {no a : Nat} {e : Value} (he : ErrOf w S r no a e) :
    Calls Tryd.prog 61 #[e, .iface 177 (.pointer (some (S 0)))] w fun x w' => x = .returned (.bool (no == 1)) ∧ w = w' := by
  unfold ErrOf at he
  by_cases h0 : no = 0
  · subst h0
    rw [if_pos rfl] at he
    subst he
    have hq := Tryd.nilEq (S 0) w
    go_enter Tryd.func61, Tryd.ntmps61
    go_wp2
    go_ret
    exact ⟨rfl, rfl⟩
  · rw [if_neg h0] at he
    obtain ⟨h7, l, hc⟩ := he
    by_cases h1 : no = 1
    · subst h1
      exact Is_same _ _ _ _ _ hc
    · have e : (no == 1) = false := beq_eq_false_iff_ne.2 h1
      rw [e]
      obtain ⟨cs, ts, h2⟩ := hE.there (no - 1) (by omega)
      obtain ⟨cb, tb, h3⟩ := hE.there 0 (by omega)
      exact Is_other _ _ _ _ _ _ _ _ _ _ hc (hE.apart _ _ (by omega) (by omega) (by omega)) h2 h3
/-- What head answers. -/
def HSays (w : World) (S : Nat → Addr) (q : HV) (x : Ending) (w' : World) : Prop := ∃ e, x = .returned (.tuple #[.int .i64 q.h, .int .i64 q.z, e]) ∧ ErrOf w' S q.r q.no q.a e ∧ Below w.heap.size w w'
theorem head_nil (h : SObj w S B g v L p V) (h0 : V.no = 0) (hl : L.length ≤ 1000000) (hR : V.R = []) : Calls Tryd.prog 82 #[.pointer (some ⟨g, 0, none⟩)] w (HSays w S ⟨0, 0, 0, 129, 0⟩) := by
  have h1 := sleft_any h hl
  have e1 : leftV V = 0 := by unfold leftV; rw [if_pos h0, hR]; rfl
  rw [e1] at h1
  have H1 := Lib.hid h1
  clear h h1 e1 hR hl
  go_enter Tryd.func82, Tryd.ntmps82
  go_wp2_with fail
  refine H1.out.mono ?_
  rintro x w1 ⟨rfl, hb⟩
  go_wp2
  exact bodyPost_ret (v := .tuple #[.int .i64 0, .int .i64 0, .nilIface]) (by simp [results, Tryd.results82, go_sem]) rfl ⟨_, rfl, ErrOf.none, hb⟩
/-- The world of a look at the head. -/
structure HIn (w W : World) (S : Nat → Addr) (B g : Nat) (v : Value) (L : List UInt8) (p : Nat) (V : SV) : Prop where
  obj : SObj W S B g v L p V
  env : Env W S
  bel : Below w.heap.size w W
theorem HIn.below {W W' : World} (h : HIn w W S B g v L p V) (hb : Below W.heap.size W W') : HIn w W' S B g v L p V := ⟨h.obj.below hb, h.env.later hb, h.bel.trans (hb.mono h.bel.size)⟩
theorem HIn.drewN {W : World} (h : HIn w W S B g v L p V) (d : Nat) : HIn w (W.drewN d) S B g v L p V := h.below (below_drewN (Below.refl _ _) d)
theorem HIn.cells {W : World} {k nv cv : Nat} (h : HIn w W S B g (.slice (some ⟨k, 0, none⟩) nv cv) L p V) (h0 : V.no = 0) (hn : nv = L.length) (hp : p < nv) :
    W.cell? ⟨g, 0, none⟩ = some (.int .i64 V.most) ∧ W.cell? ⟨g, 1, none⟩ = some (.slice (some ⟨k, 0, none⟩) nv cv) ∧ W.cell? ⟨g, 2, none⟩ = some (.int .i64 p) ∧ W.cell? ⟨k, p, none⟩ = some (byteV (L.getD p 0)) := by
  have hb := h.obj.nil_err h0
  exact ⟨hb.cell 0, hb.cell 1, hb.cell 2, h.obj.row.at_ hn (by omega)⟩
/-- The text that some bytes of the row tell. -/
theorem HIn.conv {W : World} {k nv cv : Nat} (h : HIn w W S B g (.slice (some ⟨k, 0, none⟩) nv cv) L p V) (hn : nv = L.length) (i j c : Nat) (ad : Addr) (had : ad = ⟨k, i, none⟩ ∨ j = 0) (hj : i + j ≤ nv) :
    (convert 26 9 (.slice (some ad) j c)).run Tryd.prog W = .ok (.string ⟨((L.drop i).take j).toArray⟩) W := by
  have hlen : ((L.drop i).take j).length = j := by rw [List.length_take, List.length_drop]; omega
  have key : ∀ q (hq : q < ((L.drop i).take j).length), W.cell? (ad.add q) = some (byteV ((L.drop i).take j)[q]) ∧ W.frozen? (ad.add q) = W.frozen? (ad.add q) := fun q hq => by
    rw [hlen] at hq
    rcases had with rfl | h0
    · refine ⟨?_, rfl⟩
      rw [Go.WideShapes.add_plain, h.obj.row.at_ hn (by omega), List.getElem_take, List.getElem_drop, List.getD_eq_getElem?_getD, List.getElem?_eq_getElem (by omega)]
      rfl
    · omega
  have := run_convert_bytes_back (P := Tryd.prog) W 26 9 5 ad c ((L.drop i).take j) Tryd.underlying26 Tryd.underlying5 Tryd.underlying9 fun q hq => (key q hq).1
  rw [hlen] at this
  exact this
theorem head_bad (hE : Env w S) (h : SObj w S B g v L p V) (h0 : V.no = 0) (hl : L.length ≤ 900000) {b : UInt8} {t : List UInt8} (hR : V.R = b :: t) (hm : mayI (b.toNat : Int) = false) : Calls Tryd.prog 82 #[.pointer (some ⟨g, 0, none⟩)] w (HSays w S ⟨0, 0, 2, 129, 0⟩) := by
  obtain ⟨av, nv, cv, rfl, hnv⟩ := h.row.some_form
  have hpn : p < nv := by
    have h1 := h.rest h0
    rw [hR] at h1
    have h2 := congrArg List.length h1
    rw [List.length_drop, List.length_cons] at h2
    omega
  obtain ⟨k, rfl⟩ := h.row.addr (by omega)
  have hbv : L.getD p 0 = b := by
    have h1 := h.rest h0
    rw [hR] at h1
    rw [List.getD_eq_getElem?_getD, ← List.head?_drop, ← h1]
    rfl
  have h1 := sleft_any h (by omega)
  have e1 : leftV V = t.length + 1 := by unfold leftV; rw [if_pos h0, hR]; rfl
  rw [e1] at h1
  have H1 := Lib.hid h1
  have HI := Lib.hid (fun (W : World) (hb : Below w.heap.size w W) => show HIn w W S B g (.slice (some ⟨k, 0, none⟩) nv cv) L p V from ⟨h.below hb, hE.later hb, hb⟩)
  have KT := Lib.hid (fun (W : World) (h : HIn w W S B g (.slice (some ⟨k, 0, none⟩) nv cv) L p V) => show W.cell? ⟨g, 1, none⟩ = some (.slice (some ⟨k, 0, none⟩) nv cv) ∧ W.cell? ⟨g, 2, none⟩ = some (.int .i64 p) ∧ W.cell? ⟨k, p, none⟩ = some (.int .u8 (b.toNat : Int)) from by
    obtain ⟨_, q1, q2, q3⟩ := h.cells h0 hnv hpn
    rw [hbv] at q3
    exact ⟨q1, q2, q3⟩)
  have D34 := Lib.hid (fun (W : World) (h : HIn w W S B g (.slice (some ⟨k, 0, none⟩) nv cv) L p V) => (chk_bad S (b.toNat : Int) hm W h.env).mono fun x w' hx => show ∃ t u, x = Ending.returned (.iface t u) ∧ ErrOf w' S 129 2 0 (.iface t u) ∧ HIn w w' S B g (.slice (some ⟨k, 0, none⟩) nv cv) L p V from by
    obtain ⟨e, rfl, he, hb⟩ := hx
    obtain ⟨t, u, rfl⟩ := err_iface he (by omega)
    exact ⟨t, u, rfl, he, h.below hb⟩)
  have hw8 : IntKind.i64.wrap (b.toNat : Int) = (b.toNat : Int) := IntWalk.i64_in _ (by have := b.toNat_lt; omega)
  have hp0 : (0 : Int) ≤ (p : Int) := by omega
  have hp1 : (p : Int) < (nv : Int) := by omega
  have hp2 : (p : Int) ≤ (nv : Int) := by omega
  clear h h1 e1 hR hl hE hbv hm hnv
  generalize b.toNat = bn at *
  generalize t.length = tl at *
  go_enter Tryd.func82, Tryd.ntmps82
  go_wp2_with fail
  refine H1.out.mono ?_
  rintro x w1 ⟨rfl, hb⟩
  have hi0 := HI.out _ hb
  obtain ⟨t0, t1, t2⟩ := KT.out _ hi0
  clear hb
  go_wp2_with fail
  go_region_held3 (fun W => W.cell? ⟨g, 1, none⟩ = some (.slice (some ⟨k, 0, none⟩) nv cv) ∧ W.cell? ⟨g, 2, none⟩ = some (.int .i64 p) ∧ W.cell? ⟨k, p, none⟩ = some (.int .u8 (bn : Int)))
    (first | assumption | (exact KT.out _ (by assumption)) | (exact KT.out _ (HIn.drewN (by assumption) 1)))
    ((go_at_call 34; (with_reducible refine (D34.out _ ?_).mono ?_); (first | assumption | exact HIn.drewN (by assumption) 1); rintro x w6 ⟨t6, u6, rfl, he6, hi6⟩))
  have HX := Lib.hid he6
  have HB6 := Lib.hid hi6.bel
  clear he6 hi6 t0 t1 t2 hi0
  go_wp2_with fail
  exact bodyPost_ret (v := .tuple #[.int .i64 0, .int .i64 0, .iface t6 u6]) (by simp [results, Tryd.results82, go_sem]) rfl ⟨_, rfl, HX.out, HB6.out⟩
set_option maxHeartbeats 8000000 in
theorem head_some (hE : Env w S) (h : SObj w S B g v L p V) (h0 : V.no = 0) (hl : L.length ≤ 900000) {b : UInt8} {t : List UInt8} (hR : V.R = b :: t) (hm : mayI (b.toNat : Int) = true) : Calls Tryd.prog 82 #[.pointer (some ⟨g, 0, none⟩)] w (HSays w S (headT V.most (vt ⟨(t.take 4).toArray⟩ 4 0 0 1))) := by
  obtain ⟨av, nv, cv, rfl, hnv⟩ := h.row.some_form
  have hdr : L.drop p = b :: t := (h.rest h0).symm.trans hR
  have hlt : nv = p + (t.length + 1) := by
    have h2 := congrArg List.length hdr
    rw [List.length_drop, List.length_cons] at h2
    omega
  have hpn : p < nv := by omega
  have HLT := Lib.hid hlt
  obtain ⟨k, rfl⟩ := h.row.addr (by omega)
  have hcap : nv ≤ cv := by have := h.row.cap; omega
  have hbv : L.getD p 0 = b := by
    rw [List.getD_eq_getElem?_getD, ← List.head?_drop, hdr]
    rfl
  have htl : L.drop (p + 1) = t := by rw [← List.drop_drop, hdr]; rfl
  have h1 := sleft_any h (by omega)
  have e1 : leftV V = t.length + 1 := by unfold leftV; rw [if_pos h0, hR]; rfl
  rw [e1] at h1
  have H1 := Lib.hid h1
  have HI := Lib.hid (fun (W : World) (hb : Below w.heap.size w W) => show HIn w W S B g (.slice (some ⟨k, 0, none⟩) nv cv) L p V from ⟨h.below hb, hE.later hb, hb⟩)
  have KT := Lib.hid (fun (W : World) (h : HIn w W S B g (.slice (some ⟨k, 0, none⟩) nv cv) L p V) => show W.cell? ⟨g, 1, none⟩ = some (.slice (some ⟨k, 0, none⟩) nv cv) ∧ W.cell? ⟨g, 2, none⟩ = some (.int .i64 p) ∧ W.cell? ⟨k, p, none⟩ = some (.int .u8 (b.toNat : Int)) ∧ W.cell? ⟨g, 0, none⟩ = some (.int .i64 V.most) ∧ W.cell? ⟨0, 0, none⟩ = some (.iface 177 (.pointer (some (S 0)))) ∧ W.cell? ⟨3, 0, none⟩ = some (.iface 177 (.pointer (some (S 3)))) from by
    obtain ⟨q0, q1, q2, q3⟩ := h.cells h0 hnv hpn
    rw [hbv] at q3
    exact ⟨q1, q2, q3, q0, h.env.kShort, h.env.kTooLarge⟩)
  have KV := Lib.hid (fun (W : World) (h : HIn w W S B g (.slice (some ⟨k, 0, none⟩) nv cv) L p V) (j c : Nat) (ad : Addr) (had : ad = ⟨k, p + 1, none⟩ ∨ j = 0) (hj : p + 1 + j ≤ nv) (hj2 : j = min t.length 4) => show (convert 26 9 (.slice (some ad) j c)).run Tryd.prog W = .ok (.string ⟨(t.take 4).toArray⟩) W from by
    have := h.conv hnv (p + 1) j c ad had hj
    rw [htl] at this
    have e : t.take j = t.take 4 := by
      rw [hj2]
      rcases Nat.le_total t.length 4 with h4 | h4
      · rw [Nat.min_eq_left h4, List.take_of_length_le (Nat.le_refl _), List.take_of_length_le h4]
      · rw [Nat.min_eq_right h4]
    rw [e] at this
    exact this)
  have hz4 : (⟨(t.take 4).toArray⟩ : ByteArray).size ≤ 4 := by rw [bsize, List.length_take]; omega
  have D34 := Lib.hid (fun (W : World) (h : HIn w W S B g (.slice (some ⟨k, 0, none⟩) nv cv) L p V) => (chk_ok (b.toNat : Int) hm W).mono fun x w' hx => show x = Ending.returned .nilIface ∧ HIn w w' S B g (.slice (some ⟨k, 0, none⟩) nv cv) L p V from ⟨hx.1, hx.2 ▸ h⟩)
  have D97 := Lib.hid (fun (W : World) (h : HIn w W S B g (.slice (some ⟨k, 0, none⟩) nv cv) L p V) => (vi_take S ⟨(t.take 4).toArray⟩ W h.env (by omega)).mono fun x w' hx => show ∃ e, x = Ending.returned (.tuple #[.int .i64 (vt ⟨(t.take 4).toArray⟩ 4 0 0 1).1, .int .i64 (vt ⟨(t.take 4).toArray⟩ 4 0 0 1).2.1, e]) ∧ ErrOf w' S 129 (vt ⟨(t.take 4).toArray⟩ 4 0 0 1).2.2.1 (vt ⟨(t.take 4).toArray⟩ 4 0 0 1).2.2.2 e ∧ HIn w w' S B g (.slice (some ⟨k, 0, none⟩) nv cv) L p V from by
    obtain ⟨e, rfl, he, hb⟩ := hx
    exact ⟨e, rfl, he, h.below hb⟩)
  have hfb := vt_bd ⟨(t.take 4).toArray⟩ 4 0 0 1 (Nat.zero_le _)
  have hfn := vt_num ⟨(t.take 4).toArray⟩ 4 0 0 1
  have hg4 : gN 4 = 268435455 := rfl
  have HNV := Lib.hid hnv
  have hw8 : IntKind.i64.wrap (b.toNat : Int) = (b.toNat : Int) := IntWalk.i64_in _ (by have := b.toNat_lt; omega)
  have hp0 : (0 : Int) ≤ (p : Int) := by omega
  have hp1 : (p : Int) < (nv : Int) := by omega
  have hp2 : (p : Int) ≤ (nv : Int) := by omega
  have hsm : nv ≤ 900000 := by omega
  have HSM := Lib.hid hsm
  clear h h1 e1 hR hl hE hbv hm hnv hdr htl hlt
  generalize (⟨(t.take 4).toArray⟩ : ByteArray) = ts at *
  generalize vt ts 4 0 0 1 = f at *
  obtain ⟨fn, fk, fno, fa⟩ := f
  simp only at *
  generalize b.toNat = bn at *
  generalize t.length = tl at *
  have q1 : IntKind.i64.wrap ((p : Int) + 1) = (p : Int) + 1 := IntWalk.i64_in _ (by omega)
  go_enter Tryd.func82, Tryd.ntmps82
  go_wp2_with fail
  refine H1.out.mono ?_
  rintro x w1 ⟨rfl, hb⟩
  have hi0 := HI.out _ hb
  obtain ⟨t0, t1, t2, t3, t4, t5⟩ := KT.out _ hi0
  clear hb
  go_wp2_with fail
  go_region_held3 (fun W => W.cell? ⟨g, 1, none⟩ = some (.slice (some ⟨k, 0, none⟩) nv cv) ∧ W.cell? ⟨g, 2, none⟩ = some (.int .i64 p) ∧ W.cell? ⟨k, p, none⟩ = some (.int .u8 (bn : Int)) ∧ W.cell? ⟨g, 0, none⟩ = some (.int .i64 V.most) ∧ W.cell? ⟨0, 0, none⟩ = some (.iface 177 (.pointer (some (S 0)))) ∧ W.cell? ⟨3, 0, none⟩ = some (.iface 177 (.pointer (some (S 3)))))
    (first | assumption | (exact KT.out _ (by assumption)) | (exact KT.out _ (HIn.drewN (by assumption) 1)))
    ((go_at_call 34; (with_reducible refine (D34.out _ ?_).mono ?_); (first | assumption | exact HIn.drewN (by assumption) 1); rintro x w6 ⟨rfl, hi6⟩))
  clear t0 t1 t2 t3 t4 t5 hi0
  obtain ⟨t0, t1, t2, t3, t4, t5⟩ := KT.out _ hi6
  go_wp2_with fail
  have KC := Lib.hid (fun (W : World) (h : HIn w W S B g (.slice (some ⟨k, 0, none⟩) nv cv) L p V) => show W.cell? ⟨g, 1, none⟩ = some (.slice (some ⟨k, 0, none⟩) nv cv) ∧ W.cell? ⟨g, 2, none⟩ = some (.int .i64 p) from ⟨(KT.out W h).1, (KT.out W h).2.1⟩)
  clear KT
  have hfk : fk ≤ 4 := by omega
  have hfn2 : fn ≤ 268435455 := by rw [hg4] at hfn; omega
  have HFB := Lib.hid (show fa ≤ 100 by omega)
  clear hfb hfn hg4 hz4
  have hcase : (4 ≤ tl) ∨ (0 < tl ∧ tl < 4) ∨ (tl = 0 ∧ cv = p + 1) ∨ (tl = 0 ∧ ¬ cv = p + 1) := by omega
  rcases hcase with hc | hc | hc | hc
  case' inl =>
    obtain ⟨m, hm5⟩ : ∃ m : Nat, m = p + 5 := ⟨_, rfl⟩
    have KS := Lib.hid (fun (W : World) (h : HIn w W S B g (.slice (some ⟨k, 0, none⟩) nv cv) L p V) => show W.cell? ⟨g, 1, none⟩ = some (.slice (some ⟨k, 0, none⟩) nv cv) ∧ W.cell? ⟨g, 2, none⟩ = some (.int .i64 p) ∧ (convert 26 9 (.slice (some ⟨k, p + 1, none⟩) (m - (p + 1)) (cv - (p + 1)))).run Tryd.prog W = .ok (.string ts) W from
      ⟨(KC.out W h).1, (KC.out W h).2, KV.out W h (m - (p + 1)) _ _ (.inl rfl) (by have := HLT.out; omega) (by have := HLT.out; omega)⟩)
    have x1 : IntKind.i64.wrap ((p : Int) + 1 + 4) = (m : Int) := by
      rw [IntWalk.i64_in _ (by omega)]
      omega
    have x3 : (nv : Int) ≤ (cv : Int) := by omega
    have x4 : (0 : Int) ≤ (p : Int) + 1 := by omega
    have x6 : (p : Int) + 1 ≤ (nv : Int) := by omega
    have x2 : (m : Int) ≤ (nv : Int) := by have := HLT.out; omega
    have x7 : (m : Int) ≤ (cv : Int) := by omega
    have x8 : (p : Int) + 1 ≤ (m : Int) := by omega
    have x9 : ¬ ((nv : Int) < (m : Int)) := by omega
    have y9 : ¬ nv < m := by omega
    have y7 : m ≤ cv := by omega
    have y8 : p + 1 ≤ m := by omega
    have y10 : m ≤ nv := by omega
    have x5 : ¬ cv = p + 1 := by have := HLT.out; omega
    have hs0 := KS.out _ hi6
    clear hm5
    go_region_held3 (fun W => W.cell? ⟨g, 1, none⟩ = some (.slice (some ⟨k, 0, none⟩) nv cv) ∧ W.cell? ⟨g, 2, none⟩ = some (.int .i64 p) ∧ (convert 26 9 (.slice (some ⟨k, p + 1, none⟩) (m - (p + 1)) (cv - (p + 1)))).run Tryd.prog W = .ok (.string ts) W)
      (first | assumption | (exact KS.out _ (by assumption)) | (exact KS.out _ (HIn.drewN (by assumption) 1)))
      ((go_at_call 97; (with_reducible refine (D97.out _ ?_).mono ?_); (first | assumption | exact HIn.drewN (by assumption) 1); rintro x w7 ⟨e7, rfl, he7, hi7⟩))
  case' inr.inl =>
    have KS := Lib.hid (fun (W : World) (h : HIn w W S B g (.slice (some ⟨k, 0, none⟩) nv cv) L p V) => show W.cell? ⟨g, 1, none⟩ = some (.slice (some ⟨k, 0, none⟩) nv cv) ∧ W.cell? ⟨g, 2, none⟩ = some (.int .i64 p) ∧ (convert 26 9 (.slice (some ⟨k, p + 1, none⟩) (nv - (p + 1)) (cv - (p + 1)))).run Tryd.prog W = .ok (.string ts) W from
      ⟨(KC.out W h).1, (KC.out W h).2, KV.out W h (nv - (p + 1)) _ _ (.inl rfl) (by have := HLT.out; omega) (by have := HLT.out; omega)⟩)
    have x1 : IntKind.i64.wrap ((p : Int) + 1 + 4) = (p : Int) + 1 + 4 := IntWalk.i64_in _ (by omega)
    have x3 : (nv : Int) ≤ (cv : Int) := by omega
    have x4 : (0 : Int) ≤ (p : Int) + 1 := by omega
    have x6 : (p : Int) + 1 ≤ (nv : Int) := by omega
    have x2 : (nv : Int) < (p : Int) + 1 + 4 := by have := HLT.out; omega
    have x5 : ¬ cv = p + 1 := by have := HLT.out; omega
    have hs0 := KS.out _ hi6
    go_region_held3 (fun W => W.cell? ⟨g, 1, none⟩ = some (.slice (some ⟨k, 0, none⟩) nv cv) ∧ W.cell? ⟨g, 2, none⟩ = some (.int .i64 p) ∧ (convert 26 9 (.slice (some ⟨k, p + 1, none⟩) (nv - (p + 1)) (cv - (p + 1)))).run Tryd.prog W = .ok (.string ts) W)
      (first | assumption | (exact KS.out _ (by assumption)) | (exact KS.out _ (HIn.drewN (by assumption) 1)))
      ((go_at_call 97; (with_reducible refine (D97.out _ ?_).mono ?_); (first | assumption | exact HIn.drewN (by assumption) 1); rintro x w7 ⟨e7, rfl, he7, hi7⟩))
  case' inr.inr.inl =>
    have KS := Lib.hid (fun (W : World) (h : HIn w W S B g (.slice (some ⟨k, 0, none⟩) nv cv) L p V) => show W.cell? ⟨g, 1, none⟩ = some (.slice (some ⟨k, 0, none⟩) nv cv) ∧ W.cell? ⟨g, 2, none⟩ = some (.int .i64 p) ∧ (convert 26 9 (.slice (some ⟨k, 0, none⟩) (nv - (p + 1)) 0)).run Tryd.prog W = .ok (.string ts) W from
      ⟨(KC.out W h).1, (KC.out W h).2, KV.out W h (nv - (p + 1)) _ _ (.inr (by have := HLT.out; omega)) (by have := HLT.out; omega) (by have := HLT.out; omega)⟩)
    have x1 : IntKind.i64.wrap ((p : Int) + 1 + 4) = (p : Int) + 1 + 4 := IntWalk.i64_in _ (by omega)
    have x3 : (nv : Int) ≤ (cv : Int) := by omega
    have x4 : (0 : Int) ≤ (p : Int) + 1 := by omega
    have x6 : (p : Int) + 1 ≤ (nv : Int) := by omega
    have x2 : (nv : Int) < (p : Int) + 1 + 4 := by have := HLT.out; omega
    have x5 : cv = p + 1 := hc.2
    have y1 : (nv : Int) ≤ (p : Int) + 1 := by have := HLT.out; omega
    have y3 : (p : Int) + 1 ≤ (cv : Int) := by omega
    have hs0 := KS.out _ hi6
    go_region_held3 (fun W => W.cell? ⟨g, 1, none⟩ = some (.slice (some ⟨k, 0, none⟩) nv cv) ∧ W.cell? ⟨g, 2, none⟩ = some (.int .i64 p) ∧ (convert 26 9 (.slice (some ⟨k, 0, none⟩) (nv - (p + 1)) 0)).run Tryd.prog W = .ok (.string ts) W)
      (first | assumption | (exact KS.out _ (by assumption)) | (exact KS.out _ (HIn.drewN (by assumption) 1)))
      ((go_at_call 97; (with_reducible refine (D97.out _ ?_).mono ?_); (first | assumption | exact HIn.drewN (by assumption) 1); rintro x w7 ⟨e7, rfl, he7, hi7⟩))
  case' inr.inr.inr =>
    have KS := Lib.hid (fun (W : World) (h : HIn w W S B g (.slice (some ⟨k, 0, none⟩) nv cv) L p V) => show W.cell? ⟨g, 1, none⟩ = some (.slice (some ⟨k, 0, none⟩) nv cv) ∧ W.cell? ⟨g, 2, none⟩ = some (.int .i64 p) ∧ (convert 26 9 (.slice (some ⟨k, p + 1, none⟩) (nv - (p + 1)) (cv - (p + 1)))).run Tryd.prog W = .ok (.string ts) W from
      ⟨(KC.out W h).1, (KC.out W h).2, KV.out W h (nv - (p + 1)) _ _ (.inl rfl) (by have := HLT.out; omega) (by have := HLT.out; omega)⟩)
    have x1 : IntKind.i64.wrap ((p : Int) + 1 + 4) = (p : Int) + 1 + 4 := IntWalk.i64_in _ (by omega)
    have x3 : (nv : Int) ≤ (cv : Int) := by omega
    have x4 : (0 : Int) ≤ (p : Int) + 1 := by omega
    have x6 : (p : Int) + 1 ≤ (nv : Int) := by omega
    have x2 : (nv : Int) < (p : Int) + 1 + 4 := by have := HLT.out; omega
    have x5 : ¬ cv = p + 1 := hc.2
    have hs0 := KS.out _ hi6
    go_region_held3 (fun W => W.cell? ⟨g, 1, none⟩ = some (.slice (some ⟨k, 0, none⟩) nv cv) ∧ W.cell? ⟨g, 2, none⟩ = some (.int .i64 p) ∧ (convert 26 9 (.slice (some ⟨k, p + 1, none⟩) (nv - (p + 1)) (cv - (p + 1)))).run Tryd.prog W = .ok (.string ts) W)
      (first | assumption | (exact KS.out _ (by assumption)) | (exact KS.out _ (HIn.drewN (by assumption) 1)))
      ((go_at_call 97; (with_reducible refine (D97.out _ ?_).mono ?_); (first | assumption | exact HIn.drewN (by assumption) 1); rintro x w7 ⟨e7, rfl, he7, hi7⟩))
  all_goals (
    have HX := Lib.hid he7
    have HI7 := Lib.hid hi7
    clear hi7 he7
    have u0 := HI7.out.env.kShort
    go_wp2_with fail
    refine (is_short HI7.out.env HX.out).mono ?_
    rintro x w8 ⟨rfl, rfl⟩
    by_cases n1 : fno = 1
    · have hq : headT V.most (fn, fk, fno, fa) = ⟨0, 0, 0, 129, 0⟩ := by unfold headT; rw [if_pos n1]
      have b1 : (fno == 1) = true := beq_iff_eq.2 n1
      have HQ := Lib.hid hq
      rw [b1]
      clear b1 hq n1
      go_wp2_with fail
      refine bodyPost_ret (v := .tuple #[.int .i64 0, .int .i64 0, .nilIface]) (by simp [results, Tryd.results82, go_sem]) rfl ?_
      rw [HQ.out]
      exact ⟨_, rfl, ErrOf.none, HI7.out.bel⟩
    · have b1 : (fno == 1) = false := beq_eq_false_iff_ne.2 n1
      rw [b1]
      by_cases n0 : fno = 0
      · have he : e7 = .nilIface := by have := HX.out; unfold ErrOf at this; rw [if_pos n0] at this; exact this
        subst he
        have m0 := (HI7.out.cells h0 HNV.out hpn).1
        by_cases hmost : V.most < ((1 + fk + fn : Nat) : Int)
        · have hq : headT V.most (fn, fk, fno, fa) = ⟨0, 0, 4, 149, 0⟩ := by unfold headT; rw [if_neg n1, if_pos n0, if_pos hmost]
          have u3 := HI7.out.env.kTooLarge
          have hm2 : V.most < 1 + (fk : Int) + (fn : Int) := by omega
          have HQ := Lib.hid hq
          clear b1 hq n1 n0 hmost
          go_wp2_with fail
          refine (new_err S 3 149 0).mono ?_
          rintro x w9 ⟨e9, rfl, he9, hb9⟩
          have HX9 := Lib.hid he9
          have HB9 := Lib.hid (HI7.out.bel.trans (hb9.mono HI7.out.bel.size))
          clear he9 hb9
          go_wp2_with fail
          refine bodyPost_ret (v := .tuple #[.int .i64 0, .int .i64 0, e9]) (by simp [results, Tryd.results82, go_sem]) rfl ?_
          rw [HQ.out]
          exact ⟨_, rfl, ErrOf.some (no := 4) (by omega) (by omega) HX9.out, HB9.out⟩
        · have hq : headT V.most (fn, fk, fno, fa) = ⟨1 + fk, 1 + fk + fn, 0, 129, 0⟩ := by unfold headT; rw [if_neg n1, if_pos n0, if_neg hmost]
          have hm2 : 1 + (fk : Int) + (fn : Int) ≤ V.most := by omega
          have hr1 : ((1 + fk : Nat) : Int) = 1 + (fk : Int) := by omega
          have hr2 : ((1 + fk + fn : Nat) : Int) = 1 + (fk : Int) + (fn : Int) := by omega
          have HQ := Lib.hid hq
          have HR1 := Lib.hid hr1
          have HR2 := Lib.hid hr2
          clear b1 hq n1 n0 hmost hr1 hr2
          go_wp2_with fail
          refine bodyPost_ret (v := .tuple #[.int .i64 (1 + (fk : Int)), .int .i64 (1 + (fk : Int) + (fn : Int)), .nilIface]) (by simp [results, Tryd.results82, go_sem]) rfl ?_
          rw [HQ.out]
          exact ⟨_, by simp only [HR1.out, HR2.out], ErrOf.none, HI7.out.bel⟩
      · have hq : headT V.most (fn, fk, fno, fa) = ⟨0, 0, fno, 129, fa + 1⟩ := by unfold headT; rw [if_neg n1, if_neg n0]
        obtain ⟨t7, u7, rfl⟩ := err_iface HX.out n0
        have HQ := Lib.hid hq
        have HD7 := Lib.hid (deeper_err (b := 1) HI7.out.env HX.out n0 (by have := HFB.out; omega) (by omega))
        clear b1 hq
        go_wp2_with fail
        refine HD7.out.mono ?_
        rintro x w9 ⟨e9, rfl, he9, hb9⟩
        have HX9 := Lib.hid he9
        have HB9 := Lib.hid (HI7.out.bel.trans (hb9.mono HI7.out.bel.size))
        clear he9 hb9
        go_wp2_with fail
        refine bodyPost_ret (v := .tuple #[.int .i64 0, .int .i64 0, e9]) (by simp [results, Tryd.results82, go_sem]) rfl ?_
        rw [HQ.out]
        exact ⟨_, rfl, HX9.out, HB9.out⟩)
theorem head_any (hE : Env w S) (h : SObj w S B g v L p V) (h0 : V.no = 0) (hl : L.length ≤ 900000) : Calls Tryd.prog 82 #[.pointer (some ⟨g, 0, none⟩)] w (HSays w S (headF V.most V.R)) := by
  cases hR : V.R with
  | nil => exact head_nil h h0 (by omega) hR
  | cons b t =>
    have hd : headF V.most (b :: t) = if mayI (b.toNat : Int) = true then headT V.most (vt ⟨t.toArray⟩ 4 0 0 1) else ⟨0, 0, 2, 129, 0⟩ := rfl
    by_cases hm : mayI (b.toNat : Int) = true
    · have e : headF V.most (b :: t) = headT V.most (vt ⟨(t.take 4).toArray⟩ 4 0 0 1) := by rw [head_four, hd, if_pos hm]
      rw [e]
      exact head_some hE h h0 hl hR hm
    · have e : headF V.most (b :: t) = ⟨0, 0, 2, 129, 0⟩ := by rw [hd, if_neg hm]
      rw [e]
      exact head_bad hE h h0 hl hR (by cases hb : mayI (b.toNat : Int) with | false => rfl | true => exact absurd hb hm)
end
end Go.Proofs.YtfojoeafhdiaiaaDoor

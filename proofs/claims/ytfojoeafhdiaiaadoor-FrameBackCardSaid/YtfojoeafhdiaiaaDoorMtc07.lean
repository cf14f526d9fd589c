/- What is proved here: plain lists: what a Splitter knows behind any pieces is what all bytes together tell; the bytes of packets are those packets. Conditions: bodies of up to 200 bytes. -/
import Derived.Test.YtfojoeafhdiaiaaDoorFrm07
import Derived.Test.YtfojoeafhdiaiaaDoorNxa07
namespace Go.Proofs.YtfojoeafhdiaiaaDoor
set_option maxRecDepth 100000
open Go.RowKit Go.Extern.Stop Go.Stop Go.Extern
/-- A piece more. -/
def feedV (V : SV) (s : ByteArray) : SV := if V.no = 0 then ⟨V.most, V.R ++ s.data.toList, 0, V.r, V.a, V.lost⟩ else ⟨V.most, V.R, V.no, V.r, V.a, V.lost + s.size⟩
structure SInv (most : Int) (al : List UInt8) (V : SV) (got : List FP) : Prop where
  mst : V.most = most
  gotE : got = (allF most al).pk
  noE : V.no = (allF most al).no
  zero : V.no = 0 → V.R = (allF most al).rest
  some : V.no ≠ 0 → V.r = (allF most al).r ∧ V.a = (allF most al).a ∧ V.lost = (allF most al).rest.length
theorem SInv.begin (most : Int) : SInv most [] ⟨most, [], 0, 0, 0, 0⟩ [] := ⟨rfl, rfl, rfl, fun _ => rfl, fun h => absurd rfl h⟩
theorem SInv.step {most : Int} {al : List UInt8} {V : SV} {got : List FP} (h : SInv most al V got) (s : ByteArray) : SInv most (al ++ s.data.toList) (drainV (feedV V s)) (got ++ drainP (feedV V s)) := by
  obtain ⟨h1, h2, h3, h4, h5⟩ := h
  obtain ⟨c1, c2⟩ := allF_cut most al.length al s.data.toList (Nat.le_refl _)
  by_cases h0 : V.no = 0
  · have e := c2 (h3.symm.trans h0)
    have ef : feedV V s = ⟨V.most, V.R ++ s.data.toList, 0, V.r, V.a, V.lost⟩ := by unfold feedV; rw [if_pos h0]
    rw [ef, h1, h4 h0]
    have ep : drainP ⟨most, (allF most al).rest ++ s.data.toList, 0, V.r, V.a, V.lost⟩ = (allF most ((allF most al).rest ++ s.data.toList)).pk := by
      unfold drainP
      rw [if_neg (fun h => h rfl)]
    rw [ep, h2]
    by_cases hn : (allF most ((allF most al).rest ++ s.data.toList)).no = 0
    · have ed : drainV ⟨most, (allF most al).rest ++ s.data.toList, 0, V.r, V.a, V.lost⟩ = ⟨most, (allF most ((allF most al).rest ++ s.data.toList)).rest, 0, V.r, V.a, V.lost⟩ := by
        unfold drainV
        rw [if_neg (fun h => h rfl), if_neg (fun h => h hn)]
      rw [ed]
      exact ⟨rfl, by rw [e], by rw [e]; exact hn.symm, fun _ => by rw [e], fun h => absurd rfl h⟩
    · have ed : drainV ⟨most, (allF most al).rest ++ s.data.toList, 0, V.r, V.a, V.lost⟩ = ⟨most, (allF most ((allF most al).rest ++ s.data.toList)).rest, (allF most ((allF most al).rest ++ s.data.toList)).no, (allF most ((allF most al).rest ++ s.data.toList)).r, (allF most ((allF most al).rest ++ s.data.toList)).a, (allF most ((allF most al).rest ++ s.data.toList)).rest.length⟩ := by
        unfold drainV
        rw [if_neg (fun h => h rfl), if_pos hn]
      rw [ed]
      exact ⟨rfl, by rw [e], by rw [e], fun h => absurd h hn, fun _ => by rw [e]; exact ⟨rfl, rfl, rfl⟩⟩
  · have e := c1 (fun h => h0 (h3.trans h))
    have ef : feedV V s = ⟨V.most, V.R, V.no, V.r, V.a, V.lost + s.size⟩ := by unfold feedV; rw [if_neg h0]
    have ep : drainP (feedV V s) = [] := by
      rw [ef]
      unfold drainP
      rw [if_pos h0]
    have ed : drainV (feedV V s) = feedV V s := by
      rw [ef]
      unfold drainV
      rw [if_pos h0]
    obtain ⟨k1, k2, k3⟩ := h5 h0
    rw [ep, ed, ef, List.append_nil]
    refine ⟨h1, by rw [e]; exact h2, by rw [e]; exact h3, fun h => absurd h h0, fun _ => ?_⟩
    rw [e]
    refine ⟨k1, k2, ?_⟩
    show V.lost + s.size = ((allF most al).rest ++ s.data.toList).length
    rw [List.length_append, k3]
    rfl
theorem SInv.left {most : Int} {al : List UInt8} {V : SV} {got : List FP} (h : SInv most al V got) : leftV V = (allF most al).rest.length := by
  unfold leftV
  by_cases h0 : V.no = 0
  · rw [if_pos h0, h.zero h0]
  · rw [if_neg h0, (h.some h0).2.2]
theorem SInv.err {most : Int} {al : List UInt8} {V : SV} {got : List FP} (h : SInv most al V got) {w : World} {S : Nat → Addr} {e : Value} (he : ErrOf w S V.r V.no V.a e) : ErrOf w S (allF most al).r (allF most al).no (allF most al).a e := by
  by_cases h0 : V.no = 0
  · have hn := h.noE.symm.trans h0
    unfold ErrOf at he ⊢
    rw [if_pos h0] at he
    rw [if_pos hn]
    exact he
  · obtain ⟨k1, k2, _⟩ := h.some h0
    rw [← h.noE, ← k1, ← k2]
    exact he
/-- The bytes of packets, one behind the other. -/
def encL : List FP → List UInt8
  | [] => []
  | f :: L => encF f.1 ⟨f.2.toArray⟩ ++ encL L
theorem encL_app (L M : List FP) : encL (L ++ M) = encL L ++ encL M := by
  induction L with
  | nil => rfl
  | cons f L ih =>
    show encF f.1 ⟨f.2.toArray⟩ ++ encL (L ++ M) = encF f.1 ⟨f.2.toArray⟩ ++ encL L ++ encL M
    rw [ih, List.append_assoc]
/-- A packet that may be, of few bytes. -/
def okF (f : FP) : Prop := mayI (f.1 : Int) = true ∧ f.2.length ≤ 200
theorem mayI_lt {c : Nat} (h : mayI (c : Int) = true) : c < 256 := by
  unfold mayI at h
  simp only [Bool.and_eq_true, decide_eq_true_eq] at h
  omega
theorem encF_head (f : FP) (hf : okF f) (u : List UInt8) : ∃ q, headF 300 (encF f.1 ⟨f.2.toArray⟩ ++ u) = q ∧ q.no = 0 ∧ q.z = (encF f.1 ⟨f.2.toArray⟩).length ∧ q.h = 1 + (vb f.2.length).length ∧ q.z ≤ 205 ∧ 0 < q.z := by
  obtain ⟨c, b⟩ := f
  obtain ⟨h1, h2⟩ := hf
  simp only at h1 h2 ⊢
  have hc := mayI_lt h1
  have hsz : (⟨b.toArray⟩ : ByteArray).size = b.length := rfl
  have e : encF c ⟨b.toArray⟩ = UInt8.ofNat c :: (vb b.length ++ b) := rfl
  have hto : (UInt8.ofNat c).toNat = c := by simp [UInt8.toNat_ofNat', Nat.mod_eq_of_lt hc]
  obtain ⟨hl1, hl2⟩ := vb_len b.length (by omega)
  have hv : vt ⟨((vb b.length ++ b) ++ u).toArray⟩ 4 0 0 1 = (b.length, (vb b.length).length, 0, 0) := by
    rw [List.append_assoc]
    exact vt_vb b.length (by omega) (b ++ u)
  refine ⟨⟨1 + (vb b.length).length, 1 + (vb b.length).length + b.length, 0, 129, 0⟩, ?_, rfl, ?_, rfl, ?_, ?_⟩
  · rw [e]
    show (if mayI ((UInt8.ofNat c).toNat : Int) = true then headT 300 (vt ⟨((vb b.length ++ b) ++ u).toArray⟩ 4 0 0 1) else ⟨0, 0, 2, 129, 0⟩) = _
    rw [hto, if_pos h1, hv]
    unfold headT
    rw [if_neg (by show ¬ (0 : Nat) = 1; decide), if_pos rfl, if_neg (by simp only; omega)]
  · rw [e, List.length_cons, List.length_append]
    simp only
    omega
  · simp only
    omega
  · simp only
    omega
theorem allF_encL (L : List FP) : (∀ f ∈ L, okF f) → allF 300 (encL L) = ⟨L, [], 0, 0, 0⟩ := by
  induction L with
  | nil => exact fun _ => rfl
  | cons f L ih =>
    intro h
    have hf := h f (List.mem_cons_self ..)
    obtain ⟨q, hq, q0, qz, qh, q205, qp⟩ := encF_head f hf (encL L)
    have hl : (encL (f :: L)).length = (encF f.1 ⟨f.2.toArray⟩).length + (encL L).length := by
      show (encF f.1 ⟨f.2.toArray⟩ ++ encL L).length = _
      rw [List.length_append]
    have hq' : headF 300 (encL (f :: L)) = q := hq
    have hw : whole (headF 300 (encL (f :: L))) (encL (f :: L)) := by
      rw [hq']
      exact ⟨q0, qp, by omega⟩
    have hd : (encL (f :: L)).drop q.z = encL L := by
      show (encF f.1 ⟨f.2.toArray⟩ ++ encL L).drop q.z = _
      rw [qz, List.drop_left]
    have hp : fpOf (encL (f :: L)) q = f := by
      obtain ⟨c, b⟩ := f
      have e : encF c ⟨b.toArray⟩ = UInt8.ofNat c :: (vb b.length ++ b) := rfl
      unfold fpOf
      rw [show encL ((c, b) :: L) = encF c ⟨b.toArray⟩ ++ encL L from rfl, qz, List.take_left, qh, e]
      have hto : (UInt8.ofNat c).toNat = c := by simp [UInt8.toNat_ofNat', Nat.mod_eq_of_lt (mayI_lt hf.1)]
      rw [show (UInt8.ofNat c :: (vb b.length ++ b) ++ encL L).getD 0 0 = UInt8.ofNat c from rfl, hto]
      rw [Nat.add_comm, List.drop_succ_cons, List.drop_left]
    rw [allF_whole hw, hq', hd, hp, ih (fun g hg => h g (List.mem_cons_of_mem _ hg))]
/-- Where all bytes have no error, the first ones of them have none. -/
theorem allF_first {most : Int} {al u : List UInt8} (h : (allF most (al ++ u)).no = 0) : (allF most al).no = 0 := by
  by_cases h0 : (allF most al).no = 0
  · exact h0
  · have e := (allF_cut most al.length al u (Nat.le_refl _)).1 h0
    rw [e] at h
    exact absurd h h0
end Go.Proofs.YtfojoeafhdiaiaaDoor

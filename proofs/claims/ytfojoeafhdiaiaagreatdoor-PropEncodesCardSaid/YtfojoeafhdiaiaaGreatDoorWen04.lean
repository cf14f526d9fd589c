/- What is proved here: whether a Writer of package field is ended, and how it notes its first error. Conditions: the writer is there. -/
import Derived.Test.YtfojoeafhdiaiaaGreatDoorWob04
import Derived.Test.YtfojoeafhdiaiaaGreatDoorSays02
import Derived.Deep.RegionHeld3
import Derived.Deep.AppendLies
import Derived.Deep.QuietTactic
import Derived.BigQuiet
namespace Go.Proofs.YtfojoeafhdiaiaaGreatDoor
open Go.RowKit Go.Extern.Stop Go.Stop Go.Extern
theorem be1_v (n : Nat) : (be 1 n).map byteV = [.int .u8 ((n % 256 : Nat) : Int)] := by
  have : be 1 n = [UInt8.ofNat (n % 256)] := rfl
  rw [this, List.map_singleton, byteV_ofNat (Nat.mod_lt _ (by omega))]
theorem be1_lt {n : Nat} (h : n < 256) : (be 1 n).map byteV = [.int .u8 (n : Int)] := by rw [be1_v, Nat.mod_eq_of_lt h]
theorem be_one (k n : Nat) : be (k + 1) n = be k (n / 256) ++ be 1 n := by simp [be]
theorem byte_nat (n k : Nat) : ((n : Int) / (k : Int)) = ((n / k : Nat) : Int) := by omega
theorem be2_v {n : Nat} (h : n < 65536) : (be 1 (n / 256)).map byteV = [.int .u8 ((n : Int) / 256)] := by
  rw [be1_lt (by omega)]
  rfl
theorem be1_m (n : Nat) : (be 1 n).map byteV = [.int .u8 ((n : Int) % 256)] := by rw [be1_v]; rfl
theorem be3_v (n : Nat) : (be 1 (n / 256)).map byteV = [.int .u8 ((n : Int) / 256 % 256)] := by rw [be1_v]; rfl
theorem be4_v {n : Nat} (h : n < 4294967296) : (be 1 (n / 16777216) ++ be 1 (n / 65536)).map byteV = [.int .u8 ((n : Int) / 16777216), .int .u8 ((n : Int) / 65536 % 256)] := by
  rw [List.map_append, be1_v, be1_v, Nat.mod_eq_of_lt (show n / 16777216 < 256 by omega)]
  rfl
theorem be_two (n : Nat) : be 2 n = be 1 (n / 256) ++ be 1 n := be_one 1 n
theorem be_four (n : Nat) : be 4 n = ((be 1 (n / 16777216) ++ be 1 (n / 65536)) ++ be 1 (n / 256)) ++ be 1 n := by
  rw [be_one 3, be_one 2, be_one 1]
  simp only [Nat.div_div_eq_div_mul, Nat.reduceMul]
section
variable {w w' : World} {S : Nat → Addr} {B g : Nat} {v : Value} {W : EV}
theorem wended_no (h : WObj w S B g v W) (h0 : W.no = 0) : Calls Tryz.prog 57 #[.pointer (some ⟨g, 0, none⟩)] w fun x w' => x = .returned (.bool false) ∧ w = w' := by
  have c1 : w.cell? ⟨g, 1, none⟩ = some .nilIface := (h.nil_err h0).cell 1
  clear h
  go_enter Tryz.func57, Tryz.ntmps57
  go_wp2
  go_ret
  exact ⟨rfl, rfl⟩
theorem wended_yes (h : WObj w S B g v W) (h0 : W.no ≠ 0) : Calls Tryz.prog 57 #[.pointer (some ⟨g, 0, none⟩)] w fun x w' => x = .returned (.bool true) ∧ w = w' := by
  obtain ⟨t, u, hb, _⟩ := h.has_err h0
  have c1 : w.cell? ⟨g, 1, none⟩ = some (.iface t u) := hb.cell 1
  clear h hb h0
  go_enter Tryz.func57, Tryz.ntmps57
  go_wp2
  go_ret
  exact ⟨rfl, rfl⟩
theorem wended_nil (w : World) : Calls Tryz.prog 57 #[.pointer none] w fun x w' => x = .returned (.bool true) ∧ w = w' := by
  go_enter Tryz.func57, Tryz.ntmps57
  go_wp2
  go_ret
  exact ⟨rfl, rfl⟩
/-- What a method of a writer says that answers nothing. -/
def WSays (w : World) (S : Nat → Addr) (B g : Nat) (v : Value) (W' : EV) (x : Ending) (w' : World) : Prop := x = .returned (.tuple #[]) ∧ ∃ v', WNext w w' S B g v v' W'
theorem wfail_any (hE : Env w S) (h : WObj w S B g v W) (hl : W.L.length ≤ 900000) {no a b : Nat} {e : Value} (he : ErrOf w S 129 no a e) (h0 : no ≠ 0) (ha : a ≤ 100000) (hb : b ≤ 10) :
    Calls Tryz.prog 59 #[.pointer (some ⟨g, 0, none⟩), e, .int .i64 b] w (WSays w S B g v ⟨no, W.L.length + b + a, []⟩) := by
  obtain ⟨av, cv, rfl⟩ := h.row.form
  obtain ⟨_, hb1, _⟩ := h.blk
  have c0 : w.cell? ⟨g, 0, none⟩ = some (.slice av W.L.length cv) := hb1.cell 0
  have HD := Lib.hid (deeper_err (b := W.L.length + b) hE he h0 (by omega) (by omega))
  obtain ⟨t, u, rfl⟩ := err_iface he h0
  have H := Lib.hid h
  have hw : (W.L.length : Int) + (b : Int) = ((W.L.length + b : Nat) : Int) := by omega
  generalize hn : W.L.length = n at *
  have HW := Lib.hid hw
  clear h hb1 he hn hw
  go_enter Tryz.func59, Tryz.ntmps59
  go_wp2_with fail
  rw [HW.out]
  refine HD.out.mono ?_
  rintro x w1 ⟨e', rfl, he', hb'⟩
  have h1 := H.out.below hb'
  have hno := h1.failed he'
  obtain ⟨t', u', rfl⟩ := err_iface he' h0
  obtain ⟨e2, hb2, _⟩ := h1.blk
  have d0 : w1.cell? ⟨g, 1, none⟩ = some e2 := hb2.cell 1
  have d1 : w1.frozen? ⟨g, 1, none⟩ = false := hb2.frozen 1
  have hb3 := hb2.store 1 (.iface t' u')
  have d2 : (w1.setCell ⟨g, 1, none⟩ (.iface t' u')).cell? ⟨g, 0, none⟩ = some (.slice av n cv) := hb3.cell 0
  have d3 : (w1.setCell ⟨g, 1, none⟩ (.iface t' u')).frozen? ⟨g, 0, none⟩ = false := hb3.frozen 0
  have HF := Lib.hid (hno.pre hb')
  clear h1 hno hb2 hb3 he' hb' HD HW
  go_wp2
  have e3 : n + b + a = a + (n + b) := by omega
  rw [e3]
  exact bodyPost_end (v := .tuple #[]) (by simp [results, Tryz.results59, go_sem]) rfl ⟨rfl, _, HF.out⟩
end
end Go.Proofs.YtfojoeafhdiaiaaGreatDoor

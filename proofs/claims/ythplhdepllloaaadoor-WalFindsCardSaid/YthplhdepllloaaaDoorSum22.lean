/- What is proved here: sumOf and Put of package wal, and the document's Number and Put, tell what plain functions say. Conditions: records of few bytes; what the rows list of the package's variables. -/
import Derived.Test.YthplhdepllloaaaDoorPln22
import Derived.Test.YthplhdepllloaaaDoorWri04
import Derived.Test.YthplhdepllloaaaDoorCrcW20
namespace Go.Proofs.YthplhdepllloaaaDoor
set_option maxRecDepth 100000
open Go.RowKit Go.Extern.Stop Go.Stop Go.Extern
section
variable {w w' : World} {S : Nat → Addr}
theorem w0_num (n : Nat) (h : n < 4294967296) : stepW w0 (numE 4 n) = ⟨0, 0, be 4 n⟩ := by
  rw [numE_nat (by omega)]
  rfl
theorem sumof_any (hE : Env w S) (b : ByteArray) (hb : b.size ≤ 9000) : Calls Tryd.prog 38 #[.string b] w fun x w' => x = .returned (.int .i64 (crcW b : Nat)) ∧ Below w.heap.size w w' := by
  obtain ⟨W2, hW2⟩ : ∃ W, W = w.alloc (.cells #[.slice none 0 0, .nilIface] 75) := ⟨_, rfl⟩
  have hb2 : Below w.heap.size w W2 := by rw [hW2]; exact (Below.refl _ _).alloc (Nat.le_refl _) _
  have ho : WObj W2 S w.heap.size w.heap.size (.slice none 0 0) w0 := by rw [hW2]; exact WObj.made w S (Nat.le_refl _)
  have hu := wu32_any (hE.later hb2) ho (by decide) (b.size : Int)
  rw [w0_num _ (by omega)] at hu
  have HU := Lib.hid hu
  have HO := Lib.hid ho
  have HB2 := Lib.hid hb2
  have HW2 := Lib.hid hW2
  have HS := Lib.hid hb
  have HCW := Lib.hid (show crcW b = crcMore (crcMore 0 (be 4 b.size) : Nat) b.data.toList from rfl)
  generalize crcW b = cw at *
  clear hE hu ho hb2 hW2 hb
  go_enter Tryd.func38, Tryd.ntmps38
  go_wp2_with fail
  rw [← HW2.out]
  refine HU.out.mono ?_
  rintro x w3 ⟨rfl, v3, hn3⟩
  have HBY := Lib.hid (wbytes_any hn3.obj)
  have HB3 := Lib.hid (hn3.later HO.out HB2.out)
  clear hn3 HU HO HB2
  go_wp2_with fail
  refine HBY.out.mono ?_
  rintro x w4 ⟨e, rfl, he, hb4⟩
  have HB4 := Lib.hid (HB3.out.trans (hb4.mono HB3.out.size))
  clear he hb4 HBY HB3
  have HS1 := Lib.hid (sum_any ⟨(be 4 b.size).toArray⟩ w4 (by rw [bsize, be_len]; decide))
  go_wp2_with fail
  refine HS1.out.mono ?_
  rintro x w5 ⟨rfl, rfl⟩
  have HS2 := Lib.hid (more_any (crcMore 0 (be 4 b.size) : Nat) b w4 (by have := HS.out; omega))
  clear HS1
  go_wp2_with fail
  refine HS2.out.mono ?_
  rintro x w6 ⟨rfl, rfl⟩
  rw [← HCW.out]
  go_wp2_with fail
  go_ret
  exact ⟨rfl, HB4.out⟩
theorem wput_any (hE : Env w S) (b : ByteArray) (hb : b.size ≤ 9000) : Calls Tryd.prog 11 #[.string b] w fun x w' => x = .returned (.string ⟨(frW b).toArray⟩) ∧ Below w.heap.size w w' := by
  obtain ⟨W2, hW2⟩ : ∃ W, W = w.alloc (.cells #[.slice none 0 0, .nilIface] 75) := ⟨_, rfl⟩
  have hb2 : Below w.heap.size w W2 := by rw [hW2]; exact (Below.refl _ _).alloc (Nat.le_refl _) _
  have ho : WObj W2 S w.heap.size w.heap.size (.slice none 0 0) w0 := by rw [hW2]; exact WObj.made w S (Nat.le_refl _)
  have hu := wu32_any (hE.later hb2) ho (by decide) (b.size : Int)
  rw [w0_num _ (by omega)] at hu
  have HU := Lib.hid hu
  have HO := Lib.hid ho
  have HB2 := Lib.hid hb2
  have HW2 := Lib.hid hW2
  have HS := Lib.hid hb
  have HE := Lib.hid hE
  have HCL := Lib.hid (crcW_lt b)
  have HFR := Lib.hid (show frW b = be 4 b.size ++ (be 4 (crcW b) ++ b.data.toList) from rfl)
  generalize frW b = fr at *
  clear hE hu ho hb2 hW2 hb
  go_enter Tryd.func11, Tryd.ntmps11
  go_wp2_with fail
  rw [← HW2.out]
  refine HU.out.mono ?_
  rintro x w3 ⟨rfl, v3, hn3⟩
  have HN3 := Lib.hid hn3.obj
  have HB3 := Lib.hid (hn3.later HO.out HB2.out)
  have HSO := Lib.hid (sumof_any (HE.out.later (hn3.later HO.out HB2.out)) b HS.out)
  clear hn3 HU HO HB2 HW2
  go_wp2_with fail
  refine HSO.out.mono ?_
  rintro x w4 ⟨rfl, hb4⟩
  have ho4 := HN3.out.below hb4
  have hb4' := HB3.out.trans (hb4.mono HB3.out.size)
  have hu := wu32_any (HE.out.later hb4') ho4 (by rw [be_len]; decide) (crcW b : Int)
  rw [numE_nat (by have := HCL.out; omega), stepW_ok rfl rfl] at hu
  have HU := Lib.hid hu
  have HO4 := Lib.hid ho4
  have HB4 := Lib.hid hb4'
  generalize crcW b = cw at *
  clear hu ho4 hb4 hb4' HSO HN3 HB3
  go_wp2_with fail
  refine HU.out.mono ?_
  rintro x w5 ⟨rfl, v5, hn5⟩
  have HB5 := Lib.hid (hn5.later HO4.out HB4.out)
  have HN5 := Lib.hid hn5.obj
  have hr := wraw_any hn5.obj (by simp only [List.length_append, be_len]; decide) b (by have := HS.out; omega)
  rw [stepW_ok rfl rfl] at hr
  have HR := Lib.hid hr
  clear hr hn5 HU HO4 HB4
  go_wp2_with fail
  refine HR.out.mono ?_
  rintro x w6 ⟨rfl, v6, hn6⟩
  have HB6 := Lib.hid (hn6.later HN5.out HB5.out)
  have HBY := Lib.hid (wbytes_any hn6.obj)
  clear hn6 HR HN5 HB5
  go_wp2_with fail
  refine HBY.out.mono ?_
  rintro x w7 ⟨e, rfl, he, hb7⟩
  have HB7 := Lib.hid (HB6.out.trans (hb7.mono HB6.out.size))
  have HEQ := Lib.hid (show ((be 4 b.size ++ be 4 cw) ++ b.data.toList) = fr by rw [HFR.out]; simp)
  clear he hb7 HBY HB6
  go_wp2_with fail
  go_ret
  exact ⟨by rw [← HEQ.out, List.append_assoc]; rfl, HB7.out⟩
end
end Go.Proofs.YthplhdepllloaaaDoor

/- What is proved here: what the methods of package disk answer, and what becomes of the disk. Condition: it has few bytes. -/
import Derived.Test.YthplhdepllloaaaDoorMem21
import Derived.WalkSpells
import Derived.WalkLawsBesides

import Derived.IntWalk
import Derived.Lib.Hide
import Derived.RegionTactic
import Derived.BigRegion
import Derived.Deep.QuietTactic
import Derived.BigQuiet
import Derived.Deep.OwnRows
namespace Go.Proofs.YthplhdepllloaaaDoor
set_option maxRecDepth 100000
open Go.RowKit Go.Extern.Stop Go.Stop Go.Extern

theorem Tryd.byteInfo : (Tryd.prog.info? 5).map (fun i => (i.zero, i.size, i.bytes)) = some (some (.int .u8 0), 1, 1) := by kernel_rfl

/-- Block g is a disk with these bytes, of which so many are sure, and so much room; o: the block of its bytes. -/
structure IsDisk (w : World) (B g : Nat) (o : Option Nat) (l : List UInt8) (sure : Nat) (room : Nat) : Prop where
  is : ∃ v, Blk w g 79 #[v, .int .i64 sure, .int .i64 room] ∧ Holds w 5 B v l ∧ v.ownBlock = o
  sure_le : sure ≤ l.length
  room_le : l.length ≤ room
  big : (room : Int) ≤ 9223372036854775807
theorem IsDisk.fr {X : List Nat} {w w' : World} {B g : Nat} {o : Option Nat} {l : List UInt8} {sure room : Nat} (h : IsDisk w B g o l sure room) (hf : Fr X w w') (hg : g ∉ X) (ho : ∀ k, o = some k → k ∉ X) : IsDisk w' B g o l sure room := by
  obtain ⟨⟨v, h1, h2, rfl⟩, h3, h4, h5⟩ := h
  exact ⟨⟨v, h1.fr hf hg, h2.fr hf ho, rfl⟩, h3, h4, h5⟩
theorem IsDisk.then {w w' : World} {B g : Nat} {o : Option Nat} {l : List UInt8} {sure room : Nat} (h : IsDisk w B g o l sure room) (hf : Fr [] w w') : IsDisk w' B g o l sure room :=
  h.fr hf (by simp) (fun _ _ => by simp)
theorem IsDisk.lt {w : World} {B g : Nat} {o : Option Nat} {l : List UInt8} {sure room : Nat} (h : IsDisk w B g o l sure room) : g < w.heap.size ∧ ∀ k, o = some k → B ≤ k ∧ k < w.heap.size ∧ k ≠ g := by
  obtain ⟨⟨v, h1, h2, rfl⟩, h3, h4, h5⟩ := h
  exact ⟨h1.lt, fun k hk => ⟨(h2.lt k hk).1, (h2.lt k hk).2, h2.ne h1 (by decide) k hk⟩⟩

section
variable {w : World} {B g : Nat} {o : Option Nat} {l : List UInt8} {sure room : Nat}
theorem disk_room (h : IsDisk w B g o l sure room) :
    Calls Tryd.prog 43 #[.pointer (some ⟨g, 0, none⟩)] w fun e w' => e = .returned (.int .i64 ((room : Int) - (l.length : Int))) ∧ Fr [] w w' := by
  obtain ⟨⟨v, h1, h2, rfl⟩, h3, h4, h5⟩ := h
  have c0 := h1.cell 0
  have c2 := h1.cell 2
  obtain ⟨A, cap, rfl, hl, hc, _⟩ := h2.form
  go_enter Tryd.func43, Tryd.ntmps43
  go_wp2
  go_quiet (fail)
  go_wp2
  go_ret
  exact ⟨rfl, (Fr.refl _ _).drewN _⟩
theorem disk_bytes (h : IsDisk w B g o l sure room) :
    Calls Tryd.prog 41 #[.pointer (some ⟨g, 0, none⟩)] w fun e w' => e = .returned (.string ⟨l.toArray⟩) ∧ Fr [] w w' := by
  obtain ⟨⟨v, h1, h2, rfl⟩, h3, h4, h5⟩ := h
  have c0 := h1.cell 0
  have hs := holds_string (P := Tryd.prog) Tryd.underlying44 Tryd.underlying5 Tryd.underlying9 h2
  go_enter Tryd.func41, Tryd.ntmps41
  go_wp2
  go_ret
  exact ⟨rfl, Fr.refl _ _⟩
theorem disk_sure (h : IsDisk w B g o l sure room) :
    Calls Tryd.prog 47 #[.pointer (some ⟨g, 0, none⟩)] w fun e w' => e = .returned (.int .i64 sure) ∧ Fr [] w w' := by
  obtain ⟨⟨v, h1, h2, rfl⟩, h3, h4, h5⟩ := h
  have c0 := h1.cell 1
  go_enter Tryd.func47, Tryd.ntmps47
  go_wp2
  go_ret
  exact ⟨rfl, Fr.refl _ _⟩
/-- What a step leaves: its own block, or a new one. -/
def Own (w w' : World) (o o' : Option Nat) : Prop := o' = o ∨ ∃ k, o' = some k ∧ w.heap.size ≤ k ∧ k < w'.heap.size
/-- What a method that changes the disk leaves. -/
def DiskThen (w : World) (B g : Nat) (o : Option Nat) (l : List UInt8) (sure room : Nat) (v : Value) (e : Ending) (w' : World) : Prop :=
  e = .returned v ∧ Fr (g :: o.toList) w w' ∧ ∃ o', IsDisk w' B g o' l sure room ∧ Own w w' o o'
theorem disk_append_no (h : IsDisk w B g o l sure room) (s : ByteArray) (hs : room < l.length + s.size) (_hz : s.size ≤ 9223372036854775807) :
    Calls Tryd.prog 45 #[.pointer (some ⟨g, 0, none⟩), .string s] w (DiskThen w B g o l sure room (.bool false)) := by
  have h4 := h.room_le
  have hR := disk_room h
  have HH := Lib.hid h
  have HR := Lib.hid hR
  clear hR h
  go_enter Tryd.func45, Tryd.ntmps45
  go_wp2_with fail
  refine (HR.out).mono ?_
  rintro e w1 ⟨rfl, hf⟩
  have HF := Lib.hid hf
  clear hf
  go_wp2
  go_ret
  exact ⟨rfl, HF.out.mono (by simp), o, HH.out.then HF.out, .inl rfl⟩
theorem disk_append (h : IsDisk w B g o l sure room) (hB : B ≤ w.heap.size) (s : ByteArray) (hs : l.length + s.size ≤ room) (hz : l.length + s.size ≤ 1000000) :
    Calls Tryd.prog 45 #[.pointer (some ⟨g, 0, none⟩), .string s] w (DiskThen w B g o (l ++ s.data.toList) sure room (.bool true)) := by
  obtain ⟨i0, hi0, hz0, hz1, hz2⟩ := info_parts Tryd.byteInfo
  have hR := disk_room h
  have HH := Lib.hid h
  have HR := Lib.hid hR
  clear hR h
  go_enter Tryd.func45, Tryd.ntmps45
  go_wp2_with fail
  refine (HR.out).mono ?_
  rintro e w1 ⟨rfl, hf⟩
  obtain ⟨⟨v, h1, h2, rfl⟩, h3, h4, h5⟩ := HH.out.then hf
  have HF := Lib.hid hf
  have hB1 : B ≤ w1.heap.size := by have := hf.size; omega
  have c0 := h1.cell 0
  have H2 := Lib.hid h2
  have H1 := Lib.hid h1
  have HB1 := Lib.hid hB1
  clear hf h1 h2 hB hB1
  go_wp2_with (at_builtin; refine wpList_append_holds rfl _ _ 44 9 rfl i0 Tryd.underlying44 Tryd.underlying9 hi0 hz0 hz1 hz2 rfl H2.out s rfl hz HB1.out ?_)
  intro v' w2 hh hg ho
  have hml : (l ++ s.data.toList).length = l.length + s.size := by rw [List.length_append, size_mem]
  have HML := Lib.hid hml
  clear hml
  generalize l ++ s.data.toList = m at *
  obtain ⟨A', cap', rfl, _⟩ := hh.form
  have hne := H2.out.ne H1.out (by decide)
  have hb2 : Blk w2 g 79 #[v, .int .i64 sure, .int .i64 room] := H1.out.grown hg (fun e => hne g e.symm rfl)
  have hne' := hh.ne hb2 (by decide)
  have c2 := hb2.cell 0
  have f2 := hb2.frozen 0
  have HB2 := Lib.hid hb2
  have HHh := Lib.hid hh
  have HG := Lib.hid hg
  have HO := Lib.hid ho
  have HN := Lib.hid hne'
  clear hb2 hh hg ho hne hne'
  go_wp2
  go_ret
  have hfr : Fr (g :: v.ownBlock.toList) w (w2.setCell ⟨g, 0, none⟩ (.slice A' m.length cap')) := by
    refine (Fr.setCell (Fr.grown (HF.out.mono (by simp)) HG.out (fun k hk => .inl (by simp [hk]))) (.inl (by simp)) _)
  refine ⟨rfl, hfr, _, ⟨⟨_, HB2.out.store 0 _, ?_, rfl⟩, ?_, ?_, h5⟩, ?_⟩
  · exact HHh.out.fr (Fr.setCell (X := [g]) (Fr.refl _ _) (.inl (by simp)) _) (fun k hk => by simpa using HN.out k hk)
  · rw [HML.out]; omega
  · rw [HML.out]; omega
  · rcases HO.out with h | ⟨k, h, h'⟩
    · exact .inl h
    · exact .inr ⟨k, h, Nat.le_trans HF.out.size h'.1, by simpa [World.setCell] using h'.2⟩
theorem disk_sync (h : IsDisk w B g o l sure room) :
    Calls Tryd.prog 44 #[.pointer (some ⟨g, 0, none⟩)] w (DiskThen w B g o l l.length room (.tuple #[])) := by
  obtain ⟨⟨v, h1, h2, rfl⟩, h3, h4, h5⟩ := h
  have c0 := h1.cell 0
  have c1 := h1.cell 1
  have f1 := h1.frozen 1
  have H1 := Lib.hid h1
  have H2 := Lib.hid h2
  have hne := h2.ne h1 (by decide)
  have HN := Lib.hid hne
  obtain ⟨A, cap, rfl, _⟩ := h2.form
  clear h1 h2 hne
  go_enter Tryd.func44, Tryd.ntmps44
  go_wp2
  go_end0
  exact ⟨rfl, Fr.setCell (Fr.refl _ _) (.inl (by simp)) _, _, ⟨⟨_, H1.out.store 1 _, H2.out.fr (Fr.setCell (X := [g]) (Fr.refl _ _) (.inl (by simp)) _) (fun k hk => by simpa using HN.out k hk), rfl⟩, Nat.le_refl _, h4, h5⟩, .inl rfl⟩
theorem crash_end {A : Option Addr} {cap : Nat} (h1 : Blk w g 79 #[.slice A l.length cap, .int .i64 sure, .int .i64 room]) (h2 : Holds w 5 B (.slice A l.length cap) l) (h4 : l.length ≤ room) (h5 : (room : Int) ≤ 9223372036854775807)
    (n nq : Nat) (hn : n ≤ l.length) :
    DiskThen w B g (Value.slice A l.length cap).ownBlock (l.take n) n room (.tuple #[]) (.returned (.tuple #[])) (((w.drewN nq).setCell ⟨g, 0, none⟩ (.slice A n n)).setCell ⟨g, 1, none⟩ (.int .i64 n)) := by
  have hl : (l.take n).length = n := by rw [List.length_take]; omega
  have hne := h2.ne h1 (by decide)
  have hcut := h2.cut n hn
  refine ⟨rfl, Fr.setCell (Fr.setCell ((Fr.refl _ _).drewN _) (.inl (by simp)) _) (.inl (by simp)) _, (Value.slice A n n).ownBlock, ⟨⟨_, ((h1.drewN nq).store 0 _).store 1 _, ?_, rfl⟩, by omega, by omega, h5⟩, .inl ?_⟩
  · refine hcut.fr (X := [g]) (Fr.setCell (Fr.setCell ((Fr.refl _ _).drewN _) (.inl (by simp)) _) (.inl (by simp)) _) (fun k hk => ?_)
    have : (Value.slice A l.length cap).ownBlock = some k := by
      cases A with
      | none => cases hk
      | some a => exact hk
    simpa using hne k this
  · cases A <;> rfl
set_option maxHeartbeats 1000000 in
theorem disk_crash (h : IsDisk w B g o l sure room) (k : Int) (_hk : -9223372036854775808 ≤ k ∧ k ≤ 9223372036854775807) (hl : l.length ≤ 1000000) :
    Calls Tryd.prog 19 #[.pointer (some ⟨g, 0, none⟩), .int .i64 k] w (DiskThen w B g o (l.take (sure + min k.toNat (l.length - sure))) (sure + min k.toNat (l.length - sure)) room (.tuple #[])) := by
  obtain ⟨⟨v, h1, h2, rfl⟩, h3, h4, h5⟩ := h
  have c0 := h1.cell 0
  have c1 := h1.cell 1
  have f0 := h1.frozen 0
  have f1 := h1.frozen 1
  have H1 := Lib.hid h1
  have H2 := Lib.hid h2
  obtain ⟨A, cap, rfl, hlc, hcm, _⟩ := h2.form
  clear h1 h2
  by_cases hk0 : k < 0
  · have e : sure + min k.toNat (l.length - sure) = sure := by omega
    rw [e]
    clear e
    have hd : decide (k < 0) = true := by simp; omega
    go_enter Tryd.func19, Tryd.ntmps19
    go_wp2
    go_quiet (fail)
    go_wp2
    all_goals
      go_end0
      exact crash_end H1.out H2.out h4 h5 sure nq h3
  · obtain ⟨j, rfl⟩ := Int.eq_ofNat_of_zero_le (show 0 ≤ k by omega)
    rw [Int.toNat_natCast]
    by_cases hj : j ≤ l.length - sure
    · have e : sure + min j (l.length - sure) = sure + j := by omega
      rw [e]
      clear e
      go_enter Tryd.func19, Tryd.ntmps19
      go_wp2
      go_quiet (fail)
      go_wp2
      all_goals
        go_end0
        exact crash_end H1.out H2.out h4 h5 (sure + j) nq (by omega)
    · have e : sure + min j (l.length - sure) = l.length := by omega
      rw [e]
      clear e
      go_enter Tryd.func19, Tryd.ntmps19
      go_wp2
      go_quiet (fail)
      go_wp2
      all_goals
        go_end0
        rw [show (sure : Int) + ((l.length : Int) - (sure : Int)) = (l.length : Int) by omega]
        have hh := crash_end H1.out H2.out h4 h5 l.length nq (Nat.le_refl _)
        rw [List.take_length] at hh
        exact hh
theorem disk_swap_no (h : IsDisk w B g o l sure room) (s : ByteArray) (hs : room < s.size) (_hz : s.size ≤ 9223372036854775807) :
    Calls Tryd.prog 42 #[.pointer (some ⟨g, 0, none⟩), .string s] w (DiskThen w B g o l sure room (.bool false)) := by
  have HH := Lib.hid h
  obtain ⟨⟨v, h1, h2, rfl⟩, h3, h4, h5⟩ := h
  have c2 := h1.cell 2
  clear h1 h2
  go_enter Tryd.func42, Tryd.ntmps42
  go_wp2
  go_ret
  exact ⟨rfl, Fr.refl _ _, _, HH.out, .inl rfl⟩
theorem disk_swap (h : IsDisk w B g o l sure room) (hB : B ≤ w.heap.size) (s : ByteArray) (hs : s.size ≤ room) (hz : s.size ≤ 1000000) :
    Calls Tryd.prog 42 #[.pointer (some ⟨g, 0, none⟩), .string s] w (DiskThen w B g o s.data.toList s.size room (.bool true)) := by
  obtain ⟨i0, hi0, hz0, hz1, hz2⟩ := info_parts Tryd.byteInfo
  obtain ⟨⟨v, h1, h2, rfl⟩, h3, h4, h5⟩ := h
  have c0 := h1.cell 0
  have c1 := h1.cell 1
  have c2 := h1.cell 2
  have f0 := h1.frozen 0
  have f1 := h1.frozen 1
  have hmk := fun W => run_make_row' (P := Tryd.prog) 44 5 (.int .u8 0) 1 Tryd.underlying44 Tryd.byteInfo rfl .i64 .i64 s.size (by omega) (by omega) W
  have hsz : (madeCells #[Value.int .u8 0] s.size).size = s.size := size_madeCells _ _
  generalize madeCells #[Value.int .u8 0] s.size = cur at *
  have hgl := h1.lt
  obtain ⟨SV, hsv⟩ : ∃ SV, SV = Value.slice (some ⟨w.heap.size, 0, none⟩) s.size s.size := ⟨_, rfl⟩
  have hsz1 : (w.setCell ⟨g, 0, none⟩ SV).heap.size = w.heap.size := by simp [World.setCell]
  have hb2 := Blk.made (w.setCell ⟨g, 0, none⟩ SV) 5 cur
  rw [hsz1] at hb2
  have hb3 : Blk ((w.setCell ⟨g, 0, none⟩ SV).alloc (.cells cur 5)) g 79 #[SV, .int .i64 sure, .int .i64 room] := (h1.store 0 SV).alloc _
  have hcp := Lib.run_copy_row_string (P := Tryd.prog) _ 44 9 3 5 w.heap.size 0 s.size s.size s cur 5 Tryd.underlying44 rfl hb2 (Nat.le_refl _) (by omega)
  have hh := holds_copied (B := B) w s hb2 hB hsz (by unfold maxLen; omega)
  have hb4 := hb3
  unfold Blk at hb4
  have hb5 : Blk (((w.setCell ⟨g, 0, none⟩ SV).alloc (.cells cur 5)).setRow w.heap.size (cur.toList.take 0 ++ Lib.strCells s ++ cur.toList.drop (0 + s.size)).toArray) g 79 #[SV, .int .i64 sure, .int .i64 room] :=
    (setRow_other _ _ g _ (by omega)).trans hb4
  have hfr : Fr (g :: v.ownBlock.toList) w (((w.setCell ⟨g, 0, none⟩ SV).alloc (.cells cur 5)).setRow w.heap.size (cur.toList.take 0 ++ Lib.strCells s ++ cur.toList.drop (0 + s.size)).toArray) := by
    have h0 : Fr (g :: v.ownBlock.toList) w ((w.setCell ⟨g, 0, none⟩ SV).alloc (.cells cur 5)) := (Fr.setCell (Fr.refl _ _) (.inl (by simp)) _).alloc _
    exact ⟨h0.os, h0.tape, h0.output, by simp, fun b hb hn => (setRow_other _ _ b _ (by omega)).trans (h0.block b hb hn)⟩
  have ebc : Lib.byteCells s.data.toList = Lib.strCells s := rfl
  rw [ebc] at hcp
  clear ebc hb2 hb3 hb4 h1 h2 hsz1 hsz c1
  generalize (cur.toList.take 0 ++ Lib.strCells s ++ cur.toList.drop (0 + s.size)).toArray = row at *
  generalize hW : ((w.setCell ⟨g, 0, none⟩ SV).alloc (.cells cur 5)).setRow w.heap.size row = w2 at *
  have c1 := hb5.cell 1
  have g1 := hb5.frozen 1
  have HB := Lib.hid hb5
  have HH := Lib.hid hh
  have HF := Lib.hid hfr
  subst hsv
  clear hb5 hh hfr hW
  go_enter Tryd.func42, Tryd.ntmps42
  go_wp2
  go_ret
  refine ⟨rfl, HF.out.setCell (.inl (by simp)) _, some w.heap.size, ⟨⟨_, HB.out.store 1 _, HH.out.fr (X := [g]) (Fr.setCell (Fr.refl _ _) (.inl (by simp)) _) (fun k hk => ?_), rfl⟩, ?_, ?_, h5⟩, .inr ⟨w.heap.size, rfl, Nat.le_refl _, ?_⟩⟩
  · have := HH.out.ne HB.out (by decide) k hk
    simpa using this
  · rw [size_mem]; exact Nat.le_refl _
  · rw [size_mem]; exact hs
  · have := (HH.out.lt w.heap.size rfl).2
    simpa [World.setCell] using this
theorem nil_append (s : ByteArray) (_hz : s.size ≤ 9223372036854775807) : Calls Tryd.prog 45 #[.pointer none, .string s] w fun e w' => e = .returned (.bool false) ∧ Fr [] w w' := by
  go_enter Tryd.func45, Tryd.ntmps45
  go_wp2
  go_ret
  exact ⟨rfl, Fr.refl _ _⟩
theorem nil_swap (s : ByteArray) (_hz : s.size ≤ 9223372036854775807) : Calls Tryd.prog 42 #[.pointer none, .string s] w fun e w' => e = .returned (.bool false) ∧ Fr [] w w' := by
  go_enter Tryd.func42, Tryd.ntmps42
  go_wp2
  go_ret
  exact ⟨rfl, Fr.refl _ _⟩
theorem nil_sync : Calls Tryd.prog 44 #[.pointer none] w fun e w' => e = .returned (.tuple #[]) ∧ Fr [] w w' := by
  go_enter Tryd.func44, Tryd.ntmps44
  go_wp2
  go_end0
  exact ⟨rfl, Fr.refl _ _⟩
theorem nil_crash (k : Int) : Calls Tryd.prog 19 #[.pointer none, .int .i64 k] w fun e w' => e = .returned (.tuple #[]) ∧ Fr [] w w' := by
  go_enter Tryd.func19, Tryd.ntmps19
  go_wp2
  exact bodyPost_ret (results_none rfl _ _ _) rfl ⟨rfl, Fr.refl _ _⟩
theorem nil_bytes : Calls Tryd.prog 41 #[.pointer none] w fun e w' => e = .returned (.string ⟨#[]⟩) ∧ Fr [] w w' := by
  go_enter Tryd.func41, Tryd.ntmps41
  go_wp2
  go_ret
  exact ⟨rfl, Fr.refl _ _⟩
theorem nil_sure : Calls Tryd.prog 47 #[.pointer none] w fun e w' => e = .returned (.int .i64 0) ∧ Fr [] w w' := by
  go_enter Tryd.func47, Tryd.ntmps47
  go_wp2
  go_ret
  exact ⟨rfl, Fr.refl _ _⟩
theorem nil_room : Calls Tryd.prog 43 #[.pointer none] w fun e w' => e = .returned (.int .i64 0) ∧ Fr [] w w' := by
  go_enter Tryd.func43, Tryd.ntmps43
  go_wp2
  go_ret
  exact ⟨rfl, Fr.refl _ _⟩
/-- A zero disk. -/
theorem zero_disk : IsDisk (w.alloc (.cells #[.slice none 0 0, .int .i64 0, .int .i64 0] 79)) B w.heap.size none [] 0 0 :=
  ⟨⟨_, Blk.made w 79 _, .inl ⟨rfl, rfl⟩, rfl⟩, Nat.le_refl _, Nat.le_refl _, by omega⟩
theorem disk_new (n : Int) (hn : -9223372036854775808 ≤ n ∧ n ≤ 9223372036854775807) :
    Calls Tryd.prog 15 #[.int .i64 n] w fun e w' => e = .returned (.pointer (some ⟨w.heap.size, 0, none⟩)) ∧ w' = w.alloc (.cells #[.slice none 0 0, .int .i64 0, .int .i64 (n.toNat : Nat)] 79) := by
  by_cases h : n < 0
  · have e : n.toNat = 0 := by omega
    rw [e]
    clear e
    go_enter Tryd.func15, Tryd.ntmps15
    go_wp2
    go_ret
    exact ⟨rfl, rfl⟩
  · obtain ⟨m, rfl⟩ := Int.eq_ofNat_of_zero_le (show 0 ≤ n by omega)
    rw [Int.toNat_natCast]
    go_enter Tryd.func15, Tryd.ntmps15
    go_wp2
    go_ret
    exact ⟨rfl, rfl⟩
end
end Go.Proofs.YthplhdepllloaaaDoor

/- What is proved here: what the methods of package wal's Log answer, and what becomes of the log and its disk. Conditions: few bytes; what the rows list of the package's variables. What is proved here: whether a log waits; append to a log; a log is opened. Conditions: few bytes; what the rows list of the package's variables. What is proved here: a log is opened over a disk all of whose bytes are sure. Conditions: few bytes; what the rows list of the package's variables. -/
import Derived.Test.YthplhdepllloaaaDoorScn22
import Derived.Test.YthplhdepllloaaaDoorDisk21
import Derived.Deep.RegionHeld3
namespace Go.Proofs.YthplhdepllloaaaDoor
set_option maxRecDepth 100000
open Go.RowKit Go.Extern.Stop Go.Stop Go.Extern
theorem fr_below {w w' : World} (h : Fr [] w w') : Below w.heap.size w w' := ⟨h.os, h.tape, h.output, h.size, fun b hb => h.block b hb (by simp)⟩
/-- A disk of the call's own. -/
structure DkZ (z W : World) (g : Nat) (l : List UInt8) (sure room : Nat) : Prop where
  disk : ∃ o, IsDisk W z.heap.size g o l sure room
  bel : Below z.heap.size z W
  low : z.heap.size ≤ g
/-- A log over it. -/
structure LgZ (z W : World) (lg g : Nat) (l : List UInt8) (sure room : Nat) : Prop where
  dk : DkZ z W g l sure room
  log : Blk W lg 82 #[.pointer (some ⟨g, 0, none⟩), .int .i64 room]
  lowl : z.heap.size ≤ lg
section
variable {z W W' : World} {S : Nat → Addr} {g lg : Nat} {l l' : List UInt8} {sure sure' room room' : Nat} {v : Value} {x : Ending} {o : Option Nat}
theorem DkZ.below (h : DkZ z W g l sure room) (hb : Below W.heap.size W W') : DkZ z W' g l sure room := by
  obtain ⟨⟨o, hd⟩, h2, h3⟩ := h
  exact ⟨⟨o, hd.then (Fr.of_below hb)⟩, h2.trans (hb.mono h2.size), h3⟩
theorem LgZ.below (h : LgZ z W lg g l sure room) (hb : Below W.heap.size W W') : LgZ z W' lg g l sure room := ⟨h.dk.below hb, h.log.below hb h.log.lt, h.lowl⟩
theorem LgZ.drewN (h : LgZ z W lg g l sure room) (d : Nat) : LgZ z (W.drewN d) lg g l sure room := h.below (below_drewN (Below.refl _ _) d)
/-- Behind a method that changes the disk. -/
theorem DkZ.then (h : IsDisk W z.heap.size g o l sure room) (hb : Below z.heap.size z W) (hg : z.heap.size ≤ g) (ht : DiskThen W z.heap.size g o l' sure' room' v x W') : x = .returned v ∧ DkZ z W' g l' sure' room' ∧ ∀ k t cs, Blk W k t cs → t ≠ 79 → t ≠ 5 → Blk W' k t cs := by
  obtain ⟨rfl, hf, o', hd, _⟩ := ht
  have hlt := h.lt
  refine ⟨rfl, ⟨⟨o', hd⟩, hf.later hb (fun b hx => ?_) hb.size, hg⟩, fun k t cs hk h1 h2 => hk.fr hf fun hm => ?_⟩
  · rcases List.mem_cons.1 hx with rfl | hx
    · exact hg
    · exact (hlt.2 b (by simpa [eq_comm] using hx)).1
  · obtain ⟨⟨u, hb1, hb2, rfl⟩, _⟩ := h
    rcases List.mem_cons.1 hm with rfl | hm
    · exact hk.other hb1 h1 rfl
    · exact hb2.ne hk h2 k (by simpa [eq_comm] using hm) rfl
theorem LgZ.then (h : LgZ z W lg g l sure room) (ho : IsDisk W z.heap.size g o l sure room) (ht : DiskThen W z.heap.size g o l' sure' room v x W') : x = .returned v ∧ LgZ z W' lg g l' sure' room := by
  obtain ⟨h1, h2, h3⟩ := DkZ.then ho h.dk.bel h.dk.low ht
  exact ⟨h1, h2, h3 _ _ _ h.log (by decide) (by decide), h.lowl⟩
theorem ext_arr (l : List UInt8) (n : Nat) : ((⟨l.toArray⟩ : ByteArray).extract 0 n).data.toList = l.take n := by
  rw [ext_list]
  show (l.drop 0).take (n - 0) = _
  rw [List.drop_zero, Nat.sub_zero]
theorem disk_nof {B : Nat} (h : IsDisk W B g o l sure room) : NoF W (g :: o.toList) := NoF.of fun k hk => by
  obtain ⟨⟨u, hb1, hb2, rfl⟩, _⟩ := h
  rcases List.mem_cons.1 hk with rfl | hk
  · exact ⟨_, _, hb1, by decide⟩
  · rcases hb2 with ⟨rfl, _⟩ | ⟨g', cur, cap, rfl, _, hh, _⟩
    · cases hk
    · have : k = g' := by simpa [Value.ownBlock] using hk
      subst this
      exact ⟨_, _, hh, by decide⟩
set_option maxHeartbeats 4000000 in
theorem lsync_any (h : LgZ z W lg g l sure room) : Calls Tryd.prog 17 #[.pointer (some ⟨lg, 0, none⟩)] W fun x W' => x = .returned (.tuple #[]) ∧ LgZ z W' lg g l l.length room ∧ ∀ S r no a e, ErrOf W S r no a e → ErrOf W' S r no a e := by
  have c0 := h.log.cell 0
  obtain ⟨o, ho⟩ := h.dk.disk
  have HD := Lib.hid (disk_sync ho)
  have HO := Lib.hid ho
  have HH := Lib.hid h
  clear h ho
  go_enter Tryd.func17, Tryd.ntmps17
  go_wp2_with fail
  refine HD.out.mono ?_
  intro x W1 ht
  have hf := ht.2.1
  obtain ⟨rfl, h1⟩ := HH.out.then HO.out ht
  have HX := Lib.hid (show LgZ z W1 lg g l l.length room ∧ ∀ S r no a e, ErrOf W S r no a e → ErrOf W1 S r no a e from ⟨h1, fun S r no a e he => err_fr he hf (disk_nof HO.out)⟩)
  clear h1 ht hf HD
  go_wp2_with fail
  exact bodyPost_end (v := .tuple #[]) (by simp [results, Tryd.results17, go_sem]) rfl ⟨rfl, HX.out⟩
set_option maxHeartbeats 4000000 in
theorem lrecords_any (hE : Env z S) (h : LgZ z W lg g l sure room) (hl : l.length ≤ 7900) {L : List ByteArray} {n : Nat} (hL : ScR ⟨l.toArray⟩ L 0 n) :
    Calls Tryd.prog 20 #[.pointer (some ⟨lg, 0, none⟩)] W fun x W' => ∃ a c, x = .returned (.slice a L.length c) ∧ Row W' W.heap.size (.slice a L.length c) L ∧ Below W.heap.size W W' := by
  have c0 := h.log.cell 0
  obtain ⟨o, ho⟩ := h.dk.disk
  have HD := Lib.hid (disk_bytes ho)
  have HSC := Lib.hid (fun (W1 : World) (hb : Below W.heap.size W W1) => scan_any (hE.later (h.dk.bel.trans (hb.mono h.dk.bel.size))) (show (⟨l.toArray⟩ : ByteArray).size ≤ 7900 by rw [bsize]; exact hl) hL)
  clear h ho hE hl hL
  go_enter Tryd.func20, Tryd.ntmps20
  go_wp2_with fail
  refine HD.out.mono ?_
  rintro x W1 ⟨rfl, hf⟩
  have HB1 := Lib.hid (fr_below hf)
  have HSC1 := Lib.hid (HSC.out W1 (fr_below hf))
  clear hf HD HSC
  go_wp2_with fail
  refine HSC1.out.mono ?_
  rintro x W2 ⟨a, c, rfl, hr, hb⟩
  obtain ⟨m, hm⟩ : ∃ m, m = L.length := ⟨_, rfl⟩
  have HX := Lib.hid (show (Row W2 W.heap.size (.slice a m c) L ∧ Below W.heap.size W W2) ∧ m = L.length from ⟨⟨by rw [hm]; exact hr.base HB1.out.size, HB1.out.trans (hb.mono HB1.out.size)⟩, hm⟩)
  rw [← hm]
  clear hr hb hm HSC1
  go_wp2_with fail
  go_ret
  obtain ⟨⟨h1, h2⟩, rfl⟩ := HX.out
  exact ⟨a, c, rfl, h1, h2⟩
theorem lbytes_in (h : LgZ z W lg g l sure room) : Calls Tryd.prog 41 #[.pointer (some ⟨g, 0, none⟩)] W fun x W' => x = .returned (.string ⟨l.toArray⟩) ∧ LgZ z W' lg g l sure room := by
  obtain ⟨o, ho⟩ := h.dk.disk
  refine (disk_bytes ho).mono ?_
  rintro x W1 ⟨rfl, hf⟩
  exact ⟨rfl, h.below (fr_below hf)⟩
theorem lsure_in (h : LgZ z W lg g l sure room) : Calls Tryd.prog 47 #[.pointer (some ⟨g, 0, none⟩)] W fun x W' => x = .returned (.int .i64 sure) ∧ LgZ z W' lg g l sure room := by
  obtain ⟨o, ho⟩ := h.dk.disk
  refine (disk_sure ho).mono ?_
  rintro x W1 ⟨rfl, hf⟩
  exact ⟨rfl, h.below (fr_below hf)⟩
theorem lroom_in (h : LgZ z W lg g l sure room) : Calls Tryd.prog 43 #[.pointer (some ⟨g, 0, none⟩)] W fun x W' => x = .returned (.int .i64 ((room : Int) - (l.length : Int))) ∧ LgZ z W' lg g l sure room := by
  obtain ⟨o, ho⟩ := h.dk.disk
  refine (disk_room ho).mono ?_
  rintro x W1 ⟨rfl, hf⟩
  exact ⟨rfl, h.below (fr_below hf)⟩
theorem LgZ.le (h : LgZ z W lg g l sure room) : sure ≤ l.length ∧ l.length ≤ room := by
  obtain ⟨o, ho⟩ := h.dk.disk
  exact ⟨ho.sure_le, ho.room_le⟩
set_option maxHeartbeats 8000000 in
theorem lsure_any (hE : Env z S) (h : LgZ z W lg g l sure room) (hl : l.length ≤ 7900) {L : List ByteArray} {n : Nat} (hL : ScR ⟨(l.take sure).toArray⟩ L 0 n) :
    Calls Tryd.prog 22 #[.pointer (some ⟨lg, 0, none⟩)] W fun x W' => x = .returned (.int .i64 L.length) ∧ LgZ z W' lg g l sure room := by
  have hle := h.le
  obtain ⟨t, ht⟩ : ∃ t : ByteArray, t = ⟨l.toArray⟩ := ⟨_, rfl⟩
  have htz : t.size = l.length := by rw [ht, bsize]
  have hti : (sure : Int) ≤ (t.size : Int) := by omega
  have htn : sure ≤ t.size := by omega
  have e : t.extract 0 sure = ⟨(l.take sure).toArray⟩ := ba_eq (by rw [ht, ext_arr])
  have KS := Lib.hid (fun (W1 : World) (h : LgZ z W1 lg g l sure room) => show W1.cell? ⟨lg, 0, none⟩ = some (.pointer (some ⟨g, 0, none⟩)) from h.log.cell 0)
  have HB := Lib.hid (fun (W1 : World) (h : LgZ z W1 lg g l sure room) => lbytes_in h)
  have HS := Lib.hid (fun (W1 : World) (h : LgZ z W1 lg g l sure room) => lsure_in h)
  rw [← ht] at HB
  obtain ⟨m, hm⟩ : ∃ m, m = L.length := ⟨_, rfl⟩
  have HSC := Lib.hid (fun (W1 : World) (h : LgZ z W1 lg g l sure room) => (scan_any (hE.later h.dk.bel) (show (t.extract 0 sure).size ≤ 7900 by rw [e, bsize, List.length_take]; omega) (by rw [e]; exact hL)).mono fun x W' hx => show ∃ a c, x = Ending.returned (.tuple #[.slice a m c, .int .i64 n]) ∧ LgZ z W' lg g l sure room from by
    obtain ⟨a, c, rfl, _, hb⟩ := hx
    rw [hm]
    exact ⟨a, c, rfl, h.below hb⟩)
  have hi0 := h
  rw [← hm]
  clear h hE hl hL e ht htz hle hm
  have t0 := KS.out _ hi0
  go_enter Tryd.func22, Tryd.ntmps22
  go_wp2_with fail
  go_region_held3 (fun W => W.cell? ⟨lg, 0, none⟩ = some (.pointer (some ⟨g, 0, none⟩)))
    (first | assumption | (exact KS.out _ (by assumption)) | (exact KS.out _ (LgZ.drewN (by assumption) 1)))
    (first
      | ((go_at_call 41; (with_reducible refine (HB.out _ ?_).mono ?_); (first | assumption | exact LgZ.drewN (by assumption) 1); rintro x w6 ⟨rfl, hi6⟩))
      | ((go_at_call 47; (with_reducible refine (HS.out _ ?_).mono ?_); (first | assumption | exact LgZ.drewN (by assumption) 1); rintro x w7 ⟨rfl, hi7⟩))
      | ((go_at_call 9; (with_reducible refine (HSC.out _ ?_).mono ?_); (first | assumption | exact LgZ.drewN (by assumption) 1); rintro x w8 ⟨a8, c8, rfl, hi8⟩)))
  have HX := Lib.hid hi8
  clear t0
  go_wp2_with fail
  go_ret
  exact ⟨rfl, HX.out⟩
end
end Go.Proofs.YthplhdepllloaaaDoor
namespace Go.Proofs.YthplhdepllloaaaDoor
set_option maxRecDepth 100000
open Go.RowKit Go.Extern.Stop Go.Stop Go.Extern
section
variable {z W W' : World} {S : Nat → Addr} {g lg : Nat} {l l' : List UInt8} {sure sure' room room' : Nat} {v : Value} {x : Ending} {o : Option Nat}
theorem LgZ.big (h : LgZ z W lg g l sure room) : (room : Int) ≤ 9223372036854775807 := by
  obtain ⟨o, ho⟩ := h.dk.disk
  exact ho.big
/-- A log, behind a world of which nothing has changed. -/
structure LgR (z W0 W : World) (lg g : Nat) (l : List UInt8) (sure room : Nat) : Prop where
  is : LgZ z W lg g l sure room
  bel0 : Below W0.heap.size W0 W
theorem LgR.below {W0 : World} (h : LgR z W0 W lg g l sure room) (hb : Below W.heap.size W W') : LgR z W0 W' lg g l sure room := ⟨h.is.below hb, h.bel0.trans (hb.mono h.bel0.size)⟩
theorem LgR.drewN {W0 : World} (h : LgR z W0 W lg g l sure room) (d : Nat) : LgR z W0 (W.drewN d) lg g l sure room := h.below (below_drewN (Below.refl _ _) d)
theorem lsure_inR {W0 : World} (h : LgR z W0 W lg g l sure room) : Calls Tryd.prog 47 #[.pointer (some ⟨g, 0, none⟩)] W fun x W' => x = .returned (.int .i64 sure) ∧ LgR z W0 W' lg g l sure room := by
  obtain ⟨o, ho⟩ := h.is.dk.disk
  refine (disk_sure ho).mono ?_
  rintro x W1 ⟨rfl, hf⟩
  exact ⟨rfl, h.below (fr_below hf)⟩
theorem lroom_inR {W0 : World} (h : LgR z W0 W lg g l sure room) : Calls Tryd.prog 43 #[.pointer (some ⟨g, 0, none⟩)] W fun x W' => x = .returned (.int .i64 ((room : Int) - (l.length : Int))) ∧ LgR z W0 W' lg g l sure room := by
  obtain ⟨o, ho⟩ := h.is.dk.disk
  refine (disk_room ho).mono ?_
  rintro x W1 ⟨rfl, hf⟩
  exact ⟨rfl, h.below (fr_below hf)⟩
set_option maxHeartbeats 8000000 in
theorem lwaits_any (h : LgZ z W lg g l sure room) (b : Bool) (hb : b = decide (sure < l.length)) :
    Calls Tryd.prog 23 #[.pointer (some ⟨lg, 0, none⟩)] W fun x W' => x = .returned (.bool b) ∧ LgR z W W' lg g l sure room := by
  have hle := h.le
  have hbig := h.big
  obtain ⟨n, hn⟩ : ∃ n, n = l.length := ⟨_, rfl⟩
  have KS := Lib.hid (fun (W1 : World) (h : LgR z W W1 lg g l sure room) => show W1.cell? ⟨lg, 0, none⟩ = some (.pointer (some ⟨g, 0, none⟩)) ∧ W1.cell? ⟨lg, 1, none⟩ = some (.int .i64 room) from ⟨h.is.log.cell 0, h.is.log.cell 1⟩)
  have HS := Lib.hid (fun (W1 : World) (h : LgR z W W1 lg g l sure room) => lsure_inR h)
  obtain ⟨m, hm⟩ : ∃ m : Int, m = (room : Int) - (l.length : Int) := ⟨_, rfl⟩
  have HR := Lib.hid (fun (W1 : World) (h : LgR z W W1 lg g l sure room) => lroom_inR h)
  rw [← hm] at HR
  rw [← hn] at hm hb
  have q1 : IntKind.i64.wrap ((room : Int) - m) = (n : Int) := by rw [hm, show (room : Int) - ((room : Int) - (n : Int)) = (n : Int) by omega]; exact IntWalk.i64_in _ (by omega)
  have hi0 : LgR z W W lg g l sure room := ⟨h, Below.refl _ _⟩
  obtain ⟨t0, t1⟩ := KS.out _ hi0
  have hbc : b = true ∧ (sure : Int) < (n : Int) ∨ b = false ∧ ¬ (sure : Int) < (n : Int) := by
    by_cases hh : sure < n
    · exact .inl ⟨by rw [hb, decide_eq_true hh], by omega⟩
    · exact .inr ⟨by rw [hb, decide_eq_false hh], by omega⟩
  clear h hle hbig hn hm hb
  rcases hbc with ⟨rfl, hs⟩ | ⟨rfl, hs⟩
  all_goals
    go_enter Tryd.func23, Tryd.ntmps23
    go_wp2_with fail
    go_region_held3 (fun W => W.cell? ⟨lg, 0, none⟩ = some (.pointer (some ⟨g, 0, none⟩)) ∧ W.cell? ⟨lg, 1, none⟩ = some (.int .i64 room))
      (first | assumption | (exact KS.out _ (by assumption)) | (exact KS.out _ (LgR.drewN (by assumption) 1)))
      (first
        | ((go_at_call 43; (with_reducible refine (HR.out _ ?_).mono ?_); (first | assumption | exact LgR.drewN (by assumption) 1); rintro x w6 ⟨rfl, hi6⟩))
        | ((go_at_call 47; (with_reducible refine (HS.out _ ?_).mono ?_); (first | assumption | exact LgR.drewN (by assumption) 1); rintro x w7 ⟨rfl, hi7⟩)))
    have HX := Lib.hid hi6
    clear t0 t1 q1
    go_wp2_with fail
    go_ret
    refine ⟨?_, HX.out⟩
    first
      | rfl
      | (rw [decide_eq_false (by omega)]; rfl)
theorem lput_in (hE : Env z S) (h : LgZ z W lg g l sure room) (b : ByteArray) (hb : b.size ≤ 9000) : Calls Tryd.prog 11 #[.string b] W fun x W' => x = .returned (.string ⟨(frW b).toArray⟩) ∧ LgZ z W' lg g l sure room := by
  refine (wput_any (hE.later h.dk.bel) b hb).mono ?_
  rintro x W1 ⟨rfl, hb1⟩
  exact ⟨rfl, h.below hb1⟩
theorem ladd_in (h : LgZ z W lg g l sure room) (s : ByteArray) (hs : l.length + s.size ≤ room) (hz : l.length + s.size ≤ 1000000) : Calls Tryd.prog 45 #[.pointer (some ⟨g, 0, none⟩), .string s] W fun x W' => x = .returned (.bool true) ∧ LgZ z W' lg g (l ++ s.data.toList) sure room := by
  obtain ⟨o, ho⟩ := h.dk.disk
  refine (disk_append ho h.dk.bel.size s hs hz).mono ?_
  intro x W1 ht
  exact h.then ho ht
theorem lnot_in (h : LgZ z W lg g l sure room) (s : ByteArray) (hs : room < l.length + s.size) (hz : l.length + s.size ≤ 1000000) : Calls Tryd.prog 45 #[.pointer (some ⟨g, 0, none⟩), .string s] W fun x W' => x = .returned (.bool false) ∧ LgZ z W' lg g l sure room := by
  obtain ⟨o, ho⟩ := h.dk.disk
  refine (disk_append_no ho s hs (by omega)).mono ?_
  intro x W1 ht
  exact h.then ho ht
set_option maxHeartbeats 8000000 in
theorem lappend_ok (hE : Env z S) (h : LgZ z W lg g l sure room) (b : ByteArray) (hb : b.size ≤ 9000) (hr : l.length + (8 + b.size) ≤ room) (hl : l.length ≤ 900000) :
    Calls Tryd.prog 18 #[.pointer (some ⟨lg, 0, none⟩), .string b] W fun x W' => x = .returned .nilIface ∧ LgZ z W' lg g (l ++ frW b) sure room := by
  have KS := Lib.hid (fun (W1 : World) (l1 : List UInt8) (h : LgZ z W1 lg g l1 sure room) => show W1.cell? ⟨lg, 0, none⟩ = some (.pointer (some ⟨g, 0, none⟩)) from h.log.cell 0)
  have HP := Lib.hid (fun (W1 : World) (h : LgZ z W1 lg g l sure room) => lput_in hE h b hb)
  have HA := Lib.hid (fun (W1 : World) (h : LgZ z W1 lg g l sure room) => ladd_in h ⟨(frW b).toArray⟩ (by rw [bsize, frW_len]; omega) (by rw [bsize, frW_len]; omega))
  rw [arr_list22] at HA
  have hi0 := h
  have t0 := KS.out _ _ hi0
  have hbi : ¬ (65536 : Int) < (b.size : Int) := by omega
  have hbd : decide ((65536 : Int) < (b.size : Int)) = false := decide_eq_false hbi
  have hbn : decide (65536 < b.size) = false := decide_eq_false (by omega)
  generalize frW b = fr at *
  clear h hE hr hl
  go_enter Tryd.func18, Tryd.ntmps18
  go_wp2_with fail
  go_region_held3 (fun W => W.cell? ⟨lg, 0, none⟩ = some (.pointer (some ⟨g, 0, none⟩)))
    (first | assumption | (exact KS.out _ _ (by assumption)) | (exact KS.out _ _ (LgZ.drewN (by assumption) 1)))
    (first
      | ((go_at_call 11; (with_reducible refine (HP.out _ ?_).mono ?_); (first | assumption | exact LgZ.drewN (by assumption) 1); rintro x w6 ⟨rfl, hi6⟩))
      | ((go_at_call 45; (with_reducible refine (HA.out _ ?_).mono ?_); (first | assumption | exact LgZ.drewN (by assumption) 1); rintro x w7 ⟨rfl, hi7⟩)))
  have HX := Lib.hid hi7
  clear t0
  go_wp2_with fail
  go_ret
  exact ⟨rfl, HX.out⟩
theorem noroom_any (hN : EnvN W S) : Calls Tryd.prog 46 #[] W fun x W' => ∃ e, x = .returned e ∧ ErrOf W' S 151 5 0 e ∧ Below W.heap.size W W' := by
  have kQ : W.cell? ⟨2, 0, none⟩ = some (.iface 165 (.pointer (some (S 4)))) := hN.kind 4 (by omega)
  have HN := Lib.hid (new_err (w := W) S 4 151 0)
  obtain ⟨Q, hQ⟩ : ∃ Q : Ending → World → Prop, Q = fun x W' => ∃ e, x = .returned e ∧ ErrOf W' S 151 5 0 e ∧ Below W.heap.size W W' := ⟨_, rfl⟩
  rw [← hQ]
  have HQ := Lib.hid hQ
  clear hN hQ
  go_enter Tryd.func46, Tryd.ntmps46
  go_wp2_with fail
  refine HN.out.mono ?_
  rintro x w1 ⟨e, rfl, he, hb⟩
  have HX := Lib.hid (show Q (.returned e) w1 from by rw [HQ.out]; exact ⟨e, rfl, ErrOf.some (no := 5) (by decide) (by decide) he, hb⟩)
  clear he hb HN kQ
  go_wp2_with fail
  exact HX.out
def NoSays (z : World) (S : Nat → Addr) (lg g : Nat) (l : List UInt8) (sure room : Nat) (x : Ending) (W' : World) : Prop := ∃ e, x = .returned e ∧ ErrOf W' S 151 5 0 e ∧ LgZ z W' lg g l sure room
set_option maxHeartbeats 8000000 in
theorem lappend_no (hN : EnvN z S) (h : LgZ z W lg g l sure room) (b : ByteArray) (hb : b.size ≤ 9000) (hr : room < l.length + (8 + b.size)) (hl : l.length ≤ 900000) :
    Calls Tryd.prog 18 #[.pointer (some ⟨lg, 0, none⟩), .string b] W (NoSays z S lg g l sure room) := by
  have KS := Lib.hid (fun (W1 : World) (l1 : List UInt8) (h : LgZ z W1 lg g l1 sure room) => show W1.cell? ⟨lg, 0, none⟩ = some (.pointer (some ⟨g, 0, none⟩)) from h.log.cell 0)
  have HP := Lib.hid (fun (W1 : World) (h : LgZ z W1 lg g l sure room) => lput_in hN.env h b hb)
  have HA := Lib.hid (fun (W1 : World) (h : LgZ z W1 lg g l sure room) => lnot_in h ⟨(frW b).toArray⟩ (by rw [bsize, frW_len]; omega) (by rw [bsize, frW_len]; omega))
  have HR := Lib.hid (fun (W1 : World) (h : LgZ z W1 lg g l sure room) => noroom_any (hN.later h.dk.bel))
  have hi0 := h
  have t0 := KS.out _ _ hi0
  have hbi : ¬ (65536 : Int) < (b.size : Int) := by omega
  have hbd : decide ((65536 : Int) < (b.size : Int)) = false := decide_eq_false hbi
  have hbn : decide (65536 < b.size) = false := decide_eq_false (by omega)
  generalize frW b = fr at *
  clear h hN hr hl
  go_enter Tryd.func18, Tryd.ntmps18
  go_wp2_with fail
  go_region_held3 (fun W => W.cell? ⟨lg, 0, none⟩ = some (.pointer (some ⟨g, 0, none⟩)))
    (first | assumption | (exact KS.out _ _ (by assumption)) | (exact KS.out _ _ (LgZ.drewN (by assumption) 1)))
    (first
      | ((go_at_call 11; (with_reducible refine (HP.out _ ?_).mono ?_); (first | assumption | exact LgZ.drewN (by assumption) 1); rintro x w6 ⟨rfl, hi6⟩))
      | ((go_at_call 45; (with_reducible refine (HA.out _ ?_).mono ?_); (first | assumption | exact LgZ.drewN (by assumption) 1); rintro x w7 ⟨rfl, hi7⟩)))
  have HI7 := Lib.hid hi7
  have HRR := Lib.hid (HR.out _ hi7)
  clear t0 hi7 HR
  go_wp2_with fail
  refine HRR.out.mono ?_
  rintro x w8 ⟨e, rfl, he, hb8⟩
  have HX := Lib.hid (show NoSays z S lg g l sure room (.returned e) w8 from ⟨e, rfl, he, HI7.out.below hb8⟩)
  clear he hb8 HRR
  go_wp2_with fail
  go_ret
  exact HX.out
end
end Go.Proofs.YthplhdepllloaaaDoor
namespace Go.Proofs.YthplhdepllloaaaDoor
set_option maxRecDepth 100000
open Go.RowKit Go.Extern.Stop Go.Stop Go.Extern
section
variable {z W W' : World} {S : Nat → Addr} {g lg : Nat} {l l' : List UInt8} {sure sure' room room' : Nat} {v : Value} {x : Ending} {o : Option Nat}
theorem dbytes_in (h : DkZ z W g l sure room) : Calls Tryd.prog 41 #[.pointer (some ⟨g, 0, none⟩)] W fun x W' => x = .returned (.string ⟨l.toArray⟩) ∧ DkZ z W' g l sure room := by
  obtain ⟨o, ho⟩ := h.disk
  refine (disk_bytes ho).mono ?_
  rintro x W1 ⟨rfl, hf⟩
  exact ⟨rfl, h.below (fr_below hf)⟩
theorem droom_in (h : DkZ z W g l sure room) : Calls Tryd.prog 43 #[.pointer (some ⟨g, 0, none⟩)] W fun x W' => x = .returned (.int .i64 ((room : Int) - (l.length : Int))) ∧ DkZ z W' g l sure room := by
  obtain ⟨o, ho⟩ := h.disk
  refine (disk_room ho).mono ?_
  rintro x W1 ⟨rfl, hf⟩
  exact ⟨rfl, h.below (fr_below hf)⟩
theorem dswap_in (h : DkZ z W g l sure room) (s : ByteArray) (hs : s.size ≤ room) (hz : s.size ≤ 1000000) : Calls Tryd.prog 42 #[.pointer (some ⟨g, 0, none⟩), .string s] W fun x W' => x = .returned (.bool true) ∧ DkZ z W' g s.data.toList s.size room := by
  obtain ⟨o, ho⟩ := h.disk
  refine (disk_swap ho h.bel.size s hs hz).mono ?_
  intro x W1 ht
  obtain ⟨h1, h2, _⟩ := DkZ.then ho h.bel h.low ht
  exact ⟨h1, h2⟩
theorem dcrash_in (h : DkZ z W g l sure room) (k : Int) (hk : -9223372036854775808 ≤ k ∧ k ≤ 9223372036854775807) (hl : l.length ≤ 1000000) : Calls Tryd.prog 19 #[.pointer (some ⟨g, 0, none⟩), .int .i64 k] W fun x W' => x = .returned (.tuple #[]) ∧ DkZ z W' g (l.take (sure + min k.toNat (l.length - sure))) (sure + min k.toNat (l.length - sure)) room := by
  obtain ⟨o, ho⟩ := h.disk
  refine (disk_crash ho k hk hl).mono ?_
  intro x W1 ht
  obtain ⟨h1, h2, _⟩ := DkZ.then ho h.bel h.low ht
  exact ⟨h1, h2⟩
theorem DkZ.le (h : DkZ z W g l sure room) : sure ≤ l.length ∧ l.length ≤ room ∧ (room : Int) ≤ 9223372036854775807 := by
  obtain ⟨o, ho⟩ := h.disk
  exact ⟨ho.sure_le, ho.room_le, ho.big⟩
def OpSays (z : World) (g : Nat) (l : List UInt8) (sure room : Nat) (x : Ending) (W' : World) : Prop := ∃ lg, x = .returned (.pointer (some ⟨lg, 0, none⟩)) ∧ LgZ z W' lg g l sure room
theorem OpSays.made (h : DkZ z W g l sure room) : OpSays z g l sure room (.returned (.pointer (some ⟨W.heap.size, 0, none⟩))) (W.alloc (.cells #[.pointer (some ⟨g, 0, none⟩), .int .i64 room] 82)) :=
  ⟨_, rfl, h.below ((Below.refl _ _).alloc (Nat.le_refl _) _), Blk.made W _ _, h.bel.size⟩
set_option maxHeartbeats 8000000 in
theorem lopen_any (hE : Env z S) (h : DkZ z W g l l.length room) (hl : l.length ≤ 7900) {L : List ByteArray} {n : Nat} (hL : ScR ⟨l.toArray⟩ L 0 n) :
    Calls Tryd.prog 16 #[.pointer (some ⟨g, 0, none⟩)] W (OpSays z g (l.take n) n room) := by
  have hle := h.le
  have hn : n ≤ l.length := by
    have h1 := (scR_le hL (Nat.zero_le _)).2.1
    rw [bsize] at h1
    exact h1
  obtain ⟨t, ht⟩ : ∃ t : ByteArray, t = ⟨l.toArray⟩ := ⟨_, rfl⟩
  have htz : t.size = l.length := by rw [ht, bsize]
  have HB := Lib.hid (dbytes_in h)
  rw [← ht] at HB
  obtain ⟨m, hm⟩ : ∃ m, m = L.length := ⟨_, rfl⟩
  have HSC := Lib.hid (fun (W1 : World) (h : DkZ z W1 g l l.length room) => (scan_any (s := t) (hE.later h.bel) (by omega) (by rw [ht]; exact hL)).mono fun x W' hx => show ∃ a c, x = Ending.returned (.tuple #[.slice a m c, .int .i64 n]) ∧ DkZ z W' g l l.length room from by
    obtain ⟨a, c, rfl, _, hb⟩ := hx
    rw [hm]
    exact ⟨a, c, rfl, h.below hb⟩)
  have q1 : IntKind.i64.wrap ((n : Int) + ((room : Int) - (n : Int))) = (room : Int) := by rw [show (n : Int) + ((room : Int) - (n : Int)) = (room : Int) by omega]; exact IntWalk.i64_in _ (by omega)
  obtain ⟨mi, hmi⟩ : ∃ mi : Int, mi = (room : Int) - (n : Int) := ⟨_, rfl⟩
  rw [← hmi] at q1
  have HRM := Lib.hid (fun (W1 : World) (l1 : List UInt8) (s1 : Nat) (h1 : DkZ z W1 g l1 s1 room) (hln : l1.length = n) => (droom_in h1).mono fun x W' hx => show x = Ending.returned (.int .i64 mi) ∧ DkZ z W' g l1 s1 room from by rw [hmi, ← hln]; exact hx)
  have HBB := Lib.hid (fun (W1 : World) (l1 : List UInt8) (s1 : Nat) (h1 : DkZ z W1 g l1 s1 room) (hln : l1.length = n) => (dbytes_in h1).mono fun x W' hx => show ∃ t1 : ByteArray, (x = Ending.returned (.string t1) ∧ t1.size = n) ∧ DkZ z W' g l1 s1 room from ⟨_, ⟨hx.1, by rw [bsize]; exact hln⟩, hx.2⟩)
  have HTK := Lib.hid (show (l.take n).length = n by rw [List.length_take]; omega)
  have HT := Lib.hid ht
  have HTZ := Lib.hid htz
  have HLE := Lib.hid hle
  have HL7 := Lib.hid hl
  clear h hE hL ht hm hmi hle hl
  by_cases hlt : n < l.length
  case' pos =>
    have hti : (n : Int) < (t.size : Int) := by omega
    have hte : n ≤ t.size := by omega
    have hxz : (t.extract 0 n).size = n := by rw [← bLen, HT.out, ext_arr, List.length_take]; omega
    have HSW := Lib.hid (fun (W1 : World) (h1 : DkZ z W1 g l l.length room) => (dswap_in h1 (t.extract 0 n) (by rw [hxz]; have := HLE.out; omega) (by rw [hxz]; have := HL7.out; omega)).mono fun x W' hx => show x = Ending.returned (.bool true) ∧ DkZ z W' g (l.take n) n room from by
      have e : (t.extract 0 n).data.toList = l.take n := by rw [HT.out, ext_arr]
      rw [e, hxz] at hx
      exact hx)
    clear hxz hlt hn htz
    go_enter Tryd.func16, Tryd.ntmps16
    go_wp2_with fail
    refine HB.out.mono ?_
    rintro x w1 ⟨rfl, h1⟩
    have HS1 := Lib.hid (HSC.out w1 h1)
    clear h1 HSC HB
    go_wp2_with fail
    refine HS1.out.mono ?_
    rintro x w2 ⟨a, c, rfl, h2⟩
    have HS2 := Lib.hid (HSW.out w2 h2)
    clear h2 HS1 HSW
    go_wp2_with fail
    refine HS2.out.mono ?_
    rintro x w3 ⟨rfl, h3⟩
    clear HS2 hti hte
  case' neg =>
    have hti : ¬ (n : Int) < (t.size : Int) := by omega
    clear htz
    go_enter Tryd.func16, Tryd.ntmps16
    go_wp2_with fail
    refine HB.out.mono ?_
    rintro x w1 ⟨rfl, h1⟩
    have HS1 := Lib.hid (HSC.out w1 h1)
    clear h1 HSC HB
    go_wp2_with fail
    refine HS1.out.mono ?_
    rintro x w2 ⟨a, c, rfl, h2⟩
    obtain ⟨w3, hw3⟩ : ∃ X, X = w2 := ⟨_, rfl⟩
    have h3 : DkZ z w3 g (l.take n) n room := by
      have e1 : l.length = n := by omega
      rw [hw3]
      rw [e1] at h2
      rw [List.take_of_length_le (by omega)]
      exact h2
    rw [← hw3]
    clear h2 HS1 hlt hn hw3
  all_goals
    have HB3 := Lib.hid (HBB.out w3 _ _ h3 HTK.out)
    clear h3
    go_wp2_with fail
    refine HB3.out.mono ?_
    rintro x w4 ⟨t1, ⟨rfl, ht1⟩, h4⟩
    have HR4 := Lib.hid (HRM.out w4 _ _ h4 HTK.out)
    have HT1 := Lib.hid ht1
    clear h4 ht1 HB3
    go_wp2_with fail
    refine HR4.out.mono ?_
    rintro x w5 ⟨rfl, h5⟩
    rw [HT1.out]
    have HX := Lib.hid (OpSays.made h5)
    clear h5 HR4
    go_wp2_with fail
    go_ret
    exact HX.out
end
end Go.Proofs.YthplhdepllloaaaDoor

/- What is proved here: whatever is done, the disk is the document's (DiskPlays answers true). No conditions but those of the values themselves. -/
import Derived.Test.YtbicoiciapngdaaFour21
import Derived.Test.YtbicoiciapngdaaLawB21
import Derived.Outline
namespace Go.Proofs.Ytbicoiciapngdaa
open Go.RowKit Go.Extern.Stop Go.Stop Go.Extern

section
variable {w : World} {B g : Nat} {o : Option Nat} {l : List UInt8} {sure room : Nat}
theorem disk_room_q (h : IsDisk w B g o l sure room) :
    Calls Try.prog 27 #[.pointer (some ⟨g, 0, none⟩)] w fun e w' => e = .returned (.int .i64 ((room : Int) - (l.length : Int))) ∧ ∃ m, w' = w.drewN m := by
  obtain ⟨⟨v, h1, h2, rfl⟩, h3, h4, h5⟩ := h
  have c0 := h1.cell 0
  have c2 := h1.cell 2
  obtain ⟨A, cap, rfl, hl, hc, _⟩ := h2.form
  go_enter Try.func27, Try.ntmps27
  go_wp2
  go_quiet (fail)
  go_wp2
  go_ret
  exact ⟨rfl, _, rfl⟩
theorem disk_bytes_same (h : IsDisk w B g o l sure room) :
    Calls Try.prog 25 #[.pointer (some ⟨g, 0, none⟩)] w fun e w' => e = .returned (.string ⟨l.toArray⟩) ∧ w' = w := by
  obtain ⟨⟨v, h1, h2, rfl⟩, h3, h4, h5⟩ := h
  have c0 := h1.cell 0
  have hs := holds_string (P := Try.prog) Try.underlying29 Try.underlying5 Try.underlying9 h2
  go_enter Try.func25, Try.ntmps25
  go_wp2
  go_ret
  exact ⟨rfl, rfl⟩
theorem nil_bytes_same : Calls Try.prog 25 #[.pointer none] w fun e w' => e = .returned (.string ⟨#[]⟩) ∧ w' = w := by
  go_enter Try.func25, Try.ntmps25
  go_wp2
  go_ret
  exact ⟨rfl, rfl⟩
theorem nil_sure_same : Calls Try.prog 26 #[.pointer none] w fun e w' => e = .returned (.int .i64 0) ∧ w' = w := by
  go_enter Try.func26, Try.ntmps26
  go_wp2
  go_ret
  exact ⟨rfl, rfl⟩
theorem nil_room_same : Calls Try.prog 27 #[.pointer none] w fun e w' => e = .returned (.int .i64 0) ∧ w' = w := by
  go_enter Try.func27, Try.ntmps27
  go_wp2
  go_ret
  exact ⟨rfl, rfl⟩
theorem left_q {R : Int} {s t : ByteArray} (h : IsRef w g R s t) (hR : -9223372036854775808 ≤ R ∧ R ≤ 9223372036854775807) (hs : s.size ≤ 1000000) (ht : t.size ≤ 1000000) :
    Calls Try.prog 28 #[.pointer (some ⟨g, 0, none⟩)] w fun e w' => e = .returned (.int .i64 (((R.toNat : Nat) : Int) - (s.size : Int) - (t.size : Int))) ∧ ∃ m, w' = w.drewN m := by
  have c0 := h.cell 0
  have c1 := h.cell 1
  have c2 := h.cell 2
  clear h
  by_cases hr : R < 0
  · have e : R.toNat = 0 := by omega
    rw [e]
    clear e
    have hd : decide (R < 0) = true := by simp; omega
    go_enter Try.func28, Try.ntmps28
    go_wp2
    go_quiet (fail)
    go_wp2
    all_goals
      go_ret
      exact ⟨ret_i64 (by omega), _, rfl⟩
  · obtain ⟨r, rfl⟩ := Int.eq_ofNat_of_zero_le (show 0 ≤ R by omega)
    rw [Int.toNat_natCast]
    go_enter Try.func28, Try.ntmps28
    go_wp2
    go_quiet (fail)
    go_wp2
    all_goals
      go_ret
      exact ⟨rfl, _, rfl⟩
end
theorem four_start (w : World) (n : Int) (hn : -9223372036854775808 ≤ n ∧ n ≤ 9223372036854775807) {w1 : World} (hw1 : w1 = w.alloc (.cells #[.slice none 0 0, .int .i64 0, .int .i64 (n.toNat : Nat)] 39)) :
    Four w (((w1.alloc (.cells #[.int .i64 n, .string ⟨#[]⟩, .string ⟨#[]⟩] 37)).alloc (.cells #[.slice none 0 0, .int .i64 0, .int .i64 0] 39)).alloc (.cells #[.int .i64 0, .string ⟨#[]⟩, .string ⟨#[]⟩] 37))
      w.heap.size (w.heap.size + 1) (w.heap.size + 1 + 1) (w.heap.size + 1 + 1 + 1) n [] 0 [] 0 := by
  subst hw1
  have a0 := Blk.made w 39 #[.slice none 0 0, .int .i64 0, .int .i64 (n.toNat : Nat)]
  have a1 := Blk.made (w.alloc (.cells #[.slice none 0 0, .int .i64 0, .int .i64 (n.toNat : Nat)] 39)) 37 #[.int .i64 n, .string ⟨#[]⟩, .string ⟨#[]⟩]
  have a2 := Blk.made ((w.alloc (.cells #[.slice none 0 0, .int .i64 0, .int .i64 (n.toNat : Nat)] 39)).alloc (.cells #[.int .i64 n, .string ⟨#[]⟩, .string ⟨#[]⟩] 37)) 39 #[.slice none 0 0, .int .i64 0, .int .i64 0]
  have a3 := Blk.made (((w.alloc (.cells #[.slice none 0 0, .int .i64 0, .int .i64 (n.toNat : Nat)] 39)).alloc (.cells #[.int .i64 n, .string ⟨#[]⟩, .string ⟨#[]⟩] 37)).alloc (.cells #[.slice none 0 0, .int .i64 0, .int .i64 0] 39)) 37 #[.int .i64 0, .string ⟨#[]⟩, .string ⟨#[]⟩]
  have e : ∀ (W : World) (o : Obj), (W.alloc o).heap.size = W.heap.size + 1 := fun W o => by simp
  simp only [e] at a1 a2 a3
  refine ⟨?_, by omega, by omega, ⟨none, none, ⟨⟨_, ((a0.alloc _).alloc _).alloc _, .inl ⟨rfl, rfl⟩, rfl⟩, Nat.le_refl _, Nat.zero_le _, by omega⟩, ⟨⟨_, a2.alloc _, .inl ⟨rfl, rfl⟩, rfl⟩, Nat.le_refl _, Nat.le_refl _, by omega⟩, by simp⟩, ⟨_, _, (a1.alloc _).alloc _, rfl, rfl⟩, ⟨_, _, a3, rfl, rfl⟩⟩
  exact ((((Below.refl _ _).alloc (Nat.le_refl _) _).alloc (by simp) _).alloc (by simp; omega) _).alloc (by simp; omega) _
/-- What the law reads of them. -/
theorem four_reads {w0 w : World} {g gx gz gy : Nat} {R : Int} {l : List UInt8} {sure : Nat} (hR : -9223372036854775808 ≤ R ∧ R ≤ 9223372036854775807) (h : Four w0 w g gx gz gy R l sure l sure) (hl : l.length ≤ 1000000) :
    ∃ s t : ByteArray, (∀ n, Calls Try.prog 25 #[.pointer (some ⟨g, 0, none⟩)] (w.drewN n) fun e w' => e = .returned (.string (s ++ t)) ∧ w' = w.drewN n) ∧
      (∀ n, Calls Try.prog 26 #[.pointer (some ⟨g, 0, none⟩)] (w.drewN n) fun e w' => e = .returned (.int .i64 (s.size : Nat)) ∧ w' = w.drewN n) ∧
      (∀ n, Calls Try.prog 27 #[.pointer (some ⟨g, 0, none⟩)] (w.drewN n) fun e w' => e = .returned (.int .i64 (((R.toNat : Nat) : Int) - (s.size : Int) - (t.size : Int))) ∧ ∃ m, w' = (w.drewN n).drewN m) ∧
      (∀ n, Calls Try.prog 28 #[.pointer (some ⟨gx, 0, none⟩)] (w.drewN n) fun e w' => e = .returned (.int .i64 (((R.toNat : Nat) : Int) - (s.size : Int) - (t.size : Int))) ∧ ∃ m, w' = (w.drewN n).drewN m) ∧
      (∀ n, Calls Try.prog 25 #[.pointer (some ⟨gz, 0, none⟩)] (w.drewN n) fun e w' => e = .returned (.string ⟨#[]⟩) ∧ w' = w.drewN n) ∧
      (∀ n, Calls Try.prog 26 #[.pointer (some ⟨gz, 0, none⟩)] (w.drewN n) fun e w' => e = .returned (.int .i64 0) ∧ w' = w.drewN n) ∧
      (∀ n, Calls Try.prog 27 #[.pointer (some ⟨gz, 0, none⟩)] (w.drewN n) fun e w' => e = .returned (.int .i64 0) ∧ ∃ m, w' = (w.drewN n).drewN m) ∧
      w.cell? ⟨gx, 1, none⟩ = some (.string s) ∧ w.cell? ⟨gx, 2, none⟩ = some (.string t) ∧ s.size + t.size ≤ 1000000 := by
  obtain ⟨h1, h2, h3, ⟨o, oz, d1, d2, d3⟩, ⟨s, t, x1, x2, x3⟩, _⟩ := h
  have hp := parts_len x2
  have hf : ∀ n, Fr [] w (w.drewN n) := fun n => (Fr.refl _ _).drewN n
  have e1 : (⟨l.toArray⟩ : ByteArray) = s ++ t := text_eq (by rw [list_append, x2])
  have e2 : ((R.toNat : Nat) : Int) - (l.length : Int) = ((R.toNat : Nat) : Int) - (s.size : Int) - (t.size : Int) := by omega
  refine ⟨s, t, fun n => ?_, fun n => ?_, fun n => ?_, fun n => ?_, fun n => ?_, fun n => ?_, fun n => ?_, x1.cell 1, x1.cell 2, by omega⟩
  · have := disk_bytes_same (d1.then (hf n))
    rw [e1] at this
    exact this
  · have := disk_sure_same (d1.then (hf n))
    rw [← x3] at this
    exact this
  · have := disk_room_q (d1.then (hf n))
    rw [e2] at this
    exact this
  · exact left_q (Blk.fr x1 (hf n) (by simp)) hR (by omega) (by omega)
  · exact disk_bytes_same (d2.then (hf n))
  · exact disk_sure_same (d2.then (hf n))
  · exact disk_room_q (d2.then (hf n))
set_option maxHeartbeats 4000000 in
set_option maxRecDepth 100000 in
theorem diskPlays_walk (n : Int) (a : Option Addr) (len cap : Nat) (xs : Nat → Act21) (w : World) (hn : -9223372036854775808 ≤ n ∧ n ≤ 9223372036854775807) (hl : len ≤ maxLen) (h : ActsOf w a len xs) :
    Calls Try.prog 6 #[.int .i64 n, .slice a len cap] w fun x w' => x = .returned (.bool true) ∧ Below w.heap.size w w' := by
  have HF := Lib.hid (few_of (cap := cap) hl h)
  have HA := Lib.hid h
  have HNEW := Lib.hid (disk_new (w := w) n hn)
  unfold maxLen at hl
  clear h
  go_enter Try.func6, Try.ntmps6
  go_wp2_with fail
  refine (HF.out).mono ?_
  rintro e w' ⟨f, rfl, hf, rfl⟩
  cases f with
  | false =>
    clear hf
    go_wp2_with fail
    refine (awake21 _).mono ?_
    rintro e w' ⟨rfl, hb⟩
    go_wp2
    go_ret
    exact ⟨rfl, hb⟩
  | true =>
    obtain ⟨hl4, hx⟩ := hf rfl
    have HX := Lib.hid hx
    clear hf hx
    go_wp2_with fail
    refine (HNEW.out).mono ?_
    rintro e w1 ⟨rfl, hw1⟩
    have HS := Lib.hid (four_start w n hn hw1)
    have hsz1 : w1.heap.size = w.heap.size + 1 := by rw [hw1]; simp
    clear hw1
    go_wp2
    obtain ⟨gx, hgx⟩ : ∃ x, x = w.heap.size + 1 := ⟨_, rfl⟩
    rw [← hgx] at HS ⊢
    obtain ⟨gz, hgz⟩ : ∃ x, x = gx + 1 := ⟨_, rfl⟩
    rw [← hgz] at HS ⊢
    obtain ⟨gy, hgy⟩ : ∃ x, x = gz + 1 := ⟨_, rfl⟩
    rw [← hgy] at HS ⊢
    clear hsz1 hgx hgz hgy
    obtain ⟨g, hg⟩ : ∃ x, x = w.heap.size := ⟨_, rfl⟩
    rw [← hg] at HS
    rw [← hg]
    clear hg
    go_loopw [10] (fun i wr => ∃ (k : Nat) (l : List UInt8) (sure : Nat), k ≤ len ∧ i = .int .i64 k ∧ Four w wr g gx gz gy n l sure l sure ∧ l.length ≤ k * 100) (fun i _ => len - (intOf i).toNat)
    case atStart => exact ⟨0, [], 0, Nat.zero_le _, rfl, HS.out, by simp⟩
    case round =>
      obtain ⟨k, l, sure, hk, rfl, hd, hll⟩ := hrel
      by_cases hlt : k < len
      · obtain ⟨b, off, rfl, hac⟩ : ∃ b off, a = some ⟨b, off, none⟩ ∧ Acts w b off len xs := HA.out.resolve_left (by omega)
        have hsz := HX.out k hlt
        obtain ⟨_, _, _, hm, hk1, hk2⟩ := hac k hlt
        have hdl := dstep_len n.toNat (xs k).kind (xs k).s.data.toList (xs k).keep l sure
        rw [size_bytes] at hdl
        have hKS := fun W l1 s1 l2 s2 (h : Four w W g gx gz gy n l1 s1 l2 s2) => Four.cells hac hlt h
        have KS := Lib.hid hKS
        have HAC := Lib.hid hac
        have hS := Four.cells hac hlt hd
        have H1 := Lib.hid (fun W (h : Four w W g gx gz gy n l sure l sure) => four_d h (xs k).kind (xs k).keep (xs k).s ⟨hk1, hk2⟩ (by omega))
        have H2 := Lib.hid (fun W l' sure' (h : Four w W g gx gz gy n l' sure' l sure) => four_x h hn (xs k).kind (xs k).keep (xs k).s ⟨hk1, hk2⟩ (by omega) (by omega))
        have H3 := Lib.hid (fun W l' sure' (h : Four w W g gx gz gy n l' sure' l' sure') => four_z h (xs k).kind (xs k).keep (xs k).s ⟨hk1, hk2⟩ (by omega))
        have H4 := Lib.hid (fun W l' sure' (h : Four w W g gx gz gy n l' sure' l' sure') => four_y h (xs k).kind (xs k).keep (xs k).s ⟨hk1, hk2⟩ (by omega))
        have H5 := Lib.hid (fun W l' sure' (h : Four w W g gx gz gy n l' sure' l' sure') => four_no h (xs k).kind (xs k).keep (xs k).s (by omega))
        obtain ⟨kd, hkd⟩ : ∃ x, x = (xs k).kind := ⟨_, rfl⟩
        obtain ⟨ks, hks⟩ : ∃ x, x = (xs k).s := ⟨_, rfl⟩
        obtain ⟨kk, hkk⟩ : ∃ x, x = (xs k).keep := ⟨_, rfl⟩
        rw [← hkd] at hS H1 H2 H3 H4 H5 hdl KS
        rw [← hks] at hS H1 H2 H3 H4 H5 hdl KS hsz
        rw [← hkk] at hS H1 H2 H3 H4 H5 hdl KS
        clear hac hkd hks hkk hm hk1 hk2 hKS
        generalize dstep n.toNat kd ks.data.toList kk l sure = q at *
        obtain ⟨ok, l', sure'⟩ := q
        generalize (dstep 0 kd ks.data.toList kk [] 0).1 = okz at *
        have hlo : (0 : Int) ≤ (k : Int) := by omega
        have hhi : (k : Int) < (len : Int) := by omega
        go_wp2_with fail
        go_region_held3 (fun w' => w'.cell? ⟨b, off + k * 3, none⟩ = some (.int .i64 kd) ∧ w'.cell? ⟨b, off + k * 3 + 1, none⟩ = some (.string ks) ∧ w'.cell? ⟨b, off + k * 3 + 2, none⟩ = some (.int .i64 kk))
          (first | assumption | (exact KS.out _ _ _ _ _ (by assumption)))
          (first
            | (go_at_call_of 23 (Value.pointer (some ⟨g, 0, none⟩)); (with_reducible refine (H1.out _ ?_).mono ?_); (first | assumption | exact Four.drew (by assumption)); rintro x w5 ⟨rfl, hd5⟩)
            | (go_at_call_of 24 (Value.pointer (some ⟨gx, 0, none⟩)); (with_reducible refine (H2.out _ l' sure' ?_).mono ?_); (first | assumption | exact Four.drew (by assumption)); rintro x w6 ⟨rfl, hd6⟩)
            | (go_at_call_of 23 (Value.pointer (some ⟨gz, 0, none⟩)); (with_reducible refine (H3.out _ l' sure' ?_).mono ?_); (first | assumption | exact Four.drew (by assumption)); rintro x w7 ⟨rfl, hd7⟩)
            | (go_at_call_of 24 (Value.pointer (some ⟨gy, 0, none⟩)); (with_reducible refine (H4.out _ l' sure' ?_).mono ?_); (first | assumption | exact Four.drew (by assumption)); rintro x w8 ⟨rfl, hd8⟩)
            | (go_at_call_of 23 (Value.pointer none); (with_reducible refine (H5.out _ l' sure' ?_).mono ?_); (first | assumption | exact Four.drew (by assumption)); rintro x w9 ⟨rfl, hd9⟩))
        go_wp2_with fail
        have HD9 := Lib.hid hd9
        obtain ⟨s, t, QB, QS, QR, QL, QB', QS', QR', cs, ct, hll'⟩ := four_reads hn hd9 (by omega)
        have HQB := Lib.hid QB
        have HQS := Lib.hid QS
        have HQR := Lib.hid QR
        have HQL := Lib.hid QL
        have HQB' := Lib.hid QB'
        have HQS' := Lib.hid QS'
        have HQR' := Lib.hid QR'
        have hN1 := Lib.hid (fun n => nil_bytes_same (w := w9.drewN n))
        have hN2 := Lib.hid (fun n => nil_sure_same (w := w9.drewN n))
        have hN3 := Lib.hid (fun n => nil_room_same (w := w9.drewN n))
        clear QB QS QR QL QB' QS' QR' hd hS hd9 hd5 hd6 hd7 hd8
        generalize ((n.toNat : Nat) : Int) - (s.size : Int) - (t.size : Int) = E at *
        go_quiet ((first
          | (go_at_call_of 25 (Value.pointer (some ⟨g, 0, none⟩)); with_reducible exact Calls.quiet_of_same (HQB.out _))
          | (go_at_call_of 26 (Value.pointer (some ⟨g, 0, none⟩)); with_reducible exact Calls.quiet_of_same (HQS.out _))
          | (go_at_call_of 27 (Value.pointer (some ⟨g, 0, none⟩)); with_reducible exact Calls.quiet_of (HQR.out _))
          | (go_at_call_of 28 (Value.pointer (some ⟨gx, 0, none⟩)); with_reducible exact Calls.quiet_of (HQL.out _))
          | (go_at_call_of 25 (Value.pointer (some ⟨gz, 0, none⟩)); with_reducible exact Calls.quiet_of_same (HQB'.out _))
          | (go_at_call_of 26 (Value.pointer (some ⟨gz, 0, none⟩)); with_reducible exact Calls.quiet_of_same (HQS'.out _))
          | (go_at_call_of 27 (Value.pointer (some ⟨gz, 0, none⟩)); with_reducible exact Calls.quiet_of (HQR'.out _))
          | (go_at_call_of 25 (Value.pointer none); with_reducible exact Calls.quiet_of_same (hN1.out _))
          | (go_at_call_of 26 (Value.pointer none); with_reducible exact Calls.quiet_of_same (hN2.out _))
          | (go_at_call_of 27 (Value.pointer none); with_reducible exact Calls.quiet_of_same (hN3.out _))))
        go_wp2_with fail
        go_roundw
        case rel => exact ⟨k + 1, _, _, by omega, by go_num, HD9.out.drewN _, by omega⟩
        case measure => simp [intOf]; omega
      · have HB := Lib.hid hd.below
        clear hd
        go_wp2_with fail
        refine (awake21 _).mono ?_
        rintro e w8 ⟨rfl, hb⟩
        have HB8 := Lib.hid (HB.out.trans (hb.mono HB.out.size))
        clear hb
        go_wp2
        go_ret
        exact ⟨rfl, HB8.out⟩
end Go.Proofs.Ytbicoiciapngdaa

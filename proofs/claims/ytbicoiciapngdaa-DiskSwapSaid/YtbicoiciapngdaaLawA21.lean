/- What is proved here: a swap is all or nothing (DiskSwap answers true). No conditions but those of the values themselves. -/
import Derived.Test.YtbicoiciapngdaaActs21
namespace Go.Proofs.Ytbicoiciapngdaa
open Go.RowKit Go.Extern.Stop Go.Stop Go.Extern

/-- A disk of the call's own: the blocks that it may change are the call's own. -/
structure OwnDisk (w0 w : World) (g : Nat) (l : List UInt8) (sure room : Nat) : Prop where
  below : Below w0.heap.size w0 w
  at_ : w0.heap.size ≤ g
  disk : ∃ o, IsDisk w w0.heap.size g o l sure room
section
variable {w0 w w' : World} {g : Nat} {l l' : List UInt8} {sure sure' room room' : Nat}
theorem OwnDisk.step (h : OwnDisk w0 w g l sure room) (hc : ∀ o, IsDisk w w0.heap.size g o l sure room → Fr (g :: o.toList) w w' ∧ ∃ o', IsDisk w' w0.heap.size g o' l' sure' room ∧ Own w w' o o') : OwnDisk w0 w' g l' sure' room := by
  obtain ⟨hb, hg, o, hd⟩ := h
  obtain ⟨hf, o', hd', _⟩ := hc o hd
  exact ⟨now_below hb hd hg hf hd', hg, o', hd'⟩
theorem OwnDisk.read (h : OwnDisk w0 w g l sure room) (hf : Fr [] w w') : OwnDisk w0 w' g l sure room := by
  obtain ⟨hb, hg, o, hd⟩ := h
  exact ⟨hf.later hb (by simp) hb.size, hg, o, hd.then hf⟩
/-- What the law's calls do to it. -/
theorem own_do (h : OwnDisk w0 w g l sure room) (kind k : Int) (s : ByteArray) (hk : -9223372036854775808 ≤ k ∧ k ≤ 9223372036854775807) (hz : l.length + s.size ≤ 1000000) :
    Calls Try.prog 23 #[.pointer (some ⟨g, 0, none⟩), .agg #[.int .i64 kind, .string s, .int .i64 k]] w fun e w' => e = .returned (.bool (dstep room kind s.data.toList k l sure).1) ∧
      OwnDisk w0 w' g (dstep room kind s.data.toList k l sure).2.1 (dstep room kind s.data.toList k l sure).2.2 room := by
  obtain ⟨hb, hg, o, hd⟩ := h
  exact (do_any hd hb.size kind k s hk hz).mono fun _ _ ⟨h1, h2, o', h3, _⟩ => ⟨h1, now_below hb hd hg h2 h3, hg, o', h3⟩
theorem own_bytes (h : OwnDisk w0 w g l sure room) : Calls Try.prog 25 #[.pointer (some ⟨g, 0, none⟩)] w fun e w' => e = .returned (.string ⟨l.toArray⟩) ∧ OwnDisk w0 w' g l sure room := by
  obtain ⟨hb, hg, o, hd⟩ := id h
  exact (disk_bytes hd).mono fun _ _ ⟨h1, h2⟩ => ⟨h1, h.read h2⟩
theorem own_sure (h : OwnDisk w0 w g l sure room) : Calls Try.prog 26 #[.pointer (some ⟨g, 0, none⟩)] w fun e w' => e = .returned (.int .i64 sure) ∧ OwnDisk w0 w' g l sure room := by
  obtain ⟨hb, hg, o, hd⟩ := id h
  exact (disk_sure hd).mono fun _ _ ⟨h1, h2⟩ => ⟨h1, h.read h2⟩
theorem own_room (h : OwnDisk w0 w g l sure room) : Calls Try.prog 27 #[.pointer (some ⟨g, 0, none⟩)] w fun e w' => e = .returned (.int .i64 ((room : Int) - (l.length : Int))) ∧ OwnDisk w0 w' g l sure room := by
  obtain ⟨hb, hg, o, hd⟩ := id h
  exact (disk_room hd).mono fun _ _ ⟨h1, h2⟩ => ⟨h1, h.read h2⟩
theorem own_swap (h : OwnDisk w0 w g l sure room) (s : ByteArray) (hs : s.size ≤ room) (hz : s.size ≤ 1000000) : Calls Try.prog 29 #[.pointer (some ⟨g, 0, none⟩), .string s] w fun e w' => e = .returned (.bool true) ∧ OwnDisk w0 w' g s.data.toList s.size room := by
  obtain ⟨hb, hg, o, hd⟩ := h
  exact (disk_swap hd hb.size s hs hz).mono fun _ _ ⟨h1, h2, o', h3, _⟩ => ⟨h1, now_below hb hd hg h2 h3, hg, o', h3⟩
theorem own_swap_no (h : OwnDisk w0 w g l sure room) (s : ByteArray) (hs : room < s.size) (hz : s.size ≤ 9223372036854775807) : Calls Try.prog 29 #[.pointer (some ⟨g, 0, none⟩), .string s] w fun e w' => e = .returned (.bool false) ∧ OwnDisk w0 w' g l sure room := by
  obtain ⟨hb, hg, o, hd⟩ := h
  exact (disk_swap_no hd s hs hz).mono fun _ _ ⟨h1, h2, o', h3, _⟩ => ⟨h1, now_below hb hd hg h2 h3, hg, o', h3⟩
theorem own_crash (h : OwnDisk w0 w g l sure room) (k : Int) (hk : -9223372036854775808 ≤ k ∧ k ≤ 9223372036854775807) (hz : l.length ≤ 1000000) : Calls Try.prog 30 #[.pointer (some ⟨g, 0, none⟩), .int .i64 k] w fun e w' => e = .returned (.tuple #[]) ∧
    OwnDisk w0 w' g (l.take (sure + min k.toNat (l.length - sure))) (sure + min k.toNat (l.length - sure)) room := by
  obtain ⟨hb, hg, o, hd⟩ := h
  exact (disk_crash hd k hk hz).mono fun _ _ ⟨h1, h2, o', h3, _⟩ => ⟨h1, now_below hb hd hg h2 h3, hg, o', h3⟩
theorem own_new (n : Int) (hn : -9223372036854775808 ≤ n ∧ n ≤ 9223372036854775807) (hb : Below w0.heap.size w0 w) :
    Calls Try.prog 22 #[.int .i64 n] w fun e w' => e = .returned (.pointer (some ⟨w.heap.size, 0, none⟩)) ∧ OwnDisk w0 w' w.heap.size [] 0 n.toNat := by
  refine (disk_new n hn).mono fun _ _ ⟨h1, h2⟩ => ⟨h1, ?_⟩
  subst h2
  exact ⟨hb.alloc hb.size _, hb.size, none, ⟨⟨_, Blk.made w 39 _, .inl ⟨rfl, rfl⟩, rfl⟩, Nat.le_refl _, Nat.zero_le _, by omega⟩⟩
theorem own_le (h : OwnDisk w0 w g l sure room) : sure ≤ l.length ∧ l.length ≤ room ∧ (room : Int) ≤ 9223372036854775807 := by
  obtain ⟨_, _, o, hd⟩ := h
  exact ⟨hd.sure_le, hd.room_le, hd.big⟩
end
theorem dstep_len (room : Nat) (kind : Int) (s : List UInt8) (k : Int) (l : List UInt8) (sure : Nat) : (dstep room kind s k l sure).2.1.length ≤ l.length + s.length := by
  unfold dstep
  split
  · split <;> simp
  · split
    · simp
    · split
      · show (l.take _).length ≤ _
        rw [List.length_take]; omega
      · split
        · split <;> simp
        · simp
/-- The acts that the law is handed, few or none. -/
def ActsOf (w : World) (a : Option Addr) (len : Nat) (xs : Nat → Act21) : Prop := len = 0 ∨ ∃ b off, a = some ⟨b, off, none⟩ ∧ Acts w b off len xs
theorem few_of {w : World} {a : Option Addr} {len cap : Nat} {xs : Nat → Act21} (hl : len ≤ maxLen) (h : ActsOf w a len xs) : Calls Try.prog 20 #[.slice a len cap] w (FewSays len xs w) := by
  rcases h with rfl | ⟨b, off, rfl, h⟩
  · exact few_none cap a xs w
  · exact few_any b off len cap xs w hl h
theorem back_bytes (s : ByteArray) : (⟨s.data.toList.toArray⟩ : ByteArray) = s := rfl
set_option maxHeartbeats 2000000 in
theorem swap_neg (n : Int) (hn : -9223372036854775808 ≤ n) (hneg : n < 0) (a : Option Addr) (len cap : Nat) (xs : Nat → Act21) (s : ByteArray) (w : World) (hl : len ≤ maxLen) (h : ActsOf w a len xs) (hs : s.size ≤ 100) :
    Calls Try.prog 8 #[.int .i64 n, .slice a len cap, .string s] w fun x w' => x = .returned (.bool true) ∧ Below w.heap.size w w' := by
  have HF := Lib.hid (few_of (cap := cap) hl h)
  have HA := Lib.hid h
  have hnew := own_new (w := w) n ⟨hn, by omega⟩ (Below.refl _ _)
  rw [show n.toNat = 0 by omega] at hnew
  have HNEW := Lib.hid hnew
  have hdn : decide (n < 0) = true := by simp; omega
  clear hnew
  unfold maxLen at hl
  clear h
  go_enter Try.func8, Try.ntmps8
  go_wp2_with fail
  refine (HF.out).mono ?_
  rintro e w' ⟨f, rfl, hf, rfl⟩
  cases f with
  | false =>
    clear hf
    go_wp2_with fail
    refine (awake21 _).mono ?_
    rintro e w' ⟨rfl, hb⟩
    go_wp2
    go_ret
    exact ⟨rfl, hb⟩
  | true =>
    obtain ⟨hl4, hx⟩ := hf rfl
    have HX := Lib.hid hx
    clear hf hx
    go_wp2_with fail
    refine (HNEW.out).mono ?_
    rintro e w1 ⟨rfl, hd⟩
    have HD := Lib.hid hd
    clear hd
    go_wp2
    go_loopw [8] (fun i wr => ∃ (k : Nat) (l : List UInt8) (sure : Nat), k ≤ len ∧ i = .int .i64 k ∧ OwnDisk w wr w.heap.size l sure 0 ∧ l.length ≤ k * 100) (fun i _ => len - (intOf i).toNat)
    case atStart => exact ⟨0, [], 0, Nat.zero_le _, rfl, HD.out, by simp⟩
    case round =>
      obtain ⟨k, l, sure, hk, rfl, hd, hll⟩ := hrel
      by_cases hlt : k < len
      · obtain ⟨b, off, rfl, hac⟩ : ∃ b off, a = some ⟨b, off, none⟩ ∧ Acts w b off len xs := HA.out.resolve_left (by omega)
        obtain ⟨c0, c1, c2, hm, hk1, hk2⟩ := (hac.below hd.below) k hlt
        have hsz := HX.out k hlt
        have hdl := dstep_len 0 (xs k).kind (xs k).s.data.toList (xs k).keep l sure
        rw [size_bytes] at hdl
        have HC := Lib.hid (own_do hd (xs k).kind (xs k).keep (xs k).s ⟨hk1, hk2⟩ (by omega))
        clear hac hd
        go_wp2_with fail
        refine (HC.out).mono ?_
        rintro e w2 ⟨rfl, hd⟩
        have HD2 := Lib.hid hd
        clear hd
        go_wp2
        go_roundw
        case rel => exact ⟨k + 1, _, _, by omega, by go_num, HD2.out, by omega⟩
        case measure => simp [intOf]; omega
      · have hbnd := (own_le hd).1
        have hll2 : l.length ≤ 4000 := by omega
        clear hll
        have HC := Lib.hid (own_bytes hd)
        clear hd
        go_wp2_with fail
        refine (HC.out).mono ?_
        rintro e w2 ⟨rfl, hd⟩
        have HC2 := Lib.hid (own_sure hd)
        clear hd
        go_wp2_with fail
        refine (HC2.out).mono ?_
        rintro e w3 ⟨rfl, hd⟩
        by_cases hr : s.size ≤ 0
        · have HC3 := Lib.hid (own_swap hd s hr (by omega))
          clear hd
          have hq : decide (s = ByteArray.empty) = true := by simp at hr; simp [hr]
          go_wp2_with fail
          refine (HC3.out).mono ?_
          rintro e w4 ⟨rfl, hd⟩
          have HC4 := Lib.hid (own_crash hd 0 (by omega) (by rw [size_bytes]; omega))
          clear hd
          go_wp2_with fail
          refine (HC4.out).mono ?_
          rintro e w5 ⟨rfl, hd⟩
          have e2 : s.size + min (0 : Int).toNat (s.data.toList.length - s.size) = s.data.toList.length := by rw [size_bytes]; omega
          rw [e2, List.take_length] at hd
          clear e2
          have HC5 := Lib.hid (own_bytes hd)
          clear hd
          go_wp2_with fail
          refine (HC5.out).mono ?_
          rintro e w6 ⟨rfl, hd⟩
          rw [back_bytes s]
          rw [size_bytes] at hd
          have HC6 := Lib.hid (own_sure hd)
          clear hd
          go_wp2_with fail
          refine (HC6.out).mono ?_
          rintro e w7 ⟨rfl, hd⟩
          have HB7 := Lib.hid hd.below
          clear hd
          go_wp2_with fail
          refine (awake21 _).mono ?_
          rintro e w8 ⟨rfl, hb⟩
          have HB8 := Lib.hid (HB7.out.trans (hb.mono HB7.out.size))
          clear hb
          go_wp2
          go_ret
          exact ⟨rfl, HB8.out⟩
        · have HC3 := Lib.hid (own_swap_no hd s (by omega) (by omega))
          clear hd
          have hq : decide (s = ByteArray.empty) = false := by simp at hr; simp [hr]
          go_wp2_with fail
          refine (HC3.out).mono ?_
          rintro e w4 ⟨rfl, hd⟩
          have HC5 := Lib.hid (own_bytes hd)
          clear hd
          go_wp2_with fail
          refine (HC5.out).mono ?_
          rintro e w6 ⟨rfl, hd⟩
          have HC6 := Lib.hid (own_sure hd)
          clear hd
          go_wp2_with fail
          refine (HC6.out).mono ?_
          rintro e w7 ⟨rfl, hd⟩
          have HB7 := Lib.hid hd.below
          clear hd
          go_wp2_with fail
          refine (awake21 _).mono ?_
          rintro e w8 ⟨rfl, hb⟩
          have HB8 := Lib.hid (HB7.out.trans (hb.mono HB7.out.size))
          clear hb
          go_wp2
          go_ret
          exact ⟨rfl, HB8.out⟩
set_option maxHeartbeats 2000000 in
theorem swap_nat (r : Nat) (hn : (r : Int) ≤ 9223372036854775807) (a : Option Addr) (len cap : Nat) (xs : Nat → Act21) (s : ByteArray) (w : World) (hl : len ≤ maxLen) (h : ActsOf w a len xs) (hs : s.size ≤ 100) :
    Calls Try.prog 8 #[.int .i64 r, .slice a len cap, .string s] w fun x w' => x = .returned (.bool true) ∧ Below w.heap.size w w' := by
  have HF := Lib.hid (few_of (cap := cap) hl h)
  have HA := Lib.hid h
  have hnew := own_new (w := w) (r : Int) ⟨by omega, hn⟩ (Below.refl _ _)
  rw [Int.toNat_natCast] at hnew
  have HNEW := Lib.hid hnew
  clear hnew
  unfold maxLen at hl
  clear h
  go_enter Try.func8, Try.ntmps8
  go_wp2_with fail
  refine (HF.out).mono ?_
  rintro e w' ⟨f, rfl, hf, rfl⟩
  cases f with
  | false =>
    clear hf
    go_wp2_with fail
    refine (awake21 _).mono ?_
    rintro e w' ⟨rfl, hb⟩
    go_wp2
    go_ret
    exact ⟨rfl, hb⟩
  | true =>
    obtain ⟨hl4, hx⟩ := hf rfl
    have HX := Lib.hid hx
    clear hf hx
    go_wp2_with fail
    refine (HNEW.out).mono ?_
    rintro e w1 ⟨rfl, hd⟩
    have HD := Lib.hid hd
    clear hd
    go_wp2
    go_loopw [8] (fun i wr => ∃ (k : Nat) (l : List UInt8) (sure : Nat), k ≤ len ∧ i = .int .i64 k ∧ OwnDisk w wr w.heap.size l sure r ∧ l.length ≤ k * 100) (fun i _ => len - (intOf i).toNat)
    case atStart => exact ⟨0, [], 0, Nat.zero_le _, rfl, HD.out, by simp⟩
    case round =>
      obtain ⟨k, l, sure, hk, rfl, hd, hll⟩ := hrel
      by_cases hlt : k < len
      · obtain ⟨b, off, rfl, hac⟩ : ∃ b off, a = some ⟨b, off, none⟩ ∧ Acts w b off len xs := HA.out.resolve_left (by omega)
        obtain ⟨c0, c1, c2, hm, hk1, hk2⟩ := (hac.below hd.below) k hlt
        have hsz := HX.out k hlt
        have hdl := dstep_len r (xs k).kind (xs k).s.data.toList (xs k).keep l sure
        rw [size_bytes] at hdl
        have HC := Lib.hid (own_do hd (xs k).kind (xs k).keep (xs k).s ⟨hk1, hk2⟩ (by omega))
        clear hac hd
        go_wp2_with fail
        refine (HC.out).mono ?_
        rintro e w2 ⟨rfl, hd⟩
        have HD2 := Lib.hid hd
        clear hd
        go_wp2
        go_roundw
        case rel => exact ⟨k + 1, _, _, by omega, by go_num, HD2.out, by omega⟩
        case measure => simp [intOf]; omega
      · have hbnd := (own_le hd).1
        have hll2 : l.length ≤ 4000 := by omega
        clear hll
        have HC := Lib.hid (own_bytes hd)
        clear hd
        go_wp2_with fail
        refine (HC.out).mono ?_
        rintro e w2 ⟨rfl, hd⟩
        have HC2 := Lib.hid (own_sure hd)
        clear hd
        go_wp2_with fail
        refine (HC2.out).mono ?_
        rintro e w3 ⟨rfl, hd⟩
        by_cases hr : s.size ≤ r
        · have HC3 := Lib.hid (own_swap hd s hr (by omega))
          clear hd
          go_wp2_with fail
          refine (HC3.out).mono ?_
          rintro e w4 ⟨rfl, hd⟩
          have HC4 := Lib.hid (own_crash hd 0 (by omega) (by rw [size_bytes]; omega))
          clear hd
          go_wp2_with fail
          refine (HC4.out).mono ?_
          rintro e w5 ⟨rfl, hd⟩
          have e2 : s.size + min (0 : Int).toNat (s.data.toList.length - s.size) = s.data.toList.length := by rw [size_bytes]; omega
          rw [e2, List.take_length] at hd
          clear e2
          have HC5 := Lib.hid (own_bytes hd)
          clear hd
          go_wp2_with fail
          refine (HC5.out).mono ?_
          rintro e w6 ⟨rfl, hd⟩
          rw [back_bytes s]
          rw [size_bytes] at hd
          have HC6 := Lib.hid (own_sure hd)
          clear hd
          go_wp2_with fail
          refine (HC6.out).mono ?_
          rintro e w7 ⟨rfl, hd⟩
          have HB7 := Lib.hid hd.below
          clear hd
          go_wp2_with fail
          refine (awake21 _).mono ?_
          rintro e w8 ⟨rfl, hb⟩
          have HB8 := Lib.hid (HB7.out.trans (hb.mono HB7.out.size))
          clear hb
          go_wp2
          go_ret
          exact ⟨rfl, HB8.out⟩
        · have HC3 := Lib.hid (own_swap_no hd s (by omega) (by omega))
          clear hd
          go_wp2_with fail
          refine (HC3.out).mono ?_
          rintro e w4 ⟨rfl, hd⟩
          have HC5 := Lib.hid (own_bytes hd)
          clear hd
          go_wp2_with fail
          refine (HC5.out).mono ?_
          rintro e w6 ⟨rfl, hd⟩
          have HC6 := Lib.hid (own_sure hd)
          clear hd
          go_wp2_with fail
          refine (HC6.out).mono ?_
          rintro e w7 ⟨rfl, hd⟩
          have HB7 := Lib.hid hd.below
          clear hd
          go_wp2_with fail
          refine (awake21 _).mono ?_
          rintro e w8 ⟨rfl, hb⟩
          have HB8 := Lib.hid (HB7.out.trans (hb.mono HB7.out.size))
          clear hb
          go_wp2
          go_ret
          exact ⟨rfl, HB8.out⟩
theorem diskSwap_walk (n : Int) (a : Option Addr) (len cap : Nat) (xs : Nat → Act21) (s : ByteArray) (w : World) (hn : -9223372036854775808 ≤ n ∧ n ≤ 9223372036854775807) (hl : len ≤ maxLen) (h : ActsOf w a len xs) (hs : s.size ≤ maxLen) :
    Calls Try.prog 8 #[.int .i64 n, .slice a len cap, .string s] w fun x w' => x = .returned (.bool true) ∧ Below w.heap.size w w' := by
  unfold maxLen at hs
  by_cases hs1 : s.size ≤ 100
  · by_cases h0 : n < 0
    · exact swap_neg n hn.1 h0 a len cap xs s w hl h hs1
    · obtain ⟨r, rfl⟩ := Int.eq_ofNat_of_zero_le (show 0 ≤ n by omega)
      exact swap_nat r hn.2 a len cap xs s w hl h hs1
  · have HF := Lib.hid (few_of (cap := cap) hl h)
    clear h hl
    go_enter Try.func8, Try.ntmps8
    go_wp2_with fail
    refine (HF.out).mono ?_
    rintro e w' ⟨f, rfl, hf, rfl⟩
    clear hf
    cases f
    all_goals
      go_wp2_with fail
      refine (awake21 _).mono ?_
      rintro e w' ⟨rfl, hb⟩
      go_wp2
      go_ret
      exact ⟨rfl, hb⟩
end Go.Proofs.Ytbicoiciapngdaa

/- What is proved here: package inq is awake; a message of QoS 2 is new once (InOnce answers true). No conditions but those of the values themselves. -/
import Derived.Test.YtbicoiciapngdaaIn25
namespace Go.Proofs.Ytbicoiciapngdaa
open Go.RowKit Go.Extern.Stop Go.Stop Go.Extern Go.Maps

def s25_0 : Q25 := (fun _ => 0, 0)
def s25_1 : Q25 := (take25 2 s25_0 7 2).2
theorem r25_1 : (take25 2 s25_0 7 2).1 = 1 := by decide
def s25_2 : Q25 := (take25 2 s25_1 7 2).2
theorem r25_2 : (take25 2 s25_1 7 2).1 = 2 := by decide
def s25_3 : Q25 := (take25 2 s25_2 7 1).2
theorem r25_3 : (take25 2 s25_2 7 1).1 = 4 := by decide
def s25_4 : Q25 := (take25 2 s25_3 8 1).2
theorem r25_4 : (take25 2 s25_3 8 1).1 = 1 := by decide
def s25_5 : Q25 := (take25 2 s25_4 9 1).2
theorem r25_5 : (take25 2 s25_4 9 1).1 = 3 := by decide
def s25_6 : Q25 := (release25 s25_5 8).2
theorem r25_6 : (release25 s25_5 8).1 = false := by decide
def s25_7 : Q25 := (done25 s25_6 8).2
theorem r25_7 : (done25 s25_6 8).1 = true := by decide
def s25_8 : Q25 := (release25 s25_7 7).2
theorem r25_8 : (release25 s25_7 7).1 = true := by decide
theorem n25_8 : s25_8.2 = 0 := by decide
set_option maxHeartbeats 1000000 in
theorem in_awake (w : World) : Calls Try.prog 43 #[] w fun e w' => e = .returned (.bool true) ∧ Below w.heap.size w w' := by
  go_enter Try.func43, Try.ntmps43
  go_wp2_with fail
  refine (own_in_new 2 (Below.refl _ _)).mono ?_
  rintro e w0 ⟨g, rfl, hd⟩
  have HD0 : Hid (OwnIn w w0 g 2 s25_0) := Lib.hid hd
  clear hd
  go_wp2_with fail
  refine (own_take HD0.out (by decide) 7 2 (by decide)).mono ?_
  rintro e w1 ⟨rfl, hd, _⟩
  rw [r25_1]
  have HD1 : Hid (OwnIn w w1 g 2 s25_1) := Lib.hid hd
  clear hd
  go_wp2_with fail
  refine (own_take HD1.out (by decide) 7 2 (by decide)).mono ?_
  rintro e w2 ⟨rfl, hd, _⟩
  rw [r25_2]
  have HD2 : Hid (OwnIn w w2 g 2 s25_2) := Lib.hid hd
  clear hd
  go_wp2_with fail
  refine (own_take HD2.out (by decide) 7 1 (by decide)).mono ?_
  rintro e w3 ⟨rfl, hd, _⟩
  rw [r25_3]
  have HD3 : Hid (OwnIn w w3 g 2 s25_3) := Lib.hid hd
  clear hd
  go_wp2_with fail
  refine (own_take HD3.out (by decide) 8 1 (by decide)).mono ?_
  rintro e w4 ⟨rfl, hd, _⟩
  rw [r25_4]
  have HD4 : Hid (OwnIn w w4 g 2 s25_4) := Lib.hid hd
  clear hd
  go_wp2_with fail
  refine (own_take HD4.out (by decide) 9 1 (by decide)).mono ?_
  rintro e w5 ⟨rfl, hd, _⟩
  rw [r25_5]
  have HD5 : Hid (OwnIn w w5 g 2 s25_5) := Lib.hid hd
  clear hd
  go_wp2_with fail
  refine (own_release HD5.out 8 (by decide)).mono ?_
  rintro e w6 ⟨rfl, hd, _⟩
  rw [r25_6]
  have HD6 : Hid (OwnIn w w6 g 2 s25_6) := Lib.hid hd
  clear hd
  go_wp2_with fail
  refine (own_done HD6.out 8 (by decide)).mono ?_
  rintro e w7 ⟨rfl, hd, _⟩
  rw [r25_7]
  have HD7 : Hid (OwnIn w w7 g 2 s25_7) := Lib.hid hd
  clear hd
  go_wp2_with fail
  refine (own_release HD7.out 7 (by decide)).mono ?_
  rintro e w8 ⟨rfl, hd, _⟩
  rw [r25_8]
  have HD8 : Hid (OwnIn w w8 g 2 s25_8) := Lib.hid hd
  clear hd
  go_wp2_with fail
  refine (own_len HD8.out).mono ?_
  rintro e w' ⟨rfl, rfl⟩
  rw [n25_8]
  go_wp2
  go_ret
  exact ⟨rfl, HD8.out.below⟩
structure Act25 where
  kind : Int
  id : Int
  qos : Int
def Acts5 (w : World) (b off len : Nat) (xs : Nat → Act25) : Prop :=
  ∀ i, i < len → w.cell? ⟨b, off + i * 3, none⟩ = some (.int .i64 (xs i).kind) ∧ w.cell? ⟨b, off + i * 3 + 1, none⟩ = some (.int .i64 (xs i).id) ∧ w.cell? ⟨b, off + i * 3 + 2, none⟩ = some (.int .i64 (xs i).qos) ∧
    (Lit.int .i64 (xs i).id).wf = true
theorem Acts5.below {w w' : World} {b off len : Nat} {xs : Nat → Act25} (h : Acts5 w b off len xs) (hb : Below w.heap.size w w') : Acts5 w' b off len xs := by
  intro i hi
  obtain ⟨h0, h1, h2, h3⟩ := h i hi
  have hlt := lt_of_cell' h0
  exact ⟨(hb.cell (p := ⟨b, _, none⟩) hlt).trans h0, (hb.cell (p := ⟨b, _, none⟩) hlt).trans h1, (hb.cell (p := ⟨b, _, none⟩) hlt).trans h2, h3⟩
def ActsOf5 (w : World) (a : Option Addr) (len : Nat) (xs : Nat → Act25) : Prop := len = 0 ∨ ∃ b off, a = some ⟨b, off, none⟩ ∧ Acts5 w b off len xs

/-- What an act does to the number that is looked at. -/
def OnceSays (s s' : Q25) (id : Int) (p : Int) (ok : Bool) : Prop :=
  (p = 1 ∧ ok = false ∧ s.1 id = 0 ∧ s'.1 id ≠ 0) ∨ (p = 2 ∧ ok = false ∧ s.1 id ≠ 0 ∧ s'.1 id = s.1 id) ∨ (p = 0 ∧ ok = true ∧ s'.1 id = 0) ∨ ((p = 0 ∨ p = 3 ∨ p = 4) ∧ ok = false ∧ s'.1 id = s.1 id)
theorem once25 (most : Int) (s : Q25) (kind id qos : Int) : OnceSays s (do25 most s kind id qos).2.2 id (do25 most s kind id qos).1 (do25 most s kind id qos).2.1 := by
  have hd : ∀ (b : Bool) (t : Q25), done25 s id = (b, t) → (b = true ∧ t.1 id = 0) ∨ (b = false ∧ t.1 id = s.1 id) := by
    intro b t h
    unfold done25 at h
    split at h
    · injection h with h1 h2; subst h1 h2; exact .inl ⟨rfl, by simp⟩
    · injection h with h1 h2; subst h1 h2; exact .inr ⟨rfl, rfl⟩
  unfold do25
  split
  · unfold take25
    split
    · exact .inr (.inr (.inr ⟨by simp, rfl, rfl⟩))
    · split
      · rename_i h0
        split
        · exact .inr (.inl ⟨rfl, rfl, h0, rfl⟩)
        · exact .inr (.inr (.inr ⟨by simp, rfl, rfl⟩))
      · rename_i hq h0
        split
        · exact .inr (.inr (.inr ⟨by simp, rfl, rfl⟩))
        · refine .inl ⟨rfl, rfl, by simpa using h0, ?_⟩
          show (if id = id then qos else s.1 id) ≠ 0
          rw [if_pos rfl]; omega
  · split
    · rcases hd _ _ rfl with ⟨h1, h2⟩ | ⟨h1, h2⟩
      · exact .inr (.inr (.inl ⟨rfl, h1, h2⟩))
      · exact .inr (.inr (.inr ⟨.inl rfl, h1, h2⟩))
    · split
      · unfold release25
        split
        · rcases hd _ _ rfl with ⟨h1, h2⟩ | ⟨h1, h2⟩
          · exact .inr (.inr (.inl ⟨rfl, h1, h2⟩))
          · exact .inr (.inr (.inr ⟨.inl rfl, h1, h2⟩))
        · exact .inr (.inr (.inr ⟨.inl rfl, rfl, rfl⟩))
      · exact .inr (.inr (.inr ⟨.inl rfl, rfl, rfl⟩))
theorem other25 (most : Int) (s : Q25) (kind id qos x : Int) (hx : x ≠ id) : (do25 most s kind id qos).2.2.1 x = s.1 x := by
  have hd : (done25 s id).2.1 x = s.1 x := by
    unfold done25
    split
    · show (if x = id then 0 else s.1 x) = s.1 x
      rw [if_neg hx]
    · rfl
  unfold do25
  split
  · unfold take25
    split
    · rfl
    · split
      · split <;> rfl
      · split
        · rfl
        · show (if x = id then qos else s.1 x) = s.1 x
          rw [if_neg hx]
  · split
    · exact hd
    · split
      · unfold release25
        split
        · exact hd
        · rfl
      · rfl
theorem len25 (most : Int) (s : Q25) (kind id qos : Int) (hs : s.2 ≤ most.toNat) : (do25 most s kind id qos).2.2.2 ≤ most.toNat ∧ (do25 most s kind id qos).2.2.2 ≤ s.2 + 1 := by
  have hd : (done25 s id).2.2 ≤ s.2 := by
    unfold done25
    split
    · show s.2 - 1 ≤ s.2; omega
    · exact Nat.le_refl _
  unfold do25
  split
  · unfold take25
    split
    · exact ⟨hs, Nat.le_succ _⟩
    · split
      · split <;> exact ⟨hs, Nat.le_succ _⟩
      · split
        · exact ⟨hs, Nat.le_succ _⟩
        · rename_i h
          refine ⟨?_, Nat.le_refl _⟩
          show s.2 + 1 ≤ most.toNat
          omega
  · split
    · exact ⟨by show (done25 s id).2.2 ≤ _; omega, by show (done25 s id).2.2 ≤ _; omega⟩
    · split
      · unfold release25
        split
        · exact ⟨by show (done25 s id).2.2 ≤ _; omega, by show (done25 s id).2.2 ≤ _; omega⟩
        · exact ⟨hs, Nat.le_succ _⟩
      · exact ⟨hs, Nat.le_succ _⟩

set_option maxHeartbeats 4000000 in
set_option maxRecDepth 100000 in
theorem once_nat (r : Nat) (hr : (r : Int) ≤ 9223372036854775807) (a : Option Addr) (len cap : Nat) (xs : Nat → Act25) (id : Int) (w : World) (hl : len ≤ maxLen) (h : ActsOf5 w a len xs) (hid : -9223372036854775808 ≤ id ∧ id ≤ 9223372036854775807) :
    Calls Try.prog 13 #[.int .i64 r, .slice a len cap, .int .i64 id] w fun x w' => x = .returned (.bool true) ∧ Below w.heap.size w w' := by
  have HA := Lib.hid h
  unfold maxLen at hl
  clear h
  by_cases hl6 : 60 < len
  · go_enter Try.func13, Try.ntmps13
    go_wp2_with fail
    refine (in_awake _).mono ?_
    rintro e w' ⟨rfl, hb⟩
    go_wp2
    go_ret
    exact ⟨rfl, hb⟩
  · go_enter Try.func13, Try.ntmps13
    go_wp2_with fail
    refine (own_in_new r (Below.refl _ _)).mono ?_
    rintro e w1 ⟨g, rfl, hd⟩
    have HD := Lib.hid hd
    clear hd
    go_wp2
    go_loopw [8, 9] (fun t i wr => ∃ (k : Nat) (s : Q25) (th : Bool), k ≤ len ∧ i = .int .i64 k ∧ t = .bool th ∧ th = decide (s.1 id ≠ 0) ∧ OwnIn w wr g r s ∧ s.2 ≤ k ∧ s.2 ≤ r) (fun _ i _ => len - (intOf i).toNat)
    case atStart => exact ⟨0, _, false, Nat.zero_le _, rfl, rfl, rfl, HD.out, Nat.le_refl _, Nat.zero_le _⟩
    case round =>
      obtain ⟨k, s, th, hk, rfl, rfl, hth, hd, hs1, hs2⟩ := hrel
      have HTH := Lib.hid hth
      clear hth
      by_cases hlt : k < len
      · obtain ⟨b, off, rfl, hac⟩ : ∃ b off, a = some ⟨b, off, none⟩ ∧ Acts5 w b off len xs := HA.out.resolve_left (by omega)
        obtain ⟨c0, c1, c2, hw⟩ := (hac.below hd.below) k hlt
        have hlen := len25 r s (xs k).kind (xs k).id (xs k).qos (by omega)
        have hon := once25 r s (xs k).kind (xs k).id (xs k).qos
        have hot := other25 r s (xs k).kind (xs k).id (xs k).qos id
        have hd2 := hd.same ((Fr.refl _ _).alloc (.cells #[.int .i64 (xs k).kind, .int .i64 (xs k).id, .int .i64 (xs k).qos] 83))
        have HC := Lib.hid (own_do25 hd2 (by omega) (xs k).kind (xs k).id (xs k).qos hw)
        have hnew := Blk.made wr 83 #[.int .i64 (xs k).kind, .int .i64 (xs k).id, .int .i64 (xs k).qos]
        have HNEW := Lib.hid hnew
        have HA0 := Lib.hid hd.at_
        have HZ := Lib.hid hd.below.size
        generalize (xs k).kind = kd at *
        generalize (xs k).id = ki at *
        generalize (xs k).qos = kq at *
        have HON := Lib.hid hon
        have HOT := Lib.hid hot
        clear hac hd hd2 hon hot hnew
        generalize do25 r s kd ki kq = q at *
        obtain ⟨p, ok, s'⟩ := q
        go_wp2_with fail
        refine (HC.out).mono ?_
        rintro e w2 ⟨rfl, hd, hk⟩
        have hb2 := hk _ _ _ HNEW.out
        have a1 := hb2.cell 1
        have HL := Lib.hid (own_len hd)
        have HD3 := Lib.hid hd
        clear hd hk hb2 c0 c1 c2
        go_wp2_with fail
        refine (HL.out).mono ?_
        rintro e w' ⟨rfl, rfl⟩
        by_cases hi : ki = id
        · subst hi
          have hon := HON.out
          clear hw
          unfold OnceSays at hon
          rcases hon with ⟨rfl, rfl, g1, g2⟩ | ⟨rfl, rfl, g1, g2⟩ | ⟨rfl, rfl, g2⟩ | ⟨gp, rfl, g2⟩
          · obtain rfl : th = false := by rw [HTH.out]; simp [g1]
            have HT2 := Lib.hid (show true = decide (s'.1 ki ≠ 0) by simp [g2])
            clear g1 g2
            go_wp2_with fail
            go_roundw
            case rel => exact ⟨k + 1, s', true, by omega, by go_num, rfl, HT2.out, HD3.out, by omega, by omega⟩
            case measure => simp [intOf]; omega
          · obtain rfl : th = true := by rw [HTH.out]; simp [g1]
            have HT2 := Lib.hid (show true = decide (s'.1 ki ≠ 0) by rw [g2]; simp [g1])
            clear g1 g2
            go_wp2_with fail
            go_roundw
            case rel => exact ⟨k + 1, s', true, by omega, by go_num, rfl, HT2.out, HD3.out, by omega, by omega⟩
            case measure => simp [intOf]; omega
          · have HT2 := Lib.hid (show false = decide (s'.1 ki ≠ 0) by simp [g2])
            clear g2
            go_wp2_with fail
            go_roundw
            case rel => exact ⟨k + 1, s', false, by omega, by go_num, rfl, HT2.out, HD3.out, by omega, by omega⟩
            case measure => simp [intOf]; omega
          · have HT2 := Lib.hid (show th = decide (s'.1 ki ≠ 0) by rw [g2]; exact HTH.out)
            clear g2
            rcases gp with rfl | rfl | rfl
            all_goals
              go_wp2_with fail
              go_roundw
              case rel => exact ⟨k + 1, s', th, by omega, by go_num, rfl, HT2.out, HD3.out, by omega, by omega⟩
              case measure => simp [intOf]; omega
        · have hne : (ki == id) = false := beq_eq_false_iff_ne.2 hi
          have hne2 : (ki != id) = true := by rw [bne_iff_ne]; exact hi
          have HT2 := Lib.hid (show th = decide (s'.1 id ≠ 0) by rw [HTH.out, HOT.out (fun e => hi e.symm)])
          clear hi hw
          go_wp2_with fail
          go_roundw
          case rel => exact ⟨k + 1, s', th, by omega, by go_num, rfl, HT2.out, HD3.out, by omega, by omega⟩
          case measure => simp [intOf]; omega
      · have HB := Lib.hid hd.below
        clear hd
        go_wp2_with fail
        refine (in_awake _).mono ?_
        rintro e w8 ⟨rfl, hb⟩
        have HB8 := Lib.hid (HB.out.trans (hb.mono HB.out.size))
        clear hb
        go_wp2
        go_ret
        exact ⟨rfl, HB8.out⟩
set_option maxHeartbeats 4000000 in
set_option maxRecDepth 100000 in
theorem once_neg (n : Int) (hneg : n < 0) (a : Option Addr) (len cap : Nat) (xs : Nat → Act25) (id : Int) (w : World) (hl : len ≤ maxLen) (h : ActsOf5 w a len xs) (hid : -9223372036854775808 ≤ id ∧ id ≤ 9223372036854775807) :
    Calls Try.prog 13 #[.int .i64 n, .slice a len cap, .int .i64 id] w fun x w' => x = .returned (.bool true) ∧ Below w.heap.size w w' := by
  have HA := Lib.hid h
  have hdn : decide (n < 0) = true := by simp; omega
  unfold maxLen at hl
  clear h
  by_cases hl6 : 60 < len
  · go_enter Try.func13, Try.ntmps13
    go_wp2_with fail
    refine (in_awake _).mono ?_
    rintro e w' ⟨rfl, hb⟩
    go_wp2
    go_ret
    exact ⟨rfl, hb⟩
  · go_enter Try.func13, Try.ntmps13
    go_wp2_with fail
    refine (own_in_new n (Below.refl _ _)).mono ?_
    rintro e w1 ⟨g, rfl, hd⟩
    have HD := Lib.hid hd
    clear hd
    go_wp2
    go_loopw [8, 9] (fun t i wr => ∃ (k : Nat) (s : Q25) (th : Bool), k ≤ len ∧ i = .int .i64 k ∧ t = .bool th ∧ th = decide (s.1 id ≠ 0) ∧ OwnIn w wr g n s ∧ s.2 ≤ k ∧ s.2 ≤ 0) (fun _ i _ => len - (intOf i).toNat)
    case atStart => exact ⟨0, _, false, Nat.zero_le _, rfl, rfl, rfl, HD.out, Nat.le_refl _, Nat.zero_le _⟩
    case round =>
      obtain ⟨k, s, th, hk, rfl, rfl, hth, hd, hs1, hs2⟩ := hrel
      have HTH := Lib.hid hth
      clear hth
      by_cases hlt : k < len
      · obtain ⟨b, off, rfl, hac⟩ : ∃ b off, a = some ⟨b, off, none⟩ ∧ Acts5 w b off len xs := HA.out.resolve_left (by omega)
        obtain ⟨c0, c1, c2, hw⟩ := (hac.below hd.below) k hlt
        have hlen := len25 n s (xs k).kind (xs k).id (xs k).qos (by omega)
        have hon := once25 n s (xs k).kind (xs k).id (xs k).qos
        have hot := other25 n s (xs k).kind (xs k).id (xs k).qos id
        have hd2 := hd.same ((Fr.refl _ _).alloc (.cells #[.int .i64 (xs k).kind, .int .i64 (xs k).id, .int .i64 (xs k).qos] 83))
        have HC := Lib.hid (own_do25 hd2 (by omega) (xs k).kind (xs k).id (xs k).qos hw)
        have hnew := Blk.made wr 83 #[.int .i64 (xs k).kind, .int .i64 (xs k).id, .int .i64 (xs k).qos]
        have HNEW := Lib.hid hnew
        have HA0 := Lib.hid hd.at_
        have HZ := Lib.hid hd.below.size
        generalize (xs k).kind = kd at *
        generalize (xs k).id = ki at *
        generalize (xs k).qos = kq at *
        have HON := Lib.hid hon
        have HOT := Lib.hid hot
        clear hac hd hd2 hon hot hnew
        generalize do25 n s kd ki kq = q at *
        obtain ⟨p, ok, s'⟩ := q
        go_wp2_with fail
        refine (HC.out).mono ?_
        rintro e w2 ⟨rfl, hd, hk⟩
        have hb2 := hk _ _ _ HNEW.out
        have a1 := hb2.cell 1
        have HL := Lib.hid (own_len hd)
        have HD3 := Lib.hid hd
        clear hd hk hb2 c0 c1 c2
        go_wp2_with fail
        refine (HL.out).mono ?_
        rintro e w' ⟨rfl, rfl⟩
        by_cases hi : ki = id
        · subst hi
          have hon := HON.out
          clear hw
          unfold OnceSays at hon
          rcases hon with ⟨rfl, rfl, g1, g2⟩ | ⟨rfl, rfl, g1, g2⟩ | ⟨rfl, rfl, g2⟩ | ⟨gp, rfl, g2⟩
          · obtain rfl : th = false := by rw [HTH.out]; simp [g1]
            have HT2 := Lib.hid (show true = decide (s'.1 ki ≠ 0) by simp [g2])
            clear g1 g2
            go_wp2_with fail
            go_roundw
            case rel => exact ⟨k + 1, s', true, by omega, by go_num, rfl, HT2.out, HD3.out, by omega, by omega⟩
            case measure => simp [intOf]; omega
          · obtain rfl : th = true := by rw [HTH.out]; simp [g1]
            have HT2 := Lib.hid (show true = decide (s'.1 ki ≠ 0) by rw [g2]; simp [g1])
            clear g1 g2
            go_wp2_with fail
            go_roundw
            case rel => exact ⟨k + 1, s', true, by omega, by go_num, rfl, HT2.out, HD3.out, by omega, by omega⟩
            case measure => simp [intOf]; omega
          · have HT2 := Lib.hid (show false = decide (s'.1 ki ≠ 0) by simp [g2])
            clear g2
            go_wp2_with fail
            go_roundw
            case rel => exact ⟨k + 1, s', false, by omega, by go_num, rfl, HT2.out, HD3.out, by omega, by omega⟩
            case measure => simp [intOf]; omega
          · have HT2 := Lib.hid (show th = decide (s'.1 ki ≠ 0) by rw [g2]; exact HTH.out)
            clear g2
            rcases gp with rfl | rfl | rfl
            all_goals
              go_wp2_with fail
              go_roundw
              case rel => exact ⟨k + 1, s', th, by omega, by go_num, rfl, HT2.out, HD3.out, by omega, by omega⟩
              case measure => simp [intOf]; omega
        · have hne : (ki == id) = false := beq_eq_false_iff_ne.2 hi
          have hne2 : (ki != id) = true := by rw [bne_iff_ne]; exact hi
          have HT2 := Lib.hid (show th = decide (s'.1 id ≠ 0) by rw [HTH.out, HOT.out (fun e => hi e.symm)])
          clear hi hw
          go_wp2_with fail
          go_roundw
          case rel => exact ⟨k + 1, s', th, by omega, by go_num, rfl, HT2.out, HD3.out, by omega, by omega⟩
          case measure => simp [intOf]; omega
      · have HB := Lib.hid hd.below
        clear hd
        go_wp2_with fail
        refine (in_awake _).mono ?_
        rintro e w8 ⟨rfl, hb⟩
        have HB8 := Lib.hid (HB.out.trans (hb.mono HB.out.size))
        clear hb
        go_wp2
        go_ret
        exact ⟨rfl, HB8.out⟩
theorem inOnce_walk (n : Int) (a : Option Addr) (len cap : Nat) (xs : Nat → Act25) (id : Int) (w : World) (hn : -9223372036854775808 ≤ n ∧ n ≤ 9223372036854775807) (hl : len ≤ maxLen) (h : ActsOf5 w a len xs) (hid : -9223372036854775808 ≤ id ∧ id ≤ 9223372036854775807) :
    Calls Try.prog 13 #[.int .i64 n, .slice a len cap, .int .i64 id] w fun x w' => x = .returned (.bool true) ∧ Below w.heap.size w w' := by
  by_cases h0 : n < 0
  · exact once_neg n h0 a len cap xs id w hl h hid
  · obtain ⟨r, rfl⟩ := Int.eq_ofNat_of_zero_le (show 0 ≤ n by omega)
    exact once_nat r hn.2 a len cap xs id w hl h hid
end Go.Proofs.Ytbicoiciapngdaa

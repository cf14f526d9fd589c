/- What is proved here: what is sure is never lost (DiskSure answers true). No conditions but those of the values themselves. -/
import Derived.Test.YtbicoiciapngdaaLawA21
namespace Go.Proofs.Ytbicoiciapngdaa
open Go.RowKit Go.Extern.Stop Go.Stop Go.Extern

structure SureSays (room : Nat) (kind : Int) (s l : List UInt8) (sure : Nat) (ok : Bool) (l' : List UInt8) (sure' : Nat) : Prop where
  len : sure ≤ l'.length
  same : l'.take sure = l.take sure
  more : sure ≤ sure'
  one : kind = 1 → ok = decide (s.length ≤ room - l.length) ∧ (ok = false → l' = l)
  three : kind = 3 → l' = l.take l'.length ∧ l'.length ≤ l.length ∧ sure' = l'.length
theorem dstep_sure {room : Nat} {kind : Int} {s : List UInt8} {k : Int} {l : List UInt8} {sure : Nat} (h4 : kind ≠ 4) (hs : sure ≤ l.length) (hr : l.length ≤ room) :
    SureSays room kind s l sure (dstep room kind s k l sure).1 (dstep room kind s k l sure).2.1 (dstep room kind s k l sure).2.2 := by
  by_cases h1 : kind = 1
  · subst h1
    unfold dstep
    rw [if_pos rfl]
    by_cases hc : l.length + s.length ≤ room
    · rw [if_pos hc]
      exact ⟨by simp; omega, by rw [List.take_append_of_le_length hs], Nat.le_refl _, fun _ => ⟨by simp; omega, fun h => by cases h⟩, fun h => by cases h⟩
    · rw [if_neg hc]
      exact ⟨hs, rfl, Nat.le_refl _, fun _ => ⟨by simp; omega, fun _ => rfl⟩, fun h => by cases h⟩
  · by_cases h2 : kind = 2
    · subst h2
      unfold dstep
      rw [if_neg (by decide), if_pos rfl]
      exact ⟨hs, rfl, hs, (fun h => absurd h h1), (fun h => absurd h (by decide))⟩
    · by_cases h3 : kind = 3
      · subst h3
        unfold dstep
        rw [if_neg (by decide), if_neg (by decide), if_pos rfl]
        have hl : (l.take (sure + min k.toNat (l.length - sure))).length = sure + min k.toNat (l.length - sure) := by rw [List.length_take]; omega
        refine ⟨by rw [hl]; omega, ?_, Nat.le_add_right _ _, (fun h => absurd h h1), fun _ => ⟨by rw [hl], by rw [hl]; omega, hl.symm⟩⟩
        rw [List.take_take]
        congr 1
        omega
      · unfold dstep
        rw [if_neg h1, if_neg h2, if_neg h3, if_neg h4]
        exact ⟨hs, rfl, Nat.le_refl _, fun h => absurd h h1, fun h => absurd h h3⟩
theorem list_extract' (t : ByteArray) (k : Nat) : (t.extract 0 k).data.toList = t.data.toList.take k := by simp [ByteArray.data_extract]
theorem disk_sure_same {w : World} {B g : Nat} {o : Option Nat} {l : List UInt8} {sure room : Nat} (h : IsDisk w B g o l sure room) :
    Calls Try.prog 26 #[.pointer (some ⟨g, 0, none⟩)] w fun e w' => e = .returned (.int .i64 sure) ∧ w' = w := by
  obtain ⟨⟨v, h1, h2, rfl⟩, h3, h4, h5⟩ := h
  have c0 := h1.cell 1
  go_enter Try.func26, Try.ntmps26
  go_wp2
  go_ret
  exact ⟨rfl, rfl⟩
theorem own_sure_same {w0 w : World} {g : Nat} {l : List UInt8} {sure room : Nat} (h : OwnDisk w0 w g l sure room) (n : Nat) :
    Calls Try.prog 26 #[.pointer (some ⟨g, 0, none⟩)] (w.drewN n) fun e w' => e = .returned (.int .i64 sure) ∧ w' = w.drewN n := by
  obtain ⟨_, _, o, hd⟩ := h
  exact disk_sure_same (hd.then ((Fr.refl _ _).drewN n))
theorem text_size (l : List UInt8) : (⟨l.toArray⟩ : ByteArray).size = l.length := by simp [ByteArray.size]
theorem text_eq {a b : ByteArray} (h : a.data.toList = b.data.toList) : a = b := by
  obtain ⟨a⟩ := a; obtain ⟨b⟩ := b
  congr 1
  exact Array.ext' h
set_option maxHeartbeats 2000000 in
set_option maxRecDepth 100000 in
theorem sure_nat (r : Nat) (hn : (r : Int) ≤ 9223372036854775807) (a : Option Addr) (len cap : Nat) (xs : Nat → Act21) (w : World) (hl : len ≤ maxLen) (h : ActsOf w a len xs) :
    Calls Try.prog 7 #[.int .i64 r, .slice a len cap] w fun x w' => x = .returned (.bool true) ∧ Below w.heap.size w w' := by
  have HF := Lib.hid (few_of (cap := cap) hl h)
  have HA := Lib.hid h
  have hnew := own_new (w := w) (r : Int) ⟨by omega, hn⟩ (Below.refl _ _)
  rw [Int.toNat_natCast] at hnew
  have HNEW := Lib.hid hnew
  clear hnew
  unfold maxLen at hl
  clear h
  go_enter Try.func7, Try.ntmps7
  go_wp2_with fail
  refine (HF.out).mono ?_
  rintro e w' ⟨f, rfl, hf, rfl⟩
  cases f with
  | false =>
    clear hf
    go_wp2_with fail
    refine (awake21 _).mono ?_
    rintro e w' ⟨rfl, hb⟩
    go_wp2
    go_ret
    exact ⟨rfl, hb⟩
  | true =>
    obtain ⟨hl4, hx⟩ := hf rfl
    have HX := Lib.hid hx
    clear hf hx
    go_wp2_with fail
    refine (HNEW.out).mono ?_
    rintro e w1 ⟨rfl, hd⟩
    have HD := Lib.hid hd
    clear hd
    go_wp2
    go_loopw [6] (fun i wr => ∃ (k : Nat) (l : List UInt8) (sure : Nat), k ≤ len ∧ i = .int .i64 k ∧ OwnDisk w wr w.heap.size l sure r ∧ l.length ≤ k * 100) (fun i _ => len - (intOf i).toNat)
    case atStart => exact ⟨0, [], 0, Nat.zero_le _, rfl, HD.out, by simp⟩
    case round =>
      obtain ⟨k, l, sure, hk, rfl, hd, hll⟩ := hrel
      have hle := own_le hd
      by_cases hlt : k < len
      · obtain ⟨b, off, rfl, hac⟩ : ∃ b off, a = some ⟨b, off, none⟩ ∧ Acts w b off len xs := HA.out.resolve_left (by omega)
        obtain ⟨c0, c1, c2, hm, hk1, hk2⟩ := (hac.below hd.below) k hlt
        have hsz := HX.out k hlt
        have hdl := dstep_len r (xs k).kind (xs k).s.data.toList (xs k).keep l sure
        rw [size_bytes] at hdl
        by_cases h4 : (xs k).kind = 4
        · have q4 : ((xs k).kind == 4) = true := by rw [h4]; rfl
          have HB := Lib.hid hd.below
          clear hd h4 hac
          go_wp2_with fail
          refine (awake21 _).mono ?_
          rintro e w8 ⟨rfl, hb⟩
          have HB8 := Lib.hid (HB.out.trans (hb.mono HB.out.size))
          clear hb
          go_wp2
          go_ret
          exact ⟨rfl, HB8.out⟩
        · have q4 : ((xs k).kind == 4) = false := beq_eq_false_iff_ne.2 h4
          have hss := dstep_sure (s := (xs k).s.data.toList) (k := (xs k).keep) h4 hle.1 hle.2.1
          have HSS := Lib.hid hss
          have HC0 := Lib.hid (own_bytes hd)
          have HAC := Lib.hid hac
          clear hac hd hss h4
          go_wp2_with fail
          clear c0 c1 c2
          refine (HC0.out).mono ?_
          rintro e w2 ⟨rfl, hd⟩
          have HC1 := Lib.hid (own_sure hd)
          clear hd
          go_wp2_with fail
          refine (HC1.out).mono ?_
          rintro e w3 ⟨rfl, hd⟩
          obtain ⟨c0, c1, c2, _⟩ := (HAC.out.below hd.below) k hlt
          have HC2 := Lib.hid (own_do hd (xs k).kind (xs k).keep (xs k).s ⟨hk1, hk2⟩ (by omega))
          clear hd
          generalize dstep r (xs k).kind (xs k).s.data.toList (xs k).keep l sure = q at *
          obtain ⟨ok, l', sure'⟩ := q
          go_wp2_with fail
          refine (HC2.out).mono ?_
          rintro e w4 ⟨rfl, hd⟩
          have hle' := own_le hd
          have HC3 := Lib.hid (own_bytes hd)
          clear hd c0 c1 c2
          go_wp2_with fail
          refine (HC3.out).mono ?_
          rintro e w5 ⟨rfl, hd⟩
          obtain ⟨c0, c1, c2, _⟩ := (HAC.out.below hd.below) k hlt
          have HD5 := Lib.hid hd
          obtain ⟨s1, s2, s3, s4, s5⟩ := HSS.out
          have z1 := text_size l
          have z2 := text_size l'
          have x1 : (⟨l'.toArray⟩ : ByteArray).extract 0 sure = (⟨l.toArray⟩ : ByteArray).extract 0 sure := text_eq (by rw [list_extract', list_extract']; exact s2)
          have S4 := Lib.hid s4
          have S5 := Lib.hid s5
          clear s4 s5 s2 hd
          have QS := Lib.hid (own_sure_same HD5.out)
          obtain ⟨t, ht⟩ : ∃ t, t = (⟨l.toArray⟩ : ByteArray) := ⟨_, rfl⟩
          obtain ⟨t', ht'⟩ : ∃ t, t = (⟨l'.toArray⟩ : ByteArray) := ⟨_, rfl⟩
          rw [← ht, ← ht'] at x1
          rw [← ht] at z1
          rw [← ht'] at z2
          rw [← ht, ← ht']
          have HT := Lib.hid ht
          have HT' := Lib.hid ht'
          clear ht ht'
          have y1 : t.size ≤ l.length := by omega
          have y2 : l.length ≤ t.size := by omega
          have y3 : t'.size ≤ l'.length := by omega
          have y4 : l'.length ≤ t'.size := by omega
          clear z1 z2
          have d1 : decide (t.size < sure) = false := by simp; omega
          have d2 : decide (t'.size < sure) = false := by simp; omega
          have d4 : decide (sure' < sure) = false := by simp; omega
          have d5 : decide (t'.size < sure') = false := by simp; omega
          have d6 : decide (r < t'.size) = false := by simp; omega
          go_wp2_with fail
          go_quiet ((go_at_call 26; exact Calls.quiet_of_same (QS.out _)))
          by_cases h1 : (xs k).kind = 1
          · have q1 : ((xs k).kind == 1) = true := by rw [h1]; rfl
            have q3 : ((xs k).kind == 3) = false := by rw [h1]; rfl
            obtain ⟨g1, g2⟩ := S4.out h1
            rw [size_bytes] at g1
            clear h1
            cases ok with
            | true =>
              have hdec : decide (((xs k).s.size : Int) ≤ (r : Int) - (t.size : Int)) = true := by
                have : (xs k).s.size ≤ r - l.length := by simpa using g1.symm
                simp; omega
              clear g1 g2
              go_wp2_with fail
              go_roundw
              case rel => exact ⟨k + 1, _, _, by omega, by go_num, HD5.out.read ((Fr.refl _ _).drewN _), by omega⟩
              case measure => simp [intOf]; omega
            | false =>
              have hdec : decide (((xs k).s.size : Int) ≤ (r : Int) - (t.size : Int)) = false := by
                have : ¬ (xs k).s.size ≤ r - l.length := by simpa using g1.symm
                simp; omega
              have hteq : t' = t := by rw [HT.out, HT'.out, g2 rfl]
              clear g1 g2
              go_wp2_with fail
              go_roundw
              case rel => exact ⟨k + 1, _, _, by omega, by go_num, HD5.out.read ((Fr.refl _ _).drewN _), by omega⟩
              case measure => simp [intOf]; omega
          · have q1 : ((xs k).kind == 1) = false := beq_eq_false_iff_ne.2 h1
            by_cases h3 : (xs k).kind = 3
            · have q3 : ((xs k).kind == 3) = true := by rw [h3]; rfl
              obtain ⟨g1, g2, g3⟩ := S5.out h3
              have hx2 : t.extract 0 t'.size = t' := text_eq (by
                rw [list_extract', HT.out, HT'.out, text_size]
                exact g1.symm)
              have hdec : decide (t.size < t'.size) = false := by simp; omega
              have hsz' : sure' = t'.size := by omega
              have hd6 := HD5.out.read ((Fr.refl [] _).drewN nq)
              rw [hsz'] at hd6
              have HC6 := Lib.hid (own_sure hd6)
              have g4 : t'.size ≤ t.size := by omega
              clear h1 h3 g1 g3 hsz' hd6
              go_wp2_with fail
              refine (HC6.out).mono ?_
              rintro e w6 ⟨rfl, hd⟩
              have HD6 := Lib.hid hd
              clear hd
              go_wp2_with fail
              go_roundw
              case rel => exact ⟨k + 1, _, _, by omega, by go_num, HD6.out, by omega⟩
              case measure => simp [intOf]; omega
            · have q3 : ((xs k).kind == 3) = false := beq_eq_false_iff_ne.2 h3
              clear h1 h3
              go_wp2_with fail
              go_roundw
              case rel => exact ⟨k + 1, _, _, by omega, by go_num, HD5.out.read ((Fr.refl _ _).drewN _), by omega⟩
              case measure => simp [intOf]; omega
      · have HB := Lib.hid hd.below
        clear hd
        go_wp2_with fail
        refine (awake21 _).mono ?_
        rintro e w8 ⟨rfl, hb⟩
        have HB8 := Lib.hid (HB.out.trans (hb.mono HB.out.size))
        clear hb
        go_wp2
        go_ret
        exact ⟨rfl, HB8.out⟩
theorem dstep_zero {kind : Int} {s : List UInt8} {k : Int} (h4 : kind ≠ 4) : dstep 0 kind s k [] 0 = (decide (kind = 1 ∧ s.length = 0), [], 0) := by
  unfold dstep
  by_cases h1 : kind = 1
  · subst h1
    by_cases hs : s.length = 0
    · obtain rfl := List.eq_nil_of_length_eq_zero hs
      simp
    · simp only [if_true, List.length_nil, Nat.zero_add]
      rw [if_neg (by omega)]
      simp [hs]
  · by_cases h2 : kind = 2
    · subst h2; simp
    · by_cases h3 : kind = 3
      · subst h3; simp
      · simp [h1, h2, h3, h4]
set_option maxHeartbeats 2000000 in
set_option maxRecDepth 100000 in
theorem sure_neg (n : Int) (hn : -9223372036854775808 ≤ n) (hneg : n < 0) (a : Option Addr) (len cap : Nat) (xs : Nat → Act21) (w : World) (hl : len ≤ maxLen) (h : ActsOf w a len xs) :
    Calls Try.prog 7 #[.int .i64 n, .slice a len cap] w fun x w' => x = .returned (.bool true) ∧ Below w.heap.size w w' := by
  have HF := Lib.hid (few_of (cap := cap) hl h)
  have HA := Lib.hid h
  have hnew := own_new (w := w) n ⟨by omega, by omega⟩ (Below.refl _ _)
  rw [show n.toNat = 0 by omega] at hnew
  have HNEW := Lib.hid hnew
  have hdn : decide (n < 0) = true := by simp; omega
  clear hnew
  unfold maxLen at hl
  clear h
  go_enter Try.func7, Try.ntmps7
  go_wp2_with fail
  refine (HF.out).mono ?_
  rintro e w' ⟨f, rfl, hf, rfl⟩
  cases f with
  | false =>
    clear hf
    go_wp2_with fail
    refine (awake21 _).mono ?_
    rintro e w' ⟨rfl, hb⟩
    go_wp2
    go_ret
    exact ⟨rfl, hb⟩
  | true =>
    obtain ⟨hl4, hx⟩ := hf rfl
    have HX := Lib.hid hx
    clear hf hx
    go_wp2_with fail
    refine (HNEW.out).mono ?_
    rintro e w1 ⟨rfl, hd⟩
    have HD := Lib.hid hd
    clear hd
    go_wp2
    go_loopw [6] (fun i wr => ∃ (k : Nat), k ≤ len ∧ i = .int .i64 k ∧ OwnDisk w wr w.heap.size [] 0 0) (fun i _ => len - (intOf i).toNat)
    case atStart => exact ⟨0, Nat.zero_le _, rfl, HD.out⟩
    case round =>
      obtain ⟨k, hk, rfl, hd⟩ := hrel
      by_cases hlt : k < len
      · obtain ⟨b, off, rfl, hac⟩ : ∃ b off, a = some ⟨b, off, none⟩ ∧ Acts w b off len xs := HA.out.resolve_left (by omega)
        obtain ⟨c0, c1, c2, hm, hk1, hk2⟩ := (hac.below hd.below) k hlt
        have hsz := HX.out k hlt
        by_cases h4 : (xs k).kind = 4
        · have q4 : ((xs k).kind == 4) = true := by rw [h4]; rfl
          have HB := Lib.hid hd.below
          clear hd h4 hac
          go_wp2_with fail
          refine (awake21 _).mono ?_
          rintro e w8 ⟨rfl, hb⟩
          have HB8 := Lib.hid (HB.out.trans (hb.mono HB.out.size))
          clear hb
          go_wp2
          go_ret
          exact ⟨rfl, HB8.out⟩
        · have q4 : ((xs k).kind == 4) = false := beq_eq_false_iff_ne.2 h4
          have HZ := Lib.hid (dstep_zero (s := (xs k).s.data.toList) (k := (xs k).keep) h4)
          have HC0 := Lib.hid (own_bytes hd)
          have HAC := Lib.hid hac
          clear hac hd h4
          go_wp2_with fail
          clear c0 c1 c2
          refine (HC0.out).mono ?_
          rintro e w2 ⟨rfl, hd⟩
          have HC1 := Lib.hid (own_sure hd)
          clear hd
          go_wp2_with fail
          refine (HC1.out).mono ?_
          rintro e w3 ⟨rfl, hd⟩
          obtain ⟨c0, c1, c2, _⟩ := (HAC.out.below hd.below) k hlt
          have hdo := own_do hd (xs k).kind (xs k).keep (xs k).s ⟨hk1, hk2⟩ (by show 0 + _ ≤ _; omega)
          rw [HZ.out, size_bytes] at hdo
          have HC2 := Lib.hid hdo
          clear hd hdo
          obtain ⟨ok, hok⟩ : ∃ ok, ok = decide ((xs k).kind = 1 ∧ (xs k).s.size = 0) := ⟨_, rfl⟩
          rw [← hok] at HC2
          have HOK := Lib.hid hok
          clear hok
          go_wp2_with fail
          refine (HC2.out).mono ?_
          rintro e w4 ⟨rfl, hd⟩
          have HC3 := Lib.hid (own_bytes hd)
          clear hd c0 c1 c2
          go_wp2_with fail
          refine (HC3.out).mono ?_
          rintro e w5 ⟨rfl, hd⟩
          obtain ⟨c0, c1, c2, _⟩ := (HAC.out.below hd.below) k hlt
          have HD5 := Lib.hid hd
          clear hd
          have QS := Lib.hid (own_sure_same HD5.out)
          go_wp2_with fail
          go_quiet ((go_at_call 26; exact Calls.quiet_of_same (QS.out _)))
          by_cases h1 : (xs k).kind = 1
          · have q1 : ((xs k).kind == 1) = true := by rw [h1]; rfl
            have q3 : ((xs k).kind == 3) = false := by rw [h1]; rfl
            by_cases hs0 : (xs k).s.size = 0
            · have hok : ok = true := by rw [HOK.out]; simp [h1, hs0]
              subst hok
              have hs1 : decide ((xs k).s = ByteArray.empty) = true := by simpa using hs0
              clear h1 hs0
              go_wp2_with fail
              go_roundw
              case rel => exact ⟨k + 1, by omega, by go_num, HD5.out.read ((Fr.refl _ _).drewN _)⟩
              case measure => simp [intOf]; omega
            · have hok : ok = false := by rw [HOK.out]; simp [hs0]
              subst hok
              have hs1 : decide ((xs k).s = ByteArray.empty) = false := by simpa using hs0
              clear h1 hs0
              go_wp2_with fail
              go_roundw
              case rel => exact ⟨k + 1, by omega, by go_num, HD5.out.read ((Fr.refl _ _).drewN _)⟩
              case measure => simp [intOf]; omega
          · have q1 : ((xs k).kind == 1) = false := beq_eq_false_iff_ne.2 h1
            by_cases h3 : (xs k).kind = 3
            · have q3 : ((xs k).kind == 3) = true := by rw [h3]; rfl
              have hd6 := HD5.out.read ((Fr.refl [] _).drewN nq)
              have HC6 := Lib.hid (own_sure hd6)
              clear h1 h3 hd6
              go_wp2_with fail
              refine (HC6.out).mono ?_
              rintro e w6 ⟨rfl, hd⟩
              have HD6 := Lib.hid hd
              clear hd
              go_wp2_with fail
              go_roundw
              case rel => exact ⟨k + 1, by omega, by go_num, HD6.out⟩
              case measure => simp [intOf]; omega
            · have q3 : ((xs k).kind == 3) = false := beq_eq_false_iff_ne.2 h3
              clear h1 h3
              go_wp2_with fail
              go_roundw
              case rel => exact ⟨k + 1, by omega, by go_num, HD5.out.read ((Fr.refl _ _).drewN _)⟩
              case measure => simp [intOf]; omega
      · have HB := Lib.hid hd.below
        clear hd
        go_wp2_with fail
        refine (awake21 _).mono ?_
        rintro e w8 ⟨rfl, hb⟩
        have HB8 := Lib.hid (HB.out.trans (hb.mono HB.out.size))
        clear hb
        go_wp2
        go_ret
        exact ⟨rfl, HB8.out⟩
theorem diskSure_walk (n : Int) (a : Option Addr) (len cap : Nat) (xs : Nat → Act21) (w : World) (hn : -9223372036854775808 ≤ n ∧ n ≤ 9223372036854775807) (hl : len ≤ maxLen) (h : ActsOf w a len xs) :
    Calls Try.prog 7 #[.int .i64 n, .slice a len cap] w fun x w' => x = .returned (.bool true) ∧ Below w.heap.size w w' := by
  by_cases h0 : n < 0
  · exact sure_neg n hn.1 h0 a len cap xs w hl h
  · obtain ⟨r, rfl⟩ := Int.eq_ofNat_of_zero_le (show 0 ≤ n by omega)
    exact sure_nat r hn.2 a len cap xs w hl h
end Go.Proofs.Ytbicoiciapngdaa

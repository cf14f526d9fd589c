/- What is proved here: package pids is awake; what is freed last comes last (PidsLast answers true). No conditions but those of the values themselves. -/
import Derived.Test.YtbicoiciapngdaaPidsW23
namespace Go.Proofs.Ytbicoiciapngdaa
open Go.RowKit Go.Extern.Stop Go.Stop Go.Extern Go.Maps

def m23_0 : Int → Bool := fun _ => false
def m23_1 : Int → Bool := onB m23_0 1
def m23_2 : Int → Bool := onB m23_1 2
def m23_3 : Int → Bool := offB m23_2 1
def m23_4 : Int → Bool := onB m23_3 3
def m23_5 : Int → Bool := onB m23_4 1
theorem s23_0 : scan m23_0 3 0 3 0 = some 1 := by decide
theorem s23_1 : scan m23_1 3 1 3 0 = some 2 := by decide
theorem s23_2 : m23_2 1 = true := by decide
theorem s23_3 : scan m23_3 3 2 3 0 = some 3 := by decide
theorem s23_4 : scan m23_4 3 3 3 0 = some 1 := by decide
theorem s23_5 : scan m23_5 3 1 3 0 = none := by decide
theorem s23_6 : m23_5 2 = true := by decide
set_option maxHeartbeats 1000000 in
theorem pids_awake (w : World) : Calls Try.prog 31 #[] w fun e w' => e = .returned (.bool true) ∧ Below w.heap.size w w' := by
  go_enter Try.func31, Try.ntmps31
  go_wp2_with fail
  refine (own_pnew 3 3 (.inr (.inl ⟨rfl, by omega⟩)) (Below.refl _ _)).mono ?_
  rintro e w0 ⟨g, rfl, hd⟩
  have HD0 : Hid (OwnPids w w0 g 3 0 m23_0 0) := Lib.hid hd
  clear hd
  go_wp2_with fail
  refine (own_pnext HD0.out s23_0).mono ?_
  rintro e w1 ⟨rfl, hd, _⟩
  have HD1 : Hid (OwnPids w w1 g 3 1 m23_1 1) := Lib.hid hd
  clear hd
  go_wp2_with fail
  refine (own_pnext HD1.out s23_1).mono ?_
  rintro e w2 ⟨rfl, hd, _⟩
  have HD2 : Hid (OwnPids w w2 g 3 2 m23_2 2) := Lib.hid hd
  clear hd
  go_wp2_with fail
  have hfr := own_pfree HD2.out 1 (by decide)
  rw [s23_2] at hfr
  refine (hfr).mono ?_
  clear hfr
  rintro e w3 ⟨rfl, hd, _⟩
  have HD3 : Hid (OwnPids w w3 g 3 2 m23_3 1) := Lib.hid hd
  clear hd
  go_wp2_with fail
  refine (own_pnext HD3.out s23_3).mono ?_
  rintro e w4 ⟨rfl, hd, _⟩
  have HD4 : Hid (OwnPids w w4 g 3 3 m23_4 2) := Lib.hid hd
  clear hd
  go_wp2_with fail
  refine (own_pnext HD4.out s23_4).mono ?_
  rintro e w5 ⟨rfl, hd, _⟩
  have HD5 : Hid (OwnPids w w5 g 3 1 m23_5 3) := Lib.hid hd
  clear hd
  go_wp2_with fail
  refine (own_pnext_no HD5.out s23_5).mono ?_
  rintro e w6 ⟨rfl, hd, _⟩
  have HD6 := Lib.hid hd
  clear hd
  go_wp2_with fail
  refine (own_plen HD6.out).mono ?_
  rintro e w' ⟨rfl, rfl⟩
  go_wp2_with fail
  have hi := own_pis HD6.out 2 (by decide)
  rw [s23_6] at hi
  refine hi.mono ?_
  clear hi
  rintro e w7 ⟨rfl, hd, _⟩
  have HD7 := Lib.hid hd
  clear hd
  go_wp2_with fail
  refine (own_puse_no HD7.out 4 (by decide) (by omega)).mono ?_
  rintro e w8 ⟨rfl, hd, _⟩
  have HD8 := Lib.hid hd.below
  clear hd
  go_wp2
  go_ret
  exact ⟨rfl, HD8.out⟩
structure Act23 where
  kind : Int
  id : Int
def Acts3 (w : World) (b off len : Nat) (xs : Nat → Act23) : Prop :=
  ∀ i, i < len → w.cell? ⟨b, off + i * 2, none⟩ = some (.int .i64 (xs i).kind) ∧ w.cell? ⟨b, off + i * 2 + 1, none⟩ = some (.int .i64 (xs i).id) ∧ (Lit.int .i64 (xs i).id).wf = true
theorem Acts3.below {w w' : World} {b off len : Nat} {xs : Nat → Act23} (h : Acts3 w b off len xs) (hb : Below w.heap.size w w') : Acts3 w' b off len xs := by
  intro i hi
  obtain ⟨h0, h1, h3⟩ := h i hi
  have hlt := lt_of_cell' h0
  exact ⟨(hb.cell (p := ⟨b, _, none⟩) hlt).trans h0, (hb.cell (p := ⟨b, _, none⟩) hlt).trans h1, h3⟩
def ActsOf3 (w : World) (a : Option Addr) (len : Nat) (xs : Nat → Act23) : Prop := len = 0 ∨ ∃ b off, a = some ⟨b, off, none⟩ ∧ Acts3 w b off len xs
theorem on_same (m : Int → Bool) (x : Int) : onB m x x = true := by unfold onB; simp
theorem off_same (m : Int → Bool) (x : Int) : offB m x x = false := by unfold offB; simp
set_option maxHeartbeats 4000000 in
set_option maxRecDepth 100000 in
theorem last_any (k0 : Nat) (hk0 : k0 ≤ 255) (a : Option Addr) (len cap : Nat) (xs : Nat → Act23) (w : World) (hl : len ≤ maxLen) (h : ActsOf3 w a len xs) :
    Calls Try.prog 11 #[.int .u8 k0, .slice a len cap] w fun x w' => x = .returned (.bool true) ∧ Below w.heap.size w w' := by
  have HA := Lib.hid h
  unfold maxLen at hl
  clear h
  by_cases hl6 : 60 < len
  · go_enter Try.func11, Try.ntmps11
    go_wp2_with fail
    refine (pids_awake _).mono ?_
    rintro e w' ⟨rfl, hb⟩
    go_wp2
    go_ret
    exact ⟨rfl, hb⟩
  · go_enter Try.func11, Try.ntmps11
    go_wp2_with fail
    refine (own_pnew (k0 : Int) k0 (.inr (.inl ⟨rfl, by omega⟩)) (Below.refl _ _)).mono ?_
    rintro e w1 ⟨g, rfl, hd⟩
    have HD := Lib.hid hd
    clear hd
    go_wp2
    go_loopw [6] (fun i wr => ∃ (k : Nat) (last n : Nat) (m : Int → Bool), k ≤ len ∧ i = .int .i64 k ∧ OwnPids w wr g k0 last m n) (fun i _ => len - (intOf i).toNat)
    case atStart => exact ⟨0, _, _, _, Nat.zero_le _, rfl, HD.out⟩
    case round =>
      obtain ⟨k, last, n, m, hk, rfl, hd⟩ := hrel
      by_cases hlt : k < len
      · obtain ⟨b, off, rfl, hac⟩ : ∃ b off, a = some ⟨b, off, none⟩ ∧ Acts3 w b off len xs := HA.out.resolve_left (by omega)
        obtain ⟨c0, c1, hw⟩ := (hac.below hd.below) k hlt
        have HC := Lib.hid (own_do23 hd (xs k).kind (xs k).id hw)
        clear hac hd hw
        go_wp2_with fail
        refine (HC.out).mono ?_
        rintro e w2 ⟨rfl, hd, _⟩
        have HD3 := Lib.hid hd
        clear hd
        go_wp2_with fail
        go_roundw
        case rel => exact ⟨k + 1, _, _, _, by omega, by go_num, HD3.out⟩
        case measure => simp [intOf]; omega
      · have hok := hd.is.ok
        have hnn := next_none hok
        cases hs : scan m k0 last k0 0 with
        | none =>
          have hn : n = k0 := hnn.1 hs
          subst hn
          have HC := Lib.hid (own_pnext_no hd hs)
          clear hd hs hok hnn
          go_wp2_with fail
          refine (HC.out).mono ?_
          rintro e w2 ⟨rfl, hd, _⟩
          have HL := Lib.hid (own_plen hd)
          have HB := Lib.hid hd.below
          clear hd
          go_wp2_with fail
          refine (HL.out).mono ?_
          rintro e w' ⟨rfl, rfl⟩
          go_wp2_with fail
          refine (pids_awake _).mono ?_
          rintro e w8 ⟨rfl, hb⟩
          have HB8 := Lib.hid (HB.out.trans (hb.mono HB.out.size))
          clear hb
          go_wp2
          go_ret
          exact ⟨rfl, HB8.out⟩
        | some x =>
          obtain ⟨j, _, _, hxj, hmx, _⟩ := scan_some hs
          have hne : n ≠ k0 := fun e => by rw [hnn.2 e] at hs; cases hs
          have hxr := (cand_in (last := last) (i := j) (most := k0) (by omega))
          rw [← hxj] at hxr
          have hxw : (Lit.int .i64 (x : Nat)).wf = true := WalkArith.wf_i64 (by omega)
          have HC := Lib.hid (own_pnext hd hs)
          clear hd hs hok hnn hxj hmx
          go_wp2_with fail
          refine (HC.out).mono ?_
          rintro e w2 ⟨rfl, hd, _⟩
          have hf := own_pfree hd (x : Int) hxw
          rw [on_same, if_pos rfl, if_pos rfl, Nat.add_sub_cancel] at hf
          have HF := Lib.hid hf
          clear hf hd
          go_wp2_with fail
          refine (HF.out).mono ?_
          rintro e w3 ⟨rfl, hd, _⟩
          have hok2 := hd.is.ok
          have hnn2 := next_none hok2
          cases hs2 : scan (offB (onB m x) x) k0 x k0 0 with
          | none => exact absurd (hnn2.1 hs2) hne
          | some y =>
            have hlc := last_comes hok2 hxr.1 (off_same _ _) hs2
            have HC2 := Lib.hid (own_pnext hd hs2)
            clear hd hs2 hok2 hnn2
            go_wp2_with fail
            refine (HC2.out).mono ?_
            rintro e w4 ⟨rfl, hd, _⟩
            have HL := Lib.hid (own_plen hd)
            have HB := Lib.hid hd.below
            clear hd
            by_cases hyx : y = x
            · have hn1 := hlc.1 hyx
              have e1 : ((y : Int) == (x : Int)) = true := beq_iff_eq.2 (by omega)
              have e2 : (((n + 1 : Nat) : Int) == (k0 : Int)) = true := beq_iff_eq.2 (by omega)
              clear hyx hn1 hlc
              generalize n + 1 = n1 at *
              go_wp2_with fail
              refine (HL.out).mono ?_
              rintro e w' ⟨rfl, rfl⟩
              go_wp2_with fail
              refine (pids_awake _).mono ?_
              rintro e w8 ⟨rfl, hb⟩
              have HB8 := Lib.hid (HB.out.trans (hb.mono HB.out.size))
              clear hb
              go_wp2
              go_ret
              exact ⟨rfl, HB8.out⟩
            · have hn1 : n + 1 ≠ k0 := fun e => hyx (hlc.2 e)
              have e1 : ((y : Int) == (x : Int)) = false := beq_eq_false_iff_ne.2 (by omega)
              have e2 : (((n + 1 : Nat) : Int) == (k0 : Int)) = false := beq_eq_false_iff_ne.2 (by omega)
              clear hyx hn1 hlc
              generalize n + 1 = n1 at *
              go_wp2_with fail
              refine (HL.out).mono ?_
              rintro e w' ⟨rfl, rfl⟩
              go_wp2_with fail
              refine (pids_awake _).mono ?_
              rintro e w8 ⟨rfl, hb⟩
              have HB8 := Lib.hid (HB.out.trans (hb.mono HB.out.size))
              clear hb
              go_wp2
              go_ret
              exact ⟨rfl, HB8.out⟩
theorem pidsLast_walk (n : Int) (a : Option Addr) (len cap : Nat) (xs : Nat → Act23) (w : World) (hn : (Lit.int .u8 n).wf = true) (hl : len ≤ maxLen) (h : ActsOf3 w a len xs) :
    Calls Try.prog 11 #[.int .u8 n, .slice a len cap] w fun x w' => x = .returned (.bool true) ∧ Below w.heap.size w w' := by
  have hn' : 0 ≤ n ∧ n ≤ 255 := by simpa [Lit.wf, IntKind.min, IntKind.max, IntKind.signed, IntKind.bits] using hn
  obtain ⟨k, rfl⟩ := Int.eq_ofNat_of_zero_le hn'.1
  exact last_any k (by omega) a len cap xs w hl h
end Go.Proofs.Ytbicoiciapngdaa

/- What is proved here: LaneMoves answers true for every items, place and client. Condition: the argument is what a row says of it. -/
import Derived.Test.YtkjghlmlfanafaaAwk33
namespace Go.Proofs.Ytkjghlmlfanafaa
open Go.RowKit Go.Extern.Stop Go.Stop Go.Extern Go.Maps
section
variable {w : World} {A : Option Addr} {L : IL}
theorem ItemsOf.below {w' : World} (h : ItemsOf w A L) (hb : Below w.heap.size w w') : ItemsOf w' A L := ⟨h.1.below hb, fun k hk => ⟨(h.2 k hk).1.below hb, (h.2 k hk).2⟩⟩
theorem may_true {at_ : Int} {client : ByteArray} (h : mayB L at_ client = true) : ∃ a : Nat, at_ = a ∧ a < L.length ∧ (L.getD a i0).w = true ∧ ∀ i, i < L.length → badI L (L.getD a i0).topic a client i = false := by
  by_cases h1 : at_ < 0 ∨ (L.length : Int) ≤ at_
  · rw [mayB_out h1] at h; cases h
  · obtain ⟨a, rfl⟩ : ∃ a : Nat, at_ = (a : Int) := ⟨at_.toNat, by omega⟩
    have hl : a < L.length := by omega
    rw [mayB_in hl, Bool.and_eq_true, List.all_eq_true] at h
    refine ⟨a, rfl, hl, h.1, fun i hi => ?_⟩
    have := h.2 i (List.mem_range.2 hi)
    simpa using this
theorem own_client {a : Nat} {client : ByteArray} (h : ∀ i, i < L.length → badI L (L.getD a i0).topic a client i = false) : (ownS L (L.getD a i0).topic).2 = false ∨ (ownS L (L.getD a i0).topic).1 = client := by
  unfold ownS
  cases hf : fstI IV.s L (L.getD a i0).topic with
  | none => exact .inl rfl
  | some j =>
    right
    obtain ⟨i, rfl, hi, ht, hs, _⟩ := fstI_some hf
    have hb := h i hi
    unfold badI at hb
    unfold IV.s at hs
    have hw : (L.getD i i0).w = false := by simpa using hs
    rw [decide_eq_true ht, hw] at hb
    simpa using hb
theorem with_no {a : Nat} (ha : a < L.length) (client : ByteArray) : mayB (withL L (a : Int) ⟨#[122]⟩ L.length) (a : Int) client = false := by
  rw [mayB_in (by rw [withL_len]; exact ha), withL_get L _ _ ha, if_pos rfl]
  have : ((L.getD a i0).to ⟨#[122]⟩).w = false := by
    rw [w_eq]
    rfl
  rw [this]
  rfl
set_option maxHeartbeats 1000000 in
set_option maxRecDepth 10000 in
theorem laneMoves_core (A : Option Addr) (n c : Nat) (L : IL) (at_ : Int) (client : ByteArray) (w : World) (hn : n = L.length) (hnz : n ≤ maxLen) (ha : ItemsOf w A L) : Calls Try.prog 12 #[.slice A n c, .int .i64 at_, .string client] w fun x w' => x = .returned (.bool true) ∧ Below w.heap.size w w' := by
  unfold maxLen at hnz
  have CA := Lib.hid awake33
  have W1 := Lib.hid (few33_any n c ha hn hnz)
  have HA := Lib.hid ha
  have HN := Lib.hid hn
  have hend := fun (W : World) (hl : Ltr w W) => (awake33 W).mono fun x w' hx => show x = .returned (.bool true) ∧ Ltr w w' from ⟨hx.1, hl.next hx.2⟩
  have HEND := Lib.hid hend
  clear ha hn hend
  go_enter Try.func12, Try.ntmps12
  go_wp2_with fail
  refine W1.out.mono ?_
  rintro x w1 ⟨b, rfl, hb2, hb1⟩
  have HB1 := Lib.hid (show Ltr w w1 from hb1)
  clear W1 hb1
  cases b with
  | false =>
    clear hb2
    go_wp2_with fail
    refine (HEND.out _ HB1.out).mono ?_
    rintro x w2 ⟨rfl, hl⟩
    have HL := Lib.hid hl
    clear hl
    go_wp2_with fail
    go_ret
    exact ⟨rfl, HL.out⟩
  | true =>
    obtain ⟨hn20, hz⟩ := hb2 rfl
    have hn20' : n ≤ 20 := by have := HN.out; omega
    have HZ := Lib.hid (fun m hm => Nat.le_trans (hz m hm) (by omega : 200 ≤ 1000))
    clear hb2 hn20 hz
    by_cases hcl : 100 < client.size
    · go_wp2_with fail
      refine (HEND.out _ HB1.out).mono ?_
      rintro x w2 ⟨rfl, hl⟩
      have HL := Lib.hid hl
      clear hl
      go_wp2_with fail
      go_ret
      exact ⟨rfl, HL.out⟩
    · have hcl' : client.size ≤ 100 := by omega
      clear hcl
      have hR := HA.out.below HB1.out
      have CM := Lib.hid (may_lane (c := c) hR.1 n HN.out (by omega) at_ client)
      clear hR
      go_wp2_with fail
      refine CM.out.mono ?_
      rintro x w2 ⟨rfl, hb⟩
      have HB2 := Lib.hid (show Ltr w w2 from HB1.out.next hb)
      clear hb CM
      cases hmay : mayB L at_ client with
      | false =>
        clear hmay
        go_wp2_with fail
        refine (HEND.out _ HB2.out).mono ?_
        rintro x w3 ⟨rfl, hl⟩
        have HL := Lib.hid hl
        clear hl
        go_wp2_with fail
        go_ret
        exact ⟨rfl, HL.out⟩
      | true =>
        obtain ⟨a, rfl, haL, hw, hall⟩ := may_true hmay
        have hown := own_client hall
        have hno := with_no haL client
        have hR2 := HA.out.below HB2.out
        obtain ⟨g1, off, rfl, hcc⟩ := hR2.1 (by omega)
        have c0 := (hcc a haL).c0
        have hsz : (L.getD a i0).topic.size ≤ 1000 := by
          refine HZ.out _ ?_
          rw [List.getD_eq_getElem?_getD, List.getElem?_eq_getElem haL]
          exact List.getElem_mem _
        have han : a < n := by have := HN.out; omega
        obtain ⟨key, hkey⟩ : ∃ key, key = (L.getD a i0).topic := ⟨_, rfl⟩
        rw [← hkey] at c0 hsz hown
        have CO := Lib.hid (owner_lane (c := c) hR2.1 n HN.out (by omega) HZ.out key hsz)
        have CW := Lib.hid (fun W (hl : Ltr w W) => with_any (c := c) (HA.out.below hl).1 n HN.out (by omega) (a : Int) ⟨#[122]⟩)
        have HNO := Lib.hid hno
        have HOW := Lib.hid hown
        clear hkey hcc hR2 hmay hall hw hno hown haL
        go_wp2_with fail
        refine CO.out.mono ?_
        rintro x w3 ⟨rfl, hb⟩
        have HB3 := Lib.hid (show Ltr w w3 from HB2.out.next hb)
        clear hb CO c0
        generalize ownS L key = ow at *
        obtain ⟨os, ob⟩ := ow
        have how := HOW.out
        dsimp only at how ⊢
        clear HOW
        cases ob with
        | false =>
          clear how
          go_wp2_with fail
          refine (CW.out _ HB3.out).mono ?_
          rintro x w4 ⟨a4, c4, rfl, hr4, hb4⟩
          have HB4 := Lib.hid (show Ltr w w4 from HB3.out.next hb4)
          have CN := Lib.hid (may_lane (c := c4) hr4 L.length (by rw [withL_len]) (by have := HN.out; omega) (a : Int) client)
          have HEQ := Lib.hid (show L.length = n from HN.out.symm)
          clear hr4 hb4 CW
          rw [HNO.out] at CN
          go_wp2_with fail
          refine CN.out.mono ?_
          rintro x w5 ⟨rfl, hb5⟩
          have HB5 := Lib.hid (show Ltr w w5 from HB4.out.next hb5)
          clear hb5 CN
          go_wp2_with fail
          refine (HEND.out _ HB5.out).mono ?_
          rintro x w6 ⟨rfl, hl⟩
          have HL := Lib.hid hl
          clear hl
          go_wp2_with fail
          go_ret
          exact ⟨rfl, HL.out⟩
        | true =>
          obtain rfl : os = client := how.resolve_left (by simp)
          have he : (os.toList == os.toList) = true := by rw [eq_text]; exact decide_eq_true rfl
          clear how
          go_wp2_with fail
          refine (CW.out _ HB3.out).mono ?_
          rintro x w4 ⟨a4, c4, rfl, hr4, hb4⟩
          have HB4 := Lib.hid (show Ltr w w4 from HB3.out.next hb4)
          have CN := Lib.hid (may_lane (c := c4) hr4 L.length (by rw [withL_len]) (by have := HN.out; omega) (a : Int) os)
          have HEQ := Lib.hid (show L.length = n from HN.out.symm)
          clear hr4 hb4 CW
          rw [HNO.out] at CN
          go_wp2_with fail
          refine CN.out.mono ?_
          rintro x w5 ⟨rfl, hb5⟩
          have HB5 := Lib.hid (show Ltr w w5 from HB4.out.next hb5)
          clear hb5 CN
          go_wp2_with fail
          refine (HEND.out _ HB5.out).mono ?_
          rintro x w6 ⟨rfl, hl⟩
          have HL := Lib.hid hl
          clear hl
          go_wp2_with fail
          go_ret
          exact ⟨rfl, HL.out⟩
end
end Go.Proofs.Ytkjghlmlfanafaa

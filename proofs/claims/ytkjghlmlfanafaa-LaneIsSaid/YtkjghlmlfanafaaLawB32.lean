/- What is proved here: PickIs answers true for every clients and numbers. Condition: the arguments are what a row says of them. -/
import Derived.Test.YtkjghlmlfanafaaAwak32
namespace Go.Proofs.Ytkjghlmlfanafaa
open Go.RowKit Go.Extern.Stop Go.Stop Go.Extern
/-- A slice of texts that came in. -/
def StrsOf (w : World) (A : Option Addr) (n : Nat) (L : List ByteArray) : Prop := n = L.length ∧ SRd w A L
section
variable {w : World}
theorem below_drewN {B : Nat} {a w : World} (h : Below B a w) (n : Nat) : Below B a (w.drewN n) := ⟨h.os, h.tape, h.output, h.size, h.block⟩
theorem same_text (a : ByteArray) : (a.toList == a.toList) = true := by rw [eq_text]; exact decide_eq_true rfl
theorem robinQ {A B : Option Addr} {L F : List ByteArray} {wr : World} (h : SRd wr A L) (n c : Nat) (hn : n = L.length) (hm : n ≤ 1000) (hf : SRd wr B F) (m d : Nat) (hmF : m = F.length) (hm2 : m ≤ 1000) (v : ByteArray) (j : Nat) :
    Calls Try.prog 34 #[.slice A n c, .slice B m d, .string v] (wr.drewN j) fun x w' => x = .returned (.string (robF L F v)) ∧ ∃ k, w' = wr.drewN k :=
  Calls.quiet_of_same ((robin_any (h.drewN j) n c hn hm (hf.drewN j) m d hmF hm2 v).mono fun _ _ ⟨e, h⟩ => And.intro e h.symm)
theorem rrobinQ {A B : Option Addr} {L F : List ByteArray} {wr : World} (h : SRd wr A L) (n c : Nat) (hn : n = L.length) (hm : n ≤ 1000) (hf : SRd wr B F) (m d : Nat) (hmF : m = F.length) (hm2 : m ≤ 1000) (v : ByteArray) (j : Nat) :
    Calls Try.prog 35 #[.slice A n c, .slice B m d, .string v] (wr.drewN j) fun x w' => x = .returned (.string (robF L F v)) ∧ ∃ k, w' = wr.drewN k :=
  Calls.quiet_of_same ((rrobin_any (h.drewN j) n c hn hm (hf.drewN j) m d hmF hm2 v).mono fun _ _ ⟨e, h⟩ => And.intro e h.symm)
theorem hashQ {A : Option Addr} {L : List ByteArray} {wr : World} (h : SRd wr A L) (n c : Nat) (hn : n = L.length) (hm : n ≤ 1000) (hz : ∀ s ∈ L, s.size ≤ 1000) (key : ByteArray) (hk : key.size ≤ 1000) (j : Nat) :
    Calls Try.prog 36 #[.slice A n c, .string key] (wr.drewN j) fun x w' => x = .returned (.string (hashF L key)) ∧ ∃ k, w' = wr.drewN k :=
  Calls.quiet_of_same ((hash_any (h.drewN j) n c hn hm hz key hk).mono fun _ _ ⟨e, h⟩ => And.intro e h.symm)
theorem rhashQ {A : Option Addr} {L : List ByteArray} {wr : World} (h : SRd wr A L) (n c : Nat) (hn : n = L.length) (hm : n ≤ 1000) (hz : ∀ s ∈ L, s.size ≤ 1000) (key : ByteArray) (hk : key.size ≤ 1000) (j : Nat) :
    Calls Try.prog 37 #[.slice A n c, .string key] (wr.drewN j) fun x w' => x = .returned (.string (hashF L key)) ∧ ∃ k, w' = wr.drewN k :=
  Calls.quiet_of (rhash_any (h.drewN j) n c hn hm hz key hk)
set_option maxHeartbeats 4000000 in
theorem pickIs_walk (A : Option Addr) (n c : Nat) (L : List ByteArray) (B : Option Addr) (m d : Nat) (F : List ByteArray) (C : Option Addr) (q e : Nat) (w : World) (hnz : n ≤ maxLen) (ha : StrsOf w A n L) (hmz : m ≤ maxLen) (hf : StrsOf w B m F)
    (hqz : q ≤ maxLen) (hc : q = 0 ∨ ∃ (b off : Nat) (zs : List Int), C = some ⟨b, off, none⟩ ∧ ∀ j, j < q → w.cell? ⟨b, off + j, none⟩ = some (.int .i64 (zs.getD j 0))) :
    Calls Try.prog 7 #[.slice A n c, .slice B m d, .slice C q e] w fun x w' => x = .returned (.bool true) ∧ Below w.heap.size w w' := by
  obtain ⟨hn, ha⟩ := ha
  obtain ⟨hmF, hf⟩ := hf
  unfold maxLen at hnz hmz hqz
  have CA := Lib.hid awake32
  have W1 := Lib.hid (few_any ha n c hn hnz)
  have W2 := Lib.hid (few_any hf m d hmF hmz)
  cases hb1 : fewB L with
  | false =>
    rw [hb1] at W1
    clear ha hf hc hn hmF W2 hb1
    go_enter Try.func7, Try.ntmps7
    go_wp2_with fail
    refine W1.out.mono ?_
    rintro x w1 ⟨rfl, rfl⟩
    go_wp2_with fail
    refine (CA.out _).mono ?_
    rintro x w1 ⟨rfl, hb⟩
    have HB := Lib.hid hb
    clear hb
    go_wp2_with fail
    go_ret
    exact ⟨rfl, HB.out⟩
  | true =>
    rw [hb1] at W1
    cases hb2 : fewB F with
    | false =>
      rw [hb2] at W2
      clear ha hf hc hn hmF hb1 hb2
      go_enter Try.func7, Try.ntmps7
      go_wp2_with fail
      refine W1.out.mono ?_
      rintro x w1 ⟨rfl, rfl⟩
      go_wp2_with fail
      refine W2.out.mono ?_
      rintro x w1 ⟨rfl, rfl⟩
      go_wp2_with fail
      refine (CA.out _).mono ?_
      rintro x w1 ⟨rfl, hb⟩
      have HB := Lib.hid hb
      clear hb
      go_wp2_with fail
      go_ret
      exact ⟨rfl, HB.out⟩
    | true =>
      rw [hb2] at W2
      by_cases hq : 20 < q
      · clear ha hf hc hn hmF hb1 hb2
        go_enter Try.func7, Try.ntmps7
        go_wp2_with fail
        refine W1.out.mono ?_
        rintro x w1 ⟨rfl, rfl⟩
        go_wp2_with fail
        refine W2.out.mono ?_
        rintro x w1 ⟨rfl, rfl⟩
        go_wp2_with fail
        refine (CA.out _).mono ?_
        rintro x w1 ⟨rfl, hb⟩
        have HB := Lib.hid hb
        clear hb
        go_wp2_with fail
        go_ret
        exact ⟨rfl, HB.out⟩
      · obtain ⟨hn20, hLs⟩ := few_sizes hb1
        obtain ⟨hm20, hFs⟩ := few_sizes hb2
        have hn1 : n ≤ 20 := by omega
        have hm1 : m ≤ 20 := by omega
        have hq1 : q ≤ 20 := by omega
        obtain ⟨Z, hZ⟩ : ∃ Z, IRd w C q Z := by
          rcases hc with h0 | ⟨b, off, zs, e1, e2⟩
          · exact ⟨fun _ => 0, fun hp => by omega⟩
          · exact ⟨fun j => zs.getD j 0, fun _ => ⟨b, off, e1, e2⟩⟩
        have HA := Lib.hid ha
        have HF := Lib.hid hf
        have HL := Lib.hid hn
        have HM := Lib.hid hmF
        have HZ := Lib.hid hZ
        have LS := Lib.hid hLs
        have FS := Lib.hid hFs
        clear ha hf hc hn hmF hb1 hb2 hZ hLs hFs hnz hmz hqz hq
        go_enter Try.func7, Try.ntmps7
        go_wp2_with fail
        refine W1.out.mono ?_
        rintro x w1 ⟨rfl, rfl⟩
        go_wp2_with fail
        refine W2.out.mono ?_
        rintro x w1 ⟨rfl, rfl⟩
        clear W1 W2
        go_wp2_with fail
        go_loopw [7] (fun i wr => ∃ k j : Nat, k ≤ n ∧ i = .int .i64 k ∧ wr = w.drewN j) (fun i _ => n - (intOf i).toNat)
        case atStart => exact ⟨0, 0, by omega, rfl, rfl⟩
        case round =>
          obtain ⟨k, j0, hk, rfl, hwr⟩ := hrel
          have HW := Lib.hid hwr
          have hA := Lib.hid (show SRd wr A L by rw [hwr]; exact HA.out.drewN _)
          have hF := Lib.hid (show SRd wr B F by rw [hwr]; exact HF.out.drewN _)
          have hZ := Lib.hid (show IRd wr C q Z by rw [hwr]; exact HZ.out)
          have HBB := Lib.hid (show Below w.heap.size w wr by rw [hwr]; exact below_drewN (Below.refl _ _) _)
          clear hwr
          by_cases hlt : k < n
          · have hkL : k < L.length := by rw [← HL.out]; exact hlt
            obtain ⟨g, off, rfl, HC⟩ := hA.out.cells (by omega)
            have c0 := HC.out k hkL
            have hys : (L.getD k e0).size ≤ 1000 := by
              have := LS.out (L.getD k e0) (by
                rw [List.getD_eq_getElem?_getD, List.getElem?_eq_getElem hkL]
                exact List.getElem_mem _)
              omega
            have Q1 := Lib.hid (fun j => robinQ hA.out n c HL.out (by omega) hF.out m d HM.out (by omega) (L.getD k e0) j)
            have Q2 := Lib.hid (fun j => rrobinQ hA.out n c HL.out (by omega) hF.out m d HM.out (by omega) (L.getD k e0) j)
            have Q3 := Lib.hid (fun j => hashQ hF.out m d HM.out (by omega) (fun s hs => Nat.le_trans (FS.out s hs) (by omega)) (L.getD k e0) hys j)
            have Q4 := Lib.hid (fun j => rhashQ hF.out m d HM.out (by omega) (fun s hs => Nat.le_trans (FS.out s hs) (by omega)) (L.getD k e0) hys j)
            have t1 := same_text (robF L F (L.getD k e0))
            have t2 := same_text (hashF F (L.getD k e0))
            clear hkL HC hys
            generalize robF L F (L.getD k e0) = r1 at *
            generalize hashF F (L.getD k e0) = r2 at *
            generalize L.getD k e0 = y at *
            go_wp2_with fail
            go_quiet ((first | (go_at_call 34; exact Q1.out _) | (go_at_call 35; exact Q2.out _) | (go_at_call 36; exact Q3.out _) | (go_at_call 37; exact Q4.out _)))
            clear Q1 Q2 Q3 Q4
            go_wp2_with fail
            go_roundw
            case rel => exact ⟨k + 1, _, by omega, by go_num, drew_on HW.out _⟩
            case measure => simp [intOf]; omega
          · have R1 := Lib.hid (robin_any hA.out n c HL.out (by omega) hF.out m d HM.out (by omega) ⟨#[]⟩)
            have R2 := Lib.hid (rrobin_any hA.out n c HL.out (by omega) hF.out m d HM.out (by omega) ⟨#[]⟩)
            have R3 := Lib.hid (least_any hF.out m d HM.out (by omega) q e Z hZ.out (by omega))
            have R4 := Lib.hid (rleast_any hF.out m d HM.out (by omega) q e Z hZ.out (by omega))
            have t1 := same_text (robF L F ⟨#[]⟩)
            have t2 := same_text (leastF F q Z)
            generalize robF L F ⟨#[]⟩ = r1 at *
            generalize leastF F q Z = r2 at *
            go_wp2_with fail
            refine R1.out.mono ?_
            rintro x w1 ⟨rfl, rfl⟩
            clear R1
            go_wp2_with fail
            refine R2.out.mono ?_
            rintro x w1 ⟨rfl, rfl⟩
            clear R2
            go_wp2_with fail
            refine R3.out.mono ?_
            rintro x w1 ⟨rfl, rfl⟩
            clear R3
            go_wp2_with fail
            refine R4.out.mono ?_
            rintro x w1 ⟨rfl, rfl⟩
            clear R4
            go_wp2_with fail
            refine (CA.out _).mono ?_
            rintro x w1 ⟨rfl, hb⟩
            have HB := Lib.hid (HBB.out.trans (hb.mono HBB.out.size))
            clear hb
            go_wp2_with fail
            go_ret
            exact ⟨rfl, HB.out⟩
end
end Go.Proofs.Ytkjghlmlfanafaa

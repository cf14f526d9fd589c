/- What is proved here: whatever is taken, used and freed, the numbers are the document's (PidsPlays answers true). No conditions but those of the values themselves. -/
import Derived.Test.YtbicoiciapngdaaTwo23
import Derived.Test.YtbicoiciapngdaaLawA23
import Derived.Deep.CutBlock
import Derived.Deep.DeepCutAuto
import Derived.Deep.RegionHeld3
import Derived.Outline
namespace Go.Proofs.Ytbicoiciapngdaa
open Go.RowKit Go.Extern.Stop Go.Stop Go.Extern Go.Maps

theorem two_start {w0 w1 : World} {gp k0 : Nat} (h : OwnPids w0 w1 gp k0 0 (fun _ => false) 0) {w2 : World} (h2 : w2 = w1.alloc (.cells #[.int .i64 k0, .int .i64 0, .slice none 0 0] 67)) :
    Two w0 ((w2.alloc (.cells #[.int .i64 0, .int .i64 0, .map none] 57)).alloc (.cells #[.pointer none, .pointer (some ⟨w2.heap.size, 0, none⟩)] 51)) gp w1.heap.size w2.heap.size (w2.heap.size + 1) k0 0 (fun _ => false) 0 0 [] := by
  have hsz : w2.heap.size = w1.heap.size + 1 := by rw [h2]; simp
  have e : ∀ (W : World) (o : Obj), (W.alloc o).heap.size = W.heap.size + 1 := fun W o => by simp
  have f2 : Fr [] w1 w2 := by rw [h2]; exact (Fr.refl _ _).alloc _
  obtain ⟨h3, _⟩ := h.same ((f2.alloc (.cells #[.int .i64 0, .int .i64 0, .map none] 57)).alloc (.cells #[.pointer none, .pointer (some ⟨w2.heap.size, 0, none⟩)] 51))
  have b1 : Blk w2 w1.heap.size 67 #[.int .i64 k0, .int .i64 0, .slice none 0 0] := by rw [h2]; exact Blk.made _ _ _
  have hz := (Blk.made w2 57 #[.int .i64 0, .int .i64 0, .map none]).alloc (.cells #[.pointer none, .pointer (some ⟨w2.heap.size, 0, none⟩)] 51)
  have hs := Blk.made (w2.alloc (.cells #[.int .i64 0, .int .i64 0, .map none] 57)) 51 #[.pointer none, .pointer (some ⟨w2.heap.size, 0, none⟩)]
  rw [e] at hs
  obtain ⟨bm, hp, _⟩ := h.is.is
  have hlt := hp.lt
  exact ⟨h3, ⟨⟨_, (b1.alloc _).alloc _, rfl, .inl ⟨rfl, rfl⟩⟩, h.below.size⟩, hz, by omega, hs⟩
/-- Both, and where the document's row lies. -/
structure Row23 (w0 w : World) (gp gr gz gs most last : Nat) (m : Int → Bool) (n : Nat) (L : List Int) (a : Option Addr) (cap : Nat) (b off : Nat) (kd id : Int) : Prop where
  two : Two w0 w gp gr gz gs most last m n last L
  row : w.cell? ⟨gr, 2, none⟩ = some (.slice a n cap)
  kind : w.cell? ⟨b, off, none⟩ = some (.int .i64 kd)
  id : w.cell? ⟨b, off + 1, none⟩ = some (.int .i64 id)
section
variable {w0 w : World} {gp gr gz gs most last : Nat} {m : Int → Bool} {n : Nat} {L : List Int} {a : Option Addr} {cap : Nat} {b off : Nat} {kd id : Int}
theorem Row23.same {w' : World} (h : Row23 w0 w gp gr gz gs most last m n L a cap b off kd id) (hf : Fr [] w w') : Row23 w0 w' gp gr gz gs most last m n L a cap b off kd id :=
  ⟨h.two.same hf, (hf.cell (lt_of_cell' h.row) (by simp)).trans h.row, (hf.cell (lt_of_cell' h.kind) (by simp)).trans h.kind, (hf.cell (lt_of_cell' h.id) (by simp)).trans h.id⟩
theorem Row23.drew (h : Row23 w0 w gp gr gz gs most last m n L a cap b off kd id) : Row23 w0 w.drew gp gr gz gs most last m n L a cap b off kd id := h.same (Fr.refl _ _).drew
theorem Row23.drewN (h : Row23 w0 w gp gr gz gs most last m n L a cap b off kd id) (k : Nat) : Row23 w0 (w.drewN k) gp gr gz gs most last m n L a cap b off kd id := h.same ((Fr.refl _ _).drewN k)
theorem row_len (h : Row23 w0 w gp gr gz gs most last m n L a cap b off kd id) : Calls Try.prog 38 #[.pointer (some ⟨gp, 0, none⟩)] w fun e w' => e = .returned (.int .i64 n) ∧ Row23 w0 w' gp gr gz gs most last m n L a cap b off kd id :=
  (pids_len h.two.own.is).mono fun _ _ ⟨e, hw⟩ => ⟨e, hw ▸ h⟩
theorem row_is (h : Row23 w0 w gp gr gz gs most last m n L a cap b off kd id) (hid : (Lit.int .i64 id).wf = true) : Calls Try.prog 39 #[.pointer (some ⟨gp, 0, none⟩), .int .i64 id] w fun e w' => e = .returned (.bool (m id)) ∧ Row23 w0 w' gp gr gz gs most last m n L a cap b off kd id :=
  (pids_is h.two.own.is id hid).mono fun _ _ ⟨e, hf⟩ => ⟨e, h.same hf⟩
theorem row_ref (h : Row23 w0 w gp gr gz gs most last m n L a cap b off kd id) (hs : Same23 most last m n last L) (hn : n ≤ 65535) : Calls Try.prog 40 #[.pointer (some ⟨gr, 0, none⟩), .int .i64 id] w fun e w' => e = .returned (.bool (m id)) ∧ Row23 w0 w' gp gr gz gs most last m n L a cap b off kd id := by
  have h1 := refp_is h.two.ref (by rw [hs.len]; omega) id
  rw [← hs.mem] at h1
  exact h1.mono fun _ _ ⟨e, hw⟩ => ⟨e, hw ▸ h⟩
theorem row_nob (h : Row23 w0 w gp gr gz gs most last m n L a cap b off kd id) {pv : Value} (hp : pv = .pointer none ∨ pv = .pointer (some ⟨gz, 0, none⟩)) : Nobody w pv := by
  rcases hp with rfl | rfl
  · exact .inl rfl
  · exact .inr ⟨gz, rfl, h.two.zero⟩
theorem row_no_do (h : Row23 w0 w gp gr gz gs most last m n L a cap b off kd id) (hid : (Lit.int .i64 id).wf = true) {pv : Value} (hp : pv = .pointer none ∨ pv = .pointer (some ⟨gz, 0, none⟩)) :
    Calls Try.prog 34 #[pv, .agg #[.int .i64 kd, .int .i64 id]] w fun e w' => e = .returned (.tuple #[.int .i64 0, .bool false]) ∧ Row23 w0 w' gp gr gz gs most last m n L a cap b off kd id :=
  (no_do (row_nob h hp) kd id hid).mono fun _ _ ⟨e, hf⟩ => ⟨e, h.same hf⟩
theorem row_no_len (h : Row23 w0 w gp gr gz gs most last m n L a cap b off kd id) {pv : Value} (hp : pv = .pointer none ∨ pv = .pointer (some ⟨gz, 0, none⟩)) :
    Calls Try.prog 38 #[pv] w fun e w' => e = .returned (.int .i64 0) ∧ Row23 w0 w' gp gr gz gs most last m n L a cap b off kd id :=
  (no_len (row_nob h hp)).mono fun _ _ ⟨e, hw⟩ => ⟨e, hw ▸ h⟩
theorem row_no_is (h : Row23 w0 w gp gr gz gs most last m n L a cap b off kd id) (hid : (Lit.int .i64 id).wf = true) {pv : Value} (hp : pv = .pointer none ∨ pv = .pointer (some ⟨gz, 0, none⟩)) :
    Calls Try.prog 39 #[pv, .int .i64 id] w fun e w' => e = .returned (.bool false) ∧ Row23 w0 w' gp gr gz gs most last m n L a cap b off kd id :=
  (no_is (row_nob h hp) id hid).mono fun _ _ ⟨e, hf⟩ => ⟨e, h.same hf⟩
theorem row_made (h : Two w0 w gp gr gz gs most last m n last L) (hs : Same23 most last m n last L) : ∃ a cap, w.cell? ⟨gr, 2, none⟩ = some (.slice a n cap) := by
  obtain ⟨⟨v, b1, r1⟩, _⟩ := h.ref
  obtain ⟨a, cap, rfl⟩ := row_form r1
  rw [hs.len] at b1
  exact ⟨a, cap, b1.cell 2⟩
end
set_option maxHeartbeats 4000000 in
set_option maxRecDepth 100000 in
theorem pidsPlays_walk (n : Int) (a : Option Addr) (len cap : Nat) (xs : Nat → Act23) (w : World) (hn : -9223372036854775808 ≤ n ∧ n ≤ 9223372036854775807) (hl : len ≤ maxLen) (h : ActsOf3 w a len xs) :
    Calls Try.prog 9 #[.int .i64 n, .slice a len cap] w fun x w' => x = .returned (.bool true) ∧ Below w.heap.size w w' := by
  have HA := Lib.hid h
  unfold maxLen at hl
  clear h
  obtain ⟨k0, hk0⟩ : ∃ k : Nat, n < 0 ∧ k = 0 ∨ n = (k : Int) ∧ k ≤ 65535 ∨ 65535 < n ∧ n ≤ 9223372036854775807 ∧ k = 65535 := by
    by_cases h1 : n < 0
    · exact ⟨0, .inl ⟨h1, rfl⟩⟩
    · by_cases h2 : 65535 < n
      · exact ⟨65535, .inr (.inr ⟨h2, hn.2, rfl⟩)⟩
      · exact ⟨n.toNat, .inr (.inl ⟨by omega, by omega⟩)⟩
  have HK := Lib.hid hk0
  have hkm : k0 ≤ 65535 := by omega
  clear hk0
  by_cases hl6 : 60 < len
  · go_enter Try.func9, Try.ntmps9
    go_wp2_with fail
    refine (pids_awake _).mono ?_
    rintro e w' ⟨rfl, hb⟩
    go_wp2
    go_ret
    exact ⟨rfl, hb⟩
  · go_enter Try.func9, Try.ntmps9
    go_wp2_with fail
    refine (own_pnew n k0 HK.out (Below.refl _ _)).mono ?_
    rintro e w1 ⟨g, rfl, hd⟩
    have HD := Lib.hid hd
    clear hd
    go_wp2_with fail
    refine (refp_new w1 n k0 HK.out).mono ?_
    rintro e w2 ⟨rfl, hw2⟩
    have HS := Lib.hid (two_start HD.out hw2)
    clear hw2
    obtain ⟨gr, hgr⟩ : ∃ x, x = w1.heap.size := ⟨_, rfl⟩
    rw [← hgr] at HS ⊢
    clear hgr
    go_wp2
    obtain ⟨gz, hgz⟩ : ∃ x, x = w2.heap.size := ⟨_, rfl⟩
    rw [← hgz] at HS ⊢
    obtain ⟨gs, hgs⟩ : ∃ x, x = gz + 1 := ⟨_, rfl⟩
    rw [← hgs] at HS ⊢
    clear hgz hgs
    go_loopw [8] (fun i wr => ∃ (k : Nat) (last n : Nat) (m : Int → Bool) (L : List Int), k ≤ len ∧ i = .int .i64 k ∧ Two w wr g gr gz gs k0 last m n last L ∧ Same23 k0 last m n last L) (fun i _ => len - (intOf i).toNat)
    case atStart => exact ⟨0, _, _, _, _, Nat.zero_le _, rfl, HS.out, Same23.start _⟩
    case round =>
      obtain ⟨k, last, nn, m, L, hk, rfl, hd, hsm⟩ := hrel
      by_cases hlt : k < len
      · obtain ⟨b, off, rfl, hac⟩ : ∃ b off, a = some ⟨b, off, none⟩ ∧ Acts3 w b off len xs := HA.out.resolve_left (by omega)
        obtain ⟨c0, c1, hw⟩ := (hac.below hd.own.below) k hlt
        have HC := Lib.hid (own_do23 hd.own (xs k).kind (xs k).id hw)
        have HD1 := Lib.hid hd
        have HSM := Lib.hid hsm
        have HW := Lib.hid hw
        have HAC := Lib.hid (fun W => (hac.below (w' := W)))
        clear hac hd hw hsm
        obtain ⟨kd, hkd⟩ : ∃ x, x = (xs k).kind := ⟨_, rfl⟩
        obtain ⟨id, hid⟩ : ∃ x, x = (xs k).id := ⟨_, rfl⟩
        have HKD := Lib.hid hkd
        have HID := Lib.hid hid
        rw [← hkd] at c0 HC
        rw [← hid] at c1 HC HW
        clear hkd hid
        obtain ⟨r, hr⟩ : ∃ r, do23 k0 last m nn kd id = r := ⟨_, rfl⟩
        rw [hr] at HC
        obtain ⟨A, Bb, last', m', n'⟩ := r
        have HR := Lib.hid hr
        clear hr
        go_wp2_with fail
        refine (HC.out).mono ?_
        rintro e w3 ⟨rfl, hd3, hkp⟩
        have HD3 := Lib.hid (HD1.out.kept hd3 hkp)
        obtain ⟨c0, c1, _⟩ := (HAC.out w3 hd3.below) k hlt
        rw [← HKD.out] at c0
        rw [← HID.out] at c1
        clear hd3 hkp
        go_upto_block 2 with fail
        go_cut [11, 12] from 27 to 149 (fun s11 s12 wx => s11 = .int .i64 A ∧ s12 = .bool Bb ∧ ∃ L', Two w wx g gr gz gs k0 last' m' n' last' L' ∧ Same23 k0 last' m' n' last' L')
        case first =>
          have hok := HD1.out.own.is.ok
          have hLn : L.length = nn := HSM.out.len
          have hnn := next_none hok
          have hnk : nn ≤ k0 := by rw [hok.num]; exact cnt_le m k0
          have hlk := hok.last_le
          have hbw := HD3.out.own.below.size
          by_cases h1 : kd = 1
          · subst h1
            cases hs : scan m k0 last k0 0 with
            | none =>
              have hr := HR.out
              unfold do23 at hr
              rw [if_pos rfl, hs] at hr
              simp only [Prod.mk.injEq] at hr
              obtain ⟨rfl, rfl, rfl, rfl, rfl⟩ := hr
              have HC2 := Lib.hid (refp_next_no HD3.out.ref (hLn.trans (hnn.1 hs)) hkm)
              clear hok hLn hnn hs
              go_wp2_with fail
              refine (HC2.out).mono ?_
              rintro e w4 ⟨rfl, hf⟩
              have HD4 := Lib.hid (HD3.out.same hf)
              clear hf
              go_wp2_with fail
              go_meet
              case rel => exact ⟨rfl, rfl, L, HD4.out, HSM.out⟩
            | some x =>
              have hr := HR.out
              unfold do23 at hr
              rw [if_pos rfl, hs] at hr
              simp only [Prod.mk.injEq] at hr
              obtain ⟨rfl, rfl, rfl, rfl, rfl⟩ := hr
              have hmx : m x = false := by
                obtain ⟨j, _, _, _, hmx, _⟩ := scan_some hs
                exact hmx
              have HON := Lib.hid (HSM.out.on (last' := x) hmx)
              have hlt0 : L.length < k0 := by
                rcases Nat.lt_or_ge L.length k0 with h | h
                · exact h
                · rw [hnn.2 (by omega)] at hs; cases hs
              have HC2 := Lib.hid (refp_next HD3.out.ref hbw hlt0 hkm hlk HSM.out.mem hs)
              clear hok hLn hnn hs hmx
              go_wp2_with fail
              refine (HC2.out).mono ?_
              rintro e w4 ⟨rfl, hr4, hn4⟩
              have HD4 := Lib.hid (HD3.out.near hr4 hn4)
              clear hr4 hn4
              go_wp2_with fail
              go_meet
              case rel => exact ⟨rfl, rfl, _, HD4.out, HON.out⟩
          · have n1 : ((kd : Int) == 1) = false := beq_eq_false_iff_ne.2 h1
            by_cases h2 : kd = 2
            · subst h2
              by_cases hu : 1 ≤ id ∧ id ≤ k0 ∧ m id = false
              · have hr := HR.out
                unfold do23 at hr
                rw [if_neg (by decide), if_pos rfl, if_pos hu] at hr
                simp only [Prod.mk.injEq] at hr
                obtain ⟨rfl, rfl, rfl, rfl, rfl⟩ := hr
                have HON := Lib.hid (HSM.out.on (last' := last) hu.2.2)
                have hnm : ¬ id ∈ L := by have := HSM.out.mem id; rw [hu.2.2] at this; simpa using this.symm
                have HC2 := Lib.hid (refp_use HD3.out.ref hbw (by omega) id hu.1 hu.2.1 hnm)
                clear hok hLn hnn hu hnm h1 n1
                go_wp2_with fail
                refine (HC2.out).mono ?_
                rintro e w4 ⟨rfl, hr4, hn4⟩
                have HD4 := Lib.hid (HD3.out.near hr4 hn4)
                clear hr4 hn4
                go_wp2_with fail
                go_meet
                case rel => exact ⟨rfl, rfl, _, HD4.out, HON.out⟩
              · have hr := HR.out
                unfold do23 at hr
                rw [if_neg (by decide), if_pos rfl, if_neg hu] at hr
                simp only [Prod.mk.injEq] at hr
                obtain ⟨rfl, rfl, rfl, rfl, rfl⟩ := hr
                have hno : id < 1 ∨ (k0 : Int) < id ∨ id ∈ L := by
                  by_cases g1 : id < 1
                  · exact .inl g1
                  · by_cases g2 : (k0 : Int) < id
                    · exact .inr (.inl g2)
                    · refine .inr (.inr ?_)
                      cases hm : m id with
                      | true => have := HSM.out.mem id; rw [hm] at this; simpa using this.symm
                      | false => exact absurd ⟨by omega, by omega, hm⟩ hu
                have HC2 := Lib.hid (refp_use_no HD3.out.ref (by omega) id hno)
                clear hok hLn hnn hu hno h1 n1
                go_wp2_with fail
                refine (HC2.out).mono ?_
                rintro e w4 ⟨rfl, rfl⟩
                go_wp2_with fail
                go_meet
                case rel => exact ⟨rfl, rfl, _, HD3.out, HSM.out⟩
            · have n2 : ((kd : Int) == 2) = false := beq_eq_false_iff_ne.2 h2
              by_cases h3 : kd = 3
              · subst h3
                have hr := HR.out
                unfold do23 at hr
                rw [if_neg (by decide), if_neg (by decide), if_pos rfl] at hr
                simp only [Prod.mk.injEq] at hr
                obtain ⟨rfl, rfl, rfl, rfl, rfl⟩ := hr
                have HOFF := Lib.hid (HSM.out.off (x := id))
                have hc2 := refp_free HD3.out.ref hbw (by omega) id
                rw [← HSM.out.mem id] at hc2
                have HC2 := Lib.hid hc2
                clear hok hLn hnn h1 n1 h2 n2 hc2
                go_wp2_with fail
                refine (HC2.out).mono ?_
                rintro e w4 ⟨rfl, hr4, hn4⟩
                have HD4 := Lib.hid (HD3.out.near hr4 hn4)
                clear hr4 hn4
                go_wp2_with fail
                go_meet
                case rel => exact ⟨rfl, rfl, _, HD4.out, HOFF.out⟩
              · have n3 : ((kd : Int) == 3) = false := beq_eq_false_iff_ne.2 h3
                have hr := HR.out
                unfold do23 at hr
                rw [if_neg h1, if_neg h2, if_neg h3] at hr
                simp only [Prod.mk.injEq] at hr
                obtain ⟨rfl, rfl, rfl, rfl, rfl⟩ := hr
                clear hok hLn hnn h1 h2 h3
                go_wp2_with fail
                go_meet
                case rel => exact ⟨rfl, rfl, _, HD3.out, HSM.out⟩
        case rest =>
          obtain ⟨rfl, rfl, L', hd4, hs4⟩ := hcut
          have HS4 := Lib.hid hs4
          obtain ⟨a', cap', hrow⟩ := row_made hd4 hs4
          obtain ⟨c0, c1, _⟩ := (HAC.out wc hd4.own.below) k hlt
          rw [← HKD.out] at c0
          rw [← HID.out] at c1
          have hn' : n' ≤ 65535 := by
            have := hd4.own.is.ok.num
            have := cnt_le m' k0
            omega
          have hd5 : Row23 w wc g gr gz gs k0 last' m' n' L' a' cap' b (off + k * 2) kd id := ⟨hd4, hrow, c0, c1⟩
          have H1 := Lib.hid (fun W (h : Row23 w W g gr gz gs k0 last' m' n' L' a' cap' b (off + k * 2) kd id) => row_len h)
          have H2 := Lib.hid (fun W (h : Row23 w W g gr gz gs k0 last' m' n' L' a' cap' b (off + k * 2) kd id) => row_is h HW.out)
          have H3 := Lib.hid (fun W (h : Row23 w W g gr gz gs k0 last' m' n' L' a' cap' b (off + k * 2) kd id) => row_ref h HS4.out hn')
          have hS : wc.cell? ⟨b, off + k * 2 + 1, none⟩ = some (.int .i64 id) ∧ wc.cell? ⟨gr, 2, none⟩ = some (.slice a' n' cap') := ⟨c1, hrow⟩
          have KS := Lib.hid (fun W (h : Row23 w W g gr gz gs k0 last' m' n' L' a' cap' b (off + k * 2) kd id) => And.intro h.id h.row)
          have HD4 := Lib.hid hd4
          have hlo : (0 : Int) ≤ (k : Int) := by omega
          have hhi : (k : Int) < (len : Int) := by omega
          clear hs4 hrow hd4 c0 c1
          obtain ⟨M, hM⟩ : ∃ x, m' id = x := ⟨_, rfl⟩
          rw [hM] at H2 H3
          clear hM
          go_wp2_with fail
          go_region_held3 (fun w' => w'.cell? ⟨b, off + k * 2 + 1, none⟩ = some (.int .i64 id) ∧ w'.cell? ⟨gr, 2, none⟩ = some (.slice a' n' cap'))
            (first | assumption | (exact KS.out _ (by assumption)))
            (first
              | (go_at_call_of 38 (Value.pointer (some ⟨g, 0, none⟩)); (with_reducible refine (H1.out _ ?_).mono ?_); (first | assumption | exact Row23.drew (by assumption)); rintro x w5 ⟨rfl, hd5⟩)
              | (go_at_call_of 39 (Value.pointer (some ⟨g, 0, none⟩)); (with_reducible refine (H2.out _ ?_).mono ?_); (first | assumption | exact Row23.drew (by assumption)); rintro x w6 ⟨rfl, hd6⟩)
              | (go_at_call_of 40 (Value.pointer (some ⟨gr, 0, none⟩)); (with_reducible refine (H3.out _ ?_).mono ?_); (first | assumption | exact Row23.drew (by assumption)); rintro x w7 ⟨rfl, hd7⟩))
          have HD7 := Lib.hid hd7
          clear hS hd5 hd6 hd7
          go_wp2_with fail
          go_loopw [13] (fun j wi => ∃ q : Nat, q ≤ 2 ∧ j = .int .i64 q ∧ Row23 w wi g gr gz gs k0 last' m' n' L' a' cap' b (off + k * 2) kd id) (fun j _ => 2 - (intOf j).toNat)
          case atStart => exact ⟨0, by omega, rfl, HD7.out⟩
          case round =>
            obtain ⟨q, hq, rfl, hdi⟩ := hrel
            rcases (show q = 0 ∨ q = 1 ∨ q = 2 by omega) with rfl | rfl | rfl
            · clear hq
              have hS : wr.cell? ⟨gs, 0, none⟩ = some (Value.pointer none) ∧ wr.cell? ⟨b, off + k * 2, none⟩ = some (.int .i64 kd) ∧ wr.cell? ⟨b, off + k * 2 + 1, none⟩ = some (.int .i64 id) := ⟨hdi.two.nob.cell 0, hdi.kind, hdi.id⟩
              have KS := Lib.hid (fun W (h : Row23 w W g gr gz gs k0 last' m' n' L' a' cap' b (off + k * 2) kd id) => And.intro (h.two.nob.cell 0) (And.intro h.kind h.id))
              have H1 := Lib.hid (fun W (h : Row23 w W g gr gz gs k0 last' m' n' L' a' cap' b (off + k * 2) kd id) => row_no_do h HW.out (pv := Value.pointer none) (.inl rfl))
              have H2 := Lib.hid (fun W (h : Row23 w W g gr gz gs k0 last' m' n' L' a' cap' b (off + k * 2) kd id) => row_no_len h (pv := Value.pointer none) (.inl rfl))
              have H3 := Lib.hid (fun W (h : Row23 w W g gr gz gs k0 last' m' n' L' a' cap' b (off + k * 2) kd id) => row_no_is h HW.out (pv := Value.pointer none) (.inl rfl))
              go_wp2_with fail
              go_region_held3 (fun w' => w'.cell? ⟨gs, 0, none⟩ = some (Value.pointer none) ∧ w'.cell? ⟨b, off + k * 2, none⟩ = some (.int .i64 kd) ∧ w'.cell? ⟨b, off + k * 2 + 1, none⟩ = some (.int .i64 id))
                (first | assumption | (exact KS.out _ (by assumption)))
                (first
                  | (go_at_call_of 34 (Value.pointer none); (with_reducible refine (H1.out _ ?_).mono ?_); (first | assumption | exact Row23.drew (by assumption)); rintro x w8 ⟨rfl, hd8⟩))
              go_wp2_with fail
              clear hS hdi
              have hS : w8.cell? ⟨gs, 0, none⟩ = some (Value.pointer none) ∧ w8.cell? ⟨b, off + k * 2, none⟩ = some (.int .i64 kd) ∧ w8.cell? ⟨b, off + k * 2 + 1, none⟩ = some (.int .i64 id) := KS.out _ hd8
              go_region_held3 (fun w' => w'.cell? ⟨gs, 0, none⟩ = some (Value.pointer none) ∧ w'.cell? ⟨b, off + k * 2, none⟩ = some (.int .i64 kd) ∧ w'.cell? ⟨b, off + k * 2 + 1, none⟩ = some (.int .i64 id))
                (first | assumption | (exact KS.out _ (by assumption)))
                (first
                  | (go_at_call_of 38 (Value.pointer none); (with_reducible refine (H2.out _ ?_).mono ?_); (first | assumption | exact Row23.drew (by assumption)); rintro x w9 ⟨rfl, hd9⟩)
                  | (go_at_call_of 39 (Value.pointer none); (with_reducible refine (H3.out _ ?_).mono ?_); (first | assumption | exact Row23.drew (by assumption)); rintro x w10 ⟨rfl, hd10⟩))
              have HD10 := Lib.hid hd10
              clear hS
              go_wp2_with fail
              go_roundw
              case rel => exact ⟨0 + 1, by omega, by go_num, HD10.out⟩
              case measure => simp [intOf]
            · clear hq
              have hS : wr.cell? ⟨gs, 1, none⟩ = some (Value.pointer (some ⟨gz, 0, none⟩)) ∧ wr.cell? ⟨b, off + k * 2, none⟩ = some (.int .i64 kd) ∧ wr.cell? ⟨b, off + k * 2 + 1, none⟩ = some (.int .i64 id) := ⟨hdi.two.nob.cell 1, hdi.kind, hdi.id⟩
              have KS := Lib.hid (fun W (h : Row23 w W g gr gz gs k0 last' m' n' L' a' cap' b (off + k * 2) kd id) => And.intro (h.two.nob.cell 1) (And.intro h.kind h.id))
              have H1 := Lib.hid (fun W (h : Row23 w W g gr gz gs k0 last' m' n' L' a' cap' b (off + k * 2) kd id) => row_no_do h HW.out (pv := Value.pointer (some ⟨gz, 0, none⟩)) (.inr rfl))
              have H2 := Lib.hid (fun W (h : Row23 w W g gr gz gs k0 last' m' n' L' a' cap' b (off + k * 2) kd id) => row_no_len h (pv := Value.pointer (some ⟨gz, 0, none⟩)) (.inr rfl))
              have H3 := Lib.hid (fun W (h : Row23 w W g gr gz gs k0 last' m' n' L' a' cap' b (off + k * 2) kd id) => row_no_is h HW.out (pv := Value.pointer (some ⟨gz, 0, none⟩)) (.inr rfl))
              go_wp2_with fail
              go_region_held3 (fun w' => w'.cell? ⟨gs, 1, none⟩ = some (Value.pointer (some ⟨gz, 0, none⟩)) ∧ w'.cell? ⟨b, off + k * 2, none⟩ = some (.int .i64 kd) ∧ w'.cell? ⟨b, off + k * 2 + 1, none⟩ = some (.int .i64 id))
                (first | assumption | (exact KS.out _ (by assumption)))
                (first
                  | (go_at_call_of 34 (Value.pointer (some ⟨gz, 0, none⟩)); (with_reducible refine (H1.out _ ?_).mono ?_); (first | assumption | exact Row23.drew (by assumption)); rintro x w8 ⟨rfl, hd8⟩))
              go_wp2_with fail
              clear hS hdi
              have hS : w8.cell? ⟨gs, 1, none⟩ = some (Value.pointer (some ⟨gz, 0, none⟩)) ∧ w8.cell? ⟨b, off + k * 2, none⟩ = some (.int .i64 kd) ∧ w8.cell? ⟨b, off + k * 2 + 1, none⟩ = some (.int .i64 id) := KS.out _ hd8
              go_region_held3 (fun w' => w'.cell? ⟨gs, 1, none⟩ = some (Value.pointer (some ⟨gz, 0, none⟩)) ∧ w'.cell? ⟨b, off + k * 2, none⟩ = some (.int .i64 kd) ∧ w'.cell? ⟨b, off + k * 2 + 1, none⟩ = some (.int .i64 id))
                (first | assumption | (exact KS.out _ (by assumption)))
                (first
                  | (go_at_call_of 38 (Value.pointer (some ⟨gz, 0, none⟩)); (with_reducible refine (H2.out _ ?_).mono ?_); (first | assumption | exact Row23.drew (by assumption)); rintro x w9 ⟨rfl, hd9⟩)
                  | (go_at_call_of 39 (Value.pointer (some ⟨gz, 0, none⟩)); (with_reducible refine (H3.out _ ?_).mono ?_); (first | assumption | exact Row23.drew (by assumption)); rintro x w10 ⟨rfl, hd10⟩))
              have HD10 := Lib.hid hd10
              clear hS
              go_wp2_with fail
              go_roundw
              case rel => exact ⟨1 + 1, by omega, by go_num, HD10.out⟩
              case measure => simp [intOf]
            · have HDi := Lib.hid hdi
              clear hdi
              go_wp2_with fail
              go_roundw
              case rel => exact ⟨k + 1, _, _, _, _, by omega, by go_num, HDi.out.two, HS4.out⟩
              case measure => simp [intOf]; omega
      · have HB := Lib.hid hd.own.below
        clear hd hsm
        go_wp2_with fail
        refine (pids_awake _).mono ?_
        rintro e w8 ⟨rfl, hb⟩
        have HB8 := Lib.hid (HB.out.trans (hb.mono HB.out.size))
        clear hb
        go_wp2
        go_ret
        exact ⟨rfl, HB8.out⟩
end Go.Proofs.Ytbicoiciapngdaa

/- What is proved here: PickStays answers true for every clients, key and client. Condition: the arguments are what a row says of them. -/
import Derived.Test.YtbdiajccpcopiaaOwn32
import Derived.Deep.Cut
import Derived.Deep.DeepMust
import Derived.Deep.CutRange
namespace Go.Proofs.Ytbdiajccpcopiaa
open Go.RowKit Go.Extern.Stop Go.Stop Go.Extern
theorem ne_text {a b : ByteArray} (h : a ≠ b) : (a.toList == b.toList) = false := by rw [eq_text]; exact decide_eq_false h
theorem hash_more (L : List ByteArray) (key one : ByteArray) : hashF (L ++ [one]) key = if L = [] ∨ rankF key (hashF L key) < rankF key one then one else hashF L key := best_more (rankF key) e0 L one
theorem hash_mem {L : List ByteArray} (key : ByteArray) (h : L ≠ []) : hashF L key ∈ L := (best_in (rankF key) e0 h).1
theorem hash_less {L : List ByteArray} (key one : ByteArray) (h : L ≠ []) (hne : hashF L key ≠ one) : hashF (L.filter fun s => !decide (s = one)) key = hashF L key :=
  best_less (rankF key) e0 h _ (by show (!decide (hashF L key = one)) = true; rw [decide_eq_false hne]; rfl)
theorem filt_take {L : List ByteArray} (p : ByteArray → Bool) {k : Nat} (h : k < L.length) : (L.take (k + 1)).filter p = (L.take k).filter p ++ (if p (L.getD k e0) then [L.getD k e0] else []) := by
  rw [List.take_succ_eq_append_getElem h, List.filter_append, List.getD_eq_getElem?_getD, List.getElem?_eq_getElem h]
  congr 1
  show List.filter p [L[k]] = if p L[k] = true then [L[k]] else []
  cases hp : p L[k] <;> simp [hp]
section
variable {w : World}
set_option maxHeartbeats 4000000 in
set_option maxRecDepth 10000 in
theorem stays_main (A : Option Addr) (n c : Nat) (L : List ByteArray) (key one : ByteArray) (w : World) (hn : n = L.length) (ha : SRd w A L) (hA : A = none → c = 0) (hb1 : fewB L = true) (h18 : n ≤ 18) (hk : key.size ≤ 100) (ho : one.size ≤ 100) :
    Calls Try.prog 8 #[.slice A n c, .string key, .string one] w fun x w' => x = .returned (.bool true) ∧ Below w.heap.size w w' := by
  obtain ⟨hn20, hLs⟩ := few_sizes hb1
  have CA := Lib.hid awake32
  have W1 := Lib.hid (few_any ha n c hn (by omega))
  rw [hb1] at W1
  have LS := Lib.hid (show ∀ s ∈ L, s.size ≤ 1000 from fun s hs => Nat.le_trans (hLs s hs) (by omega))
  have LM := Lib.hid (show ∀ s ∈ L ++ [one], s.size ≤ 1000 from fun s hs => by
    rcases List.mem_append.1 hs with h | h
    · exact LS.out s h
    · rw [List.mem_singleton.1 h]; omega)
  have H1 := Lib.hid (fun W (h : SRd W A L) => hash_any h n c hn (by omega) LS.out key (by omega))
  have H2 := Lib.hid (fun W A' c' (h : SRd W A' (L ++ [one])) => hash_any h (n + 1) c' (by rw [List.length_append, hn]; rfl) (by omega) LM.out key (by omega))
  have H3 := Lib.hid (fun W A' c' m (h : SRd W A' (L.filter fun s => !decide (s = one))) (hm : m = (L.filter fun s => !decide (s = one)).length) => hash_any h m c' hm (by have := List.length_filter_le (fun s => !decide (s = one)) L; omega) (fun s hs => LS.out s (List.mem_filter.1 hs).1) key (by omega))
  have HI := Lib.hid (fun W (h : SRd W A L) => in_any h n c hn (by omega) (hashF L key))
  have hws : (hashF L key).size ≤ 100 := by
    by_cases h : L = []
    · subst h; show (e0).size ≤ 100; decide
    · exact hLs _ (hash_mem key h)
  have R1 := Lib.hid (fun W => rank_any key one W (by omega) (by omega))
  have R2 := Lib.hid (fun W => rank_any key (hashF L key) W (by omega) (by omega))
  have hmore := hash_more L key one
  have hmem := Lib.hid (fun h : L ≠ [] => inB_iff.2 (hash_mem key h))
  have HLS := Lib.hid (fun (h : L ≠ []) (hne : hashF L key ≠ one) => hash_less key one h hne)
  have hr1 := rankF_lt key one
  have hr2 := rankF_lt key (hashF L key)
  have hnil : L = [] ↔ n = 0 := by rw [hn]; exact ⟨fun h => by rw [h]; rfl, fun h => List.eq_nil_of_length_eq_zero h⟩
  have hcase : hashF (L ++ [one]) key = hashF L key ∨ (hashF (L ++ [one]) key = one ∧ one ≠ hashF L key ∧ (0 < n → rankF key (hashF L key) < rankF key one)) := by
    rw [hmore]
    by_cases h : L = [] ∨ rankF key (hashF L key) < rankF key one
    · rw [if_pos h]
      by_cases h2 : one = hashF L key
      · exact .inl h2
      · refine .inr ⟨rfl, h2, fun hp => ?_⟩
        rcases h with h | h
        · have := hnil.1 h; omega
        · exact h
    · rw [if_neg h]; exact .inl rfl
  have HNL := Lib.hid hnil
  have HC := Lib.hid hcase
  have HA := Lib.hid ha
  have HN := Lib.hid hn
  have HAN := Lib.hid hA
  clear hmore hnil hcase hws hLs hb1 hn ha hA LS LM
  obtain ⟨was, hwas⟩ : ∃ s, s = hashF L key := ⟨_, rfl⟩
  obtain ⟨wi, hwi⟩ : ∃ s, s = hashF (L ++ [one]) key := ⟨_, rfl⟩
  rw [← hwas] at H1 HI R2 hmem HLS hr2 HC
  rw [← hwi] at H2 HC
  have HWAS := Lib.hid hwas
  clear hwas hwi
  have hz : Below w.heap.size w w := Below.refl _ _
  go_enter Try.func8, Try.ntmps8
  go_wp2_with fail
  refine W1.out.mono ?_
  rintro x w1 ⟨rfl, rfl⟩
  clear W1
  go_wp2_with fail
  refine (H1.out _ HA.out).mono ?_
  rintro x w1 ⟨rfl, rfl⟩
  clear H1
  go_upto_region 4 with fail
  go_cut [41] from 33 to 41 (fun s41 wx => s41 = .bool false ∧ wx = w)
  case first =>
    by_cases hp : 0 < n
    · have hm := hmem.out fun h => by have := HNL.out.1 h; omega
      have HI1 := Lib.hid (HI.out _ HA.out)
      rw [hm] at HI1
      clear hm
      go_wp2_with fail
      refine HI1.out.mono ?_
      rintro x w1 ⟨rfl, rfl⟩
      go_wp2_with fail
      go_meet
      exact ⟨rfl, rfl⟩
    · obtain rfl : n = 0 := by omega
      go_wp2_with fail
      go_meet
      exact ⟨rfl, rfl⟩
  case rest =>
    obtain ⟨rfl, hw⟩ := hcut
    subst wc
    clear HI hmem
    go_upto_region 6 with fail
    go_cut [8] from 42 to 49 (fun s8 wx => s8 = .string wi ∧ Below w.heap.size w wx)
    case first =>
      cases A with
      | none =>
        obtain rfl : c = 0 := HAN.out rfl
        have hl0 : L = [] := by
          by_cases hp : 0 < L.length
          · obtain ⟨g, off, e, _⟩ := HA.out hp
            cases e
          · exact List.eq_nil_of_length_eq_zero (by omega)
        subst hl0
        obtain rfl : n = 0 := HN.out
        go_wp2_with (at_builtin; refine append_row (w0 := w) rfl _ _ rfl ((hz.alloc hz.size _).alloc (hz.alloc hz.size _).size _) ((row_empty (w := w) (Nat.le_refl w.heap.size)).alloc _) rfl ⟨w.heap.size + 1, 0, none⟩ 1 1 rfl rfl (srd_one _ one (by simp)) (by simp) ?_)
        intro v3 w3 h3 hb3
        have h3 : Row w3 w.heap.size v3 ([] ++ [one]) := h3
        obtain ⟨ra, rc, rfl⟩ := h3.form
        have HH := Lib.hid (H2.out _ _ rc h3.rd)
        have HB3 := Lib.hid hb3
        clear h3 hb3
        go_wp2_with fail
        refine HH.out.mono ?_
        rintro x w1 ⟨rfl, rfl⟩
        go_wp2_with fail
        go_meet
        exact ⟨rfl, HB3.out⟩
      | some ad =>
        go_wp2_with (at_builtin; go_must (refine append_row (w0 := w) rfl _ _ rfl (hz.alloc hz.size _) (row_empty (w := w) (Nat.le_refl w.heap.size)) rfl ad n c rfl HN.out (HA.out.alloc _) (by simp; omega) ?_))
        intro v2 w2 h2 hb2
        go_wp2_with (at_builtin; go_must (refine append_row (w0 := w) rfl _ _ rfl (hb2.alloc hb2.size _) (h2.alloc _) rfl ⟨w2.heap.size, 0, none⟩ 1 1 rfl rfl (srd_one _ one rfl) (by simp; omega) ?_))
        intro v3 w3 h3 hb3
        have h3 : Row w3 w.heap.size v3 (L ++ [one]) := h3
        obtain ⟨ra, rc, rfl⟩ := h3.form
        have HH := Lib.hid (H2.out _ _ rc h3.rd)
        have HB3 := Lib.hid hb3
        clear h2 hb2 h3 hb3
        have hnn : (L ++ [one]).length = n + 1 := by rw [List.length_append, HN.out]; rfl
        rw [hnn]
        go_wp2_with fail
        refine HH.out.mono ?_
        rintro x w1 ⟨rfl, rfl⟩
        go_wp2_with fail
        go_meet
        exact ⟨rfl, HB3.out⟩
    case rest =>
      obtain ⟨rfl, hb⟩ := hcut
      have BW := Lib.hid hb
      have HA2 := Lib.hid (HA.out.below hb)
      clear hb H2
      go_upto_region 7 with fail
      go_cut [76] from 50 to 76 (fun s76 wx => s76 = .bool false ∧ wx = wc)
      case first =>
        rcases HC.out with h | ⟨h, h2, h3⟩
        · subst h
          have t1 := same_text wi
          by_cases hp : 0 < n
          · clear HC
            go_wp2_with fail
            go_meet
            exact ⟨rfl, rfl⟩
          · obtain rfl : n = 0 := by omega
            clear HC
            go_wp2_with fail
            go_meet
            exact ⟨rfl, rfl⟩
        · subst h
          have t1 := ne_text h2
          have t2 := same_text wi
          by_cases hp : 0 < n
          · have hrr := h3 hp
            clear HC h2 h3
            generalize rankF key wi = r1 at *
            generalize rankF key was = r2 at *
            go_wp2_with fail
            refine (R1.out _).mono ?_
            rintro x w1 ⟨rfl, rfl⟩
            go_wp2_with fail
            refine (R2.out _).mono ?_
            rintro x w1 ⟨rfl, rfl⟩
            go_wp2_with fail
            go_meet
            exact ⟨congrArg Value.bool (decide_eq_false (by omega)), rfl⟩
          · obtain rfl : n = 0 := by omega
            clear HC h2 h3
            go_wp2_with fail
            go_meet
            exact ⟨rfl, rfl⟩
      case rest =>
        obtain ⟨rfl, rfl⟩ := hcut
        clear HC R1 R2
        have hz2 : Below wc.heap.size wc wc := Below.refl _ _
        have HZ2 := Lib.hid hz2
        clear hz2
        go_wp2_with fail
        go_loopw [9, 10] (fun v i wr => ∃ k : Nat, k ≤ n ∧ i = .int .i64 k ∧ Row wr wc.heap.size v ((L.take k).filter fun s => !decide (s = one)) ∧ Below wc.heap.size wc wr) (fun _ i _ => n - (intOf i).toNat)
        case atStart => exact ⟨0, by omega, rfl, Row.nil _ _, HZ2.out⟩
        case round =>
          obtain ⟨k, hk, rfl, hrow, hbr⟩ := hrel
          have HB := Lib.hid hbr
          have HR := Lib.hid hrow
          have HA3 := Lib.hid (HA2.out.below hbr)
          obtain ⟨va, vc, rfl⟩ := hrow.form
          clear hrow hbr
          by_cases hlt : k < n
          · have hkL : k < L.length := by have := HN.out; omega
            obtain ⟨g, off, rfl, HCC⟩ := HA3.out.cells (by omega)
            have c0 := HCC.out k hkL
            have hft := filt_take (fun s => !decide (s = one)) hkL
            have hfl : ((L.take k).filter fun s => !decide (s = one)).length ≤ 20 := Nat.le_trans (List.length_filter_le _ _) (by rw [List.length_take]; omega)
            by_cases hv : L.getD k e0 = one
            · have t1 : ((L.getD k e0).toList == one.toList) = true := by rw [hv]; exact same_text one
              have hft : (L.take (k + 1)).filter (fun s => !decide (s = one)) = (L.take k).filter fun s => !decide (s = one) := by rw [hft, hv]; simp
              have HFT := Lib.hid hft
              clear hft hv hkL HCC
              generalize L.getD k e0 = y at *
              go_wp2_with fail
              go_roundw
              case rel => exact ⟨k + 1, by omega, by go_num, by rw [HFT.out]; exact HR.out, HB.out⟩
              case measure => simp [intOf]; omega
            · have t1 : ((L.getD k e0).toList == one.toList) = false := ne_text hv
              have hft : (L.take (k + 1)).filter (fun s => !decide (s = one)) = ((L.take k).filter fun s => !decide (s = one)) ++ [L.getD k e0] := by rw [hft, decide_eq_false hv]; simp
              have HFT := Lib.hid hft
              clear hft hv hkL HCC
              generalize L.getD k e0 = y at *
              go_wp2_with (at_builtin; go_must (refine append_row (w0 := wc) rfl _ _ rfl (HB.out.alloc HB.out.size _) (HR.out.alloc _) rfl ⟨wr.heap.size, 0, none⟩ 1 1 rfl rfl (srd_one _ y rfl) (by simp; omega) ?_))
              intro v5 w5 h5 hb5
              have H5 := Lib.hid h5
              have HB5 := Lib.hid hb5
              clear h5 hb5
              go_wp2_with fail
              go_roundw
              case rel => exact ⟨k + 1, by omega, by go_num, by rw [HFT.out]; exact H5.out, HB5.out⟩
              case measure => simp [intOf]; omega
          · have hall : L.take k = L := List.take_of_length_le (by have := HN.out; omega)
            rw [hall] at HR
            have H3' := Lib.hid (H3.out _ _ vc _ HR.out.rd rfl)
            rw [hall]
            by_cases hwo : was = one
            · have t1 : (was.toList == one.toList) = true := by rw [hwo]; exact same_text one
              clear hwo hall H3'
              go_wp2_with fail
              refine (CA.out _).mono ?_
              rintro x w1 ⟨rfl, hbx⟩
              have HX := Lib.hid ((BW.out.trans (HB.out.mono BW.out.size)).trans (hbx.mono (BW.out.trans (HB.out.mono BW.out.size)).size))
              clear hbx
              go_wp2_with fail
              go_ret
              exact ⟨rfl, HX.out⟩
            · have t1 := ne_text hwo
              by_cases hp : 0 < n
              · have he := HLS.out (fun h => by have := HNL.out.1 h; omega) hwo
                rw [he] at H3'
                have t2 := same_text was
                have hfl : (L.filter fun s => !decide (s = one)).length ≤ 20 := Nat.le_trans (List.length_filter_le _ _) (by omega)
                clear he hwo hall
                go_wp2_with fail
                refine H3'.out.mono ?_
                rintro x w1 ⟨rfl, rfl⟩
                go_wp2_with fail
                refine (CA.out _).mono ?_
                rintro x w1 ⟨rfl, hbx⟩
                have HX := Lib.hid ((BW.out.trans (HB.out.mono BW.out.size)).trans (hbx.mono (BW.out.trans (HB.out.mono BW.out.size)).size))
                clear hbx
                go_wp2_with fail
                go_ret
                exact ⟨rfl, HX.out⟩
              · obtain rfl : n = 0 := by omega
                clear hwo hall H3'
                go_wp2_with fail
                refine (CA.out _).mono ?_
                rintro x w1 ⟨rfl, hbx⟩
                have HX := Lib.hid ((BW.out.trans (HB.out.mono BW.out.size)).trans (hbx.mono (BW.out.trans (HB.out.mono BW.out.size)).size))
                clear hbx
                go_wp2_with fail
                go_ret
                exact ⟨rfl, HX.out⟩
theorem pickStays_walk (A : Option Addr) (n c : Nat) (L : List ByteArray) (key one : ByteArray) (w : World) (hnz : n ≤ maxLen) (ha : StrsOfC w A n c L) (hkz : key.size ≤ maxLen) (hoz : one.size ≤ maxLen) :
    Calls Try.prog 8 #[.slice A n c, .string key, .string one] w fun x w' => x = .returned (.bool true) ∧ Below w.heap.size w w' := by
  obtain ⟨⟨hn, ha⟩, hA⟩ := ha
  unfold maxLen at hnz hkz hoz
  have CA := Lib.hid awake32
  have W1 := Lib.hid (few_any ha n c hn hnz)
  by_cases hall : fewB L = true ∧ n ≤ 18 ∧ key.size ≤ 100 ∧ one.size ≤ 100
  · exact stays_main A n c L key one w hn ha hA hall.1 hall.2.1 hall.2.2.1 hall.2.2.2
  · cases hb1 : fewB L with
    | false =>
      rw [hb1] at W1
      clear ha hn hb1 hall hA
      go_enter Try.func8, Try.ntmps8
      go_wp2_with fail
      refine W1.out.mono ?_
      rintro x w1 ⟨rfl, rfl⟩
      go_wp2_with fail
      refine (CA.out _).mono ?_
      rintro x w1 ⟨rfl, hb⟩
      have HB := Lib.hid hb
      clear hb
      go_wp2_with fail
      go_ret
      exact ⟨rfl, HB.out⟩
    | true =>
      rw [hb1] at W1 hall
      have hbad : 18 < n ∨ (n ≤ 18 ∧ 100 < key.size) ∨ (n ≤ 18 ∧ key.size ≤ 100 ∧ 100 < one.size) := by
        by_cases h1 : n ≤ 18
        · by_cases h2 : key.size ≤ 100
          · by_cases h3 : one.size ≤ 100
            · exact absurd ⟨rfl, h1, h2, h3⟩ hall
            · exact .inr (.inr ⟨h1, h2, by omega⟩)
          · exact .inr (.inl ⟨h1, by omega⟩)
        · exact .inl (by omega)
      clear ha hn hb1 hall hA
      rcases hbad with h1 | ⟨h1, h2⟩ | ⟨h1, h2, h3⟩
      all_goals
        go_enter Try.func8, Try.ntmps8
        go_wp2_with fail
        refine W1.out.mono ?_
        rintro x w1 ⟨rfl, rfl⟩
        go_wp2_with fail
        refine (CA.out _).mono ?_
        rintro x w1 ⟨rfl, hb⟩
        have HB := Lib.hid hb
        clear hb
        go_wp2_with fail
        go_ret
        exact ⟨rfl, HB.out⟩
end
end Go.Proofs.Ytbdiajccpcopiaa

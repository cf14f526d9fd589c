/- What is proved here: whether a packet may begin with a byte, by the landed code and by the document's own answer; and a packet's bytes. Conditions: what the rows list of the package's variables; the body's length. -/
import Derived.Test.YtfojoeafhdiaiaaDoorByt
import Derived.Test.YtfojoeafhdiaiaaDoorSays02
import Derived.Test.YtfojoeafhdiaiaaDoorFld04
import Derived.Test.YtfojoeafhdiaiaaDoorRefB03
import Derived.Deep.QuietTactic
import Derived.BigQuiet
import Derived.Deep.RegionHeld3
namespace Go.Proofs.YtfojoeafhdiaiaaDoor
set_option maxRecDepth 100000
open Go.RowKit Go.Extern.Stop Go.Stop Go.Extern
/-- May a packet of a kind have such flags? -/
def mayB (k f : Nat) : Bool := if k = 3 then (f / 2 % 4 != 3) && (f / 2 % 4 != 0 || f / 8 % 2 == 0) else if k = 6 ∨ k = 8 ∨ k = 10 then f == 2 else f == 0
/-- May a packet begin so? -/
def mayI (n : Int) : Bool := decide (16 ≤ n) && (decide (n ≤ 255) && mayB (n / 16).toNat (n % 16).toNat)
theorem a15_fin : ∀ c : Fin 256, bits .and .i64 ((c.val : Nat) : Int) 15 = ((c.val % 16 : Nat) : Int) := by decide +kernel
theorem a6a_fin : ∀ c : Fin 16, (bits .and .i64 ((c.val : Nat) : Int) 6 != 6) = (c.val / 2 % 4 != 3) := by decide +kernel
theorem a6b_fin : ∀ c : Fin 16, (bits .and .i64 ((c.val : Nat) : Int) 6 != 0) = (c.val / 2 % 4 != 0) := by decide +kernel
theorem a8_fin : ∀ c : Fin 16, (bits .and .i64 ((c.val : Nat) : Int) 8 == 0) = (c.val / 8 % 2 == 0) := by decide +kernel
theorem mayhave_any (k f : Nat) (hf : f < 16) (w : World) : Calls Tryd.prog 80 #[.int .i64 k, .int .i64 f] w fun x w' => x = .returned (.bool (mayB k f)) ∧ w = w' := by
  by_cases h3 : k = 3
  · subst h3
    have e : mayB 3 f = ((f / 2 % 4 != 3) && (f / 2 % 4 != 0 || f / 8 % 2 == 0)) := rfl
    rw [e]
    have q1 := a6a_fin ⟨f, hf⟩
    have q2 := a6b_fin ⟨f, hf⟩
    have q3 := a8_fin ⟨f, hf⟩
    simp only at q1 q2 q3
    generalize (f / 2 % 4 != 3) = b1 at *
    generalize (f / 2 % 4 != 0) = b2 at *
    generalize (f / 8 % 2 == 0) = b3 at *
    clear e
    cases b1 <;> cases b2 <;> cases b3
    all_goals go_enter Tryd.func80, Tryd.ntmps80
    all_goals go_wp2
    all_goals go_ret
    all_goals exact ⟨rfl, rfl⟩
  · have b3 : ((k : Int) == 3) = false := beq_eq_false_iff_ne.2 (by omega)
    by_cases h6 : k = 6 ∨ k = 8 ∨ k = 10
    · have e : mayB k f = (f == 2) := by unfold mayB; rw [if_neg h3, if_pos h6]
      have e2 : ((f : Int) == 2) = (f == 2) := by
        by_cases h : f = 2
        · subst h; rfl
        · rw [beq_eq_false_iff_ne.2 h, beq_eq_false_iff_ne.2 (by omega)]
      rw [e]
      generalize (f == 2) = b at *
      clear e h3
      rcases h6 with rfl | rfl | rfl
      all_goals go_enter Tryd.func80, Tryd.ntmps80
      all_goals go_wp2
      all_goals go_ret
      all_goals exact ⟨rfl, rfl⟩
    · have e : mayB k f = (f == 0) := by unfold mayB; rw [if_neg h3, if_neg h6]
      have e2 : ((f : Int) == 0) = (f == 0) := by
        by_cases h : f = 0
        · subst h; rfl
        · rw [beq_eq_false_iff_ne.2 h, beq_eq_false_iff_ne.2 (by omega)]
      have b6 : ((k : Int) == 6) = false := beq_eq_false_iff_ne.2 (by omega)
      have b8 : ((k : Int) == 8) = false := beq_eq_false_iff_ne.2 (by omega)
      have b10 : ((k : Int) == 10) = false := beq_eq_false_iff_ne.2 (by omega)
      rw [e]
      generalize (f == 0) = b at *
      clear e h3 h6
      go_enter Tryd.func80, Tryd.ntmps80
      go_wp2
      go_ret
      exact ⟨rfl, rfl⟩
/-- What Check answers. -/
def ChkSays (w : World) (S : Nat → Addr) (b : Bool) (x : Ending) (w' : World) : Prop := ∃ e, x = .returned e ∧ ErrOf w' S 129 (if b then 0 else 2) 0 e ∧ Below w.heap.size w w'
theorem chk_ok (n : Int) (h : mayI n = true) (w : World) : Calls Tryd.prog 34 #[.int .i64 n] w fun x w' => x = .returned .nilIface ∧ w = w' := by
  unfold mayI at h
  simp only [Bool.and_eq_true, decide_eq_true_iff] at h
  obtain ⟨h1, h2, h3⟩ := h
  obtain ⟨c, rfl⟩ : ∃ c : Nat, n = (c : Int) := ⟨n.toNat, by omega⟩
  have e1 : ((c : Int) / 16).toNat = c / 16 := by omega
  have e2 : ((c : Int) % 16).toNat = c % 16 := by omega
  rw [e1, e2] at h3
  have hm := fun W => mayhave_any (c / 16) (c % 16) (by omega) W
  rw [h3] at hm
  have HM := Lib.hid hm
  have q := a15_fin ⟨c, by omega⟩
  simp only at q
  have hk1 : 1 ≤ c / 16 := by omega
  have hk2 : c / 16 ≤ 15 := by omega
  have hs : (c : Int) / 16 = ((c / 16 : Nat) : Int) := by omega
  clear hm e1 e2 h1 h2 h3
  generalize c / 16 = k at *
  generalize c % 16 = f at *
  go_enter Tryd.func34, Tryd.ntmps34
  go_wp2_with fail
  refine (HM.out _).mono ?_
  rintro x w1 ⟨rfl, rfl⟩
  go_wp2
  go_ret
  exact ⟨rfl, rfl⟩
theorem chk_bad (S : Nat → Addr) (n : Int) (h : mayI n = false) (w : World) (hE : Env w S) : Calls Tryd.prog 34 #[.int .i64 n] w fun x w' => ∃ e, x = .returned e ∧ ErrOf w' S 129 2 0 e ∧ Below w.heap.size w w' := by
  have hk := hE.kMalformed
  have HN := Lib.hid (new_err (w := w) S 1 129 0)
  by_cases h1 : n < 16
  · have d1 : n / 16 < 1 := by omega
    clear h hE
    go_enter Tryd.func34, Tryd.ntmps34
    go_wp2_with fail
    refine HN.out.mono ?_
    rintro x w1 ⟨e, rfl, he, hb⟩
    go_wp2
    go_ret
    exact ⟨_, rfl, ErrOf.some (by omega) (by omega) he, hb⟩
  · by_cases h2 : 255 < n
    · have d1 : 1 ≤ n / 16 := by omega
      have d2 : 15 < n / 16 := by omega
      clear h hE h1 h2
      go_enter Tryd.func34, Tryd.ntmps34
      go_wp2_with fail
      refine HN.out.mono ?_
      rintro x w1 ⟨e, rfl, he, hb⟩
      go_wp2
      go_ret
      exact ⟨_, rfl, ErrOf.some (by omega) (by omega) he, hb⟩
    · unfold mayI at h
      rw [decide_eq_true (show 16 ≤ n by omega), decide_eq_true (show n ≤ 255 by omega), Bool.true_and, Bool.true_and] at h
      obtain ⟨c, rfl⟩ : ∃ c : Nat, n = (c : Int) := ⟨n.toNat, by omega⟩
      have e1 : ((c : Int) / 16).toNat = c / 16 := by omega
      have e2 : ((c : Int) % 16).toNat = c % 16 := by omega
      rw [e1, e2] at h
      have hm := fun W => mayhave_any (c / 16) (c % 16) (by omega) W
      rw [h] at hm
      have HM := Lib.hid hm
      have q := a15_fin ⟨c, by omega⟩
      simp only at q
      have hk1 : 1 ≤ c / 16 := by omega
      have hk2 : c / 16 ≤ 15 := by omega
      have hs : (c : Int) / 16 = ((c / 16 : Nat) : Int) := by omega
      clear hm e1 e2 h1 h2 h
      generalize c / 16 = k at *
      generalize c % 16 = f at *
      go_enter Tryd.func34, Tryd.ntmps34
      go_wp2_with fail
      refine (HM.out _).mono ?_
      rintro x w1 ⟨rfl, rfl⟩
      go_wp2_with fail
      refine HN.out.mono ?_
      rintro x w1 ⟨e, rfl, he, hb⟩
      go_wp2
      go_ret
      exact ⟨_, rfl, ErrOf.some (by omega) (by omega) he, hb⟩
/-- The document's own answer. -/
theorem rmay_any (n : Int) (w : World) : Calls Tryd.prog 35 #[.int .i64 n] w fun x w' => x = .returned (.bool (mayI n)) ∧ w = w' := by
  by_cases h1 : n < 16
  · have e : mayI n = false := by unfold mayI; rw [decide_eq_false (by omega)]; rfl
    rw [e]
    go_enter Tryd.func35, Tryd.ntmps35
    go_wp2
    go_ret
    exact ⟨rfl, rfl⟩
  · by_cases h2 : 255 < n
    · have e : mayI n = false := by unfold mayI; rw [decide_eq_true (show 16 ≤ n by omega), decide_eq_false (show ¬ n ≤ 255 by omega)]; rfl
      rw [e]
      have h1' : 16 ≤ n := by omega
      clear h1
      go_enter Tryd.func35, Tryd.ntmps35
      go_wp2
      go_ret
      exact ⟨rfl, rfl⟩
    · have e : mayI n = mayB (n / 16).toNat (n % 16).toNat := by unfold mayI; rw [decide_eq_true (show 16 ≤ n by omega), decide_eq_true (show n ≤ 255 by omega)]; rfl
      obtain ⟨c, rfl⟩ : ∃ c : Nat, n = (c : Int) := ⟨n.toNat, by omega⟩
      have e1 : ((c : Int) / 16).toNat = c / 16 := by omega
      have e2 : ((c : Int) % 16).toNat = c % 16 := by omega
      rw [e, e1, e2]
      have g1 : decide ((c : Int) < 16) = false := decide_eq_false h1
      have g2 : decide (255 < (c : Int)) = false := decide_eq_false h2
      have g3 : (c : Int) / 16 = ((c / 16 : Nat) : Int) := by omega
      have g4 : (c : Int) % 16 = ((c % 16 : Nat) : Int) := by omega
      have g5 : (c : Int).tmod 16 = ((c % 16 : Nat) : Int) := by rw [← g4]; exact Int.tmod_eq_emod_of_nonneg (by omega)
      have g6 : (c : Int).tdiv 16 = ((c / 16 : Nat) : Int) := by rw [← g3]; exact Int.tdiv_eq_ediv_of_nonneg (by omega)
      have hf : c % 16 < 16 := Nat.mod_lt _ (by omega)
      have hk15 : c / 16 ≤ 15 := by omega
      clear e e1 e2 h1 h2
      generalize c / 16 = k at *
      generalize c % 16 = f at *
      by_cases h3 : k = 3
      · subst h3
        have e : mayB 3 f = ((f / 2 % 4 != 3) && (f / 2 % 4 != 0 || f / 8 % 2 == 0)) := rfl
        have q1 : (f : Int) / 2 % 4 = ((f / 2 % 4 : Nat) : Int) := by omega
        have q8 : (f / 8 % 2 == 0) = !decide (8 ≤ (f : Int)) := by
          by_cases h : 8 ≤ f
          · rw [decide_eq_true (by omega), beq_eq_false_iff_ne.2 (by omega)]; rfl
          · rw [decide_eq_false (by omega), beq_iff_eq.2 (by omega)]; rfl
        have q3 : (((f / 2 % 4 : Nat) : Int) != 3) = (f / 2 % 4 != 3) := by
          by_cases h : f / 2 % 4 = 3
          · rw [h]; rfl
          · rw [bne_iff_ne.2 h, bne_iff_ne.2 (by omega)]
        have q0 : (((f / 2 % 4 : Nat) : Int) == 0) = !(f / 2 % 4 != 0) := by
          by_cases h : f / 2 % 4 = 0
          · rw [h]; rfl
          · rw [bne_iff_ne.2 h, beq_eq_false_iff_ne.2 (by omega)]; rfl
        rw [e, q8]
        generalize (f / 2 % 4 != 3) = b1 at *
        generalize (f / 2 % 4 != 0) = b2 at *
        generalize hb3 : decide (8 ≤ (f : Int)) = b3 at *
        generalize f / 2 % 4 = qs at *
        clear e q8
        cases b1 <;> cases b2 <;> cases b3
        all_goals go_enter Tryd.func35, Tryd.ntmps35
        all_goals go_wp2
        all_goals go_ret
        all_goals exact ⟨rfl, rfl⟩
      · have b3 : ((k : Int) == 3) = false := beq_eq_false_iff_ne.2 (by omega)
        by_cases h6 : k = 6 ∨ k = 8 ∨ k = 10
        · have e : mayB k f = (f == 2) := by unfold mayB; rw [if_neg h3, if_pos h6]
          have e2 : ((f : Int) == 2) = (f == 2) := by
            by_cases h : f = 2
            · subst h; rfl
            · rw [beq_eq_false_iff_ne.2 h, beq_eq_false_iff_ne.2 (by omega)]
          rw [e]
          generalize (f == 2) = b at *
          clear e h3
          rcases h6 with rfl | rfl | rfl
          all_goals go_enter Tryd.func35, Tryd.ntmps35
          all_goals go_wp2
          all_goals go_ret
          all_goals exact ⟨rfl, rfl⟩
        · have e : mayB k f = (f == 0) := by unfold mayB; rw [if_neg h3, if_neg h6]
          have e2 : ((f : Int) == 0) = (f == 0) := by
            by_cases h : f = 0
            · subst h; rfl
            · rw [beq_eq_false_iff_ne.2 h, beq_eq_false_iff_ne.2 (by omega)]
          have b6 : ((k : Int) == 6) = false := beq_eq_false_iff_ne.2 (by omega)
          have b8 : ((k : Int) == 8) = false := beq_eq_false_iff_ne.2 (by omega)
          have b10 : ((k : Int) == 10) = false := beq_eq_false_iff_ne.2 (by omega)
          rw [e]
          generalize (f == 0) = b at *
          clear e h3 h6
          go_enter Tryd.func35, Tryd.ntmps35
          go_wp2
          go_ret
          exact ⟨rfl, rfl⟩
/-- A packet's bytes. -/
def encF (c : Nat) (body : ByteArray) : List UInt8 := UInt8.ofNat c :: (vb body.size ++ body.data.toList)
theorem encF_cat (c : Nat) (body : ByteArray) : (⟨[UInt8.ofNat c].toArray⟩ : ByteArray) ++ ⟨(vb body.size).toArray⟩ ++ body = ⟨(encF c body).toArray⟩ := by
  apply ba_eq
  unfold encF
  simp
/-- What stands in a block that a call made. -/
theorem box_cell {w : World} {t : TypeId} {cs : Array Value} (i : Nat) : (w.alloc (.cells cs t)).cell? ⟨w.heap.size, i, none⟩ = cs[i]? := (Blk.made w t cs).cell i
theorem fput_bad (S : Nat → Addr) (n : Int) (body : ByteArray) (h : mayI n = false) (w : World) (hE : Env w S) :
    Calls Tryd.prog 31 #[.agg #[.int .i64 n, .string body]] w fun x w' => ∃ e, x = .returned (.tuple #[.string ⟨#[]⟩, e]) ∧ ErrOf w' S 129 2 0 e ∧ Below w.heap.size w w' := by
  have hb0 : Below w.heap.size w (w.alloc (.cells #[.int .i64 n, .string body] 61)) := (Below.refl _ _).alloc (Nat.le_refl _) _
  have HC := Lib.hid (chk_bad S n h _ (hE.later hb0))
  have HB := Lib.hid hb0
  clear h hE hb0
  go_enter Tryd.func31, Tryd.ntmps31
  go_wp2_with fail
  refine HC.out.mono ?_
  rintro x w1 ⟨e, rfl, he, hb⟩
  obtain ⟨t, u, rfl⟩ := err_iface he (by omega)
  have HX := Lib.hid he
  have HB2 := Lib.hid (HB.out.trans (hb.mono HB.out.size))
  clear he hb HC HB
  go_wp2
  go_ret2
  exact ⟨_, rfl, HX.out, HB2.out⟩
theorem fput_ok (c : Nat) (body : ByteArray) (h : mayI c = true) (hs : body.size ≤ 65535) (w : World) :
    Calls Tryd.prog 31 #[.agg #[.int .i64 c, .string body]] w fun x w' => x = .returned (.tuple #[.string ⟨(encF c body).toArray⟩, .nilIface]) ∧ Below w.heap.size w w' := by
  have hb0 : Below w.heap.size w (w.alloc (.cells #[.int .i64 c, .string body] 61)) := (Below.refl _ _).alloc (Nat.le_refl _) _
  have hc : c < 256 := by
    unfold mayI at h
    simp only [Bool.and_eq_true, decide_eq_true_iff] at h
    omega
  have HC := Lib.hid (fun W => chk_ok c h W)
  have HP := Lib.hid (fun W => vi_put_in body.size W (by omega))
  have hv := vb_len body.size (by omega)
  have hcv : ∀ W : World, (convert 26 9 (.slice (some ⟨W.heap.size, 0, none⟩) 1 1)).run Tryd.prog (W.alloc (.cells #[.int .u8 (c : Int)] 5)) = .ok (.string ⟨[UInt8.ofNat c].toArray⟩) (W.alloc (.cells #[.int .u8 (c : Int)] 5)) := fun W =>
    conv_cells W [UInt8.ofNat c] #[.int .u8 (c : Int)] (by rw [List.map_singleton, byteV_ofNat hc])
  have hcat := encF_cat c body
  have z1 : (⟨[UInt8.ofNat c].toArray⟩ : ByteArray).size = 1 := rfl
  have z2 : (⟨(vb body.size).toArray⟩ : ByteArray).size = (vb body.size).length := bsize _
  rw [← hcat]
  have hz : body.size ≤ 9223372036854775807 := by omega
  generalize (⟨[UInt8.ofNat c].toArray⟩ : ByteArray) = a1 at *
  generalize (⟨(vb body.size).toArray⟩ : ByteArray) = a2 at *
  obtain ⟨a3, hr1, he1, hz1⟩ := cat_run a1 a2 (by omega)
  obtain ⟨a4, hr2, he2, _⟩ := cat_run a3 body (by omega)
  rw [← he1, ← he2]
  have HB := Lib.hid hb0
  have HS := Lib.hid hs
  have KC := Lib.hid (fun (W : World) (hb : Below (w.alloc (.cells #[.int .i64 c, .string body] 61)).heap.size (w.alloc (.cells #[.int .i64 c, .string body] 61)) W) => show W.cell? ⟨w.heap.size, 0, none⟩ = some (.int .i64 c) ∧ W.cell? ⟨w.heap.size, 1, none⟩ = some (.string body) from by
    have h1 := (Blk.made w 61 #[.int .i64 c, .string body]).below hb (Blk.made w 61 #[.int .i64 c, .string body]).lt
    exact ⟨h1.cell 0, h1.cell 1⟩)
  have hcl : (0 : Int) ≤ (c : Int) := by omega
  have hcu : (c : Int) < 256 := by omega
  clear h hb0 hv hcat he1 he2 z1 z2 hz1 hs hc
  go_enter Tryd.func31, Tryd.ntmps31
  go_wp2_with fail
  refine (HC.out _).mono ?_
  rintro x w1 ⟨rfl, rfl⟩
  go_wp2_with fail
  refine (HP.out _).mono ?_
  rintro x w1 ⟨rfl, hb⟩
  obtain ⟨c0, c1⟩ := KC.out _ hb
  obtain ⟨_, c2⟩ := KC.out (w1.alloc (.cells #[.int .u8 (c : Int)] 5)) (hb.alloc hb.size _)
  have HB1 := Lib.hid (HB.out.trans (hb.mono HB.out.size))
  clear hb
  go_wp2_with fail
  go_ret2
  exact ⟨rfl, HB1.out.alloc HB1.out.size _⟩
theorem rput_bad (n : Int) (body : ByteArray) (h : mayI n = false) (w : World) :
    Calls Tryd.prog 32 #[.agg #[.int .i64 n, .string body]] w fun x w' => x = .returned (.tuple #[.string ⟨#[]⟩, .agg #[.int .i64 2, .int .i64 129, .int .i64 0]]) ∧ Below w.heap.size w w' := by
  have hm := fun W => rmay_any n W
  rw [h] at hm
  have HM := Lib.hid hm
  have hb0 : Below w.heap.size w ((w.alloc (.cells #[.int .i64 n, .string body] 61)).alloc (.cells #[.int .i64 2, .int .i64 129, .int .i64 0] 63)) := ((Below.refl _ _).alloc (Nat.le_refl _) _).alloc (by rw [World.size_alloc]; omega) _
  have HB := Lib.hid hb0
  clear hm h hb0
  go_enter Tryd.func32, Tryd.ntmps32
  go_wp2_with fail
  refine (HM.out _).mono ?_
  rintro x w1 ⟨rfl, rfl⟩
  go_wp2_with fail
  have hr := Blk.made (w.alloc (.cells #[.int .i64 n, .string body] 61)) 63 #[.int .i64 2, .int .i64 129, .int .i64 0]
  rw [World.size_alloc] at hr
  have e0 := hr.cell 0
  have e1 := hr.cell 1
  have e2 := hr.cell 2
  exact bodyPost_ret (v := .tuple #[.string ⟨#[]⟩, .agg #[.int .i64 2, .int .i64 129, .int .i64 0]]) (by simp [results, Tryd.results32, go_sem, e0, e1, e2]) rfl ⟨rfl, HB.out⟩
theorem rput_ok (c : Nat) (body : ByteArray) (h : mayI c = true) (hs : body.size ≤ 65535) (w : World) :
    Calls Tryd.prog 32 #[.agg #[.int .i64 c, .string body]] w fun x w' => x = .returned (.tuple #[.string ⟨(encF c body).toArray⟩, .agg #[.int .i64 0, .int .i64 0, .int .i64 0]]) ∧ Below w.heap.size w w' := by
  have hc : c < 256 := by
    unfold mayI at h
    simp only [Bool.and_eq_true, decide_eq_true_iff] at h
    omega
  have hm := fun W => rmay_any c W
  rw [h] at hm
  have HM := Lib.hid hm
  have HP := Lib.hid (fun W => ref_put body.size (by omega) W)
  have hv := vb_len body.size (by omega)
  have hcv : ∀ W : World, (convert 26 9 (.slice (some ⟨W.heap.size, 0, none⟩) 1 1)).run Tryd.prog (W.alloc (.cells #[.int .u8 (c : Int)] 5)) = .ok (.string ⟨[UInt8.ofNat c].toArray⟩) (W.alloc (.cells #[.int .u8 (c : Int)] 5)) := fun W =>
    conv_cells W [UInt8.ofNat c] #[.int .u8 (c : Int)] (by rw [List.map_singleton, byteV_ofNat hc])
  have hcat := encF_cat c body
  have z1 : (⟨[UInt8.ofNat c].toArray⟩ : ByteArray).size = 1 := rfl
  have z2 : (⟨(vb body.size).toArray⟩ : ByteArray).size = (vb body.size).length := bsize _
  rw [← hcat]
  have hz : body.size ≤ 9223372036854775807 := by omega
  generalize (⟨[UInt8.ofNat c].toArray⟩ : ByteArray) = a1 at *
  generalize (⟨(vb body.size).toArray⟩ : ByteArray) = a2 at *
  obtain ⟨a3, hr1, he1, hz1⟩ := cat_run a1 a2 (by omega)
  obtain ⟨a4, hr2, he2, _⟩ := cat_run a3 body (by omega)
  rw [← he1, ← he2]
  have hb1 : Below w.heap.size w (w.alloc (.cells #[.int .i64 c, .string body] 61)) := (Below.refl _ _).alloc (Nat.le_refl _) _
  have hb0 : Below w.heap.size w ((w.alloc (.cells #[.int .i64 c, .string body] 61)).alloc (.cells #[.int .i64 0, .int .i64 0, .int .i64 0] 63)) := hb1.alloc hb1.size _
  have HB := Lib.hid hb0
  have ha := (Blk.made w 61 #[.int .i64 c, .string body]).alloc (.cells #[.int .i64 0, .int .i64 0, .int .i64 0] 63)
  have hf := Blk.made (w.alloc (.cells #[.int .i64 c, .string body] 61)) 63 #[.int .i64 0, .int .i64 0, .int .i64 0]
  have hsz2 : ((w.alloc (.cells #[.int .i64 c, .string body] 61)).alloc (.cells #[.int .i64 0, .int .i64 0, .int .i64 0] 63)).heap.size = w.heap.size + 2 := by simp
  rw [World.size_alloc] at hf
  have HSZ := Lib.hid hsz2
  have HA := Lib.hid ha
  have HF := Lib.hid hf
  have hcl : (0 : Int) ≤ (c : Int) := by omega
  have hcu : (c : Int) < 256 := by omega
  clear h hb0 hb1 hv hcat he1 he2 z1 z2 hz1 hs hc hm ha hf hsz2
  go_enter Tryd.func32, Tryd.ntmps32
  go_wp2_with fail
  refine (HM.out _).mono ?_
  rintro x w1 ⟨rfl, rfl⟩
  have c0 := HA.out.cell 1
  go_wp2_with fail
  refine (HP.out _).mono ?_
  rintro x w1 ⟨rfl, hb⟩
  have ha1 := HA.out.below hb HA.out.lt
  have hf1 := HF.out.below hb HF.out.lt
  have c1 := ha1.cell 0
  have c2 := ha1.cell 1
  have hf2 := hf1.alloc (.cells #[.int .u8 (c : Int)] 5)
  have c3 := (ha1.alloc (.cells #[.int .u8 (c : Int)] 5)).cell 1
  have d0 := hf2.cell 0
  have d1 := hf2.cell 1
  have d2 := hf2.cell 2
  have f0 := hf2.frozen 0
  have f1 := hf2.frozen 1
  have f2 := hf2.frozen 2
  have HB1 := Lib.hid (HB.out.trans (hb.mono HB.out.size))
  have HF2 := Lib.hid hf2
  clear hb ha1 hf1 hf2
  go_wp2_with fail
  have hfin := ((HF2.out.store 0 (.int .i64 0)).store 1 (.int .i64 0)).store 2 (.int .i64 0)
  have e0 := hfin.cell 0
  have e1 := hfin.cell 1
  have e2 := hfin.cell 2
  refine bodyPost_ret (v := .tuple #[.string a4, .agg #[.int .i64 0, .int .i64 0, .int .i64 0]]) (by simp [results, Tryd.results32, go_sem, e0, e1, e2]) rfl ⟨rfl, ?_⟩
  exact (((HB1.out.alloc HB1.out.size _).setCell (by simp) _).setCell (by simp) _).setCell (by simp) _
structure SmIn (w W : World) (S : Nat → Addr) (no a : Nat) (r : Int) (e : Value) (g : Nat) : Prop where
  er : ErrOf W S r no a e
  env : Env W S
  box : Blk W g 63 #[.int .i64 no, .int .i64 r, .int .i64 a]
  bel : Below w.heap.size w W
theorem SmIn.below {w W W' : World} {S : Nat → Addr} {no a : Nat} {r : Int} {e : Value} {g : Nat} (h : SmIn w W S no a r e g) (hb : Below W.heap.size W W') : SmIn w W' S no a r e g := ⟨h.er.later hb, h.env.later hb, h.box.below hb h.box.lt, h.bel.trans (hb.mono h.bel.size)⟩
theorem SmIn.drewN {w W : World} {S : Nat → Addr} {no a : Nat} {r : Int} {e : Value} {g : Nat} (h : SmIn w W S no a r e g) (d : Nat) : SmIn w (W.drewN d) S no a r e g := h.below (below_drewN (Below.refl _ _) d)
/-- An error and the document's, that are the same. -/
theorem same07 (S : Nat → Addr) (no a : Nat) (r : Int) (e : Value) (w : World) (hE : Env w S) (he : ErrOf w S r no a e) :
    Calls Tryd.prog 33 #[e, .agg #[.int .i64 no, .int .i64 r, .int .i64 a]] w fun x w' => x = .returned (.bool true) ∧ Below w.heap.size w w' := by
  have hb0 : Below w.heap.size w (w.alloc (.cells #[.int .i64 no, .int .i64 r, .int .i64 a] 63)) := (Below.refl _ _).alloc (Nat.le_refl _) _
  have hi0 : SmIn w (w.alloc (.cells #[.int .i64 no, .int .i64 r, .int .i64 a] 63)) S no a r e w.heap.size := ⟨he.later hb0, hE.later hb0, Blk.made w 63 _, hb0⟩
  have KT := Lib.hid (fun (W : World) (h : SmIn w W S no a r e w.heap.size) => show W.cell? ⟨w.heap.size, 0, none⟩ = some (.int .i64 no) ∧ W.cell? ⟨w.heap.size, 1, none⟩ = some (.int .i64 r) ∧ W.cell? ⟨w.heap.size, 2, none⟩ = some (.int .i64 a) from ⟨h.box.cell 0, h.box.cell 1, h.box.cell 2⟩)
  have D14 := Lib.hid (fun (W : World) (h : SmIn w W S no a r e w.heap.size) => (number_of h.env h.er).mono fun x w' hx => show x = Ending.returned (.int .i64 no) ∧ SmIn w w' S no a r e w.heap.size from ⟨hx.1, h.below hx.2⟩)
  obtain ⟨t0, t1, t2⟩ := KT.out _ hi0
  by_cases h0 : no = 0
  · subst h0
    have he0 := he
    clear he hE hb0
    go_enter Tryd.func33, Tryd.ntmps33
    go_wp2_with fail
    obtain rfl : e = .nilIface := he0
    refine wp_region_held_drew (S := (fun W => SmIn w W S 0 a r .nilIface w.heap.size)) (by kernel_rfl) ?_ (fun hHeld => ?_)
    · (first | assumption | exact SmIn.drewN (by assumption) 1)
    refine wpAnyH_take (i := 0) (oi := { dst := some 5, op := Op.move (Operand.tmp 0), type := 28, pos := _, after := _, guard := none }) (v := .nilIface) rfl (by kernel_rfl) (by kernel_rfl) (by kernel_rfl) (fun _ _ _ h => h) (Or.inl ⟨by rfl, fun w' _ => ?_⟩) (by assumption) ?_
    · go_simp
    simp only [Act.put, List.setIfInBounds_toArray, List.set_cons_zero, List.set_cons_succ]
    refine wpAnyH_take (i := 2) (oi := { dst := some 7, op := Op.fieldAddr 63 (Operand.tmp 3) 0, type := 0, pos := _, after := _, guard := none }) (v := .pointer (some ⟨w.heap.size, 0, none⟩)) rfl (by kernel_rfl) (by kernel_rfl) (by kernel_rfl) (fun _ _ _ h => h) (Or.inl ⟨by rfl, fun w' _ => ?_⟩) (by assumption) ?_
    · go_simp
    simp only [Act.put, List.setIfInBounds_toArray, List.set_cons_zero, List.set_cons_succ]
    refine wpAnyH_take (i := 3) (oi := { dst := some 8, op := Op.load 32 (Operand.tmp 7), type := 32, pos := _, after := _, guard := none }) (v := .int .i64 ((0 : Nat) : Int)) rfl (by kernel_rfl) (by kernel_rfl) (by kernel_rfl) (fun _ _ _ h => h) (Or.inl ⟨by rfl, fun w' hSw => ?_⟩) (by assumption) ?_
    · (obtain ⟨x0, x1, x2⟩ := KT.out _ hSw; go_simp)
    simp only [Act.put, List.setIfInBounds_toArray, List.set_cons_zero, List.set_cons_succ]
    refine wpAnyH_ready (rs := [1]) (by kernel_rfl) (by simp) ?_
    refine AllReadyH.cons (o := { dst := some 6, op := Op.call { callee := Callee.value (Operand.func 14), args := #[Operand.tmp 5], argTypes := #[28] }, type := 32, pos := _, after := _, guard := none }) rfl (fun K hK => ?_) AllReadyH.nil
    go_simp
    refine (D14.out _ (by assumption)).mono ?_
    rintro x w6 ⟨rfl, hi6⟩
    go_wp2_with fail
    refine hK.out _ _ ?_ (fun hHeld1 => ?_)
    · (first | assumption | exact SmIn.drewN (by assumption) 1)
    clear hK K
    try simp only [Act.put, List.setIfInBounds_toArray, List.set_cons_zero, List.set_cons_succ]
    refine wpAnyH_take (i := 4) (oi := { dst := some 9, op := Op.binOp BinOp.eql 32 (Operand.tmp 6) (Operand.tmp 8) 32, type := 4, pos := _, after := _, guard := none }) (v := .bool true) rfl (by kernel_rfl) (by kernel_rfl) (by kernel_rfl) (fun _ _ _ h => h) (Or.inl ⟨by rfl, fun w' _ => ?_⟩) (by assumption) ?_
    · go_simp
    simp only [Act.put, List.setIfInBounds_toArray, List.set_cons_zero, List.set_cons_succ]
    refine wpAnyH_take (i := 5) (oi := { dst := some 10, op := Op.move (Operand.tmp 9), type := 4, pos := _, after := _, guard := none }) (v := .bool true) rfl (by kernel_rfl) (by kernel_rfl) (by kernel_rfl) (fun _ _ _ h => h) (Or.inl ⟨by rfl, fun w' _ => ?_⟩) (by assumption) ?_
    · go_simp
    simp only [Act.put, List.setIfInBounds_toArray, List.set_cons_zero, List.set_cons_succ]
    refine wpAnyH_take (i := 6) (oi := { dst := some 11, op := Op.fieldAddr 63 (Operand.tmp 3) 0, type := 0, pos := _, after := _, guard := some (5, true) }) (v := .pointer (some ⟨w.heap.size, 0, none⟩)) rfl (by kernel_rfl) (by kernel_rfl) (by kernel_rfl) (fun _ _ _ h => h) (Or.inl ⟨by rfl, fun w' _ => ?_⟩) (by assumption) ?_
    · go_simp
    simp only [Act.put, List.setIfInBounds_toArray, List.set_cons_zero, List.set_cons_succ]
    refine wpAnyH_take (i := 7) (oi := { dst := some 12, op := Op.load 32 (Operand.tmp 11), type := 32, pos := _, after := _, guard := some (5, true) }) (v := .int .i64 ((0 : Nat) : Int)) rfl (by kernel_rfl) (by kernel_rfl) (by kernel_rfl) (fun _ _ _ h => h) (Or.inl ⟨by rfl, fun w' hSw => ?_⟩) (by assumption) ?_
    · (obtain ⟨x0, x1, x2⟩ := KT.out _ hSw; go_simp)
    simp only [Act.put, List.setIfInBounds_toArray, List.set_cons_zero, List.set_cons_succ]
    refine wpAnyH_take (i := 8) (oi := { dst := some 13, op := Op.binOp BinOp.eql 32 (Operand.tmp 12) (Operand.const (Value.int IntKind.i64 0)) 32, type := 4, pos := _, after := _, guard := some (5, true) }) (v := .bool true) rfl (by kernel_rfl) (by kernel_rfl) (by kernel_rfl) (fun _ _ _ h => h) (Or.inl ⟨by rfl, fun w' _ => ?_⟩) (by assumption) ?_
    · go_simp
    simp only [Act.put, List.setIfInBounds_toArray, List.set_cons_zero, List.set_cons_succ]
    refine wpAnyH_take (i := 9) (oi := { dst := some 14, op := Op.move (Operand.tmp 13), type := 4, pos := _, after := _, guard := some (5, true) }) (v := .bool true) rfl (by kernel_rfl) (by kernel_rfl) (by kernel_rfl) (fun _ _ _ h => h) (Or.inl ⟨by rfl, fun w' _ => ?_⟩) (by assumption) ?_
    · go_simp
    simp only [Act.put, List.setIfInBounds_toArray, List.set_cons_zero, List.set_cons_succ]
    refine wpAnyH_take (i := 10) (oi := { dst := some 15, op := Op.move (Operand.tmp 0), type := 28, pos := _, after := _, guard := some (9, false) }) (v := undef) rfl (by kernel_rfl) (by kernel_rfl) (by kernel_rfl) (fun _ _ _ h => h) (Or.inr ⟨by rfl, rfl⟩) (by assumption) ?_
    simp only [Act.put, List.setIfInBounds_toArray, List.set_cons_zero, List.set_cons_succ]
    refine wpAnyH_take (i := 11) (oi := { dst := some 16, op := Op.call { callee := Callee.value (Operand.func 15), args := #[Operand.tmp 15], argTypes := #[28] }, type := 3, pos := _, after := _, guard := some (9, false) }) (v := undef) rfl (by kernel_rfl) (by kernel_rfl) (by kernel_rfl) (fun _ _ _ h => h) (Or.inr ⟨by rfl, rfl⟩) (by assumption) ?_
    simp only [Act.put, List.setIfInBounds_toArray, List.set_cons_zero, List.set_cons_succ]
    refine wpAnyH_take (i := 12) (oi := { dst := some 17, op := Op.fieldAddr 63 (Operand.tmp 3) 1, type := 0, pos := _, after := _, guard := some (9, false) }) (v := undef) rfl (by kernel_rfl) (by kernel_rfl) (by kernel_rfl) (fun _ _ _ h => h) (Or.inr ⟨by rfl, rfl⟩) (by assumption) ?_
    simp only [Act.put, List.setIfInBounds_toArray, List.set_cons_zero, List.set_cons_succ]
    refine wpAnyH_take (i := 13) (oi := { dst := some 18, op := Op.load 3 (Operand.tmp 17), type := 3, pos := _, after := _, guard := some (9, false) }) (v := undef) rfl (by kernel_rfl) (by kernel_rfl) (by kernel_rfl) (fun _ _ _ h => h) (Or.inr ⟨by rfl, rfl⟩) (by assumption) ?_
    simp only [Act.put, List.setIfInBounds_toArray, List.set_cons_zero, List.set_cons_succ]
    refine wpAnyH_take (i := 14) (oi := { dst := some 19, op := Op.binOp BinOp.eql 3 (Operand.tmp 16) (Operand.tmp 18) 3, type := 4, pos := _, after := _, guard := some (9, false) }) (v := undef) rfl (by kernel_rfl) (by kernel_rfl) (by kernel_rfl) (fun _ _ _ h => h) (Or.inr ⟨by rfl, rfl⟩) (by assumption) ?_
    simp only [Act.put, List.setIfInBounds_toArray, List.set_cons_zero, List.set_cons_succ]
    refine wpAnyH_take (i := 15) (oi := { dst := some 20, op := Op.move (Operand.tmp 19), type := 4, pos := _, after := _, guard := some (9, false) }) (v := undef) rfl (by kernel_rfl) (by kernel_rfl) (by kernel_rfl) (fun _ _ _ h => h) (Or.inr ⟨by rfl, rfl⟩) (by assumption) ?_
    simp only [Act.put, List.setIfInBounds_toArray, List.set_cons_zero, List.set_cons_succ]
    refine wpAnyH_take (i := 16) (oi := { dst := some 21, op := Op.move (Operand.tmp 0), type := 28, pos := _, after := _, guard := some (15, true) }) (v := undef) rfl (by kernel_rfl) (by kernel_rfl) (by kernel_rfl) (fun _ _ _ h => h) (Or.inr ⟨by rfl, rfl⟩) (by assumption) ?_
    simp only [Act.put, List.setIfInBounds_toArray, List.set_cons_zero, List.set_cons_succ]
    refine wpAnyH_take (i := 17) (oi := { dst := some 22, op := Op.call { callee := Callee.value (Operand.func 16), args := #[Operand.tmp 21], argTypes := #[28] }, type := 3, pos := _, after := _, guard := some (15, true) }) (v := undef) rfl (by kernel_rfl) (by kernel_rfl) (by kernel_rfl) (fun _ _ _ h => h) (Or.inr ⟨by rfl, rfl⟩) (by assumption) ?_
    simp only [Act.put, List.setIfInBounds_toArray, List.set_cons_zero, List.set_cons_succ]
    refine wpAnyH_take (i := 18) (oi := { dst := some 23, op := Op.fieldAddr 63 (Operand.tmp 3) 2, type := 0, pos := _, after := _, guard := some (15, true) }) (v := undef) rfl (by kernel_rfl) (by kernel_rfl) (by kernel_rfl) (fun _ _ _ h => h) (Or.inr ⟨by rfl, rfl⟩) (by assumption) ?_
    simp only [Act.put, List.setIfInBounds_toArray, List.set_cons_zero, List.set_cons_succ]
    refine wpAnyH_take (i := 19) (oi := { dst := some 24, op := Op.load 3 (Operand.tmp 23), type := 3, pos := _, after := _, guard := some (15, true) }) (v := undef) rfl (by kernel_rfl) (by kernel_rfl) (by kernel_rfl) (fun _ _ _ h => h) (Or.inr ⟨by rfl, rfl⟩) (by assumption) ?_
    simp only [Act.put, List.setIfInBounds_toArray, List.set_cons_zero, List.set_cons_succ]
    refine wpAnyH_take (i := 20) (oi := { dst := some 25, op := Op.binOp BinOp.eql 3 (Operand.tmp 22) (Operand.tmp 24) 3, type := 4, pos := _, after := _, guard := some (15, true) }) (v := undef) rfl (by kernel_rfl) (by kernel_rfl) (by kernel_rfl) (fun _ _ _ h => h) (Or.inr ⟨by rfl, rfl⟩) (by assumption) ?_
    simp only [Act.put, List.setIfInBounds_toArray, List.set_cons_zero, List.set_cons_succ]
    refine wpAnyH_take (i := 21) (oi := { dst := some 26, op := Op.pick (Operand.tmp 20) (Operand.tmp 25) (Operand.const (Value.bool false)), type := 4, pos := _, after := _, guard := some (9, false) }) (v := undef) rfl (by kernel_rfl) (by kernel_rfl) (by kernel_rfl) (fun _ _ _ h => h) (Or.inr ⟨by rfl, rfl⟩) (by assumption) ?_
    simp only [Act.put, List.setIfInBounds_toArray, List.set_cons_zero, List.set_cons_succ]
    refine wpAnyH_take (i := 22) (oi := { dst := some 27, op := Op.pick (Operand.tmp 14) (Operand.const (Value.bool true)) (Operand.tmp 26), type := 4, pos := _, after := _, guard := some (5, true) }) (v := .bool true) rfl (by kernel_rfl) (by kernel_rfl) (by kernel_rfl) (fun _ _ _ h => h) (Or.inl ⟨by rfl, fun w' _ => ?_⟩) (by assumption) ?_
    · go_simp
    simp only [Act.put, List.setIfInBounds_toArray, List.set_cons_zero, List.set_cons_succ]
    refine wpAnyH_take (i := 23) (oi := { dst := some 28, op := Op.pick (Operand.tmp 10) (Operand.tmp 27) (Operand.const (Value.bool false)), type := 4, pos := _, after := _, guard := none }) (v := .bool true) rfl (by kernel_rfl) (by kernel_rfl) (by kernel_rfl) (fun _ _ _ h => h) (Or.inl ⟨by rfl, fun w' _ => ?_⟩) (by assumption) ?_
    · go_simp
    simp only [Act.put, List.setIfInBounds_toArray, List.set_cons_zero, List.set_cons_succ]
    refine wpAnyH_take (i := 24) (oi := { dst := some 4, op := Op.assign (Operand.tmp 28), type := 4, pos := _, after := _, guard := none }) (v := .bool true) rfl (by kernel_rfl) (by kernel_rfl) (by kernel_rfl) (fun _ _ _ h => h) (Or.inl ⟨by rfl, fun w' _ => ?_⟩) (by assumption) ?_
    · go_simp
    simp only [Act.put, List.setIfInBounds_toArray, List.set_cons_zero, List.set_cons_succ]
    refine wpAnyH_done (by kernel_rfl) ?_ _
    have HI := Lib.hid hi6.bel
    clear hi6 t0 t1 t2
    go_wp2_with fail
    go_ret
    exact ⟨rfl, HI.out⟩
  · have z0 : ((no : Int) == 0) = false := beq_eq_false_iff_ne.2 (by omega)
    have D15 := Lib.hid (fun (W : World) (h : SmIn w W S no a r e w.heap.size) => (reason_err h.env (h.er.is h0)).mono fun x w' hx => show x = Ending.returned (.int .i64 r) ∧ SmIn w w' S no a r e w.heap.size from ⟨hx.1, h.below hx.2⟩)
    have D16 := Lib.hid (fun (W : World) (h : SmIn w W S no a r e w.heap.size) => (at_err h.env (h.er.is h0)).mono fun x w' hx => show x = Ending.returned (.int .i64 a) ∧ SmIn w w' S no a r e w.heap.size from ⟨hx.1, h.below hx.2⟩)
    clear he hE hb0
    go_enter Tryd.func33, Tryd.ntmps33
    go_wp2_with fail
    go_region_held3 (fun W => W.cell? ⟨w.heap.size, 0, none⟩ = some (.int .i64 no) ∧ W.cell? ⟨w.heap.size, 1, none⟩ = some (.int .i64 r) ∧ W.cell? ⟨w.heap.size, 2, none⟩ = some (.int .i64 a))
      (first | assumption | (exact KT.out _ (by assumption)) | (exact KT.out _ (SmIn.drewN (by assumption) 1)))
      (first
      | (go_at_call 14; (with_reducible refine (D14.out _ ?_).mono ?_); (first | assumption | exact SmIn.drewN (by assumption) 1); rintro x w6 ⟨rfl, hi6⟩)
      | (go_at_call 15; (with_reducible refine (D15.out _ ?_).mono ?_); (first | assumption | exact SmIn.drewN (by assumption) 1); rintro x w7 ⟨rfl, hi7⟩)
      | (go_at_call 16; (with_reducible refine (D16.out _ ?_).mono ?_); (first | assumption | exact SmIn.drewN (by assumption) 1); rintro x w8 ⟨rfl, hi8⟩))
    have HI := Lib.hid hi8.bel
    clear hi6 hi7 hi8 t0 t1 t2
    go_wp2_with fail
    go_ret
    exact ⟨rfl, HI.out⟩
end Go.Proofs.YtfojoeafhdiaiaaDoor

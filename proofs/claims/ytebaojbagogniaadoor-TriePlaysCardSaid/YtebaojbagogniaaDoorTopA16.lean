/- What is proved here: what the parts of package topic answer that look at a text: its first level, its signs, whether it may be a topic at all. Conditions: the two errors that utf.Check names are errors; few bytes. -/
import Derived.Test.YtebaojbagogniaaDoorSpl16
import Derived.Test.YtebaojbagogniaaDoorShelf
import Derived.Test.YtebaojbagogniaaDoorRefF03
import Derived.Test.YtebaojbagogniaaDoorObj
import Derived.Laws.RangeAny
import Derived.Lib.TrimUEq
import Derived.Deep.QuietTactic
import Derived.BigQuiet
import Derived.Outline
namespace Go.Proofs.YtebaojbagogniaaDoor
open Go.RowKit Go.Extern.Stop Go.Stop Go.Extern

/-- The two errors that a check names. -/
structure EnvT (w : World) (S : Nat → Addr) : Prop where
  k1 : w.cell? ⟨1, 0, none⟩ = some (.iface 119 (.pointer (some (S 1))))
  k3 : w.cell? ⟨0, 0, none⟩ = some (.iface 119 (.pointer (some (S 3))))
theorem EnvT.later {w w' : World} {S : Nat → Addr} (h : EnvT w S) (hb : Below w.heap.size w w') : EnvT w' S :=
  ⟨(hb.cell (p := ⟨1, 0, none⟩) (lt_of_cell h.k1)).trans h.k1, (hb.cell (p := ⟨0, 0, none⟩) (lt_of_cell h.k3)).trans h.k3⟩
section
variable {S : Nat → Addr} {w : World}
theorem chk_ok (s : ByteArray) (hm : s.size ≤ 4611686018427387903) (h : isB s = true) : Calls Tryd.prog 54 #[.string s] w fun x w' => x = .returned .nilIface ∧ w = w' := by
  have HC := Lib.hid (fun w => ut_cut s w hm)
  have hcl := cut_le s
  unfold isB checkOf at h
  generalize cutOf s = c at *
  by_cases h1 : 65535 < s.size
  · rw [if_pos h1] at h; cases h
  · rw [if_neg h1] at h
    by_cases h2 : c < s.size
    · rw [if_pos h2] at h; cases h
    · have h2' : s.size ≤ c := by omega
      have h1' : s.size ≤ 65535 := by omega
      clear h1 h2 h
      go_enter Tryd.func54, Tryd.ntmps54
      go_wp2_with fail
      refine (HC.out _).mono ?_
      rintro x w1 ⟨rfl, rfl⟩
      go_wp2
      go_ret
      exact ⟨rfl, rfl⟩
theorem chk_bad (s : ByteArray) (hm : s.size ≤ 4611686018427387903) (he : EnvT w S) (h : isB s = false) : Calls Tryd.prog 54 #[.string s] w fun x w' => (∃ u v, x = .returned (.iface u v)) ∧ Below w.heap.size w w' := by
  have HC := Lib.hid (fun w => ut_cut s w hm)
  have hcl := cut_le s
  unfold isB checkOf at h
  generalize cutOf s = c at *
  have k1 := he.k1
  have k3 := he.k3
  by_cases h1 : 65535 < s.size
  · clear h he
    go_enter Tryd.func54, Tryd.ntmps54
    go_wp2_with fail
    refine (new_chain (S := S) 3 129 65535).mono ?_
    rintro x w1 ⟨e, rfl, he, hb⟩
    obtain ⟨u, v, rfl⟩ := he.iface
    have HB := Lib.hid hb
    clear he hb k1 k3
    go_wp2
    go_ret
    exact ⟨⟨_, _, rfl⟩, HB.out⟩
  · rw [if_neg h1] at h
    by_cases h2 : c < s.size
    · have h1' : s.size ≤ 65535 := by omega
      clear h1 h he
      go_enter Tryd.func54, Tryd.ntmps54
      go_wp2_with fail
      refine (HC.out _).mono ?_
      rintro x w1 ⟨rfl, rfl⟩
      go_wp2_with fail
      refine (new_chain (S := S) 1 129 c).mono ?_
      rintro x w1 ⟨e, rfl, he, hb⟩
      obtain ⟨u, v, rfl⟩ := he.iface
      have HB := Lib.hid hb
      clear he hb k1 k3
      go_wp2
      go_ret
      exact ⟨⟨_, _, rfl⟩, HB.out⟩
    · rw [if_neg h2] at h; cases h
/-- A text without a slash is cut nowhere. -/
theorem cut_no1 (s : ByteArray) (h : ¬ 47 ∈ ls s) : Calls Tryd.prog 56 #[.string s, .string ⟨#[47]⟩] w fun x w' => x = .returned (.tuple #[.string s, .string ⟨#[]⟩, .bool false]) ∧ Fr [] w w' := by
  have hi : Lib.indexByte s.data.toList 47 = -1 := by
    rcases index_or (ls s) with ⟨h1, _⟩ | ⟨i, _, hl, _, e⟩
    · exact h1
    · exact absurd (by rw [e]; simp) h
  have H := Lib.hid (fun w => Tryd.stringslite_Index_one s 47 w)
  rw [hi] at H
  clear hi h
  go_enter Tryd.func56, Tryd.ntmps56
  go_wp2_with fail
  refine (H.out _).mono ?_
  rintro x w1 ⟨rfl, rfl⟩
  go_wp2_with fail
  go_ret3
  exact ⟨rfl, Fr.refl _ _⟩
theorem cut_no (s : ByteArray) (h : ¬ 47 ∈ ls s) : Calls Tryd.prog 48 #[.string s, .string ⟨#[47]⟩] w fun x w' => x = .returned (.tuple #[.string s, .string ⟨#[]⟩, .bool false]) ∧ Fr [] w w' := by
  have H := Lib.hid (cut_no1 (w := w) s h)
  clear h
  go_enter Tryd.func48, Tryd.ntmps48
  go_wp2_with fail
  refine (H.out).mono ?_
  rintro x w1 ⟨rfl, hf⟩
  have HF := Lib.hid hf
  clear hf
  go_wp2_with fail
  go_ret3
  exact ⟨rfl, HF.out⟩
/-- A text with a slash is cut at the first one. -/
theorem cut_at1 (s : ByteArray) (hm : s.size ≤ 4611686018427387903) {i : Nat} (hi : Lib.indexByte (ls s) 47 = (i : Int)) (hl : i < s.size) : Calls Tryd.prog 56 #[.string s, .string ⟨#[47]⟩] w fun x w' => x = .returned (.tuple #[.string (s.extract 0 i), .string (s.extract (i + 1) s.size), .bool true]) ∧ Fr [] w w' := by
  have hi' : Lib.indexByte s.data.toList 47 = (i : Int) := hi
  have H := Lib.hid (fun w => Tryd.stringslite_Index_one s 47 w)
  rw [hi'] at H
  clear hi hi'
  go_enter Tryd.func56, Tryd.ntmps56
  go_wp2_with fail
  refine (H.out _).mono ?_
  rintro x w1 ⟨rfl, rfl⟩
  go_wp2_with fail
  go_quiet (fail)
  go_wp2_with fail
  go_ret3
  exact ⟨rfl, (Fr.refl _ _).drewN _⟩
theorem cut_at (s : ByteArray) (hm : s.size ≤ 4611686018427387903) {i : Nat} (hi : Lib.indexByte (ls s) 47 = (i : Int)) (hl : i < s.size) : Calls Tryd.prog 48 #[.string s, .string ⟨#[47]⟩] w fun x w' => x = .returned (.tuple #[.string (s.extract 0 i), .string (s.extract (i + 1) s.size), .bool true]) ∧ Fr [] w w' := by
  have H := Lib.hid (cut_at1 (w := w) s hm hi hl)
  clear hi
  go_enter Tryd.func48, Tryd.ntmps48
  go_wp2_with fail
  refine (H.out).mono ?_
  rintro x w1 ⟨rfl, hf⟩
  have HF := Lib.hid hf
  clear hf
  go_wp2_with fail
  go_ret3
  exact ⟨rfl, HF.out⟩
theorem ret_bool {a b : Bool} (h : a = b) : Ending.returned (.bool a) = .returned (.bool b) := by rw [h]
theorem toList_ls (s : ByteArray) : s.toList = ls s := Lib.toList_data s
/-- Is a text just one letter of these? -/
theorem is_plus (s : ByteArray) : Calls Tryd.prog 47 #[.string s, .int .i32 43] w fun x w' => x = .returned (.bool (ls s == [43])) ∧ w = w' := by
  have e : (s.toList == (Utf8.encode 43).toList) = (ls s == [43]) := by rw [toList_ls, toList_ls]; rfl
  have E := Lib.hid e
  clear e
  go_enter Tryd.func47, Tryd.ntmps47
  go_wp2_with fail
  go_ret
  exact ⟨ret_bool E.out, rfl⟩
theorem is_hash (s : ByteArray) : Calls Tryd.prog 47 #[.string s, .int .i32 35] w fun x w' => x = .returned (.bool (ls s == [35])) ∧ w = w' := by
  have e : (s.toList == (Utf8.encode 35).toList) = (ls s == [35]) := by rw [toList_ls, toList_ls]; rfl
  have E := Lib.hid e
  clear e
  go_enter Tryd.func47, Tryd.ntmps47
  go_wp2_with fail
  go_ret
  exact ⟨ret_bool E.out, rfl⟩
/-- May it be a topic at all? -/
def topB (s : ByteArray) : Bool := !(ls s).isEmpty && isB s && decide ((ls s).count 47 < 32)
theorem isTopic_any (s : ByteArray) (hm : s.size ≤ 4611686018427387903) (he : EnvT w S) : Calls Tryd.prog 45 #[.string s] w fun x w' => x = .returned (.bool (topB s)) ∧ Below w.heap.size w w' := by
  by_cases h0 : ls s = []
  · obtain rfl : s = ⟨#[]⟩ := by rw [← bs_ls s, h0]; rfl
    have e : topB ⟨#[]⟩ = false := rfl
    rw [e]
    clear e h0
    go_enter Tryd.func45, Tryd.ntmps45
    go_wp2_with fail
    go_ret
    exact ⟨rfl, Below.refl _ _⟩
  · have e0 : s ≠ ⟨#[]⟩ := fun h => h0 (by rw [h]; rfl)
    have e1 := str_full e0
    have e2 := str_full2 e1
    have e3 : (ls s).isEmpty = false := by cases hl : ls s with | nil => exact absurd hl h0 | cons _ _ => rfl
    cases hb : isB s with
    | false =>
      have e : topB s = false := by unfold topB; rw [hb]; simp
      rw [e]
      have HC := Lib.hid (chk_bad s hm he hb)
      clear e hb h0 e0 e3
      go_enter Tryd.func45, Tryd.ntmps45
      go_wp2_with fail
      refine (HC.out).mono ?_
      rintro x w1 ⟨⟨u, v, rfl⟩, hb⟩
      have HB := Lib.hid hb
      clear hb
      go_wp2_with fail
      go_ret
      exact ⟨rfl, HB.out⟩
    | true =>
      have e : topB s = decide ((ls s).count 47 < 32) := by unfold topB; rw [hb, e3]; simp
      rw [e]
      have HC := Lib.hid (fun w => chk_ok (w := w) s hm hb)
      have HN := Lib.hid (fun w => Tryd.strings_Count_one s 47 w)
      have HN2 : Hid (∀ w, Calls Tryd.prog 55 #[.string s, .string ⟨#[47]⟩] w fun e w' => e = .returned (.int .i64 ((ls s).count 47 : Nat)) ∧ w' = w) := Lib.hid HN.out
      clear HN e hb h0 e0 e3
      generalize (ls s).count 47 = n at *
      go_enter Tryd.func45, Tryd.ntmps45
      go_wp2_with fail
      refine (HC.out _).mono ?_
      rintro x w1 ⟨rfl, rfl⟩
      go_wp2_with fail
      refine (HN2.out _).mono ?_
      rintro x w1 ⟨rfl, rfl⟩
      go_wp2_with fail
      go_ret
      exact ⟨ret_bool (decide_eq_decide.2 (by omega)), Below.refl _ _⟩
/-- Where a letter of more than one byte stands, its bytes are none of the ASCII ones. -/
theorem decode_skip {s : ByteArray} {p : Nat} (hp : p < s.size) (h : 128 ≤ bAt s p) : ∀ j, p ≤ j → j < p + (Utf8.decode s p).2 → j < s.size ∧ 128 ≤ bAt s j := by
  have hN := Lib.decode_N s p
  have e : ∀ k, (s.data.toList.getD k 0).toNat = bAt s k := fun k => rfl
  rw [e, e, e, e, bLen] at hN
  intro j h1 h2
  rw [hN] at h2
  unfold Lib.decodeN at h2
  rw [if_neg (by omega)] at h2
  have go : ∀ m, j = p + m → m = 0 ∨ (1 ≤ m) := fun m _ => by omega
  split at h2
  · rename_i hc
    split at h2
    · have : j = p ∨ j = p + 1 := by omega
      rcases this with rfl | rfl
      · exact ⟨hp, h⟩
      · exact ⟨by omega, by omega⟩
    · obtain rfl : j = p := by omega
      exact ⟨hp, h⟩
  · split at h2
    · rename_i hc
      split at h2
      · have : j = p ∨ j = p + 1 ∨ j = p + 2 := by omega
        rcases this with rfl | rfl | rfl
        · exact ⟨hp, h⟩
        · exact ⟨by omega, by omega⟩
        · exact ⟨by omega, by omega⟩
      · obtain rfl : j = p := by omega
        exact ⟨hp, h⟩
    · split at h2
      · rename_i hc
        split at h2
        · have : j = p ∨ j = p + 1 ∨ j = p + 2 ∨ j = p + 3 := by omega
          rcases this with rfl | rfl | rfl | rfl
          · exact ⟨hp, h⟩
          · exact ⟨by omega, by omega⟩
          · exact ⟨by omega, by omega⟩
          · exact ⟨by omega, by omega⟩
        · obtain rfl : j = p := by omega
          exact ⟨hp, h⟩
      · obtain rfl : j = p := by omega
        exact ⟨hp, h⟩
theorem sign_at {s : ByteArray} {p : Nat} (hp : p < s.size) (h : bAt s p = 43 ∨ bAt s p = 35) : signB (ls s) = true := by
  have hl : p < (ls s).length := by rw [ls_size]; exact hp
  have hm : (ls s)[p] ∈ ls s := List.getElem_mem hl
  have hb : bAt s p = ((ls s)[p]).toNat := by
    unfold bAt
    rw [List.getD_eq_getElem?_getD, show s.data.toList[p]? = some ((ls s)[p]) from List.getElem?_eq_getElem hl]
    rfl
  unfold signB hasB
  rcases h with h | h
  · rw [List.contains_iff_mem.2 (by rw [← show (ls s)[p] = 43 from UInt8.toNat_inj.1 (by rw [← hb, h]; rfl)]; exact hm)]
    rfl
  · rw [Bool.or_comm, List.contains_iff_mem.2 (by rw [← show (ls s)[p] = 35 from UInt8.toNat_inj.1 (by rw [← hb, h]; rfl)]; exact hm)]
    rfl
theorem sign_none {s : ByteArray} (h : ∀ j, j < s.size → bAt s j ≠ 43 ∧ bAt s j ≠ 35) : signB (ls s) = false := by
  have key : ∀ c : UInt8, c ∈ ls s → c ≠ 43 ∧ c ≠ 35 := by
    intro c hc
    obtain ⟨p, hp, rfl⟩ := List.getElem_of_mem hc
    have hb : bAt s p = ((ls s)[p]).toNat := by
      unfold bAt
      rw [List.getD_eq_getElem?_getD, show s.data.toList[p]? = some ((ls s)[p]) from List.getElem?_eq_getElem hp]
      rfl
    have := h p (by rw [← ls_size]; exact hp)
    exact ⟨fun e => this.1 (by rw [hb, e]; rfl), fun e => this.2 (by rw [hb, e]; rfl)⟩
  unfold signB hasB
  rw [Bool.or_eq_false_iff]
  refine ⟨?_, ?_⟩
  · rw [← Bool.not_eq_true, List.contains_iff_mem]
    exact fun hm => (key _ hm).1 rfl
  · rw [← Bool.not_eq_true, List.contains_iff_mem]
    exact fun hm => (key _ hm).2 rfl
end
end Go.Proofs.YtebaojbagogniaaDoor

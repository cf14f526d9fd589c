/- What is proved here: what a fault says: its kind's text, its reason and its place in decimal digits. Condition: the package's errors are seven different errors of errors.New, errors.errorType holds the handle of the type error, and the library's table holds the powers of ten. -/
import Derived.Test.YtekjdmmoongaaaaDoorDeep
import Derived.Test.YtekjdmmoongaaaaDoorDec
import Derived.Test.YtekjdmmoongaaaaDoorItoa
import Derived.Deep.RegionHeld3
import Derived.Lib.AppendIntMem
import Derived.Lib.SmallJoins
namespace Go.Proofs.YtekjdmmoongaaaaDoor
open Go.RowKit Go.Extern.Stop Go.Stop Go.Extern

def TextSays (f : Nat) (n : Int) (t : ByteArray) (w : World) : Prop := Calls Tryd.prog f #[.int .i64 n] w fun x w' => x = .returned (.string t) ∧ w = w'
def kindText0 : ByteArray := ⟨#[116, 111, 111, 32, 102, 101, 119, 32, 98, 121, 116, 101, 115]⟩
theorem text_0 (w : World) : TextSays 28 1 kindText0 w ∧ TextSays 14 1 kindText0 w := by
  unfold TextSays kindText0
  constructor
  · go_enter Tryd.func28, Tryd.ntmps28
    go_wp2
    go_ret
    exact ⟨rfl, rfl⟩
  · go_enter Tryd.func14, Tryd.ntmps14
    go_wp2
    go_ret
    exact ⟨rfl, rfl⟩
def kindText1 : ByteArray := ⟨#[109, 97, 108, 102, 111, 114, 109, 101, 100]⟩
theorem text_1 (w : World) : TextSays 28 2 kindText1 w ∧ TextSays 14 2 kindText1 w := by
  unfold TextSays kindText1
  constructor
  · go_enter Tryd.func28, Tryd.ntmps28
    go_wp2
    go_ret
    exact ⟨rfl, rfl⟩
  · go_enter Tryd.func14, Tryd.ntmps14
    go_wp2
    go_ret
    exact ⟨rfl, rfl⟩
def kindText2 : ByteArray := ⟨#[97, 103, 97, 105, 110, 115, 116, 32, 116, 104, 101, 32, 112, 114, 111, 116, 111, 99, 111, 108]⟩
theorem text_2 (w : World) : TextSays 28 3 kindText2 w ∧ TextSays 14 3 kindText2 w := by
  unfold TextSays kindText2
  constructor
  · go_enter Tryd.func28, Tryd.ntmps28
    go_wp2
    go_ret
    exact ⟨rfl, rfl⟩
  · go_enter Tryd.func14, Tryd.ntmps14
    go_wp2
    go_ret
    exact ⟨rfl, rfl⟩
def kindText3 : ByteArray := ⟨#[116, 111, 111, 32, 108, 97, 114, 103, 101]⟩
theorem text_3 (w : World) : TextSays 28 4 kindText3 w ∧ TextSays 14 4 kindText3 w := by
  unfold TextSays kindText3
  constructor
  · go_enter Tryd.func28, Tryd.ntmps28
    go_wp2
    go_ret
    exact ⟨rfl, rfl⟩
  · go_enter Tryd.func14, Tryd.ntmps14
    go_wp2
    go_ret
    exact ⟨rfl, rfl⟩
def kindText4 : ByteArray := ⟨#[110, 111, 32, 114, 111, 111, 109]⟩
theorem text_4 (w : World) : TextSays 28 5 kindText4 w ∧ TextSays 14 5 kindText4 w := by
  unfold TextSays kindText4
  constructor
  · go_enter Tryd.func28, Tryd.ntmps28
    go_wp2
    go_ret
    exact ⟨rfl, rfl⟩
  · go_enter Tryd.func14, Tryd.ntmps14
    go_wp2
    go_ret
    exact ⟨rfl, rfl⟩
def kindText5 : ByteArray := ⟨#[110, 111, 116, 32, 110, 111, 119]⟩
theorem text_5 (w : World) : TextSays 28 6 kindText5 w ∧ TextSays 14 6 kindText5 w := by
  unfold TextSays kindText5
  constructor
  · go_enter Tryd.func28, Tryd.ntmps28
    go_wp2
    go_ret
    exact ⟨rfl, rfl⟩
  · go_enter Tryd.func14, Tryd.ntmps14
    go_wp2
    go_ret
    exact ⟨rfl, rfl⟩
def kindText6 : ByteArray := ⟨#[110, 111, 32, 115, 117, 99, 104, 32, 116, 104, 105, 110, 103]⟩
theorem text_6 (w : World) : TextSays 28 7 kindText6 w ∧ TextSays 14 7 kindText6 w := by
  unfold TextSays kindText6
  constructor
  · go_enter Tryd.func28, Tryd.ntmps28
    go_wp2
    go_ret
    exact ⟨rfl, rfl⟩
  · go_enter Tryd.func14, Tryd.ntmps14
    go_wp2
    go_ret
    exact ⟨rfl, rfl⟩
theorem text_some (n : Int) (h1 : 1 ≤ n) (h7 : n ≤ 7) : ∃ t : ByteArray, t.size ≤ 20 ∧ ∀ w, TextSays 28 n t w ∧ TextSays 14 n t w := by
  rcases (show n = 1 ∨ n = 2 ∨ n = 3 ∨ n = 4 ∨ n = 5 ∨ n = 6 ∨ n = 7 by omega) with rfl | rfl | rfl | rfl | rfl | rfl | rfl
  · exact ⟨kindText0, by decide, fun w => text_0 w⟩
  · exact ⟨kindText1, by decide, fun w => text_1 w⟩
  · exact ⟨kindText2, by decide, fun w => text_2 w⟩
  · exact ⟨kindText3, by decide, fun w => text_3 w⟩
  · exact ⟨kindText4, by decide, fun w => text_4 w⟩
  · exact ⟨kindText5, by decide, fun w => text_5 w⟩
  · exact ⟨kindText6, by decide, fun w => text_6 w⟩

/-- The library's numeral of an int. -/
theorem itoa_any (n : Int) (h0 : -9223372036854775808 ≤ n) (h1 : n ≤ 9223372036854775807) (w : World) (htab : Lib.TabIs Tryd.prog w "internal/strconv.uint64pow10" .u64 Lib.pow10Tab) :
    Calls Tryd.prog 29 #[.int .i64 n] w fun x w' => x = .returned (.string ⟨(Lib.itoa n).toArray⟩) ∧ Below w.heap.size w w' := by
  refine (Go.Proofs.Tryd.strconv_Itoa n h0 h1 w htab).mono ?_
  rintro x w' ⟨rfl, k, os, rfl⟩
  exact ⟨rfl, Lib.below_grow _ _ (Nat.le_refl _) k os⟩
theorem itoa_len (n : Int) (h0 : -9223372036854775808 ≤ n) (h1 : n ≤ 9223372036854775807) : (Lib.itoa n).length ≤ 21 := by
  have key : ∀ u : Nat, u < 100000000000000000000 → (Lib.decDigits u).length ≤ 20 := fun u hu => by
    rw [Lib.decDigits_length]; exact nDigits_le 20 u (by omega) (by simpa using hu)
  unfold Lib.itoa
  split
  · have := key n.natAbs (by omega); simp; omega
  · have := key n.toNat (by omega); omega

/-- What stays through the calls of the method Error. -/
structure Good (W : World) (S : Nat → Addr) (i k : Nat) (r a : Int) (l : List (Int × Int)) (e : Value) (w : World) : Prop where
  env : Env w S
  chain : Chain w (.iface 64 (.pointer (some (S i)))) w.heap.size ((r, a) :: l) (.iface 29 (.pointer (some ⟨k, 0, none⟩)))
  tab : Lib.TabIs Tryd.prog w "internal/strconv.uint64pow10" .u64 Lib.pow10Tab
  here : w.heap[k]? = some (.cells #[.int .i64 r, .int .i64 a, e] 31 (0, 0))
  below : Below W.heap.size W w
theorem Good.later {W : World} {S : Nat → Addr} {i k : Nat} {r a : Int} {l : List (Int × Int)} {e : Value} {w w' : World} (h : Good W S i k r a l e w) (hb : Below w.heap.size w w') : Good W S i k r a l e w' :=
  ⟨h.env.later hb, (h.chain.later hb (Nat.le_refl _)).mono hb.size, Go.Joins.tab_stays (g := 8) (by kernel_rfl) h.tab hb (Nat.le_refl _), (hb.block _ (lt_of_block h.here)).trans h.here, h.below.trans (hb.mono h.below.size)⟩
theorem Good.next {W : World} {S : Nat → Addr} {i k : Nat} {r a : Int} {l : List (Int × Int)} {e : Value} {w w' : World} {p q : Prop} (hb : Below w.heap.size w w') (h : p ∧ q ∧ Good W S i k r a l e w) : Good W S i k r a l e w' := h.2.2.later hb
theorem Good.drew {W : World} {S : Nat → Addr} {i k : Nat} {r a : Int} {l : List (Int × Int)} {e : Value} {w : World} (h : Good W S i k r a l e w) : Good W S i k r a l e w.drew :=
  h.later (Below.refl _ _).drew
theorem Good.cells {W : World} {S : Nat → Addr} {i k : Nat} {r a : Int} {l : List (Int × Int)} {e : Value} {w : World} (h : Good W S i k r a l e w) :
    w.cell? ⟨k, 0, none⟩ = some (.int .i64 r) ∧ w.cell? ⟨k, 1, none⟩ = some (.int .i64 a) ∧ Good W S i k r a l e w :=
  ⟨by rw [cell_block h.here]; rfl, by rw [cell_block h.here]; rfl, h⟩

/-- Two short strings put together, under one name. -/
theorem cat_any (a b : ByteArray) (h : a.size + b.size ≤ 1000) : ∃ c : ByteArray, (∀ w, (Op.stringOp .add a b).run Tryd.prog w = .ok (.string c) w) ∧ c = a ++ b ∧ c.size = a.size + b.size :=
  ⟨a ++ b, fun w => run_string_add_sum w a b (by omega), rfl, by simp⟩
/-- What a fault says. -/
def Says (tx : ByteArray) (r a : Int) : ByteArray := tx ++ ⟨#[44, 32, 114, 101, 97, 115, 111, 110, 32]⟩ ++ ⟨(Lib.itoa r).toArray⟩ ++ ⟨#[44, 32, 97, 116, 32]⟩ ++ ⟨(Lib.itoa a).toArray⟩
/-- .. put together one by one. -/
theorem says_parts (tx : ByteArray) (r a : Int) (hs : tx.size ≤ 20) (hr0 : -9223372036854775808 ≤ r) (hr1 : r ≤ 9223372036854775807) (ha0 : -9223372036854775808 ≤ a) (ha1 : a ≤ 9223372036854775807) :
    ∃ t1 t2 t3 : ByteArray, (∀ w, (Op.stringOp .add tx ⟨#[44, 32, 114, 101, 97, 115, 111, 110, 32]⟩).run Tryd.prog w = .ok (.string t1) w) ∧
      (∀ w, (Op.stringOp .add t1 ⟨(Lib.itoa r).toArray⟩).run Tryd.prog w = .ok (.string t2) w) ∧ (∀ w, (Op.stringOp .add t2 ⟨#[44, 32, 97, 116, 32]⟩).run Tryd.prog w = .ok (.string t3) w) ∧
      (∀ w, (Op.stringOp .add t3 ⟨(Lib.itoa a).toArray⟩).run Tryd.prog w = .ok (.string (Says tx r a)) w) := by
  have hlr := itoa_len r hr0 hr1
  have hla := itoa_len a ha0 ha1
  have zr : (⟨(Lib.itoa r).toArray⟩ : ByteArray).size = (Lib.itoa r).length := rfl
  have za : (⟨(Lib.itoa a).toArray⟩ : ByteArray).size = (Lib.itoa a).length := rfl
  have z9 : (⟨#[44, 32, 114, 101, 97, 115, 111, 110, 32]⟩ : ByteArray).size = 9 := rfl
  have z5 : (⟨#[44, 32, 97, 116, 32]⟩ : ByteArray).size = 5 := rfl
  obtain ⟨t1, k1, e1, s1⟩ := cat_any tx ⟨#[44, 32, 114, 101, 97, 115, 111, 110, 32]⟩ (by omega)
  obtain ⟨t2, k2, e2, s2⟩ := cat_any t1 ⟨(Lib.itoa r).toArray⟩ (by omega)
  obtain ⟨t3, k3, e3, s3⟩ := cat_any t2 ⟨#[44, 32, 97, 116, 32]⟩ (by omega)
  obtain ⟨t4, k4, e4, s4⟩ := cat_any t3 ⟨(Lib.itoa a).toArray⟩ (by omega)
  have e : t4 = Says tx r a := by rw [e4, e3, e2, e1]; rfl
  exact ⟨t1, t2, t3, k1, k2, k3, by rw [← e]; exact k4⟩

set_option maxHeartbeats 2000000 in
theorem error_any (n r a : Int) (i k : Nat) (l : List (Int × Int)) (t : TypeId) (v : Value) (S : Nat → Addr) (w : World) (hi : i < 7) (hn : n = (i + 1 : Nat)) (h : Good w S i k r a l (.iface t v) w)
    (hr0 : -9223372036854775808 ≤ r) (hr1 : r ≤ 9223372036854775807) (ha0 : -9223372036854775808 ≤ a) (ha1 : a ≤ 9223372036854775807) (tx : ByteArray) (hs : tx.size ≤ 20) (ht : ∀ w, TextSays 28 n tx w) :
    Calls Tryd.prog 13 #[.pointer (some ⟨k, 0, none⟩)] w fun x w' => x = .returned (.string (Says tx r a)) ∧ Below w.heap.size w w' := by
  obtain ⟨t1, t2, t3, k1, k2, k3, k4⟩ := says_parts tx r a hs hr0 hr1 ha0 ha1
  generalize Says tx r a = t4 at *
  have hIr : ∀ w, Lib.TabIs Tryd.prog w "internal/strconv.uint64pow10" .u64 Lib.pow10Tab → Calls Tryd.prog 29 #[.int .i64 r] w fun x w' => x = .returned (.string ⟨(Lib.itoa r).toArray⟩) ∧ Below w.heap.size w w' := fun w ht => itoa_any r hr0 hr1 w ht
  have hIa : ∀ w, Lib.TabIs Tryd.prog w "internal/strconv.uint64pow10" .u64 Lib.pow10Tab → Calls Tryd.prog 29 #[.int .i64 a] w fun x w' => x = .returned (.string ⟨(Lib.itoa a).toArray⟩) ∧ Below w.heap.size w w' := fun w ht => itoa_any a ha0 ha1 w ht
  generalize (⟨(Lib.itoa r).toArray⟩ : ByteArray) = tr at *
  generalize (⟨(Lib.itoa a).toArray⟩ : ByteArray) = ta at *
  have HIr := Lib.hid hIr
  have HIa := Lib.hid hIa
  have HN := Lib.hid hn
  have hc2 : w.cell? ⟨k, 2, none⟩ = some (.iface t v) := by rw [cell_block h.here]; rfl
  obtain ⟨hc0, hc1, hg⟩ := h.cells
  have hnum : ∀ w', Good w S i k r a l (.iface t v) w' → Calls Tryd.prog 18 #[.iface 29 (.pointer (some ⟨k, 0, none⟩))] w' fun x w'' => x = .returned (.int .i64 n) ∧ Below w'.heap.size w' w'' := by
    intro w' hg'
    rw [hn]
    exact number_kind hg'.env i hi hg'.chain
  have HNum := Lib.hid hnum
  have HT := Lib.hid ht
  clear hn hnum ht h hIr hIa
  go_enter Tryd.func13, Tryd.ntmps13
  go_wp2
  go_region_held3 (fun w' => w'.cell? ⟨k, 0, none⟩ = some (.int .i64 r) ∧ w'.cell? ⟨k, 1, none⟩ = some (.int .i64 a) ∧ Good w S i k r a l (.iface t v) w') (first | assumption | (exact (Good.drew (by assumption)).cells) | (exact (Good.next (by assumption) (by assumption)).cells))
    (first
      | (go_at_call 18; refine (HNum.out _ ?_).mono ?_; exact And.right (And.right (by assumption)); rintro x w1 ⟨rfl, hb⟩)
      | (go_at_call 28; refine Calls.mono (HT.out _) ?_; rintro x w1 ⟨rfl, rfl⟩)
      | (go_at_call 29; (first | with_reducible refine (HIr.out _ ?_).mono ?_ | with_reducible refine (HIa.out _ ?_).mono ?_); exact Good.tab (And.right (And.right (by assumption))); rintro x w1 ⟨rfl, hb⟩))
  go_wp2
  go_ret
  exact ⟨rfl, Good.below (And.right (And.right (by assumption)))⟩
end Go.Proofs.YtekjdmmoongaaaaDoor

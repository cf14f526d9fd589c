/- What is proved here: the document's own bytes of a number, and the number that bytes begin with, are what plain functions on lists say. Conditions: the number's range, the text's length. -/
import Derived.Test.YtnolnhpmpjgnaaaGreatDoorEnv
import Derived.Laws.AppendOwn
import Derived.Laws.OwnMore
import Derived.Laws.IdiomStrings
import Derived.OwnWalk
import Derived.IntWalk
import Derived.Maps.AppendAt
import Derived.Deep.DeepMust
namespace Go.Proofs.YtnolnhpmpjgnaaaGreatDoor
open Go.RowKit Go.Extern.Stop Go.Stop Go.Extern

/-- A byte as a value. -/
def byteV (b : UInt8) : Value := .int .u8 (b.toNat : Int)

theorem byteV_ofNat {n : Nat} (h : n < 256) : byteV (UInt8.ofNat n) = .int .u8 (n : Int) := by
  unfold byteV
  simp [UInt8.toNat_ofNat', Nat.mod_eq_of_lt h]

theorem own_string {P : Program} {w : World} {B : Nat} {src dst e : TypeId} {v : Value} {n : Nat} {l : List UInt8} (hs : P.underlying src = some (.slice e)) (he : P.underlying e = some (.int .u8)) (hd : P.underlying dst = some .string)
    (h : w.ownsRow B e 1 v n (l.map byteV)) :
    (convert src dst v).run P w = .ok (.string ⟨l.toArray⟩) w := by
  have hlen : n = l.length := by have := h.1; simp at this; omega
  subst hlen
  rcases h.2 with ⟨rfl, h0⟩ | ⟨g, cap, cur, rfl, _⟩
  · have hl : l = [] := List.eq_nil_of_length_eq_zero h0
    subst hl
    rw [run_convert_bytes_string w src dst e none 0 0 hs he hd]
    simp [Conv.bytesToString]
    rfl
  · refine run_convert_bytes_back w src dst e ⟨g, 0, none⟩ cap l hs he hd fun j hj => ?_
    refine h.cells (g := g) rfl j _ ?_
    simp [hj, byteV]

/-- The bytes of a number. -/
def vb (n : Nat) : List UInt8 := if h : n < 128 then [UInt8.ofNat n] else UInt8.ofNat (n % 128 + 128) :: vb (n / 128)
termination_by n
decreasing_by omega
theorem vb_small {n : Nat} (h : n < 128) : vb n = [UInt8.ofNat n] := by rw [vb, dif_pos h]
theorem vb_big {n : Nat} (h : ¬ n < 128) : vb n = UInt8.ofNat (n % 128 + 128) :: vb (n / 128) := by rw [vb, dif_neg h]

theorem Tryz.byteInfo : (Tryz.prog.info? 5).map (fun i => (i.zero, i.size, i.bytes)) = some (some (.int .u8 0), 1, 1) := by kernel_rfl

theorem ref_put_out (n : Int) (h : n < 0 ∨ 268435455 < n) (w : World) :
    Calls Tryz.prog 90 #[.int .i64 n] w fun x w' => x = .returned (.tuple #[.string ⟨#[]⟩, .bool false]) ∧ w = w' := by
  rcases h with h | h
  · go_enter Tryz.func90, Tryz.ntmps90
    go_wp2
    go_ret2
    exact ⟨rfl, rfl⟩
  · have h0 : 0 ≤ n := by omega
    go_enter Tryz.func90, Tryz.ntmps90
    go_wp2
    go_ret2
    exact ⟨rfl, rfl⟩

set_option maxHeartbeats 1000000 in
set_option maxRecDepth 100000 in
theorem ref_put (u : Nat) (hu : u ≤ 268435455) (w : World) :
    Calls Tryz.prog 90 #[.int .i64 u] w fun x w' => x = .returned (.tuple #[.string ⟨(vb u).toArray⟩, .bool true]) ∧ Below w.heap.size w w' := by
  obtain ⟨i0, hi0, hz0, hz1, hz2⟩ := info_parts Tryz.byteInfo
  have h1 : (u : Int) ≤ 268435455 := by omega
  go_enter Tryz.func90, Tryz.ntmps90
  go_wp2
  go_loopg [0, 4] u (fun n x v wr => x = .int .i64 n ∧ n ≤ u ∧ ∃ l : List UInt8, wr.ownsRow w.heap.size 5 1 v l.length (l.map byteV) ∧ l ++ vb n = vb u ∧ l.length + n ≤ u + 1 ∧ Below w.heap.size w wr)
  case atStart => exact ⟨rfl, Nat.le_refl _, [], ⟨rfl, .inl ⟨rfl, rfl⟩⟩, rfl, by simp, Below.refl _ _⟩
  case round =>
    obtain ⟨rfl, hn, l, hown, hl, hll, hb⟩ := hrel
    have HO := Lib.hid hown
    have HL := Lib.hid hl
    have HB := Lib.hid hb
    clear hown hl hb
    by_cases hs : gk < 128
    · have hm : (gk : Int) % 128 = gk := by omega
      have hq : (gk : Int) / 128 = 0 := by omega
      go_wp2_with (at_builtin; refine wpList_append_own _ rfl _ _ 80 rfl w.heap.size 5 i0 (.int .u8 0) 1 1 Tryz.underlying80 hi0 hz0 hz1 hz2 rfl (by decide) _ _ _ rfl (HO.out.alloc _) ⟨wr.heap.size, 0, none⟩ 1 1 [.int .u8 (gk : Int)] rfl rfl ?c1 ?c2 ?c3 ?c4 ?c5 ?_)
      case c1 => exact cell_one_new _ _ _
      case c2 => simp [Value.oneCell']
      case c3 => unfold maxLen; omega
      case c4 => omega
      case c5 => have := HB.out.size; simp; omega
      intro v' w1 hown1 hgrow _
      have hown2 : w1.ownsRow w.heap.size 5 1 v' (l.length + 1) ((l ++ [UInt8.ofNat gk]).map byteV) := by
        rw [List.map_append, List.map_singleton, byteV_ofNat (by omega)]; exact hown1
      have hconv := own_string (P := Tryz.prog) (src := 80) (dst := 9) (e := 5) Tryz.underlying80 Tryz.underlying5 Tryz.underlying9 hown2
      have hres : (⟨(l ++ [UInt8.ofNat gk]).toArray⟩ : ByteArray) = ⟨(vb u).toArray⟩ := by rw [← HL.out, vb_small hs]
      rw [hres] at hconv
      have hsz : w.heap.size ≤ wr.heap.size := HB.out.size
      have hb1 : Below w.heap.size w w1 := (HB.out.alloc hsz _).grown hgrow (by rw [World.size_alloc]; omega) (fun k hk => (HO.out.lt k hk).1)
      have HB1 := Lib.hid hb1
      clear hb1 hres hown1 hown2 hgrow
      go_wp2
      go_ret2
      exact ⟨rfl, HB1.out⟩
    · have h1 : 1 ≤ (gk : Int) / 128 := by omega
      have hne : ((gk : Int) / 128 == 0) = false := beq_eq_false_iff_ne.2 (by omega)
      go_wp2_with (at_builtin; refine wpList_append_own _ rfl _ _ 80 rfl w.heap.size 5 i0 (.int .u8 0) 1 1 Tryz.underlying80 hi0 hz0 hz1 hz2 rfl (by decide) _ _ _ rfl (HO.out.alloc _) ⟨wr.heap.size, 0, none⟩ 1 1 [.int .u8 ((gk : Int) % 128 + 128)] rfl rfl ?c1 ?c2 ?c3 ?c4 ?c5 ?_)
      case c1 => exact cell_one_new _ _ _
      case c2 => simp [Value.oneCell']
      case c3 => unfold maxLen; omega
      case c4 => omega
      case c5 => have := HB.out.size; simp; omega
      intro v' w1 hown1 hgrow _
      have hown2 : w1.ownsRow w.heap.size 5 1 v' (l ++ [UInt8.ofNat (gk % 128 + 128)]).length ((l ++ [UInt8.ofNat (gk % 128 + 128)]).map byteV) := by
        rw [List.map_append, List.map_singleton, byteV_ofNat (by omega), List.length_append]
        have e : ((gk % 128 + 128 : Nat) : Int) = (gk : Int) % 128 + 128 := by omega
        rw [e]
        exact hown1
      have hres : (l ++ [UInt8.ofNat (gk % 128 + 128)]) ++ vb (gk / 128) = vb u := by rw [← HL.out, vb_big hs]; simp
      have hsz : w.heap.size ≤ wr.heap.size := HB.out.size
      have hb1 : Below w.heap.size w w1 := (HB.out.alloc hsz _).grown hgrow (by rw [World.size_alloc]; omega) (fun k hk => (HO.out.lt k hk).1)
      have HB1 := Lib.hid hb1
      have HR := Lib.hid hres
      have HO2 := Lib.hid hown2
      clear hb1 hres hown1 hown2 hgrow
      go_wp2
      go_roundg (gk / 128)
      case rel => exact ⟨by go_num, by omega, _, HO2.out, HR.out, by rw [List.length_append]; simp; omega, HB1.out⟩
      case measure => omega
end Go.Proofs.YtnolnhpmpjgnaaaGreatDoor

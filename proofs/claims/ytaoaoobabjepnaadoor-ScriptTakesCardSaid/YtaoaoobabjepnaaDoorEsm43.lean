/- What is proved here: equal events are the same to the document's function; whether events are few. Conditions: the events stand where the slices say. -/
import Derived.Test.YtaoaoobabjepnaaDoorCfg43
import Derived.Deep.QuietTactic
import Derived.BigQuiet
import Derived.Deep.DeepMust
namespace Go.Proofs.YtaoaoobabjepnaaDoor
set_option maxRecDepth 100000
open Go.RowKit Go.Extern.Stop Go.Stop Go.Extern
theorem drew_on43 {w w2 : World} {d : Nat} (h : w2 = w.drewN d) (n : Nat) : w2.drewN n = w.drewN (d + n) := by
  subst h
  rw [World.drewN_drewN]
section
variable {w w' : World} {A A2 : Option Addr} {L : List ET}
set_option maxHeartbeats 4000000 in
theorem esame_any (c c2 : Nat) (h : ERd w A L) (h2 : ERd w A2 L) (hm : L.length ≤ 9000000) : Calls Tryd.prog 8 #[.slice A L.length c, .slice A2 L.length c2] w fun x w' => x = .returned (.bool true) ∧ ∃ d : Nat, w' = w.drewN d := by
  obtain ⟨n, hn⟩ : ∃ n, n = L.length := ⟨_, rfl⟩
  by_cases hp : n = 0
  · rw [← hn, hp]
    clear h h2 hm hn hp
    go_enter Tryd.func8, Tryd.ntmps8
    go_wp2_with fail
    go_loop [5] (fun i => i = .int .i64 0) (fun _ => 0)
    case atStart => rfl
    case round =>
      subst hrel
      go_wp2_with fail
      go_ret
      exact ⟨rfl, 0, rfl⟩
  · obtain ⟨g, off, rfl, hc⟩ := h (by omega)
    obtain ⟨g2, off2, rfl, hc2⟩ := h2 (by omega)
    rw [← hn] at hm hc hc2 ⊢
    have HC := Lib.hid hc
    have HC2 := Lib.hid hc2
    clear hc hc2 h h2 hn
    go_enter Tryd.func8, Tryd.ntmps8
    go_wp2_with fail
    go_loopw [5] (fun i wr => ∃ k d : Nat, k ≤ n ∧ i = .int .i64 k ∧ wr = w.drewN d) (fun i _ => n - (intOf i).toNat)
    case atStart => exact ⟨0, 0, by omega, rfl, rfl⟩
    case round =>
      obtain ⟨k, d, hk, rfl, hwr⟩ := hrel
      have HW := Lib.hid hwr
      by_cases hlt : k < n
      · obtain ⟨a0, a1, a2, a3⟩ := HC.out k hlt
        obtain ⟨b0, b1, b2, b3⟩ := HC2.out k hlt
        have c0 : wr.cell? ⟨g, off + k * 4, none⟩ = some (.int .i64 (L.getD k et0).k) := by rw [hwr]; exact a0
        have c1 : wr.cell? ⟨g, off + k * 4 + 1, none⟩ = some (.int .i64 (L.getD k et0).c) := by rw [hwr]; exact a1
        have c2 : wr.cell? ⟨g, off + k * 4 + 2, none⟩ = some (.string (L.getD k et0).b) := by rw [hwr]; exact a2
        have c3 : wr.cell? ⟨g, off + k * 4 + 3, none⟩ = some (.int .i64 (L.getD k et0).n) := by rw [hwr]; exact a3
        have d0 : wr.cell? ⟨g2, off2 + k * 4, none⟩ = some (.int .i64 (L.getD k et0).k) := by rw [hwr]; exact b0
        have d1 : wr.cell? ⟨g2, off2 + k * 4 + 1, none⟩ = some (.int .i64 (L.getD k et0).c) := by rw [hwr]; exact b1
        have d2 : wr.cell? ⟨g2, off2 + k * 4 + 2, none⟩ = some (.string (L.getD k et0).b) := by rw [hwr]; exact b2
        have d3 : wr.cell? ⟨g2, off2 + k * 4 + 3, none⟩ = some (.int .i64 (L.getD k et0).n) := by rw [hwr]; exact b3
        generalize (L.getD k et0).k = y0 at *
        generalize (L.getD k et0).c = y1 at *
        generalize (L.getD k et0).b = y2 at *
        generalize (L.getD k et0).n = y3 at *
        clear hwr a0 a1 a2 a3 b0 b1 b2 b3
        have hs : (y2.toList == y2.toList) = true := by rw [eq_text]; exact decide_eq_true rfl
        go_wp2_with fail
        go_quiet (fail)
        go_wp2_with fail
        go_roundw
        case rel => exact ⟨k + 1, _, by omega, by go_num, drew_on43 HW.out _⟩
        case measure => simp [intOf]; omega
      · clear hwr
        go_wp2_with fail
        go_ret
        exact ⟨rfl, d, HW.out⟩
/-- Whether events are few. -/
def Few43 (L : List ET) (m : Nat) (w : World) (x : Ending) (w' : World) : Prop := (∃ b : Bool, x = .returned (.bool b) ∧ (b = true → L.length ≤ m ∧ ∀ k, k < L.length → (L.getD k et0).b.size ≤ 512)) ∧ w = w'
set_option maxHeartbeats 4000000 in
theorem few43_any (c m : Nat) (h : ERd w A L) (hm : L.length ≤ 9223372036854775807) (hmm : m ≤ 1000) : Calls Tryd.prog 10 #[.slice A L.length c, .int .i64 (m : Int)] w (Few43 L m w) := by
  obtain ⟨n, hn⟩ : ∃ n, n = L.length := ⟨_, rfl⟩
  obtain ⟨Q, hQ⟩ : ∃ Q, Q = Few43 L m w := ⟨_, rfl⟩
  have HE := Lib.hid (show ∀ b : Bool, (b = true → n ≤ m ∧ ∀ k, k < n → (L.getD k et0).b.size ≤ 512) → Q (.returned (.bool b)) w from fun b hb => by rw [hQ]; exact ⟨⟨b, rfl, by rw [← hn]; exact hb⟩, rfl⟩)
  rw [← hQ, ← hn]
  rw [← hn] at hm
  have HR := Lib.hid h
  have HN := Lib.hid hn
  clear h hn hQ
  go_enter Tryd.func10, Tryd.ntmps10
  go_wp2_with fail
  go_loopg [5] (m + 1) (fun f x wr => w = wr ∧ ∃ i : Nat, f = m + 1 - i ∧ i ≤ m ∧ i ≤ n ∧ x = .int .i64 i ∧ Hid (∀ k, k < i → (L.getD k et0).b.size ≤ 512))
  case atStart => exact ⟨rfl, 0, rfl, Nat.zero_le _, Nat.zero_le _, rfl, Lib.hid fun k hk => absurd hk (Nat.not_lt_zero _)⟩
  case round =>
    obtain ⟨rfl, i, rfl, him, hin, rfl, HS⟩ := hrel
    by_cases h1 : i < n
    · by_cases h2 : i < m
      · obtain ⟨g, off, hA, hc⟩ := HR.out (by rw [← HN.out]; omega)
        subst hA
        obtain ⟨c0, c1, c2, c3⟩ := hc i (by rw [← HN.out]; exact h1)
        obtain ⟨b, hb⟩ : ∃ b, b = (L.getD i et0).b := ⟨_, rfl⟩
        rw [← hb] at c2
        have HB := Lib.hid hb
        clear c0 c1 c3 hc hb
        by_cases h3 : 512 < b.size
        · have HX := Lib.hid (HE.out false (fun h => by cases h))
          go_wp2_with fail
          exact HX.out
        · have HSN := Lib.hid (show ∀ k, k < i + 1 → (L.getD k et0).b.size ≤ 512 from fun k hk => by
            by_cases e : k = i
            · subst e
              rw [← HB.out]
              omega
            · exact HS.out k (by omega))
          go_wp2_with fail
          go_roundg (m + 1 - (i + 1))
          case rel => exact ⟨rfl, i + 1, rfl, h2, h1, by go_num, HSN⟩
          case measure => omega
      · have hle : ¬ (n : Int) ≤ (m : Int) := by omega
        have HX := Lib.hid (HE.out false (fun h => by cases h))
        go_wp2_with fail
        exact HX.out
    · have hle : (n : Int) ≤ (m : Int) := by omega
      have HX := Lib.hid (HE.out true (fun _ => ⟨by omega, fun k hk => HS.out k (by omega)⟩))
      go_wp2_with fail
      exact HX.out
end
end Go.Proofs.YtaoaoobabjepnaaDoor

/- What is proved here: the numbers and the document's numbers side by side, and those that nobody made. Condition: there are few. -/
import Derived.Test.YtbicoiciapngdaaRef23
import Derived.Test.YtbicoiciapngdaaNo23
namespace Go.Proofs.Ytbicoiciapngdaa
open Go.RowKit Go.Extern.Stop Go.Stop Go.Extern Go.Maps

theorem refp_new (w : World) (n : Int) (k : Nat) (hk : n < 0 ∧ k = 0 ∨ n = (k : Int) ∧ k ≤ 65535 ∨ 65535 < n ∧ n ≤ 9223372036854775807 ∧ k = 65535) :
    Calls Try.prog 33 #[.int .i64 n] w fun e w' => e = .returned (.pointer (some ⟨w.heap.size, 0, none⟩)) ∧ w' = w.alloc (.cells #[.int .i64 k, .int .i64 0, .slice none 0 0] 67) := by
  rcases hk with ⟨hn, rfl⟩ | ⟨rfl, hn⟩ | ⟨hn, hn2, rfl⟩
  · have hd : decide (n < 0) = true := by simp; omega
    go_enter Try.func33, Try.ntmps33
    go_wp2
    all_goals
      go_ret
      exact ⟨rfl, rfl⟩
  · rcases Nat.eq_zero_or_pos k with rfl | hp
    all_goals
      go_enter Try.func33, Try.ntmps33
      go_wp2
    all_goals
      go_ret
      exact ⟨rfl, rfl⟩
  · go_enter Try.func33, Try.ntmps33
    go_wp2
    all_goals
      go_ret
      exact ⟨rfl, rfl⟩
/-- Numbers, the document's, and those that nobody made. -/
structure Two (w0 w : World) (gp gr gz gs most last : Nat) (m : Int → Bool) (n : Nat) (lastr : Nat) (L : List Int) : Prop where
  own : OwnPids w0 w gp most last m n
  ref : IsRefP w w0.heap.size gr most lastr L
  zero : Blk w gz 57 #[.int .i64 0, .int .i64 0, .map none]
  zne : gz ≠ gp
  nob : Blk w gs 51 #[.pointer none, .pointer (some ⟨gz, 0, none⟩)]
section
variable {w0 w : World} {gp gr gz gs most last : Nat} {m : Int → Bool} {n lastr : Nat} {L : List Int}
theorem Two.kept {w' : World} {last' : Nat} {m' : Int → Bool} {n' : Nat} (h : Two w0 w gp gr gz gs most last m n lastr L) (ho : OwnPids w0 w' gp most last' m' n') (hk : KeepsBut gp w w') : Two w0 w' gp gr gz gs most last' m' n' lastr L := by
  obtain ⟨h1, ⟨⟨v, b1, r1⟩, hB⟩, h3, h4, h5⟩ := h
  obtain ⟨bm, hp, _⟩ := h1.is.is
  have hrp : gr ≠ gp := b1.other hp (by decide)
  refine ⟨ho, ⟨⟨v, hk _ _ _ b1 hrp, r1.1, ?_⟩, hB⟩, hk _ _ _ h3 h4, h4, hk _ _ _ h5 (h5.other hp (by decide))⟩
  rcases r1.2 with h | ⟨g2, cap, cur, e, hB2, hh, h7⟩
  · exact .inl h
  · exact .inr ⟨g2, cap, cur, e, hB2, hk g2 3 cur hh (Blk.other (t := 3) hh hp (by decide)), h7⟩
theorem Two.same {w' : World} (h : Two w0 w gp gr gz gs most last m n lastr L) (hf : Fr [] w w') : Two w0 w' gp gr gz gs most last m n lastr L := h.kept (h.own.same hf).1 (h.own.same hf).2
theorem Two.near {w' : World} {last' : Nat} {L' : List Int} (h : Two w0 w gp gr gz gs most last m n lastr L) (hr : IsRefP w' w0.heap.size gr most last' L') (hn : Near w0.heap.size gr w w') : Two w0 w' gp gr gz gs most last m n last' L' := by
  obtain ⟨h1, ⟨⟨v, b1, r1⟩, hB⟩, h3, h4, h5⟩ := h
  exact ⟨⟨hn.below h1.below (Nat.le_refl _), h1.at_, hn.pids h1.is b1⟩, hr, hn.blk h3 (h3.other b1 (by decide)) (by decide), h4, hn.blk h5 (h5.other b1 (by decide)) (by decide)⟩
/-- They say the same. -/
structure Same23 (most last : Nat) (m : Int → Bool) (n lastr : Nat) (L : List Int) : Prop where
  last : lastr = last
  mem : ∀ x, m x = decide (x ∈ L)
  len : L.length = n
  once : L.Nodup
theorem Same23.start (most : Nat) : Same23 most 0 (fun _ => false) 0 0 [] := ⟨rfl, fun _ => by simp, rfl, List.nodup_nil⟩
theorem Same23.on {x : Int} {last' : Nat} (h : Same23 most last m n lastr L) (hx : m x = false) : Same23 most last' (onB m x) (n + 1) last' (L ++ [x]) := by
  have hnm : ¬ x ∈ L := by have := h.mem x; rw [hx] at this; simpa using this.symm
  refine ⟨rfl, fun y => ?_, by simp [h.len], ?_⟩
  · unfold onB
    by_cases hy : y = x
    · simp [hy]
    · simp [hy, h.mem y]
  · rw [List.nodup_append]
    exact ⟨h.once, by simp, fun a ha b hb e => by simp at hb; subst hb; exact hnm (e ▸ ha)⟩
theorem Same23.off {x : Int} (h : Same23 most last m n lastr L) : Same23 most last (if m x then offB m x else m) (if m x then n - 1 else n) lastr (without x L) := by
  have he : without x L = L.erase x := by rw [h.once.erase_eq_filter]; rfl
  refine ⟨h.last, fun y => ?_, ?_, h.once.sublist (List.filter_sublist)⟩
  · by_cases hm : m x = true
    · rw [if_pos hm]
      unfold offB without
      by_cases hy : y = x
      · simp [hy]
      · simp [hy, h.mem y]
    · rw [if_neg hm]
      have hx : ¬ x ∈ L := by have := h.mem x; intro hc; rw [this] at hm; simp [hc] at hm
      rw [he, List.erase_of_not_mem hx, h.mem]
  · by_cases hm : m x = true
    · have hx : x ∈ L := by have := h.mem x; rw [hm] at this; simpa using this.symm
      rw [if_pos hm, he, List.length_erase_of_mem hx, h.len]
    · have hx : ¬ x ∈ L := by have := h.mem x; intro hc; rw [this] at hm; simp [hc] at hm
      rw [if_neg hm, he, List.erase_of_not_mem hx, h.len]
end
end Go.Proofs.Ytbicoiciapngdaa

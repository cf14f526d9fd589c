/- What is proved here: what the document's acts answer, beside what is kept. Condition: there are few. -/
import Derived.Test.YtbicoiciapngdaaDrop25
namespace Go.Proofs.Ytbicoiciapngdaa
open Go.RowKit Go.Extern.Stop Go.Stop Go.Extern Go.Maps
/-- The document's numbers behind an act, which say what is kept then. -/
def ThenI (w : World) (B g : Nat) (most : Int) (s : Q25) (n : Nat) (v : Value) (e : Ending) (w' : World) : Prop :=
  e = .returned v ∧ ∃ L', IsRefI w' B g most L' ∧ Same25 s L' ∧ L'.length ≤ n ∧ NearI B g w w'
section
variable {w : World} {B g : Nat} {most : Int} {L : PL} {s : Q25}
theorem NearI.refl (w : World) : NearI B g w w := ⟨[], Fr.refl _ _, by simp⟩
theorem NearI.drawn (w : World) (n : Nat) : NearI B g w (w.drewN n) := ⟨[], (Fr.refl _ _).drewN n, by simp⟩
theorem ThenI.same (h : IsRefI w B g most L) (hs : Same25 s L) {n : Nat} (hn : L.length ≤ n) (v : Value) : ThenI w B g most s n v (.returned v) w := ⟨rfl, L, h, hs, hn, NearI.refl _⟩
theorem ThenI.drawn (h : IsRefI w B g most L) (hs : Same25 s L) {n : Nat} (hn : L.length ≤ n) (v : Value) (k : Nat) : ThenI w B g most s n v (.returned v) (w.drewN k) := ⟨rfl, L, h.then ((Fr.refl _ _).drewN k), hs, hn, NearI.drawn _ k⟩
set_option maxHeartbeats 1000000 in
theorem refi_done (h : IsRefI w B g most L) (hBw : B ≤ w.heap.size) (hl : L.length ≤ 1000) (hs : Same25 s L) (id : Int) :
    Calls Try.prog 47 #[.pointer (some ⟨g, 0, none⟩), .int .i64 id] w (ThenI w B g most (done25 s id).2 L.length (.bool (done25 s id).1)) := by
  rcases at_or_no L id with ⟨k, hk⟩ | hn
  · have hv : s.1 id ≠ 0 := by rw [hs.val]; exact fun e => (val_ne_zero hs.tidy).1 e k hk.1 hk.2.1
    have e : done25 s id = (true, (fun y => if y = id then 0 else s.1 y), s.2 - 1) := by unfold done25; rw [if_pos hv]
    rw [e]
    have HF := Lib.hid (refi_find h (by omega) id hk)
    have HD := Lib.hid (refi_drop h hBw (by omega) k hk.1)
    have HS := Lib.hid (hs.erase hk)
    have HL := Lib.hid (show (L.eraseIdx k).length ≤ L.length by rw [List.length_eraseIdx]; split <;> omega)
    have hk0 : ¬ ((k : Int) < 0) := by omega
    clear e hv hk hs h
    go_enter Try.func47, Try.ntmps47
    go_wp2_with fail
    refine (HF.out).mono ?_
    rintro e w' ⟨rfl, rfl⟩
    go_wp2_with fail
    refine (HD.out).mono ?_
    rintro e w1 ⟨rfl, hr, hn⟩
    have HR := Lib.hid hr
    have HN := Lib.hid hn
    clear hr hn
    go_wp2_with fail
    go_ret
    exact ⟨rfl, _, HR.out, HS.out, HL.out, HN.out⟩
  · have hv : s.1 id = 0 := by rw [hs.val]; exact val_no hn
    have e : done25 s id = (false, s) := by unfold done25; rw [if_neg (by simp [hv])]
    rw [e]
    have HF := Lib.hid (refi_find_no h (by omega) id hn)
    have HE := Lib.hid (fun v => ThenI.same h hs (Nat.le_refl _) v)
    clear e hv hn hs h
    go_enter Try.func47, Try.ntmps47
    go_wp2_with fail
    refine (HF.out).mono ?_
    rintro e w' ⟨rfl, rfl⟩
    go_wp2_with fail
    go_ret
    exact HE.out _
set_option maxHeartbeats 1000000 in
theorem refi_release (h : IsRefI w B g most L) (hBw : B ≤ w.heap.size) (hl : L.length ≤ 1000) (hs : Same25 s L) (id : Int) :
    Calls Try.prog 48 #[.pointer (some ⟨g, 0, none⟩), .int .i64 id] w (ThenI w B g most (release25 s id).2 L.length (.bool (release25 s id).1)) := by
  rcases at_or_no L id with ⟨k, hk⟩ | hn
  · have hvk : s.1 id = (L.getD k (0, 0)).2 := by rw [hs.val]; exact val_at hk
    have HF := Lib.hid (refi_find h (by omega) id hk)
    have HD := Lib.hid (refi_drop h hBw (by omega) k hk.1)
    have HS := Lib.hid (hs.erase hk)
    have HE := Lib.hid (fun v => ThenI.same h hs (Nat.le_refl _) v)
    have HL := Lib.hid (show (L.eraseIdx k).length ≤ L.length by rw [List.length_eraseIdx]; split <;> omega)
    have hk0 : ¬ ((k : Int) < 0) := by omega
    have hkl := hk.1
    obtain ⟨⟨v, b1, r1⟩, hB⟩ := h
    have c1 := b1.cell 1
    rcases r1.2 with ⟨rfl, h0⟩ | ⟨gr, cap, cur, rfl, hB2, hh, hlc, hcm, hcs, htk⟩
    · omega
    have c3 : w.cell? ⟨gr, k * 2 + 1, none⟩ = some (.int .i64 (L.getD k (0, 0)).2) := by
      rw [r1.cellAt (k * 2 + 1) (by omega)]
      exact (pcells_get L k hk.1).2
    by_cases h2 : s.1 id = 2
    · have e : release25 s id = (true, (fun y => if y = id then 0 else s.1 y), s.2 - 1) := by
        unfold release25 done25; rw [if_pos h2, if_pos (by omega)]
      rw [e]
      rw [← hvk, h2] at c3
      clear e hvk hk hs b1 r1 h2 hh hcs htk
      go_enter Try.func48, Try.ntmps48
      go_wp2_with fail
      refine (HF.out).mono ?_
      rintro e w' ⟨rfl, rfl⟩
      go_wp2_with fail
      refine (HD.out).mono ?_
      rintro e w1 ⟨rfl, hr, hn⟩
      have HR := Lib.hid hr
      have HN := Lib.hid hn
      clear hr hn
      go_wp2_with fail
      go_ret
      exact ⟨rfl, _, HR.out, HS.out, HL.out, HN.out⟩
    · have e : release25 s id = (false, s) := by unfold release25; rw [if_neg h2]
      rw [e]
      have hb : ((L.getD k (0, 0)).2 != 2) = true := by rw [bne_iff_ne, ← hvk]; exact h2
      clear e hvk hk hs b1 r1 h2 hh hcs htk
      generalize (L.getD k (0, 0)).2 = y at *
      go_enter Try.func48, Try.ntmps48
      go_wp2_with fail
      refine (HF.out).mono ?_
      rintro e w' ⟨rfl, rfl⟩
      go_wp2_with fail
      go_ret
      exact HE.out _
  · have hv : s.1 id = 0 := by rw [hs.val]; exact val_no hn
    have e : release25 s id = (false, s) := by unfold release25; rw [if_neg (by rw [hv]; decide)]
    rw [e]
    have HF := Lib.hid (refi_find_no h (by omega) id hn)
    have HE := Lib.hid (fun v => ThenI.same h hs (Nat.le_refl _) v)
    clear e hv hn hs h
    go_enter Try.func48, Try.ntmps48
    go_wp2_with fail
    refine (HF.out).mono ?_
    rintro e w' ⟨rfl, rfl⟩
    go_wp2_with fail
    go_ret
    exact HE.out _
end
end Go.Proofs.Ytbicoiciapngdaa

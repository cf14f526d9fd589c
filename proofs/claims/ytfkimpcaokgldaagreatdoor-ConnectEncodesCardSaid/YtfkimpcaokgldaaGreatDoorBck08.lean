/- What is proved here, on plain values: properties that are encoded anywhere are read as they were, and what is read may be encoded. Conditions: few bytes. What is proved here, on plain values: what a frame that was encoded says. No conditions. -/
import Derived.Test.YtfkimpcaokgldaaGreatDoorPut08
import Derived.Test.YtfkimpcaokgldaaGreatDoorBod08
namespace Go.Proofs.YtfkimpcaokgldaaGreatDoor
set_option maxRecDepth 100000
open Go.RowKit Go.Extern.Stop Go.Stop Go.Extern
theorem arr_list8 (l : List UInt8) : (⟨l.toArray⟩ : ByteArray).data.toList = l := by simp
theorem plV_sz {L : PL} (hsz : ∀ p ∈ L, p.s.size < 65536 ∧ p.v.size < 65536) : ∀ p ∈ plL L, PlainP p ∧ p.s.size < 65536 ∧ p.v.size < 65536 := fun p hp => by
  obtain ⟨q, hq, rfl⟩ := List.mem_map.1 hp
  obtain ⟨z1, z2⟩ := hsz q hq
  refine ⟨plV_plain q, ?_, ?_⟩ <;> (rcases plain_cases q.id with hh | hh | hh)
  · rw [plV_n hh]; show (⟨#[]⟩ : ByteArray).size < 65536; decide
  · rw [plV_6 hh]; exact z1
  · rw [plV_9 hh]; exact z1
  · rw [plV_n hh]; show (⟨#[]⟩ : ByteArray).size < 65536; decide
  · rw [plV_6 hh]; show (⟨#[]⟩ : ByteArray).size < 65536; decide
  · rw [plV_9 hh]; exact z2
/-- What is encoded is read as it was, wherever it stands. -/
theorem read_enc {k : Int} {L : PL} (h : (encR k L).no = 0) (hsz : ∀ p ∈ L, p.s.size < 65536 ∧ p.v.size < 65536) (hl : (wrAll (actsL6 L)).L.length ≤ 268435455) (s : ByteArray) (pre x : List UInt8) (ea : Nat) (hs : s.data.toList = pre ++ ((encR k L).L ++ x)) :
    readF k s ⟨pre.length, 0, ea⟩ = (⟨0, 0, 0, plL L⟩, ⟨pre.length + (encR k L).L.length, 0, ea⟩) := by
  obtain ⟨hc, hw, hE⟩ := encR_ok h
  rw [hE] at hs ⊢
  have hrd := read_at (place := k) (L := plL L) (chk_plL hc) (by rw [actsL6_plL]; exact hw) (plV_sz hsz) (by rw [actsL6_plL]; exact hl) s pre x ea (by rw [actsL6_plL]; exact hs)
  rw [actsL6_plL] at hrd
  exact hrd
theorem small_of8 {L : PL} (h : ∀ p ∈ L, EncP p) (hl : L.length ≤ 64) (hc : (catE (actsL6 L)).length ≤ 60000) : SmallP L := by
  refine ⟨by omega, fun p hp => ⟨by have := (h p hp).2.2.1; omega, by have := (h p hp).2.2.2; omega⟩, fun k => ?_⟩
  have h1 := (enc_all (L := L.take k) fun p hp => h p (List.mem_of_mem_take hp)).2
  have h2 : catE (actsL6 L) = catE (actsL6 (L.take k)) ++ catE (actsL6 (L.drop k)) := by
    rw [← catE_app]
    unfold actsL6
    rw [← List.flatMap_append, List.take_append_drop]
  have h3 := congrArg List.length h2
  rw [List.length_append] at h3
  rw [h1]
  omega
/-- What is read may be encoded, and has nothing else. -/
structure RdOk (k : Int) (s : ByteArray) (L : PL) : Prop where
  enc : (encR k L).no = 0
  sz : ∀ q ∈ L, q.s.size < 65536 ∧ q.v.size < 65536
  len : (wrAll (actsL6 L)).L.length ≤ s.size
  pl : plL L = L
  few : L.length ≤ 64
  small : s.size ≤ 60000 → SmallP L
theorem rd_ok {k : Int} {s : ByteArray} {R : RV} (h : (readF k s R).1.no = 0) : RdOk k s (readF k s R).1.L := by
  obtain ⟨r1, r2, r3, r4⟩ := read_is k s R h
  obtain ⟨e1, e2⟩ := enc_all r1
  exact ⟨encR_of r3 e1, fun q hq => (r1 q hq).2.2, by rw [e2]; exact r2, plL_same fun p hp => (r1 p hp).1, r4, fun hs => small_of8 r1 r4 (Nat.le_trans r2 hs)⟩
theorem rdOk_nil (k : Int) (s : ByteArray) : RdOk k s [] := ⟨encR_of rfl rfl, (fun q hq => by cases hq), Nat.zero_le _, rfl, Nat.zero_le _, fun _ => small_of8 (fun p hp => by cases hp) (Nat.zero_le _) (Nat.zero_le _)⟩
/-- A reader with an error reads no properties. -/
theorem readF_stuck {k : Int} {s : ByteArray} {R : RV} (h : R.no ≠ 0) : (readF k s R).1.no = R.no := by
  have h1 : rVar s R = (0, R) := by
    unfold rVar
    rw [if_neg h]
  have h2 : (rTake s (rVar s R).1 (rVar s R).2).2 = R := by
    rw [h1, rTake_stuck h]
  unfold readF
  rw [if_neg (by rw [h2]; exact h), h2]
theorem numE_of {k m : Nat} (h : m < 256 ^ k) : numE k (m : Int) = ⟨0, 0, be k m⟩ := by
  unfold numE
  rw [if_neg (by omega), Int.toNat_natCast]
theorem stepW_raw {W : EV} (h : W.no = 0) (l : List UInt8) : stepW W ⟨0, 0, l⟩ = ⟨0, W.at_, W.L ++ l⟩ := stepW_ok h rfl
theorem stepW_num {W : EV} (h : W.no = 0) {k m : Nat} (hm : m < 256 ^ k) : stepW W (numE k (m : Int)) = ⟨0, W.at_, W.L ++ be k m⟩ := by
  rw [numE_of hm]
  exact stepW_ok h rfl
end Go.Proofs.YtfkimpcaokgldaaGreatDoor
namespace Go.Proofs.YtfkimpcaokgldaaGreatDoor
set_option maxRecDepth 100000
open Go.RowKit Go.Extern.Stop Go.Stop Go.Extern
theorem frR_ok8 {W : EV} {first : Int} {q : Er} (h : (frR W first q).e.no = 0) : W.no = 0 ∧ q.no = 0 ∧ frR W first q = ⟨e00, first, ⟨W.L.toArray⟩⟩ := by
  unfold frR at h ⊢
  split at h
  · rename_i h1
    rw [if_pos h1]
    split at h
    · rename_i h2
      rw [if_pos h2]
      exact ⟨h1, h2, rfl⟩
    · rename_i h2; exact absurd h h2
  · rename_i h1; exact absurd h h1
theorem frR_bad8 {W : EV} {first : Int} {q : Er} (h : (frR W first q).e.no ≠ 0) : (frR W first q).first = 0 ∧ (frR W first q).s = ⟨#[]⟩ := by
  unfold frR at h ⊢
  split
  · rename_i h1
    rw [if_pos h1] at h
    split
    · rename_i h2
      rw [if_pos h2] at h
      exact absurd rfl h
    · exact ⟨rfl, rfl⟩
  · exact ⟨rfl, rfl⟩
theorem frR_of8 {W : EV} {first : Int} {q : Er} (h1 : W.no = 0) (h2 : q.no = 0) : frR W first q = ⟨e00, first, ⟨W.L.toArray⟩⟩ := by
  unfold frR
  rw [if_pos h1, if_pos h2]
theorem frR_len8 {W : EV} {first : Int} {q : Er} : (frR W first q).s.size ≤ W.L.length := by
  by_cases h : (frR W first q).e.no = 0
  · obtain ⟨_, _, he⟩ := frR_ok8 h
    rw [he, bsize]
    exact Nat.le_refl _
  · rw [(frR_bad8 h).2]
    exact Nat.zero_le _
end Go.Proofs.YtfkimpcaokgldaaGreatDoor

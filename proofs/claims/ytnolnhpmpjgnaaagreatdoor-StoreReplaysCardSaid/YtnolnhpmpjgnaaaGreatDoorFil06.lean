/- What is proved here: what a property has is read. Conditions: the reader and the property are there; what the rows list of the package's variables. -/
import Derived.Test.YtnolnhpmpjgnaaaGreatDoorEnc06
import Derived.Test.YtnolnhpmpjgnaaaGreatDoorAwk04
namespace Go.Proofs.YtnolnhpmpjgnaaaGreatDoor
set_option maxRecDepth 100000
open Go.RowKit Go.Extern.Stop Go.Stop Go.Extern
/-- What a property of an identifier has, and where the reader is behind it. -/
def valF (i : Int) (s : ByteArray) (R : RV) : PV × RV :=
  if typeI i = 9 then (⟨i, 0, (rText s R).1, (rText s (rText s R).2).1⟩, (rText s (rText s R).2).2) else if typeI i = 0 then (⟨i, 0, ⟨#[]⟩, ⟨#[]⟩⟩, R)
  else (⟨i, (rdA (typeI i) s R).1, (rdA (typeI i) s R).2.1, ⟨#[]⟩⟩, (rdA (typeI i) s R).2.2)
theorem val_0 {i : Int} (s : ByteArray) (R : RV) (h : typeI i = 0) : valF i s R = (⟨i, 0, ⟨#[]⟩, ⟨#[]⟩⟩, R) := by unfold valF; rw [h]; rfl
theorem val_1 {i : Int} (s : ByteArray) (R : RV) (h : typeI i = 1) : valF i s R = (⟨i, (rNum s 1 R).1, ⟨#[]⟩, ⟨#[]⟩⟩, (rNum s 1 R).2) := by unfold valF; rw [h]; rfl
theorem val_2 {i : Int} (s : ByteArray) (R : RV) (h : typeI i = 2) : valF i s R = (⟨i, (rNum s 2 R).1, ⟨#[]⟩, ⟨#[]⟩⟩, (rNum s 2 R).2) := by unfold valF; rw [h]; rfl
theorem val_4 {i : Int} (s : ByteArray) (R : RV) (h : typeI i = 4) : valF i s R = (⟨i, (rNum s 4 R).1, ⟨#[]⟩, ⟨#[]⟩⟩, (rNum s 4 R).2) := by unfold valF; rw [h]; rfl
theorem val_5 {i : Int} (s : ByteArray) (R : RV) (h : typeI i = 5) : valF i s R = (⟨i, (rVar s R).1, ⟨#[]⟩, ⟨#[]⟩⟩, (rVar s R).2) := by unfold valF; rw [h]; rfl
theorem val_6 {i : Int} (s : ByteArray) (R : RV) (h : typeI i = 6) : valF i s R = (⟨i, 0, (rText s R).1, ⟨#[]⟩⟩, (rText s R).2) := by unfold valF; rw [h]; rfl
theorem val_7 {i : Int} (s : ByteArray) (R : RV) (h : typeI i = 7) : valF i s R = (⟨i, 0, (rBin s R).1, ⟨#[]⟩⟩, (rBin s R).2) := by unfold valF; rw [h]; rfl
theorem val_9 {i : Int} (s : ByteArray) (R : RV) (h : typeI i = 9) : valF i s R = (⟨i, 0, (rText s R).1, (rText s (rText s R).2).1⟩, (rText s (rText s R).2).2) := by unfold valF; rw [h]; rfl
/-- What fill holds. -/
structure FlIn (z w W : World) (S : Nat → Addr) (g bx : Nat) (s : ByteArray) (R : RV) (p : PV) : Prop where
  obj : RObj W S g s R
  box : Blk W bx 98 #[.int .i64 p.id, .int .i64 p.n, .string p.s, .string p.v]
  bel : Below z.heap.size z W
  fr : Fr [g, bx] w W
  gz : z.heap.size ≤ g
  bz : z.heap.size ≤ bx
section
variable {z w W W' : World} {S : Nat → Addr} {g bx : Nat} {s : ByteArray} {R R' : RV} {p : PV}
theorem FlIn.ne (h : FlIn z w W S g bx s R p) : g ≠ bx := by
  obtain ⟨e, hb, _⟩ := h.obj.blk
  exact hb.other h.box (by decide)
theorem FlIn.step (h : FlIn z w W S g bx s R p) (hn : RNext W W' S g s R') : FlIn z w W' S g bx s R' p := by
  refine ⟨hn.obj, h.box.fr hn.fr fun hm => ?_, hn.later h.gz h.bel.size h.bel, h.fr.trans hn.fr fun k hk _ => ?_, h.gz, h.bz⟩
  · rw [List.mem_singleton] at hm
    exact h.ne hm.symm
  · rw [List.mem_singleton] at hk
    rw [hk]
    exact List.mem_cons_self ..
theorem FlIn.below (h : FlIn z w W S g bx s R p) (hb : Below W.heap.size W W') : FlIn z w W' S g bx s R p :=
  ⟨h.obj.below hb, h.box.below hb h.box.lt, h.bel.trans (hb.mono h.bel.size), h.fr.trans (Y := []) (Fr.of_below hb) (fun k hk => by cases hk), h.gz, h.bz⟩
theorem FlIn.put (h : FlIn z w W S g bx s R p) (i : Nat) (u : Value) (p' : PV) (hp : (#[.int .i64 p.id, .int .i64 p.n, .string p.s, .string p.v] : Array Value).setIfInBounds i u = #[.int .i64 p'.id, .int .i64 p'.n, .string p'.s, .string p'.v]) : FlIn z w (W.setCell ⟨bx, i, none⟩ u) S g bx s R p' := by
  have hf : Fr [bx] W (W.setCell ⟨bx, i, none⟩ u) := (Fr.refl [bx] W).setCell (p := ⟨bx, i, none⟩) (.inl (List.mem_singleton_self _)) _
  refine ⟨h.obj.fr hf (fun hm => ?_) (NoF.of fun k hk => ?_), ?_, h.bel.setCell h.bz _, h.fr.trans hf fun k hk _ => ?_, h.gz, h.bz⟩
  · rw [List.mem_singleton] at hm
    exact h.ne hm
  · rw [List.mem_singleton] at hk
    rw [hk]
    exact ⟨_, _, h.box, by decide⟩
  · have h2 := h.box.store i u
    rw [hp] at h2
    exact h2
  · rw [List.mem_singleton] at hk
    rw [hk]
    exact List.mem_cons_of_mem _ (List.mem_singleton_self _)
theorem rraw_any (hE : Env w S) (h : RObj w S g s R) (hs : s.size ≤ 1000000) (n : Nat) :
    Calls Tryz.prog 68 #[.pointer (some ⟨g, 0, none⟩), .int .i64 n] w (TSays w S g s (.string (rTake s n R).1) (rTake s n R).2) := by
  have HN := Lib.hid (rtake_any hE h hs n)
  have hn : ¬ ((n : Int) < 0) := by omega
  clear h hE hs
  generalize rTake s n R = q at *
  go_enter Tryz.func68, Tryz.ntmps68
  go_wp2_with fail
  refine HN.out.mono ?_
  rintro x w1 ⟨rfl, hN⟩
  have HX := Lib.hid hN
  clear hN HN
  go_wp2_with fail
  go_ret
  exact ⟨rfl, HX.out⟩
set_option maxHeartbeats 4000000 in
theorem fill_any (hE : Env z S) (i : Int) (hi0 : FlIn z w w S g bx s R ⟨i, 0, ⟨#[]⟩, ⟨#[]⟩⟩) (hs : s.size ≤ 900000) :
    Calls Tryz.prog 98 #[.pointer (some ⟨g, 0, none⟩), .pointer (some ⟨bx, 0, none⟩)] w fun x w' => x = .returned (.tuple #[]) ∧ FlIn z w w' S g bx s (valF i s R).2 (valF i s R).1 := by
  have HE := Lib.hid hE
  have HI0 := Lib.hid hi0
  have HTY := Lib.hid (fun W : World => ptype_any i W)
  have e0 := hi0.box.cell 0
  have d1 := hi0.box.frozen 1
  have HC := Lib.hid (fun (W : World) (h : FlIn z w W S g bx s R ⟨i, 0, ⟨#[]⟩, ⟨#[]⟩⟩) => env_cl hE h.bel h.gz)
  clear hE hi0
  rcases typeI_vals i with ht | ht | ht | ht | ht | ht | ht | ht
  · rw [ht] at HTY
    rw [val_0 s R ht]
    go_enter Tryz.func98, Tryz.ntmps98
    go_wp2_with fail
    refine (HTY.out _).mono ?_
    rintro x w1 ⟨rfl, rfl⟩
    go_wp2
    exact bodyPost_end (v := .tuple #[]) (by simp [results, Tryz.results98, go_sem]) rfl ⟨rfl, HI0.out⟩
  · rw [ht] at HTY
    rw [val_1 s R ht]
    have HR := Lib.hid (ru8_any (HE.out.later HI0.out.bel) HI0.out.obj (by omega))
    go_enter Tryz.func98, Tryz.ntmps98
    go_wp2_with fail
    refine (HTY.out _).mono ?_
    rintro x w1 ⟨rfl, rfl⟩
    go_wp2_with fail
    refine HR.out.mono ?_
    rintro x w2 ⟨rfl, hN⟩
    have HI2 := Lib.hid (HI0.out.step hN)
    have b0 := HI2.out.box.cell 0
    have b1 := HI2.out.box.cell 1
    have f1 := HI2.out.box.frozen 1
    have HI3 := Lib.hid (HI2.out.put 1 (.int .i64 ((rNum s 1 R).1 : Int)) ⟨i, (rNum s 1 R).1, ⟨#[]⟩, ⟨#[]⟩⟩ rfl)
    clear hN HR
    go_wp2
    exact bodyPost_end (v := .tuple #[]) (by simp [results, Tryz.results98, go_sem]) rfl ⟨rfl, HI3.out⟩
  · rw [ht] at HTY
    rw [val_2 s R ht]
    have HR := Lib.hid (ru16_any (HE.out.later HI0.out.bel) HI0.out.obj (by omega))
    go_enter Tryz.func98, Tryz.ntmps98
    go_wp2_with fail
    refine (HTY.out _).mono ?_
    rintro x w1 ⟨rfl, rfl⟩
    go_wp2_with fail
    refine HR.out.mono ?_
    rintro x w2 ⟨rfl, hN⟩
    have HI2 := Lib.hid (HI0.out.step hN)
    have b0 := HI2.out.box.cell 0
    have b1 := HI2.out.box.cell 1
    have f1 := HI2.out.box.frozen 1
    have HI3 := Lib.hid (HI2.out.put 1 (.int .i64 ((rNum s 2 R).1 : Int)) ⟨i, (rNum s 2 R).1, ⟨#[]⟩, ⟨#[]⟩⟩ rfl)
    clear hN HR
    go_wp2
    exact bodyPost_end (v := .tuple #[]) (by simp [results, Tryz.results98, go_sem]) rfl ⟨rfl, HI3.out⟩
  · rw [ht] at HTY
    rw [val_4 s R ht]
    have HR := Lib.hid (ru32_any (HE.out.later HI0.out.bel) HI0.out.obj (by omega))
    go_enter Tryz.func98, Tryz.ntmps98
    go_wp2_with fail
    refine (HTY.out _).mono ?_
    rintro x w1 ⟨rfl, rfl⟩
    go_wp2_with fail
    refine HR.out.mono ?_
    rintro x w2 ⟨rfl, hN⟩
    have HI2 := Lib.hid (HI0.out.step hN)
    have b0 := HI2.out.box.cell 0
    have b1 := HI2.out.box.cell 1
    have f1 := HI2.out.box.frozen 1
    have HI3 := Lib.hid (HI2.out.put 1 (.int .i64 ((rNum s 4 R).1 : Int)) ⟨i, (rNum s 4 R).1, ⟨#[]⟩, ⟨#[]⟩⟩ rfl)
    clear hN HR
    go_wp2
    exact bodyPost_end (v := .tuple #[]) (by simp [results, Tryz.results98, go_sem]) rfl ⟨rfl, HI3.out⟩
  · rw [ht] at HTY
    rw [val_5 s R ht]
    have HR := Lib.hid (rvar_any (HE.out.later HI0.out.bel) HI0.out.obj hs)
    go_enter Tryz.func98, Tryz.ntmps98
    go_wp2_with fail
    refine (HTY.out _).mono ?_
    rintro x w1 ⟨rfl, rfl⟩
    go_wp2_with fail
    refine HR.out.mono ?_
    rintro x w2 ⟨rfl, hN⟩
    have HI2 := Lib.hid (HI0.out.step hN)
    have b0 := HI2.out.box.cell 0
    have b1 := HI2.out.box.cell 1
    have f1 := HI2.out.box.frozen 1
    have HI3 := Lib.hid (HI2.out.put 1 (.int .i64 ((rVar s R).1 : Int)) ⟨i, (rVar s R).1, ⟨#[]⟩, ⟨#[]⟩⟩ rfl)
    clear hN HR
    go_wp2
    exact bodyPost_end (v := .tuple #[]) (by simp [results, Tryz.results98, go_sem]) rfl ⟨rfl, HI3.out⟩
  · rw [ht] at HTY
    rw [val_6 s R ht]
    have HR := Lib.hid (rdtext_any (HC.out _ HI0.out) HI0.out.obj hs)
    go_enter Tryz.func98, Tryz.ntmps98
    go_wp2_with fail
    refine (HTY.out _).mono ?_
    rintro x w1 ⟨rfl, rfl⟩
    go_wp2_with fail
    refine HR.out.mono ?_
    rintro x w2 ⟨rfl, hN⟩
    have HI2 := Lib.hid (HI0.out.step hN)
    have b0 := HI2.out.box.cell 0
    have b1 := HI2.out.box.cell 2
    have f1 := HI2.out.box.frozen 2
    have HI3 := Lib.hid (HI2.out.put 2 (.string (rText s R).1) ⟨i, 0, (rText s R).1, ⟨#[]⟩⟩ rfl)
    clear hN HR
    go_wp2
    exact bodyPost_end (v := .tuple #[]) (by simp [results, Tryz.results98, go_sem]) rfl ⟨rfl, HI3.out⟩
  · rw [ht] at HTY
    rw [val_7 s R ht]
    have HR := Lib.hid (rbin_any (HC.out _ HI0.out) HI0.out.obj hs)
    go_enter Tryz.func98, Tryz.ntmps98
    go_wp2_with fail
    refine (HTY.out _).mono ?_
    rintro x w1 ⟨rfl, rfl⟩
    go_wp2_with fail
    refine HR.out.mono ?_
    rintro x w2 ⟨rfl, hN⟩
    have HI2 := Lib.hid (HI0.out.step hN)
    have b0 := HI2.out.box.cell 0
    have b1 := HI2.out.box.cell 2
    have f1 := HI2.out.box.frozen 2
    have HI3 := Lib.hid (HI2.out.put 2 (.string (rBin s R).1) ⟨i, 0, (rBin s R).1, ⟨#[]⟩⟩ rfl)
    clear hN HR
    go_wp2
    exact bodyPost_end (v := .tuple #[]) (by simp [results, Tryz.results98, go_sem]) rfl ⟨rfl, HI3.out⟩
  · rw [ht] at HTY
    rw [val_9 s R ht]
    have HR := Lib.hid (rdtext_any (HC.out _ HI0.out) HI0.out.obj hs)
    go_enter Tryz.func98, Tryz.ntmps98
    go_wp2_with fail
    refine (HTY.out _).mono ?_
    rintro x w1 ⟨rfl, rfl⟩
    go_wp2_with fail
    refine HR.out.mono ?_
    rintro x w2 ⟨rfl, hN⟩
    have HI2 := Lib.hid (HI0.out.step hN)
    have b0 := HI2.out.box.cell 0
    have b1 := HI2.out.box.cell 2
    have f1 := HI2.out.box.frozen 2
    have HI3 := Lib.hid (HI2.out.put 2 (.string (rText s R).1) ⟨i, 0, (rText s R).1, ⟨#[]⟩⟩ rfl)
    clear hN HR
    have HR2 := Lib.hid (rdtext_any (env_cl HE.out HI3.out.bel HI3.out.gz) HI3.out.obj hs)
    go_wp2_with fail
    refine HR2.out.mono ?_
    rintro x w4 ⟨rfl, hN⟩
    have HI4 := Lib.hid (HI3.out.step hN)
    have b3 := HI4.out.box.cell 3
    have f3 := HI4.out.box.frozen 3
    have HI5 := Lib.hid (HI4.out.put 3 (.string (rText s (rText s R).2).1) ⟨i, 0, (rText s R).1, (rText s (rText s R).2).1⟩ rfl)
    clear hN HR2
    go_wp2
    exact bodyPost_end (v := .tuple #[]) (by simp [results, Tryz.results98, go_sem]) rfl ⟨rfl, HI5.out⟩
end
end Go.Proofs.YtnolnhpmpjgnaaaGreatDoor

/- What is proved here: the card of FaultDeeper: for every number, reason and list of numbers the statement answers true and its arguments read as they did. Conditions: those that the card itself prints. -/
import Derived.Test.YtekjdmmoongaaaaDoorCards
import Derived.Test.YtekjdmmoongaaaaDoorTie
import Derived.Test.YtekjdmmoongaaaaDoorEnv
import Derived.Test.YtekjdmmoongaaaaDoorDeeper
import Derived.JoinedOf
import Derived.Stop.Joined
namespace Go.Proofs.YtekjdmmoongaaaaDoor
open Go.ChangeShapes Go.WideShapes Go.ChangeAt Go.RowKit

section
variable {H : Type} {enc : TypeId × Value → H} {P : Program} {w : World}
/-- A slice of integers that came in: its length, and its cells. -/
theorem int_slice {r : Reach} {b0 b1 : Nat} {sp : Nat → Bool} {held : Bool} {t e : TypeId} {k : IntKind} {v : Value} {d : DataW H} {ps : List MemPlace}
    (ht : P.underlying t = some (.slice e)) (he : P.underlying e = some (.int k)) (hc : P.cellsOf e = 1) (hval : Value.okWide P w r b0 t v) (hd : DataW.Trod enc P w b1 sp held t v d ps) :
    ∃ a len cap, v = .slice a len cap ∧ len ≤ maxLen ∧ (len = 0 ∨ ∃ (b off : Nat) (zs : List Int), a = some ⟨b, off, none⟩ ∧ ∀ j, j < len → w.cell? ⟨b, off + j, none⟩ = some (.int k (zs.getD j 0))) := by
  obtain ⟨a0, len, cap, rfl⟩ := okWide_slice ht hval
  obtain ⟨fuel, hf⟩ := hd
  rcases open_ints ht he hc hf with ⟨hcs, hx⟩ | ⟨a, len', cap', zs, hcs, _, hl, hm, hz, hx, hcell, hwz⟩
  · simp [Value.cells] at hcs
    obtain ⟨rfl, rfl, rfl⟩ := hcs
    exact ⟨none, 0, 0, rfl, Nat.zero_le _, .inl rfl⟩
  · simp [Value.cells] at hcs
    obtain ⟨rfl, rfl, rfl⟩ := hcs
    have hlen : len ≤ zs.length := by rw [hz]; split <;> omega
    refine ⟨some a, len, cap, rfl, Nat.le_trans hl hm, ?_⟩
    rcases Nat.eq_zero_or_pos len with h0 | h0
    · exact .inl h0
    · obtain ⟨b, off, spot⟩ := a
      have hspot : spot = none := by simpa [Addr.add] using World.cell?_spot (hcell 0 (by omega))
      subst hspot
      exact .inr ⟨b, off, zs, rfl, fun j hj => by rw [← add_plain]; exact hcell j (by omega)⟩
end

theorem Tryd.cells3 : Tryd.prog.cellsOf 3 = 1 := by kernel_rfl

theorem deeper_walk (n r : Int) (a : Option Addr) (len cap : Nat) (S : Nat → Addr) (w : World) (h : Env w S) (hm : len ≤ maxLen)
    (ha : len = 0 ∨ ∃ (b off : Nat) (zs : List Int), a = some ⟨b, off, none⟩ ∧ ∀ j, j < len → w.cell? ⟨b, off + j, none⟩ = some (.int .i64 (zs.getD j 0))) :
    Calls Tryd.prog 4 #[.int .i64 n, .int .i64 r, .slice a len cap] w fun x w' => x = .returned (.bool true) ∧ Below w.heap.size w w' := by
  by_cases hn : n < 1 ∨ 7 < n
  · exact deeper_out1 n r a len cap S w h (kind_none n w hn)
  · obtain ⟨i, hi, hni, hk⟩ := kind_some n S w h (by omega) (by omega)
    by_cases hl : 20 < len
    · exact deeper_out2 n r a len cap 64 _ S w h hk hl (by unfold maxLen at hm; omega)
    · rcases ha with rfl | ⟨b, off, zs, rfl, hz⟩
      · exact deeper_empty n r a cap i S w h hk
      · exact deeper_in n r b off len cap zs i hi S w h hni hk (by omega) hz

set_option maxRecDepth 100000 in
theorem deeper_lifted (os : Os) (started : os.Started) (H : Type) (enc : TypeId × Value → H) :
    ReturnsInHanded {} Tryd.checked os 4 .any (fun w args => (Rows.faultDeeperSpec.pre enc Tryd.prog Tryd.f4 [] false w args ∧ laidMetH Tryd.prog Rows.faultDeeperRow.laid w) ∧ sizedMet enc Tryd.prog Tryd.f4 (OpenSpec.ofChange Rows.faultDeeperSpec) false w args)
      (Rows.faultDeeperSpec.post enc Tryd.prog Tryd.f4 false true false false) := by
  refine returnsInHanded_of_change_and (C := Tryd.checked) (X := fun w _ => laidMetH Tryd.prog Rows.faultDeeperRow.laid w) (fun _ _ _ hh h => h.of_heap hh) Tryd.own started (by kernel_rfl) Tryd.func4
    (ChangeSpec.witness_shaped (enc := enc) (C := Tryd.checked) (os := os) (X := fun w _ => laidMetH Tryd.prog Rows.faultDeeperRow.laid w) false (World.doorLaid Tryd.prog 164 os) #[.int .i64 0, .int .i64 0, .slice none 0 0] 8 rfl (World.shaped_of_RefB (by kernel_rfl) (by kernel_rfl)) (by kernel_rfl) (by kernel_rfl) (by kernel_rfl) (door_deeper os _)) ?_
  intro W base args ds gs before hval0 hW _ _ hL _
  have hval : ∀ (j : Nat) t v, Tryd.f4.params[j]? = some t → args[j]? = some v → Value.okWide Tryd.prog W .any base t v := hval0
  have hW' := hW
  obtain ⟨p, q, hA0, hV, rfl, hfz, hnd⟩ := hW
  have hA : DataW.TrodAll enc Tryd.prog W 0 (fun _ => true) true Tryd.f4.params.toList args.toList ds p := hA0
  rw [Tryd.params4] at hA hval
  obtain ⟨v0, v1, v2, d0, d1, d2, p0, p1, p2, rfl, rfl, rfl, h0, h1, h2⟩ := trodAll_three hA
  obtain ⟨n, rfl, rfl, rfl, wn⟩ := open_int Tryd.underlying3 (hval 0 3 v0 rfl rfl) h0
  obtain ⟨r, rfl, rfl, rfl, wr⟩ := open_int Tryd.underlying3 (hval 1 3 v1 rfl rfl) h1
  obtain ⟨a, len, cap, rfl, hm, hc⟩ := int_slice Tryd.underlying42 Tryd.underlying3 Tryd.cells3 (hval 2 42 v2 rfl rfl) h2
  obtain ⟨S, hE⟩ := env_of_deeper hL
  refine (deeper_walk n r a len cap S W hE hm hc).mono fun e W' ⟨he, hb⟩ => ?_
  subst he
  exact ⟨_, rfl, law_post Tryd.laidOut (by kernel_rfl) rfl (by kernel_rfl) Tryd.underlying4 hW' rfl hb⟩

theorem faultDeeper_said : Rows.FaultDeeperSaid :=
  OpenClaim.holds_of_wide 4 Tryd.f4 rfl rfl rfl rfl rfl rfl rfl ⟨rfl, rfl, rfl, rfl, rfl⟩ rfl rfl rfl rfl rfl (by kernel_rfl) Tryd.func4 (by kernel_rfl)
    (of_decide_eq_true (by kernel_rfl)) (by unfold Func.isWrapper; first | (rw [if_pos (by decide +kernel)]; kernel_rfl) | (rw [if_neg (by decide +kernel)]; exact ⟨rfl, rfl⟩))
    (fun os started H enc _ => deeper_lifted os started H enc)

/-- No parameter wants a stand-in. -/
theorem deeper_plain (f : FuncId) (fn : Func) (hf : Tryd.pinned.checked.prog.funcNamed "towncrier/towncrierlaw01.FaultDeeper" = some f) (hfn : Tryd.pinned.checked.prog.funcs[f]? = some fn) :
    true = Tryd.pinned.checked.prog.looks [] ∧ ∀ (j : Nat) t, fn.params[j]? = some t → Tryd.pinned.checked.prog.wantsStandIn t = false := by
  obtain rfl : f = 4 := Option.some.inj ((show Tryd.prog.funcNamed "towncrier/towncrierlaw01.FaultDeeper" = some 4 by kernel_rfl).symm.trans hf) |>.symm
  obtain rfl : fn = Tryd.f4 := (Option.some.inj (Tryd.func4.symm.trans hfn)).symm
  refine ⟨by kernel_rfl, fun j t ht => ?_⟩
  rw [Tryd.params4] at ht
  have hall : ∀ t ∈ #[3, 3, 42], Tryd.prog.wantsStandIn t = false := by
    intro t ht
    have : t = 3 ∨ t = 42 := by simpa using ht
    rcases this with rfl | rfl
    · exact (show Tryd.prog.wantsStandIn 3 = false by kernel_rfl)
    · exact (show Tryd.prog.wantsStandIn 42 = false by kernel_rfl)
  exact hall t (Array.mem_of_getElem? ht)

theorem faultDeeper_card : Rows.FaultDeeperCardSaid :=
  Claim7.holds_tied_plain_at .later [] _ _ _ _ faultDeeper_said (fun _ h => by cases h) (by kernel_rfl) (fun _ h => by cases h) faultDeeper_row_tie rfl ⟨rfl, rfl⟩ (by kernel_rfl) rfl deeper_plain (by kernel_rfl)
#print axioms faultDeeper_card
end Go.Proofs.YtekjdmmoongaaaaDoor

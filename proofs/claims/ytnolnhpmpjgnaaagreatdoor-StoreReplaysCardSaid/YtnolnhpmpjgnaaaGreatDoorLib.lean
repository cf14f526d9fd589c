/- What is proved here, of whatever program: a statement's row follows from its walk and from what the walk leaves of older memory; and a list of errors of errors.New that a row lists are so many different pointers. Conditions: those that each theorem names. -/
import Derived.Test.YtnolnhpmpjgnaaaGreatDoorProg
import Derived.ProofKit
import Derived.LaidMore
import Derived.Carry
import Derived.Stop.LaidErr
import Derived.LaidHandle
import GoSem.ClaimSevenParts
namespace Go.Proofs.YtnolnhpmpjgnaaaGreatDoor
open Go.ChangeShapes Go.WideShapes Go.ChangeAt Go.RowKit

section
variable {H : Type} {enc : TypeId × Value → H} {P : Program}

/-- The arguments read behind the call as they read before it. -/
theorem trodAll_below (hl : laidOutB P = true) {W W' : World} (hb : Below W.heap.size W W') :
    ∀ {ts : List TypeId} {vs : List Value} {ds : List (DataW H)} {ps : List MemPlace}, ts.all (fun t => P.readableRec t && decide (t < P.types.size)) = true → (∀ x ∈ ps, x.block < W.heap.size) →
      DataW.TrodAll enc P W 0 (fun _ => true) true ts vs ds ps → DataW.TrodAll enc P W' 0 (fun b => decide (b < W.heap.size)) true ts vs ds ps
  | [], [], [], _, _, _, h => h
  | [], [], _ :: _, _, _, _, h => h.elim
  | [], _ :: _, _, _, _, _, h => h.elim
  | _ :: _, [], _, _, _, _, h => h.elim
  | _ :: _, _ :: _, [], _, _, _, h => h.elim
  | t :: ts, v :: vs, d :: ds, ps, hr, hlt, h => by
    obtain ⟨p, q, h1, h2, rfl⟩ := h
    simp only [List.all_cons, Bool.and_eq_true, decide_eq_true_eq] at hr
    exact ⟨p, q, Below.trod hl hr.1.1 hr.1.2 h1 hb (fun x hx => hlt x (List.mem_append_left _ hx)), trodAll_below hl hb hr.2 (fun x hx => hlt x (List.mem_append_right _ hx)) h2, rfl⟩

/-- A statement's last step: its walk answered true, and nothing older has changed. -/
theorem law_post {f : Func} {s : ChangeSpec} {apart fresh handsOn : Bool} {W W' : World} {args : Array Value} {ds gs : List (DataW H)} {before : List MemPlace} {tb : TypeId}
    (hl : laidOutB P = true) (hr : f.params.toList.all (fun t => P.readableRec t && decide (t < P.types.size)) = true) (hv : s.vars = []) (hrt : f.resultTypes = #[tb]) (htb : P.underlying tb = some .bool)
    (hW : DataW.Whole enc P f.params.toList s.vars apart W args.toList ds gs before) (hfn : s.fn H ds = { results := [.lit (.bool true)], args := ds }) (hb : Below W.heap.size W W') :
    s.post enc P f apart fresh handsOn false W args (.bool true) W' := by
  have hlt : ∀ p ∈ before, p.block < W.heap.size := fun p hp => hW.lt p hp
  have hW0 := hW
  obtain ⟨p, q, hA, hV, rfl, hfz, hnd⟩ := hW
  have hg : gs = [] := by
    rw [hv] at hV
    cases gs with
    | nil => rfl
    | cons g r => exact hV.elim
  subst hg
  refine ⟨ds, [], _, [], p, [], hW0, ?_, ?_, ?_, hb.frame _, fun h => by cases h⟩
  · rw [List.append_nil, hfn, hrt]
    exact trodAll_mk1 (shut_bool htb true)
  · rw [List.append_nil, hfn]
    exact trodAll_below hl hb hr (fun x hx => hlt x (List.mem_append_left _ hx)) hA
  · rw [List.append_nil, hfn, hv]
    rfl

/-- The listed errors: seven (or however many) different pointers, each to a block of its own. -/
theorem sent_list {W : World} {nm : String} {ti tp te ts : TypeId} {ms : Array (String × TypeId)} {f : Field}
    (hi : P.underlying ti = some (.interface ms)) (hrow : ∀ u, P.typeName? 3 u = some nm → u = tp)
    (hp : P.underlying tp = some (.pointer te)) (he : P.underlying te = some (.struct #[f])) (hft : f.type = ts) (hfo : f.offset = 0) (hs : P.underlying ts = some .string) (hc : P.cellsOf te = 1) (hcs : P.cellsOf ts = 1) :
    ∀ (l : List (String × List UInt8 × Nat)) (ps : List MemPlace), DataW.LaidVars P W (l.map fun x => (x.1, .iface nm (.ptr (.agg [.lit (.string x.2.1)])))) ps → ps.Nodup →
      (∀ b off, MemPlace.cell b off ∈ ps → (∃ c t, W.heap[b]? = some (.cells c t (0, 0))) ∧ ∀ u v, W.cell? ⟨b, off, none⟩ = some (.iface u v) → Value.okWide P W .any 0 u v) →
      (∀ x ∈ l, P.globalNamed x.1 = some x.2.2 ∧ (P.globals[x.2.2]?).map (·.type) = some ti) →
      ∃ S : Nat → Addr, (∀ i x, l[i]? = some x → W.cell? ⟨x.2.2, 0, none⟩ = some (.iface tp (.pointer (some (S i)))) ∧ (∃ c t, W.heap[(S i).block]? = some (.cells c t (0, 0))) ∧ (∃ s : ByteArray, W.cell? (S i) = some (.string s) ∧ s.data.toList = x.2.1) ∧ MemPlace.cell (S i).block (S i).off ∈ ps) ∧
        ∀ i j, i < l.length → j < l.length → i ≠ j → S i ≠ S j := by
  intro l
  induction l with
  | nil => exact fun ps _ _ _ _ => ⟨fun _ => ⟨0, 0, none⟩, fun i x h => by simp at h, fun i j h => by simp at h⟩
  | cons x l ih =>
    rintro ps ⟨g, t, cs, fuel, p, q, hg, ht, hv, hd, hq, rfl⟩ hnd hrows hnames
    have hx := hnames x (List.mem_cons_self ..)
    obtain rfl := Option.some.inj (hx.1.symm.trans hg)
    obtain rfl := Option.some.inj (hx.2.symm.trans ht)
    obtain ⟨l0⟩ := cs
    have ok0 : ∀ u v, l0 = [.iface u v] → Value.okWide P W .any 0 u v := fun u v e => by
      subst e
      exact (hrows x.2.2 0 (by simp [MemPlace.row])).2 u v (by simpa using World.var?_cell hx.1 hv 0)
    obtain ⟨a0, s0, rfl, hc0, hs0, hz0, rfl⟩ := errorString_of_trod hi hrow hp he hft hfo hs hc hcs hd ok0
    obtain ⟨S, hS, hne⟩ := ih q hq (List.Nodup.sublist (List.sublist_append_right _ _) hnd) (fun b off hm => hrows b off (List.mem_append_right _ hm)) fun y hy => hnames y (List.mem_cons_of_mem _ hy)
    have ha0 : MemPlace.cell a0.block a0.off ∈ MemPlace.row a0 1 := by simp [MemPlace.row]
    have hdis : ∀ i, i < l.length → a0 ≠ S i := by
      rintro i hi rfl
      have hm := (hS i l[i] (List.getElem?_eq_getElem hi)).2.2.2
      have := (List.nodup_append.1 hnd).2.2
      exact this _ (List.mem_append_right _ ha0) _ hm rfl
    refine ⟨fun i => match i with | 0 => a0 | n + 1 => S n, ?_, ?_⟩
    · intro i y hy
      cases i with
      | zero =>
        simp only [List.getElem?_cons_zero, Option.some.injEq] at hy
        subst hy
        exact ⟨by simpa using World.var?_cell hx.1 hv 0, (hrows a0.block a0.off (List.mem_append_left _ (List.mem_append_right _ ha0))).1, ⟨s0, hc0, hs0⟩, List.mem_append_left _ (List.mem_append_right _ ha0)⟩
      | succ n =>
        simp only [List.getElem?_cons_succ] at hy
        obtain ⟨h1, h2, h3, h4⟩ := hS n y hy
        exact ⟨h1, h2, h3, List.mem_append_right _ h4⟩
    · intro i j hi hj hij
      cases i with
      | zero =>
        cases j with
        | zero => exact absurd rfl hij
        | succ m => exact hdis m (by simpa using hj)
      | succ n =>
        cases j with
        | zero => exact (hdis n (by simpa using hi)).symm
        | succ m => exact hne n m (by simpa using hi) (by simpa using hj) (by omega)

/-- The handle of a type, out of the row's list. -/
theorem handle_of_list {W : World} {hs : List (String × DataW Unit)} {n : String} {d : DataW Unit} {nm : List UInt8} {r ty g : Nat}
    (h : handlesMet P hs W) (hm : (n, d) ∈ hs) (hf : d.funcsIn? = none) (hd : d.handleName? = some nm) (hr : (P.cutTypes.find? (·.1 == "internal/reflectlite.rtype")).map (·.2) = some r)
    (hone : ∀ t, t < P.types.size → P.rowNamed t nm = true → t = ty) (hg : P.globalNamed n = some g) :
    W.cell? ⟨g, 0, none⟩ = some (.iface r (.agg #[typeHandle P ty])) := by
  have h' := h _ hm
  simp only [hf] at h'
  obtain ⟨name, u, t, e1, e2, e3, e4, e5⟩ := h'
  obtain rfl := Option.some.inj (hd.symm.trans e1)
  obtain rfl := Option.some.inj (hr.symm.trans e2)
  obtain rfl := hone t e3 e4
  simpa using World.var?_cell hg e5 0

/-- A slice of integers that came in: its length, and its cells. -/
theorem int_slice {w : World} {r : Reach} {b0 b1 : Nat} {sp : Nat → Bool} {held : Bool} {t e : TypeId} {k : IntKind} {v : Value} {d : DataW H} {ps : List MemPlace}
    (ht : P.underlying t = some (.slice e)) (he : P.underlying e = some (.int k)) (hc : P.cellsOf e = 1) (hval : Value.okWide P w r b0 t v) (hd : DataW.Trod enc P w b1 sp held t v d ps) :
    ∃ a len cap, v = .slice a len cap ∧ len ≤ maxLen ∧ (len = 0 ∨ ∃ (b off : Nat) (zs : List Int), a = some ⟨b, off, none⟩ ∧ ∀ j, j < len → w.cell? ⟨b, off + j, none⟩ = some (.int k (zs.getD j 0))) := by
  obtain ⟨a0, len, cap, rfl⟩ := okWide_slice ht hval
  obtain ⟨fuel, hf⟩ := hd
  rcases open_ints ht he hc hf with ⟨hcs, hx⟩ | ⟨a, len', cap', zs, hcs, _, hl, hm, hz, hx, hcell, hwz⟩
  · simp [Value.cells] at hcs
    obtain ⟨rfl, rfl, rfl⟩ := hcs
    exact ⟨none, 0, 0, rfl, Nat.zero_le _, .inl rfl⟩
  · simp [Value.cells] at hcs
    obtain ⟨rfl, rfl, rfl⟩ := hcs
    have hlen : len ≤ zs.length := by rw [hz]; split <;> omega
    refine ⟨some a, len, cap, rfl, Nat.le_trans hl hm, ?_⟩
    rcases Nat.eq_zero_or_pos len with h0 | h0
    · exact .inl h0
    · obtain ⟨b, off, spot⟩ := a
      have hspot : spot = none := by simpa [Addr.add] using World.cell?_spot (hcell 0 (by omega))
      subst hspot
      exact .inr ⟨b, off, zs, rfl, fun j hj => by rw [← add_plain]; exact hcell j (by omega)⟩

/-- Parameters of plain types want no stand-in. -/
theorem no_stand_in {l : Array TypeId} (h : l.toList.all (fun t => !P.wantsStandIn t) = true) : ∀ t ∈ l, P.wantsStandIn t = false := by
  intro t ht
  have := List.all_eq_true.1 h t (Array.mem_toList_iff.2 ht)
  simpa using this
end
/-- An int's range. -/
theorem i64_range {n : Int} (h : (Lit.int .i64 n).wf = true) : -9223372036854775808 ≤ n ∧ n ≤ 9223372036854775807 := by
  simpa [Lit.wf, IntKind.min, IntKind.max, IntKind.signed, IntKind.bits] using h
/-- What the call owns stays owned while nothing older changes. -/
theorem own_below {w w' : World} {base : Nat} {e : TypeId} {size : Nat} {v : Value} {n : Nat} {xs : List Value} (h : w.ownsRow base e size v n xs) (hb : Below w.heap.size w w') : w'.ownsRow base e size v n xs := by
  obtain ⟨h1, h2⟩ := h
  refine ⟨h1, ?_⟩
  rcases h2 with h2 | ⟨g, cap, cur, hv, hg, hh, h3⟩
  · exact .inl h2
  · have hlt : g < w.heap.size := by
      rcases Nat.lt_or_ge g w.heap.size with h | h
      · exact h
      · rw [Array.getElem?_eq_none h] at hh; cases hh
    exact .inr ⟨g, cap, cur, hv, hg, (hb.block g hlt).trans hh, h3⟩
theorem lt_of_cell' {w : World} {k i : Nat} {v : Value} (h : w.cell? ⟨k, i, none⟩ = some v) : k < w.heap.size := by
  rcases Nat.lt_or_ge k w.heap.size with h' | h'
  · exact h'
  · simp [World.cell?, Array.getElem?_eq_none h'] at h
end Go.Proofs.YtnolnhpmpjgnaaaGreatDoor

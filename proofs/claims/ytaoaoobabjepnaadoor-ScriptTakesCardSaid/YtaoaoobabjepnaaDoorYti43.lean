/- What is proved here, of whatever program: a region that draws its order and is values, a store, a value and a store. No conditions but those that each theorem names. -/
import Derived.Test.YtaoaoobabjepnaaDoorOwn
namespace Go.Proofs.YtaoaoobabjepnaaDoor
set_option maxRecDepth 100000
open Go.ChangeShapes Go.WideShapes Go.RowKit Go.Deep
section
variable {P : Program} {X : List Nat} {w0 w : World} {L : OL} {ops : Array Oper} {op : Oper} {a : Act} {Q : Exit → Act → World → Prop}
def okY2S (ops : Array Oper) (n : Nat) : Bool :=
  okTk ops n && (ops.size == n + 3) && (Region.ready .any ops (lstN ops n) == [n]) && (Region.ready .any ops ((lstN ops n).setIfInBounds n true) == [n + 1]) && (Region.ready .any ops (((lstN ops n).setIfInBounds n true).setIfInBounds (n + 1) true) == [n + 2]) && (Region.ready .any ops ((((lstN ops n).setIfInBounds n true).setIfInBounds (n + 1) true).setIfInBounds (n + 2) true) == [])
theorem wpo_op_const {o : Oper} {K : Act → World → Prop} {u : Value} (e3 : o.op = .assign (.const u)) (h : K (a.put o.dst u) w) : Oper.wp P o a w K Q := by
  unfold Oper.wp execOp
  simp only [e3, Sem.run_pure]
  exact h
/-- A statement of values, a store, a value and a store. -/
theorem wpo_y2s {id : Nat} {o2 o3 o4 : Oper} {xA yA xB yB : Nat × TypeId × Array Value} {d : Tmp} {u : Value} (vs : List (Nat × Value)) (i j : Nat) (hm : P.follows .mixedOrders = true) (hok : okY2S ops vs.length = true) (hO : Own X w0 w L)
    (hi : L[i]? = some xA) (hj : L[j]? = some xB) (hij : i ≠ j) (hQ : ∀ c a (d : Tmp) v w, Q (.panic c) (Act.put a (some d) v) w → Q (.panic c) a w)
    (hy : Ylds P ops (SO X w0 L i j) 0 vs a) (h2 : ops[vs.length]? = some o2) (h3 : ops[vs.length + 1]? = some o3) (h4 : ops[vs.length + 2]? = some o4) (g3 : o3.guard = none) (e3 : o3.op = .assign (.const u)) (d3 : o3.dst = some d)
    (sA : Sto P X w0 Q o2 (putD vs a) i xA yA) (sB : Sto P X w0 Q o4 ((putD vs a).put (some d) u) j xB yB)
    (H : ∀ W, Own X w0 W ((L.set i yA).set j yB) → Q .normal ((putD vs a).put (some d) u) W) :
    (Code.region id ops true).wp P Q a w := by
  generalize hn : vs.length = n at *
  simp only [okY2S, Bool.and_eq_true, beq_iff_eq] at hok
  obtain ⟨⟨⟨⟨⟨k1, k2⟩, k3⟩, k4⟩, k5⟩, k6⟩ := hok
  obtain ⟨g2, sA⟩ := sA
  obtain ⟨g4, sB⟩ := sB
  refine wp_region_held_drew (S := SO X w0 L i j) hm ⟨L, hO.drew, fun _ _ _ => rfl⟩ (fun hHeld => ?_)
  suffices h : wpAnyH P .any ops Q (SO X w0 L i j) 3 (lstN ops n) (putD vs a) w.drew by
    have T := takes (n := n) k1 hQ hHeld vs 0 a 3 (by omega) hy h
    rw [show 3 + vs.length = ops.size by omega] at T
    exact T
  have hD := hO.drew
  generalize w.drew = w1 at *
  generalize putD vs a = b at *
  have hj' : (L.set i yA)[j]? = some xB := by rw [List.getElem?_set_ne hij]; exact hj
  refine wpAnyH_ready (rs := [n]) k3 (by simp) (AllReadyH.cons (o := o2) h2 (fun K hK => ?_) AllReadyH.nil)
  simp only [Region.wanted, g2, if_true]
  obtain ⟨W1, hW1, step1⟩ := sA w1 L hD hi
  refine step1 K (hK.out _ _ ⟨_, hW1, fun m h1 _ => List.getElem?_set_ne (fun e => h1 e.symm)⟩ (fun _ => ?_))
  refine wpAnyH_ready (rs := [n + 1]) k4 (by simp) (AllReadyH.cons (o := o3) h3 (fun K hK => ?_) AllReadyH.nil)
  simp only [Region.wanted, g3, if_true]
  refine wpo_op_const e3 ?_
  rw [d3]
  refine hK.out _ _ ⟨_, hW1, fun m h1 _ => List.getElem?_set_ne (fun e => h1 e.symm)⟩ (fun _ => ?_)
  refine wpAnyH_ready (rs := [n + 2]) k5 (by simp) (AllReadyH.cons (o := o4) h4 (fun K hK => ?_) AllReadyH.nil)
  simp only [Region.wanted, g4, if_true]
  obtain ⟨W2, hW2, step2⟩ := sB W1 _ hW1 hj'
  refine step2 K (hK.out _ _ ⟨_, hW2, fun m h1 h2 => by rw [List.getElem?_set_ne (fun e => h2 e.symm), List.getElem?_set_ne (fun e => h1 e.symm)]⟩ (fun _ => ?_))
  exact wpAnyH_done k6 (H _ hW2) _
theorem wpg_cell {rest : List Oper} {G : World → Prop} {k : Nat} {t : TypeId} {old : Array Value} (hO : Own X w0 w L) (i : Nat) (j : Nat) {ty : TypeId} (hI : (P.info? ty).map (·.size) = some 1) (hi : L[i]? = some (k, t, old)) (hG : ∀ W, Fr [k] w W → G W) {v : Value} (x y : Operand) (hgd : op.guard = none) (ho : op.op = .store ty x y)
    (hx : a.eval x = .pointer (some ⟨k, j, none⟩)) (hy : a.eval y = v) (hj : j < old.size) (h1 : v.oneCell' = true)
    (h : ∀ W, Own X w0 W (L.set i (k, t, old.setIfInBounds j v)) → G W → wpList P ops Q rest (a.put op.dst undef) W) : wpList P ops Q (op :: rest) a w :=
  wpList_plain hgd fun _ hK => by
    unfold Oper.wp execOp
    simp only [ho, hx, hy, Instr.storeAt, Instr.sureAddr, Sem.run_bind, Sem.run_pure, Result.andThen_ok, run_store_one (hO.get i hi) j hj hI h1]
    exact hK _ _ (h _ (hO.cell i hi j v) (hG _ (fr_setCell w k j v)))
end
end Go.Proofs.YtaoaoobabjepnaaDoor

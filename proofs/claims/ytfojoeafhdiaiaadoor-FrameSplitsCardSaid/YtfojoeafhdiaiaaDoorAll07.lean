/- What is proved here: the document's own answer: all packets of bytes, the error behind them, and how many are left. Condition: few bytes. -/
import Derived.Test.YtfojoeafhdiaiaaDoorDrn07
import Derived.Deep.RegionLaw
namespace Go.Proofs.YtfojoeafhdiaiaaDoor
set_option maxRecDepth 100000
open Go.RowKit Go.Extern.Stop Go.Stop Go.Extern
/-- append of one packet at a step of a region that draws its order. -/
theorem step_frame {w : World} {B : Nat} {ops : Array Oper} {o : Oper} {a : Act} {K : Act → World → Prop} {Q : Exit → Act → World → Prop} {E : Prop} {L : List FP} {v : Value} (f : FP) (ci : Int) (bi : ByteArray) (hf : fCells f = [.int .i64 ci, .string bi]) (hgd : o.guard = none) (s x : Operand) (ho : o.op = .call { callee := .builtin .append, args := #[s, x], argTypes := #[74, 74] })
    (hs : a.eval s = v) (h : FRow w B v L) (hB : B ≤ w.heap.size) (hl : L.length ≤ 100000) (k c : Nat) (hx : a.eval x = .slice (some ⟨k, 0, none⟩) 1 c) (hk : k = w.heap.size)
    (hK : ∀ v' w', FNext w w' B v v' (L ++ [f]) → K (a.put o.dst v') w') :
    if Region.wanted o (yielded ops a.tmps) = true then Oper.wp Tryd.prog o a (w.alloc (.cells #[.int .i64 ci, .string bi] 61)) K Q else E := by
  have hw : Region.wanted o (yielded ops a.tmps) = true := by simp [Region.wanted, hgd]
  rw [if_pos hw]
  subst hk
  have hb : Below w.heap.size w (w.alloc (.cells #[.int .i64 ci, .string bi] 61)) := (Below.refl _ _).alloc (Nat.le_refl _) _
  obtain ⟨v', w', hr, hn⟩ := run_frames (M := [f]) (h.below hb) (Nat.le_trans hB hb.size) (by simp; omega) o.type ⟨w.heap.size, 0, none⟩ c (fun j u hj => by
    rw [Addr.add_lit, Nat.zero_add, (Blk.made w 61 _).cell j, ← Array.getElem?_toList]
    rw [show fcs [f] = fCells f from by unfold fcs; simp, hf] at hj
    exact hj)
  refine Lib.wp_append_run _ s x 74 74 ho v _ hs hx v' w' hr (hK v' w' ⟨hn.row, (World.grownBy_alloc w _ _).trans hn.grown, ?_⟩)
  rcases hn.own with e | ⟨k, e, hk⟩
  · exact .inl e
  · rw [World.size_alloc] at hk
    exact .inr ⟨k, e, by omega⟩
/-- What the document's All says. -/
def AlSays (w : World) (A : AV) (x : Ending) (w' : World) : Prop :=
  ∃ a c, x = .returned (.tuple #[.slice a A.pk.length c, .agg #[.int .i64 A.no, .int .i64 A.r, .int .i64 A.a], .int .i64 A.rest.length]) ∧ FRow w' w.heap.size (.slice a A.pk.length c) A.pk ∧ Below w.heap.size w w'
/-- What its loop holds. -/
structure AlIn (w W : World) (most : Int) (al : List UInt8) (u : Value) (done : List FP) (R : List UInt8) : Prop where
  row : FRow W (w.heap.size + 1) u done
  box : Blk W w.heap.size 63 #[.int .i64 0, .int .i64 0, .int .i64 0]
  bel : Below w.heap.size w W
  all : allF most al = ⟨done ++ (allF most R).pk, (allF most R).rest, (allF most R).no, (allF most R).r, (allF most R).a⟩
theorem FRow.mono {w : World} {B B' : Nat} {v : Value} {L : List FP} (h : FRow w B v L) (hB : B' ≤ B) : FRow w B' v L := by
  obtain ⟨h1, h2⟩ := h
  refine ⟨h1, ?_⟩
  rcases h2 with h2 | ⟨gr, cap, cur, rfl, hb, hh, h3⟩
  · exact .inl h2
  · exact .inr ⟨gr, cap, cur, rfl, by omega, hh, h3⟩
/-- It ends here. -/
theorem AlIn.done {w W : World} {most : Int} {al : List UInt8} {a : Option Addr} {n c : Nat} {done : List FP} {R : List UInt8} (h : AlIn w W most al (.slice a n c) done R) (hn : n = done.length) (no : Nat) (r : Int) (at_ : Nat) (noI atI rnI : Int) (h1 : noI = no) (h2 : atI = at_) (hr : rnI = R.length) (hR : allF most R = ⟨[], R, no, r, at_⟩) :
    AlSays w (allF most al) (.returned (.tuple #[.slice a n c, .agg #[.int .i64 noI, .int .i64 r, .int .i64 atI], .int .i64 rnI])) (((W.setCell ⟨w.heap.size, 0, none⟩ (.int .i64 noI)).setCell ⟨w.heap.size, 1, none⟩ (.int .i64 r)).setCell ⟨w.heap.size, 2, none⟩ (.int .i64 atI)) := by
  have hf : Fr [w.heap.size] W (((W.setCell ⟨w.heap.size, 0, none⟩ (.int .i64 noI)).setCell ⟨w.heap.size, 1, none⟩ (.int .i64 r)).setCell ⟨w.heap.size, 2, none⟩ (.int .i64 atI)) :=
    (((Fr.refl [w.heap.size] W).setCell (p := ⟨w.heap.size, 0, none⟩) (.inl (List.mem_singleton_self _)) _).setCell (p := ⟨w.heap.size, 1, none⟩) (.inl (List.mem_singleton_self _)) _).setCell (p := ⟨w.heap.size, 2, none⟩) (.inl (List.mem_singleton_self _)) _
  have ha := h.all
  rw [hR] at ha
  simp only [List.append_nil] at ha
  rw [ha]
  unfold AlSays
  simp only
  subst hr hn h1 h2
  refine ⟨a, c, rfl, (h.row.fr hf fun k hk hm => ?_).mono (Nat.le_succ _), ((h.bel.setCell (Nat.le_refl _) _).setCell (Nat.le_refl _) _).setCell (Nat.le_refl _) _⟩
  rw [List.mem_singleton] at hm
  have := (h.row.lt k hk).1
  omega
theorem AlIn.below {w W W' : World} {most : Int} {al : List UInt8} {u : Value} {done : List FP} {R : List UInt8} (h : AlIn w W most al u done R) (hb : Below W.heap.size W W') : AlIn w W' most al u done R := ⟨h.row.below hb, h.box.below hb h.box.lt, h.bel.trans (hb.mono h.bel.size), h.all⟩
/-- One packet more. -/
theorem AlIn.more {w W W' : World} {most : Int} {al : List UInt8} {u u' : Value} {done : List FP} {R R' : List UInt8} {f : FP} (h : AlIn w W most al u done R) (hn : FNext W W' (w.heap.size + 1) u u' (done ++ [f])) (hR : allF most R = ⟨f :: (allF most R').pk, (allF most R').rest, (allF most R').no, (allF most R').r, (allF most R').a⟩) : AlIn w W' most al u' (done ++ [f]) R' := by
  refine ⟨hn.row, h.box.grown hn.grown fun e => ?_, ?_, ?_⟩
  · have := (h.row.lt _ e.symm).1
    omega
  · refine Fr.later (X := u.ownBlock.toList) ((Fr.refl _ W).grown hn.grown fun k hk => .inl (own_list.2 hk)) h.bel (fun b hm => ?_) h.bel.size
    have := (h.row.lt b (own_list.1 hm)).1
    omega
  · rw [h.all, hR, List.append_assoc]
    rfl
theorem box3 {W : World} {g : Nat} {t : TypeId} {a b c : Value} (h : Blk W g t #[a, b, c]) (x y z : Value) :
    W.cell? ⟨g, 0, none⟩ = some a ∧ W.cell? ⟨g, 1, none⟩ = some b ∧ W.cell? ⟨g, 2, none⟩ = some c ∧ W.frozen? ⟨g, 0, none⟩ = false ∧ W.frozen? ⟨g, 1, none⟩ = false ∧ W.frozen? ⟨g, 2, none⟩ = false ∧
    (W.setCell ⟨g, 0, none⟩ x).cell? ⟨g, 1, none⟩ = some b ∧ (W.setCell ⟨g, 0, none⟩ x).frozen? ⟨g, 1, none⟩ = false ∧ (W.setCell ⟨g, 0, none⟩ x).cell? ⟨g, 2, none⟩ = some c ∧ (W.setCell ⟨g, 0, none⟩ x).frozen? ⟨g, 2, none⟩ = false ∧
    ((W.setCell ⟨g, 0, none⟩ x).setCell ⟨g, 1, none⟩ y).cell? ⟨g, 2, none⟩ = some c ∧ ((W.setCell ⟨g, 0, none⟩ x).setCell ⟨g, 1, none⟩ y).frozen? ⟨g, 2, none⟩ = false ∧
    (((W.setCell ⟨g, 0, none⟩ x).setCell ⟨g, 1, none⟩ y).setCell ⟨g, 2, none⟩ z).cell? ⟨g, 0, none⟩ = some x ∧ (((W.setCell ⟨g, 0, none⟩ x).setCell ⟨g, 1, none⟩ y).setCell ⟨g, 2, none⟩ z).cell? ⟨g, 1, none⟩ = some y ∧ (((W.setCell ⟨g, 0, none⟩ x).setCell ⟨g, 1, none⟩ y).setCell ⟨g, 2, none⟩ z).cell? ⟨g, 2, none⟩ = some z := by
  have h1 := h.store 0 x
  have h2 := h1.store 1 y
  have h3 := h2.store 2 z
  exact ⟨h.cell 0, h.cell 1, h.cell 2, h.frozen 0, h.frozen 1, h.frozen 2, h1.cell 1, h1.frozen 1, h1.cell 2, h1.frozen 2, h2.cell 2, h2.frozen 2, h3.cell 0, h3.cell 1, h3.cell 2⟩
theorem ba_cons {t : ByteArray} (h : 0 < t.size) : t.data.toList = t[0] :: (t.extract 1 t.size).data.toList := by
  rw [ext_list]
  have hl := bLen t
  cases hx : t.data.toList with
  | nil => rw [hx] at hl; simp at hl; omega
  | cons b l =>
    rw [hx] at hl
    have h0 : t[0] = b := by
      show t.data[0] = b
      rw [← Array.getElem_toList]
      simp [hx]
    rw [h0, List.drop_succ_cons, List.drop_zero, List.take_of_length_le]
    simp at hl
    omega
theorem head_ba (most : Int) {t : ByteArray} (h : 0 < t.size) : headF most t.data.toList = if mayI (t[0].toNat : Int) = true then headT most (vt (t.extract 1 t.size) 4 0 0 1) else ⟨0, 0, 2, 129, 0⟩ := by
  rw [ba_cons h]
  have : (⟨((t.extract 1 t.size).data.toList).toArray⟩ : ByteArray) = t.extract 1 t.size := ba_eq (by simp)
  show (if mayI (t[0].toNat : Int) = true then headT most (vt ⟨((t.extract 1 t.size).data.toList).toArray⟩ 4 0 0 1) else ⟨0, 0, 2, 129, 0⟩) = _
  rw [this]
theorem vt_k (s : ByteArray) (f : Nat) : ∀ i n b : Nat, (vt s f i n b).2.1 ≤ i + f := by
  induction f with
  | zero => exact fun i n b => Nat.zero_le _
  | succ f ih =>
    intro i n b
    by_cases hlt : i < s.size
    · by_cases h1 : s[i].toNat < 128
      · by_cases h0 : s[i].toNat = 0 ∧ 0 < i
        · rw [vt_zero hlt h0.1 h0.2]; exact Nat.zero_le _
        · rw [vt_last hlt h1 h0]
          show i + 1 ≤ _
          omega
      · rw [vt_more hlt h1]
        have := ih (i + 1) (n + s[i].toNat % 128 * b) (b * 128)
        omega
    · rw [vt_short hlt]; exact Nat.zero_le _
set_option maxHeartbeats 8000000 in
theorem rall_any (most : Int) (s : ByteArray) (hs : s.size ≤ 9000) (w : World) :
    Calls Tryd.prog 40 #[.string s, .int .i64 most] w (AlSays w (allF most s.data.toList)) := by
  have HI0 : Hid (AlIn w (w.alloc (.cells #[.int .i64 0, .int .i64 0, .int .i64 0] 63)) most s.data.toList (.slice none 0 0) [] s.data.toList) := Lib.hid ⟨FRow.nil _ _, Blk.made _ _ _, (Below.refl _ _).alloc (Nat.le_refl _) _, rfl⟩
  have HS := Lib.hid hs
  clear hs
  obtain ⟨al, hal⟩ : ∃ al, al = s.data.toList := ⟨_, rfl⟩
  rw [← hal]
  have HAL := Lib.hid hal
  rw [← hal] at HI0
  clear hal
  go_enter Tryd.func40, Tryd.ntmps40
  go_wp2_with fail
  go_loopg [0, 7] s.size (fun f x u wr => ∃ (t : ByteArray) (done : List FP), x = .string t ∧ f = t.size ∧ done.length + t.size ≤ 9000 ∧ AlIn w wr most al u done t.data.toList)
  case atStart => exact ⟨s, [], rfl, rfl, by simpa using HS.out, by rw [← HAL.out]; exact HI0.out⟩
  case round =>
    obtain ⟨t, done, rfl, rfl, hdt, hi⟩ := hrel
    obtain ⟨av, nv, cv, rfl, hnv⟩ := hi.row.some_form
    have HI := Lib.hid hi
    have HNV := Lib.hid hnv
    have HDT := Lib.hid hdt
    have htl := bLen t
    have ht9 : t.size ≤ 9000 := by omega
    by_cases h0 : t.size = 0
    · have hnil : t.data.toList = [] := List.eq_nil_of_length_eq_zero (by omega)
      obtain ⟨c0, c1, c2, d0, d1, d2, x0, x1, x2, x3, y0, y1, z0, z1, z2⟩ := box3 hi.box (.int .i64 0) (.int .i64 0) (.int .i64 0)
      have HT := Lib.hid (hi.done hnv 0 0 0 0 0 0 rfl rfl (by rw [htl, h0]; rfl) (by rw [hnil]; rfl))
      clear hi hnv hdt htl ht9 hnil
      go_wp2_with fail
      exact bodyPost_ret (v := .tuple #[.slice av nv cv, .agg #[.int .i64 0, .int .i64 0, .int .i64 0], .int .i64 0]) (by simp [results, Tryd.results40, go_sem, z0, z1, z2]) rfl HT.out
    · have hp : 0 < t.size := by omega
      have hb0 := t[0].toNat_lt
      have hhd := head_ba most hp
      have hcons := ba_cons hp
      cases hmay : mayI (t[0].toNat : Int) with
      | false =>
        rw [hmay, if_neg (by decide)] at hhd
        obtain ⟨c0, c1, c2, d0, d1, d2, x0, x1, x2, x3, y0, y1, z0, z1, z2⟩ := box3 hi.box (.int .i64 2) (.int .i64 129) (.int .i64 0)
        have HT := Lib.hid (hi.done hnv 2 129 0 2 0 t.size rfl rfl (by rw [htl]) (by rw [allF_bad (by rw [hhd]; decide), hhd]))
        have HM := Lib.hid hmay
        clear hi hnv hdt htl hhd hcons hmay
        go_wp2_with fail
        refine (rmay_any (t[0].toNat : Int) _).mono ?_
        rintro x w1 ⟨rfl, rfl⟩
        rw [HM.out]
        go_wp2_with fail
        exact bodyPost_ret (v := .tuple #[.slice av nv cv, .agg #[.int .i64 2, .int .i64 129, .int .i64 0], .int .i64 t.size]) (by simp [results, Tryd.results40, go_sem, z0, z1, z2]) rfl HT.out
      | true =>
        rw [hmay, if_pos rfl] at hhd
        have HTK := Lib.hid (fun W : World => ref_take (t.extract 1 t.size) (by simp; omega) W)
        obtain ⟨⟨n, k, no, at_⟩, hv⟩ : ∃ y, y = vt (t.extract 1 t.size) 4 0 0 1 := ⟨_, rfl⟩
        rw [← hv] at hhd HTK
        have hbd : k ≤ 4 ∧ n ≤ 268435455 ∧ at_ ≤ t.size + 3 := by
          have h1 := vt_num (t.extract 1 t.size) 4 0 0 1
          have h2 := vt_k (t.extract 1 t.size) 4 0 0 1
          have h3 := (vt_bd (t.extract 1 t.size) 4 0 0 1 (Nat.zero_le _)).2
          rw [← hv] at h1 h2 h3
          simp only [gN] at h1 h2 h3
          simp at h3
          omega
        obtain ⟨hk4, hn4, ha4⟩ := hbd
        have HHD := Lib.hid hhd
        have HV := Lib.hid hv
        have HC := Lib.hid hcons
        have HM := Lib.hid (fun W : World => show Calls Tryd.prog 35 #[.int .i64 (t[0].toNat : Int)] W _ from (rmay_any (t[0].toNat : Int) W))
        rw [hmay] at HM
        unfold four at HTK
        simp only at HTK
        clear hhd hv hcons hmay
        by_cases h1 : no = 1
        · subst h1
          obtain ⟨c0, c1, c2, d0, d1, d2, x0, x1, x2, x3, y0, y1, z0, z1, z2⟩ := box3 hi.box (.int .i64 0) (.int .i64 0) (.int .i64 0)
          have HT := Lib.hid (hi.done hnv 0 0 0 0 0 t.size rfl rfl (by rw [htl]) (by rw [allF_part (by rw [HHD.out]; intro h; exact absurd h.2.1 (by simp [headT])) (by rw [HHD.out]; rfl)]))
          clear hi hnv hdt htl HHD HV HC
          go_wp2_with fail
          refine (HM.out _).mono ?_
          rintro x w1 ⟨rfl, rfl⟩
          go_wp2_with fail
          refine (HTK.out _).mono ?_
          rintro x w1 ⟨rfl, rfl⟩
          go_wp2_with fail
          exact bodyPost_ret (v := .tuple #[.slice av nv cv, .agg #[.int .i64 0, .int .i64 0, .int .i64 0], .int .i64 t.size]) (by simp [results, Tryd.results40, go_sem, z0, z1, z2]) rfl HT.out
        · have hne : ((no : Int) == 1) = false := beq_eq_false_iff_ne.2 (by omega)
          by_cases h0' : no = 0
          · subst h0'
            have hq : ∃ a b : Nat, a = 1 + k ∧ b = 1 + k + n := ⟨_, _, rfl, rfl⟩
            by_cases hm : most < ((1 + k + n : Nat) : Int)
            · have hm' : (most < 1 + (k : Int) + (n : Int)) := by omega
              obtain ⟨c0, c1, c2, d0, d1, d2, x0, x1, x2, x3, y0, y1, z0, z1, z2⟩ := box3 hi.box (.int .i64 4) (.int .i64 149) (.int .i64 0)
              have HT := Lib.hid (hi.done hnv 4 149 0 4 0 t.size rfl rfl (by rw [htl]) (by
                have e : headF most t.data.toList = ⟨0, 0, 4, 149, 0⟩ := by rw [HHD.out]; simp only [headT]; rw [if_neg (by decide), if_pos trivial, if_pos hm]
                rw [allF_bad (by rw [e]; decide), e]))
              clear hi hnv hdt htl HHD HV HC
              go_wp2_with fail
              refine (HM.out _).mono ?_
              rintro x w1 ⟨rfl, rfl⟩
              go_wp2_with fail
              refine (HTK.out _).mono ?_
              rintro x w1 ⟨rfl, rfl⟩
              go_wp2_with fail
              exact bodyPost_ret (v := .tuple #[.slice av nv cv, .agg #[.int .i64 4, .int .i64 149, .int .i64 0], .int .i64 t.size]) (by simp [results, Tryd.results40, go_sem, z0, z1, z2]) rfl HT.out
            · have hm' : ¬ (most < 1 + (k : Int) + (n : Int)) := by omega
              have e : headF most t.data.toList = ⟨1 + k, 1 + k + n, 0, 129, 0⟩ := by rw [HHD.out]; simp only [headT]; rw [if_neg (by decide), if_pos trivial, if_neg hm]
              by_cases hw : t.size < 1 + k + n
              · have hw' : ((t.size : Int) < 1 + (k : Int) + (n : Int)) := by omega
                obtain ⟨c0, c1, c2, d0, d1, d2, x0, x1, x2, x3, y0, y1, z0, z1, z2⟩ := box3 hi.box (.int .i64 0) (.int .i64 0) (.int .i64 0)
                have HT := Lib.hid (hi.done hnv 0 0 0 0 0 t.size rfl rfl (by rw [htl]) (by
                  rw [allF_part (by rw [e]; intro h; have := h.2.2; simp only at this; omega) (by rw [e])]))
                clear hi hnv hdt htl HHD HV HC e
                go_wp2_with fail
                refine (HM.out _).mono ?_
                rintro x w1 ⟨rfl, rfl⟩
                go_wp2_with fail
                refine (HTK.out _).mono ?_
                rintro x w1 ⟨rfl, rfl⟩
                go_wp2_with fail
                exact bodyPost_ret (v := .tuple #[.slice av nv cv, .agg #[.int .i64 0, .int .i64 0, .int .i64 0], .int .i64 t.size]) (by simp [results, Tryd.results40, go_sem, z0, z1, z2]) rfl HT.out
              · have hw' : ¬ ((t.size : Int) < 1 + (k : Int) + (n : Int)) := by omega
                have hwh : whole (headF most t.data.toList) t.data.toList := by
                  rw [e]
                  exact ⟨rfl, by simp only; omega, by simp only; omega⟩
                have hall := allF_whole hwh
                have hbs : w.heap.size + 1 ≤ wr.heap.size := hi.box.lt
                obtain ⟨p1, hp1⟩ : ∃ p1 : Nat, p1 = 1 + k := ⟨_, rfl⟩
                obtain ⟨p2, hp2⟩ : ∃ p2 : Nat, p2 = 1 + k + n := ⟨_, rfl⟩
                have w1 : IntKind.i64.wrap (1 + (k : Int)) = (p1 : Int) := by rw [hp1]; rw [IntWalk.i64_in _ (by omega)]; omega
                have w2 : IntKind.i64.wrap ((p1 : Int) + (n : Int)) = (p2 : Int) := by rw [hp1, hp2]; rw [IntWalk.i64_in _ (by omega)]; omega
                have w0 : IntKind.i64.wrap (t[0].toNat : Int) = (t[0].toNat : Int) := IntWalk.i64_in _ (by omega)
                have hmp : ¬ (most < (p2 : Int)) := by omega
                have hwp : ¬ ((t.size : Int) < (p2 : Int)) := by omega
                have hx12 : p1 ≤ p2 := by omega
                have hx2 : p2 ≤ t.size := by omega
                have hx0 : 0 < p2 := by omega
                have hfp : fpOf t.data.toList ⟨1 + k, 1 + k + n, 0, 129, 0⟩ = (t[0].toNat, (t.extract p1 p2).data.toList) := by
                  unfold fpOf
                  simp only
                  rw [← hp2, ← hp1, ext_list, HC.out, List.drop_take]
                  rfl
                have hdr : t.data.toList.drop p2 = (t.extract p2 t.size).data.toList := by
                  rw [ext_list, List.take_of_length_le (by rw [List.length_drop]; omega)]
                have hR : allF most t.data.toList = ⟨(t[0].toNat, (t.extract p1 p2).data.toList) :: (allF most (t.extract p2 t.size).data.toList).pk, (allF most (t.extract p2 t.size).data.toList).rest, (allF most (t.extract p2 t.size).data.toList).no, (allF most (t.extract p2 t.size).data.toList).r, (allF most (t.extract p2 t.size).data.toList).a⟩ := by
                  rw [hall, e, hfp]
                  simp only
                  rw [← hp2, hdr]
                have HRR := Lib.hid hR
                have hi1 := hi.below (below_drewN (Below.refl wr.heap.size wr) 1)
                have HI1 := Lib.hid hi1
                have HBS := Lib.hid hbs
                have HF1 := Lib.hid (show fCells (t[0].toNat, (t.extract p1 p2).data.toList) = [.int .i64 (t[0].toNat : Int), .string (t.extract p1 p2)] from by
                  unfold fCells
                  rw [show (⟨((t.extract p1 p2).data.toList).toArray⟩ : ByteArray) = t.extract p1 p2 from ba_eq (by simp)])
                have hszr : (t.extract p2 t.size).size = t.size - p2 := by simp
                have HSZ := Lib.hid hszr
                have HDL := Lib.hid (show done.length ≤ 100000 from by omega)
                have hle : p2 ≤ 268435460 := by omega
                clear hi hi1 hnv htl HHD HV HC e hwh hall hR hfp hdr hm hm' hw hw' hp1 hp2 hbs hszr
                go_wp2_with fail
                refine (HM.out _).mono ?_
                rintro x w1 ⟨rfl, rfl⟩
                go_wp2_with fail
                refine (HTK.out _).mono ?_
                rintro x w1 ⟨rfl, rfl⟩
                go_wp2_with fail
                go_region_law (refine step_frame (w := wr.drew) (t[0].toNat, (t.extract p1 p2).data.toList) (t[0].toNat : Int) (t.extract p1 p2) HF1.out rfl _ _ rfl rfl HI1.out.row HBS.out HDL.out wr.heap.size 1 rfl rfl ?_; intro v3 w3 hn3)
                all_goals
                  have hi3 := HI1.out.more hn3 HRR.out
                  have HI3 := Lib.hid hi3
                  clear hn3 hi3
                  go_wp2_with fail
                  go_roundg (t.size - p2)
                  case rel =>
                    refine ⟨t.extract p2 t.size, _, rfl, HSZ.out.symm, ?_, HI3.out⟩
                    have h1 := HDT.out
                    rw [List.length_append, List.length_singleton, HSZ.out]
                    omega
                  case measure => omega
          · have hne0 : ((no : Int) == 0) = false := beq_eq_false_iff_ne.2 (by omega)
            obtain ⟨c0, c1, c2, d0, d1, d2, x0, x1, x2, x3, y0, y1, z0, z1, z2⟩ := box3 hi.box (.int .i64 no) (.int .i64 129) (.int .i64 (1 + at_))
            have HT := Lib.hid (hi.done hnv no 129 (at_ + 1) no (1 + at_) t.size rfl (by omega) (by rw [htl]) (by
              have e : headF most t.data.toList = ⟨0, 0, no, 129, at_ + 1⟩ := by rw [HHD.out]; simp only [headT]; rw [if_neg h1, if_neg h0']
              rw [allF_bad (by rw [e]; exact h0'), e]))
            clear hi hnv hdt htl HHD HV HC
            go_wp2_with fail
            refine (HM.out _).mono ?_
            rintro x w1 ⟨rfl, rfl⟩
            go_wp2_with fail
            refine (HTK.out _).mono ?_
            rintro x w1 ⟨rfl, rfl⟩
            go_wp2_with fail
            exact bodyPost_ret (v := .tuple #[.slice av nv cv, .agg #[.int .i64 no, .int .i64 129, .int .i64 (1 + at_)], .int .i64 t.size]) (by simp [results, Tryd.results40, go_sem, z0, z1, z2]) rfl HT.out
end Go.Proofs.YtfojoeafhdiaiaaDoor

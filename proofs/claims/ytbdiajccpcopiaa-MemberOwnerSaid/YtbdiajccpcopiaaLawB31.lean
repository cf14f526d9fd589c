/- What is proved here: MemberOwner answers true for every acts. Condition: the argument is what a row says of it. -/
import Derived.Test.YtbdiajccpcopiaaOldr31
import Derived.Deep.RegionHeld3
namespace Go.Proofs.Ytbdiajccpcopiaa
open Go.RowKit Go.Extern.Stop Go.Stop Go.Extern
/-- One of the members, and whether there is one. -/
def getM (L : ML) (c : ByteArray) : MV × Bool := if idxM L c = -1 then (m0, false) else (L.getD (idxM L c).toNat m0, true)
section
variable {w w' w0 : World} {B g : Nat} {v v' : Value} {L L' : ML} {gen gen' : Nat}
theorem get_told (h : MObj w B g v L gen) (hm : L.length ≤ 900) (c : ByteArray) : Calls Try.prog 17 #[.pointer (some ⟨g, 0, none⟩), .string c] w fun x w' =>
    x = .returned (.tuple #[.agg #[.string (getM L c).1.client, .int .i64 (getM L c).1.since, .int .i64 (getM L c).1.qos, .bool (getM L c).1.on], .bool (getM L c).2]) ∧ Below w.heap.size w w' := by
  refine (get_any h hm c).mono fun x w' hx => ?_
  unfold getM
  rcases hx with ⟨i, h1, h2, rfl, h3⟩ | ⟨h1, rfl, h3⟩
  · rw [if_neg (by omega), h1]
    exact ⟨rfl, h3⟩
  · rw [if_pos h1]
    exact ⟨rfl, h3⟩
/-- A block that is neither the members' nor their row's stays as it is. -/
theorem MStep.keep {k : Nat} {t : TypeId} {cs : Array Value} (hs : MStep w w' B g v v' L' gen') (hb : Blk w k t cs) (hg : k ≠ g) (hv : v.ownBlock ≠ some k) : Blk w' k t cs := by
  refine hb.fr hs.fr fun hm => ?_
  rcases List.mem_cons.1 hm with h | h
  · exact hg h
  · cases ho : v.ownBlock with
    | none => rw [ho] at h; cases h
    | some j => rw [ho] at h; simp at h; exact hv (by rw [ho, h])
theorem get_stays (hs : Sorted31 L gen) (hnd : (clientsOf L).Nodup) {c : ByteArray} (h1 : (getM L c).2 = true) (h2 : (getM L c).1.on = true) (h3 : olderM L c (getM L c).1.since = false) : ownerOf L = c := by
  unfold getM at h1 h2 h3
  rcases idxM_or L c with ⟨i, hi, hil⟩ | hi
  · rw [if_neg (by omega), hi, Int.toNat_natCast] at h2 h3
    exact own_stays hs hnd hi hil h2 h3
  · rw [if_pos hi] at h1; cases h1
theorem get_eldest (hs : Sorted31 L gen) (hnd : (clientsOf L).Nodup) {k : Nat} (hk : k < L.length) (hon : (L.getD k m0).on = true) : (getM L (ownerOf L)).2 = true ∧ (getM L (ownerOf L)).1.on = true ∧ (getM L (ownerOf L)).1.since ≤ (L.getD k m0).since := by
  obtain ⟨f, h1, h2, h3, h4⟩ := own_eldest hs hnd hk hon
  unfold getM
  rw [if_neg (by omega), h1, Int.toNat_natCast]
  exact ⟨rfl, h3, h4⟩
set_option maxHeartbeats 4000000 in
set_option maxRecDepth 10000 in
theorem memberOwner_walk (A : Option Addr) (n c : Nat) (X : Nat → AV) (w : World) (hnz : n ≤ maxLen) (ha : ActsOf31 w A n X) : Calls Try.prog 4 #[.slice A n c] w fun x w' => x = .returned (.bool true) ∧ Below w.heap.size w w' := by
  unfold maxLen at hnz
  have CA := Lib.hid awake31
  have W1 := Lib.hid (few31_any n c X ha hnz)
  have HA := Lib.hid ha
  have HB0 := Lib.hid ((Below.refl w.heap.size w).alloc (Nat.le_refl _) (.cells #[.slice none 0 0, .int .i64 0] 28))
  have HM0 := Lib.hid (mobj_new w (Nat.le_refl w.heap.size))
  clear ha
  go_enter Try.func4, Try.ntmps4
  go_wp2_with fail
  refine W1.out.mono ?_
  rintro x w1 ⟨⟨b, rfl, hfew⟩, rfl⟩
  clear W1
  cases b with
  | false =>
    clear hfew
    go_wp2_with fail
    refine (CA.out _).mono ?_
    rintro x w1 ⟨rfl, hb⟩
    have HB := Lib.hid hb
    clear hb
    go_wp2_with fail
    go_ret
    exact ⟨rfl, HB.out⟩
  | true =>
    have hn60 := hfew rfl
    clear hfew hnz
    go_wp2_with fail
    obtain ⟨g, hg⟩ : ∃ g, g = w.heap.size := ⟨_, rfl⟩
    have HG := Lib.hid hg
    rw [← hg]
    rw [← hg] at HM0
    clear hg
    go_loopw [4] (fun i wr => ∃ (k gen : Nat) (v : Value) (L : ML), k ≤ n ∧ i = .int .i64 k ∧ MObj wr w.heap.size g v L gen ∧ L.length ≤ k ∧ gen ≤ k ∧ (clientsOf L).Nodup ∧ Sorted31 L gen ∧ Below w.heap.size w wr) (fun i _ => n - (intOf i).toNat)
    case atStart => exact ⟨0, 0, _, [], by omega, rfl, by rw [HG.out]; rw [HG.out] at HM0; exact HM0.out, by simp, by omega, by simp [clientsOf], ⟨by simp, by simp⟩, HB0.out⟩
    case round =>
      obtain ⟨k, gen, v, L, hk, rfl, hm, hlk, hgk, hnd, hso, hb⟩ := hrel
      have HM := Lib.hid hm
      have HB := Lib.hid hb
      have HND := Lib.hid hnd
      have HSO := Lib.hid hso
      clear hm hb hnd hso
      by_cases hlt : k < n
      · obtain ⟨b0, off, rfl, hcc⟩ := (HA.out).resolve_left (by omega)
        obtain ⟨c1, c2, c3⟩ := hcc k hlt
        have HACT := Lib.hid (fun (W : World) (hb : Below w.heap.size w W) => show W.cell? ⟨b0, off + k * 3, none⟩ = some (.int .i64 (X k).kind) ∧ W.cell? ⟨b0, off + k * 3 + 1, none⟩ = some (.string (X k).client) ∧ W.cell? ⟨b0, off + k * 3 + 2, none⟩ = some (.int .i64 (X k).qos) from
          have hgb := hb.block b0 (lt_of_cell c1)
          ⟨(World.cell?_of_block (w := w) (w' := W) hgb).trans c1, (World.cell?_of_block (w := w) (w' := W) hgb).trans c2, (World.cell?_of_block (w := w) (w' := W) hgb).trans c3⟩)
        clear c1 c2 c3 hcc
        go_wp2_with fail
        refine (owner_any HM.out (by omega)).mono ?_
        rintro x w2 ⟨rfl, hb⟩
        have HB2 := Lib.hid (HB.out.trans (hb.mono HM.out.size))
        have HM2 := Lib.hid (HM.out.below hb)
        clear hb HM HB
        obtain ⟨was, hwas⟩ : ∃ was, was = (hereOf L).getD 0 e0 := ⟨_, rfl⟩
        rw [← hwas]
        clear hwas
        go_wp2_with fail
        refine (gen_any HM2.out).mono ?_
        rintro x w3 ⟨rfl, rfl⟩
        go_wp2_with fail
        refine (get_told HM2.out (by omega) was).mono ?_
        rintro x w3 ⟨rfl, hb⟩
        generalize getM L was = mx at *
        obtain ⟨mx, bis⟩ := mx
        dsimp only
        have HB3 := Lib.hid ((HB2.out.trans (hb.mono HM2.out.size)).alloc (HB2.out.trans (hb.mono HM2.out.size)).size (.cells #[.string mx.client, .int .i64 mx.since, .int .i64 mx.qos, .bool mx.on] 37))
        have HM3 := Lib.hid ((HM2.out.below hb).below ((Below.refl w3.heap.size w3).alloc (Nat.le_refl _) (.cells #[.string mx.client, .int .i64 mx.since, .int .i64 mx.qos, .bool mx.on] 37)))
        have HKX := Lib.hid (Blk.made w3 37 #[.string mx.client, .int .i64 mx.since, .int .i64 mx.qos, .bool mx.on])
        have HNX := Lib.hid (show w3.heap.size ≠ g ∧ v.ownBlock ≠ some w3.heap.size from by
          have h1 := (HM2.out.below hb).blk.lt
          have h2 := World.ownsRow.lt (HM2.out.below hb).row
          exact ⟨by omega, fun e => by have := (h2 _ e).2; omega⟩)
        clear hb HM2 HB2
        go_upto_region 9 with fail
        have HC3 := Lib.hid (HACT.out _ HB3.out)
        obtain ⟨w4, hw4⟩ : ∃ w4, w4 = w3.alloc (.cells #[.string mx.client, .int .i64 mx.since, .int .i64 mx.qos, .bool mx.on] 37) := ⟨_, rfl⟩
        rw [← hw4] at HB3 HM3 HKX HC3 ⊢
        clear hw4
        obtain ⟨kx, hkx⟩ : ∃ kx, kx = w3.heap.size := ⟨_, rfl⟩
        rw [← hkx] at HKX HNX ⊢
        clear hkx
        obtain ⟨c1, c2, c3⟩ := HC3.out
        clear HC3
        have HD := Lib.hid (do_any HM3.out (by omega) (by omega) (X k).kind (X k).client (X k).qos)
        have hkeep := actM_keeps (X k).kind (X k).client (X k).qos L gen HND.out
        have hsort := actM_sorted (X k).kind (X k).client (X k).qos L gen HSO.out
        generalize actM (X k).kind (X k).client (X k).qos L gen = r at *
        obtain ⟨rb, L', gen'⟩ := r
        obtain ⟨hnd', hgen', hlen'⟩ := hkeep
        dsimp only at hnd' hgen' hlen' hsort
        have HND' := Lib.hid hnd'
        have HSO' := Lib.hid hsort
        clear hnd' HND HSO hsort
        generalize (X k).kind = xk at *
        generalize (X k).client = xc at *
        generalize (X k).qos = xq at *
        go_wp2_with fail
        refine HD.out.mono ?_
        rintro x w5 ⟨rfl, v', hst⟩
        have HB5 := Lib.hid (hst.below HM3.out HB3.out HM3.out.size)
        have HM5 := Lib.hid (show MObj w5 w.heap.size g v' L' gen' from hst.obj)
        have HKX5 := Lib.hid (hst.keep HKX.out HNX.out.1 HNX.out.2)
        clear hst HD c1 c2 c3 HKX HNX HM3 HB3 HACT
        dsimp only
        have hgg : gen ≤ gen' ∧ gen' ≤ gen + 1 := by
          cases rb
          · simp at hgen'; omega
          · simp at hgen'; omega
        obtain ⟨hgg1, hgg2⟩ := hgg
        have hl61 : L'.length ≤ k + 1 := by omega
        clear hlen' hgen'
        go_wp2_with fail
        refine (get_told HM5.out (by omega) was).mono ?_
        rintro x w6 ⟨rfl, hb⟩
        obtain ⟨r2, hr2⟩ : ∃ r2, r2 = getM L' was := ⟨_, rfl⟩
        rw [← hr2]
        have HR2 := Lib.hid hr2
        clear hr2
        obtain ⟨my, bst⟩ := r2
        dsimp only
        have hb7 := (Below.refl w6.heap.size w6).alloc (Nat.le_refl _) (.cells #[.string my.client, .int .i64 my.since, .int .i64 my.qos, .bool my.on] 37)
        have HB7 := Lib.hid ((HB5.out.trans (hb.mono HM5.out.size)).alloc (HB5.out.trans (hb.mono HM5.out.size)).size (.cells #[.string my.client, .int .i64 my.since, .int .i64 my.qos, .bool my.on] 37))
        have HM7 := Lib.hid ((HM5.out.below hb).below hb7)
        have HKX7 := Lib.hid ((HKX5.out.below hb HKX5.out.lt).below hb7 (HKX5.out.below hb HKX5.out.lt).lt)
        have HKY := Lib.hid (Blk.made w6 37 #[.string my.client, .int .i64 my.since, .int .i64 my.qos, .bool my.on])
        clear hb hb7 HM5 HB5 HKX5
        go_upto_region 11 with fail
        obtain ⟨w7, hw7⟩ : ∃ w7, w7 = w6.alloc (.cells #[.string my.client, .int .i64 my.since, .int .i64 my.qos, .bool my.on] 37) := ⟨_, rfl⟩
        rw [← hw7] at HB7 HM7 HKX7 HKY ⊢
        clear hw7
        obtain ⟨ky, hky⟩ : ∃ ky, ky = w6.heap.size := ⟨_, rfl⟩
        rw [← hky] at HKY ⊢
        clear hky
        go_wp2_with fail
        refine (owner_any HM7.out (by omega)).mono ?_
        rintro x w8 ⟨rfl, hb⟩
        have HB8 := Lib.hid (HB7.out.trans (hb.mono HM7.out.size))
        have HM8 := Lib.hid (HM7.out.below hb)
        have HKX8 := Lib.hid (HKX7.out.below hb HKX7.out.lt)
        have HKY8 := Lib.hid (HKY.out.below hb HKY.out.lt)
        clear hb HM7 HB7 HKX7 HKY
        obtain ⟨now, hnow⟩ : ∃ now, now = ownerOf L' := ⟨_, rfl⟩
        have HNOW := Lib.hid hnow
        rw [show (hereOf L').getD 0 e0 = now from hnow.symm]
        clear hnow
        go_wp2_with fail
        refine (gen_any HM8.out).mono ?_
        rintro x w9 ⟨rfl, rfl⟩
        go_wp2_with fail
        refine (gen_any HM8.out).mono ?_
        rintro x w9 ⟨rfl, rfl⟩
        go_upto_region 14 with fail
        obtain ⟨sx, hsx⟩ : ∃ sx, sx = mx.since := ⟨_, rfl⟩
        obtain ⟨sy, hsy⟩ : ∃ sy, sy = my.since := ⟨_, rfl⟩
        have x1 : w8.cell? ⟨kx, 1, none⟩ = some (.int .i64 sx) := by rw [hsx]; exact HKX8.out.cell 1
        have y1 : w8.cell? ⟨ky, 1, none⟩ = some (.int .i64 sy) := by rw [hsy]; exact HKY8.out.cell 1
        have HSY := Lib.hid hsy
        clear hsx hsy
        obtain ⟨bo, hbo⟩ : ∃ bo, bo = my.on := ⟨_, rfl⟩
        have y3 : w8.cell? ⟨ky, 3, none⟩ = some (.bool bo) := by rw [hbo]; exact HKY8.out.cell 3
        have HBO := Lib.hid hbo
        clear hbo
        clear HKX8 HKY8
        go_cut [90] from 28 to 90 (fun s90 wx => s90 = .bool false ∧ Below w8.heap.size w8 wx)
        case first =>
          have hz8 : Below w8.heap.size w8 w8 := Below.refl _ _
          have HZ8 := Lib.hid hz8
          clear hz8
          cases bis with
          | false =>
            go_wp2_with fail
            go_meet
            exact ⟨rfl, HZ8.out⟩
          | true =>
            cases bst with
            | false =>
              go_wp2_with fail
              go_meet
              exact ⟨rfl, HZ8.out⟩
            | true =>
              cases bo with
              | false =>
                go_wp2_with fail
                go_meet
                exact ⟨rfl, HZ8.out⟩
              | true =>
                by_cases hsi : sx = sy
                · have hb0 : (sx == sy) = true := beq_iff_eq.2 hsi
                  have HOL := Lib.hid (older_any HM8.out (by omega) was sy)
                  cases hold : olderM L' was sy with
                  | true =>
                    rw [hold] at HOL
                    clear hsi
                    go_wp2_with fail
                    refine HOL.out.mono ?_
                    rintro x w9 ⟨rfl, hb9⟩
                    have HB9 := Lib.hid hb9
                    clear hb9
                    go_wp2_with fail
                    go_meet
                    exact ⟨rfl, HB9.out⟩
                  | false =>
                    rw [hold] at HOL
                    have hnw : now = was := by
                      rw [HNOW.out]
                      have e := HR2.out
                      exact get_stays HSO'.out HND'.out (by rw [← e]) (by rw [← e]; exact HBO.out.symm) (by rw [← e]; show olderM L' was my.since = false; rw [← HSY.out]; exact hold)
                    have t1 : (now.toList == was.toList) = true := by rw [hnw]; exact same_text was
                    clear hnw hsi hold
                    go_wp2_with fail
                    refine HOL.out.mono ?_
                    rintro x w9 ⟨rfl, hb9⟩
                    have HB9 := Lib.hid hb9
                    clear hb9
                    go_wp2_with fail
                    go_meet
                    exact ⟨rfl, HB9.out⟩
                · have hb0 : (sx == sy) = false := beq_eq_false_iff_ne.2 hsi
                  clear hsi
                  go_wp2_with fail
                  go_meet
                  exact ⟨rfl, HZ8.out⟩
        case rest =>
          obtain ⟨rfl, hb9⟩ := hcut
          have HB9 := Lib.hid (HB8.out.trans (hb9.mono HM8.out.size))
          have HM9 := Lib.hid (HM8.out.below hb9)
          have HZ9 := Lib.hid (Below.refl wc.heap.size wc)
          clear hb9 HM8 HB8 HR2 x1 y1 y3
          go_wp2_with fail
          go_loopw [12] (fun i wr => ∃ p : Nat, p ≤ L'.length ∧ i = .int .i64 p ∧ Below wc.heap.size wc wr) (fun i _ => L'.length - (intOf i).toNat)
          case atStart => exact ⟨0, by omega, rfl, HZ9.out⟩
          case round =>
            obtain ⟨p, hp, rfl, hbr⟩ := hrel
            have HMr := Lib.hid (HM9.out.below hbr)
            have HBr := Lib.hid hbr
            clear hbr
            go_wp2_with fail
            refine (all_any HMr.out (by omega)).mono ?_
            rintro x w10 ⟨va, rfl, ho, hb10⟩
            obtain ⟨aa, ac, rfl⟩ : ∃ a c, va = .slice a L'.length c := by
              rcases ho.2 with ⟨rfl, h0⟩ | ⟨gr, cap, cur, rfl, _⟩
              · exact ⟨none, 0, by rw [h0]⟩
              · exact ⟨_, _, rfl⟩
            have HM10 := Lib.hid (HMr.out.below hb10)
            have HB10 := Lib.hid (HBr.out.trans (hb10.mono HBr.out.size))
            clear ho hb10 HMr HBr
            by_cases hpl : p < L'.length
            · go_wp2_with fail
              refine (all_any HM10.out (by omega)).mono ?_
              rintro x w11 ⟨va, rfl, ho, hb11⟩
              obtain ⟨ba, bc, rfl⟩ : ∃ a c, va = .slice a L'.length c := by
                rcases ho.2 with ⟨rfl, h0⟩ | ⟨gr, cap, cur, rfl, _⟩
                · exact ⟨none, 0, by rw [h0]⟩
                · exact ⟨_, _, rfl⟩
              have HM11 := Lib.hid (HM10.out.below hb11)
              have HB11 := Lib.hid (HB10.out.trans (hb11.mono HB10.out.size))
              obtain ⟨g1, off1, rfl, hcc1⟩ := row_mrd ho (by omega)
              obtain ⟨z1, z2, z3, z4⟩ := hcc1 p hpl
              clear ho hb11 HM10 HB10 hcc1
              obtain ⟨mz, hmz⟩ : ∃ mz, mz = L'.getD p m0 := ⟨_, rfl⟩
              rw [← hmz] at z1 z2 z3 z4
              have HMZ := Lib.hid hmz
              have HKZ := Lib.hid (Blk.made w11 37 #[.string mz.client, .int .i64 mz.since, .int .i64 mz.qos, .bool mz.on])
              have hb12 := (Below.refl w11.heap.size w11).alloc (Nat.le_refl _) (.cells #[.string mz.client, .int .i64 mz.since, .int .i64 mz.qos, .bool mz.on] 37)
              have HM12 := Lib.hid (HM11.out.below hb12)
              have HB12 := Lib.hid (HB11.out.trans (hb12.mono HB11.out.size))
              clear hmz hb12 HM11 HB11
              go_upto_region 20 with fail
              obtain ⟨w12, hw12⟩ : ∃ w12, w12 = w11.alloc (.cells #[.string mz.client, .int .i64 mz.since, .int .i64 mz.qos, .bool mz.on] 37) := ⟨_, rfl⟩
              rw [← hw12] at HM12 HB12 HKZ ⊢
              obtain ⟨kz, hkz⟩ : ∃ kz, kz = w11.heap.size := ⟨_, rfl⟩
              rw [← hkz] at HKZ ⊢
              clear hw12 hkz z1 z2 z3 z4
              go_wp2_with fail
              refine (get_told HM12.out (by omega) now).mono ?_
              rintro x w13 ⟨rfl, hb13⟩
              obtain ⟨r3, hr3⟩ : ∃ r3, r3 = getM L' now := ⟨_, rfl⟩
              rw [← hr3]
              have HR3 := Lib.hid hr3
              clear hr3
              obtain ⟨mo, bok⟩ := r3
              dsimp only
              have hb14 := (Below.refl w13.heap.size w13).alloc (Nat.le_refl _) (.cells #[.string mo.client, .int .i64 mo.since, .int .i64 mo.qos, .bool mo.on] 37)
              have HM14 := Lib.hid ((HM12.out.below hb13).below hb14)
              have HB14 := Lib.hid ((HB12.out.trans (hb13.mono HB12.out.size)).trans (hb14.mono (HB12.out.trans (hb13.mono HB12.out.size)).size))
              have HKZ14 := Lib.hid ((HKZ.out.below hb13 HKZ.out.lt).below hb14 (HKZ.out.below hb13 HKZ.out.lt).lt)
              have HKO := Lib.hid (Blk.made w13 37 #[.string mo.client, .int .i64 mo.since, .int .i64 mo.qos, .bool mo.on])
              clear hb13 hb14 HM12 HB12 HKZ
              go_upto_region 21 with fail
              obtain ⟨w14, hw14⟩ : ∃ w14, w14 = w13.alloc (.cells #[.string mo.client, .int .i64 mo.since, .int .i64 mo.qos, .bool mo.on] 37) := ⟨_, rfl⟩
              rw [← hw14] at HM14 HB14 HKZ14 HKO ⊢
              obtain ⟨ko, hko⟩ : ∃ ko, ko = w13.heap.size := ⟨_, rfl⟩
              rw [← hko] at HKO ⊢
              clear hw14 hko
              obtain ⟨bz, hbz⟩ : ∃ bz, bz = mz.on := ⟨_, rfl⟩
              obtain ⟨sz, hsz⟩ : ∃ sz, sz = mz.since := ⟨_, rfl⟩
              obtain ⟨bo2, hbo2⟩ : ∃ bo2, bo2 = mo.on := ⟨_, rfl⟩
              obtain ⟨so, hso2⟩ : ∃ so, so = mo.since := ⟨_, rfl⟩
              have KS := Lib.hid (fun (W : World) (hb : Below w14.heap.size w14 W) => show W.cell? ⟨kz, 3, none⟩ = some (.bool bz) ∧ W.cell? ⟨kz, 1, none⟩ = some (.int .i64 sz) ∧ W.cell? ⟨ko, 3, none⟩ = some (.bool bo2) ∧ W.cell? ⟨ko, 1, none⟩ = some (.int .i64 so) from by
                have hz := HKZ14.out.below hb HKZ14.out.lt
                have ho := HKO.out.below hb HKO.out.lt
                rw [hbz, hsz, hbo2, hso2]
                exact ⟨hz.cell 3, hz.cell 1, ho.cell 3, ho.cell 1⟩)
              have hel : bz = true → bok = true ∧ bo2 = true ∧ decide (sz < so) = false := fun h => by
                have e := get_eldest HSO'.out HND'.out hpl (by rw [← HMZ.out, ← hbz]; exact h)
                rw [← HNOW.out, ← HR3.out, ← HMZ.out] at e
                exact ⟨e.1, hbo2.trans e.2.1, decide_eq_false (by have := e.2.2; rw [hsz, hso2]; exact Int.not_lt.2 this)⟩
              have HEL := Lib.hid hel
              have HSZ := Lib.hid hsz
              clear hbz hsz hbo2 hso2 hel HKZ14 HKO HR3
              have hJ : Below w14.heap.size w14 w14 := Below.refl _ _
              have hS := KS.out _ hJ
              obtain ⟨s1, s2, s3, s4⟩ := hS
              go_cut [142] from 109 to 142 (fun s142 wx => s142 = .bool false ∧ Below w14.heap.size w14 wx)
              case first =>
                by_cases hp0 : p = 0
                · subst hp0
                  cases bz with
                  | false =>
                    go_wp2_with fail
                    go_quiet (fail)
                    go_wp2_with fail
                    go_meet
                    exact ⟨rfl, below_drewN hJ _⟩
                  | true =>
                    obtain ⟨rfl, rfl, hgt⟩ := HEL.out rfl
                    go_wp2_with fail
                    go_quiet (fail)
                    go_wp2_with fail
                    go_meet
                    exact ⟨rfl, below_drewN hJ _⟩
                · obtain ⟨q, rfl⟩ : ∃ q, p = q + 1 := ⟨p - 1, by omega⟩
                  obtain ⟨sq, hsq⟩ : ∃ sq, sq = (L'.getD q m0).since := ⟨_, rfl⟩
                  have hge : decide (sz ≤ sq) = false := decide_eq_false (by
                    have := since_lt HSO'.out (show q < q + 1 by omega) hpl
                    rw [HSZ.out, HMZ.out, hsq]
                    exact Int.not_le.2 this)
                  have CAL := Lib.hid (fun (W : World) (hb : Below w14.heap.size w14 W) => (all_any (HM14.out.below hb) (by omega)).mono fun x w' (h : CopySays W L' x w') => show ∃ ga off ca, x = .returned (.slice (some ⟨ga, off, none⟩) L'.length ca) ∧ w'.cell? ⟨ga, off + q * 4 + 1, none⟩ = some (.int .i64 sq) ∧ Below w14.heap.size w14 w' from by
                    obtain ⟨va, rfl, ho, hb2⟩ := h
                    obtain ⟨ba2, bc2, rfl⟩ : ∃ a c, va = .slice a L'.length c := by
                      rcases ho.2 with ⟨rfl, h0⟩ | ⟨gr, cap, cur, rfl, _⟩
                      · exact ⟨none, 0, by rw [h0]⟩
                      · exact ⟨_, _, rfl⟩
                    obtain ⟨g2, off2, rfl, hcc2⟩ := row_mrd ho (by omega)
                    exact ⟨g2, off2, _, rfl, by rw [hsq]; exact (hcc2 q (by omega)).2.1, hb.trans (hb2.mono hb.size)⟩)
                  obtain ⟨iq, hiq⟩ : ∃ iq : Int, iq = (q : Int) + 1 := ⟨_, rfl⟩
                  have hgt0 : decide (0 < iq) = true := decide_eq_true (by omega)
                  have hwq : IntKind.i64.wrap (q : Int) = (q : Int) := IntWalk.i64_in _ (by omega)
                  have hi1 : (0 : Int) ≤ (q : Int) := by omega
                  have hi2 : (q : Int) < (L'.length : Int) := by omega
                  clear hsq hp0 HMZ HSZ s1 s2 s3 s4
                  cases bz with
                  | false =>
                    have SK := Lib.hid (fun (W : World) (hb : Below w14.heap.size w14 W) => show (fun W => (W.cell? ⟨kz, 3, none⟩ = some (.bool false) ∧ W.cell? ⟨kz, 1, none⟩ = some (.int .i64 sz) ∧ W.cell? ⟨ko, 3, none⟩ = some (.bool bo2) ∧ W.cell? ⟨ko, 1, none⟩ = some (.int .i64 so)) ∧ Below w14.heap.size w14 W) W from ⟨KS.out W hb, hb⟩)
                    go_wp2_with fail
                    rw [show ((q : Int) + 1) = iq from hiq.symm]
                    refine wp_region_held_drew (S := fun W => (W.cell? ⟨kz, 3, none⟩ = some (.bool false) ∧ W.cell? ⟨kz, 1, none⟩ = some (.int .i64 sz) ∧ W.cell? ⟨ko, 3, none⟩ = some (.bool bo2) ∧ W.cell? ⟨ko, 1, none⟩ = some (.int .i64 so)) ∧ Below w14.heap.size w14 W) (by kernel_rfl) ?_ (fun hHeld => ?_)
                    · (first | exact SK.out _ (by assumption) | exact SK.out _ (Below.drew (by assumption)))
                    refine wpAnyH_take (i := 0) (oi := { dst := some 109, op := Op.fieldAddr 37 (Operand.tmp 13) 3, type := 0, pos := _, after := _, guard := none }) (v := .pointer (some ⟨kz, 3, none⟩)) rfl (by kernel_rfl) (by kernel_rfl) (by kernel_rfl) (fun _ _ _ h => h) (Or.inl ⟨by rfl, fun w' _hs => ?_⟩) (by assumption) ?_
                    · go_simp
                    simp only [Act.put, List.setIfInBounds_toArray, List.set_cons_zero, List.set_cons_succ]
                    refine wpAnyH_take (i := 1) (oi := { dst := some 110, op := Op.load 4 (Operand.tmp 109), type := 4, pos := _, after := _, guard := none }) (v := .bool false) rfl (by kernel_rfl) (by kernel_rfl) (by kernel_rfl) (fun _ _ _ h => h) (Or.inl ⟨by rfl, fun w' _hs => ?_⟩) (by assumption) ?_
                    · go_simp
                    simp only [Act.put, List.setIfInBounds_toArray, List.set_cons_zero, List.set_cons_succ]
                    refine wpAnyH_take (i := 2) (oi := { dst := some 111, op := Op.move (Operand.tmp 110), type := 4, pos := _, after := _, guard := none }) (v := .bool false) rfl (by kernel_rfl) (by kernel_rfl) (by kernel_rfl) (fun _ _ _ h => h) (Or.inl ⟨by rfl, fun w' _hs => ?_⟩) (by assumption) ?_
                    · go_simp
                    simp only [Act.put, List.setIfInBounds_toArray, List.set_cons_zero, List.set_cons_succ]
                    refine wpAnyH_take (i := 3) (oi := { dst := some 112, op := Op.move (Operand.tmp 15), type := 4, pos := _, after := _, guard := some (2, true) }) (v := undef) rfl (by kernel_rfl) (by kernel_rfl) (by kernel_rfl) (fun _ _ _ h => h) (Or.inr ⟨by rfl, rfl⟩) (by assumption) ?_
                    simp only [Act.put, List.setIfInBounds_toArray, List.set_cons_zero, List.set_cons_succ]
                    refine wpAnyH_take (i := 4) (oi := { dst := some 113, op := Op.unOp UnOp.not 4 (Operand.tmp 112), type := 4, pos := _, after := _, guard := some (2, true) }) (v := undef) rfl (by kernel_rfl) (by kernel_rfl) (by kernel_rfl) (fun _ _ _ h => h) (Or.inr ⟨by rfl, rfl⟩) (by assumption) ?_
                    simp only [Act.put, List.setIfInBounds_toArray, List.set_cons_zero, List.set_cons_succ]
                    refine wpAnyH_take (i := 5) (oi := { dst := some 114, op := Op.move (Operand.tmp 113), type := 4, pos := _, after := _, guard := some (2, true) }) (v := undef) rfl (by kernel_rfl) (by kernel_rfl) (by kernel_rfl) (fun _ _ _ h => h) (Or.inr ⟨by rfl, rfl⟩) (by assumption) ?_
                    simp only [Act.put, List.setIfInBounds_toArray, List.set_cons_zero, List.set_cons_succ]
                    refine wpAnyH_take (i := 6) (oi := { dst := some 115, op := Op.fieldAddr 37 (Operand.tmp 14) 3, type := 0, pos := _, after := _, guard := some (5, false) }) (v := undef) rfl (by kernel_rfl) (by kernel_rfl) (by kernel_rfl) (fun _ _ _ h => h) (Or.inr ⟨by rfl, rfl⟩) (by assumption) ?_
                    simp only [Act.put, List.setIfInBounds_toArray, List.set_cons_zero, List.set_cons_succ]
                    refine wpAnyH_take (i := 7) (oi := { dst := some 116, op := Op.load 4 (Operand.tmp 115), type := 4, pos := _, after := _, guard := some (5, false) }) (v := undef) rfl (by kernel_rfl) (by kernel_rfl) (by kernel_rfl) (fun _ _ _ h => h) (Or.inr ⟨by rfl, rfl⟩) (by assumption) ?_
                    simp only [Act.put, List.setIfInBounds_toArray, List.set_cons_zero, List.set_cons_succ]
                    refine wpAnyH_take (i := 8) (oi := { dst := some 117, op := Op.unOp UnOp.not 4 (Operand.tmp 116), type := 4, pos := _, after := _, guard := some (5, false) }) (v := undef) rfl (by kernel_rfl) (by kernel_rfl) (by kernel_rfl) (fun _ _ _ h => h) (Or.inr ⟨by rfl, rfl⟩) (by assumption) ?_
                    simp only [Act.put, List.setIfInBounds_toArray, List.set_cons_zero, List.set_cons_succ]
                    refine wpAnyH_take (i := 9) (oi := { dst := some 118, op := Op.pick (Operand.tmp 114) (Operand.const (Value.bool true)) (Operand.tmp 117), type := 4, pos := _, after := _, guard := some (2, true) }) (v := undef) rfl (by kernel_rfl) (by kernel_rfl) (by kernel_rfl) (fun _ _ _ h => h) (Or.inr ⟨by rfl, rfl⟩) (by assumption) ?_
                    simp only [Act.put, List.setIfInBounds_toArray, List.set_cons_zero, List.set_cons_succ]
                    refine wpAnyH_take (i := 10) (oi := { dst := some 119, op := Op.move (Operand.tmp 118), type := 4, pos := _, after := _, guard := some (2, true) }) (v := undef) rfl (by kernel_rfl) (by kernel_rfl) (by kernel_rfl) (fun _ _ _ h => h) (Or.inr ⟨by rfl, rfl⟩) (by assumption) ?_
                    simp only [Act.put, List.setIfInBounds_toArray, List.set_cons_zero, List.set_cons_succ]
                    refine wpAnyH_take (i := 11) (oi := { dst := some 120, op := Op.fieldAddr 37 (Operand.tmp 14) 1, type := 0, pos := _, after := _, guard := some (10, false) }) (v := undef) rfl (by kernel_rfl) (by kernel_rfl) (by kernel_rfl) (fun _ _ _ h => h) (Or.inr ⟨by rfl, rfl⟩) (by assumption) ?_
                    simp only [Act.put, List.setIfInBounds_toArray, List.set_cons_zero, List.set_cons_succ]
                    refine wpAnyH_take (i := 12) (oi := { dst := some 121, op := Op.load 3 (Operand.tmp 120), type := 3, pos := _, after := _, guard := some (10, false) }) (v := undef) rfl (by kernel_rfl) (by kernel_rfl) (by kernel_rfl) (fun _ _ _ h => h) (Or.inr ⟨by rfl, rfl⟩) (by assumption) ?_
                    simp only [Act.put, List.setIfInBounds_toArray, List.set_cons_zero, List.set_cons_succ]
                    refine wpAnyH_take (i := 13) (oi := { dst := some 122, op := Op.fieldAddr 37 (Operand.tmp 13) 1, type := 0, pos := _, after := _, guard := some (10, false) }) (v := undef) rfl (by kernel_rfl) (by kernel_rfl) (by kernel_rfl) (fun _ _ _ h => h) (Or.inr ⟨by rfl, rfl⟩) (by assumption) ?_
                    simp only [Act.put, List.setIfInBounds_toArray, List.set_cons_zero, List.set_cons_succ]
                    refine wpAnyH_take (i := 14) (oi := { dst := some 123, op := Op.load 3 (Operand.tmp 122), type := 3, pos := _, after := _, guard := some (10, false) }) (v := undef) rfl (by kernel_rfl) (by kernel_rfl) (by kernel_rfl) (fun _ _ _ h => h) (Or.inr ⟨by rfl, rfl⟩) (by assumption) ?_
                    simp only [Act.put, List.setIfInBounds_toArray, List.set_cons_zero, List.set_cons_succ]
                    refine wpAnyH_take (i := 15) (oi := { dst := some 124, op := Op.binOp BinOp.gtr 3 (Operand.tmp 121) (Operand.tmp 123) 3, type := 4, pos := _, after := _, guard := some (10, false) }) (v := undef) rfl (by kernel_rfl) (by kernel_rfl) (by kernel_rfl) (fun _ _ _ h => h) (Or.inr ⟨by rfl, rfl⟩) (by assumption) ?_
                    simp only [Act.put, List.setIfInBounds_toArray, List.set_cons_zero, List.set_cons_succ]
                    refine wpAnyH_take (i := 16) (oi := { dst := some 125, op := Op.pick (Operand.tmp 119) (Operand.const (Value.bool true)) (Operand.tmp 124), type := 4, pos := _, after := _, guard := some (2, true) }) (v := undef) rfl (by kernel_rfl) (by kernel_rfl) (by kernel_rfl) (fun _ _ _ h => h) (Or.inr ⟨by rfl, rfl⟩) (by assumption) ?_
                    simp only [Act.put, List.setIfInBounds_toArray, List.set_cons_zero, List.set_cons_succ]
                    refine wpAnyH_take (i := 17) (oi := { dst := some 126, op := Op.pick (Operand.tmp 111) (Operand.tmp 125) (Operand.const (Value.bool false)), type := 4, pos := _, after := _, guard := none }) (v := .bool false) rfl (by kernel_rfl) (by kernel_rfl) (by kernel_rfl) (fun _ _ _ h => h) (Or.inl ⟨by rfl, fun w' _hs => ?_⟩) (by assumption) ?_
                    · go_simp
                    simp only [Act.put, List.setIfInBounds_toArray, List.set_cons_zero, List.set_cons_succ]
                    refine wpAnyH_take (i := 18) (oi := { dst := some 127, op := Op.move (Operand.tmp 126), type := 4, pos := _, after := _, guard := none }) (v := .bool false) rfl (by kernel_rfl) (by kernel_rfl) (by kernel_rfl) (fun _ _ _ h => h) (Or.inl ⟨by rfl, fun w' _hs => ?_⟩) (by assumption) ?_
                    · go_simp
                    simp only [Act.put, List.setIfInBounds_toArray, List.set_cons_zero, List.set_cons_succ]
                    refine wpAnyH_take (i := 19) (oi := { dst := some 128, op := Op.move (Operand.tmp 12), type := 3, pos := _, after := _, guard := some (18, false) }) (v := .int .i64 iq) rfl (by kernel_rfl) (by kernel_rfl) (by kernel_rfl) (fun _ _ _ h => h) (Or.inl ⟨by rfl, fun w' _hs => ?_⟩) (by assumption) ?_
                    · go_simp
                    simp only [Act.put, List.setIfInBounds_toArray, List.set_cons_zero, List.set_cons_succ]
                    refine wpAnyH_take (i := 20) (oi := { dst := some 129, op := Op.binOp BinOp.gtr 3 (Operand.tmp 128) (Operand.const (Value.int IntKind.i64 0)) 3, type := 4, pos := _, after := _, guard := some (18, false) }) (v := .bool true) rfl (by kernel_rfl) (by kernel_rfl) (by kernel_rfl) (fun _ _ _ h => h) (Or.inl ⟨by rfl, fun w' _hs => ?_⟩) (by assumption) ?_
                    · go_simp
                    simp only [Act.put, List.setIfInBounds_toArray, List.set_cons_zero, List.set_cons_succ]
                    refine wpAnyH_take (i := 21) (oi := { dst := some 130, op := Op.move (Operand.tmp 129), type := 4, pos := _, after := _, guard := some (18, false) }) (v := .bool true) rfl (by kernel_rfl) (by kernel_rfl) (by kernel_rfl) (fun _ _ _ h => h) (Or.inl ⟨by rfl, fun w' _hs => ?_⟩) (by assumption) ?_
                    · go_simp
                    simp only [Act.put, List.setIfInBounds_toArray, List.set_cons_zero, List.set_cons_succ]
                    refine wpAnyH_take (i := 22) (oi := { dst := some 131, op := Op.move (Operand.tmp 3), type := 25, pos := _, after := _, guard := some (21, true) }) (v := .pointer (some ⟨g, 0, none⟩)) rfl (by kernel_rfl) (by kernel_rfl) (by kernel_rfl) (fun _ _ _ h => h) (Or.inl ⟨by rfl, fun w' _hs => ?_⟩) (by assumption) ?_
                    · go_simp
                    simp only [Act.put, List.setIfInBounds_toArray, List.set_cons_zero, List.set_cons_succ]
                    refine wpAnyH_take (i := 24) (oi := { dst := some 133, op := Op.move (Operand.tmp 12), type := 3, pos := _, after := _, guard := some (21, true) }) (v := .int .i64 iq) rfl (by kernel_rfl) (by kernel_rfl) (by kernel_rfl) (fun _ _ _ h => h) (Or.inl ⟨by rfl, fun w' _hs => ?_⟩) (by assumption) ?_
                    · go_simp
                    simp only [Act.put, List.setIfInBounds_toArray, List.set_cons_zero, List.set_cons_succ]
                    refine wpAnyH_take (i := 25) (oi := { dst := some 134, op := Op.binOp BinOp.sub 3 (Operand.tmp 133) (Operand.const (Value.int IntKind.i64 1)) 3, type := 3, pos := _, after := _, guard := some (21, true) }) (v := .int .i64 (q : Int)) rfl (by kernel_rfl) (by kernel_rfl) (by kernel_rfl) (fun _ _ _ h => h) (Or.inl ⟨by rfl, fun w' _hs => ?_⟩) (by assumption) ?_
                    · go_simp
                    simp only [Act.put, List.setIfInBounds_toArray, List.set_cons_zero, List.set_cons_succ]
                    refine wpAnyH_take (i := 29) (oi := { dst := some 138, op := Op.fieldAddr 37 (Operand.tmp 13) 1, type := 0, pos := _, after := _, guard := some (21, true) }) (v := .pointer (some ⟨kz, 1, none⟩)) rfl (by kernel_rfl) (by kernel_rfl) (by kernel_rfl) (fun _ _ _ h => h) (Or.inl ⟨by rfl, fun w' _hs => ?_⟩) (by assumption) ?_
                    · go_simp
                    simp only [Act.put, List.setIfInBounds_toArray, List.set_cons_zero, List.set_cons_succ]
                    refine wpAnyH_take (i := 30) (oi := { dst := some 139, op := Op.load 3 (Operand.tmp 138), type := 3, pos := _, after := _, guard := some (21, true) }) (v := .int .i64 sz) rfl (by kernel_rfl) (by kernel_rfl) (by kernel_rfl) (fun _ _ _ h => h) (Or.inl ⟨by rfl, fun w' _hs => ?_⟩) (by assumption) ?_
                    · go_simp
                    simp only [Act.put, List.setIfInBounds_toArray, List.set_cons_zero, List.set_cons_succ]
                    refine wpAnyH_ready (rs := [23]) (by kernel_rfl) (by simp) ?_
                    refine AllReadyH.cons (o := { dst := some 132, op := Op.call { callee := Callee.value (Operand.func 20), args := #[Operand.tmp 131], argTypes := #[25] }, type := 26, pos := _, after := _, guard := some (21, true) }) rfl (fun K hK => ?_) AllReadyH.nil
                    go_simp
                    go_at_call 20
                    (with_reducible refine (CAL.out _ ?_).mono ?_)
                    (first | assumption | exact Below.drew (by assumption) | exact And.right (by assumption))
                    rintro x w15 ⟨ga, og, ca, rfl, hc15, hb15⟩
                    go_wp2_with fail
                    refine hK.out _ _ ?_ (fun hHeld23 => ?_)
                    · (first | exact SK.out _ (by assumption) | exact SK.out _ (Below.drew (by assumption)))
                    clear hK K
                    try simp only [Act.put, List.setIfInBounds_toArray, List.set_cons_zero, List.set_cons_succ]
                    refine wpAnyH_take (i := 26) (oi := { dst := some 135, op := Op.indexAddr 26 (Operand.tmp 132) (Operand.tmp 134), type := 0, pos := _, after := _, guard := some (21, true) }) (v := .pointer (some ⟨ga, og + q * 4, none⟩)) rfl (by kernel_rfl) (by kernel_rfl) (by kernel_rfl) (fun _ _ _ h => h) (Or.inl ⟨by rfl, fun w' _hs => ?_⟩) (by assumption) ?_
                    · go_simp
                    simp only [Act.put, List.setIfInBounds_toArray, List.set_cons_zero, List.set_cons_succ]
                    refine wpAnyH_take (i := 27) (oi := { dst := some 136, op := Op.fieldAddr 37 (Operand.tmp 135) 1, type := 0, pos := _, after := _, guard := some (21, true) }) (v := .pointer (some ⟨ga, og + q * 4 + 1, none⟩)) rfl (by kernel_rfl) (by kernel_rfl) (by kernel_rfl) (fun _ _ _ h => h) (Or.inl ⟨by rfl, fun w' _hs => ?_⟩) (by assumption) ?_
                    · go_simp
                    simp only [Act.put, List.setIfInBounds_toArray, List.set_cons_zero, List.set_cons_succ]
                    refine wpAnyH_ready (rs := [28]) (by kernel_rfl) (by simp) ?_
                    refine AllReadyH.cons (o := { dst := some 137, op := Op.load 3 (Operand.tmp 136), type := 3, pos := _, after := _, guard := some (21, true) }) rfl (fun K hK => ?_) AllReadyH.nil
                    go_simp
                    refine hK.out _ _ ?_ (fun hHeld28 => ?_)
                    · (first | exact SK.out _ (by assumption) | exact SK.out _ (Below.drew (by assumption)))
                    clear hK K
                    try simp only [Act.put, List.setIfInBounds_toArray, List.set_cons_zero, List.set_cons_succ]
                    refine wpAnyH_take (i := 31) (oi := { dst := some 140, op := Op.binOp BinOp.geq 3 (Operand.tmp 137) (Operand.tmp 139) 3, type := 4, pos := _, after := _, guard := some (21, true) }) (v := .bool false) rfl (by kernel_rfl) (by kernel_rfl) (by kernel_rfl) (fun _ _ _ h => h) (Or.inl ⟨by rfl, fun w' _hs => ?_⟩) (by assumption) ?_
                    · go_simp
                    simp only [Act.put, List.setIfInBounds_toArray, List.set_cons_zero, List.set_cons_succ]
                    refine wpAnyH_take (i := 32) (oi := { dst := some 141, op := Op.pick (Operand.tmp 130) (Operand.tmp 140) (Operand.const (Value.bool false)), type := 4, pos := _, after := _, guard := some (18, false) }) (v := .bool false) rfl (by kernel_rfl) (by kernel_rfl) (by kernel_rfl) (fun _ _ _ h => h) (Or.inl ⟨by rfl, fun w' _hs => ?_⟩) (by assumption) ?_
                    · go_simp
                    simp only [Act.put, List.setIfInBounds_toArray, List.set_cons_zero, List.set_cons_succ]
                    refine wpAnyH_take (i := 33) (oi := { dst := some 142, op := Op.pick (Operand.tmp 127) (Operand.const (Value.bool true)) (Operand.tmp 141), type := 4, pos := _, after := _, guard := none }) (v := .bool false) rfl (by kernel_rfl) (by kernel_rfl) (by kernel_rfl) (fun _ _ _ h => h) (Or.inl ⟨by rfl, fun w' _hs => ?_⟩) (by assumption) ?_
                    · go_simp
                    simp only [Act.put, List.setIfInBounds_toArray, List.set_cons_zero, List.set_cons_succ]
                    refine wpAnyH_done (by kernel_rfl) ?_ _
                    subst hiq
                    go_wp2_with fail
                    go_meet
                    exact ⟨rfl, (by assumption)⟩
                  | true =>
                    obtain ⟨rfl, rfl, hgt⟩ := HEL.out rfl
                    have SK := Lib.hid (fun (W : World) (hb : Below w14.heap.size w14 W) => show (fun W => (W.cell? ⟨kz, 3, none⟩ = some (.bool true) ∧ W.cell? ⟨kz, 1, none⟩ = some (.int .i64 sz) ∧ W.cell? ⟨ko, 3, none⟩ = some (.bool true) ∧ W.cell? ⟨ko, 1, none⟩ = some (.int .i64 so)) ∧ Below w14.heap.size w14 W) W from ⟨KS.out W hb, hb⟩)
                    go_wp2_with fail
                    rw [show ((q : Int) + 1) = iq from hiq.symm]
                    refine wp_region_held_drew (S := fun W => (W.cell? ⟨kz, 3, none⟩ = some (.bool true) ∧ W.cell? ⟨kz, 1, none⟩ = some (.int .i64 sz) ∧ W.cell? ⟨ko, 3, none⟩ = some (.bool true) ∧ W.cell? ⟨ko, 1, none⟩ = some (.int .i64 so)) ∧ Below w14.heap.size w14 W) (by kernel_rfl) ?_ (fun hHeld => ?_)
                    · (first | exact SK.out _ (by assumption) | exact SK.out _ (Below.drew (by assumption)))
                    refine wpAnyH_take (i := 0) (oi := { dst := some 109, op := Op.fieldAddr 37 (Operand.tmp 13) 3, type := 0, pos := _, after := _, guard := none }) (v := .pointer (some ⟨kz, 3, none⟩)) rfl (by kernel_rfl) (by kernel_rfl) (by kernel_rfl) (fun _ _ _ h => h) (Or.inl ⟨by rfl, fun w' _hs => ?_⟩) (by assumption) ?_
                    · go_simp
                    simp only [Act.put, List.setIfInBounds_toArray, List.set_cons_zero, List.set_cons_succ]
                    refine wpAnyH_take (i := 1) (oi := { dst := some 110, op := Op.load 4 (Operand.tmp 109), type := 4, pos := _, after := _, guard := none }) (v := .bool true) rfl (by kernel_rfl) (by kernel_rfl) (by kernel_rfl) (fun _ _ _ h => h) (Or.inl ⟨by rfl, fun w' _hs => ?_⟩) (by assumption) ?_
                    · go_simp
                    simp only [Act.put, List.setIfInBounds_toArray, List.set_cons_zero, List.set_cons_succ]
                    refine wpAnyH_take (i := 2) (oi := { dst := some 111, op := Op.move (Operand.tmp 110), type := 4, pos := _, after := _, guard := none }) (v := .bool true) rfl (by kernel_rfl) (by kernel_rfl) (by kernel_rfl) (fun _ _ _ h => h) (Or.inl ⟨by rfl, fun w' _hs => ?_⟩) (by assumption) ?_
                    · go_simp
                    simp only [Act.put, List.setIfInBounds_toArray, List.set_cons_zero, List.set_cons_succ]
                    refine wpAnyH_take (i := 3) (oi := { dst := some 112, op := Op.move (Operand.tmp 15), type := 4, pos := _, after := _, guard := some (2, true) }) (v := .bool true) rfl (by kernel_rfl) (by kernel_rfl) (by kernel_rfl) (fun _ _ _ h => h) (Or.inl ⟨by rfl, fun w' _hs => ?_⟩) (by assumption) ?_
                    · go_simp
                    simp only [Act.put, List.setIfInBounds_toArray, List.set_cons_zero, List.set_cons_succ]
                    refine wpAnyH_take (i := 4) (oi := { dst := some 113, op := Op.unOp UnOp.not 4 (Operand.tmp 112), type := 4, pos := _, after := _, guard := some (2, true) }) (v := .bool false) rfl (by kernel_rfl) (by kernel_rfl) (by kernel_rfl) (fun _ _ _ h => h) (Or.inl ⟨by rfl, fun w' _hs => ?_⟩) (by assumption) ?_
                    · go_simp
                    simp only [Act.put, List.setIfInBounds_toArray, List.set_cons_zero, List.set_cons_succ]
                    refine wpAnyH_take (i := 5) (oi := { dst := some 114, op := Op.move (Operand.tmp 113), type := 4, pos := _, after := _, guard := some (2, true) }) (v := .bool false) rfl (by kernel_rfl) (by kernel_rfl) (by kernel_rfl) (fun _ _ _ h => h) (Or.inl ⟨by rfl, fun w' _hs => ?_⟩) (by assumption) ?_
                    · go_simp
                    simp only [Act.put, List.setIfInBounds_toArray, List.set_cons_zero, List.set_cons_succ]
                    refine wpAnyH_take (i := 6) (oi := { dst := some 115, op := Op.fieldAddr 37 (Operand.tmp 14) 3, type := 0, pos := _, after := _, guard := some (5, false) }) (v := .pointer (some ⟨ko, 3, none⟩)) rfl (by kernel_rfl) (by kernel_rfl) (by kernel_rfl) (fun _ _ _ h => h) (Or.inl ⟨by rfl, fun w' _hs => ?_⟩) (by assumption) ?_
                    · go_simp
                    simp only [Act.put, List.setIfInBounds_toArray, List.set_cons_zero, List.set_cons_succ]
                    refine wpAnyH_take (i := 7) (oi := { dst := some 116, op := Op.load 4 (Operand.tmp 115), type := 4, pos := _, after := _, guard := some (5, false) }) (v := .bool true) rfl (by kernel_rfl) (by kernel_rfl) (by kernel_rfl) (fun _ _ _ h => h) (Or.inl ⟨by rfl, fun w' _hs => ?_⟩) (by assumption) ?_
                    · go_simp
                    simp only [Act.put, List.setIfInBounds_toArray, List.set_cons_zero, List.set_cons_succ]
                    refine wpAnyH_take (i := 8) (oi := { dst := some 117, op := Op.unOp UnOp.not 4 (Operand.tmp 116), type := 4, pos := _, after := _, guard := some (5, false) }) (v := .bool false) rfl (by kernel_rfl) (by kernel_rfl) (by kernel_rfl) (fun _ _ _ h => h) (Or.inl ⟨by rfl, fun w' _hs => ?_⟩) (by assumption) ?_
                    · go_simp
                    simp only [Act.put, List.setIfInBounds_toArray, List.set_cons_zero, List.set_cons_succ]
                    refine wpAnyH_take (i := 9) (oi := { dst := some 118, op := Op.pick (Operand.tmp 114) (Operand.const (Value.bool true)) (Operand.tmp 117), type := 4, pos := _, after := _, guard := some (2, true) }) (v := .bool false) rfl (by kernel_rfl) (by kernel_rfl) (by kernel_rfl) (fun _ _ _ h => h) (Or.inl ⟨by rfl, fun w' _hs => ?_⟩) (by assumption) ?_
                    · go_simp
                    simp only [Act.put, List.setIfInBounds_toArray, List.set_cons_zero, List.set_cons_succ]
                    refine wpAnyH_take (i := 10) (oi := { dst := some 119, op := Op.move (Operand.tmp 118), type := 4, pos := _, after := _, guard := some (2, true) }) (v := .bool false) rfl (by kernel_rfl) (by kernel_rfl) (by kernel_rfl) (fun _ _ _ h => h) (Or.inl ⟨by rfl, fun w' _hs => ?_⟩) (by assumption) ?_
                    · go_simp
                    simp only [Act.put, List.setIfInBounds_toArray, List.set_cons_zero, List.set_cons_succ]
                    refine wpAnyH_take (i := 11) (oi := { dst := some 120, op := Op.fieldAddr 37 (Operand.tmp 14) 1, type := 0, pos := _, after := _, guard := some (10, false) }) (v := .pointer (some ⟨ko, 1, none⟩)) rfl (by kernel_rfl) (by kernel_rfl) (by kernel_rfl) (fun _ _ _ h => h) (Or.inl ⟨by rfl, fun w' _hs => ?_⟩) (by assumption) ?_
                    · go_simp
                    simp only [Act.put, List.setIfInBounds_toArray, List.set_cons_zero, List.set_cons_succ]
                    refine wpAnyH_take (i := 12) (oi := { dst := some 121, op := Op.load 3 (Operand.tmp 120), type := 3, pos := _, after := _, guard := some (10, false) }) (v := .int .i64 so) rfl (by kernel_rfl) (by kernel_rfl) (by kernel_rfl) (fun _ _ _ h => h) (Or.inl ⟨by rfl, fun w' _hs => ?_⟩) (by assumption) ?_
                    · go_simp
                    simp only [Act.put, List.setIfInBounds_toArray, List.set_cons_zero, List.set_cons_succ]
                    refine wpAnyH_take (i := 13) (oi := { dst := some 122, op := Op.fieldAddr 37 (Operand.tmp 13) 1, type := 0, pos := _, after := _, guard := some (10, false) }) (v := .pointer (some ⟨kz, 1, none⟩)) rfl (by kernel_rfl) (by kernel_rfl) (by kernel_rfl) (fun _ _ _ h => h) (Or.inl ⟨by rfl, fun w' _hs => ?_⟩) (by assumption) ?_
                    · go_simp
                    simp only [Act.put, List.setIfInBounds_toArray, List.set_cons_zero, List.set_cons_succ]
                    refine wpAnyH_take (i := 14) (oi := { dst := some 123, op := Op.load 3 (Operand.tmp 122), type := 3, pos := _, after := _, guard := some (10, false) }) (v := .int .i64 sz) rfl (by kernel_rfl) (by kernel_rfl) (by kernel_rfl) (fun _ _ _ h => h) (Or.inl ⟨by rfl, fun w' _hs => ?_⟩) (by assumption) ?_
                    · go_simp
                    simp only [Act.put, List.setIfInBounds_toArray, List.set_cons_zero, List.set_cons_succ]
                    refine wpAnyH_take (i := 15) (oi := { dst := some 124, op := Op.binOp BinOp.gtr 3 (Operand.tmp 121) (Operand.tmp 123) 3, type := 4, pos := _, after := _, guard := some (10, false) }) (v := .bool false) rfl (by kernel_rfl) (by kernel_rfl) (by kernel_rfl) (fun _ _ _ h => h) (Or.inl ⟨by rfl, fun w' _hs => ?_⟩) (by assumption) ?_
                    · go_simp
                    simp only [Act.put, List.setIfInBounds_toArray, List.set_cons_zero, List.set_cons_succ]
                    refine wpAnyH_take (i := 16) (oi := { dst := some 125, op := Op.pick (Operand.tmp 119) (Operand.const (Value.bool true)) (Operand.tmp 124), type := 4, pos := _, after := _, guard := some (2, true) }) (v := .bool false) rfl (by kernel_rfl) (by kernel_rfl) (by kernel_rfl) (fun _ _ _ h => h) (Or.inl ⟨by rfl, fun w' _hs => ?_⟩) (by assumption) ?_
                    · go_simp
                    simp only [Act.put, List.setIfInBounds_toArray, List.set_cons_zero, List.set_cons_succ]
                    refine wpAnyH_take (i := 17) (oi := { dst := some 126, op := Op.pick (Operand.tmp 111) (Operand.tmp 125) (Operand.const (Value.bool false)), type := 4, pos := _, after := _, guard := none }) (v := .bool false) rfl (by kernel_rfl) (by kernel_rfl) (by kernel_rfl) (fun _ _ _ h => h) (Or.inl ⟨by rfl, fun w' _hs => ?_⟩) (by assumption) ?_
                    · go_simp
                    simp only [Act.put, List.setIfInBounds_toArray, List.set_cons_zero, List.set_cons_succ]
                    refine wpAnyH_take (i := 18) (oi := { dst := some 127, op := Op.move (Operand.tmp 126), type := 4, pos := _, after := _, guard := none }) (v := .bool false) rfl (by kernel_rfl) (by kernel_rfl) (by kernel_rfl) (fun _ _ _ h => h) (Or.inl ⟨by rfl, fun w' _hs => ?_⟩) (by assumption) ?_
                    · go_simp
                    simp only [Act.put, List.setIfInBounds_toArray, List.set_cons_zero, List.set_cons_succ]
                    refine wpAnyH_take (i := 19) (oi := { dst := some 128, op := Op.move (Operand.tmp 12), type := 3, pos := _, after := _, guard := some (18, false) }) (v := .int .i64 iq) rfl (by kernel_rfl) (by kernel_rfl) (by kernel_rfl) (fun _ _ _ h => h) (Or.inl ⟨by rfl, fun w' _hs => ?_⟩) (by assumption) ?_
                    · go_simp
                    simp only [Act.put, List.setIfInBounds_toArray, List.set_cons_zero, List.set_cons_succ]
                    refine wpAnyH_take (i := 20) (oi := { dst := some 129, op := Op.binOp BinOp.gtr 3 (Operand.tmp 128) (Operand.const (Value.int IntKind.i64 0)) 3, type := 4, pos := _, after := _, guard := some (18, false) }) (v := .bool true) rfl (by kernel_rfl) (by kernel_rfl) (by kernel_rfl) (fun _ _ _ h => h) (Or.inl ⟨by rfl, fun w' _hs => ?_⟩) (by assumption) ?_
                    · go_simp
                    simp only [Act.put, List.setIfInBounds_toArray, List.set_cons_zero, List.set_cons_succ]
                    refine wpAnyH_take (i := 21) (oi := { dst := some 130, op := Op.move (Operand.tmp 129), type := 4, pos := _, after := _, guard := some (18, false) }) (v := .bool true) rfl (by kernel_rfl) (by kernel_rfl) (by kernel_rfl) (fun _ _ _ h => h) (Or.inl ⟨by rfl, fun w' _hs => ?_⟩) (by assumption) ?_
                    · go_simp
                    simp only [Act.put, List.setIfInBounds_toArray, List.set_cons_zero, List.set_cons_succ]
                    refine wpAnyH_take (i := 22) (oi := { dst := some 131, op := Op.move (Operand.tmp 3), type := 25, pos := _, after := _, guard := some (21, true) }) (v := .pointer (some ⟨g, 0, none⟩)) rfl (by kernel_rfl) (by kernel_rfl) (by kernel_rfl) (fun _ _ _ h => h) (Or.inl ⟨by rfl, fun w' _hs => ?_⟩) (by assumption) ?_
                    · go_simp
                    simp only [Act.put, List.setIfInBounds_toArray, List.set_cons_zero, List.set_cons_succ]
                    refine wpAnyH_take (i := 24) (oi := { dst := some 133, op := Op.move (Operand.tmp 12), type := 3, pos := _, after := _, guard := some (21, true) }) (v := .int .i64 iq) rfl (by kernel_rfl) (by kernel_rfl) (by kernel_rfl) (fun _ _ _ h => h) (Or.inl ⟨by rfl, fun w' _hs => ?_⟩) (by assumption) ?_
                    · go_simp
                    simp only [Act.put, List.setIfInBounds_toArray, List.set_cons_zero, List.set_cons_succ]
                    refine wpAnyH_take (i := 25) (oi := { dst := some 134, op := Op.binOp BinOp.sub 3 (Operand.tmp 133) (Operand.const (Value.int IntKind.i64 1)) 3, type := 3, pos := _, after := _, guard := some (21, true) }) (v := .int .i64 (q : Int)) rfl (by kernel_rfl) (by kernel_rfl) (by kernel_rfl) (fun _ _ _ h => h) (Or.inl ⟨by rfl, fun w' _hs => ?_⟩) (by assumption) ?_
                    · go_simp
                    simp only [Act.put, List.setIfInBounds_toArray, List.set_cons_zero, List.set_cons_succ]
                    refine wpAnyH_take (i := 29) (oi := { dst := some 138, op := Op.fieldAddr 37 (Operand.tmp 13) 1, type := 0, pos := _, after := _, guard := some (21, true) }) (v := .pointer (some ⟨kz, 1, none⟩)) rfl (by kernel_rfl) (by kernel_rfl) (by kernel_rfl) (fun _ _ _ h => h) (Or.inl ⟨by rfl, fun w' _hs => ?_⟩) (by assumption) ?_
                    · go_simp
                    simp only [Act.put, List.setIfInBounds_toArray, List.set_cons_zero, List.set_cons_succ]
                    refine wpAnyH_take (i := 30) (oi := { dst := some 139, op := Op.load 3 (Operand.tmp 138), type := 3, pos := _, after := _, guard := some (21, true) }) (v := .int .i64 sz) rfl (by kernel_rfl) (by kernel_rfl) (by kernel_rfl) (fun _ _ _ h => h) (Or.inl ⟨by rfl, fun w' _hs => ?_⟩) (by assumption) ?_
                    · go_simp
                    simp only [Act.put, List.setIfInBounds_toArray, List.set_cons_zero, List.set_cons_succ]
                    refine wpAnyH_ready (rs := [23]) (by kernel_rfl) (by simp) ?_
                    refine AllReadyH.cons (o := { dst := some 132, op := Op.call { callee := Callee.value (Operand.func 20), args := #[Operand.tmp 131], argTypes := #[25] }, type := 26, pos := _, after := _, guard := some (21, true) }) rfl (fun K hK => ?_) AllReadyH.nil
                    go_simp
                    go_at_call 20
                    (with_reducible refine (CAL.out _ ?_).mono ?_)
                    (first | assumption | exact Below.drew (by assumption) | exact And.right (by assumption))
                    rintro x w15 ⟨ga, og, ca, rfl, hc15, hb15⟩
                    go_wp2_with fail
                    refine hK.out _ _ ?_ (fun hHeld23 => ?_)
                    · (first | exact SK.out _ (by assumption) | exact SK.out _ (Below.drew (by assumption)))
                    clear hK K
                    try simp only [Act.put, List.setIfInBounds_toArray, List.set_cons_zero, List.set_cons_succ]
                    refine wpAnyH_take (i := 26) (oi := { dst := some 135, op := Op.indexAddr 26 (Operand.tmp 132) (Operand.tmp 134), type := 0, pos := _, after := _, guard := some (21, true) }) (v := .pointer (some ⟨ga, og + q * 4, none⟩)) rfl (by kernel_rfl) (by kernel_rfl) (by kernel_rfl) (fun _ _ _ h => h) (Or.inl ⟨by rfl, fun w' _hs => ?_⟩) (by assumption) ?_
                    · go_simp
                    simp only [Act.put, List.setIfInBounds_toArray, List.set_cons_zero, List.set_cons_succ]
                    refine wpAnyH_take (i := 27) (oi := { dst := some 136, op := Op.fieldAddr 37 (Operand.tmp 135) 1, type := 0, pos := _, after := _, guard := some (21, true) }) (v := .pointer (some ⟨ga, og + q * 4 + 1, none⟩)) rfl (by kernel_rfl) (by kernel_rfl) (by kernel_rfl) (fun _ _ _ h => h) (Or.inl ⟨by rfl, fun w' _hs => ?_⟩) (by assumption) ?_
                    · go_simp
                    simp only [Act.put, List.setIfInBounds_toArray, List.set_cons_zero, List.set_cons_succ]
                    refine wpAnyH_ready (rs := [28]) (by kernel_rfl) (by simp) ?_
                    refine AllReadyH.cons (o := { dst := some 137, op := Op.load 3 (Operand.tmp 136), type := 3, pos := _, after := _, guard := some (21, true) }) rfl (fun K hK => ?_) AllReadyH.nil
                    go_simp
                    refine hK.out _ _ ?_ (fun hHeld28 => ?_)
                    · (first | exact SK.out _ (by assumption) | exact SK.out _ (Below.drew (by assumption)))
                    clear hK K
                    try simp only [Act.put, List.setIfInBounds_toArray, List.set_cons_zero, List.set_cons_succ]
                    refine wpAnyH_take (i := 31) (oi := { dst := some 140, op := Op.binOp BinOp.geq 3 (Operand.tmp 137) (Operand.tmp 139) 3, type := 4, pos := _, after := _, guard := some (21, true) }) (v := .bool false) rfl (by kernel_rfl) (by kernel_rfl) (by kernel_rfl) (fun _ _ _ h => h) (Or.inl ⟨by rfl, fun w' _hs => ?_⟩) (by assumption) ?_
                    · go_simp
                    simp only [Act.put, List.setIfInBounds_toArray, List.set_cons_zero, List.set_cons_succ]
                    refine wpAnyH_take (i := 32) (oi := { dst := some 141, op := Op.pick (Operand.tmp 130) (Operand.tmp 140) (Operand.const (Value.bool false)), type := 4, pos := _, after := _, guard := some (18, false) }) (v := .bool false) rfl (by kernel_rfl) (by kernel_rfl) (by kernel_rfl) (fun _ _ _ h => h) (Or.inl ⟨by rfl, fun w' _hs => ?_⟩) (by assumption) ?_
                    · go_simp
                    simp only [Act.put, List.setIfInBounds_toArray, List.set_cons_zero, List.set_cons_succ]
                    refine wpAnyH_take (i := 33) (oi := { dst := some 142, op := Op.pick (Operand.tmp 127) (Operand.const (Value.bool true)) (Operand.tmp 141), type := 4, pos := _, after := _, guard := none }) (v := .bool false) rfl (by kernel_rfl) (by kernel_rfl) (by kernel_rfl) (fun _ _ _ h => h) (Or.inl ⟨by rfl, fun w' _hs => ?_⟩) (by assumption) ?_
                    · go_simp
                    simp only [Act.put, List.setIfInBounds_toArray, List.set_cons_zero, List.set_cons_succ]
                    refine wpAnyH_done (by kernel_rfl) ?_ _
                    subst hiq
                    go_wp2_with fail
                    go_meet
                    exact ⟨rfl, (by assumption)⟩
              case rest =>
                obtain ⟨rfl, hb15⟩ := hcut
                have HX := Lib.hid (HB14.out.trans (hb15.mono HB14.out.size))
                clear hb15 HB14 HM14
                go_wp2_with fail
                go_roundw
                case rel => exact ⟨p + 1, by omega, by go_num, HX.out⟩
                case measure => simp [intOf]; omega
            · have HE := Lib.hid (HB9.out.trans (HB10.out.mono HB9.out.size))
              have HM11 := Lib.hid HM10.out
              clear HM10 HB10
              go_wp2_with fail
              go_roundw
              case rel => exact ⟨k + 1, gen', v', L', by omega, by go_num, HM11.out, by omega, by omega, HND'.out, HSO'.out, HE.out⟩
              case measure => simp [intOf]; omega
      · go_wp2_with fail
        refine (CA.out _).mono ?_
        rintro x w1 ⟨rfl, hbx⟩
        have HX := Lib.hid (HB.out.trans (hbx.mono HB.out.size))
        clear hbx
        go_wp2_with fail
        go_ret
        exact ⟨rfl, HX.out⟩
end
end Go.Proofs.Ytbdiajccpcopiaa

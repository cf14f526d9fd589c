/- What is proved here: rows of flights that say the same are the same to the document. Conditions: the rows stand where the slices say; few of them. -/
import Derived.Test.YtpaalhhadjihlaaSmm24
import Derived.Test.YtpaalhhadjihlaaAll24
namespace Go.Proofs.Ytpaalhhadjihlaa
open Go.RowKit Go.Extern.Stop Go.Stop Go.Extern
set_option maxRecDepth 100000
section
variable {w w' : World} {B B2 : Nat} {A A2 : Option Addr} {L L2 : QL}
/-- Rows of flights that say the same. -/
theorem says_at {L L2 : FL} (h : L.map says24 = L2.map says24) {k : Nat} (hk : k < L.length) : says24 (L.getD k f0) = says24 (L2.getD k f0) := by
  have hl : L.length = L2.length := by simpa using congrArg List.length h
  have h2 : (L.map says24)[k]? = (L2.map says24)[k]? := by rw [h]
  rw [List.getElem?_map, List.getElem?_map, List.getElem?_eq_getElem hk, List.getElem?_eq_getElem (hl ▸ hk)] at h2
  rw [List.getD_eq_getElem?_getD, List.getD_eq_getElem?_getD, List.getElem?_eq_getElem hk, List.getElem?_eq_getElem (hl ▸ hk)]
  exact Option.some.inj h2
set_option maxHeartbeats 8000000 in
theorem fsame_any {w : World} {B1 B2 C1 C2 n c c2 : Nat} {A A2 : Option Addr} {L L2 : FL} (h : GRow w C1 (.slice A n c) L) (h2 : GRow w C2 (.slice A2 n c2) L2) (hp : ∀ f ∈ L, PIn w B1 f.q.pa f.q.m.props ∧ f.q.m.props.length ≤ 1000) (hp2 : ∀ f ∈ L2, PIn w B2 f.q.pa f.q.m.props) (hm : L.map says24 = L2.map says24) (hn : n = L.length) (hl : n ≤ 900) :
    Calls Try.prog 17 #[.slice A n c, .slice A2 n c2] w fun x w' => x = .returned (.bool true) ∧ Below w.heap.size w w' := by
  have hn2 : n = L2.length := hn.trans (by simpa using congrArg List.length hm)
  have HS := Lib.hid h
  have HS2 := Lib.hid h2
  have HP := Lib.hid hp
  have HP2 := Lib.hid hp2
  have HM := Lib.hid (fun k (hk : k < L.length) => says_at hm hk)
  have HN := Lib.hid (And.intro hn hn2)
  clear h h2 hp hp2 hm hn hn2
  go_enter Try.func17, Try.ntmps17
  go_wp2_with fail
  go_loopw [5] (fun i wr => ∃ k : Nat, k ≤ n ∧ i = .int .i64 k ∧ Below w.heap.size w wr) (fun i _ => n - (intOf i).toNat)
  case atStart => exact ⟨0, by omega, rfl, Below.refl _ _⟩
  case round =>
    obtain ⟨k, hk, rfl, hbe⟩ := hrel
    by_cases hlt : k < n
    · have hkL : k < L.length := by have := HN.out.1; omega
      have hkL2 : k < L2.length := by have := HN.out.2; omega
      obtain ⟨g1, rfl, hg1, hc1⟩ := HS.out.cell (by omega)
      obtain ⟨g2, rfl, hg2, hc2⟩ := HS2.out.cell (by omega)
      have HC1 := Lib.hid (fun W (hb : Below w.heap.size w W) i (hi : i < 11) => (World.cell?_of_block (w := w) (w' := W) (a := ⟨g1, k * 11 + i, none⟩) (hb.block g1 hg1)).trans (hc1 k i hkL hi))
      have HC2 := Lib.hid (fun W (hb : Below w.heap.size w W) i (hi : i < 11) => (World.cell?_of_block (w := w) (w' := W) (a := ⟨g2, k * 11 + i, none⟩) (hb.block g2 hg2)).trans (hc2 k i hkL2 hi))
      have hab := HM.out k hkL
      have ha1 := HP.out _ (fmem hkL)
      have hb1 := HP2.out _ (fmem hkL2)
      obtain ⟨a, ha⟩ : ∃ a, a = L.getD k f0 := ⟨_, rfl⟩
      obtain ⟨b, hb⟩ : ∃ b, b = L2.getD k f0 := ⟨_, rfl⟩
      rw [← ha] at HC1 hab ha1
      rw [← hb] at HC2 hab hb1
      have hsid : a.id = b.id := (Prod.mk.inj hab).1
      have hsst : a.st = b.st := (Prod.mk.inj (Prod.mk.inj hab).2).1
      have hsm : a.q.m = b.q.m := (Prod.mk.inj (Prod.mk.inj hab).2).2
      have e1 : ((a.id : Int) != b.id) = false := by simp [hsid]
      have e2 : ((a.st : Int) != b.st) = false := by simp [hsst]
      have D19 := Lib.hid (fun W (hi : Below w.heap.size w W) => (samemsg_any a.q b.q hsm (ha1.1.below hi) (hb1.below hi) ha1.2).mono fun x w' ⟨he, hb⟩ => show x = Ending.returned (.bool true) ∧ Below w.heap.size w w' from ⟨he, hi.trans (hb.mono hi.size)⟩)
      have KS := Lib.hid (fun W (hi : Below w.heap.size w W) => show (W.cell? ⟨g1, k * 11, none⟩ = some (.int .i64 a.id) ∧ W.cell? ⟨g1, k * 11 + 1, none⟩ = some (.int .i64 a.st) ∧ W.cell? ⟨g1, k * 11 + 2, none⟩ = some (.string a.q.m.topic) ∧ W.cell? ⟨g1, k * 11 + 3, none⟩ = some (.string a.q.m.payload) ∧ W.cell? ⟨g1, k * 11 + 4, none⟩ = some (.int .i64 a.q.m.qos) ∧ W.cell? ⟨g1, k * 11 + 5, none⟩ = some (.bool a.q.m.retain) ∧ W.cell? ⟨g1, k * 11 + 6, none⟩ = some (.slice a.q.pa a.q.m.props.length a.q.pc) ∧ W.cell? ⟨g1, k * 11 + 7, none⟩ = some (.string a.q.m.frm) ∧ W.cell? ⟨g1, k * 11 + 8, none⟩ = some (.int .i64 a.q.m.til) ∧ W.cell? ⟨g1, k * 11 + 9, none⟩ = some (.int .i64 a.q.m.seq) ∧ W.cell? ⟨g1, k * 11 + 10, none⟩ = some (.string a.q.m.grp)) ∧ W.cell? ⟨g2, k * 11, none⟩ = some (.int .i64 b.id) ∧ W.cell? ⟨g2, k * 11 + 1, none⟩ = some (.int .i64 b.st) ∧ W.cell? ⟨g2, k * 11 + 2, none⟩ = some (.string b.q.m.topic) ∧ W.cell? ⟨g2, k * 11 + 3, none⟩ = some (.string b.q.m.payload) ∧ W.cell? ⟨g2, k * 11 + 4, none⟩ = some (.int .i64 b.q.m.qos) ∧ W.cell? ⟨g2, k * 11 + 5, none⟩ = some (.bool b.q.m.retain) ∧ W.cell? ⟨g2, k * 11 + 6, none⟩ = some (.slice b.q.pa b.q.m.props.length b.q.pc) ∧ W.cell? ⟨g2, k * 11 + 7, none⟩ = some (.string b.q.m.frm) ∧ W.cell? ⟨g2, k * 11 + 8, none⟩ = some (.int .i64 b.q.m.til) ∧ W.cell? ⟨g2, k * 11 + 9, none⟩ = some (.int .i64 b.q.m.seq) ∧ W.cell? ⟨g2, k * 11 + 10, none⟩ = some (.string b.q.m.grp) from
        ⟨⟨HC1.out W hi 0 (by omega), HC1.out W hi 1 (by omega), HC1.out W hi 2 (by omega), HC1.out W hi 3 (by omega), HC1.out W hi 4 (by omega), HC1.out W hi 5 (by omega), HC1.out W hi 6 (by omega), HC1.out W hi 7 (by omega), HC1.out W hi 8 (by omega), HC1.out W hi 9 (by omega), HC1.out W hi 10 (by omega)⟩, HC2.out W hi 0 (by omega), HC2.out W hi 1 (by omega), HC2.out W hi 2 (by omega), HC2.out W hi 3 (by omega), HC2.out W hi 4 (by omega), HC2.out W hi 5 (by omega), HC2.out W hi 6 (by omega), HC2.out W hi 7 (by omega), HC2.out W hi 8 (by omega), HC2.out W hi 9 (by omega), HC2.out W hi 10 (by omega)⟩)
      clear hc1 hc2 hkL hkL2 ha hb hab ha1 hb1 hsid hsst hsm hg1 hg2 HC1 HC2
      unfold QV.agg at D19
      have hk1 : (k : Int) < (n : Int) := by omega
      have hk0 : (0 : Int) ≤ (k : Int) := by omega
      go_upto_region 6 with fail
      obtain ⟨⟨s0, s1, s2, s3, s4, s5, s6, s7, s8, s9, s10⟩, d0, d1, d2, d3, d4, d5, d6, d7, d8, d9, d10⟩ := KS.out _ hbe
      go_region_held3 (fun W => (W.cell? ⟨g1, k * 11, none⟩ = some (.int .i64 a.id) ∧ W.cell? ⟨g1, k * 11 + 1, none⟩ = some (.int .i64 a.st) ∧ W.cell? ⟨g1, k * 11 + 2, none⟩ = some (.string a.q.m.topic) ∧ W.cell? ⟨g1, k * 11 + 3, none⟩ = some (.string a.q.m.payload) ∧ W.cell? ⟨g1, k * 11 + 4, none⟩ = some (.int .i64 a.q.m.qos) ∧ W.cell? ⟨g1, k * 11 + 5, none⟩ = some (.bool a.q.m.retain) ∧ W.cell? ⟨g1, k * 11 + 6, none⟩ = some (.slice a.q.pa a.q.m.props.length a.q.pc) ∧ W.cell? ⟨g1, k * 11 + 7, none⟩ = some (.string a.q.m.frm) ∧ W.cell? ⟨g1, k * 11 + 8, none⟩ = some (.int .i64 a.q.m.til) ∧ W.cell? ⟨g1, k * 11 + 9, none⟩ = some (.int .i64 a.q.m.seq) ∧ W.cell? ⟨g1, k * 11 + 10, none⟩ = some (.string a.q.m.grp)) ∧ W.cell? ⟨g2, k * 11, none⟩ = some (.int .i64 b.id) ∧ W.cell? ⟨g2, k * 11 + 1, none⟩ = some (.int .i64 b.st) ∧ W.cell? ⟨g2, k * 11 + 2, none⟩ = some (.string b.q.m.topic) ∧ W.cell? ⟨g2, k * 11 + 3, none⟩ = some (.string b.q.m.payload) ∧ W.cell? ⟨g2, k * 11 + 4, none⟩ = some (.int .i64 b.q.m.qos) ∧ W.cell? ⟨g2, k * 11 + 5, none⟩ = some (.bool b.q.m.retain) ∧ W.cell? ⟨g2, k * 11 + 6, none⟩ = some (.slice b.q.pa b.q.m.props.length b.q.pc) ∧ W.cell? ⟨g2, k * 11 + 7, none⟩ = some (.string b.q.m.frm) ∧ W.cell? ⟨g2, k * 11 + 8, none⟩ = some (.int .i64 b.q.m.til) ∧ W.cell? ⟨g2, k * 11 + 9, none⟩ = some (.int .i64 b.q.m.seq) ∧ W.cell? ⟨g2, k * 11 + 10, none⟩ = some (.string b.q.m.grp))
        (first | assumption | exact KS.out _ (by assumption) | exact KS.out _ (below_drewN (by assumption) 1))
        (first
          | (go_at_call 13; (with_reducible refine (D19.out _ ?_).mono ?_); (first | assumption | exact below_drewN (by assumption) 1); rintro x w6 ⟨rfl, hi6⟩))
      have HI6 := Lib.hid hi6
      clear s0 s1 s2 s3 s4 s5 s6 s7 s8 s9 s10 d0 d1 d2 d3 d4 d5 d6 d7 d8 d9 d10 hbe hi6 D19 KS
      go_wp2_with fail
      go_roundw
      case rel => exact ⟨k + 1, by omega, by go_num, HI6.out⟩
      case measure => simp [intOf]; omega
    · have HBE := Lib.hid hbe
      clear hbe
      go_wp2_with fail
      go_ret
      exact ⟨rfl, HBE.out⟩
end
end Go.Proofs.Ytpaalhhadjihlaa

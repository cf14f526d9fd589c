/- What is proved here: QueuePlays: one act on both queues. Conditions: all are there. -/
import Derived.Test.YtcfbfnlbdkgfkaaZl27
import Derived.Deep.DeepCutAuto
import Derived.Deep.CutBlock
namespace Go.Proofs.Ytcfbfnlbdkgfkaa
open Go.RowKit Go.Extern.Stop Go.Stop Go.Extern
set_option maxRecDepth 100000
section
variable {w W W' : World} {gq gx gz nb ba : Nat} {most : Int} {a : AV} {vq vx : Value} {Lq Lx : QL} {M M' : List MV}
theorem PlS.start (hb : Below w.heap.size w W) : PlS w ((((W.alloc (.cells #[.int .i64 most, .slice none 0 0] 80)).alloc (.cells #[.int .i64 most, .slice none 0 0] 78)).alloc (.cells #[.int .i64 0, .slice none 0 0] 80)).alloc (.cells #[.pointer none, .pointer (some ⟨W.heap.size + 1 + 1, 0, none⟩)] 74)) W.heap.size (W.heap.size + 1) (W.heap.size + 1 + 1) (W.heap.size + 1 + 1 + 1) most [] [] := by
  have hB := hb.size
  have b0 : Blk (W.alloc (.cells #[.int .i64 most, .slice none 0 0] 80)) W.heap.size 80 _ := Blk.made W 80 _
  have b1 : Blk ((W.alloc (.cells #[.int .i64 most, .slice none 0 0] 80)).alloc (.cells #[.int .i64 most, .slice none 0 0] 78)) (W.heap.size + 1) 78 #[.int .i64 most, .slice none 0 0] := by
    have := Blk.made (W.alloc (.cells #[.int .i64 most, .slice none 0 0] 80)) 78 #[.int .i64 most, .slice none 0 0]
    simpa using this
  have b2 : Blk (((W.alloc (.cells #[.int .i64 most, .slice none 0 0] 80)).alloc (.cells #[.int .i64 most, .slice none 0 0] 78)).alloc (.cells #[.int .i64 0, .slice none 0 0] 80)) (W.heap.size + 1 + 1) 80 #[.int .i64 0, .slice none 0 0] := by
    have := Blk.made ((W.alloc (.cells #[.int .i64 most, .slice none 0 0] 80)).alloc (.cells #[.int .i64 most, .slice none 0 0] 78)) 80 #[.int .i64 0, .slice none 0 0]
    simpa using this
  have b3 : Blk ((((W.alloc (.cells #[.int .i64 most, .slice none 0 0] 80)).alloc (.cells #[.int .i64 most, .slice none 0 0] 78)).alloc (.cells #[.int .i64 0, .slice none 0 0] 80)).alloc (.cells #[.pointer none, .pointer (some ⟨W.heap.size + 1 + 1, 0, none⟩)] 74)) (W.heap.size + 1 + 1 + 1) 74 #[.pointer none, .pointer (some ⟨W.heap.size + 1 + 1, 0, none⟩)] := by
    have := Blk.made (((W.alloc (.cells #[.int .i64 most, .slice none 0 0] 80)).alloc (.cells #[.int .i64 most, .slice none 0 0] 78)).alloc (.cells #[.int .i64 0, .slice none 0 0] 80)) 74 #[.pointer none, .pointer (some ⟨W.heap.size + 1 + 1, 0, none⟩)]
    simpa using this
  exact ⟨_, [], _, [], ⟨⟨hB, ((b0.alloc _).alloc _).alloc _, QRow.nil _ _, (fun q hq => by cases hq)⟩, ⟨by omega, (b1.alloc _).alloc _, QRow.nil _ _, (fun q hq => by cases hq)⟩, ⟨_, ⟨by omega, b2.alloc _, QRow.nil _ _, (fun q hq => by cases hq)⟩, (fun k hk => by cases hk)⟩, b3, by omega, (fun k hk => by cases hk), (((hb.alloc hB _).alloc (by simp; omega) _).alloc (by simp; omega) _).alloc (by simp; omega) _⟩, rfl, rfl⟩
theorem PlB.drew (h : PlB w W gq gx gz nb ba most a M M') : PlB w W.drew gq gx gz nb ba most a M M' := h.below (Below.refl _ _).drew
theorem PlR.drew {r : Nat} (h : PlR w W gq gx gz nb ba most a M M' r) : PlR w W.drew gq gx gz nb ba most a M M' r := h.below (Below.refl _ _).drew
theorem PlR.put' {r : Nat} (h : PlR w W gq gx gz nb ba most a M M' r) (u0 u1 u2 u3 u4 u5 u6 u7 u8 : Value) : PlB w (((((((((W.setCell ⟨r, 0, none⟩ u0).setCell ⟨r, 1, none⟩ u1).setCell ⟨r, 2, none⟩ u2).setCell ⟨r, 3, none⟩ u3).setCell ⟨r, 4, none⟩ u4).setCell ⟨r, 5, none⟩ u5).setCell ⟨r, 6, none⟩ u6).setCell ⟨r, 7, none⟩ u7).setCell ⟨r, 8, none⟩ u8) gq gx gz nb ba most a M M' := h.put u0 u1 u2 u3 u4 u5 u6 u7 u8
theorem PlR.make' (h : PlB w W gq gx gz nb ba most a M M') : PlR w (W.alloc (.cells #[.string ⟨#[]⟩, .string ⟨#[]⟩, .int .i64 0, .bool false, .slice none 0 0, .string ⟨#[]⟩, .int .i64 0, .int .i64 0, .string ⟨#[]⟩] 36)) gq gx gz nb ba most a M M' W.heap.size := PlR.make h
theorem act_cells (h : Blk W ba 83 a.cells.toArray) : W.cell? ⟨ba, 0, none⟩ = some (.int .i64 a.kind) ∧ W.cell? ⟨ba, 1, none⟩ = some (.string a.q.m.topic) ∧ W.cell? ⟨ba, 2, none⟩ = some (.string a.q.m.payload) ∧ W.cell? ⟨ba, 3, none⟩ = some (.int .i64 a.q.m.qos) ∧ W.cell? ⟨ba, 4, none⟩ = some (.bool a.q.m.retain) ∧ W.cell? ⟨ba, 5, none⟩ = some (.slice a.q.pa a.q.m.props.length a.q.pc) ∧ W.cell? ⟨ba, 6, none⟩ = some (.string a.q.m.frm) ∧ W.cell? ⟨ba, 7, none⟩ = some (.int .i64 a.q.m.til) ∧ W.cell? ⟨ba, 8, none⟩ = some (.int .i64 a.q.m.seq) ∧ W.cell? ⟨ba, 9, none⟩ = some (.string a.q.m.grp) ∧ W.cell? ⟨ba, 10, none⟩ = some (.int .i64 a.now) :=
  ⟨h.cell 0, h.cell 1, h.cell 2, h.cell 3, h.cell 4, h.cell 5, h.cell 6, h.cell 7, h.cell 8, h.cell 9, h.cell 10⟩
/-- Two blocks stand. -/
structure KNb (N : Nat) (W : World) (nb ba gz : Nat) (a : AV) : Prop where
  nbk : Blk W nb 74 #[.pointer none, .pointer (some ⟨gz, 0, none⟩)]
  box : Blk W ba 83 a.cells.toArray
  size : N ≤ W.heap.size
  lt1 : nb < N
  lt2 : ba < N
theorem PlB.kn {N : Nat} (h : PlB w W gq gx gz nb ba most a M M') (h1 : nb < N) (h2 : ba < N) (hs : N ≤ W.heap.size) : KNb N W nb ba gz a := by
  obtain ⟨⟨vq, Lq, vx, Lx, hn, _⟩, hb⟩ := h
  exact ⟨hn.nbk, hb, hs, h1, h2⟩
theorem kna {N : Nat} (o : Obj) (h : KNb N W nb ba gz a) : KNb N (W.alloc o) nb ba gz a := ⟨h.nbk.alloc o, h.box.alloc o, Nat.le_trans h.size (by simp), h.lt1, h.lt2⟩
theorem knd {N : Nat} (h : KNb N W nb ba gz a) : KNb N W.drew nb ba gz a := ⟨h.nbk, h.box, h.size, h.lt1, h.lt2⟩
theorem kns {N : Nat} {p : Addr} {u : Value} (h : KNb N W nb ba gz a) (hp : N ≤ p.block) : KNb N (W.setCell p u) nb ba gz a :=
  ⟨h.nbk.far (by have := h.lt1; omega) u, h.box.far (by have := h.lt2; omega) u, by simpa [World.setCell] using h.size, h.lt1, h.lt2⟩
theorem bdr27 {W0 : World} (h : Below W0.heap.size W0 W) : Below W0.heap.size W0 W.drew := below_drewN h 1
theorem KNb.cells {N j : Nat} (h : KNb N W nb ba gz a) (hj : j < 2) : W.cell? ⟨nb, j, none⟩ = some (.pointer (nobP gz j)) ∧ W.cell? ⟨ba, 10, none⟩ = some (.int .i64 a.now) := by
  refine ⟨?_, (act_cells h.box).2.2.2.2.2.2.2.2.2.2⟩
  rcases (show j = 0 ∨ j = 1 by omega) with rfl | rfl
  · exact h.nbk.cell 0
  · exact h.nbk.cell 1
theorem PlB.lts (h : PlB w W gq gx gz nb ba most a M M') : nb < W.heap.size ∧ ba < W.heap.size := by
  obtain ⟨⟨vq, Lq, vx, Lx, hn, _⟩, hb⟩ := h
  exact ⟨hn.nbk.lt, hb.lt⟩
/-- All by name. -/
structure PlE (w W : World) (gq gx gz nb ba : Nat) (most : Int) (a : AV) (vq vx : Value) (Lq Lx : QL) : Prop where
  n : PlN w W gq gx gz nb most vq vx Lq Lx
  box : Blk W ba 83 a.cells.toArray
theorem PlE.below (h : PlE w W gq gx gz nb ba most a vq vx Lq Lx) (hb : Below W.heap.size W W') : PlE w W' gq gx gz nb ba most a vq vx Lq Lx := ⟨h.n.below hb, h.box.below hb h.box.lt⟩
theorem PlE.drewN (h : PlE w W gq gx gz nb ba most a vq vx Lq Lx) (d : Nat) : PlE w (W.drewN d) gq gx gz nb ba most a vq vx Lq Lx := h.below (below_drewN (Below.refl _ _) d)
/-- And copies of all messages of the program's own. -/
structure PlF (w W : World) (gq gx gz nb ba : Nat) (most : Int) (a : AV) (vq vx : Value) (Lq Lx : QL) (A : Option Addr) (c : Nat) (L' : QL) : Prop where
  e : PlE w W gq gx gz nb ba most a vq vx Lq Lx
  row : QRow W 0 (.slice A Lq.length c) L'
  pins : ∀ q ∈ L', PIn W 0 q.pa q.m.props
  eq : L'.map QV.m = Lq.map QV.m
theorem PlF.below {A : Option Addr} {c : Nat} {L' : QL} (h : PlF w W gq gx gz nb ba most a vq vx Lq Lx A c L') (hb : Below W.heap.size W W') : PlF w W' gq gx gz nb ba most a vq vx Lq Lx A c L' := ⟨h.e.below hb, h.row.below hb, fun q hq => (h.pins q hq).below hb, h.eq⟩
theorem PlF.drewN {A : Option Addr} {c : Nat} {L' : QL} (h : PlF w W gq gx gz nb ba most a vq vx Lq Lx A c L') (d : Nat) : PlF w (W.drewN d) gq gx gz nb ba most a vq vx Lq Lx A c L' := h.below (below_drewN (Below.refl _ _) d)
theorem e44 (h : PlE w W gq gx gz nb ba most a vq vx Lq Lx) : Calls Try.prog 44 #[.pointer (some ⟨gq, 0, none⟩)] W (fun x W' => x = .returned (.int .i64 Lq.length) ∧ PlE w W' gq gx gz nb ba most a vq vx Lq Lx) :=
  (qlen_any h.n.q).mono fun x W' ⟨he, hb⟩ => ⟨he, hb ▸ h⟩
theorem e45 (h : PlE w W gq gx gz nb ba most a vq vx Lq Lx) (hl : Lq.length ≤ 900) (hf : FewM (Lq.map QV.m)) : Calls Try.prog 45 #[.pointer (some ⟨gq, 0, none⟩)] W (fun x W' => ∃ A c L', x = .returned (.slice A Lq.length c) ∧ PlF w W' gq gx gz nb ba most a vq vx Lq Lx A c L') := by
  refine (qall_any h.n.q hl (few_map hf)).mono ?_
  rintro x W' ⟨v', L', rfl, hrow, hm, hp, hb⟩
  obtain ⟨A, c, rfl⟩ := hrow.form
  have hlen : L'.length = Lq.length := by simpa using congrArg List.length hm
  rw [hlen] at hrow ⊢
  exact ⟨A, c, L', rfl, h.below hb, hrow.mono (Nat.zero_le _), hp, hm⟩
theorem e20 {A : Option Addr} {c : Nat} {L' : QL} (h : PlF w W gq gx gz nb ba most a vq vx Lq Lx A c L') (hl : Lq.length ≤ 900) (hf : FewM (Lq.map QV.m)) (hm : Lq.map QV.m = Lx.map QV.m) {a2 : Option Addr} {c2 : Nat} (hv : vx = .slice a2 Lq.length c2) :
    Calls Try.prog 20 #[.slice A Lq.length c, .slice a2 Lq.length c2] W (fun x W' => x = .returned (.bool true) ∧ PlE w W' gq gx gz nb ba most a vq vx Lq Lx) := by
  have hlen : L'.length = Lq.length := by simpa using congrArg List.length h.eq
  have hf' : FewM (L'.map QV.m) := by rw [h.eq]; exact hf
  have hrx := h.e.n.x.row
  rw [hv] at hrx
  exact (msame_any h.row.mrd hrx.mrd (fun q hq => ⟨h.pins q hq, few_map hf' q hq⟩) h.e.n.x.ms (h.eq.trans hm) Lq.length c c2 hlen.symm hl).mono fun x W' ⟨he, hb⟩ => ⟨he, h.e.below hb⟩
end
theorem headM_few {M : List MV} (h : FewM M) : (headM M).props.length ≤ 1000 := by
  cases M with
  | nil => exact Nat.zero_le _
  | cons m M => exact Nat.le_trans (h m (List.mem_cons_self ..)) (by omega)
/-- The block of a number within a code. -/
def findBlock (n : Nat) : Code → Option Code
  | .block m c => if m = n then some (.block m c) else findBlock n c
  | .loop c => findBlock n c
  | .seq a b => match findBlock n a with
    | some c => some c
    | none => findBlock n b
  | .scope c => findBlock n c
  | .cond _ a b => match findBlock n a with
    | some c => some c
    | none => findBlock n b
  | _ => none
noncomputable def sw6 : Code := ((Try.f6.body.bind (findBlock 2)).getD .skip)
set_option maxRecDepth 1000000 in
set_option maxHeartbeats 4000000 in
theorem sw6_walk {w W1 : World} {gq gx gz nb ba k : Nat} {most : Int} {a : AV} {M : List MV} (hl40 : M.length ≤ 900) (hlM : M.length ≤ k) (HF : Hid (FewM M)) (HPIN : Hid (MsgOf w a.q)) (HAF : Hid (a.q.m.props.length ≤ 70)) (HPB : Hid (PlB w W1 gq gx gz nb ba most a M M))
    (sl0 sl1 sl2 sl3 sl4 sl7 sl8 sl10 sl11 sl12 sl13 sl14 sl15 sl16 sl17 sl18 sl19 sl20 sl21 sl22 sl23 sl24 sl25 sl26 sl27 sl28 sl29 sl30 sl31 sl32 sl33 sl34 sl35 sl36 sl37 sl38 sl39 sl40 sl41 sl42 sl43 sl44 sl45 sl47 sl48 sl49 sl50 sl51 sl52 sl53 sl54 sl55 sl56 sl57 sl58 sl59 sl60 sl61 sl62 sl63 sl64 sl65 sl66 sl67 sl68 sl69 sl70 sl71 sl72 sl73 sl74 sl75 sl76 sl77 sl78 sl79 sl80 sl81 sl82 sl83 sl84 sl85 sl86 sl87 sl88 sl89 sl90 sl91 sl92 sl93 sl94 sl95 sl96 sl97 sl98 sl99 sl100 sl101 sl102 sl103 sl104 sl105 sl106 sl107 sl108 sl109 sl110 sl111 sl112 sl113 sl114 sl115 sl116 sl117 sl118 sl119 sl120 sl121 sl122 sl123 sl124 sl125 sl126 sl127 sl128 sl129 sl130 sl131 sl132 sl133 sl134 sl135 sl136 sl137 sl138 sl139 sl140 sl141 sl142 sl143 sl144 sl145 sl146 sl147 sl148 sl149 sl150 sl151 sl152 sl153 sl154 sl155 sl156 sl157 sl158 sl159 sl160 sl161 sl162 sl163 sl164 sl165 sl166 sl167 sl168 sl169 sl170 sl171 sl172 sl173 sl174 sl175 sl176 sl177 sl178 sl179 sl180 sl181 sl182 sl183 sl184 sl185 sl186 sl187 sl188 sl189 sl190 sl191 sl192 sl193 sl194 sl195 sl196 sl197 sl198 sl199 sl200 sl201 sl202 sl203 : Value) (K : Act → World → Prop) (Q : Exit → Act → World → Prop)
    (hK : ∀ (u4 u10 u11 u12 u13 u14 u15 u16 u17 u35 u36 u37 u38 u39 u40 u41 u42 u43 u44 u45 u46 u47 u48 u49 u50 u51 u52 u53 u54 u55 u56 u57 u58 u59 u60 u61 u62 u63 u64 u65 u66 u67 u68 u69 u70 u71 u72 u73 u74 u75 u76 u77 u78 u79 u80 u81 u82 u83 u84 u85 u86 u87 u88 u89 u90 u91 u92 u93 u94 u95 u96 u97 u98 u99 u100 u101 u102 u103 u104 u105 u106 u107 u108 u109 u110 u111 u112 u113 u114 u115 u116 u117 u118 u119 u120 u121 u122 u123 u124 u125 u126 u127 u128 u129 u130 u131 u132 u133 u134 u135 u136 u137 u138 u139 u140 u141 u142 u143 u144 u145 u146 u147 u148 u149 u150 u151 u152 u153 u154 u155 u156 u157 u158 u159 u160 u161 u162 u163 u164 u165 u166 u167 u168 u169 u170 u171 u172 u173 u174 u175 u176 u177 u178 u179 u180 u181 u182 u183 u184 u185 u186 u187 u188 u189 u190 u191 u192 u193 u194 u195 u196 u197 u198 u199 u200 u201 u202 : Value) (wx : World), (∃ M2, PlB w wx gq gx gz nb ba most a M2 M2 ∧ Hid (FewM M2) ∧ M2.length ≤ k + 1) → K ⟨List.toArray (sl0 :: sl1 :: sl2 :: sl3 :: u4 :: .pointer (some ⟨gq, 0, none⟩) :: .pointer (some ⟨gx, 0, none⟩) :: sl7 :: sl8 :: .pointer (some ⟨ba, 0, none⟩) :: u10 :: u11 :: u12 :: u13 :: u14 :: u15 :: u16 :: u17 :: sl18 :: sl19 :: sl20 :: sl21 :: sl22 :: sl23 :: sl24 :: sl25 :: sl26 :: sl27 :: sl28 :: sl29 :: sl30 :: sl31 :: sl32 :: sl33 :: sl34 :: u35 :: u36 :: u37 :: u38 :: u39 :: u40 :: u41 :: u42 :: u43 :: u44 :: u45 :: u46 :: u47 :: u48 :: u49 :: u50 :: u51 :: u52 :: u53 :: u54 :: u55 :: u56 :: u57 :: u58 :: u59 :: u60 :: u61 :: u62 :: u63 :: u64 :: u65 :: u66 :: u67 :: u68 :: u69 :: u70 :: u71 :: u72 :: u73 :: u74 :: u75 :: u76 :: u77 :: u78 :: u79 :: u80 :: u81 :: u82 :: u83 :: u84 :: u85 :: u86 :: u87 :: u88 :: u89 :: u90 :: u91 :: u92 :: u93 :: u94 :: u95 :: u96 :: u97 :: u98 :: u99 :: u100 :: u101 :: u102 :: u103 :: u104 :: u105 :: u106 :: u107 :: u108 :: u109 :: u110 :: u111 :: u112 :: u113 :: u114 :: u115 :: u116 :: u117 :: u118 :: u119 :: u120 :: u121 :: u122 :: u123 :: u124 :: u125 :: u126 :: u127 :: u128 :: u129 :: u130 :: u131 :: u132 :: u133 :: u134 :: u135 :: u136 :: u137 :: u138 :: u139 :: u140 :: u141 :: u142 :: u143 :: u144 :: u145 :: u146 :: u147 :: u148 :: u149 :: u150 :: u151 :: u152 :: u153 :: u154 :: u155 :: u156 :: u157 :: u158 :: u159 :: u160 :: u161 :: u162 :: u163 :: u164 :: u165 :: u166 :: u167 :: u168 :: u169 :: u170 :: u171 :: u172 :: u173 :: u174 :: u175 :: u176 :: u177 :: u178 :: u179 :: u180 :: u181 :: u182 :: u183 :: u184 :: u185 :: u186 :: u187 :: u188 :: u189 :: u190 :: u191 :: u192 :: u193 :: u194 :: u195 :: u196 :: u197 :: u198 :: u199 :: u200 :: u201 :: u202 :: sl203 :: []), []⟩ wx) :
    Code.wp Try.prog sw6 (Exit.then K Q) ⟨List.toArray (sl0 :: sl1 :: sl2 :: sl3 :: sl4 :: .pointer (some ⟨gq, 0, none⟩) :: .pointer (some ⟨gx, 0, none⟩) :: sl7 :: sl8 :: .pointer (some ⟨ba, 0, none⟩) :: sl10 :: sl11 :: sl12 :: sl13 :: sl14 :: sl15 :: sl16 :: sl17 :: sl18 :: sl19 :: sl20 :: sl21 :: sl22 :: sl23 :: sl24 :: sl25 :: sl26 :: sl27 :: sl28 :: sl29 :: sl30 :: sl31 :: sl32 :: sl33 :: sl34 :: sl35 :: sl36 :: sl37 :: sl38 :: sl39 :: sl40 :: sl41 :: sl42 :: sl43 :: sl44 :: sl45 :: .int .i64 a.kind :: sl47 :: sl48 :: sl49 :: sl50 :: sl51 :: sl52 :: sl53 :: sl54 :: sl55 :: sl56 :: sl57 :: sl58 :: sl59 :: sl60 :: sl61 :: sl62 :: sl63 :: sl64 :: sl65 :: sl66 :: sl67 :: sl68 :: sl69 :: sl70 :: sl71 :: sl72 :: sl73 :: sl74 :: sl75 :: sl76 :: sl77 :: sl78 :: sl79 :: sl80 :: sl81 :: sl82 :: sl83 :: sl84 :: sl85 :: sl86 :: sl87 :: sl88 :: sl89 :: sl90 :: sl91 :: sl92 :: sl93 :: sl94 :: sl95 :: sl96 :: sl97 :: sl98 :: sl99 :: sl100 :: sl101 :: sl102 :: sl103 :: sl104 :: sl105 :: sl106 :: sl107 :: sl108 :: sl109 :: sl110 :: sl111 :: sl112 :: sl113 :: sl114 :: sl115 :: sl116 :: sl117 :: sl118 :: sl119 :: sl120 :: sl121 :: sl122 :: sl123 :: sl124 :: sl125 :: sl126 :: sl127 :: sl128 :: sl129 :: sl130 :: sl131 :: sl132 :: sl133 :: sl134 :: sl135 :: sl136 :: sl137 :: sl138 :: sl139 :: sl140 :: sl141 :: sl142 :: sl143 :: sl144 :: sl145 :: sl146 :: sl147 :: sl148 :: sl149 :: sl150 :: sl151 :: sl152 :: sl153 :: sl154 :: sl155 :: sl156 :: sl157 :: sl158 :: sl159 :: sl160 :: sl161 :: sl162 :: sl163 :: sl164 :: sl165 :: sl166 :: sl167 :: sl168 :: sl169 :: sl170 :: sl171 :: sl172 :: sl173 :: sl174 :: sl175 :: sl176 :: sl177 :: sl178 :: sl179 :: sl180 :: sl181 :: sl182 :: sl183 :: sl184 :: sl185 :: sl186 :: sl187 :: sl188 :: sl189 :: sl190 :: sl191 :: sl192 :: sl193 :: sl194 :: sl195 :: sl196 :: sl197 :: sl198 :: sl199 :: sl200 :: sl201 :: sl202 :: sl203 :: []), []⟩ W1 := by
  conv => arg 2; whnf
  have k0 := (act_cells HPB.out.2).1
  go_cut [] from 35 to 202 (fun wx => ∃ M2, PlB w wx gq gx gz nb ba most a M2 M2 ∧ Hid (FewM M2) ∧ M2.length ≤ k + 1)
  case rest => exact hK u4 u10 u11 u12 u13 u14 u15 u16 u17 u35 u36 u37 u38 u39 u40 u41 u42 u43 u44 u45 u46 u47 u48 u49 u50 u51 u52 u53 u54 u55 u56 u57 u58 u59 u60 u61 u62 u63 u64 u65 u66 u67 u68 u69 u70 u71 u72 u73 u74 u75 u76 u77 u78 u79 u80 u81 u82 u83 u84 u85 u86 u87 u88 u89 u90 u91 u92 u93 u94 u95 u96 u97 u98 u99 u100 u101 u102 u103 u104 u105 u106 u107 u108 u109 u110 u111 u112 u113 u114 u115 u116 u117 u118 u119 u120 u121 u122 u123 u124 u125 u126 u127 u128 u129 u130 u131 u132 u133 u134 u135 u136 u137 u138 u139 u140 u141 u142 u143 u144 u145 u146 u147 u148 u149 u150 u151 u152 u153 u154 u155 u156 u157 u158 u159 u160 u161 u162 u163 u164 u165 u166 u167 u168 u169 u170 u171 u172 u173 u174 u175 u176 u177 u178 u179 u180 u181 u182 u183 u184 u185 u186 u187 u188 u189 u190 u191 u192 u193 u194 u195 u196 u197 u198 u199 u200 u201 u202 wc hcut
  clear hK
  case first =>
          by_cases e1 : a.kind = 1
          · have q1 : (a.kind == 1) = true := beq_iff_eq.2 e1
            clear e1
            have HFN := Lib.hid (HF.out.push most HAF.out)
            have HLN := Lib.hid (show (pushM most M a.q.m).length ≤ k + 1 from Nat.le_trans (pushM_len _ _ _) (by omega))
            cases hbr : decide ((M.length : Int) < most)
            all_goals
              have DP := Lib.hid (fun W (hi : PlB w W gq gx gz nb ba most a M M) => c36 hi hl40 HPIN.out.1 HAF.out)
              have DR := Lib.hid (fun W (hi : PlB w W gq gx gz nb ba most a (pushM most M a.q.m) M) => c37 hi hl40 HPIN.out.1)
              rw [hbr] at DP DR
              clear hbr
              have KS := Lib.hid (fun W (m m' : List MV) (hi : PlB w W gq gx gz nb ba most a m m') => show W.cell? ⟨ba, 1, none⟩ = some (.string a.q.m.topic) ∧ W.cell? ⟨ba, 2, none⟩ = some (.string a.q.m.payload) ∧ W.cell? ⟨ba, 3, none⟩ = some (.int .i64 a.q.m.qos) ∧ W.cell? ⟨ba, 4, none⟩ = some (.bool a.q.m.retain) ∧ W.cell? ⟨ba, 5, none⟩ = some (.slice a.q.pa a.q.m.props.length a.q.pc) ∧ W.cell? ⟨ba, 6, none⟩ = some (.string a.q.m.frm) ∧ W.cell? ⟨ba, 7, none⟩ = some (.int .i64 a.q.m.til) ∧ W.cell? ⟨ba, 8, none⟩ = some (.int .i64 a.q.m.seq) ∧ W.cell? ⟨ba, 9, none⟩ = some (.string a.q.m.grp) ∧ W.cell? ⟨ba, 10, none⟩ = some (.int .i64 a.now) from (act_cells hi.2).2)
              unfold QV.agg Says at DP DR
              have hi0 := HPB.out
              go_upto_region 11 with fail
              obtain ⟨k1, k2, k3, k4, k5, k6, k7, k8, k9, k10⟩ := KS.out _ _ _ hi0
              go_region_held3 (fun W => W.cell? ⟨ba, 1, none⟩ = some (.string a.q.m.topic) ∧ W.cell? ⟨ba, 2, none⟩ = some (.string a.q.m.payload) ∧ W.cell? ⟨ba, 3, none⟩ = some (.int .i64 a.q.m.qos) ∧ W.cell? ⟨ba, 4, none⟩ = some (.bool a.q.m.retain) ∧ W.cell? ⟨ba, 5, none⟩ = some (.slice a.q.pa a.q.m.props.length a.q.pc) ∧ W.cell? ⟨ba, 6, none⟩ = some (.string a.q.m.frm) ∧ W.cell? ⟨ba, 7, none⟩ = some (.int .i64 a.q.m.til) ∧ W.cell? ⟨ba, 8, none⟩ = some (.int .i64 a.q.m.seq) ∧ W.cell? ⟨ba, 9, none⟩ = some (.string a.q.m.grp) ∧ W.cell? ⟨ba, 10, none⟩ = some (.int .i64 a.now))
                (first | assumption | exact KS.out _ _ _ (by assumption) | exact KS.out _ _ _ (PlB.drewN (by assumption) 1))
                (first
                  | (go_at_call 36; (with_reducible refine (DP.out _ ?_).mono ?_); (first | assumption | exact PlB.drewN (by assumption) 1); rintro x w6 ⟨rfl, hi6⟩)
                  | (go_at_call 37; (with_reducible refine (DR.out _ ?_).mono ?_); (first | assumption | exact PlB.drewN (by assumption) 1); rintro x w7 ⟨rfl, hi7⟩))
              have HI7 := Lib.hid hi7
              clear hi0 hi6 hi7 k1 k2 k3 k4 k5 k6 k7 k8 k9 k10 DP DR KS
              go_wp2_with fail
              go_meet
              exact ⟨_, HI7.out, HFN.out, HLN.out⟩
          by_cases e2 : a.kind = 2
          · have q1 : (a.kind == 1) = false := beq_eq_false_iff_ne.2 e1
            have q2 : (a.kind == 2) = true := beq_iff_eq.2 e2
            clear e1 e2
            have HFN := Lib.hid ((HF.out.left a.now).drop 1)
            have HLN := Lib.hid (show ((leftM a.now M).drop 1).length ≤ k + 1 from by have := leftM_len a.now M; rw [List.length_drop]; omega)
            have DP := Lib.hid (c38 HPB.out hl40 HF.out a.now)
            have k10 := (act_cells HPB.out.2).2.2.2.2.2.2.2.2.2.2
            go_wp2_with fail
            refine DP.out.mono ?_
            rintro x w2 ⟨Y, rfl, hY, hpY, hB2⟩
            have hC := PlC.make hB2 hpY
            have DR := Lib.hid (c39 hC hl40 a.now)
            have k10' := (act_cells hC.box).2.2.2.2.2.2.2.2.2.2
            have HY := Lib.hid hY
            clear k10 hY hpY hB2 hC DP
            obtain ⟨bh, hbh⟩ : ∃ bh, bh = hasM (leftM a.now M) := ⟨_, rfl⟩
            rw [← hbh]
            have DR' := Lib.hid (show Calls Try.prog 39 #[.pointer (some ⟨gx, 0, none⟩), .int .i64 a.now] (w2.alloc (.cells Y.cells.toArray 36)) (fun x W' => ∃ Z : QV, x = .returned (.tuple #[Z.agg, .bool bh]) ∧ Z.m = Y.m ∧ PIn W' w.heap.size Z.pa Z.m.props ∧ PlC w W' gq gx gz nb ba most a w2.heap.size Y ((leftM a.now M).drop 1) ((leftM a.now M).drop 1)) from DR.out.mono fun x W' ⟨Z, h1, h2, h3, h4⟩ => ⟨Z, by rw [hbh]; exact h1, h2.trans HY.out.symm, h3, h4⟩)
            have HYF := Lib.hid (show Y.m.props.length ≤ 1000 from by
              rw [HY.out]
              exact headM_few (HF.out.left a.now))
            clear hbh DR HY
            unfold QV.agg QV.cells at *
            go_wp2_with fail
            refine DR'.out.mono ?_
            rintro x w3 ⟨Z, rfl, hZ, hpZ, hC3⟩
            have hb3 : Below w3.heap.size w3 (w3.alloc (.cells Z.cells.toArray 36)) := (Below.refl _ _).alloc (Nat.le_refl _) _
            have hC4 := hC3.below hb3
            have DS := Lib.hid (samemsg_any Y Z hZ.symm hC4.pin (hpZ.below hb3) HYF.out)
            obtain ⟨s0, s1, s2, s3, s4, s5, s6, s7, s8⟩ := box_cells hC4.msg
            obtain ⟨t0, t1, t2, t3, t4, t5, t6, t7, t8⟩ := box_cells (Blk.made w3 36 Z.cells.toArray)
            have HC4 := Lib.hid hC4
            clear hb3 hC4 hC3 hpZ hZ DR' k10'
            unfold QV.cells QV.agg at *
            cases bh
            all_goals
              go_wp2_with fail
              refine DS.out.mono ?_
              rintro x w5 ⟨rfl, hb5⟩
              have HC5 := Lib.hid (HC4.out.below hb5).pb
              clear s0 s1 s2 s3 s4 s5 s6 s7 s8 t0 t1 t2 t3 t4 t5 t6 t7 t8 hb5
              go_wp2_with fail
              go_meet
              exact ⟨_, HC5.out, HFN.out, HLN.out⟩
          by_cases e4 : a.kind = 4
          · have q1 : (a.kind == 1) = false := beq_eq_false_iff_ne.2 e1
            have q2 : (a.kind == 2) = false := beq_eq_false_iff_ne.2 e2
            have q4 : (a.kind == 4) = true := beq_iff_eq.2 e4
            clear e1 e2 e4
            have HFN := Lib.hid (HF.out.left a.now)
            have HLN := Lib.hid (show (leftM a.now M).length ≤ k + 1 from by have := leftM_len a.now M; omega)
            have DP := Lib.hid (c40 HPB.out hl40 HF.out a.now)
            have k10 := (act_cells HPB.out.2).2.2.2.2.2.2.2.2.2.2
            go_wp2_with fail
            refine DP.out.mono ?_
            rintro x w2 ⟨Y, rfl, hY, hpY, hB2⟩
            have hC := PlC.make hB2 hpY
            have DR := Lib.hid (c41 hC hl40 a.now)
            have k10' := (act_cells hC.box).2.2.2.2.2.2.2.2.2.2
            have HY := Lib.hid hY
            clear k10 hY hpY hB2 hC DP
            obtain ⟨bh, hbh⟩ : ∃ bh, bh = hasM (leftM a.now M) := ⟨_, rfl⟩
            rw [← hbh]
            have DR' := Lib.hid (show Calls Try.prog 41 #[.pointer (some ⟨gx, 0, none⟩), .int .i64 a.now] (w2.alloc (.cells Y.cells.toArray 36)) (fun x W' => ∃ Z : QV, x = .returned (.tuple #[Z.agg, .bool bh]) ∧ Z.m = Y.m ∧ PIn W' w.heap.size Z.pa Z.m.props ∧ PlC w W' gq gx gz nb ba most a w2.heap.size Y (leftM a.now M) (leftM a.now M)) from DR.out.mono fun x W' ⟨Z, h1, h2, h3, h4⟩ => ⟨Z, by rw [hbh]; exact h1, h2.trans HY.out.symm, h3, h4⟩)
            have HYF := Lib.hid (show Y.m.props.length ≤ 1000 from by
              rw [HY.out]
              exact headM_few (HF.out.left a.now))
            clear hbh DR HY
            unfold QV.agg QV.cells at *
            go_wp2_with fail
            refine DR'.out.mono ?_
            rintro x w3 ⟨Z, rfl, hZ, hpZ, hC3⟩
            have hb3 : Below w3.heap.size w3 (w3.alloc (.cells Z.cells.toArray 36)) := (Below.refl _ _).alloc (Nat.le_refl _) _
            have hC4 := hC3.below hb3
            have DS := Lib.hid (samemsg_any Y Z hZ.symm hC4.pin (hpZ.below hb3) HYF.out)
            obtain ⟨s0, s1, s2, s3, s4, s5, s6, s7, s8⟩ := box_cells hC4.msg
            obtain ⟨t0, t1, t2, t3, t4, t5, t6, t7, t8⟩ := box_cells (Blk.made w3 36 Z.cells.toArray)
            have HC4 := Lib.hid hC4
            clear hb3 hC4 hC3 hpZ hZ DR' k10'
            unfold QV.cells QV.agg at *
            cases bh
            all_goals
              go_wp2_with fail
              refine DS.out.mono ?_
              rintro x w5 ⟨rfl, hb5⟩
              have HC5 := Lib.hid (HC4.out.below hb5).pb
              clear s0 s1 s2 s3 s4 s5 s6 s7 s8 t0 t1 t2 t3 t4 t5 t6 t7 t8 hb5
              go_wp2_with fail
              go_meet
              exact ⟨_, HC5.out, HFN.out, HLN.out⟩
          by_cases e3 : a.kind = 3
          · have q1 : (a.kind == 1) = false := beq_eq_false_iff_ne.2 e1
            have q2 : (a.kind == 2) = false := beq_eq_false_iff_ne.2 e2
            have q4 : (a.kind == 4) = false := beq_eq_false_iff_ne.2 e4
            have q3 : (a.kind == 3) = true := beq_iff_eq.2 e3
            clear e1 e2 e3 e4
            have HFN := Lib.hid (HF.out.keep a.now)
            have HLN := Lib.hid (show (keepM a.now M).length ≤ k + 1 from by have := keepM_len a.now M; omega)
            obtain ⟨r, hr⟩ : ∃ r, r = (M.length : Int) - (keepM a.now M).length := ⟨_, rfl⟩
            have DP := Lib.hid (fun W (hi : PlB w W gq gx gz nb ba most a M M) => c42 hi hl40 a.now)
            have DR := Lib.hid (fun W (hi : PlB w W gq gx gz nb ba most a (keepM a.now M) M) => c43 hi hl40 a.now)
            rw [← hr] at DP DR
            clear hr
            have KS := Lib.hid (fun W (m m' : List MV) (hi : PlB w W gq gx gz nb ba most a m m') => show W.cell? ⟨ba, 10, none⟩ = some (.int .i64 a.now) from (act_cells hi.2).2.2.2.2.2.2.2.2.2.2)
            unfold Says at DP DR
            have hi0 := HPB.out
            go_upto_region 24 with fail
            have k10 := KS.out _ _ _ hi0
            go_region_held3 (fun W => W.cell? ⟨ba, 10, none⟩ = some (.int .i64 a.now))
              (first | assumption | exact KS.out _ _ _ (by assumption) | exact KS.out _ _ _ (PlB.drewN (by assumption) 1))
              (first
                | (go_at_call 42; (with_reducible refine (DP.out _ ?_).mono ?_); (first | assumption | exact PlB.drewN (by assumption) 1); rintro x w6 ⟨rfl, hi6⟩)
                | (go_at_call 43; (with_reducible refine (DR.out _ ?_).mono ?_); (first | assumption | exact PlB.drewN (by assumption) 1); rintro x w7 ⟨rfl, hi7⟩))
            have HI7 := Lib.hid hi7
            clear hi0 hi6 hi7 k10 DP DR KS
            go_wp2_with fail
            go_meet
            exact ⟨_, HI7.out, HFN.out, HLN.out⟩
          · have q1 : (a.kind == 1) = false := beq_eq_false_iff_ne.2 e1
            have q2 : (a.kind == 2) = false := beq_eq_false_iff_ne.2 e2
            have q4 : (a.kind == 4) = false := beq_eq_false_iff_ne.2 e4
            have q3 : (a.kind == 3) = false := beq_eq_false_iff_ne.2 e3
            clear e1 e2 e3 e4
            have HLN := Lib.hid (show M.length ≤ k + 1 from by omega)
            go_wp2_with fail
            go_meet
            exact ⟨_, HPB.out, HF, HLN.out⟩
end Go.Proofs.Ytcfbfnlbdkgfkaa

/- What is proved here: how the packets with parts begin: PutHead and TakeHead of package body. Conditions: the reader, the writer and the packet are there, with few bytes; what the rows list of the package's variables. What is proved here: parts that follow one another are read: filters and codes. Conditions: the reader is there, with few bytes; what the rows list of the package's variables. What is proved here: codes are read and written, one by one. Conditions: the reader and the writer are there, with few bytes; what the rows list of the package's variables. -/
import Derived.Test.YtinhecggmakbnaaGreatDoorRop12
import Derived.Test.YtinhecggmakbnaaGreatDoorBrr08
namespace Go.Proofs.YtinhecggmakbnaaGreatDoor
set_option maxRecDepth 100000
open Go.ChangeShapes Go.WideShapes Go.RowKit Go.Deep Go.Extern.Stop Go.Stop Go.Extern
theorem thF_id (k : Int) (s : ByteArray) : thF k s = if (idR s ⟨0, 0, 0⟩).1.no = 0 then (if (readF k s (idR s ⟨0, 0, 0⟩).2.2).1.no = 0 then ⟨e00, (idR s ⟨0, 0, 0⟩).2.1, (readF k s (idR s ⟨0, 0, 0⟩).2.2).1.L, (readF k s (idR s ⟨0, 0, 0⟩).2.2).2⟩
    else ⟨⟨(readF k s (idR s ⟨0, 0, 0⟩).2.2).1.no, (readF k s (idR s ⟨0, 0, 0⟩).2.2).1.r, (readF k s (idR s ⟨0, 0, 0⟩).2.2).1.at_⟩, 0, [], (readF k s (idR s ⟨0, 0, 0⟩).2.2).2⟩) else ⟨(idR s ⟨0, 0, 0⟩).1, 0, [], (idR s ⟨0, 0, 0⟩).2.2⟩ := by
  unfold thF idR
  by_cases c1 : (rNum s 2 ⟨0, 0, 0⟩).2.no = 0
  · rw [if_pos c1, if_pos c1]
    by_cases c2 : (rNum s 2 ⟨0, 0, 0⟩).1 = 0
    · rw [if_pos c2, if_pos c2, if_neg (show ¬ (3 : Nat) = 0 by decide)]
    · rw [if_neg c2, if_neg c2, if_pos (show e00.no = 0 from rfl)]
  · rw [if_neg c1, if_neg c1, if_neg c1]
/-- The packet that TakeHead tells. -/
def thP (k : Int) (q : TH) : Pk := if q.e.no = 0 then pkS k q.id q.L [] [] [] else pk0
theorem PkIn.ofS {w : World} {B : Nat} {k id : Int} {L : PL} {a : Option Addr} {c : Nat} (h : PIn w B a L) (hc : L.length ≤ c) : PkIn w B (paR a c) (pkS k id L [] [] []) :=
  ⟨h, hc, PIn.nil _ _ _, Nat.le_refl _, CIn.nil _ _ _ _, CIn.nil _ _ _ _, CIn.nil _ _ _ _⟩
section
variable {z' w w' W : World} {S : Nat → Addr} {g k : Nat} {s : ByteArray} {R : RV} {old : Array Value}
theorem RNext.row (h : RNext w W S g s R) (hb : Blk W k 29 old) (hk : w.heap.size ≤ k) (y : Array Value) : RNext w (W.setRow k y) S g s R :=
  ⟨h.obj.fr (setRow_fr W k y) (fun hm => by
    rw [List.mem_singleton] at hm
    exact rd_ne8 h.obj hb hm.symm) (pkt_nof hb), h.fr.trans (setRow_fr W k y) fun j hj hlt => by
    rw [List.mem_singleton] at hj
    omega⟩
def ThSays (w : World) (S : Nat → Addr) (g : Nat) (s : ByteArray) (k : Int) (q : TH) (x : Ending) (w' : World) : Prop :=
  ∃ A e, x = .returned (.tuple #[(thP k q).agg A, e]) ∧ (∀ B, B ≤ w.heap.size → PkIn w' B A (thP k q)) ∧ ErrOf w' S q.e.r q.e.no q.e.at_ e ∧ RNext w w' S g s q.R
set_option maxHeartbeats 8000000 in
theorem th_any (hE : Env z' S) (hz : Below z'.heap.size z' w) (hg : z'.heap.size ≤ g) (ho : RObj w S g s ⟨0, 0, 0⟩) (hs : s.size ≤ 900000) (k : Int) :
    Calls Tryz.prog 141 #[.pointer (some ⟨g, 0, none⟩), .int .i64 k] w (ThSays w S g s k (thF k s)) := by
  obtain ⟨z, hzz⟩ : ∃ z, z = pk0.cells pa0 := ⟨_, rfl⟩
  have HZ := Lib.hid hzz
  have HZS := Lib.hid (show z.size = 26 by rw [hzz]; rfl)
  have HZ1 := Lib.hid (show z.all (·.oneCell') = true by rw [hzz]; exact pk_one _ _)
  obtain ⟨q, hq⟩ : ∃ q, q = thF k s := ⟨_, rfl⟩
  rw [← hq]
  rw [thF_id] at hq
  obtain ⟨W1, hW1⟩ : ∃ W, W = w.alloc (.cells z 29) := ⟨_, rfl⟩
  have b1 : Below w.heap.size w W1 := by rw [hW1]; exact (Below.refl _ _).alloc (Nat.le_refl _) _
  have r1 : Blk W1 w.heap.size 29 z := by rw [hW1]; exact Blk.made _ _ _
  have hz1 := hz.trans (b1.mono hz.size)
  have hn1 := ho.step b1
  have hid := id_any hE hz1 hg hn1.obj hs
  obtain ⟨⟨ie, iv, iR⟩, hi⟩ : ∃ V, V = idR s ⟨0, 0, 0⟩ := ⟨_, rfl⟩
  rw [← hi] at hid hq
  simp only at hq
  have HID := Lib.hid hid
  have HQ := Lib.hid hq
  have HE := Lib.hid hE
  have HZ1' := Lib.hid hz1
  have HG := Lib.hid hg
  have HN1 := Lib.hid hn1
  have R1 := Lib.hid r1
  have HSZ := Lib.hid hs
  have HW1 := Lib.hid hW1
  clear hE hz hg ho hs hzz hq b1 r1 hz1 hn1 hid hi hW1
  go_enter Tryz.func141, Tryz.ntmps141
  go_wp2_with (first | refine wpk_alloc HZ.out rfl rfl ?_)
  rw [← HW1.out]
  refine HID.out.mono ?_
  rintro x w2 ⟨e2, rfl, he2, hn2⟩
  simp only at he2 hn2
  have r2 := R1.out.rnext HN1.out.obj hn2
  have HN2 := Lib.hid (HN1.out.trans hn2)
  have HZ2 := Lib.hid (hn2.later HG.out HZ1'.out.size HZ1'.out)
  have R2 := Lib.hid r2
  clear hn2 r2 HID HN1 R1 HZ1'
  have hq := HQ.out
  by_cases h0 : ie.no = 0
  · rw [if_pos h0] at hq
    unfold ErrOf at he2
    rw [if_pos h0] at he2
    subst he2
    have hrd := pread_any HE.out HZ2.out HG.out HN2.out.obj HSZ.out k
    obtain ⟨⟨⟨qn, qr, qa, M⟩, R3⟩, hrq⟩ : ∃ V, V = readF k s iR := ⟨_, rfl⟩
    rw [← hrq] at hrd hq
    simp only at hq
    have HRD := Lib.hid hrd
    have HQ2 := Lib.hid hq
    clear hrd hrq hq HQ h0
    go_wp2_with fail
    refine HRD.out.mono ?_
    rintro x w3 ⟨v3, e3, rfl, hr3, he3, hn3⟩
    simp only at hr3 he3 hn3
    have r3 := R2.out.rnext HN2.out.obj hn3
    have hn13 := HN2.out.trans hn3
    have hsz := HN2.out.fr.size
    obtain ⟨a3, n3, c3, rfl, hnn3, hcc3⟩ := hr3.some_form
    have hq := HQ2.out
    by_cases h2 : qn = 0
    · subst h2
      rw [if_pos rfl] at hq
      unfold ErrOf at he3
      rw [if_pos rfl] at he3
      subst he3
      obtain ⟨y, hy⟩ : ∃ y, y = (pkS k iv M [] [] []).cells (paR a3 c3) := ⟨_, rfl⟩
      have HYY := Lib.hid (show y = #[.int .i64 k, .int .i64 iv, .int .i64 0, .slice a3 n3 c3, .bool false, .int .i64 0, .string ⟨#[]⟩, .bool false, .string ⟨#[]⟩, .string ⟨#[]⟩, .int .i64 0, .bool false, .slice none 0 0, .bool false, .string ⟨#[]⟩, .bool false, .string ⟨#[]⟩, .bool false, .string ⟨#[]⟩, .string ⟨#[]⟩, .int .i64 0, .bool false, .bool false, .slice none 0 0, .slice none 0 0, .slice none 0 0] from by rw [hy, hnn3]; rfl)
      have HYS := Lib.hid (show y.size = 26 by rw [hy]; rfl)
      have HY1 := Lib.hid (show y.all (·.oneCell') = true by rw [hy]; exact pk_one _ _)
      have hX : ThSays w S g s k q (.returned (.tuple #[.agg y, .nilIface])) (w3.setRow w.heap.size y) := by
        have e : thP k q = pkS k iv M [] [] [] := by rw [hq]; rfl
        refine ⟨paR a3 c3, .nilIface, by rw [e, hy]; rfl, fun B hB => ?_, by rw [hq]; exact ErrOf.none, ?_⟩
        · rw [e]
          exact (PkIn.ofS (hr3.pin (B' := B)) (by omega)).row r3 hB y
        · rw [hq]
          exact hn13.row r3 (Nat.le_refl _) y
      have HX := Lib.hid hX
      have HR := Lib.hid r3
      have HL := Lib.hid (setRow_blk r3 y)
      clear hX hr3 hn3 r3 hn13 hy hq hnn3 hcc3 HRD HQ2
      go_wp2_with (first | refine wpk_store HR.out HZS.out HYS.out HY1.out _ _ rfl rfl rfl (by rw [HYY.out]; rfl) ?_)
      exact bodyPost_ret (v := .tuple #[.agg y, .nilIface]) (res_pkt (i := 4) (j := 5) rfl rfl rfl HL.out HYS.out) rfl HX.out
    · rw [if_neg h2] at hq
      obtain ⟨t3, u3, rfl⟩ := err_iface he3 h2
      have hX : ThSays w S g s k q (.returned (.tuple #[.agg z, .iface t3 u3])) (w3.setRow w.heap.size z) := by
        have e : thP k q = pk0 := by rw [hq]; unfold thP; rw [if_neg h2]
        refine ⟨pa0, .iface t3 u3, by rw [e, HZ.out]; rfl, fun B _ => by rw [e]; exact PkIn.zero _ _, by rw [hq]; exact err_row he3 r3 z, ?_⟩
        rw [hq]
        exact hn13.row r3 (Nat.le_refl _) z
      have HX := Lib.hid hX
      have HR := Lib.hid r3
      have HL := Lib.hid (setRow_blk r3 z)
      clear hX hr3 hn3 r3 hn13 hq hnn3 hcc3 he3 HRD HQ2
      go_wp2_with (first | refine wpk_build HZ.out rfl rfl ?_ | refine wpk_store HR.out HZS.out HZS.out HZ1.out _ _ rfl rfl rfl rfl ?_)
      exact bodyPost_ret (v := .tuple #[.agg z, .iface t3 u3]) (res_pkt (i := 4) (j := 5) rfl rfl rfl HL.out HZS.out) rfl HX.out
  · rw [if_neg h0] at hq
    obtain ⟨t2, u2, rfl⟩ := err_iface he2 h0
    have hX : ThSays w S g s k q (.returned (.tuple #[.agg z, .iface t2 u2])) (w2.setRow w.heap.size z) := by
      have e : thP k q = pk0 := by rw [hq]; unfold thP; rw [if_neg h0]
      refine ⟨pa0, .iface t2 u2, by rw [e, HZ.out]; rfl, fun B _ => by rw [e]; exact PkIn.zero _ _, by rw [hq]; exact err_row he2 R2.out z, ?_⟩
      rw [hq]
      exact HN2.out.row R2.out (Nat.le_refl _) z
    have HX := Lib.hid hX
    have HL := Lib.hid (setRow_blk R2.out z)
    clear hX hq he2 HQ
    go_wp2_with (first | refine wpk_build HZ.out rfl rfl ?_ | refine wpk_store R2.out HZS.out HZS.out HZ1.out _ _ rfl rfl rfl rfl ?_)
    exact bodyPost_ret (v := .tuple #[.agg z, .iface t2 u2]) (res_pkt (i := 4) (j := 5) rfl rfl rfl HL.out HZS.out) rfl HX.out
end
section
variable {w w' : World} {S : Nat → Addr} {B g : Nat} {v : Value} {A : PkA} {p : Pk}
/-- What PutHead leaves. -/
def phR (p : Pk) : Er × EV := if (encR p.kind p.props).no = 0 then (e00, phW p) else (⟨(encR p.kind p.props).no, (encR p.kind p.props).r, (encR p.kind p.props).at_⟩, w0)
set_option maxHeartbeats 8000000 in
theorem ph_any (hE : Env w S) (h : WObj w S B g v w0) (hp : PkIn w w.heap.size A p) (hS : SmallP p.props) :
    Calls Tryz.prog 69 #[.pointer (some ⟨g, 0, none⟩), p.agg A] w (PtSays w S B g v (phR p)) := by
  obtain ⟨q, hq⟩ : ∃ q, q = phR p := ⟨_, rfl⟩
  rw [← hq]
  unfold phR phW at hq
  obtain ⟨c, hc⟩ : ∃ c, c = p.cells A := ⟨_, rfl⟩
  rw [show p.agg A = .agg c from by rw [hc]; rfl]
  have HCS := Lib.hid (show c.size = 26 by rw [hc]; rfl)
  have hc0 : c[0]? = some (.int .i64 p.kind) := by rw [hc]; rfl
  have hc1 : c[1]? = some (.int .i64 p.id) := by rw [hc]; rfl
  have hc3 : c[3]? = some (.slice A.pa p.props.length A.pc) := by rw [hc]; rfl
  obtain ⟨W1, hW1⟩ : ∃ W, W = w.alloc (.cells c 29) := ⟨_, rfl⟩
  have b1 : Below w.heap.size w W1 := by rw [hW1]; exact (Below.refl _ _).alloc (Nat.le_refl _) _
  have r1 : Blk W1 w.heap.size 29 c := by rw [hW1]; exact Blk.made _ _ _
  have k0 : W1.cell? ⟨w.heap.size, 0, none⟩ = some (.int .i64 p.kind) := (r1.cell 0).trans hc0
  have k3 : W1.cell? ⟨w.heap.size, 3, none⟩ = some (.slice A.pa p.props.length A.pc) := (r1.cell 3).trans hc3
  have hec := encode_any (hE.later b1) p.kind p.props.length A.pc rfl ((hp.pr.below b1).mono b1.size) hS hp.pc
  have hel := encR_len (k := p.kind) hS
  obtain ⟨⟨en, er, ea, eb⟩, hE2⟩ : ∃ E, E = encR p.kind p.props := ⟨_, rfl⟩
  rw [← hE2] at hec hel hq
  simp only at hec hel hq
  have HEC := Lib.hid hec
  have HEL := Lib.hid hel
  have HQ := Lib.hid hq
  have HB1 := Lib.hid b1
  have R1 := Lib.hid r1
  have HO1 := Lib.hid (h.step b1)
  have HE := Lib.hid (hE.later b1)
  have HC1 := Lib.hid hc1
  have HW1 := Lib.hid hW1
  rw [hW1] at k0 k3
  clear hq hc hc0 hc1 hc3 b1 r1 hec hel hE2 hE h hp hS hW1
  go_enter Tryz.func69, Tryz.ntmps69
  go_wp2_with (refine wpk_box HCS.out _ rfl rfl rfl ?_)
  rw [← HW1.out]
  refine HEC.out.mono ?_
  rintro x w2 ⟨e2, rfl, he2, hb2⟩
  simp only at he2 ⊢
  have HN2 := Lib.hid (HO1.out.below hb2)
  have r2 := R1.out.below hb2 R1.out.lt
  have R2 := Lib.hid r2
  have HE2 := Lib.hid (HE.out.later hb2)
  have hq := HQ.out
  clear k0 k3 hb2 HEC R1 HO1 HE HW1
  by_cases h0 : en = 0
  · rw [if_pos h0] at hq
    unfold ErrOf at he2
    rw [if_pos h0] at he2
    subst he2
    have k1 : w2.cell? ⟨w.heap.size, 1, none⟩ = some (.int .i64 p.id) := (r2.cell 1).trans HC1.out
    have HU := Lib.hid (wu16_any HE2.out HN2.out.obj (by decide) p.id)
    have HQ2 := Lib.hid hq
    clear hq h0 r2 HQ
    go_wp2_with fail
    refine HU.out.mono ?_
    rintro x w3 ⟨rfl, v3, hn3⟩
    have HN3 := Lib.hid (HN2.out.trans hn3)
    have HR := Lib.hid (wraw_any hn3.obj (by
      have h1 := stepW_len w0 (numE 2 p.id)
      have h2 := numE_len 2 p.id
      have h3 : w0.L.length = 0 := rfl
      omega) ⟨eb.toArray⟩ (by rw [bsize]; have := HEL.out; omega))
    clear k1 hn3 HU HN2
    go_wp2_with fail
    refine HR.out.mono ?_
    rintro x w4 ⟨rfl, v4, hn4⟩
    have HX := Lib.hid (show PtSays w S B g v q (.returned .nilIface) w4 from by
      rw [HQ2.out]
      exact ⟨_, _, rfl, ErrOf.none, HN3.out.trans hn4⟩)
    clear hn4 HR HN3 HQ2
    go_wp2_with fail
    go_ret
    exact HX.out
  · rw [if_neg h0] at hq
    obtain ⟨t2, u2, rfl⟩ := err_iface he2 h0
    have HX := Lib.hid (show PtSays w S B g v q (.returned (.iface t2 u2)) w2 from by
      rw [hq]
      exact ⟨_, _, rfl, he2, HN2.out⟩)
    clear hq he2 r2 HQ HN2
    go_wp2_with fail
    go_ret
    exact HX.out
end
end Go.Proofs.YtinhecggmakbnaaGreatDoor
namespace Go.Proofs.YtinhecggmakbnaaGreatDoor
set_option maxRecDepth 100000
open Go.ChangeShapes Go.WideShapes Go.RowKit Go.Deep Go.Extern.Stop Go.Stop Go.Extern
section
variable {z' w w' W W' : World} {S : Nat → Addr} {g : Nat} {s : ByteArray} {R : RV}
def FiSays (w : World) (S : Nat → Addr) (g : Nat) (s : ByteArray) (R : RV) (x : Ending) (w' : World) : Prop := ∃ e, x = .returned (.tuple #[.string (rText s R).1, e]) ∧ ErrOf w' S 129 (rText s R).2.no (rText s R).2.ea e ∧ RNext w w' S g s (rText s R).2
theorem fi_any (hE : Env z' S) (hz : Below z'.heap.size z' w) (hg : z'.heap.size ≤ g) (h : RObj w S g s R) (hs : s.size ≤ 900000) : Calls Tryz.prog 149 #[.pointer (some ⟨g, 0, none⟩)] w (FiSays w S g s R) := by
  have htx := rdtext_any (env_cl hE hz hg) h hs
  unfold FiSays
  generalize rText s R = q at *
  obtain ⟨t, R1⟩ := q
  simp only at htx ⊢
  have HT := Lib.hid htx
  clear htx hE hz hg h hs
  go_enter Tryz.func149, Tryz.ntmps149
  go_wp2_with fail
  refine HT.out.mono ?_
  rintro x w1 ⟨rfl, hn1⟩
  have HRE := Lib.hid (rerr_any hn1.obj)
  have HN := Lib.hid hn1
  clear hn1 HT
  go_wp2_with fail
  refine HRE.out.mono ?_
  rintro x w2 ⟨e, rfl, he, rfl⟩
  have HX := Lib.hid he
  clear he HRE
  go_wp2_with fail
  exact bodyPost_ret (v := .tuple #[.string t, e]) (by simp [results, Tryz.results149, go_sem]) rfl ⟨e, rfl, HX.out, HN.out⟩
/-- What Parts tells of texts. -/
def PtT (w : World) (S : Nat → Addr) (g : Nat) (s : ByteArray) (q : Er × List ByteArray) (x : Ending) (w' : World) : Prop :=
  ∃ v e, x = .returned (.tuple #[v, e]) ∧ T8Row w' w.heap.size v q.2 ∧ ErrOf w' S q.1.r q.1.no q.1.at_ e ∧ ∃ R', RNext w w' S g s R'
/-- What its loop holds. -/
structure PtIn (z' w W : World) (S : Nat → Addr) (g : Nat) (s : ByteArray) (R : RV) (u : Value) (L : List ByteArray) : Prop where
  rd : RObj W S g s R
  row : T8Row W w.heap.size u L
  bel : Below z'.heap.size z' W
  fr : Fr [g] w W
  gz : z'.heap.size ≤ g
  glt : g < w.heap.size
  zw : z'.heap.size ≤ w.heap.size
section
variable {u u' : Value} {L L' : List ByteArray} {R' : RV}
theorem PtIn.below (h : PtIn z' w W S g s R u L) (hb : Below W.heap.size W W') : PtIn z' w W' S g s R u L :=
  ⟨h.rd.below hb, h.row.below hb, h.bel.trans (hb.mono h.bel.size), h.fr.trans (Y := []) (Fr.of_below hb) (fun k hk => by cases hk), h.gz, h.glt, h.zw⟩
theorem PtIn.step (h : PtIn z' w W S g s R u L) (hn : RNext W W' S g s R') : PtIn z' w W' S g s R' u L := by
  refine ⟨hn.obj, h.row.fr hn.fr fun k hk hm => ?_, hn.later h.gz h.bel.size h.bel, h.fr.trans hn.fr fun k hk _ => hk, h.gz, h.glt, h.zw⟩
  rw [List.mem_singleton] at hm
  subst hm
  have := (h.row.lt k hk).1
  have := h.glt
  omega
theorem PtIn.app (h : PtIn z' w W S g s R u L) (hn : T8Next W W' w.heap.size u u' L') : PtIn z' w W' S g s R u' L' := by
  have hf : Fr u.ownBlock.toList W W' := (Fr.refl _ W).grown hn.grown fun k hk => .inl (own_list.2 hk)
  refine ⟨h.rd.fr hf (fun hm => ?_) h.row.nof, hn.row, hf.later h.bel (fun b hm => ?_) h.bel.size, h.fr.trans hf fun k hk hlt => ?_, h.gz, h.glt, h.zw⟩
  · have := (h.row.lt _ (own_list.1 hm)).1
    have := h.glt
    omega
  · have := (h.row.lt b (own_list.1 hm)).1
    have := h.zw
    omega
  · have := (h.row.lt k (own_list.1 hk)).1
    omega
end
set_option maxHeartbeats 8000000 in
theorem partsT_any (hE : Env z' S) (hz : Below z'.heap.size z' w) (hg : z'.heap.size ≤ g) (ho : RObj w S g s R) (h0 : R.no = 0) (hs : s.size ≤ 900000) :
    Calls Tryz.prog 148 #[.pointer (some ⟨g, 0, none⟩), .func (.func 149) #[] #[]] w (PtT w S g s (ptL (rdT s) s 32 [] R)) := by
  obtain ⟨q, hq⟩ : ∃ q, q = ptL (rdT s) s 32 [] R := ⟨_, rfl⟩
  rw [← hq]
  have HE := Lib.hid hE
  have HI0 := Lib.hid (show PtIn z' w w S g s R (.slice none 0 0) [] from ⟨ho, T8Row.nil _ _, hz, Fr.refl _ _, hg, ho.lt, hz.size⟩)
  have HQ := Lib.hid hq
  have HSZ := Lib.hid hs
  have HFI := Lib.hid (fun (W : World) (R1 : RV) (hb : Below z'.heap.size z' W) (ho : RObj W S g s R1) => fi_any hE hb hg ho hs)
  have H00 := Lib.hid h0
  clear hE hz hg ho hs hq h0
  go_enter Tryz.func148, Tryz.ntmps148
  go_wp2_with fail
  go_loopg [6] 33 (fun f u wr => ∃ (L : List ByteArray) (Rt : RV), f + L.length = 33 ∧ 0 < f ∧ Rt.no = 0 ∧ Hid (PtIn z' w wr S g s Rt u L ∧ q = ptL (rdT s) s (f - 1) L Rt))
  case atStart => exact ⟨[], R, rfl, by decide, H00.out, Lib.hid ⟨HI0.out, HQ.out⟩⟩
  case round =>
    obtain ⟨L, Rt, hf, hf0, hno, HJ⟩ := hrel
    obtain ⟨hi, hqq⟩ := HJ.out
    obtain ⟨av, nv, cv, rfl, hnv, hcap⟩ := hi.row.some_form
    have hL32 : L.length ≤ 32 := by omega
    subst hnv
    have HI := Lib.hid hi
    have HL := Lib.hid (rleft_any hi.rd (by have := HSZ.out; omega))
    obtain ⟨lf, hlf⟩ : ∃ lf, lf = s.size - Rt.p := ⟨_, rfl⟩
    rw [← hlf] at HL
    obtain ⟨f, rfl⟩ : ∃ f, gk = f + 1 := ⟨gk - 1, by omega⟩
    rw [show f + 1 - 1 = f from rfl] at hqq
    by_cases hend : s.size ≤ Rt.p
    · obtain rfl : lf = 0 := by omega
      have hq2 : q = if L.length = 0 then (⟨3, 130, Rt.p⟩, []) else (e00, L) := by
        cases f <;> (unfold ptL at hqq; rw [if_pos hend] at hqq; exact hqq)
      have HQ2 := Lib.hid hq2
      clear hqq hi HJ HI0 HQ hlf hend hq2
      go_wp2_with fail
      refine HL.out.mono ?_
      rintro x w4 ⟨rfl, hb4⟩
      have HI4 := Lib.hid (HI.out.below hb4)
      clear hb4 HI HL
      by_cases hl0 : L.length = 0
      · have hq2 := HQ2.out
        rw [if_pos hl0] at hq2
        have HQ3 := Lib.hid hq2
        obtain ⟨pp, hpp⟩ : ∃ pp, pp = Rt.p := ⟨_, rfl⟩
        rw [← hpp] at HQ3
        have HPP := Lib.hid hpp
        have HN := Lib.hid (fun W : World => new_err (w := W) S 2 130 (pp : Int))
        clear hq2 HQ2 hpp
        go_wp2_with fail
        refine wp_region_held_drew (S := fun W => PtIn z' w W S g s Rt (.slice av L.length cv) L) (by kernel_rfl) ?_ (fun hHeld => ?_)
        · exact HI4.out.below (below_drewN (Below.refl _ _) 1)
        refine wpAnyH_take (i := 0) (oi := { dst := some 35, op := Op.move (Operand.tmp 0), type := 103, pos := _, after := _, guard := none }) (v := .pointer (some ⟨g, 0, none⟩)) rfl (by kernel_rfl) (by kernel_rfl) (by kernel_rfl) (fun _ _ _ h => h) (Or.inl ⟨by rfl, fun w' hs => ?_⟩) (by assumption) ?_
        · go_simp
        simp only [Act.put, List.setIfInBounds_toArray, List.set_cons_zero, List.set_cons_succ]
        refine wpAnyH_take (i := 2) (oi := { dst := some 37, op := Op.load 35 (Operand.global 3), type := 35, pos := _, after := _, guard := none }) (v := .iface 234 (.pointer (some (S 2)))) rfl (by kernel_rfl) (by kernel_rfl) (by kernel_rfl) (fun _ _ _ h => h) (Or.inl ⟨by rfl, fun w' hs => ?_⟩) (by assumption) ?_
        · have kk := (HE.out.later hs.bel).kProtocol
          go_simp
        simp only [Act.put, List.setIfInBounds_toArray, List.set_cons_zero, List.set_cons_succ]
        refine wpAnyH_ready (rs := [1]) (by kernel_rfl) (by simp) ?_
        refine AllReadyH.cons (o := { dst := some 36, op := Op.call { callee := Callee.value (Operand.func 165), args := #[Operand.tmp 35], argTypes := #[103] }, type := 3, pos := _, after := _, guard := none }) rfl (fun K hK => ?_) AllReadyH.nil
        go_simp
        have hat := rat_any hHeld.rd
        rw [← HPP.out] at hat
        refine hat.mono ?_
        rintro x w5 ⟨rfl, rfl⟩
        go_wp2_with fail
        refine hK.out _ _ ?_ (fun hHeld5 => ?_)
        · exact hHeld
        clear hK K
        try simp only [Act.put, List.setIfInBounds_toArray, List.set_cons_zero, List.set_cons_succ]
        refine wpAnyH_ready (rs := [3]) (by kernel_rfl) (by simp) ?_
        refine AllReadyH.cons (o := { dst := some 38, op := Op.call { callee := Callee.value (Operand.func 64), args := #[Operand.const (Value.int IntKind.i64 130), Operand.tmp 36, Operand.tmp 37], argTypes := #[3, 3, 35] }, type := 35, pos := _, after := _, guard := none }) rfl (fun K hK => ?_) AllReadyH.nil
        go_simp
        refine (HN.out _).mono ?_
        rintro x w6 ⟨e, rfl, he, hb⟩
        have hi6 := hHeld5.below hb
        go_wp2_with fail
        refine hK.out _ _ ?_ (fun hHeld6 => ?_)
        · exact hi6
        clear hK K
        try simp only [Act.put, List.setIfInBounds_toArray, List.set_cons_zero, List.set_cons_succ]
        refine wpAnyH_take (i := 4) (oi := { dst := some 4, op := Op.assign (Operand.const (Value.slice none 0 0)), type := 26, pos := _, after := _, guard := none }) (v := .slice none 0 0) rfl (by kernel_rfl) (by kernel_rfl) (by kernel_rfl) (fun _ _ _ h => h) (Or.inl ⟨by rfl, fun w' hs => ?_⟩) (by assumption) ?_
        · go_simp
        simp only [Act.put, List.setIfInBounds_toArray, List.set_cons_zero, List.set_cons_succ]
        refine wpAnyH_take (i := 5) (oi := { dst := some 5, op := Op.assign (Operand.tmp 38), type := 35, pos := _, after := _, guard := none }) (v := e) rfl (by kernel_rfl) (by kernel_rfl) (by kernel_rfl) (fun _ _ _ h => h) (Or.inl ⟨by rfl, fun w' hs => ?_⟩) (by assumption) ?_
        · go_simp
        simp only [Act.put, List.setIfInBounds_toArray, List.set_cons_zero, List.set_cons_succ]
        have HX := Lib.hid (show PtT w S g s q (.returned (.tuple #[.slice none 0 0, e])) w6 from by
          rw [HQ3.out]
          exact ⟨_, _, rfl, T8Row.nil _ _, ErrOf.some (no := 3) (by decide) (by decide) he, _, hi6.rd, hi6.fr⟩)
        clear he hb hi6 hHeld hHeld5 hHeld6 hat
        refine wpAnyH_done (by kernel_rfl) ?_ _
        go_wp2_with fail
        exact bodyPost_ret (v := .tuple #[.slice none 0 0, e]) (by simp [results, Tryz.results148, go_sem]) rfl HX.out
      · have hq2 := HQ2.out
        rw [if_neg hl0] at hq2
        have HX := Lib.hid (show PtT w S g s q (.returned (.tuple #[.slice av L.length cv, .nilIface])) w4 from by
          rw [hq2]
          exact ⟨_, _, rfl, HI4.out.row, ErrOf.none, _, HI4.out.rd, HI4.out.fr⟩)
        clear hq2 HQ2
        go_wp2_with fail
        exact bodyPost_ret (v := .tuple #[.slice av L.length cv, .nilIface]) (by simp [results, Tryz.results148, go_sem]) rfl HX.out
    · have hlf0 : 0 < (lf : Int) := by omega
      have hlfn : 0 < lf := by omega
      have HQ0 := Lib.hid hqq
      clear hi hqq HJ HI0 HQ hlf
      go_wp2_with fail
      refine HL.out.mono ?_
      rintro x w4 ⟨rfl, hb4⟩
      have HI4 := Lib.hid (HI.out.below hb4)
      clear hb4 HI HL
      by_cases hl32 : L.length = 32
      · have hq2 := HQ0.out
        obtain rfl : f = 0 := by omega
        unfold ptL at hq2
        rw [if_neg hend] at hq2
        have HQ3 := Lib.hid hq2
        have hli : (L.length : Int) = 32 := by omega
        obtain ⟨pp, hpp⟩ : ∃ pp, pp = Rt.p := ⟨_, rfl⟩
        rw [← hpp] at HQ3
        have HPP := Lib.hid hpp
        have HN := Lib.hid (fun W : World => new_err (w := W) S 3 149 (pp : Int))
        clear hq2 HQ0 hpp hend
        go_wp2_with fail
        refine wp_region_held_drew (S := fun W => PtIn z' w W S g s Rt (.slice av L.length cv) L) (by kernel_rfl) ?_ (fun hHeld => ?_)
        · exact HI4.out.below (below_drewN (Below.refl _ _) 1)
        refine wpAnyH_take (i := 0) (oi := { dst := some 15, op := Op.move (Operand.tmp 0), type := 103, pos := _, after := _, guard := none }) (v := .pointer (some ⟨g, 0, none⟩)) rfl (by kernel_rfl) (by kernel_rfl) (by kernel_rfl) (fun _ _ _ h => h) (Or.inl ⟨by rfl, fun w' hs => ?_⟩) (by assumption) ?_
        · go_simp
        simp only [Act.put, List.setIfInBounds_toArray, List.set_cons_zero, List.set_cons_succ]
        refine wpAnyH_take (i := 2) (oi := { dst := some 17, op := Op.load 35 (Operand.global 4), type := 35, pos := _, after := _, guard := none }) (v := .iface 234 (.pointer (some (S 3)))) rfl (by kernel_rfl) (by kernel_rfl) (by kernel_rfl) (fun _ _ _ h => h) (Or.inl ⟨by rfl, fun w' hs => ?_⟩) (by assumption) ?_
        · have kk := (HE.out.later hs.bel).kTooLarge
          go_simp
        simp only [Act.put, List.setIfInBounds_toArray, List.set_cons_zero, List.set_cons_succ]
        refine wpAnyH_ready (rs := [1]) (by kernel_rfl) (by simp) ?_
        refine AllReadyH.cons (o := { dst := some 16, op := Op.call { callee := Callee.value (Operand.func 165), args := #[Operand.tmp 15], argTypes := #[103] }, type := 3, pos := _, after := _, guard := none }) rfl (fun K hK => ?_) AllReadyH.nil
        go_simp
        have hat := rat_any hHeld.rd
        rw [← HPP.out] at hat
        refine hat.mono ?_
        rintro x w5 ⟨rfl, rfl⟩
        go_wp2_with fail
        refine hK.out _ _ ?_ (fun hHeld5 => ?_)
        · exact hHeld
        clear hK K
        try simp only [Act.put, List.setIfInBounds_toArray, List.set_cons_zero, List.set_cons_succ]
        refine wpAnyH_ready (rs := [3]) (by kernel_rfl) (by simp) ?_
        refine AllReadyH.cons (o := { dst := some 18, op := Op.call { callee := Callee.value (Operand.func 64), args := #[Operand.const (Value.int IntKind.i64 149), Operand.tmp 16, Operand.tmp 17], argTypes := #[3, 3, 35] }, type := 35, pos := _, after := _, guard := none }) rfl (fun K hK => ?_) AllReadyH.nil
        go_simp
        refine (HN.out _).mono ?_
        rintro x w6 ⟨e, rfl, he, hb⟩
        have hi6 := hHeld5.below hb
        go_wp2_with fail
        refine hK.out _ _ ?_ (fun hHeld6 => ?_)
        · exact hi6
        clear hK K
        try simp only [Act.put, List.setIfInBounds_toArray, List.set_cons_zero, List.set_cons_succ]
        refine wpAnyH_take (i := 4) (oi := { dst := some 4, op := Op.assign (Operand.const (Value.slice none 0 0)), type := 26, pos := _, after := _, guard := none }) (v := .slice none 0 0) rfl (by kernel_rfl) (by kernel_rfl) (by kernel_rfl) (fun _ _ _ h => h) (Or.inl ⟨by rfl, fun w' hs => ?_⟩) (by assumption) ?_
        · go_simp
        simp only [Act.put, List.setIfInBounds_toArray, List.set_cons_zero, List.set_cons_succ]
        refine wpAnyH_take (i := 5) (oi := { dst := some 5, op := Op.assign (Operand.tmp 18), type := 35, pos := _, after := _, guard := none }) (v := e) rfl (by kernel_rfl) (by kernel_rfl) (by kernel_rfl) (fun _ _ _ h => h) (Or.inl ⟨by rfl, fun w' hs => ?_⟩) (by assumption) ?_
        · go_simp
        simp only [Act.put, List.setIfInBounds_toArray, List.set_cons_zero, List.set_cons_succ]
        have HX := Lib.hid (show PtT w S g s q (.returned (.tuple #[.slice none 0 0, e])) w6 from by
          rw [HQ3.out]
          exact ⟨_, _, rfl, T8Row.nil _ _, ErrOf.some (no := 4) (by decide) (by decide) he, _, hi6.rd, hi6.fr⟩)
        clear he hb hi6 hHeld hHeld5 hHeld6 hat
        refine wpAnyH_done (by kernel_rfl) ?_ _
        go_wp2_with fail
        exact bodyPost_ret (v := .tuple #[.slice none 0 0, e]) (by simp [results, Tryz.results148, go_sem]) rfl HX.out
      · obtain ⟨f', rfl⟩ : ∃ f', f = f' + 1 := ⟨f - 1, by omega⟩
        have hq2 := HQ0.out
        rw [ptL, if_neg hend] at hq2
        have hli : ¬ (L.length : Int) = 32 := by omega
        have hfi := HFI.out _ Rt HI4.out.bel HI4.out.rd
        unfold FiSays at hfi
        unfold rdT at hq2
        obtain ⟨⟨t, R1⟩, ht⟩ : ∃ V, V = rText s Rt := ⟨_, rfl⟩
        rw [← ht] at hfi hq2
        simp only at hfi hq2
        have HF2 := Lib.hid hfi
        have HQ3 := Lib.hid hq2
        clear hfi hq2 ht HQ0 hend
        go_wp2_with fail
        refine HF2.out.mono ?_
        rintro x w5 ⟨e5, rfl, he5, hn5⟩
        have HI5 := Lib.hid (HI4.out.step hn5)
        clear hn5 HF2 HI4
        by_cases h1 : R1.no = 0
        · have hq2 := HQ3.out
          rw [if_pos h1] at hq2
          rw [if_pos (show e00.no = 0 from rfl)] at hq2
          unfold ErrOf at he5
          rw [if_pos h1] at he5
          subst he5
          simp only at hq2
          have HQ4 := Lib.hid hq2
          have HS6 := Lib.hid HI5.out.fr.size
          have HDL := Lib.hid (show L.length ≤ 1000 from by omega)
          clear hq2 HQ3
          go_wp2_with (at_builtin; go_must (refine T8_append t rfl _ _ rfl HI5.out.row HS6.out rfl w5.heap.size 1 rfl rfl HDL.out rfl ?_))
          intro v7 w7 hn7
          have HI7 := Lib.hid (HI5.out.app hn7)
          clear hn7
          go_wp2_with fail
          go_roundg (f' + 1)
          case rel => exact ⟨L ++ [t], R1, by rw [List.length_append, List.length_singleton]; omega, by omega, h1, Lib.hid ⟨HI7.out, HQ4.out⟩⟩
          case measure => omega
        · have hq2 := HQ3.out
          rw [if_neg h1] at hq2
          rw [if_neg (show ¬ R1.no = 0 from h1)] at hq2
          obtain ⟨t5, u5', rfl⟩ := err_iface he5 h1
          have HX := Lib.hid (show PtT w S g s q (.returned (.tuple #[.slice none 0 0, .iface t5 u5'])) w5 from by
            rw [hq2]
            exact ⟨_, _, rfl, T8Row.nil _ _, he5, _, HI5.out.rd, HI5.out.fr⟩)
          clear hq2 he5 HQ3
          go_wp2_with fail
          exact bodyPost_ret (v := .tuple #[.slice none 0 0, .iface t5 u5']) (by simp [results, Tryz.results148, go_sem]) rfl HX.out
end
end Go.Proofs.YtinhecggmakbnaaGreatDoor
namespace Go.Proofs.YtinhecggmakbnaaGreatDoor
set_option maxRecDepth 100000
open Go.ChangeShapes Go.WideShapes Go.RowKit Go.Deep Go.Extern.Stop Go.Stop Go.Extern
section
variable {z' w w' W W' : World} {S : Nat → Addr} {g kb : Nat} {s : ByteArray} {R : RV} {k : Int}
def CcSays (w : World) (S : Nat → Addr) (g : Nat) (s : ByteArray) (q : Er × Int × RV) (x : Ending) (w' : World) : Prop := ∃ e, x = .returned (.tuple #[.int .i64 q.2.1, e]) ∧ ErrOf w' S q.1.r q.1.no q.1.at_ e ∧ RNext w w' S g s q.2.2
set_option maxHeartbeats 4000000 in
theorem cc_any (hE : Env z' S) (hz : Below z'.heap.size z' w) (hg : z'.heap.size ≤ g) (h : RObj w S g s R) (_h0 : R.no = 0) (hx : Blk w kb 3 #[.int .i64 k]) (hs : s.size ≤ 900000) : Calls Tryz.prog 192 #[.pointer (some ⟨g, 0, none⟩), .pointer (some ⟨kb, 0, none⟩)] w (CcSays w S g s (rdC k s R)) := by
  obtain ⟨q, hq⟩ : ∃ q, q = rdC k s R := ⟨_, rfl⟩
  rw [← hq]
  unfold rdC at hq
  have HAT := Lib.hid (rat_any h)
  have hu := ru8_any (hE.later hz) h (by omega)
  obtain ⟨⟨n, R1⟩, hn⟩ : ∃ V, V = rNum s 1 R := ⟨_, rfl⟩
  rw [← hn] at hu hq
  simp only at hu hq
  have HU := Lib.hid hu
  have HQ := Lib.hid hq
  have HE := Lib.hid hE
  have HZ := Lib.hid hz
  have HX := Lib.hid hx
  have HNE := Lib.hid (show kb ≠ g from fun hh => by
    obtain ⟨e, h1, _⟩ := h.blk
    exact hx.other h1 (by decide) hh)
  obtain ⟨p, hp⟩ : ∃ p, p = R.p := ⟨_, rfl⟩
  rw [← hp] at HAT HQ
  clear hu hq hE hz h hs hn hp hx
  go_enter Tryz.func192, Tryz.ntmps192
  go_wp2_with fail
  refine HAT.out.mono ?_
  rintro x w1 ⟨rfl, rfl⟩
  go_wp2_with fail
  refine HU.out.mono ?_
  rintro x w2 ⟨rfl, hn2⟩
  have HN2 := Lib.hid hn2
  have HZ2 := Lib.hid (hn2.later hg HZ.out.size HZ.out)
  have x2 := HX.out.fr hn2.fr (fun hm => by rw [List.mem_singleton] at hm; exact HNE.out hm)
  have c0 := x2.cell 0
  have c0' : w2.cell? ⟨kb, 0, none⟩ = some (.int .i64 k) := c0
  clear c0 x2 hn2 HU HAT
  have HAL := Lib.hid (rs_allowed k n w2)
  go_wp2_with fail
  refine HAL.out.mono ?_
  rintro x w3 ⟨rfl, rfl⟩
  have hq := HQ.out
  by_cases ha : allowedB k n = true
  · rw [if_pos ha] at hq
    rw [ha]
    have HX2 := Lib.hid (show CcSays w S g s q (.returned (.tuple #[.int .i64 n, .nilIface])) w2 from by
      rw [hq]
      exact ⟨_, rfl, ErrOf.none, HN2.out⟩)
    clear hq HQ ha HAL c0'
    go_wp2_with fail
    exact bodyPost_ret (v := .tuple #[.int .i64 n, .nilIface]) (by simp [results, Tryz.results192, go_sem]) rfl HX2.out
  · rw [if_neg ha] at hq
    have haf : allowedB k n = false := by simpa using ha
    rw [haf]
    have HQ2 := Lib.hid hq
    have kM := (HE.out.later HZ2.out).kMalformed
    have HNW := Lib.hid (new_err (w := w2) S 1 129 (p : Int))
    clear hq HQ ha haf HAL c0'
    go_wp2_with fail
    refine HNW.out.mono ?_
    rintro x w4 ⟨e, rfl, he, hb⟩
    have HX2 := Lib.hid (show CcSays w S g s q (.returned (.tuple #[.int .i64 0, e])) w4 from by
      rw [HQ2.out]
      exact ⟨_, rfl, ErrOf.some (no := 2) (by decide) (by decide) he, HN2.out.below hb⟩)
    clear he hb HNW kM
    go_wp2_with fail
    exact bodyPost_ret (v := .tuple #[.int .i64 0, e]) (by simp [results, Tryz.results192, go_sem]) rfl HX2.out
/-- What Parts tells of codes. -/
def PtC (w : World) (S : Nat → Addr) (g : Nat) (s : ByteArray) (q : Er × List Int) (x : Ending) (w' : World) : Prop :=
  ∃ v e, x = .returned (.tuple #[v, e]) ∧ I8Row w' w.heap.size v q.2 ∧ ErrOf w' S q.1.r q.1.no q.1.at_ e ∧ ∃ R', RNext w w' S g s R'
/-- What its loop holds. -/
structure PcIn (z' w W : World) (S : Nat → Addr) (g kb : Nat) (k : Int) (s : ByteArray) (R : RV) (u : Value) (L : List Int) : Prop where
  rd : RObj W S g s R
  row : I8Row W w.heap.size u L
  bel : Below z'.heap.size z' W
  fr : Fr [g] w W
  gz : z'.heap.size ≤ g
  glt : g < w.heap.size
  bx : Blk W kb 3 #[.int .i64 k]
  blt : kb < w.heap.size
  zw : z'.heap.size ≤ w.heap.size
section
variable {u u' : Value} {L L' : List Int} {R' : RV}
theorem PcIn.below (h : PcIn z' w W S g kb k s R u L) (hb : Below W.heap.size W W') : PcIn z' w W' S g kb k s R u L :=
  ⟨h.rd.below hb, h.row.below hb, h.bel.trans (hb.mono h.bel.size), h.fr.trans (Y := []) (Fr.of_below hb) (fun k hk => by cases hk), h.gz, h.glt, h.bx.below hb h.bx.lt, h.blt, h.zw⟩
theorem PcIn.step (h : PcIn z' w W S g kb k s R u L) (hn : RNext W W' S g s R') : PcIn z' w W' S g kb k s R' u L := by
  refine ⟨hn.obj, h.row.fr hn.fr fun k hk hm => ?_, hn.later h.gz h.bel.size h.bel, h.fr.trans hn.fr fun k hk _ => hk, h.gz, h.glt, h.bx.fr hn.fr (fun hm => by
    rw [List.mem_singleton] at hm
    obtain ⟨e, h1, _⟩ := h.rd.blk
    exact h.bx.other h1 (by decide) hm), h.blt, h.zw⟩
  rw [List.mem_singleton] at hm
  subst hm
  have := (h.row.lt k hk).1
  have := h.glt
  omega
theorem PcIn.app (h : PcIn z' w W S g kb k s R u L) (hn : I8Next W W' w.heap.size u u' L') : PcIn z' w W' S g kb k s R u' L' := by
  have hf : Fr u.ownBlock.toList W W' := (Fr.refl _ W).grown hn.grown fun k hk => .inl (own_list.2 hk)
  refine ⟨h.rd.fr hf (fun hm => ?_) h.row.nof, hn.row, hf.later h.bel (fun b hm => ?_) h.bel.size, h.fr.trans hf fun k hk hlt => ?_, h.gz, h.glt, h.bx.fr hf (fun hm => by
    have := (h.row.lt _ (own_list.1 hm)).1
    have := h.blt
    omega), h.blt, h.zw⟩
  · have := (h.row.lt _ (own_list.1 hm)).1
    have := h.glt
    omega
  · have := (h.row.lt b (own_list.1 hm)).1
    have := h.zw
    omega
  · have := (h.row.lt k (own_list.1 hk)).1
    omega
end
set_option maxHeartbeats 8000000 in
theorem partsC_any (hE : Env z' S) (hz : Below z'.heap.size z' w) (hg : z'.heap.size ≤ g) (ho : RObj w S g s R) (hbx : Blk w kb 3 #[.int .i64 k]) (h0 : R.no = 0) (hs : s.size ≤ 900000) :
    Calls Tryz.prog 191 #[.pointer (some ⟨g, 0, none⟩), .func (.func 192) #[] #[.pointer (some ⟨kb, 0, none⟩)]] w (PtC w S g s (ptL (rdC k s) s 32 [] R)) := by
  obtain ⟨q, hq⟩ : ∃ q, q = ptL (rdC k s) s 32 [] R := ⟨_, rfl⟩
  rw [← hq]
  have HE := Lib.hid hE
  have HI0 := Lib.hid (show PcIn z' w w S g kb k s R (.slice none 0 0) [] from ⟨ho, I8Row.nil _ _, hz, Fr.refl _ _, hg, ho.lt, hbx, hbx.lt, hz.size⟩)
  have HQ := Lib.hid hq
  have HSZ := Lib.hid hs
  have HFI := Lib.hid (fun (W : World) (R1 : RV) (hb : Below z'.heap.size z' W) (ho : RObj W S g s R1) (h0 : R1.no = 0) (hx : Blk W kb 3 #[.int .i64 k]) => cc_any hE hb hg ho h0 hx hs)
  have H00 := Lib.hid h0
  clear hE hz hg ho hs hq h0 hbx
  go_enter Tryz.func191, Tryz.ntmps191
  go_wp2_with fail
  go_loopg [6] 33 (fun f u wr => ∃ (L : List Int) (Rt : RV), f + L.length = 33 ∧ 0 < f ∧ Rt.no = 0 ∧ Hid (PcIn z' w wr S g kb k s Rt u L ∧ q = ptL (rdC k s) s (f - 1) L Rt))
  case atStart => exact ⟨[], R, rfl, by decide, H00.out, Lib.hid ⟨HI0.out, HQ.out⟩⟩
  case round =>
    obtain ⟨L, Rt, hf, hf0, hno, HJ⟩ := hrel
    obtain ⟨hi, hqq⟩ := HJ.out
    obtain ⟨av, nv, cv, rfl, hnv, hcap⟩ := hi.row.some_form
    have hL32 : L.length ≤ 32 := by omega
    subst hnv
    have HI := Lib.hid hi
    have HL := Lib.hid (rleft_any hi.rd (by have := HSZ.out; omega))
    obtain ⟨lf, hlf⟩ : ∃ lf, lf = s.size - Rt.p := ⟨_, rfl⟩
    rw [← hlf] at HL
    obtain ⟨f, rfl⟩ : ∃ f, gk = f + 1 := ⟨gk - 1, by omega⟩
    rw [show f + 1 - 1 = f from rfl] at hqq
    by_cases hend : s.size ≤ Rt.p
    · obtain rfl : lf = 0 := by omega
      have hq2 : q = if L.length = 0 then (⟨3, 130, Rt.p⟩, []) else (e00, L) := by
        cases f <;> (unfold ptL at hqq; rw [if_pos hend] at hqq; exact hqq)
      have HQ2 := Lib.hid hq2
      clear hqq hi HJ HI0 HQ hlf hend hq2
      go_wp2_with fail
      refine HL.out.mono ?_
      rintro x w4 ⟨rfl, hb4⟩
      have HI4 := Lib.hid (HI.out.below hb4)
      clear hb4 HI HL
      by_cases hl0 : L.length = 0
      · have hq2 := HQ2.out
        rw [if_pos hl0] at hq2
        have HQ3 := Lib.hid hq2
        obtain ⟨pp, hpp⟩ : ∃ pp, pp = Rt.p := ⟨_, rfl⟩
        rw [← hpp] at HQ3
        have HPP := Lib.hid hpp
        have HN := Lib.hid (fun W : World => new_err (w := W) S 2 130 (pp : Int))
        clear hq2 HQ2 hpp
        go_wp2_with fail
        refine wp_region_held_drew (S := fun W => PcIn z' w W S g kb k s Rt (.slice av L.length cv) L) (by kernel_rfl) ?_ (fun hHeld => ?_)
        · exact HI4.out.below (below_drewN (Below.refl _ _) 1)
        refine wpAnyH_take (i := 0) (oi := { dst := some 35, op := Op.move (Operand.tmp 0), type := 103, pos := _, after := _, guard := none }) (v := .pointer (some ⟨g, 0, none⟩)) rfl (by kernel_rfl) (by kernel_rfl) (by kernel_rfl) (fun _ _ _ h => h) (Or.inl ⟨by rfl, fun w' hs => ?_⟩) (by assumption) ?_
        · go_simp
        simp only [Act.put, List.setIfInBounds_toArray, List.set_cons_zero, List.set_cons_succ]
        refine wpAnyH_take (i := 2) (oi := { dst := some 37, op := Op.load 35 (Operand.global 3), type := 35, pos := _, after := _, guard := none }) (v := .iface 234 (.pointer (some (S 2)))) rfl (by kernel_rfl) (by kernel_rfl) (by kernel_rfl) (fun _ _ _ h => h) (Or.inl ⟨by rfl, fun w' hs => ?_⟩) (by assumption) ?_
        · have kk := (HE.out.later hs.bel).kProtocol
          go_simp
        simp only [Act.put, List.setIfInBounds_toArray, List.set_cons_zero, List.set_cons_succ]
        refine wpAnyH_ready (rs := [1]) (by kernel_rfl) (by simp) ?_
        refine AllReadyH.cons (o := { dst := some 36, op := Op.call { callee := Callee.value (Operand.func 165), args := #[Operand.tmp 35], argTypes := #[103] }, type := 3, pos := _, after := _, guard := none }) rfl (fun K hK => ?_) AllReadyH.nil
        go_simp
        have hat := rat_any hHeld.rd
        rw [← HPP.out] at hat
        refine hat.mono ?_
        rintro x w5 ⟨rfl, rfl⟩
        go_wp2_with fail
        refine hK.out _ _ ?_ (fun hHeld5 => ?_)
        · exact hHeld
        clear hK K
        try simp only [Act.put, List.setIfInBounds_toArray, List.set_cons_zero, List.set_cons_succ]
        refine wpAnyH_ready (rs := [3]) (by kernel_rfl) (by simp) ?_
        refine AllReadyH.cons (o := { dst := some 38, op := Op.call { callee := Callee.value (Operand.func 64), args := #[Operand.const (Value.int IntKind.i64 130), Operand.tmp 36, Operand.tmp 37], argTypes := #[3, 3, 35] }, type := 35, pos := _, after := _, guard := none }) rfl (fun K hK => ?_) AllReadyH.nil
        go_simp
        refine (HN.out _).mono ?_
        rintro x w6 ⟨e, rfl, he, hb⟩
        have hi6 := hHeld5.below hb
        go_wp2_with fail
        refine hK.out _ _ ?_ (fun hHeld6 => ?_)
        · exact hi6
        clear hK K
        try simp only [Act.put, List.setIfInBounds_toArray, List.set_cons_zero, List.set_cons_succ]
        refine wpAnyH_take (i := 4) (oi := { dst := some 4, op := Op.assign (Operand.const (Value.slice none 0 0)), type := 27, pos := _, after := _, guard := none }) (v := .slice none 0 0) rfl (by kernel_rfl) (by kernel_rfl) (by kernel_rfl) (fun _ _ _ h => h) (Or.inl ⟨by rfl, fun w' hs => ?_⟩) (by assumption) ?_
        · go_simp
        simp only [Act.put, List.setIfInBounds_toArray, List.set_cons_zero, List.set_cons_succ]
        refine wpAnyH_take (i := 5) (oi := { dst := some 5, op := Op.assign (Operand.tmp 38), type := 35, pos := _, after := _, guard := none }) (v := e) rfl (by kernel_rfl) (by kernel_rfl) (by kernel_rfl) (fun _ _ _ h => h) (Or.inl ⟨by rfl, fun w' hs => ?_⟩) (by assumption) ?_
        · go_simp
        simp only [Act.put, List.setIfInBounds_toArray, List.set_cons_zero, List.set_cons_succ]
        have HX := Lib.hid (show PtC w S g s q (.returned (.tuple #[.slice none 0 0, e])) w6 from by
          rw [HQ3.out]
          exact ⟨_, _, rfl, I8Row.nil _ _, ErrOf.some (no := 3) (by decide) (by decide) he, _, hi6.rd, hi6.fr⟩)
        clear he hb hi6 hHeld hHeld5 hHeld6 hat
        refine wpAnyH_done (by kernel_rfl) ?_ _
        go_wp2_with fail
        exact bodyPost_ret (v := .tuple #[.slice none 0 0, e]) (by simp [results, Tryz.results191, go_sem]) rfl HX.out
      · have hq2 := HQ2.out
        rw [if_neg hl0] at hq2
        have HX := Lib.hid (show PtC w S g s q (.returned (.tuple #[.slice av L.length cv, .nilIface])) w4 from by
          rw [hq2]
          exact ⟨_, _, rfl, HI4.out.row, ErrOf.none, _, HI4.out.rd, HI4.out.fr⟩)
        clear hq2 HQ2
        go_wp2_with fail
        exact bodyPost_ret (v := .tuple #[.slice av L.length cv, .nilIface]) (by simp [results, Tryz.results191, go_sem]) rfl HX.out
    · have hlf0 : 0 < (lf : Int) := by omega
      have hlfn : 0 < lf := by omega
      have HQ0 := Lib.hid hqq
      clear hi hqq HJ HI0 HQ hlf
      go_wp2_with fail
      refine HL.out.mono ?_
      rintro x w4 ⟨rfl, hb4⟩
      have HI4 := Lib.hid (HI.out.below hb4)
      clear hb4 HI HL
      by_cases hl32 : L.length = 32
      · have hq2 := HQ0.out
        obtain rfl : f = 0 := by omega
        unfold ptL at hq2
        rw [if_neg hend] at hq2
        have HQ3 := Lib.hid hq2
        have hli : (L.length : Int) = 32 := by omega
        obtain ⟨pp, hpp⟩ : ∃ pp, pp = Rt.p := ⟨_, rfl⟩
        rw [← hpp] at HQ3
        have HPP := Lib.hid hpp
        have HN := Lib.hid (fun W : World => new_err (w := W) S 3 149 (pp : Int))
        clear hq2 HQ0 hpp hend
        go_wp2_with fail
        refine wp_region_held_drew (S := fun W => PcIn z' w W S g kb k s Rt (.slice av L.length cv) L) (by kernel_rfl) ?_ (fun hHeld => ?_)
        · exact HI4.out.below (below_drewN (Below.refl _ _) 1)
        refine wpAnyH_take (i := 0) (oi := { dst := some 15, op := Op.move (Operand.tmp 0), type := 103, pos := _, after := _, guard := none }) (v := .pointer (some ⟨g, 0, none⟩)) rfl (by kernel_rfl) (by kernel_rfl) (by kernel_rfl) (fun _ _ _ h => h) (Or.inl ⟨by rfl, fun w' hs => ?_⟩) (by assumption) ?_
        · go_simp
        simp only [Act.put, List.setIfInBounds_toArray, List.set_cons_zero, List.set_cons_succ]
        refine wpAnyH_take (i := 2) (oi := { dst := some 17, op := Op.load 35 (Operand.global 4), type := 35, pos := _, after := _, guard := none }) (v := .iface 234 (.pointer (some (S 3)))) rfl (by kernel_rfl) (by kernel_rfl) (by kernel_rfl) (fun _ _ _ h => h) (Or.inl ⟨by rfl, fun w' hs => ?_⟩) (by assumption) ?_
        · have kk := (HE.out.later hs.bel).kTooLarge
          go_simp
        simp only [Act.put, List.setIfInBounds_toArray, List.set_cons_zero, List.set_cons_succ]
        refine wpAnyH_ready (rs := [1]) (by kernel_rfl) (by simp) ?_
        refine AllReadyH.cons (o := { dst := some 16, op := Op.call { callee := Callee.value (Operand.func 165), args := #[Operand.tmp 15], argTypes := #[103] }, type := 3, pos := _, after := _, guard := none }) rfl (fun K hK => ?_) AllReadyH.nil
        go_simp
        have hat := rat_any hHeld.rd
        rw [← HPP.out] at hat
        refine hat.mono ?_
        rintro x w5 ⟨rfl, rfl⟩
        go_wp2_with fail
        refine hK.out _ _ ?_ (fun hHeld5 => ?_)
        · exact hHeld
        clear hK K
        try simp only [Act.put, List.setIfInBounds_toArray, List.set_cons_zero, List.set_cons_succ]
        refine wpAnyH_ready (rs := [3]) (by kernel_rfl) (by simp) ?_
        refine AllReadyH.cons (o := { dst := some 18, op := Op.call { callee := Callee.value (Operand.func 64), args := #[Operand.const (Value.int IntKind.i64 149), Operand.tmp 16, Operand.tmp 17], argTypes := #[3, 3, 35] }, type := 35, pos := _, after := _, guard := none }) rfl (fun K hK => ?_) AllReadyH.nil
        go_simp
        refine (HN.out _).mono ?_
        rintro x w6 ⟨e, rfl, he, hb⟩
        have hi6 := hHeld5.below hb
        go_wp2_with fail
        refine hK.out _ _ ?_ (fun hHeld6 => ?_)
        · exact hi6
        clear hK K
        try simp only [Act.put, List.setIfInBounds_toArray, List.set_cons_zero, List.set_cons_succ]
        refine wpAnyH_take (i := 4) (oi := { dst := some 4, op := Op.assign (Operand.const (Value.slice none 0 0)), type := 27, pos := _, after := _, guard := none }) (v := .slice none 0 0) rfl (by kernel_rfl) (by kernel_rfl) (by kernel_rfl) (fun _ _ _ h => h) (Or.inl ⟨by rfl, fun w' hs => ?_⟩) (by assumption) ?_
        · go_simp
        simp only [Act.put, List.setIfInBounds_toArray, List.set_cons_zero, List.set_cons_succ]
        refine wpAnyH_take (i := 5) (oi := { dst := some 5, op := Op.assign (Operand.tmp 18), type := 35, pos := _, after := _, guard := none }) (v := e) rfl (by kernel_rfl) (by kernel_rfl) (by kernel_rfl) (fun _ _ _ h => h) (Or.inl ⟨by rfl, fun w' hs => ?_⟩) (by assumption) ?_
        · go_simp
        simp only [Act.put, List.setIfInBounds_toArray, List.set_cons_zero, List.set_cons_succ]
        have HX := Lib.hid (show PtC w S g s q (.returned (.tuple #[.slice none 0 0, e])) w6 from by
          rw [HQ3.out]
          exact ⟨_, _, rfl, I8Row.nil _ _, ErrOf.some (no := 4) (by decide) (by decide) he, _, hi6.rd, hi6.fr⟩)
        clear he hb hi6 hHeld hHeld5 hHeld6 hat
        refine wpAnyH_done (by kernel_rfl) ?_ _
        go_wp2_with fail
        exact bodyPost_ret (v := .tuple #[.slice none 0 0, e]) (by simp [results, Tryz.results191, go_sem]) rfl HX.out
      · obtain ⟨f', rfl⟩ : ∃ f', f = f' + 1 := ⟨f - 1, by omega⟩
        have hq2 := HQ0.out
        rw [ptL, if_neg hend] at hq2
        have hli : ¬ (L.length : Int) = 32 := by omega
        have hfi := HFI.out _ Rt HI4.out.bel HI4.out.rd hno HI4.out.bx
        unfold CcSays at hfi
        obtain ⟨⟨re, t, R1⟩, ht⟩ : ∃ V, V = rdC k s Rt := ⟨_, rfl⟩
        rw [← ht] at hfi hq2
        simp only at hfi hq2
        have hnx : re.no = 0 → R1.no = 0 := fun hh => by
          have h1 := (partC k s).of_rd Rt hno (by omega) (by rw [← ht]; exact hh)
          rw [← ht] at h1
          exact h1.2.1
        have HNX := Lib.hid hnx
        have HF2 := Lib.hid hfi
        have HQ3 := Lib.hid hq2
        clear hnx
        clear hfi hq2 ht HQ0 hend
        go_wp2_with fail
        refine HF2.out.mono ?_
        rintro x w5 ⟨e5, rfl, he5, hn5⟩
        have HI5 := Lib.hid (HI4.out.step hn5)
        clear hn5 HF2 HI4
        by_cases h1 : re.no = 0
        · have hq2 := HQ3.out
          rw [if_pos h1] at hq2
          unfold ErrOf at he5
          rw [if_pos h1] at he5
          subst he5
          have HQ4 := Lib.hid hq2
          have HS6 := Lib.hid HI5.out.fr.size
          have HDL := Lib.hid (show L.length ≤ 1000 from by omega)
          clear hq2 HQ3
          go_wp2_with (at_builtin; go_must (refine I8_append t rfl _ _ rfl HI5.out.row HS6.out rfl w5.heap.size 1 rfl rfl HDL.out rfl ?_))
          intro v7 w7 hn7
          have HI7 := Lib.hid (HI5.out.app hn7)
          clear hn7
          go_wp2_with fail
          go_roundg (f' + 1)
          case rel => exact ⟨L ++ [t], R1, by rw [List.length_append, List.length_singleton]; omega, by omega, HNX.out h1, Lib.hid ⟨HI7.out, HQ4.out⟩⟩
          case measure => omega
        · have hq2 := HQ3.out
          rw [if_neg h1] at hq2
          obtain ⟨t5, u5', rfl⟩ := err_iface he5 h1
          have HX := Lib.hid (show PtC w S g s q (.returned (.tuple #[.slice none 0 0, .iface t5 u5'])) w5 from by
            rw [hq2]
            exact ⟨_, _, rfl, I8Row.nil _ _, he5, _, HI5.out.rd, HI5.out.fr⟩)
          clear hq2 he5 HQ3
          go_wp2_with fail
          exact bodyPost_ret (v := .tuple #[.slice none 0 0, .iface t5 u5']) (by simp [results, Tryz.results191, go_sem]) rfl HX.out
end
section
variable {z' w : World} {S : Nat → Addr} {g : Nat} {s : ByteArray} {R : RV}
set_option maxHeartbeats 4000000 in
theorem tc_any (hE : Env z' S) (hz : Below z'.heap.size z' w) (hg : z'.heap.size ≤ g) (ho : RObj w S g s R) (h0 : R.no = 0) (hs : s.size ≤ 900000) (k : Int) : Calls Tryz.prog 144 #[.pointer (some ⟨g, 0, none⟩), .int .i64 k] w (PtC w S g s (ptL (rdC k s) s 32 [] R)) := by
  have hb1 : Below w.heap.size w (w.alloc (.cells #[.int .i64 k] 3)) := (Below.refl _ _).alloc (Nat.le_refl _) _
  have hp := partsC_any hE (hz.trans (hb1.mono hz.size)) hg (ho.below hb1) (Blk.made w 3 #[.int .i64 k]) h0 hs
  generalize ptL (rdC k s) s 32 [] R = q at *
  have HP := Lib.hid hp
  have HB := Lib.hid hb1
  clear hE hz hg ho h0 hs hp hb1
  go_enter Tryz.func144, Tryz.ntmps144
  go_wp2_with fail
  refine HP.out.mono ?_
  rintro x w2 ⟨v, e, rfl, hr, he, R', hn⟩
  have HX := Lib.hid (show PtC w S g s q (.returned (.tuple #[v, e])) w2 from ⟨v, e, rfl, hr.base HB.out.size, he, R', hn.pre HB.out⟩)
  clear hr he hn HP
  go_wp2_with fail
  exact bodyPost_ret (v := .tuple #[v, e]) (by simp [results, Tryz.results144, go_sem]) rfl HX.out
end
section
variable {z w : World} {S : Nat → Addr} {B g : Nat} {v : Value} {V : EV} {L : List Int} {A : Option Addr}
theorem icell_at {w : World} {B : Nat} {A : Option Addr} {L : List Int} (h : CIn w B 3 A (L.flatMap iCell)) (hp : 0 < L.length) : ∃ x off, A = some ⟨x, off, none⟩ ∧ (∀ k, k < L.length → w.cell? ⟨x, off + k, none⟩ = some (.int .i64 (L.getD k 0))) ∧ (x < B ∨ ∃ xs, w.heap[x]? = some (.cells xs 3 (0, 0))) := by
  obtain ⟨x, off, e, hc, hg⟩ := h (by rw [flat_len iCell 1 (fun _ => rfl)]; omega)
  exact ⟨x, off, e, fun k hk => hc k _ (icell_get L k hk), hg⟩
set_option maxHeartbeats 4000000 in
theorem pc_any (hE : Env z S) (hz : Below z.heap.size z w) (hzB : z.heap.size ≤ B) (ho : WObj w S B g v V) (hA : CIn w B 3 A (L.flatMap iCell)) (n c : Nat) (hn : n = L.length) (hl : L.length ≤ 1000) (hV : V.L.length ≤ 800000) :
    Calls Tryz.prog 71 #[.pointer (some ⟨g, 0, none⟩), .slice A n c] w (WSays w S B g v (L.foldl stC V)) := by
  obtain ⟨q, hq⟩ : ∃ q, q = L.foldl stC V := ⟨_, rfl⟩
  rw [← hq]
  have HQ := Lib.hid hq
  have HE := Lib.hid hE
  have HZ := Lib.hid hz
  have HO := Lib.hid ho
  have HA := Lib.hid hA
  have HN := Lib.hid hn
  have HL := Lib.hid hl
  have HV := Lib.hid hV
  have HZB := Lib.hid hzB
  clear hE hz ho hA hq hn hl hV hzB
  go_enter Tryz.func71, Tryz.ntmps71
  go_wp2_with fail
  go_loopw [8] (fun i wr => ∃ (k : Nat) (u : Value), k ≤ n ∧ i = .int .i64 k ∧ Hid (WNext w wr S B g v u ((L.take k).foldl stC V))) (fun i _ => n - (intOf i).toNat)
  case atStart => exact ⟨0, v, by omega, rfl, Lib.hid (HO.out.step (Below.refl _ _))⟩
  case round =>
    obtain ⟨k, u, hk, rfl, HJ⟩ := hrel
    have hn1 : n ≤ 1000 := by have := HN.out; have := HL.out; omega
    by_cases hlt : k < n
    · have hkL : k < L.length := by have := HN.out; omega
      obtain ⟨x, off, rfl, hc, hx⟩ := icell_at HA.out (by omega)
      have hcx : wr.cell? ⟨x, off + k, none⟩ = some (.int .i64 (L.getD k 0)) := by
        refine (World.cell?_of_block (HJ.out.fr.block x (lt_of_cell' (hc k hkL)) (fun hm => ?_))).trans (hc k hkL)
        have hB := HO.out.own_ok x hm
        rcases hx with hx | ⟨xs, hx⟩
        · omega
        · rcases List.mem_cons.1 hm with rfl | hm
          · obtain ⟨e, hb, _⟩ := HO.out.blk
            exact hb.other hx (by decide) rfl
          · obtain ⟨_, _, cs, hh⟩ := HO.out.row.lt x (own_list.1 hm)
            rw [hh] at hx
            injection hx with h1
            injection h1 with h1 h2 h3
            exact absurd h2 (by decide)
      have hst : (L.take (k + 1)).foldl stC V = stepW ((L.take k).foldl stC V) (numE 1 (L.getD k 0)) := by
        rw [List.take_succ_eq_append_getElem hkL, List.foldl_append, List.getD_eq_getElem?_getD, List.getElem?_eq_getElem hkL]
        rfl
      have hlen : ((L.take k).foldl stC V).L.length ≤ 900000 := by
        have h1 : ∀ (M : List Int) (W : EV), (M.foldl stC W).L.length ≤ W.L.length + M.length := by
          intro M
          induction M with
          | nil => intro W; exact Nat.le_add_right _ _
          | cons x M ih =>
            intro W
            rw [List.foldl_cons, List.length_cons]
            have h1 := ih (stC W x)
            have h2 := stepW_len W (numE 1 x)
            have h3 := numE_len 1 x
            unfold stC at h1 ⊢
            omega
        have h2 := h1 (L.take k) V
        have h3 : (L.take k).length ≤ k := by rw [List.length_take]; omega
        have := HV.out
        have := HL.out
        omega
      have HU := Lib.hid (wu8_any (HE.out.later (HJ.out.fr.later HZ.out (fun b hm => Nat.le_trans HZB.out (HO.out.own_ok b hm)) HZ.out.size)) HJ.out.obj hlen (L.getD k 0))
      rw [← hst] at HU
      generalize L.getD k 0 = cd at *
      have HJ2 := Lib.hid HJ.out
      clear hst hlen hc hx
      go_wp2_with fail
      refine HU.out.mono ?_
      rintro x w3 ⟨rfl, u3, hn3⟩
      have HX := Lib.hid (HJ2.out.trans hn3)
      clear hn3 HU
      go_wp2_with fail
      go_roundw
      case rel => exact ⟨k + 1, u3, by omega, by go_num, HX⟩
      case measure => simp [intOf]; omega
    · obtain rfl : k = n := by omega
      have hj := HJ.out
      rw [List.take_of_length_le (by have := HN.out; omega), ← HQ.out] at hj
      have HX := Lib.hid hj
      clear hj
      go_wp2_with fail
      exact bodyPost_end (v := .tuple #[]) (by simp [results, Tryz.results71, go_sem]) rfl ⟨rfl, _, HX.out⟩
end
end Go.Proofs.YtinhecggmakbnaaGreatDoor

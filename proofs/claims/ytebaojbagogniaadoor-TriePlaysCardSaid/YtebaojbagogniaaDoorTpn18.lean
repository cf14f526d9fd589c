/- What is proved here, on plain lists: a trie as a list of nodes, each with its levels read from the last one to the first; what a new node, other ends and a node's end do to it; what stands at a place, and behind it. No conditions but those that each theorem names. What is proved here, on plain lists: what Drop leaves of a trie's nodes. No conditions but those that each theorem names. What is proved here: a trie's nodes in memory: what stands, what a look into their maps answers, and what a new node, other ends and a node's end do there. Conditions: those that each theorem names. What is proved here: a new node, a new trie, and whether there is none. Conditions: those that each theorem names. -/
import Derived.Test.YtebaojbagogniaaDoorSpl16
import Derived.Test.YtebaojbagogniaaDoorOwn
import Derived.Test.YtebaojbagogniaaDoorAMapIn
import Derived.Deep.QuietTactic
import Derived.BigQuiet
import Derived.Lib.Hide
import Derived.Deep.DeepMust
import Derived.Deep.DeepCutAuto
namespace Go.Proofs.YtebaojbagogniaaDoor
/-- A node: its levels (the last one first), its block, those of its two maps, and who ends there (whose, and the filter). -/
structure NV where
  rp : List BL
  blk : Nat
  nx : Nat
  en : Nat
  ends : List (ByteArray × ByteArray)
abbrev NL := List NV
def lv (e : ByteArray × ByteArray) : List BL := (spl (ls e.2)).reverse
def kidO (p : List BL) (n : NV) : Option (BL × Nat) :=
  match n.rp with
  | [] => none
  | l :: q => if q = p then some (l, n.blk) else none
/-- What follows a place: the level, and the node's block. -/
def kids (T : NL) (p : List BL) : List (BL × Nat) := T.filterMap (kidO p)
def ents (T : NL) : List (ByteArray × ByteArray) := T.flatMap NV.ends
def endsAt (T : NL) (q : List BL) : List (ByteArray × ByteArray) := (T.filter (fun n => decide (n.rp = q))).flatMap NV.ends
def subE (T : NL) (p : List BL) : List (ByteArray × ByteArray) := (T.filter (fun n => p.isSuffixOf n.rp)).flatMap NV.ends
structure TC (T : NL) : Prop where
  nd : T.Pairwise (fun a b => a.rp ≠ b.rp)
  root : ∃ r ∈ T, r.rp = []
  cl : ∀ n ∈ T, ∀ l q, n.rp = l :: q → ∃ m ∈ T, m.rp = q
  ok : ∀ n ∈ T, ∀ e ∈ n.ends, lv e = n.rp
  wh : ∀ n ∈ T, n.ends.Pairwise (fun a b => a.1 ≠ b.1)
def TU (T : NL) : Prop := ∀ n ∈ T, n.rp ≠ [] → ∃ m ∈ T, n.rp <:+ m.rp ∧ m.ends ≠ []
theorem lv_ne (e : ByteArray × ByteArray) : lv e ≠ [] := fun h => spl_ne (ls e.2) (List.reverse_eq_nil_iff.1 h)
theorem nodup_perm {α : Type} {A B : List α} (hA : A.Nodup) (hB : B.Nodup) (h : ∀ a, a ∈ A ↔ a ∈ B) : A.Perm B := (List.perm_ext_iff_of_nodup hA hB).2 h
theorem pw_one {α β : Type} {f : α → β} : ∀ {L : List α}, L.Pairwise (fun a b => f a ≠ f b) → ∀ {x y : α}, x ∈ L → y ∈ L → f x = f y → x = y
  | [], _, _, _, hx, _, _ => by cases hx
  | a :: L, h, x, y, hx, hy, he => by
    obtain ⟨h1, h2⟩ := List.pairwise_cons.1 h
    rcases List.mem_cons.1 hx with ex | hx
    · rcases List.mem_cons.1 hy with ey | hy
      · rw [ex, ey]
      · exact absurd (by rw [← ex]; exact he) (h1 y hy)
    · rcases List.mem_cons.1 hy with ey | hy
      · exact absurd (by rw [← ey]; exact he.symm) (h1 x hx)
      · exact pw_one h2 hx hy he
theorem suf_eq {α : Type} {a b c : List α} (h1 : a <:+ c) (h2 : b <:+ c) (hl : a.length = b.length) : a = b := by
  have := List.suffix_of_suffix_length_le h1 h2 (by omega)
  obtain ⟨t, ht⟩ := this
  have h3 := congrArg List.length ht
  rw [List.length_append] at h3
  have : t = [] := List.eq_nil_of_length_eq_zero (by omega)
  rw [this] at ht
  exact ht
section
variable {T : NL} {p q : List BL} {n m : NV} {l : BL} {e : ByteArray × ByteArray}
theorem TC.one (h : TC T) (hn : n ∈ T) (hm : m ∈ T) (he : n.rp = m.rp) : n = m := pw_one h.nd hn hm he
theorem TC.upL (h : TC T) : ∀ (r : List BL) (n : NV), n ∈ T → n.rp = r → ∀ q, q <:+ r → ∃ m ∈ T, m.rp = q
  | [], n, hn, hr, q, hq => by
    rw [List.suffix_nil] at hq
    exact ⟨n, hn, by rw [hr, hq]⟩
  | l :: r, n, hn, hr, q, hq => by
    rcases List.suffix_cons_iff.1 hq with rfl | hq
    · exact ⟨n, hn, hr⟩
    · obtain ⟨m, hm, he⟩ := h.cl n hn l r hr
      exact TC.upL h r m hm he q hq
theorem TC.up (h : TC T) (hn : n ∈ T) (hq : q <:+ n.rp) : ∃ m ∈ T, m.rp = q := TC.upL h _ n hn rfl q hq
theorem kidO_some {x : BL × Nat} : kidO p n = some x ↔ n.rp = x.1 :: p ∧ n.blk = x.2 := by
  unfold kidO
  rcases n with ⟨_ | ⟨l, r⟩, b, _, _, _⟩
  · simp
  · by_cases h : r = p
    · subst h
      simp [Prod.ext_iff]
    · simp [h]
theorem mem_kids {x : BL × Nat} : x ∈ kids T p ↔ ∃ m ∈ T, m.rp = x.1 :: p ∧ m.blk = x.2 := by
  unfold kids
  rw [List.mem_filterMap]
  simp only [kidO_some]
theorem TC.kids_apart (h : TC T) (p : List BL) : (kids T p).Pairwise (fun a b => a.1 ≠ b.1) := by
  refine List.Pairwise.filterMap (kidO p) (fun a a' hne b hb b' hb' he => ?_) h.nd
  have h1 := (kidO_some.1 hb).1
  have h2 := (kidO_some.1 hb').1
  exact hne (by rw [h1, h2, he])
theorem mem_ents : e ∈ ents T ↔ ∃ m ∈ T, e ∈ m.ends := List.mem_flatMap
theorem mem_endsAt : e ∈ endsAt T q ↔ ∃ m ∈ T, m.rp = q ∧ e ∈ m.ends := by
  unfold endsAt
  rw [List.mem_flatMap]
  simp only [List.mem_filter, decide_eq_true_eq, and_assoc]
theorem mem_subE : e ∈ subE T p ↔ ∃ m ∈ T, p <:+ m.rp ∧ e ∈ m.ends := by
  unfold subE
  rw [List.mem_flatMap]
  simp only [List.mem_filter, List.isSuffixOf_iff_suffix, and_assoc]
theorem TC.nodup (h : TC T) : (ents T).Nodup := by
  unfold ents List.Nodup
  rw [List.pairwise_flatMap]
  refine ⟨fun n hn => (h.wh n hn).imp fun hne he => hne (by rw [he]), ?_⟩
  refine List.Pairwise.imp_of_mem ?_ h.nd
  intro a b ha hb hne x hx y hy he
  subst he
  exact hne ((h.ok a ha x hx).symm.trans (h.ok b hb x hy))
theorem subl_flat {α β : Type} (f : α → List β) {A B : List α} (h : A.Sublist B) : (A.flatMap f).Sublist (B.flatMap f) := by
  induction h with
  | slnil => exact List.Sublist.refl _
  | cons a _ ih => rw [List.flatMap_cons]; exact ih.trans (List.sublist_append_right _ _)
  | cons_cons a _ ih => rw [List.flatMap_cons, List.flatMap_cons]; exact (List.Sublist.refl _).append ih
theorem TC.nodup_sub (h : TC T) (f : NV → Bool) : ((T.filter f).flatMap NV.ends).Nodup := h.nodup.sublist (subl_flat _ List.filter_sublist)
theorem TC.lvOf (h : TC T) (he : e ∈ ents T) : ∃ m ∈ T, m.rp = lv e ∧ e ∈ m.ends := by
  obtain ⟨m, hm, hx⟩ := mem_ents.1 he
  exact ⟨m, hm, (h.ok m hm e hx).symm, hx⟩
theorem endsAt_perm (h : TC T) (q : List BL) : (endsAt T q).Perm ((ents T).filter (fun e => decide (lv e = q))) := by
  refine nodup_perm (h.nodup_sub _) (h.nodup.sublist List.filter_sublist) fun e => ?_
  rw [mem_endsAt, List.mem_filter, decide_eq_true_iff, mem_ents]
  constructor
  · rintro ⟨m, hm, hr, hx⟩
    exact ⟨⟨m, hm, hx⟩, by rw [h.ok m hm e hx, hr]⟩
  · rintro ⟨⟨m, hm, hx⟩, hl⟩
    exact ⟨m, hm, by rw [← h.ok m hm e hx, hl], hx⟩
theorem endsAt_one (h : TC T) (hn : n ∈ T) (hp : n.rp = p) : (endsAt T p).Perm n.ends := by
  refine nodup_perm (h.nodup_sub _) ((h.wh n hn).imp fun hne he => hne (by rw [he])) fun e => ?_
  rw [mem_endsAt]
  constructor
  · rintro ⟨m, hm, hr, hx⟩
    rw [h.one hn hm (hp.trans hr.symm)]
    exact hx
  · exact fun hx => ⟨n, hn, hp, hx⟩
theorem endsAt_none (hp : ∀ m ∈ T, m.rp ≠ p) : endsAt T p = [] := by
  unfold endsAt
  rw [List.filter_eq_nil_iff.2 fun m hm hd => hp m hm (of_decide_eq_true hd)]
  rfl
theorem suf_self {α : Type} {l : α} {p : List α} : ¬ (l :: p) <:+ p := fun h => by
  have := h.length_le
  rw [List.length_cons] at this
  omega
theorem subE_split (h : TC T) (hn : n ∈ T) (hp : n.rp = p) : (subE T p).Perm (n.ends ++ (kids T p).flatMap (fun k => subE T (k.1 :: p))) := by
  refine nodup_perm (h.nodup_sub _) ?_ fun e => ?_
  · unfold List.Nodup
    rw [List.pairwise_append, List.pairwise_flatMap]
    refine ⟨(h.wh n hn).imp fun hne he => hne (by rw [he]), ⟨fun k _ => h.nodup_sub _, ?_⟩, ?_⟩
    · refine (h.kids_apart p).imp fun {a b} hne x hx y hy he => ?_
      subst he
      obtain ⟨m1, hm1, hs1, hx1⟩ := mem_subE.1 hx
      obtain ⟨m2, hm2, hs2, hx2⟩ := mem_subE.1 hy
      rw [← h.ok m1 hm1 x hx1] at hs1
      rw [← h.ok m2 hm2 x hx2] at hs2
      have := suf_eq hs1 hs2 (by simp)
      injection this with e1
      exact hne e1
    · rintro x hx y hy rfl
      obtain ⟨k, _, hk⟩ := List.mem_flatMap.1 hy
      obtain ⟨m, hm, hs, hx2⟩ := mem_subE.1 hk
      rw [← h.ok m hm x hx2, h.ok n hn x hx, hp] at hs
      exact suf_self hs
  · rw [mem_subE, List.mem_append, List.mem_flatMap]
    constructor
    · rintro ⟨m, hm, hs, hx⟩
      rcases Classical.em (m.rp = p) with he | hne
      · rw [h.one hn hm (hp.trans he.symm)]
        exact .inl hx
      · obtain ⟨t, ht⟩ := hs
        rcases List.eq_nil_or_concat t with rfl | ⟨t', l, rfl⟩
        · exact absurd ht.symm hne
        · have hs2 : (l :: p) <:+ m.rp := ⟨t', by rw [← ht]; simp⟩
          obtain ⟨k, hk, hkp⟩ := h.up hm hs2
          exact .inr ⟨(l, k.blk), mem_kids.2 ⟨k, hk, hkp, rfl⟩, mem_subE.2 ⟨m, hm, hs2, hx⟩⟩
    · rintro (hx | ⟨k, _, hk⟩)
      · exact ⟨n, hn, by rw [hp]; exact List.suffix_refl _, hx⟩
      · obtain ⟨m, hm, hs, hx⟩ := mem_subE.1 hk
        exact ⟨m, hm, (List.suffix_cons _ _).trans hs, hx⟩
theorem subE_all (T : NL) : subE T [] = ents T := by
  unfold subE ents
  rw [List.filter_eq_self.2 fun n _ => by rw [List.isSuffixOf_iff_suffix]; exact List.nil_suffix]
/-- A new node. -/
theorem kids_new (hn : n.rp = l :: p) (q : List BL) : kids (n :: T) q = if p = q then (l, n.blk) :: kids T q else kids T q := by
  unfold kids
  rw [List.filterMap_cons]
  have : kidO q n = if p = q then some (l, n.blk) else none := by
    unfold kidO
    rw [hn]
  rw [this]
  split <;> simp_all
theorem TC.fresh (h : TC T) (hno : ∀ m ∈ T, m.rp ≠ q) : kids T q = [] := by
  refine List.eq_nil_iff_forall_not_mem.2 fun x hx => ?_
  obtain ⟨m, hm, hr, _⟩ := mem_kids.1 hx
  obtain ⟨k, hk, hkq⟩ := h.cl m hm _ _ hr
  exact hno k hk hkq
theorem TC.new (h : TC T) (hn : n.rp = l :: p) (he : n.ends = []) (hp : ∃ m ∈ T, m.rp = p) (hno : ∀ m ∈ T, m.rp ≠ l :: p) : TC (n :: T) := by
  refine ⟨List.pairwise_cons.2 ⟨fun m hm he => hno m hm (by rw [← he, hn]), h.nd⟩, ?_, ?_, ?_, ?_⟩
  · obtain ⟨r, hr, e⟩ := h.root
    exact ⟨r, List.mem_cons_of_mem _ hr, e⟩
  · intro m hm l' q' hr
    rcases List.mem_cons.1 hm with rfl | hm
    · rw [hn] at hr
      injection hr with _ e2
      subst e2
      obtain ⟨k, hk, hkp⟩ := hp
      exact ⟨k, List.mem_cons_of_mem _ hk, hkp⟩
    · obtain ⟨k, hk, hkp⟩ := h.cl m hm l' q' hr
      exact ⟨k, List.mem_cons_of_mem _ hk, hkp⟩
  · intro m hm e hx
    rcases List.mem_cons.1 hm with rfl | hm
    · rw [he] at hx
      cases hx
    · exact h.ok m hm e hx
  · intro m hm
    rcases List.mem_cons.1 hm with rfl | hm
    · rw [he]
      exact List.Pairwise.nil
    · exact h.wh m hm
theorem ents_new (he : n.ends = []) : ents (n :: T) = ents T := by
  unfold ents
  rw [List.flatMap_cons, he]
  rfl
/-- Other ends at a place. -/
def setO (p : List BL) (E : List (ByteArray × ByteArray)) (n : NV) : NV := if n.rp = p then { n with ends := E } else n
def setE (T : NL) (p : List BL) (E : List (ByteArray × ByteArray)) : NL := T.map (setO p E)
variable {E : List (ByteArray × ByteArray)}
theorem setO_rp : (setO p E n).rp = n.rp := by unfold setO; split <;> rfl
theorem setO_blk : (setO p E n).blk = n.blk := by unfold setO; split <;> rfl
theorem setO_nx : (setO p E n).nx = n.nx := by unfold setO; split <;> rfl
theorem setO_en : (setO p E n).en = n.en := by unfold setO; split <;> rfl
theorem setO_at (h : n.rp = p) : (setO p E n).ends = E := by unfold setO; rw [if_pos h]
theorem setO_no (h : n.rp ≠ p) : setO p E n = n := by unfold setO; rw [if_neg h]
theorem mem_setE : m ∈ setE T p E ↔ ∃ n ∈ T, setO p E n = m := List.mem_map
theorem setE_len : (setE T p E).length = T.length := List.length_map ..
theorem kids_setE (q : List BL) : kids (setE T p E) q = kids T q := by
  unfold kids setE
  rw [List.filterMap_map]
  congr 1
  funext n
  show kidO q (setO p E n) = kidO q n
  unfold kidO
  rw [setO_rp, setO_blk]
theorem TC.set (h : TC T) (hok : ∀ e ∈ E, lv e = p) (hwh : E.Pairwise (fun a b => a.1 ≠ b.1)) : TC (setE T p E) := by
  refine ⟨?_, ?_, ?_, ?_, ?_⟩
  · unfold setE
    rw [List.pairwise_map]
    exact h.nd.imp fun {a b} hne => by rw [setO_rp, setO_rp]; exact hne
  · obtain ⟨r, hr, e⟩ := h.root
    exact ⟨_, mem_setE.2 ⟨r, hr, rfl⟩, by rw [setO_rp]; exact e⟩
  · intro m hm l q hr
    obtain ⟨n, hn, rfl⟩ := mem_setE.1 hm
    rw [setO_rp] at hr
    obtain ⟨k, hk, e⟩ := h.cl n hn l q hr
    exact ⟨_, mem_setE.2 ⟨k, hk, rfl⟩, by rw [setO_rp]; exact e⟩
  · intro m hm e hx
    obtain ⟨n, hn, rfl⟩ := mem_setE.1 hm
    rw [setO_rp]
    rcases Classical.em (n.rp = p) with he | hne
    · rw [setO_at he] at hx
      rw [hok e hx, he]
    · rw [setO_no hne] at hx
      exact h.ok n hn e hx
  · intro m hm
    obtain ⟨n, hn, rfl⟩ := mem_setE.1 hm
    rcases Classical.em (n.rp = p) with he | hne
    · rw [setO_at he]
      exact hwh
    · rw [setO_no hne]
      exact h.wh n hn
theorem mem_ents_set (h : TC T) (hn : n ∈ T) (hp : n.rp = p) : e ∈ ents (setE T p E) ↔ e ∈ E ∨ (e ∈ ents T ∧ lv e ≠ p) := by
  rw [mem_ents]
  constructor
  · rintro ⟨m, hm, hx⟩
    obtain ⟨k, hk, rfl⟩ := mem_setE.1 hm
    rcases Classical.em (k.rp = p) with he | hne
    · rw [setO_at he] at hx
      exact .inl hx
    · rw [setO_no hne] at hx
      exact .inr ⟨mem_ents.2 ⟨k, hk, hx⟩, by rw [h.ok k hk e hx]; exact hne⟩
  · rintro (hx | ⟨hx, hne⟩)
    · exact ⟨_, mem_setE.2 ⟨n, hn, rfl⟩, by rw [setO_at hp]; exact hx⟩
    · obtain ⟨k, hk, hx⟩ := mem_ents.1 hx
      refine ⟨_, mem_setE.2 ⟨k, hk, rfl⟩, ?_⟩
      rw [setO_no (by rw [← h.ok k hk e hx]; exact hne)]
      exact hx
/-- A node is taken away. -/
def cutN (T : NL) (p : List BL) : NL := T.filter (fun n => decide (n.rp ≠ p))
theorem mem_cutN : m ∈ cutN T p ↔ m ∈ T ∧ m.rp ≠ p := by simp [cutN, List.mem_filter]
theorem TC.cut (h : TC T) (hk : kids T p = []) (hp : p ≠ []) : TC (cutN T p) := by
  refine ⟨h.nd.filter _, ?_, ?_, fun m hm => h.ok m (mem_cutN.1 hm).1, fun m hm => h.wh m (mem_cutN.1 hm).1⟩
  · obtain ⟨r, hr, e⟩ := h.root
    exact ⟨r, mem_cutN.2 ⟨hr, by rw [e]; exact fun he => hp he.symm⟩, e⟩
  · intro m hm l q hr
    obtain ⟨hm1, hm2⟩ := mem_cutN.1 hm
    obtain ⟨k, hkk, e⟩ := h.cl m hm1 l q hr
    refine ⟨k, mem_cutN.2 ⟨hkk, fun he => ?_⟩, e⟩
    have : (l, m.blk) ∈ kids T p := mem_kids.2 ⟨m, hm1, by rw [hr, ← e, he], rfl⟩
    rw [hk] at this
    cases this
theorem kids_cut (q : List BL) : kids (cutN T (l :: p)) q = if q = p then (kids T p).filter (fun k => decide (k.1 ≠ l)) else kids T q := by
  unfold cutN
  induction T with
  | nil => unfold kids; split <;> rfl
  | cons n T ih =>
    have e1 : ∀ T, kids (n :: T) q = (match kidO q n with | none => kids T q | some k => k :: kids T q) := fun T => by
      unfold kids
      rw [List.filterMap_cons]
      cases kidO q n <;> rfl
    have e2 : kids (n :: T) p = (match kidO p n with | none => kids T p | some k => k :: kids T p) := by
      unfold kids
      rw [List.filterMap_cons]
      cases kidO p n <;> rfl
    by_cases hn : n.rp = l :: p
    · rw [List.filter_cons, if_neg (by simp [hn]), ih]
      by_cases hq : q = p
      · rw [if_pos hq, if_pos hq, e2, (kidO_some (x := (l, n.blk))).2 ⟨hn, rfl⟩]
        simp
      · have h3 : kidO q n = none := by
          cases hk : kidO q n with
          | none => rfl
          | some x =>
            have := (kidO_some.1 hk).1
            rw [hn] at this
            injection this with _ h4
            exact absurd h4.symm hq
        rw [if_neg hq, if_neg hq, e1, h3]
    · rw [List.filter_cons, if_pos (by simpa using hn), e1, ih]
      by_cases hq : q = p
      · subst hq
        rw [if_pos rfl, if_pos rfl, e1]
        cases hk : kidO q n with
        | none => rfl
        | some x =>
          have h5 : x.1 ≠ l := fun he => hn (by rw [(kidO_some.1 hk).1, he])
          simp [h5]
      · rw [if_neg hq, if_neg hq, e1]
theorem TC.cut_len (h : TC T) (hn : n ∈ T) (hp : n.rp = p) : (cutN T p).length + 1 = T.length := by
  have key : ∀ {T : NL}, T.Pairwise (fun a b => a.rp ≠ b.rp) → n ∈ T → (cutN T p).length + 1 = T.length := by
    intro T
    induction T with
    | nil => intro _ hn; cases hn
    | cons m T ih =>
      intro hnd hn
      obtain ⟨h1, h2⟩ := List.pairwise_cons.1 hnd
      unfold cutN at *
      by_cases hm : m.rp = p
      · rw [List.filter_cons, if_neg (by simp [hm]), List.filter_eq_self.2 fun k hk => decide_eq_true (show k.rp ≠ p from fun e => h1 k hk (hm.trans e.symm)), List.length_cons]
      · rw [List.filter_cons, if_pos (by simpa using hm), List.length_cons, List.length_cons, ih h2 ((List.mem_cons.1 hn).resolve_left fun e => hm (by rw [← e]; exact hp))]
  exact key h.nd hn
theorem ents_cut (he : ∀ m ∈ T, m.rp = p → m.ends = []) : ents (cutN T p) = ents T := by
  unfold ents cutN
  induction T with
  | nil => rfl
  | cons m T ih =>
    have ih2 := ih fun k hk => he k (List.mem_cons_of_mem _ hk)
    by_cases hm : m.rp = p
    · rw [List.filter_cons, if_neg (by simp [hm]), List.flatMap_cons, he m (List.mem_cons_self ..) hm, ih2]
      rfl
    · rw [List.filter_cons, if_pos (by simpa using hm), List.flatMap_cons, List.flatMap_cons, ih2]
/-- Which places there are hangs on who is there. -/
theorem TU.places (h : TC T) (hu : TU T) (hq : q ≠ []) : (∃ n ∈ T, n.rp = q) ↔ ∃ e ∈ ents T, q <:+ lv e := by
  constructor
  · rintro ⟨n, hn, rfl⟩
    obtain ⟨m, hm, hs, he⟩ := hu n hn hq
    obtain ⟨e, L, hE⟩ := List.exists_cons_of_ne_nil he
    have hx : e ∈ m.ends := by rw [hE]; exact List.mem_cons_self ..
    exact ⟨e, mem_ents.2 ⟨m, hm, hx⟩, by rw [h.ok m hm e hx]; exact hs⟩
  · rintro ⟨e, he, hs⟩
    obtain ⟨m, hm, hx⟩ := mem_ents.1 he
    rw [h.ok m hm e hx] at hs
    exact h.up hm hs
theorem TC.rps (h : TC T) : (T.map NV.rp).Nodup := by
  unfold List.Nodup
  rw [List.pairwise_map]
  exact h.nd
theorem len_same {T2 : NL} (h : TC T) (hu : TU T) (h2 : TC T2) (hu2 : TU T2) (he : ∀ e, e ∈ ents T ↔ e ∈ ents T2) : T.length = T2.length := by
  have hp : (T.map NV.rp).Perm (T2.map NV.rp) := by
    refine nodup_perm h.rps h2.rps fun q => ?_
    rw [List.mem_map, List.mem_map]
    rcases Classical.em (q = []) with rfl | hq
    · obtain ⟨r, hr, e⟩ := h.root
      obtain ⟨r2, hr2, e2⟩ := h2.root
      exact ⟨fun _ => ⟨r2, hr2, e2⟩, fun _ => ⟨r, hr, e⟩⟩
    · rw [hu.places h hq, hu2.places h2 hq]
      simp only [he]
  have := hp.length_eq
  rwa [List.length_map, List.length_map] at this
theorem len_none (h : TC T) (hu : TU T) (he : ents T = []) : T.length = 1 := by
  obtain ⟨r, hr, hr0⟩ := h.root
  have hall : ∀ n ∈ T, n = r := fun n hn => by
    refine h.one hn hr ?_
    rw [hr0]
    refine Classical.byContradiction fun hne => ?_
    obtain ⟨e, hx, _⟩ := (hu.places h hne).1 ⟨n, hn, rfl⟩
    rw [he] at hx
    cases hx
  rcases T with _ | ⟨a, _ | ⟨b, T⟩⟩
  · cases hr
  · rfl
  · have ha := hall a (by simp)
    have hb := hall b (by simp)
    exact absurd (by rw [ha, hb]) ((List.pairwise_cons.1 h.nd).1 b (by simp))
end
end Go.Proofs.YtebaojbagogniaaDoor
namespace Go.Proofs.YtebaojbagogniaaDoor
/-- Nothing ends at a place, and nothing follows it. -/
def bareB (T : NL) (p : List BL) : Bool := (kids T p).isEmpty && (endsAt T p).isEmpty
/-- The ends at a place, but one's. -/
def woW (s : ByteArray) (E : List (ByteArray × ByteArray)) : List (ByteArray × ByteArray) := E.filter (fun e => decide (e.1 ≠ s))
def dropO (p : List BL) (s : ByteArray) (n : NV) : NV := if n.rp = p then { n with ends := woW s n.ends } else n
def dropT (T : NL) (p : List BL) : List BL → ByteArray → NL
  | [], s => T.map (dropO p s)
  | l :: L, s => if bareB (dropT T (l :: p) L s) (l :: p) then cutN (dropT T (l :: p) L s) (l :: p) else dropT T (l :: p) L s
/-- Is one's end at a place? -/
def hasT (T : NL) (q : List BL) (s : ByteArray) : Bool := T.any fun m => decide (m.rp = q) && m.ends.any fun e => decide (e.1 = s)
section
variable {T : NL} {p q : List BL} {n m : NV} {l : BL} {e : ByteArray × ByteArray} {s : ByteArray}
theorem hasT_iff : hasT T q s = true ↔ ∃ m ∈ T, m.rp = q ∧ ∃ e ∈ m.ends, e.1 = s := by
  unfold hasT
  simp only [List.any_eq_true, Bool.and_eq_true, decide_eq_true_eq]
theorem drop_set (h : TC T) (hn : n ∈ T) (hp : n.rp = p) : T.map (dropO p s) = setE T p (woW s n.ends) := by
  unfold setE
  refine List.map_congr_left fun m hm => ?_
  unfold dropO setO
  by_cases he : m.rp = p
  · rw [if_pos he, if_pos he, h.one hm hn (he.trans hp.symm)]
  · rw [if_neg he, if_neg he]
/-- What stands between, while nodes are taken away: it is the trie without one's end, and whatever does not lie on the way to the place is of use. -/
structure DrJ (T T' : NL) (p q : List BL) (s : ByteArray) : Prop where
  tc : TC T'
  mem : ∀ e, e ∈ ents T' ↔ e ∈ ents T ∧ ¬ (lv e = q ∧ e.1 = s)
  us : ∀ n ∈ T', ¬ n.rp <:+ p → ∃ m ∈ T', n.rp <:+ m.rp ∧ m.ends ≠ []
  at_ : ∀ n ∈ T, n.rp <:+ p → ∃ m ∈ T', m.rp = n.rp ∧ m.blk = n.blk ∧ m.nx = n.nx ∧ m.en = n.en
  sub : ∀ m ∈ T', ∃ n ∈ T, m.rp = n.rp ∧ m.blk = n.blk ∧ m.nx = n.nx ∧ m.en = n.en
  len : T'.length ≤ T.length
theorem drj_end (h : TC T) (hu : TU T) (hn : n ∈ T) (hp : n.rp = p) : DrJ T (T.map (dropO p s)) p p s := by
  have hE := drop_set (s := s) h hn hp
  rw [hE]
  refine ⟨h.set (fun e he => ?_) ((h.wh n hn).filter _), fun e => ?_, fun m hm hno => ?_, fun m hm _ => ?_, fun m hm => ?_, Nat.le_of_eq setE_len⟩
  · rw [h.ok n hn e (List.mem_filter.1 he).1, hp]
  · rw [mem_ents_set h hn hp]
    unfold woW
    rw [List.mem_filter, decide_eq_true_iff]
    constructor
    · rintro (⟨hx, hne⟩ | ⟨hx, hne⟩)
      · exact ⟨mem_ents.2 ⟨n, hn, hx⟩, fun hh => hne hh.2⟩
      · exact ⟨hx, fun hh => hne hh.1⟩
    · rintro ⟨hx, hne⟩
      rcases Classical.em (lv e = p) with he | he
      · obtain ⟨m, hm, hr, hxm⟩ := h.lvOf hx
        rw [h.one hm hn (by rw [hr, he, hp])] at hxm
        exact .inl ⟨hxm, fun hs => hne ⟨he, hs⟩⟩
      · exact .inr ⟨hx, he⟩
  · obtain ⟨k, hk, rfl⟩ := mem_setE.1 hm
    rw [setO_rp] at hno ⊢
    have hk0 : k.rp ≠ [] := fun e => hno (by rw [e]; exact List.nil_suffix)
    obtain ⟨m', hm', hs, he⟩ := hu k hk hk0
    have hmp : m'.rp ≠ p := fun e => hno (by rw [← e]; exact hs)
    exact ⟨_, mem_setE.2 ⟨m', hm', rfl⟩, by rw [setO_rp]; exact hs, by rw [setO_no hmp]; exact he⟩
  · exact ⟨_, mem_setE.2 ⟨m, hm, rfl⟩, setO_rp, setO_blk, setO_nx, setO_en⟩
  · obtain ⟨k, hk, rfl⟩ := mem_setE.1 hm
    exact ⟨k, hk, setO_rp, setO_blk, setO_nx, setO_en⟩
theorem bare_ends (h : bareB T p = true) : kids T p = [] ∧ ∀ m ∈ T, m.rp = p → m.ends = [] := by
  unfold bareB at h
  rw [Bool.and_eq_true, List.isEmpty_iff, List.isEmpty_iff] at h
  refine ⟨h.1, fun m hm hr => ?_⟩
  refine List.eq_nil_iff_forall_not_mem.2 fun e he => ?_
  have : e ∈ endsAt T p := mem_endsAt.2 ⟨m, hm, hr, he⟩
  rw [h.2] at this
  cases this
/-- One step back: the node is taken away if it is bare. -/
theorem DrJ.back {T' : NL} (h : DrJ T T' (l :: p) q s) (hn : n ∈ T') (hp : n.rp = l :: p) : DrJ T (if bareB T' (l :: p) then cutN T' (l :: p) else T') p q s := by
  cases hb : bareB T' (l :: p) with
  | true =>
    rw [if_pos rfl]
    obtain ⟨hk, he⟩ := bare_ends hb
    refine ⟨h.tc.cut hk (by simp), fun e => by rw [ents_cut he]; exact h.mem e, fun m hm hno => ?_, fun m hm hs => ?_, fun m hm => h.sub m (mem_cutN.1 hm).1, Nat.le_trans (List.length_filter_le _ _) h.len⟩
    · obtain ⟨hm1, hm2⟩ := mem_cutN.1 hm
      obtain ⟨k, hkk, hs, hke⟩ := h.us m hm1 fun hs => by
        rcases List.suffix_cons_iff.1 hs with e | hs
        · exact hm2 e
        · exact hno hs
      exact ⟨k, mem_cutN.2 ⟨hkk, fun e => hke (he k hkk e)⟩, hs, hke⟩
    · obtain ⟨m', hm', e1, e2⟩ := h.at_ m hm (hs.trans (List.suffix_cons _ _))
      exact ⟨m', mem_cutN.2 ⟨hm', fun e => suf_self (l := l) (p := p) (by rw [← e, e1]; exact hs)⟩, e1, e2⟩
  | false =>
    rw [if_neg (by simp)]
    refine ⟨h.tc, h.mem, fun m hm hno => ?_, fun m hm hs => h.at_ m hm (hs.trans (List.suffix_cons _ _)), h.sub, h.len⟩
    rcases Classical.em (m.rp = l :: p) with e | hne
    · have hmn : m = n := h.tc.one hm hn (by rw [e, hp])
      subst hmn
      unfold bareB at hb
      rw [Bool.and_eq_false_iff] at hb
      rcases hb with hb | hb
      · obtain ⟨x, L, hx⟩ := List.exists_cons_of_ne_nil (l := kids T' (l :: p)) (fun e => by rw [e] at hb; cases hb)
        obtain ⟨k, hk, hr, _⟩ := mem_kids.1 (show x ∈ kids T' (l :: p) by rw [hx]; exact List.mem_cons_self ..)
        obtain ⟨k2, hk2, hs, hke⟩ := h.us k hk (by rw [hr]; exact suf_self)
        refine ⟨k2, hk2, (List.IsSuffix.trans ?_ hs), hke⟩
        rw [hr, e]
        exact List.suffix_cons _ _
      · refine ⟨m, hm, List.suffix_refl _, fun e0 => ?_⟩
        have := (endsAt_one h.tc hm e).length_eq
        rw [e0] at this
        have h0 := List.eq_nil_of_length_eq_zero this
        rw [h0] at hb
        cases hb
    · exact h.us m hm fun hs => by
        rcases List.suffix_cons_iff.1 hs with e | hs
        · exact hne e
        · exact hno hs
theorem drj_any (h : TC T) (hu : TU T) (s : ByteArray) : ∀ (L p : List BL), (∃ n ∈ T, n.rp = L.reverse ++ p) → DrJ T (dropT T p L s) p (L.reverse ++ p) s
  | [], p, ⟨n, hn, hr⟩ => by
    rw [dropT]
    exact drj_end h hu hn hr
  | l :: L, p, hx => by
    rw [List.reverse_cons, List.append_assoc] at hx ⊢
    have ih := drj_any h hu s L (l :: p) hx
    obtain ⟨n, hn, hr⟩ := hx
    obtain ⟨k, hk, hkp⟩ := h.up hn (q := l :: p) (by rw [hr]; exact List.suffix_append _ _)
    obtain ⟨m, hm, e1, _⟩ := ih.at_ k hk (by rw [hkp]; exact List.suffix_refl _)
    rw [dropT]
    exact ih.back hm (e1.trans hkp)
theorem drj_used {T' : NL} (h : DrJ T T' [] q s) : TU T' := fun n hn hne => h.us n hn fun hs => hne (List.suffix_nil.1 hs)
end
end Go.Proofs.YtebaojbagogniaaDoor
namespace Go.Proofs.YtebaojbagogniaaDoor
open Go.RowKit Go.Maps Go.WideShapes Go.Deep
set_option maxRecDepth 100000
def ptrV (b : Nat) : Value := .pointer (some ⟨b, 0, none⟩)
def blKE : KE BL := ⟨fun l => .string (bs l), fun l => .string l⟩
theorem blKE_inj (x y : BL) (h : blKE.kl x = blKE.kl y) : x = y := by
  injection h
def entV (e : ByteArray × ByteArray) : Value := .agg #[.string e.1, .string e.2]
def entK (e : ByteArray × ByteArray) : ByteArray × (ByteArray × ByteArray) := (e.1, e)
theorem blKE_ok {P : Program} {k : TypeId} (hk : P.underlying k = some .string) {l : BL} (hx : l.length ≤ maxLen) : keyOf P k (blKE.kv l) = some (blKE.kl l) :=
  WideMaps.keyOf_string_mk (s := bs l) hk (by rw [bs_size]; exact hx)
theorem KS18 : Keyed Tryd.prog 9 := string_keyed Tryd.underlying9
theorem Tryd.zptr18 (w : World) : (zeroValue 31).run Tryd.prog w = .ok (.pointer none) w := by kernel_rfl
theorem Tryd.zent18 (w : World) : (zeroValue 46).run Tryd.prog w = .ok (.agg #[.string ⟨#[]⟩, .string ⟨#[]⟩]) w := by kernel_rfl
structure TH (w : World) (T : NL) : Prop where
  nb : ∀ n ∈ T, Blk w n.blk 61 #[.map (some n.nx), .map (some n.en)]
  nx : ∀ n ∈ T, AMap Tryd.prog 9 blKE ptrV w n.nx (kids T n.rp)
  en : ∀ n ∈ T, AMap Tryd.prog 9 strKE entV w n.en (n.ends.map entK)
  a1 : ∀ n ∈ T, ∀ m ∈ T, n.nx ≠ m.en
  a2 : ∀ n ∈ T, ∀ m ∈ T, n.nx = m.nx → n.rp = m.rp
  a3 : ∀ n ∈ T, ∀ m ∈ T, n.en = m.en → n.rp = m.rp
/-- A trie at block g, whose root is at block r, with c as its count of nodes. -/
structure TrB (w : World) (g : Nat) (T : NL) (r : Nat) (c : Int) : Prop where
  blk : Blk w g 33 #[.pointer (some ⟨r, 0, none⟩), .int .i64 c]
  rt : ∃ n ∈ T, n.rp = [] ∧ n.blk = r
  tc : TC T
  th : TH w T
abbrev TrI (w : World) (g : Nat) (T : NL) (r : Nat) : Prop := TrB w g T r ((T.length : Int) - 1)
/-- What a method may change: the trie's own block, and its maps. -/
def fp (g : Nat) (T : NL) : List Nat := g :: T.flatMap fun n => [n.nx, n.en]
theorem mem_fp {g b : Nat} {T : NL} : b ∈ fp g T ↔ b = g ∨ ∃ n ∈ T, b = n.nx ∨ b = n.en := by
  unfold fp
  rw [List.mem_cons, List.mem_flatMap]
  simp
section
variable {w W w' : World} {g r : Nat} {T : NL} {c : Int} {n m : NV} {p : List BL} {l : BL} {s : ByteArray} {e : ByteArray × ByteArray}
theorem TH.fr {X : List Nat} (h : TH w T) (hf : Fr X w w') (hX : ∀ b ∈ X, ∀ n ∈ T, b ≠ n.blk ∧ b ≠ n.nx ∧ b ≠ n.en) : TH w' T :=
  ⟨fun n hn => (h.nb n hn).fr hf fun hm => (hX _ hm n hn).1 rfl, fun n hn => (h.nx n hn).fr hf fun hm => (hX _ hm n hn).2.1 rfl, fun n hn => (h.en n hn).fr hf fun hm => (hX _ hm n hn).2.2 rfl, h.a1, h.a2, h.a3⟩
theorem TrB.fr {X : List Nat} (h : TrB w g T r c) (hf : Fr X w w') (hX : ∀ b ∈ X, b ≠ g ∧ ∀ n ∈ T, b ≠ n.blk ∧ b ≠ n.nx ∧ b ≠ n.en) : TrB w' g T r c :=
  ⟨h.blk.fr hf fun hm => (hX _ hm).1 rfl, h.rt, h.tc, h.th.fr hf fun b hb => (hX b hb).2⟩
theorem TrB.below (h : TrB w g T r c) (hb : Below w.heap.size w w') : TrB w' g T r c := h.fr (X := []) (Fr.of_below hb) fun b hm => by cases hm
/-- The blocks of a trie are of three kinds. -/
theorem TH.kinds (h : TH w T) (hn : n ∈ T) (hm : m ∈ T) : n.blk ≠ m.nx ∧ n.blk ≠ m.en := ⟨(h.nx m hm).ne (h.nb n hn), (h.en m hm).ne (h.nb n hn)⟩
theorem TrB.far (h : TrB w g T r c) (hn : n ∈ T) : g ≠ n.blk ∧ g ≠ n.nx ∧ g ≠ n.en := ⟨h.blk.other (h.th.nb n hn) (by decide), (h.th.nx n hn).ne h.blk, (h.th.en n hn).ne h.blk⟩
theorem TrB.lt (h : TrB w g T r c) : ∀ b ∈ fp g T, b < w.heap.size := fun b hb => by
  rcases mem_fp.1 hb with rfl | ⟨n, hn, rfl | rfl⟩
  · exact h.blk.lt
  · exact (h.th.nx n hn).lt
  · exact (h.th.en n hn).lt
/-- What follows a node. -/
theorem nlook_hit (h : TH w T) (hn : n ∈ T) (hm : m ∈ T) (hr : m.rp = l :: n.rp) :
    (Instr.lookup 58 (.map (some n.nx)) (.string (bs l)) false).run Tryd.prog w = .ok (.pointer (some ⟨m.blk, 0, none⟩)) w :=
  ((h.nx n hn).hit (x := l) (v := m.blk) KS18 Tryd.underlying58 Tryd.zptr18 (mem_kids.2 ⟨m, hm, hr, rfl⟩)).2
theorem nlook_miss (h : TH w T) (hn : n ∈ T) (hl : l.length ≤ maxLen) (hno : ∀ m ∈ T, m.rp ≠ l :: n.rp) :
    (Instr.lookup 58 (.map (some n.nx)) (.string (bs l)) false).run Tryd.prog w = .ok (.pointer none) w :=
  ((h.nx n hn).miss (x := l) KS18 Tryd.underlying58 Tryd.zptr18 (blKE_ok Tryd.underlying9 hl) (fun x hx he => by
    obtain ⟨m, hm, hr, _⟩ := mem_kids.1 hx
    exact hno m hm (by rw [hr, blKE_inj _ _ he]))).2
theorem elook_hit (h : TH w T) (hn : n ∈ T) (he : e ∈ n.ends) :
    (Instr.lookup 59 (.map (some n.en)) (.string e.1) true).run Tryd.prog w = .ok (.tuple #[.agg #[.string e.1, .string e.2], .bool true]) w :=
  ((h.en n hn).hit (x := e.1) (v := e) KS18 Tryd.underlying59 Tryd.zent18 (List.mem_map.2 ⟨e, he, rfl⟩)).1
theorem elook_miss (h : TH w T) (hn : n ∈ T) (hl : s.size ≤ maxLen) (hno : ∀ e ∈ n.ends, e.1 ≠ s) :
    (Instr.lookup 59 (.map (some n.en)) (.string s) true).run Tryd.prog w = .ok (.tuple #[.agg #[.string ⟨#[]⟩, .string ⟨#[]⟩], .bool false]) w :=
  ((h.en n hn).miss (x := s) KS18 Tryd.underlying59 Tryd.zent18 (strKE_ok Tryd.underlying9 hl) (fun x hx he => by
    obtain ⟨e, hm, rfl⟩ := List.mem_map.1 hx
    exact hno e hm (strKE_inj _ _ he))).1
theorem wo_none {κ α : Type} [DecidableEq κ] {x : κ} {L : List (κ × α)} (h : ∀ p ∈ L, p.1 ≠ x) : wo x L = L := List.filter_eq_self.2 fun p hp => decide_eq_true (h p hp)
theorem one_fr {b : Nat} {w w' : World} (hg : w.grownBy w' (some b)) : Fr [b] w w' := (Fr.refl _ _).grown hg (fun k hk => by injection hk with hk; subst hk; exact .inl (List.mem_singleton_self _))
/-- A new node is laid behind another one. -/
theorem TrB.put (h : TrB w g T r c) (hn : n ∈ T) (hno : ∀ m ∈ T, m.rp ≠ l :: n.rp) (hl : l.length ≤ maxLen) (hT : T.length < maxLen)
    (hm : m.rp = l :: n.rp) (he : m.ends = []) (hb : Blk w m.blk 61 #[.map (some m.nx), .map (some m.en)]) (h1 : AMap Tryd.prog 9 blKE ptrV w m.nx []) (h2 : AMap Tryd.prog 9 strKE entV w m.en [])
    (hne : m.nx ≠ m.en) (hnew : ∀ k ∈ T, m.nx ≠ k.nx ∧ m.nx ≠ k.en ∧ m.en ≠ k.nx ∧ m.en ≠ k.en) :
    ∃ w', (Instr.mapUpdate 58 (.map (some n.nx)) (.string (bs l)) (.pointer (some ⟨m.blk, 0, none⟩))).run Tryd.prog w = .ok () w' ∧ TrB w' g (m :: T) r c ∧ Fr [n.nx] w w' := by
  have hkl : (kids T n.rp).length ≤ T.length := List.length_filterMap_le _ _
  obtain ⟨w1, hrun, hmp, hg⟩ := (h.th.nx n hn).put (x := l) KS18 Tryd.underlying58 blKE_inj (by omega) (blKE_ok Tryd.underlying9 hl) m.blk
  have hw : wo l (kids T n.rp) = kids T n.rp := wo_none fun x hx he => by
    obtain ⟨k, hk, hr, _⟩ := mem_kids.1 hx
    exact hno k hk (by rw [hr, he])
  rw [hw] at hmp
  have hf := one_fr hg
  have hkn : ∀ k ∈ m :: T, k.en ∉ [n.nx] := fun k hk hm' => by
    rw [List.mem_singleton] at hm'
    rcases List.mem_cons.1 hk with rfl | hk
    · exact (hnew n hn).2.2.1 hm'
    · exact h.th.a1 n hn k hk hm'.symm
  have hbn : ∀ k ∈ T, k.blk ∉ [n.nx] := fun k hk hm' => by
    rw [List.mem_singleton] at hm'
    exact (h.th.kinds hk hn).1 hm'
  refine ⟨w1, hrun, ⟨h.blk.fr hf (by simpa using (h.far hn).2.1), ?_, h.tc.new hm he ⟨n, hn, rfl⟩ hno, ⟨fun k hk => ?_, fun k hk => ?_, fun k hk => ?_, fun k hk j hj => ?_, fun k hk j hj => ?_, fun k hk j hj => ?_⟩⟩, hf⟩
  · obtain ⟨k, hk, e⟩ := h.rt
    exact ⟨k, List.mem_cons_of_mem _ hk, e⟩
  · rcases List.mem_cons.1 hk with rfl | hk
    · exact hb.fr hf (by simpa using (h.th.nx n hn).ne hb)
    · exact (h.th.nb k hk).fr hf (hbn k hk)
  · rw [kids_new hm]
    rcases List.mem_cons.1 hk with rfl | hk
    · rw [if_neg (by rw [hm]; exact fun e => suf_self (l := l) (p := n.rp) (by rw [← e]; exact List.suffix_refl _)), hm, h.tc.fresh hno]
      exact h1.fr hf (by simpa using (hnew n hn).1)
    · by_cases hkp : n.rp = k.rp
      · rw [if_pos hkp, ← hkp, ← h.tc.one hn hk hkp]
        exact hmp
      · rw [if_neg hkp]
        exact (h.th.nx k hk).fr hf (by rw [List.mem_singleton]; exact fun e => hkp (h.th.a2 k hk n hn e).symm)
  · have : AMap Tryd.prog 9 strKE entV w k.en (k.ends.map entK) := by
      rcases List.mem_cons.1 hk with rfl | hk
      · rw [he]
        exact h2
      · exact h.th.en k hk
    exact this.fr hf (hkn k hk)
  · rcases List.mem_cons.1 hk with ek | hk1 <;> rcases List.mem_cons.1 hj with ej | hj1
    · rw [ek, ej]; exact hne
    · rw [ek]; exact (hnew j hj1).2.1
    · rw [ej]; exact fun e => (hnew k hk1).2.2.1 e.symm
    · exact h.th.a1 k hk1 j hj1
  · rcases List.mem_cons.1 hk with ek | hk1 <;> rcases List.mem_cons.1 hj with ej | hj1
    · rw [ek, ej]; exact fun _ => rfl
    · rw [ek]; exact fun e => absurd e (hnew j hj1).1
    · rw [ej]; exact fun e => absurd e.symm (hnew k hk1).1
    · exact h.th.a2 k hk1 j hj1
  · rcases List.mem_cons.1 hk with ek | hk1 <;> rcases List.mem_cons.1 hj with ej | hj1
    · rw [ek, ej]; exact fun _ => rfl
    · rw [ek]; exact fun e => absurd e (hnew j hj1).2.2.2
    · rw [ej]; exact fun e => absurd e.symm (hnew k hk1).2.2.2
    · exact h.th.a3 k hk1 j hj1
/-- The count of nodes is another one. -/
theorem TrB.count (h : TrB w g T r c) (c' : Int) : TrB (w.setCell ⟨g, 1, none⟩ (.int .i64 c')) g T r c' := by
  have hf : Fr [g] w (w.setCell ⟨g, 1, none⟩ (.int .i64 c')) := fr_setCell w g 1 _
  refine ⟨?_, h.rt, h.tc, h.th.fr hf fun b hb n hn => ?_⟩
  · have := h.blk.store 1 (.int .i64 c')
    simpa using this
  · rw [List.mem_singleton.1 hb]
    exact h.far hn
/-- A map of ends changes. -/
theorem TrB.ends (h : TrB w g T r c) (hn : n ∈ T) {E : List (ByteArray × ByteArray)} (hf : Fr [n.en] w w') (hm : AMap Tryd.prog 9 strKE entV w' n.en (E.map entK)) (hok : ∀ e ∈ E, lv e = n.rp) (hwh : E.Pairwise (fun a b => a.1 ≠ b.1)) : TrB w' g (setE T n.rp E) r c := by
  refine ⟨h.blk.fr hf (by simpa using (h.far hn).2.2), ?_, h.tc.set hok hwh, ⟨fun k hk => ?_, fun k hk => ?_, fun k hk => ?_, fun k hk j hj => ?_, fun k hk j hj => ?_, fun k hk j hj => ?_⟩⟩
  · obtain ⟨k, hk, e1, e2⟩ := h.rt
    exact ⟨_, mem_setE.2 ⟨k, hk, rfl⟩, by rw [setO_rp]; exact e1, by rw [setO_blk]; exact e2⟩
  · obtain ⟨k, hk1, rfl⟩ := mem_setE.1 hk
    rw [setO_blk, setO_nx, setO_en]
    exact (h.th.nb k hk1).fr hf (by rw [List.mem_singleton]; exact (h.th.kinds hk1 hn).2)
  · obtain ⟨k, hk1, rfl⟩ := mem_setE.1 hk
    rw [setO_nx, setO_rp, kids_setE]
    exact (h.th.nx k hk1).fr hf (by rw [List.mem_singleton]; exact h.th.a1 k hk1 n hn)
  · obtain ⟨k, hk1, rfl⟩ := mem_setE.1 hk
    rw [setO_en]
    by_cases hkp : k.rp = n.rp
    · rw [setO_at hkp, h.tc.one hk1 hn hkp]
      exact hm
    · rw [setO_no hkp]
      exact (h.th.en k hk1).fr hf (by rw [List.mem_singleton]; exact fun e => hkp (h.th.a3 k hk1 n hn e))
  · obtain ⟨k, hk1, rfl⟩ := mem_setE.1 hk
    obtain ⟨j, hj1, rfl⟩ := mem_setE.1 hj
    rw [setO_nx, setO_en]
    exact h.th.a1 k hk1 j hj1
  · obtain ⟨k, hk1, rfl⟩ := mem_setE.1 hk
    obtain ⟨j, hj1, rfl⟩ := mem_setE.1 hj
    rw [setO_nx, setO_nx, setO_rp, setO_rp]
    exact h.th.a2 k hk1 j hj1
  · obtain ⟨k, hk1, rfl⟩ := mem_setE.1 hk
    obtain ⟨j, hj1, rfl⟩ := mem_setE.1 hj
    rw [setO_en, setO_en, setO_rp, setO_rp]
    exact h.th.a3 k hk1 j hj1
theorem TrB.eput (h : TrB w g T r c) (hn : n ∈ T) (hl : e.1.size ≤ maxLen) (hlen : n.ends.length < maxLen) (hlv : lv e = n.rp) (hno : ∀ x ∈ n.ends, x.1 ≠ e.1) :
    ∃ w', (Instr.mapUpdate 59 (.map (some n.en)) (.string e.1) (.agg #[.string e.1, .string e.2])).run Tryd.prog w = .ok () w' ∧ TrB w' g (setE T n.rp (e :: n.ends)) r c ∧ Fr [n.en] w w' := by
  obtain ⟨w1, hrun, hmp, hg⟩ := (h.th.en n hn).put (x := e.1) KS18 Tryd.underlying59 strKE_inj (by rw [List.length_map]; exact hlen) (strKE_ok Tryd.underlying9 hl) e
  rw [wo_none (fun x hx => by obtain ⟨y, hy, rfl⟩ := List.mem_map.1 hx; exact hno y hy)] at hmp
  refine ⟨w1, hrun, h.ends hn (one_fr hg) hmp (fun x hx => ?_) (List.pairwise_cons.2 ⟨fun x hx he => hno x hx he.symm, h.tc.wh n hn⟩), one_fr hg⟩
  rcases List.mem_cons.1 hx with rfl | hx
  · exact hlv
  · exact h.tc.ok n hn x hx
theorem TrB.edel (h : TrB w g T r c) (hn : n ∈ T) (hl : s.size ≤ maxLen) (ty : TypeId) :
    ∃ w', (Builtin.delete_ #[59, 9] ty #[.map (some n.en), .string s]).run Tryd.prog w = .ok (.tuple #[]) w' ∧ TrB w' g (T.map (dropO n.rp s)) r c ∧ Fr [n.en] w w' := by
  obtain ⟨w1, hrun, hmp, hg⟩ := (h.th.en n hn).del (x := s) KS18 Tryd.underlying59 strKE_inj ty (strKE_ok Tryd.underlying9 hl)
  have hw : wo s (n.ends.map entK) = (woW s n.ends).map entK := by
    unfold wo woW
    rw [List.filter_map]
    rfl
  rw [hw] at hmp
  rw [drop_set h.tc hn rfl]
  exact ⟨w1, hrun, h.ends hn (one_fr hg) hmp (fun x hx => h.tc.ok n hn x (List.mem_filter.1 hx).1) ((h.tc.wh n hn).filter _), one_fr hg⟩
/-- A bare node is taken away. -/
theorem TrB.kdel (h : TrB w g T r c) (hn : n ∈ T) (hb : bareB T (l :: n.rp) = true) (hl : l.length ≤ maxLen) (ty : TypeId) :
    ∃ w', (Builtin.delete_ #[58, 9] ty #[.map (some n.nx), .string (bs l)]).run Tryd.prog w = .ok (.tuple #[]) w' ∧ TrB w' g (cutN T (l :: n.rp)) r c ∧ Fr [n.nx] w w' := by
  obtain ⟨w1, hrun, hmp, hg⟩ := (h.th.nx n hn).del (x := l) KS18 Tryd.underlying58 blKE_inj ty (blKE_ok Tryd.underlying9 hl)
  have hf := one_fr hg
  refine ⟨w1, hrun, ⟨h.blk.fr hf (by simpa using (h.far hn).2.1), ?_, h.tc.cut (bare_ends hb).1 (by simp), ⟨fun k hk => ?_, fun k hk => ?_, fun k hk => ?_, fun k hk j hj => h.th.a1 k (mem_cutN.1 hk).1 j (mem_cutN.1 hj).1, fun k hk j hj => h.th.a2 k (mem_cutN.1 hk).1 j (mem_cutN.1 hj).1, fun k hk j hj => h.th.a3 k (mem_cutN.1 hk).1 j (mem_cutN.1 hj).1⟩⟩, hf⟩
  · obtain ⟨k, hk, e1, e2⟩ := h.rt
    exact ⟨k, mem_cutN.2 ⟨hk, by rw [e1]; simp⟩, e1, e2⟩
  · have hk := (mem_cutN.1 hk).1
    exact (h.th.nb k hk).fr hf (by rw [List.mem_singleton]; exact (h.th.kinds hk hn).1)
  · have hk := (mem_cutN.1 hk).1
    rw [kids_cut]
    by_cases hkp : k.rp = n.rp
    · rw [if_pos hkp, h.tc.one hk hn hkp]
      exact hmp
    · rw [if_neg hkp]
      exact (h.th.nx k hk).fr hf (by rw [List.mem_singleton]; exact fun e => hkp (h.th.a2 k hk n hn e))
  · have hk := (mem_cutN.1 hk).1
    exact (h.th.en k hk).fr hf (by rw [List.mem_singleton]; exact fun e => h.th.a1 n hn k hk e.symm)
end
end Go.Proofs.YtebaojbagogniaaDoor
namespace Go.Proofs.YtebaojbagogniaaDoor
open Go.RowKit Go.Extern.Stop Go.Stop Go.Extern Go.Maps
set_option maxRecDepth 100000
def NewSays (w : World) (x : Ending) (w' : World) : Prop := ∃ k m1 m2, x = .returned (.pointer (some ⟨k, 0, none⟩)) ∧ Blk w' k 61 #[.map (some m1), .map (some m2)] ∧ AMap Tryd.prog 9 blKE ptrV w' m1 [] ∧ AMap Tryd.prog 9 strKE entV w' m2 [] ∧ m1 ≠ m2 ∧ (w.heap.size ≤ k ∧ w.heap.size ≤ m1 ∧ w.heap.size ≤ m2) ∧ Below w.heap.size w w'
theorem newnode_any (w : World) : Calls Tryd.prog 20 #[] w (NewSays w) := by
  have hmm := @run_makeMap Tryd.prog
  have HE := Lib.hid (show NewSays w (.returned (.pointer (some ⟨w.heap.size + 1 + 1, 0, none⟩))) (((w.alloc (.map #[] 0)).alloc (.map #[] 0)).alloc (.cells #[.map (some w.heap.size), .map (some (w.heap.size + 1))] 61)) from by
    have hb1 := Blk.made ((w.alloc (.map #[] 0)).alloc (.map #[] 0)) 61 #[.map (some w.heap.size), .map (some (w.heap.size + 1))]
    rw [World.size_alloc, World.size_alloc] at hb1
    have h1 := ((AMap.made w Tryd.prog 9 blKE ptrV).fr (X := []) ((Fr.refl [] _).alloc (.map #[] 0)) (by simp)).fr (X := []) ((Fr.refl [] _).alloc (.cells #[.map (some w.heap.size), .map (some (w.heap.size + 1))] 61)) (by simp)
    have h2 := (AMap.made (w.alloc (.map #[] 0)) Tryd.prog 9 strKE entV).fr (X := []) ((Fr.refl [] _).alloc (.cells #[.map (some w.heap.size), .map (some (w.heap.size + 1))] 61)) (by simp)
    rw [World.size_alloc] at h2
    exact ⟨w.heap.size + 1 + 1, w.heap.size, w.heap.size + 1, rfl, hb1, h1, h2, by omega, ⟨by omega, by omega, by omega⟩, (((Below.refl _ w).alloc (Nat.le_refl _) _).alloc (by simp) _).alloc (by simp; omega) _⟩)
  go_enter Tryd.func20, Tryd.ntmps20
  go_wp2
  go_ret
  exact HE.out
theorem isnone_no {w : World} {g r : Nat} {T : NL} {c : Int} (h : TrB w g T r c) : Calls Tryd.prog 24 #[.pointer (some ⟨g, 0, none⟩)] w fun x w' => x = .returned (.bool false) ∧ w = w' := by
  have c0 := h.blk.cell 0
  clear h
  go_enter Tryd.func24, Tryd.ntmps24
  go_wp2
  go_ret
  exact ⟨rfl, rfl⟩
/-- What stands of a trie that New made. -/
structure TrS (w : World) (g : Nat) (T : NL) (r : Nat) : Prop where
  i : TrI w g T r
  u : TU T
  sz : ∀ e ∈ ents T, e.1.size ≤ 200 ∧ e.2.size ≤ 200
theorem TrS.below {w w' : World} {g r : Nat} {T : NL} (h : TrS w g T r) (hb : Below w.heap.size w w') : TrS w' g T r := ⟨h.i.below hb, h.u, h.sz⟩
def TNewSays (w : World) (x : Ending) (w' : World) : Prop := ∃ g T r, x = .returned (.pointer (some ⟨g, 0, none⟩)) ∧ TrS w' g T r ∧ ents T = [] ∧ T.length = 1 ∧ w.heap.size ≤ g ∧ (∀ n ∈ T, w.heap.size ≤ n.blk ∧ w.heap.size ≤ n.nx ∧ w.heap.size ≤ n.en) ∧ Below w.heap.size w w'
theorem tnew_any (w : World) : Calls Tryd.prog 8 #[] w (TNewSays w) := by
  have HN := Lib.hid (newnode_any w)
  have HE : Hid (∀ k m1 m2 W, Blk W k 61 #[.map (some m1), .map (some m2)] → AMap Tryd.prog 9 blKE ptrV W m1 [] → AMap Tryd.prog 9 strKE entV W m2 [] → m1 ≠ m2 → (w.heap.size ≤ k ∧ w.heap.size ≤ m1 ∧ w.heap.size ≤ m2) → Below w.heap.size w W →
      TNewSays w (.returned (.pointer (some ⟨W.heap.size, 0, none⟩))) (W.alloc (.cells #[.pointer (some ⟨k, 0, none⟩), .int .i64 0] 33))) := Lib.hid (by
    intro k m1 m2 W hb h1 h2 hne hs hbl
    have hbb : Below W.heap.size W (W.alloc (.cells #[.pointer (some ⟨k, 0, none⟩), .int .i64 0] 33)) := (Below.refl _ W).alloc (Nat.le_refl _) _
    refine ⟨W.heap.size, [⟨[], k, m1, m2, []⟩], k, rfl, ⟨⟨Blk.made W _ _, ⟨_, List.mem_singleton_self _, rfl, rfl⟩, ⟨List.pairwise_singleton _ _, ⟨_, List.mem_singleton_self _, rfl⟩, ?_, ?_, ?_⟩, ⟨?_, ?_, ?_, ?_, ?_, ?_⟩⟩, ?_, ?_⟩, rfl, rfl, hbl.size, ?_, hbl.trans (hbb.mono hbl.size)⟩
    all_goals (first
      | (intro n hn m hm; rw [List.mem_singleton.1 hn, List.mem_singleton.1 hm]; first | exact hne | exact fun _ => rfl)
      | (intro n hn; obtain rfl := List.mem_singleton.1 hn; first | exact hb.below hbb hb.lt | exact h1.below hbb h1.lt | exact h2.below hbb h2.lt | exact hs | exact List.Pairwise.nil | exact fun h => absurd rfl h | (intro l q e; cases e) | (intro e he; cases he))
      | (intro e he; cases he))
    )
  go_enter Tryd.func8, Tryd.ntmps8
  go_wp2_with fail
  refine HN.out.mono ?_
  rintro x W ⟨k, m1, m2, rfl, hb, h1, h2, hne, hs, hbl⟩
  have HX := Lib.hid (HE.out k m1 m2 W hb h1 h2 hne hs hbl)
  clear hb h1 h2 hne hs hbl HE HN
  go_wp2_with fail
  go_ret
  exact HX.out
end Go.Proofs.YtebaojbagogniaaDoor

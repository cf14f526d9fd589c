/- What is proved here: the topic that a topic and an alias come to. Conditions: the aliases stand there; few of them; ErrProtocol is laid. -/
import Derived.Test.YtldpdhliigkboaaDoorInG26
namespace Go.Proofs.YtldpdhliigkboaaDoor
open Go.RowKit Go.Extern.Stop Go.Stop Go.Extern Go.Maps
/-- What is told: the topic, the reason of the fault (0: none), and the topics by their aliases then. -/
def topicI (most : Int) (T : List ByteArray) (t : ByteArray) (al : Int) : ByteArray × Int × List ByteArray :=
  if al = 0 then (t, (if t = e0 then 130 else 0), T)
  else if al < 0 ∨ most < al then (e0, 148, T)
  else if t = e0 then (T.getD (al.toNat - 1) e0, (if T.getD (al.toNat - 1) e0 = e0 then 130 else 0), T)
  else (t, 0, setI T (al.toNat - 1) t)
def ErrSays26 (w : World) (s : Addr) (r : Int) (e : Value) : Prop := (r = 0 ∧ e = .nilIface) ∨ (r ≠ 0 ∧ FaultIs26 w s r e)
def TopicSays (w : World) (s : Addr) (B g : Nat) (most : Int) (v : Value) (r : ByteArray × Int × List ByteArray) (x : Ending) (w' : World) : Prop := ∃ e v', x = .returned (.tuple #[.string r.1, e]) ∧ ErrSays26 w' s r.2.1 e ∧ Next26 w w' B g most v v' r.2.2
section
variable {w w' : World} {B g : Nat} {most : Int} {v : Value} {T : List ByteArray} {s : Addr}
theorem Next26.below (h : InObj w B g most v T) (hb : Below w.heap.size w w') : Next26 w w' B g most v v T := ⟨h.below hb, Fr.of_below hb, fun _ hk => .inl hk⟩
theorem orm_any (hp : ProtoAt w s) (t : ByteArray) : Calls Tryd.prog 18 #[.string t] w fun x w' => ∃ e, x = .returned (.tuple #[.string t, e]) ∧ ErrSays26 w' s (if t = e0 then 130 else 0) e ∧ Below w.heap.size w w' := by
  by_cases h0 : t = e0
  · rw [if_pos h0, h0]
    exact (missing_any hp).mono fun x w' ⟨e, he, hf, hb⟩ => ⟨e, he, .inr ⟨by decide, hf⟩, hb⟩
  · rw [if_neg h0]
    exact (there_any t (by rw [empty_iff]; exact decide_eq_false h0)).mono fun x w' ⟨he, hw⟩ => ⟨_, he, .inl ⟨rfl, rfl⟩, hw ▸ Below.refl _ _⟩
theorem topic_any (hp : ProtoAt w s) (h : InObj w B g most v T) (hB : B ≤ w.heap.size) (hm : T.length ≤ 65535) (hmo : most ≤ 65535) (t : ByteArray) (al : Int) (hal : (Lit.int .i64 al).wf = true) : Calls Tryd.prog 9 #[.pointer (some ⟨g, 0, none⟩), .string t, .int .i64 al] w (TopicSays w s B g most v (topicI most T t al)) := by
  have g0 := h.blk.cell 0
  have HO := Lib.hid h
  have he := empty_iff t
  unfold topicI
  by_cases h0 : al = 0
  · rw [if_pos h0]
    subst h0
    have HM := Lib.hid (orm_any hp t)
    clear h he hp
    generalize (if t = e0 then (130 : Int) else 0) = q at *
    go_enter Tryd.func9, Tryd.ntmps9
    go_wp2_with fail
    refine HM.out.mono ?_
    rintro x w1 ⟨e, rfl, hf, hb⟩
    have HE := Lib.hid (show TopicSays w s B g most v (t, q, T) (.returned (.tuple #[.string t, e])) w1 from ⟨e, v, rfl, hf, Next26.below HO.out hb⟩)
    clear hf hb HM
    go_wp2_with fail
    go_ret2
    exact HE.out
  · rw [if_neg h0]
    by_cases h1 : al < 0 ∨ most < al
    · rw [if_pos h1]
      have HF := Lib.hid (fun (w1 : World) (k : Nat) (hk : Blk w1 k 71 #[.int .i64 148, .int .i64 0, .iface 110 (.pointer (some s))]) (hb : Below w.heap.size w w1) => show TopicSays w s B g most v (e0, 148, T) (.returned (.tuple #[.string ⟨#[]⟩, .iface 68 (.pointer (some ⟨k, 0, none⟩))])) w1 from ⟨_, v, rfl, .inr ⟨(by decide : (148 : Int) ≠ 0), k, rfl, hk⟩, Next26.below HO.out hb⟩)
      have HN := Lib.hid (fun W => new_any 148 0 110 (.pointer (some s)) W)
      unfold ProtoAt at hp
      by_cases h2 : al < 0
      · clear h he h1
        go_enter Tryd.func9, Tryd.ntmps9
        go_wp2_with fail
        refine (HN.out _).mono ?_
        rintro x w1 ⟨rfl, rfl⟩
        go_wp2_with fail
        go_ret2
        exact HF.out _ _ (Blk.made w 71 _) ((Below.refl _ _).alloc (Nat.le_refl _) _)
      · have h3 : most < al := h1.resolve_left h2
        clear h he h1
        go_enter Tryd.func9, Tryd.ntmps9
        go_wp2_with fail
        refine (HN.out _).mono ?_
        rintro x w1 ⟨rfl, rfl⟩
        go_wp2_with fail
        go_ret2
        exact HF.out _ _ (Blk.made w 71 _) ((Below.refl _ _).alloc (Nat.le_refl _) _)
    · rw [if_neg h1]
      obtain ⟨k, rfl⟩ : ∃ k : Nat, al = (k : Int) + 1 := ⟨al.toNat - 1, by omega⟩
      have hk : k < 65535 := by omega
      have hle : (k : Int) + 1 ≤ most := by omega
      rw [show ((k : Int) + 1).toNat - 1 = k by omega]
      by_cases h2 : t = e0
      · rw [if_pos h2]
        rw [decide_eq_true h2] at he
        have HG := Lib.hid (get_any h hm k (by omega))
        have HM := Lib.hid (orm_any hp (T.getD k e0))
        clear h hp h0 h1 h2 hk hm hmo hal
        generalize T.getD k e0 = y at *
        generalize (if y = e0 then (130 : Int) else 0) = q at *
        go_enter Tryd.func9, Tryd.ntmps9
        go_wp2_with fail
        refine HG.out.mono ?_
        rintro x w1 ⟨rfl, rfl⟩
        go_wp2_with fail
        refine HM.out.mono ?_
        rintro x w1 ⟨e, rfl, hf, hb⟩
        have HE := Lib.hid (show TopicSays w s B g most v (y, q, T) (.returned (.tuple #[.string y, e])) w1 from ⟨e, v, rfl, hf, Next26.below HO.out hb⟩)
        clear hf hb HM HG
        go_wp2_with fail
        go_ret2
        exact HE.out
      · rw [if_neg h2]
        rw [decide_eq_false h2] at he
        have HS := Lib.hid (set_any h hB hm k hk t)
        clear h hp h0 h1 h2 hk hm hmo hal
        generalize setI T k t = T' at *
        go_enter Tryd.func9, Tryd.ntmps9
        go_wp2_with fail
        refine HS.out.mono ?_
        rintro x w1 ⟨rfl, v', hn⟩
        have HE := Lib.hid (show TopicSays w s B g most v (t, 0, T') (.returned (.tuple #[.string t, .nilIface])) w1 from ⟨_, v', rfl, .inl ⟨rfl, rfl⟩, hn⟩)
        clear hn HS
        go_wp2_with fail
        go_ret2
        exact HE.out
end
end Go.Proofs.YtldpdhliigkboaaDoor

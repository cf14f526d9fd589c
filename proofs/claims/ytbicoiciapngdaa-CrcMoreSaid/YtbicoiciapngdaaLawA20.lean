/- What is proved here: the first two statements of layer 20 answer true. No conditions but those of the values themselves. -/
import Derived.Test.YtbicoiciapngdaaCrcW20
import Derived.Outline
namespace Go.Proofs.Ytbicoiciapngdaa
open Go.RowKit Go.Extern.Stop Go.Stop Go.Extern

theorem crcIs_walk (n : Int) (s : ByteArray) (w : World) (_hn : -9223372036854775808 ≤ n ∧ n ≤ 9223372036854775807) (hs : s.size ≤ maxLen) :
    Calls Try.prog 3 #[.int .i64 n, .string s] w fun x w' => x = .returned (.bool true) ∧ Below w.heap.size w w' := by
  unfold maxLen at hs
  by_cases hl : 1024 < s.size
  · go_enter Try.func3, Try.ntmps3
    go_wp2_with (go_at_call 19; refine (awake20 _).mono ?_; rintro e w' ⟨rfl, rfl⟩)
    go_ret
    exact ⟨rfl, Below.refl _ _⟩
  · have H1 := Lib.hid (fun w => sum_any s w (by omega))
    have H2 := Lib.hid (fun w => refsum_any s w (by omega))
    have H3 := Lib.hid (fun w => more_any n s w (by omega))
    have H4 := Lib.hid (fun w => refmore_any n s w (by omega))
    generalize crcMore 0 s.data.toList = a at *
    generalize crcMore n s.data.toList = b at *
    go_enter Try.func3, Try.ntmps3
    go_wp2_with fail
    refine (H1.out _).mono ?_
    rintro e w' ⟨rfl, rfl⟩
    go_wp2_with fail
    refine (H2.out _).mono ?_
    rintro e w' ⟨rfl, rfl⟩
    go_wp2_with fail
    refine (H3.out _).mono ?_
    rintro e w' ⟨rfl, rfl⟩
    go_wp2_with fail
    refine (H4.out _).mono ?_
    rintro e w' ⟨rfl, rfl⟩
    go_wp2_with fail
    refine (awake20 _).mono ?_
    rintro e w' ⟨rfl, rfl⟩
    go_wp2
    go_ret
    exact ⟨rfl, Below.refl _ _⟩

theorem crcMore_walk (s t : ByteArray) (w : World) (hs : s.size ≤ maxLen) (ht : t.size ≤ maxLen) :
    Calls Try.prog 4 #[.string s, .string t] w fun x w' => x = .returned (.bool true) ∧ Below w.heap.size w w' := by
  unfold maxLen at hs ht
  by_cases hl : 1024 < s.size
  · go_enter Try.func4, Try.ntmps4
    go_wp2_with (go_at_call 19; refine (awake20 _).mono ?_; rintro e w' ⟨rfl, rfl⟩)
    go_ret
    exact ⟨rfl, Below.refl _ _⟩
  · by_cases hl2 : 1024 < t.size
    · go_enter Try.func4, Try.ntmps4
      go_wp2_with (go_at_call 19; refine (awake20 _).mono ?_; rintro e w' ⟨rfl, rfl⟩)
      go_ret
      exact ⟨rfl, Below.refl _ _⟩
    · have h1 := fun w => sum_any (s ++ t) w (by rw [ByteArray.size_append]; omega)
      have e : (s ++ t).data.toList = s.data.toList ++ t.data.toList := by rw [ByteArray.data_append, Array.toList_append]
      rw [e, crc_more] at h1
      have H1 := Lib.hid h1
      have H2 := Lib.hid (fun w => sum_any s w (by omega))
      have H3 := Lib.hid (fun w => more_any (crcMore 0 s.data.toList : Nat) t w (by omega))
      clear h1 e
      generalize crcMore 0 s.data.toList = a at *
      generalize crcMore (a : Nat) t.data.toList = b at *
      go_enter Try.func4, Try.ntmps4
      go_wp2_with fail
      refine (H1.out _).mono ?_
      rintro e w' ⟨rfl, rfl⟩
      go_wp2_with fail
      refine (H2.out _).mono ?_
      rintro e w' ⟨rfl, rfl⟩
      go_wp2_with fail
      refine (H3.out _).mono ?_
      rintro e w' ⟨rfl, rfl⟩
      go_wp2_with fail
      refine (awake20 _).mono ?_
      rintro e w' ⟨rfl, rfl⟩
      go_wp2
      go_ret
      exact ⟨rfl, Below.refl _ _⟩
end Go.Proofs.Ytbicoiciapngdaa

/- Items of feeds: what both sides answer. -/
import Derived.Test.YtgimjfffdnopiaaW8e
import Derived.Test.YtgimjfffdnopiaaDayIn
namespace Go.Proofs.Ytgimjfffdnopiaa
open Go.ChangeShapes Go.WideShapes Go.ChangeAt Go.RowKit
set_option linter.unusedVariables false

abbrev itV (s t : ByteArray) (d : Int) : Value := .agg #[.string s, .string t, .int .i64 d]
def itB (s t : ByteArray) (d : Int) : Bool := nmB s 8 && ttB t && (decide (0 ≤ d) && decide (d ≤ 200000))

set_option maxRecDepth 100000 in
set_option maxHeartbeats 1600000 in
theorem itemOk_any (s t : ByteArray) (d : Int) (w : World) (hs : s.size ≤ maxLen) (ht : t.size ≤ maxLen) :
    Calls Try.prog 171 #[itV s t d] w fun e w' => e = .returned (.bool (itB s t d)) ∧ Below w.heap.size w w' := by
  have HN := Lib.hid (fun w => isName_any s 8 w hs)
  have HT := Lib.hid (fun w => isTitle_any t w ht)
  have HD := Lib.hid (fun w => isDay_any d w)
  have hB0 : Below w.heap.size w (w.alloc (.cells #[.string s, .string t, .int .i64 d] 101)) := (Below.refl _ _).alloc (Nat.le_refl _) _
  have HE : Hid (itB s t d = (nmB s 8 && ttB t && (decide (0 ≤ d) && decide (d ≤ 200000)))) := Lib.hid rfl
  rw [HE.out]
  generalize nmB s 8 = A at HN ⊢
  generalize ttB t = B at HT ⊢
  generalize (decide (0 ≤ d) && decide (d ≤ 200000)) = C at HD ⊢
  clear HE hs ht
  go_enter Try.func171, Try.ntmps171
  go_wp2_with fail
  refine (HN.out _).mono ?_
  rintro e w1 ⟨rfl, rfl⟩
  cases A with
  | false =>
    go_wp2
    go_ret
    exact ⟨ret_bool (by simp), hB0⟩
  | true =>
    go_wp2_with fail
    refine (HT.out _).mono ?_
    rintro e w2 ⟨rfl, rfl⟩
    cases B with
    | false =>
      go_wp2
      go_ret
      exact ⟨ret_bool (by simp), hB0⟩
    | true =>
      go_wp2_with fail
      refine (HD.out _).mono ?_
      rintro e w3 ⟨rfl, rfl⟩
      go_wp2
      go_ret
      exact ⟨ret_bool (by simp), hB0⟩

set_option maxRecDepth 100000 in
set_option maxHeartbeats 1600000 in
theorem l8Item_any (s t : ByteArray) (d : Int) (w : World) (hs : s.size ≤ maxLen) (ht : t.size ≤ maxLen) :
    Calls Try.prog 186 #[itV s t d] w fun e w' => e = .returned (.bool (itB s t d)) ∧ Below w.heap.size w w' := by
  have HN := Lib.hid (fun w => l8Name_any s 8 w hs)
  have HT := Lib.hid (fun w => l8Title_any t w ht)
  have HD := Lib.hid (fun w => l1In_any d 0 200000 w)
  have hB0 : Below w.heap.size w (w.alloc (.cells #[.string s, .string t, .int .i64 d] 101)) := (Below.refl _ _).alloc (Nat.le_refl _) _
  have HE : Hid (itB s t d = (nmB s 8 && ttB t && (decide (0 ≤ d) && decide (d ≤ 200000)))) := Lib.hid rfl
  rw [HE.out]
  generalize nmB s 8 = A at HN ⊢
  generalize ttB t = B at HT ⊢
  generalize (decide (0 ≤ d) && decide (d ≤ 200000)) = C at HD ⊢
  clear HE hs ht
  go_enter Try.func186, Try.ntmps186
  go_wp2_with fail
  refine (HN.out _).mono ?_
  rintro e w1 ⟨rfl, rfl⟩
  cases A with
  | false =>
    go_wp2
    go_ret
    exact ⟨ret_bool (by simp), hB0⟩
  | true =>
    go_wp2_with fail
    refine (HT.out _).mono ?_
    rintro e w2 ⟨rfl, rfl⟩
    cases B with
    | false =>
      go_wp2
      go_ret
      exact ⟨ret_bool (by simp), hB0⟩
    | true =>
      go_wp2_with fail
      refine (HD.out _).mono ?_
      rintro e w3 ⟨rfl, rfl⟩
      go_wp2
      go_ret
      exact ⟨ret_bool (by simp), hB0⟩
end Go.Proofs.Ytgimjfffdnopiaa

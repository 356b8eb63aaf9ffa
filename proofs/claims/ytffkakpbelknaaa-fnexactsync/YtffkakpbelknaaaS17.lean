/- Joined: W9m. -/
import Derived.Laws.Externs
import Derived.Lib.Bytealg
import Derived.Test.YtffkakpbelknaaaS12
/- W9m -/
namespace Go.Proofs.Ytffkakpbelknaaa
open Go.ChangeShapes Go.WideShapes Go.ChangeAt Go.RowKit
set_option linter.unusedVariables false

def cmpB (a b : ByteArray) : Int := Lib.compareBytes a.data.toList b.data.toList
theorem cmpB_bd (a b : ByteArray) : -1 ≤ cmpB a b ∧ cmpB a b ≤ 1 := by
  unfold cmpB
  generalize a.data.toList = x
  generalize b.data.toList = y
  induction x generalizing y with
  | nil => cases y <;> simp [Lib.compareBytes]
  | cons p x ih =>
    cases y with
    | nil => simp [Lib.compareBytes]
    | cons q y =>
      unfold Lib.compareBytes
      split
      · simp
      · split
        · simp
        · exact ih y
theorem cmp_less (x y : List UInt8) : (Lib.compareBytes x y < 0) ↔ Op.bytesLess x y = true := by
  induction x generalizing y with
  | nil => cases y <;> simp [Lib.compareBytes, Op.bytesLess]
  | cons p x ih =>
    cases y with
    | nil => simp [Lib.compareBytes, Op.bytesLess]
    | cons q y =>
      unfold Lib.compareBytes Op.bytesLess
      by_cases h1 : p < q
      · simp [h1]
      · by_cases h2 : q < p
        · have : p ≠ q := fun h => by subst h; exact h1 h2
          simp [h1, h2, this]
        · have : p = q := UInt8.le_antisymm (UInt8.not_lt.1 h2) (UInt8.not_lt.1 h1)
          subst this
          simp [h1, ih]
theorem cmp_eq0 (x y : List UInt8) : (Lib.compareBytes x y = 0) ↔ x = y := by
  induction x generalizing y with
  | nil => cases y <;> simp [Lib.compareBytes]
  | cons p x ih =>
    cases y with
    | nil => simp [Lib.compareBytes]
    | cons q y =>
      unfold Lib.compareBytes
      by_cases h1 : p < q
      · have : p ≠ q := fun h => by subst h; exact UInt8.lt_irrefl _ h1
        simp [h1, this]
      · by_cases h2 : q < p
        · have : p ≠ q := fun h => by subst h; exact h1 h2
          simp [h1, h2, this]
        · have : p = q := UInt8.le_antisymm (UInt8.not_lt.1 h2) (UInt8.not_lt.1 h1)
          subst this
          simp [h1, ih]

set_option maxHeartbeats 1000000 in
set_option maxRecDepth 100000 in
theorem compareString_any (a b : ByteArray) (w : World) :
    Calls Try.prog 157 #[.string a, .string b] w fun e w' => e = .returned (.int .i64 (cmpB a b)) ∧ w = w' := by
  unfold cmpB
  go_enter Try.func157, Try.ntmps157
  go_wp2
  rw [run_callFunc_extern Try.func167 (by kernel_rfl) (by kernel_rfl) (by kernel_rfl) (e := Extern.BytealgCompare.compare) (by kernel_rfl), Lib.run_compareString]
  simp only [Result.andThen]
  rw [Oper.upon_value]
  go_wp2
  go_ret
  exact ⟨rfl, rfl⟩

set_option maxHeartbeats 1000000 in
theorem compare_any (a b : ByteArray) (w : World) :
    Calls Try.prog 123 #[.string a, .string b] w fun e w' => e = .returned (.int .i64 (cmpB a b)) ∧ w = w' := by
  have HC := Lib.hid (fun w => compareString_any a b w)
  generalize cmpB a b = c at HC ⊢
  go_enter Try.func123, Try.ntmps123
  go_wp2_with fail
  refine (HC.out _).mono ?_
  rintro e w1 ⟨rfl, rfl⟩
  go_wp2
  go_ret
  exact ⟨rfl, rfl⟩

set_option maxHeartbeats 1000000 in
set_option maxRecDepth 100000 in
theorem placeS1_any (u t x : ByteArray) (y : Value) (w : World) :
    Calls Try.prog 122 #[sbV u t y, .string x] w fun e w' => e = .returned (.int .i64 (cmpB u x)) ∧ Below w.heap.size w w' := by
  have HC := Lib.hid (fun w => compare_any u x w)
  have HK := Lib.hid (fun w => keyS_any u t y w)
  generalize cmpB u x = c at HC ⊢
  have hM := fun v w => Try.methodS v w
  have hb0 : Below w.heap.size w (w.alloc (.cells #[.string u, .string t, y] 43)) := (Below.refl _ _).alloc (Nat.le_refl _) _
  go_enter Try.func122, Try.ntmps122
  go_wp2_with fail
  refine (HK.out _).mono ?_
  rintro e w1 ⟨rfl, hb1⟩
  have hb2 := hb0.trans (hb1.mono hb0.size)
  clear hb0 hb1 hM
  go_wp2_with fail
  refine (HC.out _).mono ?_
  rintro e w2 ⟨rfl, rfl⟩
  go_wp2
  go_ret
  exact ⟨rfl, hb2⟩

set_option maxHeartbeats 1000000 in
set_option maxRecDepth 100000 in
theorem placeE1_any (s t x : ByteArray) (d : Int) (r b : Bool) (w : World) :
    Calls Try.prog 164 #[enV s t d r b, .string x] w fun e w' => e = .returned (.int .i64 (cmpB s x)) ∧ Below w.heap.size w w' := by
  have HC := Lib.hid (fun w => compare_any s x w)
  have HK := Lib.hid (fun w => keyE_any s t d r b w)
  generalize cmpB s x = c at HC ⊢
  have hM := fun v w => Try.methodE v w
  have hb0 : Below w.heap.size w (w.alloc (.cells #[.string s, .string t, .int .i64 d, .bool r, .bool b] 47)) := (Below.refl _ _).alloc (Nat.le_refl _) _
  go_enter Try.func164, Try.ntmps164
  go_wp2_with fail
  refine (HK.out _).mono ?_
  rintro e w1 ⟨rfl, hb1⟩
  have hb2 := hb0.trans (hb1.mono hb0.size)
  clear hb0 hb1 hM
  go_wp2_with fail
  refine (HC.out _).mono ?_
  rintro e w2 ⟨rfl, rfl⟩
  go_wp2
  go_ret
  exact ⟨rfl, hb2⟩
end Go.Proofs.Ytffkakpbelknaaa

/- Operations as texts, of the program: deeds. -/
import Derived.Test.YtfjaincogbdeiaaDoorW11a
namespace Go.Proofs.YtfjaincogbdeiaaDoor
open Go.ChangeShapes Go.WideShapes Go.ChangeAt Go.RowKit
set_option linter.unusedVariables false

/-- What deedOf answers for a right operation. -/
def deV (o : OpD) (x : Value) : Value := if o.k = 3 then .iface 115 (.agg #[.string o.fu, .string o.ft, x]) else if o.k = 9 then .iface 119 (.agg #[.int .i64 o.d]) else if o.k = 1 ∨ o.k = 2 ∨ o.k = 8 then .iface 113 (.agg #[.string o.u]) else .iface 117 (.agg #[.string o.u, .string o.i])

theorem Tryd.asFF (v : Value) (w : World) : (Instr.typeAssert (.iface 113 v) 74 113 true).run Tryd.prog w = .ok (.tuple #[v, .bool true]) w := by kernel_rfl
theorem Tryd.asTF (v : Value) (w : World) : (Instr.typeAssert (.iface 115 v) 74 113 true).run Tryd.prog w = .ok (.tuple #[.agg #[.string ⟨#[]⟩], .bool false]) w := by kernel_rfl
theorem Tryd.asTT (v : Value) (w : World) : (Instr.typeAssert (.iface 115 v) 74 115 true).run Tryd.prog w = .ok (.tuple #[v, .bool true]) w := by kernel_rfl
theorem Tryd.asEF (v : Value) (w : World) : (Instr.typeAssert (.iface 117 v) 74 113 true).run Tryd.prog w = .ok (.tuple #[.agg #[.string ⟨#[]⟩], .bool false]) w := by kernel_rfl
theorem Tryd.asET (v : Value) (w : World) : (Instr.typeAssert (.iface 117 v) 74 115 true).run Tryd.prog w = .ok (.tuple #[.agg #[.string ⟨#[]⟩, .string ⟨#[]⟩, .slice none 0 0], .bool false]) w := by kernel_rfl
theorem Tryd.asEE (v : Value) (w : World) : (Instr.typeAssert (.iface 117 v) 74 117 true).run Tryd.prog w = .ok (.tuple #[v, .bool true]) w := by kernel_rfl
theorem Tryd.asDF (v : Value) (w : World) : (Instr.typeAssert (.iface 119 v) 74 113 true).run Tryd.prog w = .ok (.tuple #[.agg #[.string ⟨#[]⟩], .bool false]) w := by kernel_rfl
theorem Tryd.asDT (v : Value) (w : World) : (Instr.typeAssert (.iface 119 v) 74 115 true).run Tryd.prog w = .ok (.tuple #[.agg #[.string ⟨#[]⟩, .string ⟨#[]⟩, .slice none 0 0], .bool false]) w := by kernel_rfl
theorem Tryd.asDE (v : Value) (w : World) : (Instr.typeAssert (.iface 119 v) 74 117 true).run Tryd.prog w = .ok (.tuple #[.agg #[.string ⟨#[]⟩, .string ⟨#[]⟩], .bool false]) w := by kernel_rfl
theorem Tryd.asDD (v : Value) (w : World) : (Instr.typeAssert (.iface 119 v) 74 119 true).run Tryd.prog w = .ok (.tuple #[v, .bool true]) w := by kernel_rfl

set_option maxRecDepth 100000 in
set_option maxHeartbeats 1600000 in
theorem deedOf_any (o : OpD) (x : Value) (w : World) (hk : o.k = 1 ∨ o.k = 2 ∨ o.k = 3 ∨ o.k = 4 ∨ o.k = 5 ∨ o.k = 6 ∨ o.k = 7 ∨ o.k = 8 ∨ o.k = 9) :
    Calls Tryd.prog 40 #[opV o x] w fun e w' => e = .returned (deV o x) ∧ Below w.heap.size w w' := by
  have hB0 : Below w.heap.size w (w.alloc (.cells #[.int .i64 o.k, .string o.u, .string o.i, .int .i64 o.d, .string o.fu, .string o.ft, x] 38)) := (Below.refl _ _).alloc (Nat.le_refl _) _
  obtain ⟨k, u, i, d, fu, ft, its⟩ := o
  simp only at hk hB0 ⊢
  rcases hk with rfl | rfl | rfl | rfl | rfl | rfl | rfl | rfl | rfl
  all_goals
    go_enter Tryd.func40, Tryd.ntmps40
    go_wp2
    go_ret
    exact ⟨rfl, hB0⟩

set_option maxRecDepth 100000 in
set_option maxHeartbeats 1600000 in
theorem deedText_1 (u : ByteArray) (w : World) :
    Calls Tryd.prog 39 #[.iface 113 (.agg #[.string u])] w fun e w' => e = .returned (.string u) ∧ Below w.heap.size w w' := by
  have h1 := Tryd.asFF
  go_enter Tryd.func39, Tryd.ntmps39
  go_wp2
  go_ret
  exact ⟨rfl, by first | exact (Below.refl _ _).alloc (Nat.le_refl _) _ | exact ((Below.refl _ _).alloc (Nat.le_refl _) _).setCell (by simp) _⟩

set_option maxRecDepth 100000 in
set_option maxHeartbeats 1600000 in
theorem deedText_4 (u i : ByteArray) (w : World) (hu : u.size ≤ 20) (hi : i.size ≤ 8) :
    Calls Tryd.prog 39 #[.iface 117 (.agg #[.string u, .string i])] w fun e w' => e = .returned (.string (u ++ ⟨#[32]⟩ ++ i)) ∧ Below w.heap.size w w' := by
  have h1 := Tryd.asEF
  have h2 := Tryd.asET
  have h3 := Tryd.asEE
  obtain ⟨X, hX⟩ : ∃ X, u ++ ⟨#[32]⟩ = X := ⟨_, rfl⟩
  have hs : X.size ≤ 21 := by rw [← hX, ByteArray.size_append]; have : (⟨#[32]⟩ : ByteArray).size = 1 := rfl; omega
  rw [hX]
  obtain ⟨Y, hY⟩ : ∃ Y, X ++ i = Y := ⟨_, rfl⟩
  rw [hY]
  go_enter Tryd.func39, Tryd.ntmps39
  go_wp2
  go_ret
  exact ⟨rfl, by first | exact (Below.refl _ _).alloc (Nat.le_refl _) _ | exact (((Below.refl _ _).alloc (Nat.le_refl _) _).setCell (by simp) _).setCell (by simp) _⟩

set_option maxRecDepth 100000 in
set_option maxHeartbeats 1600000 in
theorem deedText_9 (d : Int) (w : World) (hM : MTab w) (hP : PTab w) :
    Calls Tryd.prog 39 #[.iface 119 (.agg #[.int .i64 d])] w fun e w' => e = .returned (.string (dayT d)) ∧ Below w.heap.size w w' := by
  have h1 := Tryd.asDF
  have h2 := Tryd.asDT
  have h3 := Tryd.asDE
  have h4 := Tryd.asDD
  have HC := Lib.hid (fun w hM hP => dayText_any d w hM hP)
  have HM := Lib.hid hM
  have HP := Lib.hid hP
  generalize dayT d = R at HC ⊢
  clear hM hP
  have hB0 : Below w.heap.size w (w.alloc (.cells #[.int .i64 d] 119)) := (Below.refl _ _).alloc (Nat.le_refl _) _
  go_enter Tryd.func39, Tryd.ntmps39
  go_wp2_with fail
  refine (HC.out _ (HM.out.below hB0 (Nat.le_refl _)) (HP.out.below hB0 (Nat.le_refl _))).mono ?_
  rintro e w1 ⟨rfl, hb1⟩
  have hB1 := hB0.trans (hb1.mono hB0.size)
  clear hb1 hB0
  go_wp2
  go_ret
  exact ⟨rfl, hB1⟩

set_option maxRecDepth 100000 in
set_option maxHeartbeats 1600000 in
theorem deedText_3 (u t : ByteArray) (x : Value) (its : List It) (w : World) (hu : u.size ≤ maxLen) (ht : t.size ≤ maxLen) (h : ItAt w w.heap.size x its) (hT : Tabs w) :
    Calls Tryd.prog 39 #[.iface 115 (.agg #[.string u, .string t, x])] w fun e w' => e = .returned (.string (fdX u t its)) ∧ Below w.heap.size w w' := by
  have h1 := Tryd.asTF
  have h2 := Tryd.asTT
  have HI := Lib.hid h
  have HT := Lib.hid hT
  obtain ⟨a, cap, rfl⟩ := h.1.slice
  have HC := Lib.hid (fun w h hE hM hP => implFeedText_any u t (.slice a its.length cap) its w hu ht h hE hM hP)
  generalize fdX u t its = R at HC ⊢
  clear h hT hu ht
  have hB0 : Below w.heap.size w (w.alloc (.cells #[.string u, .string t, .slice a its.length cap] 115)) := (Below.refl _ _).alloc (Nat.le_refl _) _
  have hT1 := HT.out.below hB0 (Nat.le_refl _)
  have HT1 := Lib.hid hT1
  clear hT1
  go_enter Tryd.func39, Tryd.ntmps39
  go_wp2_with fail
  refine (HC.out _ ((HI.out.below hB0).mono hB0.size) HT1.out.1 HT1.out.2.1 HT1.out.2.2.1).mono ?_
  rintro e w1 ⟨rfl, hb1⟩
  have hB1 := hB0.trans (hb1.mono hB0.size)
  clear hb1 hB0
  go_wp2
  go_ret
  exact ⟨rfl, hB1⟩

theorem deedText_any (o : OpD) (x : Value) (w : World) (hop : opB o = true) (hI : ItAt w w.heap.size x o.its) (hz : OpSz o) (hT : Tabs w) :
    Calls Tryd.prog 39 #[deV o x] w fun e w' => e = .returned (.string (dpX o)) ∧ Below w.heap.size w w' := by
  unfold deV dpX
  by_cases h3 : o.k = 3
  · simp only [if_pos h3]
    exact deedText_3 o.fu o.ft x o.its w hz.2.2.1 hz.2.2.2 hI hT
  · simp only [if_neg h3]
    by_cases h9 : o.k = 9
    · simp only [if_pos h9]
      exact deedText_9 o.d w hT.2.1 hT.2.2.1
    · simp only [if_neg h9]
      have hu := op_u hop ⟨h3, h9⟩
      by_cases h8 : o.k = 1 ∨ o.k = 2 ∨ o.k = 8
      · simp only [if_pos h8]
        exact deedText_1 o.u w
      · simp only [if_neg h8]
        exact deedText_4 o.u o.i w hu (op_i hop (by have := op_kinds11 hop; omega))
end Go.Proofs.YtfjaincogbdeiaaDoor

/- Joined: W9k. -/
import Derived.Test.YtffkakpbelknaaaH17
/- W9k -/
namespace Go.Proofs.Ytffkakpbelknaaa
open Go.ChangeShapes Go.WideShapes Go.ChangeAt Go.RowKit
set_option linter.unusedVariables false

set_option maxRecDepth 100000 in
set_option maxHeartbeats 1600000 in
theorem implOp_1 (k : Int) (hk : k = 1 ∨ k = 2 ∨ k = 8) (u i : ByteArray) (d : Int) (fu ft : ByteArray) (a : Option Addr) (n cap : Nat) (w : World) (hu : u.size ≤ maxLen) :
    Calls Try.prog 23 #[.agg #[.int .i64 k, .string u, .string i, .int .i64 d, .string fu, .string ft, .slice a n cap]] w fun e w' => e = .returned (.bool (nmB u 20 && emB i && dzB d && feB fu ft n)) ∧ Below w.heap.size w w' := by
  have hB0 : Below w.heap.size w (w.alloc (.cells #[.int .i64 k, .string u, .string i, .int .i64 d, .string fu, .string ft, .slice a n cap] 31)) := (Below.refl _ _).alloc (Nat.le_refl _) _
  have hX0 := Box.new w #[.int .i64 k, .string u, .string i, .int .i64 d, .string fu, .string ft, .slice a n cap] 31
  have HN := Lib.hid (fun w => isName_any u 20 w hu)
  generalize nmB u 20 = A at HN ⊢
  have HEi : Hid (emB i = i.toList.isEmpty) := Lib.hid rfl
  rw [HEi.out]
  clear HEi
  have HDZ : Hid (dzB d = (d == 0)) := Lib.hid rfl
  rw [HDZ.out]
  clear HDZ
  have HF := Lib.hid (fun w => feedEmpty_any fu ft a n cap w)
  generalize feB fu ft n = D at HF ⊢
  cases zi : i.toList.isEmpty with
  | false =>
    cases zd : (d == 0) with
    | false =>
      rcases hk with rfl | rfl | rfl
      · go_enter Try.func23, Try.ntmps23
        go_wp2_with fail
        refine (HN.out _).mono ?_
        rintro e w1 ⟨rfl, rfl⟩
        cases A with
        | false =>
          go_wp2
          go_ret
          exact ⟨ret_bool (by simp), hB0⟩
        | true =>
          go_wp2
          go_ret
          exact ⟨ret_bool (by simp), hB0⟩
      · go_enter Try.func23, Try.ntmps23
        go_wp2_with fail
        refine (HN.out _).mono ?_
        rintro e w1 ⟨rfl, rfl⟩
        cases A with
        | false =>
          go_wp2
          go_ret
          exact ⟨ret_bool (by simp), hB0⟩
        | true =>
          go_wp2
          go_ret
          exact ⟨ret_bool (by simp), hB0⟩
      · go_enter Try.func23, Try.ntmps23
        go_wp2_with fail
        refine (HN.out _).mono ?_
        rintro e w1 ⟨rfl, rfl⟩
        cases A with
        | false =>
          go_wp2
          go_ret
          exact ⟨ret_bool (by simp), hB0⟩
        | true =>
          go_wp2
          go_ret
          exact ⟨ret_bool (by simp), hB0⟩
    | true =>
      rcases hk with rfl | rfl | rfl
      · go_enter Try.func23, Try.ntmps23
        go_wp2_with fail
        refine (HN.out _).mono ?_
        rintro e w1 ⟨rfl, rfl⟩
        cases A with
        | false =>
          go_wp2
          go_ret
          exact ⟨ret_bool (by simp), hB0⟩
        | true =>
          go_wp2
          go_ret
          exact ⟨ret_bool (by simp), hB0⟩
      · go_enter Try.func23, Try.ntmps23
        go_wp2_with fail
        refine (HN.out _).mono ?_
        rintro e w1 ⟨rfl, rfl⟩
        cases A with
        | false =>
          go_wp2
          go_ret
          exact ⟨ret_bool (by simp), hB0⟩
        | true =>
          go_wp2
          go_ret
          exact ⟨ret_bool (by simp), hB0⟩
      · go_enter Try.func23, Try.ntmps23
        go_wp2_with fail
        refine (HN.out _).mono ?_
        rintro e w1 ⟨rfl, rfl⟩
        cases A with
        | false =>
          go_wp2
          go_ret
          exact ⟨ret_bool (by simp), hB0⟩
        | true =>
          go_wp2
          go_ret
          exact ⟨ret_bool (by simp), hB0⟩
  | true =>
    cases zd : (d == 0) with
    | false =>
      rcases hk with rfl | rfl | rfl
      · go_enter Try.func23, Try.ntmps23
        go_wp2_with fail
        refine (HN.out _).mono ?_
        rintro e w1 ⟨rfl, rfl⟩
        cases A with
        | false =>
          go_wp2
          go_ret
          exact ⟨ret_bool (by simp), hB0⟩
        | true =>
          go_wp2
          go_ret
          exact ⟨ret_bool (by simp), hB0⟩
      · go_enter Try.func23, Try.ntmps23
        go_wp2_with fail
        refine (HN.out _).mono ?_
        rintro e w1 ⟨rfl, rfl⟩
        cases A with
        | false =>
          go_wp2
          go_ret
          exact ⟨ret_bool (by simp), hB0⟩
        | true =>
          go_wp2
          go_ret
          exact ⟨ret_bool (by simp), hB0⟩
      · go_enter Try.func23, Try.ntmps23
        go_wp2_with fail
        refine (HN.out _).mono ?_
        rintro e w1 ⟨rfl, rfl⟩
        cases A with
        | false =>
          go_wp2
          go_ret
          exact ⟨ret_bool (by simp), hB0⟩
        | true =>
          go_wp2
          go_ret
          exact ⟨ret_bool (by simp), hB0⟩
    | true =>
      rcases hk with rfl | rfl | rfl
      · go_enter Try.func23, Try.ntmps23
        go_wp2_with fail
        refine (HN.out _).mono ?_
        rintro e w1 ⟨rfl, rfl⟩
        cases A with
        | false =>
          go_wp2
          go_ret
          exact ⟨ret_bool (by simp), hB0⟩
        | true =>
          go_wp2_with fail
          refine (HF.out _).mono ?_
          rintro e w2 ⟨rfl, hb2⟩
          have hB2 := hB0.trans (hb2.mono hB0.size)
          clear hb2
          cases D with
          | false =>
            go_wp2
            go_ret
            exact ⟨ret_bool (by simp), hB2⟩
          | true =>
            go_wp2
            go_ret
            exact ⟨ret_bool (by simp), hB2⟩
      · go_enter Try.func23, Try.ntmps23
        go_wp2_with fail
        refine (HN.out _).mono ?_
        rintro e w1 ⟨rfl, rfl⟩
        cases A with
        | false =>
          go_wp2
          go_ret
          exact ⟨ret_bool (by simp), hB0⟩
        | true =>
          go_wp2_with fail
          refine (HF.out _).mono ?_
          rintro e w2 ⟨rfl, hb2⟩
          have hB2 := hB0.trans (hb2.mono hB0.size)
          clear hb2
          cases D with
          | false =>
            go_wp2
            go_ret
            exact ⟨ret_bool (by simp), hB2⟩
          | true =>
            go_wp2
            go_ret
            exact ⟨ret_bool (by simp), hB2⟩
      · go_enter Try.func23, Try.ntmps23
        go_wp2_with fail
        refine (HN.out _).mono ?_
        rintro e w1 ⟨rfl, rfl⟩
        cases A with
        | false =>
          go_wp2
          go_ret
          exact ⟨ret_bool (by simp), hB0⟩
        | true =>
          go_wp2_with fail
          refine (HF.out _).mono ?_
          rintro e w2 ⟨rfl, hb2⟩
          have hB2 := hB0.trans (hb2.mono hB0.size)
          clear hb2
          cases D with
          | false =>
            go_wp2
            go_ret
            exact ⟨ret_bool (by simp), hB2⟩
          | true =>
            go_wp2
            go_ret
            exact ⟨ret_bool (by simp), hB2⟩

set_option maxRecDepth 100000 in
set_option maxHeartbeats 1600000 in
theorem implOp_3 (k : Int) (hk : k = 3) (u i : ByteArray) (d : Int) (fu ft : ByteArray) (a : Option Addr) (n cap : Nat) (its : List It) (w : World) (hfu : fu.size ≤ maxLen) (hft : ft.size ≤ maxLen) (hI : ItAt w w.heap.size (.slice a n cap) its) :
    Calls Try.prog 23 #[.agg #[.int .i64 k, .string u, .string i, .int .i64 d, .string fu, .string ft, .slice a n cap]] w fun e w' => e = .returned (.bool (emB u && emB i && dzB d && fdB fu ft its)) ∧ Below w.heap.size w w' := by
  have hB0 : Below w.heap.size w (w.alloc (.cells #[.int .i64 k, .string u, .string i, .int .i64 d, .string fu, .string ft, .slice a n cap] 31)) := (Below.refl _ _).alloc (Nat.le_refl _) _
  have hX0 := Box.new w #[.int .i64 k, .string u, .string i, .int .i64 d, .string fu, .string ft, .slice a n cap] 31
  have HEu : Hid (emB u = u.toList.isEmpty) := Lib.hid rfl
  rw [HEu.out]
  clear HEu
  have HEi : Hid (emB i = i.toList.isEmpty) := Lib.hid rfl
  rw [HEi.out]
  clear HEi
  have HDZ : Hid (dzB d = (d == 0)) := Lib.hid rfl
  rw [HDZ.out]
  clear HDZ
  have HI := Lib.hid hI
  clear hI
  have HF := Lib.hid (fun w h => implFeedOk_any fu ft (.slice a n cap) its w hfu hft h)
  generalize fdB fu ft its = D at HF ⊢
  cases zu : u.toList.isEmpty with
  | false =>
    cases zi : i.toList.isEmpty with
    | false =>
      cases zd : (d == 0) with
      | false =>
        obtain rfl := hk
        go_enter Try.func23, Try.ntmps23
        go_wp2
        go_ret
        exact ⟨ret_bool (by simp), hB0⟩
      | true =>
        obtain rfl := hk
        go_enter Try.func23, Try.ntmps23
        go_wp2
        go_ret
        exact ⟨ret_bool (by simp), hB0⟩
    | true =>
      cases zd : (d == 0) with
      | false =>
        obtain rfl := hk
        go_enter Try.func23, Try.ntmps23
        go_wp2
        go_ret
        exact ⟨ret_bool (by simp), hB0⟩
      | true =>
        obtain rfl := hk
        go_enter Try.func23, Try.ntmps23
        go_wp2
        go_ret
        exact ⟨ret_bool (by simp), hB0⟩
  | true =>
    cases zi : i.toList.isEmpty with
    | false =>
      cases zd : (d == 0) with
      | false =>
        obtain rfl := hk
        go_enter Try.func23, Try.ntmps23
        go_wp2
        go_ret
        exact ⟨ret_bool (by simp), hB0⟩
      | true =>
        obtain rfl := hk
        go_enter Try.func23, Try.ntmps23
        go_wp2
        go_ret
        exact ⟨ret_bool (by simp), hB0⟩
    | true =>
      cases zd : (d == 0) with
      | false =>
        obtain rfl := hk
        go_enter Try.func23, Try.ntmps23
        go_wp2
        go_ret
        exact ⟨ret_bool (by simp), hB0⟩
      | true =>
        obtain rfl := hk
        go_enter Try.func23, Try.ntmps23
        go_wp2_with fail
        refine (HF.out _ ((HI.out.below hB0).mono hB0.size)).mono ?_
        rintro e w1 ⟨rfl, hb1⟩
        have hB1 := hB0.trans (hb1.mono hB0.size)
        clear hb1
        cases D with
        | false =>
          go_wp2
          go_ret
          exact ⟨ret_bool (by simp), hB1⟩
        | true =>
          go_wp2
          go_ret
          exact ⟨ret_bool (by simp), hB1⟩

set_option maxRecDepth 100000 in
set_option maxHeartbeats 1600000 in
theorem implOp_4 (k : Int) (hk : k = 4 ∨ k = 5 ∨ k = 6 ∨ k = 7) (u i : ByteArray) (d : Int) (fu ft : ByteArray) (a : Option Addr) (n cap : Nat) (w : World) (hu : u.size ≤ maxLen) (hi : i.size ≤ maxLen) :
    Calls Try.prog 23 #[.agg #[.int .i64 k, .string u, .string i, .int .i64 d, .string fu, .string ft, .slice a n cap]] w fun e w' => e = .returned (.bool (nmB u 20 && nmB i 8 && dzB d && feB fu ft n)) ∧ Below w.heap.size w w' := by
  have hB0 : Below w.heap.size w (w.alloc (.cells #[.int .i64 k, .string u, .string i, .int .i64 d, .string fu, .string ft, .slice a n cap] 31)) := (Below.refl _ _).alloc (Nat.le_refl _) _
  have hX0 := Box.new w #[.int .i64 k, .string u, .string i, .int .i64 d, .string fu, .string ft, .slice a n cap] 31
  have HN := Lib.hid (fun w => isName_any u 20 w hu)
  generalize nmB u 20 = A at HN ⊢
  have HM := Lib.hid (fun w => isName_any i 8 w hi)
  generalize nmB i 8 = B at HM ⊢
  have HDZ : Hid (dzB d = (d == 0)) := Lib.hid rfl
  rw [HDZ.out]
  clear HDZ
  have HF := Lib.hid (fun w => feedEmpty_any fu ft a n cap w)
  generalize feB fu ft n = D at HF ⊢
  cases zd : (d == 0) with
  | false =>
    rcases hk with rfl | rfl | rfl | rfl
    · go_enter Try.func23, Try.ntmps23
      go_wp2_with fail
      refine (HN.out _).mono ?_
      rintro e w1 ⟨rfl, rfl⟩
      cases A with
      | false =>
        go_wp2
        go_ret
        exact ⟨ret_bool (by simp), hB0⟩
      | true =>
        go_wp2_with fail
        refine (HM.out _).mono ?_
        rintro e w2 ⟨rfl, rfl⟩
        cases B with
        | false =>
          go_wp2
          go_ret
          exact ⟨ret_bool (by simp), hB0⟩
        | true =>
          go_wp2
          go_ret
          exact ⟨ret_bool (by simp), hB0⟩
    · go_enter Try.func23, Try.ntmps23
      go_wp2_with fail
      refine (HN.out _).mono ?_
      rintro e w1 ⟨rfl, rfl⟩
      cases A with
      | false =>
        go_wp2
        go_ret
        exact ⟨ret_bool (by simp), hB0⟩
      | true =>
        go_wp2_with fail
        refine (HM.out _).mono ?_
        rintro e w2 ⟨rfl, rfl⟩
        cases B with
        | false =>
          go_wp2
          go_ret
          exact ⟨ret_bool (by simp), hB0⟩
        | true =>
          go_wp2
          go_ret
          exact ⟨ret_bool (by simp), hB0⟩
    · go_enter Try.func23, Try.ntmps23
      go_wp2_with fail
      refine (HN.out _).mono ?_
      rintro e w1 ⟨rfl, rfl⟩
      cases A with
      | false =>
        go_wp2
        go_ret
        exact ⟨ret_bool (by simp), hB0⟩
      | true =>
        go_wp2_with fail
        refine (HM.out _).mono ?_
        rintro e w2 ⟨rfl, rfl⟩
        cases B with
        | false =>
          go_wp2
          go_ret
          exact ⟨ret_bool (by simp), hB0⟩
        | true =>
          go_wp2
          go_ret
          exact ⟨ret_bool (by simp), hB0⟩
    · go_enter Try.func23, Try.ntmps23
      go_wp2_with fail
      refine (HN.out _).mono ?_
      rintro e w1 ⟨rfl, rfl⟩
      cases A with
      | false =>
        go_wp2
        go_ret
        exact ⟨ret_bool (by simp), hB0⟩
      | true =>
        go_wp2_with fail
        refine (HM.out _).mono ?_
        rintro e w2 ⟨rfl, rfl⟩
        cases B with
        | false =>
          go_wp2
          go_ret
          exact ⟨ret_bool (by simp), hB0⟩
        | true =>
          go_wp2
          go_ret
          exact ⟨ret_bool (by simp), hB0⟩
  | true =>
    rcases hk with rfl | rfl | rfl | rfl
    · go_enter Try.func23, Try.ntmps23
      go_wp2_with fail
      refine (HN.out _).mono ?_
      rintro e w1 ⟨rfl, rfl⟩
      cases A with
      | false =>
        go_wp2
        go_ret
        exact ⟨ret_bool (by simp), hB0⟩
      | true =>
        go_wp2_with fail
        refine (HM.out _).mono ?_
        rintro e w2 ⟨rfl, rfl⟩
        cases B with
        | false =>
          go_wp2
          go_ret
          exact ⟨ret_bool (by simp), hB0⟩
        | true =>
          go_wp2_with fail
          refine (HF.out _).mono ?_
          rintro e w3 ⟨rfl, hb3⟩
          have hB3 := hB0.trans (hb3.mono hB0.size)
          clear hb3
          cases D with
          | false =>
            go_wp2
            go_ret
            exact ⟨ret_bool (by simp), hB3⟩
          | true =>
            go_wp2
            go_ret
            exact ⟨ret_bool (by simp), hB3⟩
    · go_enter Try.func23, Try.ntmps23
      go_wp2_with fail
      refine (HN.out _).mono ?_
      rintro e w1 ⟨rfl, rfl⟩
      cases A with
      | false =>
        go_wp2
        go_ret
        exact ⟨ret_bool (by simp), hB0⟩
      | true =>
        go_wp2_with fail
        refine (HM.out _).mono ?_
        rintro e w2 ⟨rfl, rfl⟩
        cases B with
        | false =>
          go_wp2
          go_ret
          exact ⟨ret_bool (by simp), hB0⟩
        | true =>
          go_wp2_with fail
          refine (HF.out _).mono ?_
          rintro e w3 ⟨rfl, hb3⟩
          have hB3 := hB0.trans (hb3.mono hB0.size)
          clear hb3
          cases D with
          | false =>
            go_wp2
            go_ret
            exact ⟨ret_bool (by simp), hB3⟩
          | true =>
            go_wp2
            go_ret
            exact ⟨ret_bool (by simp), hB3⟩
    · go_enter Try.func23, Try.ntmps23
      go_wp2_with fail
      refine (HN.out _).mono ?_
      rintro e w1 ⟨rfl, rfl⟩
      cases A with
      | false =>
        go_wp2
        go_ret
        exact ⟨ret_bool (by simp), hB0⟩
      | true =>
        go_wp2_with fail
        refine (HM.out _).mono ?_
        rintro e w2 ⟨rfl, rfl⟩
        cases B with
        | false =>
          go_wp2
          go_ret
          exact ⟨ret_bool (by simp), hB0⟩
        | true =>
          go_wp2_with fail
          refine (HF.out _).mono ?_
          rintro e w3 ⟨rfl, hb3⟩
          have hB3 := hB0.trans (hb3.mono hB0.size)
          clear hb3
          cases D with
          | false =>
            go_wp2
            go_ret
            exact ⟨ret_bool (by simp), hB3⟩
          | true =>
            go_wp2
            go_ret
            exact ⟨ret_bool (by simp), hB3⟩
    · go_enter Try.func23, Try.ntmps23
      go_wp2_with fail
      refine (HN.out _).mono ?_
      rintro e w1 ⟨rfl, rfl⟩
      cases A with
      | false =>
        go_wp2
        go_ret
        exact ⟨ret_bool (by simp), hB0⟩
      | true =>
        go_wp2_with fail
        refine (HM.out _).mono ?_
        rintro e w2 ⟨rfl, rfl⟩
        cases B with
        | false =>
          go_wp2
          go_ret
          exact ⟨ret_bool (by simp), hB0⟩
        | true =>
          go_wp2_with fail
          refine (HF.out _).mono ?_
          rintro e w3 ⟨rfl, hb3⟩
          have hB3 := hB0.trans (hb3.mono hB0.size)
          clear hb3
          cases D with
          | false =>
            go_wp2
            go_ret
            exact ⟨ret_bool (by simp), hB3⟩
          | true =>
            go_wp2
            go_ret
            exact ⟨ret_bool (by simp), hB3⟩

set_option maxRecDepth 100000 in
set_option maxHeartbeats 1600000 in
theorem implOp_9 (k : Int) (hk : k = 9) (u i : ByteArray) (d : Int) (fu ft : ByteArray) (a : Option Addr) (n cap : Nat) (w : World) :
    Calls Try.prog 23 #[.agg #[.int .i64 k, .string u, .string i, .int .i64 d, .string fu, .string ft, .slice a n cap]] w fun e w' => e = .returned (.bool (emB u && emB i && (decide (0 ≤ d) && decide (d ≤ 200000)) && feB fu ft n)) ∧ Below w.heap.size w w' := by
  have hB0 : Below w.heap.size w (w.alloc (.cells #[.int .i64 k, .string u, .string i, .int .i64 d, .string fu, .string ft, .slice a n cap] 31)) := (Below.refl _ _).alloc (Nat.le_refl _) _
  have hX0 := Box.new w #[.int .i64 k, .string u, .string i, .int .i64 d, .string fu, .string ft, .slice a n cap] 31
  have HEu : Hid (emB u = u.toList.isEmpty) := Lib.hid rfl
  rw [HEu.out]
  clear HEu
  have HEi : Hid (emB i = i.toList.isEmpty) := Lib.hid rfl
  rw [HEi.out]
  clear HEi
  have HY := Lib.hid (fun w => isDay_any d w)
  generalize (decide (0 ≤ d) && decide (d ≤ 200000)) = Y at HY ⊢
  have HF := Lib.hid (fun w => feedEmpty_any fu ft a n cap w)
  generalize feB fu ft n = D at HF ⊢
  cases zu : u.toList.isEmpty with
  | false =>
    cases zi : i.toList.isEmpty with
    | false =>
      obtain rfl := hk
      go_enter Try.func23, Try.ntmps23
      go_wp2
      go_ret
      exact ⟨ret_bool (by simp), hB0⟩
    | true =>
      obtain rfl := hk
      go_enter Try.func23, Try.ntmps23
      go_wp2
      go_ret
      exact ⟨ret_bool (by simp), hB0⟩
  | true =>
    cases zi : i.toList.isEmpty with
    | false =>
      obtain rfl := hk
      go_enter Try.func23, Try.ntmps23
      go_wp2
      go_ret
      exact ⟨ret_bool (by simp), hB0⟩
    | true =>
      obtain rfl := hk
      go_enter Try.func23, Try.ntmps23
      go_wp2_with fail
      refine (HY.out _).mono ?_
      rintro e w1 ⟨rfl, rfl⟩
      cases Y with
      | false =>
        go_wp2
        go_ret
        exact ⟨ret_bool (by simp), hB0⟩
      | true =>
        go_wp2_with fail
        refine (HF.out _).mono ?_
        rintro e w2 ⟨rfl, hb2⟩
        have hB2 := hB0.trans (hb2.mono hB0.size)
        clear hb2
        cases D with
        | false =>
          go_wp2
          go_ret
          exact ⟨ret_bool (by simp), hB2⟩
        | true =>
          go_wp2
          go_ret
          exact ⟨ret_bool (by simp), hB2⟩

set_option maxRecDepth 100000 in
set_option maxHeartbeats 1600000 in
theorem implOp_0 (k : Int) (h1 : (k == 1) = false) (h2 : (k == 2) = false) (h3 : (k == 3) = false) (h4 : (k == 4) = false) (h5 : (k == 5) = false) (h6 : (k == 6) = false) (h7 : (k == 7) = false) (h8 : (k == 8) = false) (h9 : (k == 9) = false) (u i : ByteArray) (d : Int) (fu ft : ByteArray) (a : Option Addr) (n cap : Nat) (w : World) :
    Calls Try.prog 23 #[.agg #[.int .i64 k, .string u, .string i, .int .i64 d, .string fu, .string ft, .slice a n cap]] w fun e w' => e = .returned (.bool (false)) ∧ Below w.heap.size w w' := by
  have hB0 : Below w.heap.size w (w.alloc (.cells #[.int .i64 k, .string u, .string i, .int .i64 d, .string fu, .string ft, .slice a n cap] 31)) := (Below.refl _ _).alloc (Nat.le_refl _) _
  have hX0 := Box.new w #[.int .i64 k, .string u, .string i, .int .i64 d, .string fu, .string ft, .slice a n cap] 31
  go_enter Try.func23, Try.ntmps23
  go_wp2
  go_ret
  exact ⟨ret_bool (by simp), hB0⟩

set_option maxRecDepth 100000 in
set_option maxHeartbeats 1600000 in
theorem specOp_3 (k : Int) (hk : k = 3) (u i : ByteArray) (d : Int) (fu ft : ByteArray) (a : Option Addr) (n cap : Nat) (its : List It) (w : World) (hfu : fu.size ≤ maxLen) (hft : ft.size ≤ maxLen) (hI : ItAt w w.heap.size (.slice a n cap) its) :
    Calls Try.prog 24 #[.agg #[.int .i64 k, .string u, .string i, .int .i64 d, .string fu, .string ft, .slice a n cap]] w fun e w' => e = .returned (.bool (fdB fu ft its && emB u && emB i && dzB d)) ∧ Below w.heap.size w w' := by
  have hB0 : Below w.heap.size w (w.alloc (.cells #[.int .i64 k, .string u, .string i, .int .i64 d, .string fu, .string ft, .slice a n cap] 31)) := (Below.refl _ _).alloc (Nat.le_refl _) _
  have hX0 := Box.new w #[.int .i64 k, .string u, .string i, .int .i64 d, .string fu, .string ft, .slice a n cap] 31
  have HEu : Hid (emB u = u.toList.isEmpty) := Lib.hid rfl
  rw [HEu.out]
  clear HEu
  have HEi : Hid (emB i = i.toList.isEmpty) := Lib.hid rfl
  rw [HEi.out]
  clear HEi
  have HDZ : Hid (dzB d = (d == 0)) := Lib.hid rfl
  rw [HDZ.out]
  clear HDZ
  have HI := Lib.hid hI
  clear hI
  have HF := Lib.hid (fun w h => specFeedOk_any fu ft (.slice a n cap) its w hfu hft h)
  generalize fdB fu ft its = D at HF ⊢
  cases zu : u.toList.isEmpty with
  | false =>
    cases zi : i.toList.isEmpty with
    | false =>
      cases zd : (d == 0) with
      | false =>
        obtain rfl := hk
        go_enter Try.func24, Try.ntmps24
        go_wp2_with fail
        refine (HF.out _ ((HI.out.below hB0).mono hB0.size)).mono ?_
        rintro e w1 ⟨rfl, hb1⟩
        have hB1 := hB0.trans (hb1.mono hB0.size)
        have hX1 := hX0.keep hb1 hX0.lt
        have x0 := hX1.cell 0 _ rfl
        have x1 := hX1.cell 1 _ rfl
        have x2 := hX1.cell 2 _ rfl
        have x3 := hX1.cell 3 _ rfl
        clear hb1
        cases D with
        | false =>
          go_wp2
          go_ret
          exact ⟨ret_bool (by simp), hB1⟩
        | true =>
          go_wp2
          go_ret
          exact ⟨ret_bool (by simp), hB1⟩
      | true =>
        obtain rfl := hk
        go_enter Try.func24, Try.ntmps24
        go_wp2_with fail
        refine (HF.out _ ((HI.out.below hB0).mono hB0.size)).mono ?_
        rintro e w1 ⟨rfl, hb1⟩
        have hB1 := hB0.trans (hb1.mono hB0.size)
        have hX1 := hX0.keep hb1 hX0.lt
        have x0 := hX1.cell 0 _ rfl
        have x1 := hX1.cell 1 _ rfl
        have x2 := hX1.cell 2 _ rfl
        have x3 := hX1.cell 3 _ rfl
        clear hb1
        cases D with
        | false =>
          go_wp2
          go_ret
          exact ⟨ret_bool (by simp), hB1⟩
        | true =>
          go_wp2
          go_ret
          exact ⟨ret_bool (by simp), hB1⟩
    | true =>
      cases zd : (d == 0) with
      | false =>
        obtain rfl := hk
        go_enter Try.func24, Try.ntmps24
        go_wp2_with fail
        refine (HF.out _ ((HI.out.below hB0).mono hB0.size)).mono ?_
        rintro e w1 ⟨rfl, hb1⟩
        have hB1 := hB0.trans (hb1.mono hB0.size)
        have hX1 := hX0.keep hb1 hX0.lt
        have x0 := hX1.cell 0 _ rfl
        have x1 := hX1.cell 1 _ rfl
        have x2 := hX1.cell 2 _ rfl
        have x3 := hX1.cell 3 _ rfl
        clear hb1
        cases D with
        | false =>
          go_wp2
          go_ret
          exact ⟨ret_bool (by simp), hB1⟩
        | true =>
          go_wp2
          go_ret
          exact ⟨ret_bool (by simp), hB1⟩
      | true =>
        obtain rfl := hk
        go_enter Try.func24, Try.ntmps24
        go_wp2_with fail
        refine (HF.out _ ((HI.out.below hB0).mono hB0.size)).mono ?_
        rintro e w1 ⟨rfl, hb1⟩
        have hB1 := hB0.trans (hb1.mono hB0.size)
        have hX1 := hX0.keep hb1 hX0.lt
        have x0 := hX1.cell 0 _ rfl
        have x1 := hX1.cell 1 _ rfl
        have x2 := hX1.cell 2 _ rfl
        have x3 := hX1.cell 3 _ rfl
        clear hb1
        cases D with
        | false =>
          go_wp2
          go_ret
          exact ⟨ret_bool (by simp), hB1⟩
        | true =>
          go_wp2
          go_ret
          exact ⟨ret_bool (by simp), hB1⟩
  | true =>
    cases zi : i.toList.isEmpty with
    | false =>
      cases zd : (d == 0) with
      | false =>
        obtain rfl := hk
        go_enter Try.func24, Try.ntmps24
        go_wp2_with fail
        refine (HF.out _ ((HI.out.below hB0).mono hB0.size)).mono ?_
        rintro e w1 ⟨rfl, hb1⟩
        have hB1 := hB0.trans (hb1.mono hB0.size)
        have hX1 := hX0.keep hb1 hX0.lt
        have x0 := hX1.cell 0 _ rfl
        have x1 := hX1.cell 1 _ rfl
        have x2 := hX1.cell 2 _ rfl
        have x3 := hX1.cell 3 _ rfl
        clear hb1
        cases D with
        | false =>
          go_wp2
          go_ret
          exact ⟨ret_bool (by simp), hB1⟩
        | true =>
          go_wp2
          go_ret
          exact ⟨ret_bool (by simp), hB1⟩
      | true =>
        obtain rfl := hk
        go_enter Try.func24, Try.ntmps24
        go_wp2_with fail
        refine (HF.out _ ((HI.out.below hB0).mono hB0.size)).mono ?_
        rintro e w1 ⟨rfl, hb1⟩
        have hB1 := hB0.trans (hb1.mono hB0.size)
        have hX1 := hX0.keep hb1 hX0.lt
        have x0 := hX1.cell 0 _ rfl
        have x1 := hX1.cell 1 _ rfl
        have x2 := hX1.cell 2 _ rfl
        have x3 := hX1.cell 3 _ rfl
        clear hb1
        cases D with
        | false =>
          go_wp2
          go_ret
          exact ⟨ret_bool (by simp), hB1⟩
        | true =>
          go_wp2
          go_ret
          exact ⟨ret_bool (by simp), hB1⟩
    | true =>
      cases zd : (d == 0) with
      | false =>
        obtain rfl := hk
        go_enter Try.func24, Try.ntmps24
        go_wp2_with fail
        refine (HF.out _ ((HI.out.below hB0).mono hB0.size)).mono ?_
        rintro e w1 ⟨rfl, hb1⟩
        have hB1 := hB0.trans (hb1.mono hB0.size)
        have hX1 := hX0.keep hb1 hX0.lt
        have x0 := hX1.cell 0 _ rfl
        have x1 := hX1.cell 1 _ rfl
        have x2 := hX1.cell 2 _ rfl
        have x3 := hX1.cell 3 _ rfl
        clear hb1
        cases D with
        | false =>
          go_wp2
          go_ret
          exact ⟨ret_bool (by simp), hB1⟩
        | true =>
          go_wp2
          go_ret
          exact ⟨ret_bool (by simp), hB1⟩
      | true =>
        obtain rfl := hk
        go_enter Try.func24, Try.ntmps24
        go_wp2_with fail
        refine (HF.out _ ((HI.out.below hB0).mono hB0.size)).mono ?_
        rintro e w1 ⟨rfl, hb1⟩
        have hB1 := hB0.trans (hb1.mono hB0.size)
        have hX1 := hX0.keep hb1 hX0.lt
        have x0 := hX1.cell 0 _ rfl
        have x1 := hX1.cell 1 _ rfl
        have x2 := hX1.cell 2 _ rfl
        have x3 := hX1.cell 3 _ rfl
        clear hb1
        cases D with
        | false =>
          go_wp2
          go_ret
          exact ⟨ret_bool (by simp), hB1⟩
        | true =>
          go_wp2
          go_ret
          exact ⟨ret_bool (by simp), hB1⟩

set_option maxRecDepth 100000 in
set_option maxHeartbeats 1600000 in
theorem specOp_1 (k : Int) (hk : k = 1 ∨ k = 2 ∨ k = 8) (u i : ByteArray) (d : Int) (fu ft : ByteArray) (a : Option Addr) (n cap : Nat) (w : World) (hu : u.size ≤ maxLen) :
    Calls Try.prog 24 #[.agg #[.int .i64 k, .string u, .string i, .int .i64 d, .string fu, .string ft, .slice a n cap]] w fun e w' => e = .returned (.bool (feB fu ft n && (nmB u 20 && emB i && dzB d))) ∧ Below w.heap.size w w' := by
  have hB0 : Below w.heap.size w (w.alloc (.cells #[.int .i64 k, .string u, .string i, .int .i64 d, .string fu, .string ft, .slice a n cap] 31)) := (Below.refl _ _).alloc (Nat.le_refl _) _
  have hX0 := Box.new w #[.int .i64 k, .string u, .string i, .int .i64 d, .string fu, .string ft, .slice a n cap] 31
  have HN := Lib.hid (fun w => l8Name_any u 20 w hu)
  generalize nmB u 20 = A at HN ⊢
  have HEi : Hid (emB i = i.toList.isEmpty) := Lib.hid rfl
  rw [HEi.out]
  clear HEi
  have HDZ : Hid (dzB d = (d == 0)) := Lib.hid rfl
  rw [HDZ.out]
  clear HDZ
  have HF := Lib.hid (fun w => l9Empty_any fu ft a n cap w)
  generalize feB fu ft n = D at HF ⊢
  cases zi : i.toList.isEmpty with
  | false =>
    cases zd : (d == 0) with
    | false =>
      rcases hk with rfl | rfl | rfl
      · go_enter Try.func24, Try.ntmps24
        go_wp2_with fail
        refine (HF.out _).mono ?_
        rintro e w1 ⟨rfl, hb1⟩
        have hB1 := hB0.trans (hb1.mono hB0.size)
        have hX1 := hX0.keep hb1 hX0.lt
        have x0 := hX1.cell 0 _ rfl
        have x1 := hX1.cell 1 _ rfl
        have x2 := hX1.cell 2 _ rfl
        have x3 := hX1.cell 3 _ rfl
        clear hb1
        cases D with
        | false =>
          go_wp2
          go_ret
          exact ⟨ret_bool (by simp), hB1⟩
        | true =>
          go_wp2_with fail
          refine (HN.out _).mono ?_
          rintro e w2 ⟨rfl, rfl⟩
          cases A with
          | false =>
            go_wp2
            go_ret
            exact ⟨ret_bool (by simp), hB1⟩
          | true =>
            go_wp2
            go_ret
            exact ⟨ret_bool (by simp), hB1⟩
      · go_enter Try.func24, Try.ntmps24
        go_wp2_with fail
        refine (HF.out _).mono ?_
        rintro e w1 ⟨rfl, hb1⟩
        have hB1 := hB0.trans (hb1.mono hB0.size)
        have hX1 := hX0.keep hb1 hX0.lt
        have x0 := hX1.cell 0 _ rfl
        have x1 := hX1.cell 1 _ rfl
        have x2 := hX1.cell 2 _ rfl
        have x3 := hX1.cell 3 _ rfl
        clear hb1
        cases D with
        | false =>
          go_wp2
          go_ret
          exact ⟨ret_bool (by simp), hB1⟩
        | true =>
          go_wp2_with fail
          refine (HN.out _).mono ?_
          rintro e w2 ⟨rfl, rfl⟩
          cases A with
          | false =>
            go_wp2
            go_ret
            exact ⟨ret_bool (by simp), hB1⟩
          | true =>
            go_wp2
            go_ret
            exact ⟨ret_bool (by simp), hB1⟩
      · go_enter Try.func24, Try.ntmps24
        go_wp2_with fail
        refine (HF.out _).mono ?_
        rintro e w1 ⟨rfl, hb1⟩
        have hB1 := hB0.trans (hb1.mono hB0.size)
        have hX1 := hX0.keep hb1 hX0.lt
        have x0 := hX1.cell 0 _ rfl
        have x1 := hX1.cell 1 _ rfl
        have x2 := hX1.cell 2 _ rfl
        have x3 := hX1.cell 3 _ rfl
        clear hb1
        cases D with
        | false =>
          go_wp2
          go_ret
          exact ⟨ret_bool (by simp), hB1⟩
        | true =>
          go_wp2_with fail
          refine (HN.out _).mono ?_
          rintro e w2 ⟨rfl, rfl⟩
          cases A with
          | false =>
            go_wp2
            go_ret
            exact ⟨ret_bool (by simp), hB1⟩
          | true =>
            go_wp2
            go_ret
            exact ⟨ret_bool (by simp), hB1⟩
    | true =>
      rcases hk with rfl | rfl | rfl
      · go_enter Try.func24, Try.ntmps24
        go_wp2_with fail
        refine (HF.out _).mono ?_
        rintro e w1 ⟨rfl, hb1⟩
        have hB1 := hB0.trans (hb1.mono hB0.size)
        have hX1 := hX0.keep hb1 hX0.lt
        have x0 := hX1.cell 0 _ rfl
        have x1 := hX1.cell 1 _ rfl
        have x2 := hX1.cell 2 _ rfl
        have x3 := hX1.cell 3 _ rfl
        clear hb1
        cases D with
        | false =>
          go_wp2
          go_ret
          exact ⟨ret_bool (by simp), hB1⟩
        | true =>
          go_wp2_with fail
          refine (HN.out _).mono ?_
          rintro e w2 ⟨rfl, rfl⟩
          cases A with
          | false =>
            go_wp2
            go_ret
            exact ⟨ret_bool (by simp), hB1⟩
          | true =>
            go_wp2
            go_ret
            exact ⟨ret_bool (by simp), hB1⟩
      · go_enter Try.func24, Try.ntmps24
        go_wp2_with fail
        refine (HF.out _).mono ?_
        rintro e w1 ⟨rfl, hb1⟩
        have hB1 := hB0.trans (hb1.mono hB0.size)
        have hX1 := hX0.keep hb1 hX0.lt
        have x0 := hX1.cell 0 _ rfl
        have x1 := hX1.cell 1 _ rfl
        have x2 := hX1.cell 2 _ rfl
        have x3 := hX1.cell 3 _ rfl
        clear hb1
        cases D with
        | false =>
          go_wp2
          go_ret
          exact ⟨ret_bool (by simp), hB1⟩
        | true =>
          go_wp2_with fail
          refine (HN.out _).mono ?_
          rintro e w2 ⟨rfl, rfl⟩
          cases A with
          | false =>
            go_wp2
            go_ret
            exact ⟨ret_bool (by simp), hB1⟩
          | true =>
            go_wp2
            go_ret
            exact ⟨ret_bool (by simp), hB1⟩
      · go_enter Try.func24, Try.ntmps24
        go_wp2_with fail
        refine (HF.out _).mono ?_
        rintro e w1 ⟨rfl, hb1⟩
        have hB1 := hB0.trans (hb1.mono hB0.size)
        have hX1 := hX0.keep hb1 hX0.lt
        have x0 := hX1.cell 0 _ rfl
        have x1 := hX1.cell 1 _ rfl
        have x2 := hX1.cell 2 _ rfl
        have x3 := hX1.cell 3 _ rfl
        clear hb1
        cases D with
        | false =>
          go_wp2
          go_ret
          exact ⟨ret_bool (by simp), hB1⟩
        | true =>
          go_wp2_with fail
          refine (HN.out _).mono ?_
          rintro e w2 ⟨rfl, rfl⟩
          cases A with
          | false =>
            go_wp2
            go_ret
            exact ⟨ret_bool (by simp), hB1⟩
          | true =>
            go_wp2
            go_ret
            exact ⟨ret_bool (by simp), hB1⟩
  | true =>
    cases zd : (d == 0) with
    | false =>
      rcases hk with rfl | rfl | rfl
      · go_enter Try.func24, Try.ntmps24
        go_wp2_with fail
        refine (HF.out _).mono ?_
        rintro e w1 ⟨rfl, hb1⟩
        have hB1 := hB0.trans (hb1.mono hB0.size)
        have hX1 := hX0.keep hb1 hX0.lt
        have x0 := hX1.cell 0 _ rfl
        have x1 := hX1.cell 1 _ rfl
        have x2 := hX1.cell 2 _ rfl
        have x3 := hX1.cell 3 _ rfl
        clear hb1
        cases D with
        | false =>
          go_wp2
          go_ret
          exact ⟨ret_bool (by simp), hB1⟩
        | true =>
          go_wp2_with fail
          refine (HN.out _).mono ?_
          rintro e w2 ⟨rfl, rfl⟩
          cases A with
          | false =>
            go_wp2
            go_ret
            exact ⟨ret_bool (by simp), hB1⟩
          | true =>
            go_wp2
            go_ret
            exact ⟨ret_bool (by simp), hB1⟩
      · go_enter Try.func24, Try.ntmps24
        go_wp2_with fail
        refine (HF.out _).mono ?_
        rintro e w1 ⟨rfl, hb1⟩
        have hB1 := hB0.trans (hb1.mono hB0.size)
        have hX1 := hX0.keep hb1 hX0.lt
        have x0 := hX1.cell 0 _ rfl
        have x1 := hX1.cell 1 _ rfl
        have x2 := hX1.cell 2 _ rfl
        have x3 := hX1.cell 3 _ rfl
        clear hb1
        cases D with
        | false =>
          go_wp2
          go_ret
          exact ⟨ret_bool (by simp), hB1⟩
        | true =>
          go_wp2_with fail
          refine (HN.out _).mono ?_
          rintro e w2 ⟨rfl, rfl⟩
          cases A with
          | false =>
            go_wp2
            go_ret
            exact ⟨ret_bool (by simp), hB1⟩
          | true =>
            go_wp2
            go_ret
            exact ⟨ret_bool (by simp), hB1⟩
      · go_enter Try.func24, Try.ntmps24
        go_wp2_with fail
        refine (HF.out _).mono ?_
        rintro e w1 ⟨rfl, hb1⟩
        have hB1 := hB0.trans (hb1.mono hB0.size)
        have hX1 := hX0.keep hb1 hX0.lt
        have x0 := hX1.cell 0 _ rfl
        have x1 := hX1.cell 1 _ rfl
        have x2 := hX1.cell 2 _ rfl
        have x3 := hX1.cell 3 _ rfl
        clear hb1
        cases D with
        | false =>
          go_wp2
          go_ret
          exact ⟨ret_bool (by simp), hB1⟩
        | true =>
          go_wp2_with fail
          refine (HN.out _).mono ?_
          rintro e w2 ⟨rfl, rfl⟩
          cases A with
          | false =>
            go_wp2
            go_ret
            exact ⟨ret_bool (by simp), hB1⟩
          | true =>
            go_wp2
            go_ret
            exact ⟨ret_bool (by simp), hB1⟩
    | true =>
      rcases hk with rfl | rfl | rfl
      · go_enter Try.func24, Try.ntmps24
        go_wp2_with fail
        refine (HF.out _).mono ?_
        rintro e w1 ⟨rfl, hb1⟩
        have hB1 := hB0.trans (hb1.mono hB0.size)
        have hX1 := hX0.keep hb1 hX0.lt
        have x0 := hX1.cell 0 _ rfl
        have x1 := hX1.cell 1 _ rfl
        have x2 := hX1.cell 2 _ rfl
        have x3 := hX1.cell 3 _ rfl
        clear hb1
        cases D with
        | false =>
          go_wp2
          go_ret
          exact ⟨ret_bool (by simp), hB1⟩
        | true =>
          go_wp2_with fail
          refine (HN.out _).mono ?_
          rintro e w2 ⟨rfl, rfl⟩
          cases A with
          | false =>
            go_wp2
            go_ret
            exact ⟨ret_bool (by simp), hB1⟩
          | true =>
            go_wp2
            go_ret
            exact ⟨ret_bool (by simp), hB1⟩
      · go_enter Try.func24, Try.ntmps24
        go_wp2_with fail
        refine (HF.out _).mono ?_
        rintro e w1 ⟨rfl, hb1⟩
        have hB1 := hB0.trans (hb1.mono hB0.size)
        have hX1 := hX0.keep hb1 hX0.lt
        have x0 := hX1.cell 0 _ rfl
        have x1 := hX1.cell 1 _ rfl
        have x2 := hX1.cell 2 _ rfl
        have x3 := hX1.cell 3 _ rfl
        clear hb1
        cases D with
        | false =>
          go_wp2
          go_ret
          exact ⟨ret_bool (by simp), hB1⟩
        | true =>
          go_wp2_with fail
          refine (HN.out _).mono ?_
          rintro e w2 ⟨rfl, rfl⟩
          cases A with
          | false =>
            go_wp2
            go_ret
            exact ⟨ret_bool (by simp), hB1⟩
          | true =>
            go_wp2
            go_ret
            exact ⟨ret_bool (by simp), hB1⟩
      · go_enter Try.func24, Try.ntmps24
        go_wp2_with fail
        refine (HF.out _).mono ?_
        rintro e w1 ⟨rfl, hb1⟩
        have hB1 := hB0.trans (hb1.mono hB0.size)
        have hX1 := hX0.keep hb1 hX0.lt
        have x0 := hX1.cell 0 _ rfl
        have x1 := hX1.cell 1 _ rfl
        have x2 := hX1.cell 2 _ rfl
        have x3 := hX1.cell 3 _ rfl
        clear hb1
        cases D with
        | false =>
          go_wp2
          go_ret
          exact ⟨ret_bool (by simp), hB1⟩
        | true =>
          go_wp2_with fail
          refine (HN.out _).mono ?_
          rintro e w2 ⟨rfl, rfl⟩
          cases A with
          | false =>
            go_wp2
            go_ret
            exact ⟨ret_bool (by simp), hB1⟩
          | true =>
            go_wp2
            go_ret
            exact ⟨ret_bool (by simp), hB1⟩

set_option maxRecDepth 100000 in
set_option maxHeartbeats 1600000 in
theorem specOp_4 (k : Int) (hk : k = 4 ∨ k = 5 ∨ k = 6 ∨ k = 7) (u i : ByteArray) (d : Int) (fu ft : ByteArray) (a : Option Addr) (n cap : Nat) (w : World) (hu : u.size ≤ maxLen) (hi : i.size ≤ maxLen) :
    Calls Try.prog 24 #[.agg #[.int .i64 k, .string u, .string i, .int .i64 d, .string fu, .string ft, .slice a n cap]] w fun e w' => e = .returned (.bool (feB fu ft n && (nmB u 20 && nmB i 8 && dzB d))) ∧ Below w.heap.size w w' := by
  have hB0 : Below w.heap.size w (w.alloc (.cells #[.int .i64 k, .string u, .string i, .int .i64 d, .string fu, .string ft, .slice a n cap] 31)) := (Below.refl _ _).alloc (Nat.le_refl _) _
  have hX0 := Box.new w #[.int .i64 k, .string u, .string i, .int .i64 d, .string fu, .string ft, .slice a n cap] 31
  have HN := Lib.hid (fun w => l8Name_any u 20 w hu)
  generalize nmB u 20 = A at HN ⊢
  have HM := Lib.hid (fun w => l8Name_any i 8 w hi)
  generalize nmB i 8 = B at HM ⊢
  have HDZ : Hid (dzB d = (d == 0)) := Lib.hid rfl
  rw [HDZ.out]
  clear HDZ
  have HF := Lib.hid (fun w => l9Empty_any fu ft a n cap w)
  generalize feB fu ft n = D at HF ⊢
  cases zd : (d == 0) with
  | false =>
    rcases hk with rfl | rfl | rfl | rfl
    · go_enter Try.func24, Try.ntmps24
      go_wp2_with fail
      refine (HF.out _).mono ?_
      rintro e w1 ⟨rfl, hb1⟩
      have hB1 := hB0.trans (hb1.mono hB0.size)
      have hX1 := hX0.keep hb1 hX0.lt
      have x0 := hX1.cell 0 _ rfl
      have x1 := hX1.cell 1 _ rfl
      have x2 := hX1.cell 2 _ rfl
      have x3 := hX1.cell 3 _ rfl
      clear hb1
      cases D with
      | false =>
        go_wp2
        go_ret
        exact ⟨ret_bool (by simp), hB1⟩
      | true =>
        go_wp2_with fail
        refine (HN.out _).mono ?_
        rintro e w2 ⟨rfl, rfl⟩
        cases A with
        | false =>
          go_wp2
          go_ret
          exact ⟨ret_bool (by simp), hB1⟩
        | true =>
          go_wp2_with fail
          refine (HM.out _).mono ?_
          rintro e w3 ⟨rfl, rfl⟩
          cases B with
          | false =>
            go_wp2
            go_ret
            exact ⟨ret_bool (by simp), hB1⟩
          | true =>
            go_wp2
            go_ret
            exact ⟨ret_bool (by simp), hB1⟩
    · go_enter Try.func24, Try.ntmps24
      go_wp2_with fail
      refine (HF.out _).mono ?_
      rintro e w1 ⟨rfl, hb1⟩
      have hB1 := hB0.trans (hb1.mono hB0.size)
      have hX1 := hX0.keep hb1 hX0.lt
      have x0 := hX1.cell 0 _ rfl
      have x1 := hX1.cell 1 _ rfl
      have x2 := hX1.cell 2 _ rfl
      have x3 := hX1.cell 3 _ rfl
      clear hb1
      cases D with
      | false =>
        go_wp2
        go_ret
        exact ⟨ret_bool (by simp), hB1⟩
      | true =>
        go_wp2_with fail
        refine (HN.out _).mono ?_
        rintro e w2 ⟨rfl, rfl⟩
        cases A with
        | false =>
          go_wp2
          go_ret
          exact ⟨ret_bool (by simp), hB1⟩
        | true =>
          go_wp2_with fail
          refine (HM.out _).mono ?_
          rintro e w3 ⟨rfl, rfl⟩
          cases B with
          | false =>
            go_wp2
            go_ret
            exact ⟨ret_bool (by simp), hB1⟩
          | true =>
            go_wp2
            go_ret
            exact ⟨ret_bool (by simp), hB1⟩
    · go_enter Try.func24, Try.ntmps24
      go_wp2_with fail
      refine (HF.out _).mono ?_
      rintro e w1 ⟨rfl, hb1⟩
      have hB1 := hB0.trans (hb1.mono hB0.size)
      have hX1 := hX0.keep hb1 hX0.lt
      have x0 := hX1.cell 0 _ rfl
      have x1 := hX1.cell 1 _ rfl
      have x2 := hX1.cell 2 _ rfl
      have x3 := hX1.cell 3 _ rfl
      clear hb1
      cases D with
      | false =>
        go_wp2
        go_ret
        exact ⟨ret_bool (by simp), hB1⟩
      | true =>
        go_wp2_with fail
        refine (HN.out _).mono ?_
        rintro e w2 ⟨rfl, rfl⟩
        cases A with
        | false =>
          go_wp2
          go_ret
          exact ⟨ret_bool (by simp), hB1⟩
        | true =>
          go_wp2_with fail
          refine (HM.out _).mono ?_
          rintro e w3 ⟨rfl, rfl⟩
          cases B with
          | false =>
            go_wp2
            go_ret
            exact ⟨ret_bool (by simp), hB1⟩
          | true =>
            go_wp2
            go_ret
            exact ⟨ret_bool (by simp), hB1⟩
    · go_enter Try.func24, Try.ntmps24
      go_wp2_with fail
      refine (HF.out _).mono ?_
      rintro e w1 ⟨rfl, hb1⟩
      have hB1 := hB0.trans (hb1.mono hB0.size)
      have hX1 := hX0.keep hb1 hX0.lt
      have x0 := hX1.cell 0 _ rfl
      have x1 := hX1.cell 1 _ rfl
      have x2 := hX1.cell 2 _ rfl
      have x3 := hX1.cell 3 _ rfl
      clear hb1
      cases D with
      | false =>
        go_wp2
        go_ret
        exact ⟨ret_bool (by simp), hB1⟩
      | true =>
        go_wp2_with fail
        refine (HN.out _).mono ?_
        rintro e w2 ⟨rfl, rfl⟩
        cases A with
        | false =>
          go_wp2
          go_ret
          exact ⟨ret_bool (by simp), hB1⟩
        | true =>
          go_wp2_with fail
          refine (HM.out _).mono ?_
          rintro e w3 ⟨rfl, rfl⟩
          cases B with
          | false =>
            go_wp2
            go_ret
            exact ⟨ret_bool (by simp), hB1⟩
          | true =>
            go_wp2
            go_ret
            exact ⟨ret_bool (by simp), hB1⟩
  | true =>
    rcases hk with rfl | rfl | rfl | rfl
    · go_enter Try.func24, Try.ntmps24
      go_wp2_with fail
      refine (HF.out _).mono ?_
      rintro e w1 ⟨rfl, hb1⟩
      have hB1 := hB0.trans (hb1.mono hB0.size)
      have hX1 := hX0.keep hb1 hX0.lt
      have x0 := hX1.cell 0 _ rfl
      have x1 := hX1.cell 1 _ rfl
      have x2 := hX1.cell 2 _ rfl
      have x3 := hX1.cell 3 _ rfl
      clear hb1
      cases D with
      | false =>
        go_wp2
        go_ret
        exact ⟨ret_bool (by simp), hB1⟩
      | true =>
        go_wp2_with fail
        refine (HN.out _).mono ?_
        rintro e w2 ⟨rfl, rfl⟩
        cases A with
        | false =>
          go_wp2
          go_ret
          exact ⟨ret_bool (by simp), hB1⟩
        | true =>
          go_wp2_with fail
          refine (HM.out _).mono ?_
          rintro e w3 ⟨rfl, rfl⟩
          cases B with
          | false =>
            go_wp2
            go_ret
            exact ⟨ret_bool (by simp), hB1⟩
          | true =>
            go_wp2
            go_ret
            exact ⟨ret_bool (by simp), hB1⟩
    · go_enter Try.func24, Try.ntmps24
      go_wp2_with fail
      refine (HF.out _).mono ?_
      rintro e w1 ⟨rfl, hb1⟩
      have hB1 := hB0.trans (hb1.mono hB0.size)
      have hX1 := hX0.keep hb1 hX0.lt
      have x0 := hX1.cell 0 _ rfl
      have x1 := hX1.cell 1 _ rfl
      have x2 := hX1.cell 2 _ rfl
      have x3 := hX1.cell 3 _ rfl
      clear hb1
      cases D with
      | false =>
        go_wp2
        go_ret
        exact ⟨ret_bool (by simp), hB1⟩
      | true =>
        go_wp2_with fail
        refine (HN.out _).mono ?_
        rintro e w2 ⟨rfl, rfl⟩
        cases A with
        | false =>
          go_wp2
          go_ret
          exact ⟨ret_bool (by simp), hB1⟩
        | true =>
          go_wp2_with fail
          refine (HM.out _).mono ?_
          rintro e w3 ⟨rfl, rfl⟩
          cases B with
          | false =>
            go_wp2
            go_ret
            exact ⟨ret_bool (by simp), hB1⟩
          | true =>
            go_wp2
            go_ret
            exact ⟨ret_bool (by simp), hB1⟩
    · go_enter Try.func24, Try.ntmps24
      go_wp2_with fail
      refine (HF.out _).mono ?_
      rintro e w1 ⟨rfl, hb1⟩
      have hB1 := hB0.trans (hb1.mono hB0.size)
      have hX1 := hX0.keep hb1 hX0.lt
      have x0 := hX1.cell 0 _ rfl
      have x1 := hX1.cell 1 _ rfl
      have x2 := hX1.cell 2 _ rfl
      have x3 := hX1.cell 3 _ rfl
      clear hb1
      cases D with
      | false =>
        go_wp2
        go_ret
        exact ⟨ret_bool (by simp), hB1⟩
      | true =>
        go_wp2_with fail
        refine (HN.out _).mono ?_
        rintro e w2 ⟨rfl, rfl⟩
        cases A with
        | false =>
          go_wp2
          go_ret
          exact ⟨ret_bool (by simp), hB1⟩
        | true =>
          go_wp2_with fail
          refine (HM.out _).mono ?_
          rintro e w3 ⟨rfl, rfl⟩
          cases B with
          | false =>
            go_wp2
            go_ret
            exact ⟨ret_bool (by simp), hB1⟩
          | true =>
            go_wp2
            go_ret
            exact ⟨ret_bool (by simp), hB1⟩
    · go_enter Try.func24, Try.ntmps24
      go_wp2_with fail
      refine (HF.out _).mono ?_
      rintro e w1 ⟨rfl, hb1⟩
      have hB1 := hB0.trans (hb1.mono hB0.size)
      have hX1 := hX0.keep hb1 hX0.lt
      have x0 := hX1.cell 0 _ rfl
      have x1 := hX1.cell 1 _ rfl
      have x2 := hX1.cell 2 _ rfl
      have x3 := hX1.cell 3 _ rfl
      clear hb1
      cases D with
      | false =>
        go_wp2
        go_ret
        exact ⟨ret_bool (by simp), hB1⟩
      | true =>
        go_wp2_with fail
        refine (HN.out _).mono ?_
        rintro e w2 ⟨rfl, rfl⟩
        cases A with
        | false =>
          go_wp2
          go_ret
          exact ⟨ret_bool (by simp), hB1⟩
        | true =>
          go_wp2_with fail
          refine (HM.out _).mono ?_
          rintro e w3 ⟨rfl, rfl⟩
          cases B with
          | false =>
            go_wp2
            go_ret
            exact ⟨ret_bool (by simp), hB1⟩
          | true =>
            go_wp2
            go_ret
            exact ⟨ret_bool (by simp), hB1⟩

set_option maxRecDepth 100000 in
set_option maxHeartbeats 1600000 in
theorem specOp_9 (k : Int) (hk : k = 9) (u i : ByteArray) (d : Int) (fu ft : ByteArray) (a : Option Addr) (n cap : Nat) (w : World) :
    Calls Try.prog 24 #[.agg #[.int .i64 k, .string u, .string i, .int .i64 d, .string fu, .string ft, .slice a n cap]] w fun e w' => e = .returned (.bool (feB fu ft n && (emB u && emB i && (decide (0 ≤ d) && decide (d ≤ 200000))))) ∧ Below w.heap.size w w' := by
  have hB0 : Below w.heap.size w (w.alloc (.cells #[.int .i64 k, .string u, .string i, .int .i64 d, .string fu, .string ft, .slice a n cap] 31)) := (Below.refl _ _).alloc (Nat.le_refl _) _
  have hX0 := Box.new w #[.int .i64 k, .string u, .string i, .int .i64 d, .string fu, .string ft, .slice a n cap] 31
  have HEu : Hid (emB u = u.toList.isEmpty) := Lib.hid rfl
  rw [HEu.out]
  clear HEu
  have HEi : Hid (emB i = i.toList.isEmpty) := Lib.hid rfl
  rw [HEi.out]
  clear HEi
  have HY := Lib.hid (fun w => l1In_any d 0 200000 w)
  generalize (decide (0 ≤ d) && decide (d ≤ 200000)) = Y at HY ⊢
  have HF := Lib.hid (fun w => l9Empty_any fu ft a n cap w)
  generalize feB fu ft n = D at HF ⊢
  cases zu : u.toList.isEmpty with
  | false =>
    cases zi : i.toList.isEmpty with
    | false =>
      obtain rfl := hk
      go_enter Try.func24, Try.ntmps24
      go_wp2_with fail
      refine (HF.out _).mono ?_
      rintro e w1 ⟨rfl, hb1⟩
      have hB1 := hB0.trans (hb1.mono hB0.size)
      have hX1 := hX0.keep hb1 hX0.lt
      have x0 := hX1.cell 0 _ rfl
      have x1 := hX1.cell 1 _ rfl
      have x2 := hX1.cell 2 _ rfl
      have x3 := hX1.cell 3 _ rfl
      clear hb1
      cases D with
      | false =>
        go_wp2
        go_ret
        exact ⟨ret_bool (by simp), hB1⟩
      | true =>
        go_wp2
        go_ret
        exact ⟨ret_bool (by simp), hB1⟩
    | true =>
      obtain rfl := hk
      go_enter Try.func24, Try.ntmps24
      go_wp2_with fail
      refine (HF.out _).mono ?_
      rintro e w1 ⟨rfl, hb1⟩
      have hB1 := hB0.trans (hb1.mono hB0.size)
      have hX1 := hX0.keep hb1 hX0.lt
      have x0 := hX1.cell 0 _ rfl
      have x1 := hX1.cell 1 _ rfl
      have x2 := hX1.cell 2 _ rfl
      have x3 := hX1.cell 3 _ rfl
      clear hb1
      cases D with
      | false =>
        go_wp2
        go_ret
        exact ⟨ret_bool (by simp), hB1⟩
      | true =>
        go_wp2
        go_ret
        exact ⟨ret_bool (by simp), hB1⟩
  | true =>
    cases zi : i.toList.isEmpty with
    | false =>
      obtain rfl := hk
      go_enter Try.func24, Try.ntmps24
      go_wp2_with fail
      refine (HF.out _).mono ?_
      rintro e w1 ⟨rfl, hb1⟩
      have hB1 := hB0.trans (hb1.mono hB0.size)
      have hX1 := hX0.keep hb1 hX0.lt
      have x0 := hX1.cell 0 _ rfl
      have x1 := hX1.cell 1 _ rfl
      have x2 := hX1.cell 2 _ rfl
      have x3 := hX1.cell 3 _ rfl
      clear hb1
      cases D with
      | false =>
        go_wp2
        go_ret
        exact ⟨ret_bool (by simp), hB1⟩
      | true =>
        go_wp2
        go_ret
        exact ⟨ret_bool (by simp), hB1⟩
    | true =>
      obtain rfl := hk
      go_enter Try.func24, Try.ntmps24
      go_wp2_with fail
      refine (HF.out _).mono ?_
      rintro e w1 ⟨rfl, hb1⟩
      have hB1 := hB0.trans (hb1.mono hB0.size)
      have hX1 := hX0.keep hb1 hX0.lt
      have x0 := hX1.cell 0 _ rfl
      have x1 := hX1.cell 1 _ rfl
      have x2 := hX1.cell 2 _ rfl
      have x3 := hX1.cell 3 _ rfl
      clear hb1
      cases D with
      | false =>
        go_wp2
        go_ret
        exact ⟨ret_bool (by simp), hB1⟩
      | true =>
        go_wp2_with fail
        refine (HY.out _).mono ?_
        rintro e w2 ⟨rfl, rfl⟩
        cases Y with
        | false =>
          go_wp2
          go_ret
          exact ⟨ret_bool (by simp), hB1⟩
        | true =>
          go_wp2
          go_ret
          exact ⟨ret_bool (by simp), hB1⟩

set_option maxRecDepth 100000 in
set_option maxHeartbeats 1600000 in
theorem specOp_0 (k : Int) (h1 : (k == 1) = false) (h2 : (k == 2) = false) (h3 : (k == 3) = false) (h4 : (k == 4) = false) (h5 : (k == 5) = false) (h6 : (k == 6) = false) (h7 : (k == 7) = false) (h8 : (k == 8) = false) (h9 : (k == 9) = false) (u i : ByteArray) (d : Int) (fu ft : ByteArray) (a : Option Addr) (n cap : Nat) (w : World) :
    Calls Try.prog 24 #[.agg #[.int .i64 k, .string u, .string i, .int .i64 d, .string fu, .string ft, .slice a n cap]] w fun e w' => e = .returned (.bool (false)) ∧ Below w.heap.size w w' := by
  have hB0 : Below w.heap.size w (w.alloc (.cells #[.int .i64 k, .string u, .string i, .int .i64 d, .string fu, .string ft, .slice a n cap] 31)) := (Below.refl _ _).alloc (Nat.le_refl _) _
  have hX0 := Box.new w #[.int .i64 k, .string u, .string i, .int .i64 d, .string fu, .string ft, .slice a n cap] 31
  have HF := Lib.hid (fun w => l9Empty_any fu ft a n cap w)
  generalize feB fu ft n = D at HF ⊢
  go_enter Try.func24, Try.ntmps24
  go_wp2_with fail
  refine (HF.out _).mono ?_
  rintro e w1 ⟨rfl, hb1⟩
  have hB1 := hB0.trans (hb1.mono hB0.size)
  have hX1 := hX0.keep hb1 hX0.lt
  have x0 := hX1.cell 0 _ rfl
  have x1 := hX1.cell 1 _ rfl
  have x2 := hX1.cell 2 _ rfl
  have x3 := hX1.cell 3 _ rfl
  clear hb1
  cases D with
  | false =>
    go_wp2
    go_ret
    exact ⟨ret_bool (by simp), hB1⟩
  | true =>
    go_wp2
    go_ret
    exact ⟨ret_bool (by simp), hB1⟩

end Go.Proofs.Ytffkakpbelknaaa

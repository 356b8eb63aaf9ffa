/- Polls and answers: what both sides say of them. -/
import Derived.Test.YtlipgmaiooljkaaW8e
import Derived.Test.YtlipgmaiooljkaaDayIn
import Derived.Test.YtlipgmaiooljkaaRecs
namespace Go.Proofs.Ytlipgmaiooljkaa
open Go.ChangeShapes Go.WideShapes Go.ChangeAt Go.RowKit
set_option linter.unusedVariables false

structure PollD where
  u : ByteArray
  m : ByteArray
  n : Int
  wt : Int
  f : Int
  g : Bool
structure AnsD where
  c : Int
  m : ByteArray
  u : ByteArray
  af : Int
abbrev pkL (p : PollD) : List Value := [.string p.u, .string p.m, .int .i64 p.n, .int .i64 p.wt, .int .i64 p.f, .bool p.g]
abbrev pkV (p : PollD) : Value := .agg #[.string p.u, .string p.m, .int .i64 p.n, .int .i64 p.wt, .int .i64 p.f, .bool p.g]
abbrev anV (a : AnsD) : Value := .agg #[.int .i64 a.c, .string a.m, .string a.u, .int .i64 a.af]
def PkSz (p : PollD) : Prop := p.u.size ≤ maxLen ∧ p.m.size ≤ maxLen
def AnSz (a : AnsD) : Prop := a.m.size ≤ maxLen ∧ a.u.size ≤ maxLen
def emB16 (s : ByteArray) : Bool := s.toList.isEmpty
def mkB (s : ByteArray) : Bool := s.toList.isEmpty || nmB s 12
def pnB (n wt f : Int) : Bool := decide (0 ≤ n ∧ n ≤ 1000000000 ∧ 10 ≤ wt ∧ wt ≤ 1000 ∧ 0 ≤ f ∧ f ≤ 20)
def pkB (p : PollD) : Bool := nmB p.u 20 && mkB p.m && pnB p.n p.wt p.f
def anB (a : AnsD) : Bool := (decide (100 ≤ a.c) && decide (a.c ≤ 599)) && mkB a.m && (a.u.toList.isEmpty || nmB a.u 20) && (decide (0 ≤ a.af) && decide (a.af ≤ 100000))

set_option maxRecDepth 100000 in
set_option maxHeartbeats 1600000 in
theorem isMark_any (s : ByteArray) (w : World) (hs : s.size ≤ maxLen) :
    Calls Try.prog 48 #[.string s] w fun e w' => e = .returned (.bool (mkB s)) ∧ w = w' := by
  have HN := Lib.hid (fun w => isName_any s 12 w hs)
  have HE : Hid (mkB s = (s.toList.isEmpty || nmB s 12)) := Lib.hid rfl
  rw [HE.out]
  generalize nmB s 12 = A at HN ⊢
  clear HE
  cases h : s.toList.isEmpty with
  | true =>
    go_enter Try.func48, Try.ntmps48
    go_wp2
    go_ret
    exact ⟨ret_bool (by simp), rfl⟩
  | false =>
    go_enter Try.func48, Try.ntmps48
    go_wp2_with fail
    refine (HN.out _).mono ?_
    rintro e w1 ⟨rfl, rfl⟩
    go_wp2
    go_ret
    exact ⟨ret_bool (by simp), rfl⟩

set_option maxRecDepth 100000 in
set_option maxHeartbeats 1600000 in
theorem l16Mark_any (s : ByteArray) (w : World) (hs : s.size ≤ maxLen) :
    Calls Try.prog 45 #[.string s] w fun e w' => e = .returned (.bool (mkB s)) ∧ w = w' := by
  have HN := Lib.hid (fun w => l8Name_any s 12 w hs)
  have HE : Hid (mkB s = (s.toList.isEmpty || nmB s 12)) := Lib.hid rfl
  rw [HE.out]
  generalize nmB s 12 = A at HN ⊢
  clear HE
  cases h : s.toList.isEmpty with
  | true =>
    go_enter Try.func45, Try.ntmps45
    go_wp2
    go_ret
    exact ⟨ret_bool (by simp), rfl⟩
  | false =>
    go_enter Try.func45, Try.ntmps45
    go_wp2_with fail
    refine (HN.out _).mono ?_
    rintro e w1 ⟨rfl, rfl⟩
    go_wp2
    go_ret
    exact ⟨ret_bool (by simp), rfl⟩

theorem l16Time_any (n : Int) (w : World) :
    Calls Try.prog 44 #[.int .i64 n] w fun e w' => e = .returned (.bool (decide (0 ≤ n) && decide (n ≤ 1000000000))) ∧ w = w' := by
  have HD := Lib.hid (fun w => l1In_any n 0 1000000000 w)
  generalize (decide (0 ≤ n) && decide (n ≤ 1000000000)) = C at HD ⊢
  go_enter Try.func44, Try.ntmps44
  go_wp2_with fail
  refine (HD.out _).mono ?_
  rintro e w1 ⟨rfl, rfl⟩
  go_wp2
  go_ret
  exact ⟨rfl, rfl⟩

set_option maxRecDepth 100000 in
set_option maxHeartbeats 1600000 in
theorem implPollOk_any (p : PollD) (w : World) (hz : PkSz p) :
    Calls Try.prog 18 #[pkV p] w fun e w' => e = .returned (.bool (pkB p)) ∧ Below w.heap.size w w' := by
  obtain ⟨u, m, n, wt, f, g⟩ := p
  obtain ⟨hu, hm⟩ := hz
  show Calls Try.prog 18 #[.agg #[.string u, .string m, .int .i64 n, .int .i64 wt, .int .i64 f, .bool g]] w fun e w' => e = .returned (.bool (nmB u 20 && mkB m && pnB n wt f)) ∧ Below w.heap.size w w'
  have HN := Lib.hid (fun w => isName_any u 20 w hu)
  have HM := Lib.hid (fun w => isMark_any m w hm)
  have hB0 : Below w.heap.size w (w.alloc (.cells #[.string u, .string m, .int .i64 n, .int .i64 wt, .int .i64 f, .bool g] 23)) := (Below.refl _ _).alloc (Nat.le_refl _) _
  generalize nmB u 20 = A at HN ⊢
  generalize mkB m = B at HM ⊢
  have HF : Hid (¬ (0 ≤ n ∧ n ≤ 1000000000 ∧ 10 ≤ wt ∧ wt ≤ 1000 ∧ 0 ≤ f ∧ f ≤ 20) → pnB n wt f = false) := Lib.hid (fun h => decide_eq_false h)
  have HT : Hid ((0 ≤ n ∧ n ≤ 1000000000 ∧ 10 ≤ wt ∧ wt ≤ 1000 ∧ 0 ≤ f ∧ f ≤ 20) → pnB n wt f = true) := Lib.hid (fun h => decide_eq_true h)
  generalize pnB n wt f = C at HF HT ⊢
  clear hu hm
  go_enter Try.func18, Try.ntmps18
  go_wp2_with fail
  refine (HN.out _).mono ?_
  rintro e w1 ⟨rfl, rfl⟩
  cases A with
  | false =>
    go_wp2
    go_ret
    exact ⟨ret_bool (by simp), hB0⟩
  | true =>
    go_wp2_with fail
    refine (HM.out _).mono ?_
    rintro e w2 ⟨rfl, rfl⟩
    cases B with
    | false =>
      go_wp2
      go_ret
      exact ⟨ret_bool (by simp), hB0⟩
    | true =>
      clear HN HM
      by_cases h1 : 0 ≤ n
      case neg =>
        have HC := Lib.hid (HF.out (fun h => h1 h.1))
        have hd : decide (0 ≤ n) = false := decide_eq_false h1
        go_wp2
        go_ret
        exact ⟨ret_bool (by rw [HC.out]; rfl), hB0⟩
      by_cases h2 : n ≤ 1000000000
      case neg =>
        have HC := Lib.hid (HF.out (fun h => h2 h.2.1))
        have hd : decide (n ≤ 1000000000) = false := decide_eq_false h2
        go_wp2
        go_ret
        exact ⟨ret_bool (by rw [HC.out]; rfl), hB0⟩
      by_cases h3 : 10 ≤ wt
      case neg =>
        have HC := Lib.hid (HF.out (fun h => h3 h.2.2.1))
        have hd : decide (10 ≤ wt) = false := decide_eq_false h3
        go_wp2
        go_ret
        exact ⟨ret_bool (by rw [HC.out]; rfl), hB0⟩
      by_cases h4 : wt ≤ 1000
      case neg =>
        have HC := Lib.hid (HF.out (fun h => h4 h.2.2.2.1))
        have hd : decide (wt ≤ 1000) = false := decide_eq_false h4
        go_wp2
        go_ret
        exact ⟨ret_bool (by rw [HC.out]; rfl), hB0⟩
      by_cases h5 : 0 ≤ f
      case neg =>
        have HC := Lib.hid (HF.out (fun h => h5 h.2.2.2.2.1))
        have hd : decide (0 ≤ f) = false := decide_eq_false h5
        go_wp2
        go_ret
        exact ⟨ret_bool (by rw [HC.out]; rfl), hB0⟩
      by_cases h6 : f ≤ 20
      case neg =>
        have HC := Lib.hid (HF.out (fun h => h6 h.2.2.2.2.2))
        have hd : decide (f ≤ 20) = false := decide_eq_false h6
        go_wp2
        go_ret
        exact ⟨ret_bool (by rw [HC.out]; rfl), hB0⟩
      have HC := Lib.hid (HT.out ⟨h1, h2, h3, h4, h5, h6⟩)
      have hd : decide (f ≤ 20) = true := decide_eq_true h6
      go_wp2
      go_ret
      exact ⟨ret_bool (by rw [HC.out]; rfl), hB0⟩

theorem pnB_eq (n wt f : Int) : pnB n wt f = ((decide (0 ≤ n) && decide (n ≤ 1000000000)) && (decide (10 ≤ wt) && decide (wt ≤ 1000)) && (decide (0 ≤ f) && decide (f ≤ 20))) := by
  rw [Bool.eq_iff_iff]; simp [pnB, and_assoc]

set_option maxRecDepth 100000 in
set_option maxHeartbeats 1600000 in
theorem specPollOk_any (p : PollD) (w : World) (hz : PkSz p) :
    Calls Try.prog 16 #[pkV p] w fun e w' => e = .returned (.bool (pkB p)) ∧ Below w.heap.size w w' := by
  obtain ⟨u, m, n, wt, f, g⟩ := p
  obtain ⟨hu, hm⟩ := hz
  show Calls Try.prog 16 #[.agg #[.string u, .string m, .int .i64 n, .int .i64 wt, .int .i64 f, .bool g]] w fun e w' => e = .returned (.bool (nmB u 20 && mkB m && pnB n wt f)) ∧ Below w.heap.size w w'
  have HN := Lib.hid (fun w => l8Name_any u 20 w hu)
  have HM := Lib.hid (fun w => l16Mark_any m w hm)
  have H1 := Lib.hid (fun w => l16Time_any n w)
  have H2 := Lib.hid (fun w => l1In_any wt 10 1000 w)
  have H3 := Lib.hid (fun w => l1In_any f 0 20 w)
  have hB0 : Below w.heap.size w (w.alloc (.cells #[.string u, .string m, .int .i64 n, .int .i64 wt, .int .i64 f, .bool g] 23)) := (Below.refl _ _).alloc (Nat.le_refl _) _
  rw [pnB_eq]
  generalize nmB u 20 = A at HN ⊢
  generalize mkB m = B at HM ⊢
  generalize (decide (0 ≤ n) && decide (n ≤ 1000000000)) = C1 at H1 ⊢
  generalize (decide (10 ≤ wt) && decide (wt ≤ 1000)) = C2 at H2 ⊢
  generalize (decide (0 ≤ f) && decide (f ≤ 20)) = C3 at H3 ⊢
  clear hu hm
  go_enter Try.func16, Try.ntmps16
  go_wp2_with fail
  refine (HN.out _).mono ?_
  rintro e w1 ⟨rfl, rfl⟩
  cases A with
  | false =>
    go_wp2
    go_ret
    exact ⟨ret_bool (by simp), hB0⟩
  | true =>
    go_wp2_with fail
    refine (HM.out _).mono ?_
    rintro e w2 ⟨rfl, rfl⟩
    cases B with
    | false =>
      go_wp2
      go_ret
      exact ⟨ret_bool (by simp), hB0⟩
    | true =>
      go_wp2_with fail
      refine (H1.out _).mono ?_
      rintro e w3 ⟨rfl, rfl⟩
      cases C1 with
      | false =>
        go_wp2
        go_ret
        exact ⟨ret_bool (by simp), hB0⟩
      | true =>
        go_wp2_with fail
        refine (H2.out _).mono ?_
        rintro e w4 ⟨rfl, rfl⟩
        cases C2 with
        | false =>
          go_wp2
          go_ret
          exact ⟨ret_bool (by simp), hB0⟩
        | true =>
          go_wp2_with fail
          refine (H3.out _).mono ?_
          rintro e w5 ⟨rfl, rfl⟩
          go_wp2
          go_ret
          exact ⟨ret_bool (by simp), hB0⟩

set_option maxRecDepth 100000 in
set_option maxHeartbeats 1600000 in
theorem l16Answer_any (a : AnsD) (w : World) (hz : AnSz a) :
    Calls Try.prog 49 #[anV a] w fun e w' => e = .returned (.bool (anB a)) ∧ Below w.heap.size w w' := by
  obtain ⟨c, m, u, af⟩ := a
  obtain ⟨hm, hu⟩ := hz
  show Calls Try.prog 49 #[.agg #[.int .i64 c, .string m, .string u, .int .i64 af]] w fun e w' => e = .returned (.bool ((decide (100 ≤ c) && decide (c ≤ 599)) && mkB m && (u.toList.isEmpty || nmB u 20) && (decide (0 ≤ af) && decide (af ≤ 100000)))) ∧ Below w.heap.size w w'
  have HN := Lib.hid (fun w => l8Name_any u 20 w hu)
  have HM := Lib.hid (fun w => l16Mark_any m w hm)
  have H1 := Lib.hid (fun w => l1In_any c 100 599 w)
  have H2 := Lib.hid (fun w => l1In_any af 0 100000 w)
  have hB0 : Below w.heap.size w (w.alloc (.cells #[.int .i64 c, .string m, .string u, .int .i64 af] 37)) := (Below.refl _ _).alloc (Nat.le_refl _) _
  generalize nmB u 20 = A at HN ⊢
  generalize mkB m = B at HM ⊢
  generalize (decide (100 ≤ c) && decide (c ≤ 599)) = C1 at H1 ⊢
  generalize (decide (0 ≤ af) && decide (af ≤ 100000)) = C2 at H2 ⊢
  clear hu hm
  go_enter Try.func49, Try.ntmps49
  go_wp2_with fail
  refine (H1.out _).mono ?_
  rintro e w1 ⟨rfl, rfl⟩
  cases C1 with
  | false =>
    go_wp2
    go_ret
    exact ⟨ret_bool (by simp), hB0⟩
  | true =>
    go_wp2_with fail
    refine (HM.out _).mono ?_
    rintro e w2 ⟨rfl, rfl⟩
    cases B with
    | false =>
      go_wp2
      go_ret
      exact ⟨ret_bool (by simp), hB0⟩
    | true =>
      cases he : u.toList.isEmpty with
      | true =>
        go_wp2_with fail
        refine (H2.out _).mono ?_
        rintro e w4 ⟨rfl, rfl⟩
        go_wp2
        go_ret
        exact ⟨ret_bool (by rw [he]; simp), hB0⟩
      | false =>
        go_wp2_with fail
        refine (HN.out _).mono ?_
        rintro e w3 ⟨rfl, rfl⟩
        cases A with
        | false =>
          go_wp2
          go_ret
          exact ⟨ret_bool (by rw [he]; simp), hB0⟩
        | true =>
          go_wp2_with fail
          refine (H2.out _).mono ?_
          rintro e w4 ⟨rfl, rfl⟩
          go_wp2
          go_ret
          exact ⟨ret_bool (by rw [he]; simp), hB0⟩

set_option maxRecDepth 100000 in
set_option maxHeartbeats 1600000 in
theorem answerOk_any (a : AnsD) (w : World) (hz : AnSz a) :
    Calls Try.prog 51 #[anV a] w fun e w' => e = .returned (.bool (anB a)) ∧ Below w.heap.size w w' := by
  obtain ⟨c, m, u, af⟩ := a
  obtain ⟨hm, hu⟩ := hz
  show Calls Try.prog 51 #[.agg #[.int .i64 c, .string m, .string u, .int .i64 af]] w fun e w' => e = .returned (.bool ((decide (100 ≤ c) && decide (c ≤ 599)) && mkB m && (u.toList.isEmpty || nmB u 20) && (decide (0 ≤ af) && decide (af ≤ 100000)))) ∧ Below w.heap.size w w'
  have HN := Lib.hid (fun w => isName_any u 20 w hu)
  have HM := Lib.hid (fun w => isMark_any m w hm)
  have hB0 : Below w.heap.size w (w.alloc (.cells #[.int .i64 c, .string m, .string u, .int .i64 af] 37)) := (Below.refl _ _).alloc (Nat.le_refl _) _
  generalize nmB u 20 = A at HN ⊢
  generalize mkB m = B at HM ⊢
  clear hu hm
  by_cases h1 : 100 ≤ c
  case neg =>
    have hd : decide (100 ≤ c) = false := decide_eq_false h1
    have HC : Hid (decide (100 ≤ c) = false) := Lib.hid hd
    go_enter Try.func51, Try.ntmps51
    go_wp2
    go_ret
    exact ⟨ret_bool (by first | rfl | (rw [HC.out]; simp)), hB0⟩
  by_cases h2 : c ≤ 599
  case neg =>
    have hd : decide (c ≤ 599) = false := decide_eq_false h2
    have HC : Hid (decide (c ≤ 599) = false) := Lib.hid hd
    go_enter Try.func51, Try.ntmps51
    go_wp2
    go_ret
    exact ⟨ret_bool (by first | rfl | (rw [HC.out]; simp)), hB0⟩
  have HC1 : Hid (decide (100 ≤ c) = true) := Lib.hid (decide_eq_true h1)
  have HC2 : Hid (decide (c ≤ 599) = true) := Lib.hid (decide_eq_true h2)
  go_enter Try.func51, Try.ntmps51
  go_wp2_with fail
  refine (HM.out _).mono ?_
  rintro e w2 ⟨rfl, rfl⟩
  cases B with
  | false =>
    go_wp2
    go_ret
    exact ⟨ret_bool (by simp), hB0⟩
  | true =>
    cases he : u.toList.isEmpty with
    | true =>
      by_cases h3 : 0 ≤ af
      case neg =>
        have hd : decide (0 ≤ af) = false := decide_eq_false h3
        have HC : Hid (decide (0 ≤ af) = false) := Lib.hid hd
        go_wp2
        go_ret
        exact ⟨ret_bool (by first | rfl | (rw [HC.out]; simp)), hB0⟩
      have HC3 : Hid (decide (0 ≤ af) = true) := Lib.hid (decide_eq_true h3)
      go_wp2
      go_ret
      exact ⟨ret_bool (by rw [he, HC1.out, HC2.out, HC3.out]; simp), hB0⟩
    | false =>
      go_wp2_with fail
      refine (HN.out _).mono ?_
      rintro e w3 ⟨rfl, rfl⟩
      cases A with
      | false =>
        go_wp2
        go_ret
        exact ⟨ret_bool (by rw [he]; simp), hB0⟩
      | true =>
        by_cases h3 : 0 ≤ af
        case neg =>
          have hd : decide (0 ≤ af) = false := decide_eq_false h3
          have HC : Hid (decide (0 ≤ af) = false) := Lib.hid hd
          go_wp2
          go_ret
          exact ⟨ret_bool (by first | rfl | (rw [HC.out]; simp)), hB0⟩
        have HC3 : Hid (decide (0 ≤ af) = true) := Lib.hid (decide_eq_true h3)
        go_wp2
        go_ret
        exact ⟨ret_bool (by rw [he, HC1.out, HC2.out, HC3.out]; simp), hB0⟩
end Go.Proofs.Ytlipgmaiooljkaa

/- What a poll is behind an answer: both sides. -/
import Derived.Test.YtlipgmaiooljkaaW16c
import Derived.Test.YtlipgmaiooljkaaFloFix
namespace Go.Proofs.Ytlipgmaiooljkaa
open Go.ChangeShapes Go.WideShapes Go.ChangeAt Go.RowKit
set_option linter.unusedVariables false

def flP (p : PollD) : PollD := ⟨p.u, p.m, p.n, p.wt * 2, min (p.f + 1) 20, p.g⟩
def pkX (p : PollD) (a : AnsD) : PollD :=
  if a.c = 200 then ⟨p.u, a.m, p.n, max (p.wt / 2) 10, 0, p.g⟩
  else if a.c = 304 then ⟨p.u, p.m, p.n, p.wt + 10, 0, p.g⟩
  else if a.c = 301 ∨ a.c = 308 then (if a.u.toList.isEmpty = true then flP p else ⟨a.u, ⟨#[]⟩, p.n, p.wt, 0, p.g⟩)
  else if a.c = 410 then ⟨p.u, p.m, p.n, p.wt, 0, true⟩ else flP p
def paW (p : PollD) (a : AnsD) : Int := min (pkX p a).wt 1000
def paT (p : PollD) (a : AnsD) : Int := if a.c = 429 ∨ a.c = 503 then max (paW p a) a.af else paW p a
def paD (p : PollD) (now : Int) (a : AnsD) : PollD := ⟨(pkX p a).u, (pkX p a).m, now + paT p a, paW p a, (pkX p a).f, (pkX p a).g⟩
def paO (p : PollD) (now : Int) (a : AnsD) : Bool := pkB p && anB a && !p.g && decide (p.n ≤ now) && decide (now ≤ 900000000)
def paV (p : PollD) (now : Int) (a : AnsD) : PollD := if paO p now a = true then paD p now a else pk0
theorem pnB_inv {n wt f : Int} (h : pnB n wt f = true) : 0 ≤ n ∧ n ≤ 1000000000 ∧ 10 ≤ wt ∧ wt ≤ 1000 ∧ 0 ≤ f ∧ f ≤ 20 := of_decide_eq_true h
theorem pkB_inv {p : PollD} (h : pkB p = true) : 0 ≤ p.n ∧ p.n ≤ 1000000000 ∧ 10 ≤ p.wt ∧ p.wt ≤ 1000 ∧ 0 ≤ p.f ∧ p.f ≤ 20 := by
  unfold pkB at h
  have h2 := (Bool.and_eq_true_iff.1 h).2
  exact pnB_inv h2
theorem anB_inv {a : AnsD} (h : anB a = true) : 100 ≤ a.c ∧ a.c ≤ 599 ∧ 0 ≤ a.af ∧ a.af ≤ 100000 := by
  unfold anB at h
  simp at h
  omega

theorem change_any (p : PollD) (a : AnsD) (w : World) (h0 : 10 ≤ p.wt) (h1 : p.wt ≤ 1000) (hf0 : 0 ≤ p.f) (hf1 : p.f ≤ 20) :
    Calls Try.prog (chF a.c) #[pkV p, anV a] w fun e w' => e = .returned (pkV (pkX p a)) ∧ Below w.heap.size w w' := by
  obtain ⟨u, m, n, wt, f, g⟩ := p
  obtain ⟨c, am, au, af⟩ := a
  unfold chF pkX
  dsimp only
  by_cases c1 : c = 200
  · rw [if_pos c1, if_pos c1]; exact refreshed_any u m am au n wt f c af g w h0 h1
  · rw [if_neg c1, if_neg c1]
    by_cases c2 : c = 304
    · rw [if_pos c2, if_pos c2]; exact unchanged_any u m am au n wt f c af g w h0 h1
    · rw [if_neg c2, if_neg c2]
      by_cases c3 : c = 301 ∨ c = 308
      · rw [if_pos c3, if_pos c3]; exact relocated_any u m am au n wt f c af g w h0 h1 hf0 hf1
      · rw [if_neg c3, if_neg c3]
        by_cases c4 : c = 410
        · rw [if_pos c4, if_pos c4]; exact ended_any u m am au n wt f c af g w
        · rw [if_neg c4, if_neg c4]; exact failed_any u m am au n wt f c af g w h0 h1 hf0 hf1
theorem pkX_wt {p : PollD} {a : AnsD} (h0 : 10 ≤ p.wt) (h1 : p.wt ≤ 1000) : 10 ≤ (pkX p a).wt ∧ (pkX p a).wt ≤ 2000 := by
  unfold pkX flP
  split
  · dsimp only; omega
  · split
    · dsimp only; omega
    · split
      · split
        · dsimp only; omega
        · dsimp only; omega
      · split
        · dsimp only; omega
        · dsimp only; omega
theorem pkX_f {p : PollD} {a : AnsD} (h0 : 0 ≤ p.f) (h1 : p.f ≤ 20) : 0 ≤ (pkX p a).f ∧ (pkX p a).f ≤ 20 := by
  unfold pkX flP
  split
  · dsimp only; omega
  · split
    · dsimp only; omega
    · split
      · split
        · dsimp only; omega
        · dsimp only; omega
      · split
        · dsimp only; omega
        · dsimp only; omega

set_option maxRecDepth 100000 in
set_option maxHeartbeats 1600000 in
theorem pauseBehind_any (p : PollD) (a : AnsD) (w : World) :
    Calls Try.prog 53 #[pkV p, anV a] w fun e w' => e = .returned (.int .i64 (if a.c = 429 ∨ a.c = 503 then max p.wt a.af else p.wt)) ∧ Below w.heap.size w w' := by
  obtain ⟨u, m, n, wt, f, g⟩ := p
  obtain ⟨c, am, au, af⟩ := a
  have hB0 : Below w.heap.size w ((w.alloc (.cells #[.string u, .string m, .int .i64 n, .int .i64 wt, .int .i64 f, .bool g] 23)).alloc (.cells #[.int .i64 c, .string am, .string au, .int .i64 af] 37)) := ((Below.refl _ _).alloc (Nat.le_refl _) _).alloc (by simp) _
  dsimp only
  by_cases c1 : c = 429 ∨ c = 503
  · rw [if_pos c1]
    have HM := Lib.hid (fun h : wt ≤ af => (show max wt af = af by omega))
    have HN := Lib.hid (fun h : af ≤ wt => (show max wt af = wt by omega))
    generalize max wt af = Z at HM HN ⊢
    have hc : (c == 429) = true ∨ ((c == 429) = false ∧ (c == 503) = true) := by
      rcases c1 with rfl | rfl
      · exact .inl rfl
      · exact .inr ⟨rfl, rfl⟩
    clear c1
    rcases hc with h1 | ⟨h1, h2⟩
    · go_enter Try.func53, Try.ntmps53
      go_wp2
      · have hz := HM.out (by omega)
        subst hz
        go_ret
        exact ⟨rfl, hB0⟩
      · have hz := HN.out (by omega)
        subst hz
        go_ret
        exact ⟨rfl, hB0⟩
    · go_enter Try.func53, Try.ntmps53
      go_wp2
      · have hz := HM.out (by omega)
        subst hz
        go_ret
        exact ⟨rfl, hB0⟩
      · have hz := HN.out (by omega)
        subst hz
        go_ret
        exact ⟨rfl, hB0⟩
  · rw [if_neg c1]
    have h1 : (c == 429) = false := by simp; omega
    have h2 : (c == 503) = false := by simp; omega
    clear c1
    go_enter Try.func53, Try.ntmps53
    go_wp2
    go_ret
    exact ⟨rfl, hB0⟩
end Go.Proofs.Ytlipgmaiooljkaa

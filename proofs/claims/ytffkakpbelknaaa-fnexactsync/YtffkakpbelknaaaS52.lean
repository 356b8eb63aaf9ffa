/- Joined: M9fA. -/
import Derived.Test.YtffkakpbelknaaaS8
import Derived.Test.YtffkakpbelknaaaS23
/- M9fA -/
namespace Go.Proofs.Ytffkakpbelknaaa
open Go.ChangeShapes Go.WideShapes Go.ChangeAt Go.RowKit
set_option linter.unusedVariables false

section
variable {α : Type} {k : Nat} {C : α → List Value}
theorem boxRowA {e t : TypeId} {w : World} {B g : Nat} {cs : Array Value} {v : Value} {l : List α} (hZ : Box w g cs t) (h : OwnR e k C w B v l) (he : e ≠ t) : v.ownBlock ≠ Option.some g := by
  intro hb
  rcases h.2 with ⟨rfl, _⟩ | ⟨g', cap, cur, rfl, _, hg, _⟩
  · cases hb
  · have e1 : g' = g := Option.some.inj hb
    subst e1
    have h1 : w.heap[g']? = some (.cells cs t (0, 0)) := hZ
    rw [hg] at h1
    simp only [Option.some.injEq, Obj.cells.injEq] at h1
    exact he h1.2.1
theorem rowNeA {e t : TypeId} {w : World} {B F : Nat} {cs : Array Value} {v : Value} {l : List α} (hX : Box w F cs t) (h : OwnR e k C w B v l) (he : e ≠ t) {g : Nat} (hg : v.ownBlock = some g) : F ≠ g := fun e2 => boxRowA hX h he (by rw [hg, e2])
theorem formA {e : TypeId} {w : World} {B n cap : Nat} {a : Option Addr} {l : List α} (h : OwnR e k C w B (.slice a n cap) l) (h0 : 0 < l.length) : ∃ g, a = some ⟨g, 0, none⟩ ∧ B ≤ g ∧ g < w.heap.size ∧ n = l.length := by
  rcases h.2 with ⟨hv, hn⟩ | ⟨g, cap', cur, hv, hb, hg, rest⟩
  · omega
  · cases hv
    exact ⟨g, rfl, hb, (Array.getElem?_eq_some_iff.1 hg).1, rfl⟩
theorem valA {e : TypeId} {w : World} {B g n cap : Nat} {l : List α} (hk : ∀ x, (C x).length = k) (h : OwnR e k C w B (.slice (some ⟨g, 0, none⟩) n cap) l) (h0 : 0 < l.length) (j : Nat) (u : Value) (hu : (C l[0])[j]? = some u) : w.cell? ⟨g, j, none⟩ = some u := by
  have hj : j < k := by have := (List.getElem?_eq_some_iff.1 hu).1; rwa [hk] at this
  have h5 := flat_get hk l 0 j h0 hj
  simp only [Nat.zero_mul, Nat.zero_add] at h5
  have h6 := World.ownsRow.cells h (g := g) rfl j u (by rw [h5]; exact hu)
  rw [Addr.add_lit] at h6
  simpa using h6
theorem offA {e : TypeId} {w : World} {base : Nat} {v : Value} {l : List α} (h : OwnR e k C w base v l) (p : Addr) (x : Value) (hp : v.ownBlock ≠ some p.block) : OwnR e k C (w.setCell p x) base v l := by
  refine ⟨h.1, ?_⟩
  rcases h.2 with h2 | ⟨g, cap, cur, rfl, hb, hg, rest⟩
  · exact .inl h2
  · refine .inr ⟨g, cap, cur, rfl, hb, ?_, rest⟩
    rw [Below.heap_setCell _ _ _ _ (fun e => hp (by rw [← e]; rfl))]
    exact hg
end
theorem wp_appQ25 {w w' : World} {o : Oper} {a : Act} {K : Act → World → Prop} {Q : Exit → Act → World → Prop} (t : TypeId) (s x : Operand) (ho : o.op = .call { callee := .builtin .append, args := #[s, x], argTypes := #[t, t] }) (v xv v' : Value) (hs : a.eval s = v) (hx : a.eval x = xv) (hrun : (Builtin.append_ #[t, t] o.type #[v, xv]).run Try.prog w = .ok v' w') (h : K (a.put o.dst v') w') : o.wp Try.prog a w K Q := by
  unfold Oper.wp
  simp [execOp, ho, resolve, invoke, builtin, hs, hx, hrun, Result.andThen]
  exact h
end Go.Proofs.Ytffkakpbelknaaa

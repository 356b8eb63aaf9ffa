/- Joined: RowT, M9fA. -/
import Derived.Test.YtffkakpbelknaaaGreatDoorF8
import Derived.Test.YtffkakpbelknaaaGreatDoorF17
/- RowT -/
namespace Go.Proofs.YtffkakpbelknaaaGreatDoor
open Go.ChangeShapes Go.WideShapes Go.ChangeAt Go.RowKit
set_option linter.unusedVariables false

def txC (s : ByteArray) : List Value := [.string s]
theorem txC_len (s : ByteArray) : (txC s).length = 1 := rfl
theorem txC_one (s : ByteArray) : ∀ x ∈ txC s, x.oneCell' = true := by intro x hx; obtain rfl := List.mem_singleton.1 hx; rfl
theorem Tryz.infoTx : (Tryz.prog.info? 9).map (fun i => (i.zero, i.size, i.bytes)) = some (some (.string ByteArray.empty), 1, 16) := by kernel_rfl
theorem one_recT {α : Type} {k : Nat} {C : α → List Value} (hk : ∀ x, (C x).length = k) (w : World) (e : TypeId) (x : α) (cs : Array Value) (hcs : cs.toList = C x) : RecAt k C (w.alloc (.cells cs e)) (w.heap.size + 1) (.slice (some ⟨w.heap.size, 0, none⟩) 1 1) [x] := by
  refine ⟨_, 1, rfl, Nat.le_refl _, by unfold maxLen; omega, fun _ => ⟨w.heap.size, 0, rfl, Nat.lt_succ_self _, fun i hi j u hu => ?_⟩⟩
  have hi0 : i = 0 := by simpa using hi
  subst hi0
  rw [cell_of_row _ _ _ cs e (0, 0) (heap_alloc_new w _)]
  simp only [Nat.zero_mul, Nat.zero_add]
  rw [← Array.getElem?_toList, hcs]
  exact hu
/-- A row of texts that was just made. -/
theorem rowT_new (w : World) (e : TypeId) (l : List ByteArray) (hl : l.length ≤ 1000) (cs : Array Value) (hcs : cs.toList = l.map Value.string) : RecAt 1 txC (w.alloc (.cells cs e)) (w.heap.size + 1) (.slice (some ⟨w.heap.size, 0, none⟩) l.length l.length) l := by
  refine ⟨_, l.length, rfl, Nat.le_refl _, by unfold maxLen; omega, fun _ => ⟨w.heap.size, 0, rfl, Nat.lt_succ_self _, fun i hi j u hu => ?_⟩⟩
  have hj : j = 0 := by
    rcases j with _ | j
    · rfl
    · simp [txC] at hu
  subst hj
  have hu0 : Value.string l[i] = u := by simpa [txC] using hu
  rw [cell_of_row _ _ _ cs e (0, 0) (heap_alloc_new w _), ← hu0]
  simp only [Nat.mul_one, Nat.zero_add, Nat.add_zero]
  rw [← Array.getElem?_toList, hcs, List.getElem?_map, List.getElem?_eq_getElem hi]
  rfl
theorem rowT_at {w : World} {B : Nat} {v : Value} {l : List ByteArray} (h : RecAt 1 txC w B v l) (k : Nat) (hk : k < l.length) : ∃ b off cap, v = .slice (some ⟨b, off, none⟩) l.length cap ∧ b < B ∧ w.cell? ⟨b, off + k, none⟩ = some (.string l[k]) := by
  obtain ⟨a, cap, hv, h1, h2, hc⟩ := h
  obtain ⟨b, off, rfl, hB, hr⟩ := hc (by omega)
  refine ⟨b, off, cap, hv, hB, ?_⟩
  have := hr k hk 0 _ rfl
  rwa [Nat.mul_one, Nat.add_zero] at this

theorem gb_BelowT {w w' : World} {row : Option Nat} {B : Nat} (h : w.grownBy w' row) (hB : B ≤ w.heap.size) (hr : ∀ b, row = some b → B ≤ b) : Below B w w' :=
  ⟨h.os, h.tape, h.output, h.size, fun k hk => h.block k (by omega) (fun e => by have := hr k e.symm; omega)⟩

/-- make([]string, 0, n) -/
theorem wpList_makeT {w : World} {ops : Array Oper} {rest : List Oper} {o : Oper} {a : Act} {Q : Exit → Act → World → Prop}
    (hg : o.guard = none) (l c : Operand) (hop : o.op = Op.makeSlice 57 l c) (base : Nat) (kl kc : IntKind) (C : Int)
    (hl : a.eval l = .int kl 0) (hc : a.eval c = .int kc C) (hC0 : 0 ≤ C) (hC : C ≤ 100000000) (hbase : base ≤ w.heap.size)
    (hK : ∀ v' w', OwnR 9 1 txC w' base v' [] → Below base w w' → wpList Tryz.prog ops Q rest (a.put o.dst v') w') :
    wpList Tryz.prog ops Q (o :: rest) a w := by
  obtain ⟨i0, hi, hz0, hz1, hz2⟩ := info_parts Tryz.infoTx
  refine wpList_make_own w hg l c 57 hop base 9 i0 (.string ByteArray.empty) 1 Tryz.underlying57 hi hz0 hz1 kl kc C C.toNat hl hc (by omega) (by rw [hz2]; omega) (by unfold maxLen; omega) hbase ?_
  intro w1 hown hgrow
  exact hK _ _ hown ((Below.refl _ _).grown hgrow hbase (fun k hk => by cases hk))

/-- The length from which a search of texts looks otherwise is some number. -/
def XTab (w : World) : Prop := ∃ m : Int, w.cell? ⟨2, 0, none⟩ = some (.int .i64 m)
theorem XTab.below {w w' : World} {B : Nat} (h : XTab w) (hb : Below B w w') (hB : w.heap.size ≤ B) : XTab w' := by
  obtain ⟨m, h⟩ := h
  have hlt : 2 < w.heap.size := by
    by_cases hg : 2 < w.heap.size
    · exact hg
    · exfalso
      unfold World.cell? at h
      rw [Array.getElem?_eq_none (Nat.le_of_not_lt hg)] at h
      cases h
  refine ⟨m, ?_⟩
  unfold World.cell? at h ⊢
  rw [hb.block 2 (Nat.lt_of_lt_of_le hlt hB)]
  exact h
end Go.Proofs.YtffkakpbelknaaaGreatDoor

/- M9fA -/
namespace Go.Proofs.YtffkakpbelknaaaGreatDoor
open Go.ChangeShapes Go.WideShapes Go.ChangeAt Go.RowKit
set_option linter.unusedVariables false

section
variable {α : Type} {k : Nat} {C : α → List Value}
theorem boxRowA {e t : TypeId} {w : World} {B g : Nat} {cs : Array Value} {v : Value} {l : List α} (hZ : Box w g cs t) (h : OwnR e k C w B v l) (he : e ≠ t) : v.ownBlock ≠ Option.some g := by
  intro hb
  rcases h.2 with ⟨rfl, _⟩ | ⟨g', cap, cur, rfl, _, hg, _⟩
  · cases hb
  · have e1 : g' = g := Option.some.inj hb
    subst e1
    have h1 : w.heap[g']? = some (.cells cs t (0, 0)) := hZ
    rw [hg] at h1
    simp only [Option.some.injEq, Obj.cells.injEq] at h1
    exact he h1.2.1
theorem rowNeA {e t : TypeId} {w : World} {B F : Nat} {cs : Array Value} {v : Value} {l : List α} (hX : Box w F cs t) (h : OwnR e k C w B v l) (he : e ≠ t) {g : Nat} (hg : v.ownBlock = some g) : F ≠ g := fun e2 => boxRowA hX h he (by rw [hg, e2])
theorem formA {e : TypeId} {w : World} {B n cap : Nat} {a : Option Addr} {l : List α} (h : OwnR e k C w B (.slice a n cap) l) (h0 : 0 < l.length) : ∃ g, a = some ⟨g, 0, none⟩ ∧ B ≤ g ∧ g < w.heap.size ∧ n = l.length := by
  rcases h.2 with ⟨hv, hn⟩ | ⟨g, cap', cur, hv, hb, hg, rest⟩
  · omega
  · cases hv
    exact ⟨g, rfl, hb, (Array.getElem?_eq_some_iff.1 hg).1, rfl⟩
theorem valA {e : TypeId} {w : World} {B g n cap : Nat} {l : List α} (hk : ∀ x, (C x).length = k) (h : OwnR e k C w B (.slice (some ⟨g, 0, none⟩) n cap) l) (h0 : 0 < l.length) (j : Nat) (u : Value) (hu : (C l[0])[j]? = some u) : w.cell? ⟨g, j, none⟩ = some u := by
  have hj : j < k := by have := (List.getElem?_eq_some_iff.1 hu).1; rwa [hk] at this
  have h5 := flat_get hk l 0 j h0 hj
  simp only [Nat.zero_mul, Nat.zero_add] at h5
  have h6 := World.ownsRow.cells h (g := g) rfl j u (by rw [h5]; exact hu)
  rw [Addr.add_lit] at h6
  simpa using h6
theorem offA {e : TypeId} {w : World} {base : Nat} {v : Value} {l : List α} (h : OwnR e k C w base v l) (p : Addr) (x : Value) (hp : v.ownBlock ≠ some p.block) : OwnR e k C (w.setCell p x) base v l := by
  refine ⟨h.1, ?_⟩
  rcases h.2 with h2 | ⟨g, cap, cur, rfl, hb, hg, rest⟩
  · exact .inl h2
  · refine .inr ⟨g, cap, cur, rfl, hb, ?_, rest⟩
    rw [Below.heap_setCell _ _ _ _ (fun e => hp (by rw [← e]; rfl))]
    exact hg
end
theorem wp_appQ25 {w w' : World} {o : Oper} {a : Act} {K : Act → World → Prop} {Q : Exit → Act → World → Prop} (t : TypeId) (s x : Operand) (ho : o.op = .call { callee := .builtin .append, args := #[s, x], argTypes := #[t, t] }) (v xv v' : Value) (hs : a.eval s = v) (hx : a.eval x = xv) (hrun : (Builtin.append_ #[t, t] o.type #[v, xv]).run Tryz.prog w = .ok v' w') (h : K (a.put o.dst v') w') : o.wp Tryz.prog a w K Q := by
  unfold Oper.wp
  simp [execOp, ho, resolve, invoke, builtin, hs, hx, hrun, Result.andThen]
  exact h
end Go.Proofs.YtffkakpbelknaaaGreatDoor

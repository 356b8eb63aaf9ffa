/- Parts of the proof. -/
import Derived.Test.YtffkakpbelknaaaGreatDoorO8
import Derived.Test.YtffkakpbelknaaaGreatDoorO28
namespace Go.Proofs.YtffkakpbelknaaaGreatDoor
set_option maxHeartbeats 4000000
set_option maxRecDepth 100000
open Go.ChangeShapes Go.WideShapes Go.ChangeAt Go.RowKit
set_option linter.unusedVariables false
def txC (s : ByteArray) : List Value := [.string s]
theorem txC_len (s : ByteArray) : (txC s).length = 1 := rfl
theorem txC_one (s : ByteArray) : ∀ x ∈ txC s, x.oneCell' = true := by intro x hx; obtain rfl := List.mem_singleton.1 hx; rfl
theorem Tryz.infoTx : (Tryz.prog.info? 9).map (fun i => (i.zero, i.size, i.bytes)) = some (some (.string ByteArray.empty), 1, 16) := by kernel_rfl
theorem one_recT {α : Type} {k : Nat} {C : α -> List Value} (hk : ∀ x, (C x).length = k) (w : World) (e : TypeId) (x : α) (cs : Array Value) (hcs : cs.toList = C x) : RecAt k C (w.alloc (.cells cs e)) (w.heap.size + 1) (.slice (some ⟨w.heap.size, 0, none⟩) 1 1) [x] := by
 refine ⟨_, 1, rfl, Nat.le_refl _, by unfold maxLen; omega, fun _ => ⟨w.heap.size, 0, rfl, Nat.lt_succ_self _, fun i hi j u hu => ?_⟩⟩
 have hi0 : i = 0 := by simpa using hi
 subst hi0
 rw [cell_of_row _ _ _ cs e (0, 0) (heap_alloc_new w _)]
 simp only [Nat.zero_mul, Nat.zero_add]
 rw [<- Array.getElem?_toList, hcs]
 exact hu
theorem rowT_new (w : World) (e : TypeId) (l : List ByteArray) (hl : l.length <= 1000) (cs : Array Value) (hcs : cs.toList = l.map Value.string) : RecAt 1 txC (w.alloc (.cells cs e)) (w.heap.size + 1) (.slice (some ⟨w.heap.size, 0, none⟩) l.length l.length) l := by
 refine ⟨_, l.length, rfl, Nat.le_refl _, by unfold maxLen; omega, fun _ => ⟨w.heap.size, 0, rfl, Nat.lt_succ_self _, fun i hi j u hu => ?_⟩⟩
 have hj : j = 0 := by
  rcases j with _ | j
  ·rfl
  ·simp [txC] at hu
 subst hj
 have hu0 : Value.string l[i] = u := by simpa [txC] using hu
 rw [cell_of_row _ _ _ cs e (0, 0) (heap_alloc_new w _), <- hu0]
 simp only [Nat.mul_one, Nat.zero_add, Nat.add_zero]
 rw [<- Array.getElem?_toList, hcs, List.getElem?_map, List.getElem?_eq_getElem hi]
 rfl
theorem rowT_at {w : World} {B : Nat} {v : Value} {l : List ByteArray} (h : RecAt 1 txC w B v l) (k : Nat) (hk : k < l.length) : ∃ b off cap, v = .slice (some ⟨b, off, none⟩) l.length cap /\ b < B /\ w.cell? ⟨b, off + k, none⟩ = some (.string l[k]) := by
 obtain ⟨a, cap, hv, h1, h2, hc⟩ := h
 obtain ⟨b, off, rfl, hB, hr⟩ := hc (by omega)
 refine ⟨b, off, cap, hv, hB, ?_⟩
 have := hr k hk 0 _ rfl
 rwa [Nat.mul_one, Nat.add_zero] at this
theorem gb_BelowT {w w' : World} {row : Option Nat} {B : Nat} (h : w.grownBy w' row) (hB : B <= w.heap.size) (hr : ∀ b, row = some b -> B <= b) : Below B w w' :=
 ⟨h.os, h.tape, h.output, h.size, fun k hk => h.block k (by omega) (fun e => by have := hr k e.symm; omega)⟩
theorem wpList_makeT {w : World} {ops : Array Oper} {rest : List Oper} {o : Oper} {a : Act} {Q : Exit -> Act -> World -> Prop}
  (hg : o.guard = none) (l c : Operand) (hop : o.op = Op.makeSlice 57 l c) (base : Nat) (kl kc : IntKind) (C : Int)
  (hl : a.eval l = .int kl 0) (hc : a.eval c = .int kc C) (hC0 : 0 <= C) (hC : C <= 100000000) (hbase : base <= w.heap.size)
  (hK : ∀ v' w', OwnR 9 1 txC w' base v' [] -> Below base w w' -> wpList Tryz.prog ops Q rest (a.put o.dst v') w') :
  wpList Tryz.prog ops Q (o :: rest) a w := by
 obtain ⟨i0, hi, hz0, hz1, hz2⟩ := info_parts Tryz.infoTx
 refine wpList_make_own w hg l c 57 hop base 9 i0 (.string ByteArray.empty) 1 Tryz.underlying57 hi hz0 hz1 kl kc C C.toNat hl hc (by omega) (by rw [hz2]; omega) (by unfold maxLen; omega) hbase ?_
 intro w1 hown hgrow
 exact hK _ _ hown ((Below.refl _ _).grown hgrow hbase (fun k hk => by cases hk))
def XTab (w : World) : Prop := ∃ m : Int, w.cell? ⟨2, 0, none⟩ = some (.int .i64 m)
theorem XTab.below {w w' : World} {B : Nat} (h : XTab w) (hb : Below B w w') (hB : w.heap.size <= B) : XTab w' := by
 obtain ⟨m, h⟩ := h
 have hlt : 2 < w.heap.size := by
  by_cases hg : 2 < w.heap.size
  ·exact hg
  ·exfalso
   unfold World.cell? at h
   rw [Array.getElem?_eq_none (Nat.le_of_not_lt hg)] at h
   cases h
 refine ⟨m, ?_⟩
 unfold World.cell? at h ⊢
 rw [hb.block 2 (Nat.lt_of_lt_of_le hlt hB)]
 exact h
end Go.Proofs.YtffkakpbelknaaaGreatDoor

/- Joined: W9t. -/
import Derived.Test.YtffkakpbelknaaaS21
import Derived.Test.YtffkakpbelknaaaS26
/- W9t -/
namespace Go.Proofs.Ytffkakpbelknaaa
open Go.ChangeShapes Go.WideShapes Go.ChangeAt Go.RowKit
set_option linter.unusedVariables false

section
variable {α : Type} {k : Nat} {C : α → List Value}
theorem RecAt.take {w : World} {B n cap : Nat} {a : Option Addr} {l : List α} (h : RecAt k C w B (.slice a n cap) l) (p : Nat) (hp : p ≤ l.length) : RecAt k C w B (.slice a p cap) (l.take p) := by
  obtain ⟨a', cap', hv, h1, h2, hc⟩ := h
  cases hv
  have hl : (l.take p).length = p := by rw [List.length_take]; omega
  refine ⟨a, cap, by rw [hl], by omega, h2, fun hp0 => ?_⟩
  obtain ⟨b, off, ha, hB, hr⟩ := hc (by omega)
  refine ⟨b, off, ha, hB, fun i hi j u hu => hr i (by omega) j u ?_⟩
  rw [List.getElem_take] at hu
  exact hu
theorem RecAt.drop {w : World} {B n cap : Nat} {a a2 : Option Addr} {l : List α} (h : RecAt k C w B (.slice a n cap) l) (p : Nat) (hp : p ≤ l.length) (ha2 : p < cap → ∀ b off, a = some ⟨b, off, none⟩ → a2 = some ⟨b, off + p * k, none⟩) : RecAt k C w B (.slice a2 (n - p) (cap - p)) (l.drop p) := by
  obtain ⟨a', cap', hv, h1, h2, hc⟩ := h
  cases hv
  refine ⟨a2, cap - p, by rw [List.length_drop], by rw [List.length_drop]; omega, by omega, fun hp0 => ?_⟩
  rw [List.length_drop] at hp0
  obtain ⟨b, off, ha, hB, hr⟩ := hc (by omega)
  refine ⟨b, off + p * k, ha2 (by omega) b off ha, hB, fun i hi j u hu => ?_⟩
  rw [List.length_drop] at hi
  rw [List.getElem_drop] at hu
  have := hr (p + i) (by omega) j u hu
  rw [Nat.add_mul] at this
  rw [show off + p * k + i * k + j = off + (p * k + i * k) + j by omega]
  exact this
end

/-- A value put into a list: in the place of the one there, or in between. -/
def putP {α : Type} (l : List α) (p : Nat) (f : Bool) (x : α) : List α := l.take p ++ (x :: l.drop (if f then p + 1 else p))
theorem one_rec {α : Type} {k : Nat} {C : α → List Value} (hk : ∀ x, (C x).length = k) (w : World) (e : TypeId) (x : α) (cs : Array Value) (hcs : cs.toList = C x) : RecAt k C (w.alloc (.cells cs e)) (w.heap.size + 1) (.slice (some ⟨w.heap.size, 0, none⟩) 1 1) [x] := by
  refine ⟨_, 1, rfl, Nat.le_refl _, by unfold maxLen; omega, fun _ => ⟨w.heap.size, 0, rfl, Nat.lt_succ_self _, fun i hi j u hu => ?_⟩⟩
  have hi0 : i = 0 := by simpa using hi
  subst hi0
  rw [cell_of_row _ _ _ cs e (0, 0) (heap_alloc_new w _)]
  simp only [Nat.zero_mul, Nat.zero_add]
  rw [← Array.getElem?_toList, hcs]
  exact hu
theorem vals_rec (w : World) (e : TypeId) (xs : List Value) (n : Nat) (hn : xs.length = n) (h0 : n ≤ 1000) : RecAt 1 vlC (w.alloc (.cells xs.toArray e)) (w.heap.size + 1) (.slice (some ⟨w.heap.size, 0, none⟩) n n) xs := by
  subst hn
  refine ⟨_, xs.length, rfl, Nat.le_refl _, by unfold maxLen; omega, fun _ => ⟨w.heap.size, 0, rfl, Nat.lt_succ_self _, fun i hi j u hu => ?_⟩⟩
  have hj : j = 0 := by have := (List.getElem?_eq_some_iff.1 hu).1; rw [vlC_len] at this; omega
  subst hj
  rw [cell_of_row _ _ _ _ e (0, 0) (heap_alloc_new w _), Nat.mul_one, Nat.zero_add, Nat.add_zero, List.getElem?_toArray, List.getElem?_eq_getElem hi]
  simpa [vlC] using hu
/-- What a function that makes a row answers, its blocks from B on. -/
def OutB {α : Type} (e : TypeId) (k : Nat) (C : α → List Value) (l : List α) (B : Nat) (w : World) (x : Ending) (w' : World) : Prop := ∃ v, x = .returned v ∧ OwnR e k C w' B v l ∧ Below B w w'

theorem cat3S (w : World) (a1 : Option Addr) (p c1 : Nat) (V3 : Value) (l1 l3 : List (Sb × Value)) (x : Sb × Value) (h1 : RecAt 3 sbC w w.heap.size (.slice a1 p c1) l1) (h3 : RecAt 3 sbC w w.heap.size V3 l3) (ho1 : ∀ q ∈ l1, q.2.oneCell' = true) (hox : x.2.oneCell' = true) (ho3 : ∀ q ∈ l3, q.2.oneCell' = true) (hn : l1.length + l3.length ≤ 1000) :
    Calls Try.prog 147 #[.slice (some ⟨w.heap.size + 1, 0, none⟩) 3 3] ((w.alloc (.cells #[.string x.1.u, .string x.1.t, x.2] 43)).alloc (.cells #[.slice a1 p c1, .slice (some ⟨w.heap.size, 0, none⟩) 1 1, V3] 88)) (OutB 43 3 sbC (l1 ++ (x :: l3)) w.heap.size w) := by
  have hs1 : (w.alloc (.cells #[.string x.1.u, .string x.1.t, x.2] 43)).heap.size = w.heap.size + 1 := by simp
  have hv := vals_rec (w.alloc (.cells #[.string x.1.u, .string x.1.t, x.2] 43)) 88 [.slice a1 p c1, .slice (some ⟨w.heap.size, 0, none⟩) 1 1, V3] 3 rfl (by decide)
  have ho := one_rec sbC_len w 43 x #[.string x.1.u, .string x.1.t, x.2] rfl
  have hb1 : Below w.heap.size w (w.alloc (.cells #[.string x.1.u, .string x.1.t, x.2] 43)) := (Below.refl _ _).alloc (Nat.le_refl _) _
  have hb2 : Below (w.heap.size + 1) (w.alloc (.cells #[.string x.1.u, .string x.1.t, x.2] 43)) ((w.alloc (.cells #[.string x.1.u, .string x.1.t, x.2] 43)).alloc (.cells [.slice a1 p c1, .slice (some ⟨w.heap.size, 0, none⟩) 1 1, V3].toArray 88)) := (Below.refl _ _).alloc (by rw [hs1]; exact Nat.le_refl _) _
  have hs2 : ((w.alloc (.cells #[.string x.1.u, .string x.1.t, x.2] 43)).alloc (.cells [.slice a1 p c1, .slice (some ⟨w.heap.size, 0, none⟩) 1 1, V3].toArray 88)).heap.size = w.heap.size + 2 := by simp
  rw [hs1] at hv
  have hB : Below w.heap.size w ((w.alloc (.cells #[.string x.1.u, .string x.1.t, x.2] 43)).alloc (.cells [.slice a1 p c1, .slice (some ⟨w.heap.size, 0, none⟩) 1 1, V3].toArray 88)) := hb1.trans (hb2.mono (by omega))
  have r1 := (h1.below hB).mono (show w.heap.size ≤ w.heap.size + 2 by omega)
  have r3 := (h3.below hB).mono (show w.heap.size ≤ w.heap.size + 2 by omega)
  have r2 := (ho.below hb2).mono (show w.heap.size + 1 ≤ w.heap.size + 2 by omega)
  have hv2 := hv.mono (show w.heap.size + 1 + 1 ≤ w.heap.size + 2 by omega)
  show Calls Try.prog 147 #[.slice (some ⟨w.heap.size + 1, 0, none⟩) 3 3] ((w.alloc (.cells #[.string x.1.u, .string x.1.t, x.2] 43)).alloc (.cells [.slice a1 p c1, .slice (some ⟨w.heap.size, 0, none⟩) 1 1, V3].toArray 88)) _
  generalize (w.alloc (.cells #[.string x.1.u, .string x.1.t, x.2] 43)).alloc (.cells [.slice a1 p c1, .slice (some ⟨w.heap.size, 0, none⟩) 1 1, V3].toArray 88) = W at hs2 hB r1 r2 r3 hv2 ⊢
  rw [← hs2] at r1 r2 r3 hv2
  refine (concatS_any _ [.slice a1 p c1, .slice (some ⟨w.heap.size, 0, none⟩) 1 1, V3] [l1, [x], l3] W hv2 rfl (fun i h h' => ?_) (fun l hl y hy => by
    simp only [List.mem_cons, List.not_mem_nil, or_false] at hl
    rcases hl with rfl | rfl | rfl
    · exact ho1 y hy
    · obtain rfl : y = x := by simpa using hy
      exact hox
    · exact ho3 y hy) (by simp; omega)).mono ?_
  · match i, h, h' with
    | 0, _, _ => exact r1
    | 1, _, _ => exact r2
    | 2, _, _ => exact r3
  · rintro e w' ⟨v, rfl, hown, hb⟩
    have e1 : [l1, [x], l3].flatten = l1 ++ (x :: l3) := by simp
    rw [e1] at hown
    exact ⟨v, rfl, hown.base_mono (by omega), hB.trans (hb.mono (by omega))⟩

theorem cat2S (w : World) (a1 : Option Addr) (p c1 : Nat) (V3 : Value) (l1 l3 : List (Sb × Value)) (h1 : RecAt 3 sbC w w.heap.size (.slice a1 p c1) l1) (h3 : RecAt 3 sbC w w.heap.size V3 l3) (ho1 : ∀ q ∈ l1, q.2.oneCell' = true) (ho3 : ∀ q ∈ l3, q.2.oneCell' = true) (hn : l1.length + l3.length ≤ 1000) :
    Calls Try.prog 147 #[.slice (some ⟨w.heap.size, 0, none⟩) 2 2] (w.alloc (.cells #[.slice a1 p c1, V3] 88)) (OutB 43 3 sbC (l1 ++ l3) w.heap.size w) := by
  have hv := vals_rec w 88 [.slice a1 p c1, V3] 2 rfl (by decide)
  have hB : Below w.heap.size w (w.alloc (.cells [.slice a1 p c1, V3].toArray 88)) := (Below.refl _ _).alloc (Nat.le_refl _) _
  have hs2 : (w.alloc (.cells [.slice a1 p c1, V3].toArray 88)).heap.size = w.heap.size + 1 := by simp
  have r1 := (h1.below hB).mono (show w.heap.size ≤ w.heap.size + 1 by omega)
  have r3 := (h3.below hB).mono (show w.heap.size ≤ w.heap.size + 1 by omega)
  show Calls Try.prog 147 #[.slice (some ⟨w.heap.size, 0, none⟩) 2 2] (w.alloc (.cells [.slice a1 p c1, V3].toArray 88)) _
  generalize w.alloc (.cells [.slice a1 p c1, V3].toArray 88) = W at hs2 hB r1 r3 hv ⊢
  rw [← hs2] at r1 r3 hv
  refine (concatS_any _ [.slice a1 p c1, V3] [l1, l3] W hv rfl (fun i h h' => ?_) (fun l hl y hy => by
    simp only [List.mem_cons, List.not_mem_nil, or_false] at hl
    rcases hl with rfl | rfl
    · exact ho1 y hy
    · exact ho3 y hy) (by simp; omega)).mono ?_
  · match i, h, h' with
    | 0, _, _ => exact r1
    | 1, _, _ => exact r3
  · rintro e w' ⟨v, rfl, hown, hb⟩
    have e1 : [l1, l3].flatten = l1 ++ l3 := by simp
    rw [e1] at hown
    exact ⟨v, rfl, hown.base_mono (by omega), hB.trans (hb.mono (by omega))⟩

theorem cat3E (w : World) (a1 : Option Addr) (p c1 : Nat) (V3 : Value) (l1 l3 : List (En)) (x : En) (h1 : RecAt 5 enC w w.heap.size (.slice a1 p c1) l1) (h3 : RecAt 5 enC w w.heap.size V3 l3) (hn : l1.length + l3.length ≤ 1000) :
    Calls Try.prog 165 #[.slice (some ⟨w.heap.size + 1, 0, none⟩) 3 3] ((w.alloc (.cells #[.string x.it.id, .string x.it.ti, .int .i64 x.it.da, .bool x.rd, .bool x.st] 47)).alloc (.cells #[.slice a1 p c1, .slice (some ⟨w.heap.size, 0, none⟩) 1 1, V3] 194)) (OutB 47 5 enC (l1 ++ (x :: l3)) w.heap.size w) := by
  have hs1 : (w.alloc (.cells #[.string x.it.id, .string x.it.ti, .int .i64 x.it.da, .bool x.rd, .bool x.st] 47)).heap.size = w.heap.size + 1 := by simp
  have hv := vals_rec (w.alloc (.cells #[.string x.it.id, .string x.it.ti, .int .i64 x.it.da, .bool x.rd, .bool x.st] 47)) 194 [.slice a1 p c1, .slice (some ⟨w.heap.size, 0, none⟩) 1 1, V3] 3 rfl (by decide)
  have ho := one_rec enC_len w 47 x #[.string x.it.id, .string x.it.ti, .int .i64 x.it.da, .bool x.rd, .bool x.st] rfl
  have hb1 : Below w.heap.size w (w.alloc (.cells #[.string x.it.id, .string x.it.ti, .int .i64 x.it.da, .bool x.rd, .bool x.st] 47)) := (Below.refl _ _).alloc (Nat.le_refl _) _
  have hb2 : Below (w.heap.size + 1) (w.alloc (.cells #[.string x.it.id, .string x.it.ti, .int .i64 x.it.da, .bool x.rd, .bool x.st] 47)) ((w.alloc (.cells #[.string x.it.id, .string x.it.ti, .int .i64 x.it.da, .bool x.rd, .bool x.st] 47)).alloc (.cells [.slice a1 p c1, .slice (some ⟨w.heap.size, 0, none⟩) 1 1, V3].toArray 194)) := (Below.refl _ _).alloc (by rw [hs1]; exact Nat.le_refl _) _
  have hs2 : ((w.alloc (.cells #[.string x.it.id, .string x.it.ti, .int .i64 x.it.da, .bool x.rd, .bool x.st] 47)).alloc (.cells [.slice a1 p c1, .slice (some ⟨w.heap.size, 0, none⟩) 1 1, V3].toArray 194)).heap.size = w.heap.size + 2 := by simp
  rw [hs1] at hv
  have hB : Below w.heap.size w ((w.alloc (.cells #[.string x.it.id, .string x.it.ti, .int .i64 x.it.da, .bool x.rd, .bool x.st] 47)).alloc (.cells [.slice a1 p c1, .slice (some ⟨w.heap.size, 0, none⟩) 1 1, V3].toArray 194)) := hb1.trans (hb2.mono (by omega))
  have r1 := (h1.below hB).mono (show w.heap.size ≤ w.heap.size + 2 by omega)
  have r3 := (h3.below hB).mono (show w.heap.size ≤ w.heap.size + 2 by omega)
  have r2 := (ho.below hb2).mono (show w.heap.size + 1 ≤ w.heap.size + 2 by omega)
  have hv2 := hv.mono (show w.heap.size + 1 + 1 ≤ w.heap.size + 2 by omega)
  show Calls Try.prog 165 #[.slice (some ⟨w.heap.size + 1, 0, none⟩) 3 3] ((w.alloc (.cells #[.string x.it.id, .string x.it.ti, .int .i64 x.it.da, .bool x.rd, .bool x.st] 47)).alloc (.cells [.slice a1 p c1, .slice (some ⟨w.heap.size, 0, none⟩) 1 1, V3].toArray 194)) _
  generalize (w.alloc (.cells #[.string x.it.id, .string x.it.ti, .int .i64 x.it.da, .bool x.rd, .bool x.st] 47)).alloc (.cells [.slice a1 p c1, .slice (some ⟨w.heap.size, 0, none⟩) 1 1, V3].toArray 194) = W at hs2 hB r1 r2 r3 hv2 ⊢
  rw [← hs2] at r1 r2 r3 hv2
  refine (concatE_any _ [.slice a1 p c1, .slice (some ⟨w.heap.size, 0, none⟩) 1 1, V3] [l1, [x], l3] W hv2 rfl (fun i h h' => ?_) (by simp; omega)).mono ?_
  · match i, h, h' with
    | 0, _, _ => exact r1
    | 1, _, _ => exact r2
    | 2, _, _ => exact r3
  · rintro e w' ⟨v, rfl, hown, hb⟩
    have e1 : [l1, [x], l3].flatten = l1 ++ (x :: l3) := by simp
    rw [e1] at hown
    exact ⟨v, rfl, hown.base_mono (by omega), hB.trans (hb.mono (by omega))⟩

theorem cat2E (w : World) (a1 : Option Addr) (p c1 : Nat) (V3 : Value) (l1 l3 : List (En)) (h1 : RecAt 5 enC w w.heap.size (.slice a1 p c1) l1) (h3 : RecAt 5 enC w w.heap.size V3 l3) (hn : l1.length + l3.length ≤ 1000) :
    Calls Try.prog 165 #[.slice (some ⟨w.heap.size, 0, none⟩) 2 2] (w.alloc (.cells #[.slice a1 p c1, V3] 194)) (OutB 47 5 enC (l1 ++ l3) w.heap.size w) := by
  have hv := vals_rec w 194 [.slice a1 p c1, V3] 2 rfl (by decide)
  have hB : Below w.heap.size w (w.alloc (.cells [.slice a1 p c1, V3].toArray 194)) := (Below.refl _ _).alloc (Nat.le_refl _) _
  have hs2 : (w.alloc (.cells [.slice a1 p c1, V3].toArray 194)).heap.size = w.heap.size + 1 := by simp
  have r1 := (h1.below hB).mono (show w.heap.size ≤ w.heap.size + 1 by omega)
  have r3 := (h3.below hB).mono (show w.heap.size ≤ w.heap.size + 1 by omega)
  show Calls Try.prog 165 #[.slice (some ⟨w.heap.size, 0, none⟩) 2 2] (w.alloc (.cells [.slice a1 p c1, V3].toArray 194)) _
  generalize w.alloc (.cells [.slice a1 p c1, V3].toArray 194) = W at hs2 hB r1 r3 hv ⊢
  rw [← hs2] at r1 r3 hv
  refine (concatE_any _ [.slice a1 p c1, V3] [l1, l3] W hv rfl (fun i h h' => ?_) (by simp; omega)).mono ?_
  · match i, h, h' with
    | 0, _, _ => exact r1
    | 1, _, _ => exact r3
  · rintro e w' ⟨v, rfl, hown, hb⟩
    have e1 : [l1, l3].flatten = l1 ++ l3 := by simp
    rw [e1] at hown
    exact ⟨v, rfl, hown.base_mono (by omega), hB.trans (hb.mono (by omega))⟩

end Go.Proofs.Ytffkakpbelknaaa

/- Parts of the proof. -/
import Derived.BigQuiet
import Derived.Test.YtffkakpbelknaaaGreatDoorO3
import Derived.Test.YtffkakpbelknaaaGreatDoorO16
namespace Go.Proofs.YtffkakpbelknaaaGreatDoor
set_option maxHeartbeats 4000000
set_option maxRecDepth 100000
open Go.ChangeShapes Go.WideShapes Go.ChangeAt Go.RowKit
set_option linter.unusedVariables false
structure It where
 id : ByteArray
 ti : ByteArray
 da : Int
def itC (x : It) : List Value := [.string x.id, .string x.ti, .int .i64 x.da]
theorem itC_len (x : It) : (itC x).length = 3 := rfl
def ItAt (w : World) (B : Nat) (v : Value) (its : List It) : Prop := RecAt 3 itC w B v its /\ ∀ x ∈ its, x.id.size <= maxLen /\ x.ti.size <= maxLen
theorem ItAt.raw {w : World} {B : Nat} {v : Value} {its : List It} (h : ItAt w B v its) : ∃ a cap, v = .slice a its.length cap /\ its.length <= cap /\ cap <= maxLen /\
  ∀ j, j < its.length -> ∃ b off, a = some ⟨b, off, none⟩ /\ b < B /\ ∀ i (h : i < its.length), w.cell? ⟨b, off + i * 3, none⟩ = some (.string its[i].id) /\ w.cell? ⟨b, off + i * 3 + 1, none⟩ = some (.string its[i].ti) /\ w.cell? ⟨b, off + i * 3 + 2, none⟩ = some (.int .i64 its[i].da) /\ its[i].id.size <= maxLen /\ its[i].ti.size <= maxLen := by
 obtain ⟨⟨a, cap, hv, h1, h2, hc⟩, hs⟩ := h
 refine ⟨a, cap, hv, h1, h2, fun j hj => ?_⟩
 obtain ⟨b, off, ha, hB, hr⟩ := hc (by omega)
 exact ⟨b, off, ha, hB, fun i hi => ⟨hr i hi 0 _ rfl, hr i hi 1 _ rfl, hr i hi 2 _ rfl, hs _ (List.getElem_mem hi)⟩⟩
theorem ItAt.below {w w' : World} {B : Nat} {v : Value} {its : List It} (h : ItAt w B v its) (hb : Below B w w') : ItAt w' B v its := ⟨h.1.below hb, h.2⟩
theorem ItAt.mono {w : World} {B B' : Nat} {v : Value} {its : List It} (h : ItAt w B v its) (hb : B <= B') : ItAt w B' v its := ⟨h.1.mono hb, h.2⟩
end Go.Proofs.YtffkakpbelknaaaGreatDoor
namespace Go.Proofs.YtffkakpbelknaaaGreatDoor
open Go.ChangeShapes Go.WideShapes Go.ChangeAt Go.RowKit
set_option linter.unusedVariables false
abbrev iC (s t : ByteArray) (d : Int) : Obj := .cells #[.string s, .string t, .int .i64 d] 55
def IAt (w : World) (g : Nat) (s t : ByteArray) (d : Int) : Prop := w.heap[g]? = some (.cells #[.string s, .string t, .int .i64 d] 55 (0, 0))
theorem IAt.new (w : World) (s t : ByteArray) (d : Int) : IAt (w.alloc (iC s t d)) w.heap.size s t d := heap_alloc_new w _
theorem IAt.keep {w w' : World} {g B : Nat} {s t : ByteArray} {d : Int} (h : IAt w g s t d) (hb : Below B w w') (hB : w.heap.size <= B) : IAt w' g s t d := (hb.block g (by have : g < w.heap.size := (Array.getElem?_eq_some_iff.1 h).1; omega)).trans h
theorem IAt.c0 {w : World} {g : Nat} {s t : ByteArray} {d : Int} (h : IAt w g s t d) : w.cell? ⟨g, 0, none⟩ = some (.string s) := cell_of8 (i := 0) h rfl
theorem IAt.c1 {w : World} {g : Nat} {s t : ByteArray} {d : Int} (h : IAt w g s t d) : w.cell? ⟨g, 1, none⟩ = some (.string t) := cell_of8 (i := 1) h rfl
theorem IAt.c2 {w : World} {g : Nat} {s t : ByteArray} {d : Int} (h : IAt w g s t d) : w.cell? ⟨g, 2, none⟩ = some (.int .i64 d) := cell_of8 (i := 2) h rfl
end Go.Proofs.YtffkakpbelknaaaGreatDoor
namespace Go.Proofs.YtffkakpbelknaaaGreatDoor
open Go.ChangeShapes Go.WideShapes Go.ChangeAt Go.RowKit
set_option linter.unusedVariables false
theorem sameFeed_any (u t : ByteArray) (v v' : Value) (its : List It) (w : World) (h : ItAt w w.heap.size v its) (h' : ItAt w w.heap.size v' its) :
  Calls Tryz.prog 13 #[.agg #[.string u, .string t, v], .agg #[.string u, .string t, v']] w fun e w' => e = .returned (.bool true) /\ Below w.heap.size w w' := by
 obtain ⟨a, cap, rfl, hl, hm, hc⟩ := h.1
 obtain ⟨a', cap', rfl, hl', hm', hc'⟩ := h'.1
 have HI := Lib.hid h
 have HJ := Lib.hid h'
 unfold maxLen at hm hm'
 clear hc hc' h h'
 obtain ⟨W0, hW0⟩ : ∃ W0, W0 = (w.alloc (.cells #[.string u, .string t, .slice a its.length cap] 26)).alloc (.cells #[.string u, .string t, .slice a' its.length cap'] 26) := ⟨_, rfl⟩
 have hb0 : Below w.heap.size w W0 := by rw [hW0]; exact ((Below.refl _ _).alloc (Nat.le_refl _) _).alloc (by simp) _
 have hx0 : Box W0 w.heap.size #[.string u, .string t, .slice a its.length cap] 26 := by rw [hW0]; exact (Box.new w #[.string u, .string t, .slice a its.length cap] 26).alloc _
 have hy0 : Box W0 (w.heap.size + 1) #[.string u, .string t, .slice a' its.length cap'] 26 := by
  rw [hW0]
  have := Box.new (w.alloc (.cells #[.string u, .string t, .slice a its.length cap] 26)) #[.string u, .string t, .slice a' its.length cap'] 26
  simpa using this
 have hz0 : W0.heap.size = w.heap.size + 2 := by rw [hW0]; simp
 have p0 := hx0.cell 0 _ rfl
 have p1 := hx0.cell 1 _ rfl
 have p2 := hx0.cell 2 _ rfl
 have q0 := hy0.cell 0 _ rfl
 have q1 := hy0.cell 1 _ rfl
 have q2 := hy0.cell 2 _ rfl
 rw [hW0] at p0 p1 p2 q0 q1 q2
 go_enter Tryz.func13, Tryz.ntmps13
 go_wp2
 clear p0 p1 p2 q0 q1 q2
 rw [<- hW0]
 clear hW0
 go_loopw [5] (fun i wr => ∃ k : Nat, k <= its.length /\ i = .int .i64 (k : Int) /\ Below W0.heap.size W0 wr) (fun i _ => its.length - (intOf i).toNat)
 case atStart => exact ⟨0, Nat.zero_le _, rfl, Below.refl _ _⟩
 case round =>
  obtain ⟨k, hk, rfl, hB⟩ := hrel
  have p2 : wr.cell? ⟨w.heap.size, 2, none⟩ = some (.slice a its.length cap) := (hx0.keep hB hx0.lt).cell 2 _ rfl
  have q2 : wr.cell? ⟨w.heap.size + 1, 2, none⟩ = some (.slice a' its.length cap') := (hy0.keep hB hy0.lt).cell 2 _ rfl
  by_cases hlt : k < its.length
  ·have hBw : Below w.heap.size w wr := hb0.trans (hB.mono (by omega))
   obtain ⟨a1, cap1, hv, _, _, hc⟩ := (HI.out.below hBw).1
   cases hv
   obtain ⟨a2, cap2, hv, _, _, hc'⟩ := (HJ.out.below hBw).1
   cases hv
   obtain ⟨b, off, rfl, hb, hr⟩ := hc (by omega)
   obtain ⟨b', off', rfl, hb', hr'⟩ := hc' (by omega)
   obtain ⟨it, hit⟩ : ∃ it, it = its[k] := ⟨_, rfl⟩
   have c0 : wr.cell? ⟨b, off + k * 3, none⟩ = some (.string it.id) := hr k hlt 0 _ (by rw [<- hit]; rfl)
   have c1 : wr.cell? ⟨b, off + k * 3 + 1, none⟩ = some (.string it.ti) := hr k hlt 1 _ (by rw [<- hit]; rfl)
   have c2 : wr.cell? ⟨b, off + k * 3 + 2, none⟩ = some (.int .i64 it.da) := hr k hlt 2 _ (by rw [<- hit]; rfl)
   have d0 : wr.cell? ⟨b', off' + k * 3, none⟩ = some (.string it.id) := hr' k hlt 0 _ (by rw [<- hit]; rfl)
   have d1 : wr.cell? ⟨b', off' + k * 3 + 1, none⟩ = some (.string it.ti) := hr' k hlt 1 _ (by rw [<- hit]; rfl)
   have d2 : wr.cell? ⟨b', off' + k * 3 + 2, none⟩ = some (.int .i64 it.da) := hr' k hlt 2 _ (by rw [<- hit]; rfl)
   have hkl : decide ((k : Int) < (its.length : Int)) = true := decide_eq_true (by omega)
   have hkl2 : (k : Int) < (its.length : Int) := by omega
   have hk0 : (0 : Int) <= (k : Int) := by omega
   clear hr hr' hc hc' hit
   go_wp2
   go_quiet (fail)
   go_wp2
   go_roundw
   case rel => exact ⟨k + 1, by omega, by go_num, below_drewN hB _⟩
   case measure => simp [intOf]; omega
  ·have hkl : decide ((k : Int) < (its.length : Int)) = false := decide_eq_false (by omega)
   go_wp2
   go_ret
   exact ⟨rfl, hb0.trans (hB.mono (by omega))⟩
end Go.Proofs.YtffkakpbelknaaaGreatDoor

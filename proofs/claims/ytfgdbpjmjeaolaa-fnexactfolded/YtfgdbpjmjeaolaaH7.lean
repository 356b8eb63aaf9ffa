/- Joined: W8g, W8j. -/
import Derived.Test.YtfgdbpjmjeaolaaH3
import Derived.Test.YtfgdbpjmjeaolaaH6
/- W8g -/
namespace Go.Proofs.Ytfgdbpjmjeaolaa
open Go.ChangeShapes Go.WideShapes Go.ChangeAt Go.RowKit
set_option linter.unusedVariables false

structure It where
  id : ByteArray
  ti : ByteArray
  da : Int
def itC (x : It) : List Value := [.string x.id, .string x.ti, .int .i64 x.da]
theorem itC_len (x : It) : (itC x).length = 3 := rfl
def ItAt (w : World) (B : Nat) (v : Value) (its : List It) : Prop := RecAt 3 itC w B v its ∧ ∀ x ∈ its, x.id.size ≤ maxLen ∧ x.ti.size ≤ maxLen
theorem ItAt.raw {w : World} {B : Nat} {v : Value} {its : List It} (h : ItAt w B v its) : ∃ a cap, v = .slice a its.length cap ∧ its.length ≤ cap ∧ cap ≤ maxLen ∧
    ∀ j, j < its.length → ∃ b off, a = some ⟨b, off, none⟩ ∧ b < B ∧ ∀ i (h : i < its.length), w.cell? ⟨b, off + i * 3, none⟩ = some (.string its[i].id) ∧ w.cell? ⟨b, off + i * 3 + 1, none⟩ = some (.string its[i].ti) ∧ w.cell? ⟨b, off + i * 3 + 2, none⟩ = some (.int .i64 its[i].da) ∧ its[i].id.size ≤ maxLen ∧ its[i].ti.size ≤ maxLen := by
  obtain ⟨⟨a, cap, hv, h1, h2, hc⟩, hs⟩ := h
  refine ⟨a, cap, hv, h1, h2, fun j hj => ?_⟩
  obtain ⟨b, off, ha, hB, hr⟩ := hc (by omega)
  exact ⟨b, off, ha, hB, fun i hi => ⟨hr i hi 0 _ rfl, hr i hi 1 _ rfl, hr i hi 2 _ rfl, hs _ (List.getElem_mem hi)⟩⟩
theorem ItAt.below {w w' : World} {B : Nat} {v : Value} {its : List It} (h : ItAt w B v its) (hb : Below B w w') : ItAt w' B v its := ⟨h.1.below hb, h.2⟩
theorem ItAt.mono {w : World} {B B' : Nat} {v : Value} {its : List It} (h : ItAt w B v its) (hb : B ≤ B') : ItAt w B' v its := ⟨h.1.mono hb, h.2⟩

def szI (n : Int) (s t : ByteArray) : Int := if n - s.size < 0 then -1 else if n - s.size - t.size < 0 then -1 else n - s.size - t.size
theorem szI_bd (n : Int) (s t : ByteArray) (h : 0 ≤ n) : -1 ≤ szI n s t ∧ szI n s t ≤ n := by
  unfold szI
  split
  · omega
  · split <;> omega

set_option maxRecDepth 100000 in
set_option maxHeartbeats 1600000 in
theorem szItem_any (s t : ByteArray) (d n : Int) (w : World) (hs : s.size ≤ maxLen) (ht : t.size ≤ maxLen) (h0 : 0 ≤ n) (h1 : n ≤ 1048576) :
    Calls Try.prog 183 #[itV s t d, .int .i64 n] w fun e w' => e = .returned (.int .i64 (szI n s t)) ∧ Below w.heap.size w w' := by
  have hB0 : Below w.heap.size w (w.alloc (.cells #[.string s, .string t, .int .i64 d] 231)) := (Below.refl _ _).alloc (Nat.le_refl _) _
  unfold maxLen at hs ht
  by_cases h2 : n - s.size < 0
  · have HE : Hid (szI n s t = -1) := Lib.hid (if_pos h2)
    rw [HE.out]
    clear HE
    go_enter Try.func183, Try.ntmps183
    go_wp2
    go_ret
    exact ⟨rfl, hB0⟩
  · by_cases h3 : n - s.size - t.size < 0
    · have HE : Hid (szI n s t = -1) := Lib.hid (by unfold szI; rw [if_neg h2, if_pos h3])
      rw [HE.out]
      clear HE
      go_enter Try.func183, Try.ntmps183
      go_wp2
      go_ret
      exact ⟨rfl, hB0⟩
    · have HE : Hid (szI n s t = n - s.size - t.size) := Lib.hid (by unfold szI; rw [if_neg h2, if_neg h3])
      rw [HE.out]
      clear HE
      go_enter Try.func183, Try.ntmps183
      go_wp2
      go_ret
      exact ⟨rfl, hB0⟩

set_option maxRecDepth 100000 in
set_option maxHeartbeats 1600000 in
theorem szItemS_any (v : Value) (its : List It) (n : Int) (w : World) (h : ItAt w w.heap.size v its) (h0 : 0 ≤ n) (h1 : n ≤ 1048576) :
    Calls Try.prog 151 #[v, .int .i64 n] w fun e w' => ∃ r : Int, e = .returned (.int .i64 r) ∧ -1 ≤ r ∧ r ≤ n ∧ (0 ≤ r → (its.length : Int) ≤ n) ∧ Below w.heap.size w w' := by
  have HI := Lib.hid h
  obtain ⟨a, cap, rfl, hl, hm, hc⟩ := h.raw
  unfold maxLen at hm
  clear hc
  by_cases h2 : n - its.length < 0
  · go_enter Try.func151, Try.ntmps151
    go_wp2
    go_ret
    exact ⟨-1, rfl, by omega, by omega, by omega, Below.refl _ _⟩
  · go_enter Try.func151, Try.ntmps151
    go_wp2
    go_loopw [1, 5] (fun r i wr => ∃ (k : Nat) (x : Int), k ≤ its.length ∧ i = .int .i64 (k : Int) ∧ r = .int .i64 x ∧ 0 ≤ x ∧ x ≤ n ∧ Below w.heap.size w wr) (fun _ i _ => its.length - (intOf i).toNat)
    case atStart => exact ⟨0, n - its.length, Nat.zero_le _, rfl, rfl, by omega, by omega, Below.refl _ _⟩
    case round =>
      obtain ⟨k, x, hk, rfl, rfl, hx0, hx1, hB⟩ := hrel
      by_cases hlt : k < its.length
      · obtain ⟨a', cap', hv, _, _, hc⟩ := (HI.out.below hB).raw
        cases hv
        obtain ⟨b, off, rfl, hb, hr⟩ := hc k hlt
        obtain ⟨c0, c1, c2, s0, s1⟩ := hr k hlt
        have HC := Lib.hid (fun w => szItem_any its[k].id its[k].ti its[k].da x w s0 s1 hx0 (by omega))
        have hbd := szI_bd x its[k].id its[k].ti hx0
        generalize szI x its[k].id its[k].ti = y at HC hbd
        obtain ⟨S, hS⟩ : ∃ S, S = its[k].id := ⟨_, rfl⟩
        obtain ⟨T, hT⟩ : ∃ T, T = its[k].ti := ⟨_, rfl⟩
        obtain ⟨D, hD⟩ : ∃ D, D = its[k].da := ⟨_, rfl⟩
        rw [← hS] at c0 HC
        rw [← hT] at c1 HC
        rw [← hD] at c2 HC
        clear hr hc hS hT hD s0 s1
        go_wp2_with fail
        refine (HC.out _).mono ?_
        rintro e w1 ⟨rfl, hb1⟩
        have hB1 := hB.trans (hb1.mono hB.size)
        clear hb1 hB HC c0 c1 c2
        by_cases hy : y < 0
        · go_wp2
          go_ret
          exact ⟨-1, rfl, by omega, by omega, by omega, hB1⟩
        · go_wp2
          go_roundw
          case rel => exact ⟨k + 1, y, by omega, by go_num, rfl, by omega, by omega, hB1⟩
          case measure => simp [intOf]; omega
      · go_wp2
        go_ret
        exact ⟨x, rfl, by omega, hx1, by omega, hB⟩
end Go.Proofs.Ytfgdbpjmjeaolaa

/- W8j -/
namespace Go.Proofs.Ytfgdbpjmjeaolaa
open Go.ChangeShapes Go.WideShapes Go.ChangeAt Go.RowKit
set_option linter.unusedVariables false

abbrev iC (s t : ByteArray) (d : Int) : Obj := .cells #[.string s, .string t, .int .i64 d] 107
def IAt (w : World) (g : Nat) (s t : ByteArray) (d : Int) : Prop := w.heap[g]? = some (.cells #[.string s, .string t, .int .i64 d] 107 (0, 0))
theorem IAt.new (w : World) (s t : ByteArray) (d : Int) : IAt (w.alloc (iC s t d)) w.heap.size s t d := heap_alloc_new w _
theorem IAt.keep {w w' : World} {g B : Nat} {s t : ByteArray} {d : Int} (h : IAt w g s t d) (hb : Below B w w') (hB : w.heap.size ≤ B) : IAt w' g s t d := (hb.block g (by have : g < w.heap.size := (Array.getElem?_eq_some_iff.1 h).1; omega)).trans h
theorem IAt.c0 {w : World} {g : Nat} {s t : ByteArray} {d : Int} (h : IAt w g s t d) : w.cell? ⟨g, 0, none⟩ = some (.string s) := cell_of8 (i := 0) h rfl
theorem IAt.c1 {w : World} {g : Nat} {s t : ByteArray} {d : Int} (h : IAt w g s t d) : w.cell? ⟨g, 1, none⟩ = some (.string t) := cell_of8 (i := 1) h rfl
theorem IAt.c2 {w : World} {g : Nat} {s t : ByteArray} {d : Int} (h : IAt w g s t d) : w.cell? ⟨g, 2, none⟩ = some (.int .i64 d) := cell_of8 (i := 2) h rfl

end Go.Proofs.Ytfgdbpjmjeaolaa

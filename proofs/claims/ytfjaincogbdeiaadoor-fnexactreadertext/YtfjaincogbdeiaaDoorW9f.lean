/- What the laws make of entries: counted, copied, held against each other. -/
import Derived.Test.YtfjaincogbdeiaaDoorW9e
import Derived.Test.YtfjaincogbdeiaaDoorW8m
namespace Go.Proofs.YtfjaincogbdeiaaDoor
open Go.ChangeShapes Go.WideShapes Go.ChangeAt Go.RowKit
set_option linter.unusedVariables false

theorem Tryd.infoEntry : (Tryd.prog.info? 82).map (fun i => (i.zero, i.size, i.bytes)) = some (some (.agg #[.string ByteArray.empty, .string ByteArray.empty, .int .i64 0, .bool false, .bool false]), 5, 48) := by kernel_rfl

set_option maxRecDepth 100000 in
set_option maxHeartbeats 1600000 in
theorem szEntry_any (s t : ByteArray) (d : Int) (r b : Bool) (n : Int) (w : World) (hs : s.size ≤ maxLen) (ht : t.size ≤ maxLen) (h0 : 0 ≤ n) (h1 : n ≤ 1048576) :
    Calls Tryd.prog 113 #[enV s t d r b, .int .i64 n] w fun e w' => e = .returned (.int .i64 (szI n s t)) ∧ Below w.heap.size w w' := by
  have HC := Lib.hid (fun w => szItem_any s t d n w hs ht h0 h1)
  have hbd := szI_bd n s t h0
  have HV : Hid (szI n s t < 0 → szI n s t = -1) := Lib.hid (fun h => by omega)
  generalize szI n s t = y at HC hbd HV ⊢
  have hB0 : Below w.heap.size w (w.alloc (.cells #[.string s, .string t, .int .i64 d, .bool r, .bool b] 155)) := (Below.refl _ _).alloc (Nat.le_refl _) _
  go_enter Tryd.func113, Tryd.ntmps113
  go_wp2_with fail
  refine (HC.out _).mono ?_
  rintro e w1 ⟨rfl, hb1⟩
  have hB1 := hB0.trans (hb1.mono hB0.size)
  clear hb1 hB0
  by_cases hy : y < 0
  · obtain rfl := HV.out hy
    go_wp2
    go_ret
    exact ⟨rfl, hB1⟩
  · go_wp2
    go_ret
    exact ⟨rfl, hB1⟩

set_option maxRecDepth 100000 in
set_option maxHeartbeats 1600000 in
theorem szEntryS_any (v : Value) (es : List En) (n : Int) (w : World) (h : EnAt w w.heap.size v es) (h0 : 0 ≤ n) (h1 : n ≤ 1048576) :
    Calls Tryd.prog 96 #[v, .int .i64 n] w fun e w' => ∃ r : Int, e = .returned (.int .i64 r) ∧ -1 ≤ r ∧ r ≤ n ∧ (0 ≤ r → (es.length : Int) ≤ n) ∧ Below w.heap.size w w' := by
  have HI := Lib.hid h
  obtain ⟨a, cap, rfl, hl, hm, hc⟩ := h.raw
  unfold maxLen at hm
  clear hc
  by_cases h2 : n - es.length < 0
  · go_enter Tryd.func96, Tryd.ntmps96
    go_wp2
    go_ret
    exact ⟨-1, rfl, by omega, by omega, by omega, Below.refl _ _⟩
  · go_enter Tryd.func96, Tryd.ntmps96
    go_wp2
    go_loopw [1, 5] (fun r i wr => ∃ (k : Nat) (x : Int), k ≤ es.length ∧ i = .int .i64 (k : Int) ∧ r = .int .i64 x ∧ 0 ≤ x ∧ x ≤ n ∧ Below w.heap.size w wr) (fun _ i _ => es.length - (intOf i).toNat)
    case atStart => exact ⟨0, n - es.length, Nat.zero_le _, rfl, rfl, by omega, by omega, Below.refl _ _⟩
    case round =>
      obtain ⟨k, x, hk, rfl, rfl, hx0, hx1, hB⟩ := hrel
      by_cases hlt : k < es.length
      · obtain ⟨a', cap', hv, _, _, hc⟩ := (HI.out.below hB).raw
        cases hv
        obtain ⟨b, off, rfl, hb, hr⟩ := hc k hlt
        obtain ⟨c0, c1, c2, c3, c4, s0, s1⟩ := hr k hlt
        have HC := Lib.hid (fun w => szEntry_any es[k].it.id es[k].it.ti es[k].it.da es[k].rd es[k].st x w s0 s1 hx0 (by omega))
        have hbd := szI_bd x es[k].it.id es[k].it.ti hx0
        generalize szI x es[k].it.id es[k].it.ti = y at HC hbd
        obtain ⟨S0, hS0⟩ : ∃ x, x = es[k].it.id := ⟨_, rfl⟩
        obtain ⟨S1, hS1⟩ : ∃ x, x = es[k].it.ti := ⟨_, rfl⟩
        obtain ⟨S2, hS2⟩ : ∃ x, x = es[k].it.da := ⟨_, rfl⟩
        obtain ⟨S3, hS3⟩ : ∃ x, x = es[k].rd := ⟨_, rfl⟩
        obtain ⟨S4, hS4⟩ : ∃ x, x = es[k].st := ⟨_, rfl⟩
        rw [← hS0] at c0 HC
        rw [← hS1] at c1 HC
        rw [← hS2] at c2 HC
        rw [← hS3] at c3 HC
        rw [← hS4] at c4 HC
        clear hr hc hS0 hS1 hS2 hS3 hS4 s0 s1
        go_wp2_with fail
        refine (HC.out _).mono ?_
        rintro e w1 ⟨rfl, hb1⟩
        have hB1 := hB.trans (hb1.mono hB.size)
        clear hb1 hB HC c0 c1 c2 c3 c4
        by_cases hy : y < 0
        · go_wp2
          go_ret
          exact ⟨-1, rfl, by omega, by omega, by omega, hB1⟩
        · go_wp2
          go_roundw
          case rel => exact ⟨k + 1, y, by omega, by go_num, rfl, by omega, by omega, hB1⟩
          case measure => simp [intOf]; omega
      · go_wp2
        go_ret
        exact ⟨x, rfl, by omega, hx1, by omega, hB⟩

set_option maxRecDepth 100000 in
set_option maxHeartbeats 1600000 in
theorem eqEntry_same (s t : ByteArray) (d : Int) (r b : Bool) (w : World) :
    Calls Tryd.prog 123 #[enV s t d r b, enV s t d r b] w fun e w' => e = .returned (.bool true) ∧ Below w.heap.size w w' := by
  have HC := Lib.hid (fun w => eqItem_same s t d w)
  have hB0 : Below w.heap.size w ((w.alloc (.cells #[.string s, .string t, .int .i64 d, .bool r, .bool b] 82)).alloc (.cells #[.string s, .string t, .int .i64 d, .bool r, .bool b] 82)) := ((Below.refl _ _).alloc (Nat.le_refl _) _).alloc (by simp) _
  have hX := (Box.new w #[.string s, .string t, .int .i64 d, .bool r, .bool b] 82).alloc (.cells #[.string s, .string t, .int .i64 d, .bool r, .bool b] 82)
  have hY := Box.new (w.alloc (.cells #[.string s, .string t, .int .i64 d, .bool r, .bool b] 82)) #[.string s, .string t, .int .i64 d, .bool r, .bool b] 82
  have hs : (w.alloc (.cells #[.string s, .string t, .int .i64 d, .bool r, .bool b] 82)).heap.size = w.heap.size + 1 := by simp
  rw [hs] at hY
  clear hs
  have hr : (r != r) = false := by cases r <;> rfl
  have hb : (b != b) = false := by cases b <;> rfl
  go_enter Tryd.func123, Tryd.ntmps123
  go_wp2_with fail
  generalize (w.alloc (.cells #[.string s, .string t, .int .i64 d, .bool r, .bool b] 82)).alloc (.cells #[.string s, .string t, .int .i64 d, .bool r, .bool b] 82) = W at hB0 hX hY ⊢
  refine (HC.out _).mono ?_
  rintro e w1 ⟨rfl, hb1⟩
  have hB1 := hB0.trans (hb1.mono hB0.size)
  have hX1 := hX.keep hb1 hX.lt
  have hY1 := hY.keep hb1 hY.lt
  have x3 := hX1.cell 3 _ rfl
  have x4 := hX1.cell 4 _ rfl
  have y3 := hY1.cell 3 _ rfl
  have y4 := hY1.cell 4 _ rfl
  clear hb1 hB0 hX hY hX1 hY1
  go_wp2
  go_ret
  exact ⟨rfl, hB1⟩
end Go.Proofs.YtfjaincogbdeiaaDoor

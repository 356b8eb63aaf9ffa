/- Joined: W9f, W9g. -/
import Derived.Test.YtfgdbpjmjeaolaaGreatH12
import Derived.Test.YtfgdbpjmjeaolaaGreatH17
/- W9f -/
namespace Go.Proofs.YtfgdbpjmjeaolaaGreat
open Go.ChangeShapes Go.WideShapes Go.ChangeAt Go.RowKit
set_option linter.unusedVariables false

theorem Tryz.infoEntry : (Tryz.prog.info? 85).map (fun i => (i.zero, i.size, i.bytes)) = some (some (.agg #[.string ByteArray.empty, .string ByteArray.empty, .int .i64 0, .bool false, .bool false]), 5, 48) := by kernel_rfl

set_option maxRecDepth 100000 in
set_option maxHeartbeats 1600000 in
theorem szEntry_any (s t : ByteArray) (d : Int) (r b : Bool) (n : Int) (w : World) (hs : s.size ≤ maxLen) (ht : t.size ≤ maxLen) (h0 : 0 ≤ n) (h1 : n ≤ 1048576) :
    Calls Tryz.prog 93 #[enV s t d r b, .int .i64 n] w fun e w' => e = .returned (.int .i64 (szI n s t)) ∧ Below w.heap.size w w' := by
  have HC := Lib.hid (fun w => szItem_any s t d n w hs ht h0 h1)
  have hbd := szI_bd n s t h0
  have HV : Hid (szI n s t < 0 → szI n s t = -1) := Lib.hid (fun h => by omega)
  generalize szI n s t = y at HC hbd HV ⊢
  have hB0 : Below w.heap.size w (w.alloc (.cells #[.string s, .string t, .int .i64 d, .bool r, .bool b] 135)) := (Below.refl _ _).alloc (Nat.le_refl _) _
  go_enter Tryz.func93, Tryz.ntmps93
  go_wp2_with fail
  refine (HC.out _).mono ?_
  rintro e w1 ⟨rfl, hb1⟩
  have hB1 := hB0.trans (hb1.mono hB0.size)
  clear hb1 hB0
  by_cases hy : y < 0
  · obtain rfl := HV.out hy
    go_wp2
    go_ret
    exact ⟨rfl, hB1⟩
  · go_wp2
    go_ret
    exact ⟨rfl, hB1⟩

set_option maxRecDepth 100000 in
set_option maxHeartbeats 1600000 in
theorem szEntryS_any (v : Value) (es : List En) (n : Int) (w : World) (h : EnAt w w.heap.size v es) (h0 : 0 ≤ n) (h1 : n ≤ 1048576) :
    Calls Tryz.prog 71 #[v, .int .i64 n] w fun e w' => ∃ r : Int, e = .returned (.int .i64 r) ∧ -1 ≤ r ∧ r ≤ n ∧ (0 ≤ r → (es.length : Int) ≤ n) ∧ Below w.heap.size w w' := by
  have HI := Lib.hid h
  obtain ⟨a, cap, rfl, hl, hm, hc⟩ := h.raw
  unfold maxLen at hm
  clear hc
  by_cases h2 : n - es.length < 0
  · go_enter Tryz.func71, Tryz.ntmps71
    go_wp2
    go_ret
    exact ⟨-1, rfl, by omega, by omega, by omega, Below.refl _ _⟩
  · go_enter Tryz.func71, Tryz.ntmps71
    go_wp2
    go_loopw [1, 5] (fun r i wr => ∃ (k : Nat) (x : Int), k ≤ es.length ∧ i = .int .i64 (k : Int) ∧ r = .int .i64 x ∧ 0 ≤ x ∧ x ≤ n ∧ Below w.heap.size w wr) (fun _ i _ => es.length - (intOf i).toNat)
    case atStart => exact ⟨0, n - es.length, Nat.zero_le _, rfl, rfl, by omega, by omega, Below.refl _ _⟩
    case round =>
      obtain ⟨k, x, hk, rfl, rfl, hx0, hx1, hB⟩ := hrel
      by_cases hlt : k < es.length
      · obtain ⟨a', cap', hv, _, _, hc⟩ := (HI.out.below hB).raw
        cases hv
        obtain ⟨b, off, rfl, hb, hr⟩ := hc k hlt
        obtain ⟨c0, c1, c2, c3, c4, s0, s1⟩ := hr k hlt
        have HC := Lib.hid (fun w => szEntry_any es[k].it.id es[k].it.ti es[k].it.da es[k].rd es[k].st x w s0 s1 hx0 (by omega))
        have hbd := szI_bd x es[k].it.id es[k].it.ti hx0
        generalize szI x es[k].it.id es[k].it.ti = y at HC hbd
        obtain ⟨S0, hS0⟩ : ∃ x, x = es[k].it.id := ⟨_, rfl⟩
        obtain ⟨S1, hS1⟩ : ∃ x, x = es[k].it.ti := ⟨_, rfl⟩
        obtain ⟨S2, hS2⟩ : ∃ x, x = es[k].it.da := ⟨_, rfl⟩
        obtain ⟨S3, hS3⟩ : ∃ x, x = es[k].rd := ⟨_, rfl⟩
        obtain ⟨S4, hS4⟩ : ∃ x, x = es[k].st := ⟨_, rfl⟩
        rw [← hS0] at c0 HC
        rw [← hS1] at c1 HC
        rw [← hS2] at c2 HC
        rw [← hS3] at c3 HC
        rw [← hS4] at c4 HC
        clear hr hc hS0 hS1 hS2 hS3 hS4 s0 s1
        go_wp2_with fail
        refine (HC.out _).mono ?_
        rintro e w1 ⟨rfl, hb1⟩
        have hB1 := hB.trans (hb1.mono hB.size)
        clear hb1 hB HC c0 c1 c2 c3 c4
        by_cases hy : y < 0
        · go_wp2
          go_ret
          exact ⟨-1, rfl, by omega, by omega, by omega, hB1⟩
        · go_wp2
          go_roundw
          case rel => exact ⟨k + 1, y, by omega, by go_num, rfl, by omega, by omega, hB1⟩
          case measure => simp [intOf]; omega
      · go_wp2
        go_ret
        exact ⟨x, rfl, by omega, hx1, by omega, hB⟩

set_option maxRecDepth 100000 in
set_option maxHeartbeats 1600000 in
theorem eqEntry_same (s t : ByteArray) (d : Int) (r b : Bool) (w : World) :
    Calls Tryz.prog 102 #[enV s t d r b, enV s t d r b] w fun e w' => e = .returned (.bool true) ∧ Below w.heap.size w w' := by
  have HC := Lib.hid (fun w => eqItem_same s t d w)
  have hB0 : Below w.heap.size w ((w.alloc (.cells #[.string s, .string t, .int .i64 d, .bool r, .bool b] 85)).alloc (.cells #[.string s, .string t, .int .i64 d, .bool r, .bool b] 85)) := ((Below.refl _ _).alloc (Nat.le_refl _) _).alloc (by simp) _
  have hX := (Box.new w #[.string s, .string t, .int .i64 d, .bool r, .bool b] 85).alloc (.cells #[.string s, .string t, .int .i64 d, .bool r, .bool b] 85)
  have hY := Box.new (w.alloc (.cells #[.string s, .string t, .int .i64 d, .bool r, .bool b] 85)) #[.string s, .string t, .int .i64 d, .bool r, .bool b] 85
  have hs : (w.alloc (.cells #[.string s, .string t, .int .i64 d, .bool r, .bool b] 85)).heap.size = w.heap.size + 1 := by simp
  rw [hs] at hY
  clear hs
  have hr : (r != r) = false := by cases r <;> rfl
  have hb : (b != b) = false := by cases b <;> rfl
  go_enter Tryz.func102, Tryz.ntmps102
  go_wp2_with fail
  generalize (w.alloc (.cells #[.string s, .string t, .int .i64 d, .bool r, .bool b] 85)).alloc (.cells #[.string s, .string t, .int .i64 d, .bool r, .bool b] 85) = W at hB0 hX hY ⊢
  refine (HC.out _).mono ?_
  rintro e w1 ⟨rfl, hb1⟩
  have hB1 := hB0.trans (hb1.mono hB0.size)
  have hX1 := hX.keep hb1 hX.lt
  have hY1 := hY.keep hb1 hY.lt
  have x3 := hX1.cell 3 _ rfl
  have x4 := hX1.cell 4 _ rfl
  have y3 := hY1.cell 3 _ rfl
  have y4 := hY1.cell 4 _ rfl
  clear hb1 hB0 hX hY hX1 hY1
  go_wp2
  go_ret
  exact ⟨rfl, hB1⟩
end Go.Proofs.YtfgdbpjmjeaolaaGreat

/- W9g -/
namespace Go.Proofs.YtfgdbpjmjeaolaaGreat
open Go.ChangeShapes Go.WideShapes Go.ChangeAt Go.RowKit
set_option linter.unusedVariables false

set_option maxRecDepth 100000 in
set_option maxHeartbeats 1600000 in
theorem toEntry_any (s t : ByteArray) (d : Int) (r b : Bool) (w : World) :
    Calls Tryz.prog 94 #[enV s t d r b] w fun e w' => e = .returned (enV s t d r b) ∧ Below w.heap.size w w' := by
  have HC := Lib.hid (fun w => toItem_any s t d w)
  have hB0 : Below w.heap.size w (((w.alloc (.cells #[.string s, .string t, .int .i64 d, .bool r, .bool b] 135)).alloc (.cells #[.string ⟨#[]⟩, .string ⟨#[]⟩, .int .i64 0, .bool false, .bool false] 85)).alloc (.cells #[.string ⟨#[]⟩, .string ⟨#[]⟩, .int .i64 0, .bool false, .bool false] 85)) := (((Below.refl _ _).alloc (Nat.le_refl _) _).alloc (by simp) _).alloc (by simp; omega) _
  have hX0 : Box (((w.alloc (.cells #[.string s, .string t, .int .i64 d, .bool r, .bool b] 135)).alloc (.cells #[.string ⟨#[]⟩, .string ⟨#[]⟩, .int .i64 0, .bool false, .bool false] 85)).alloc (.cells #[.string ⟨#[]⟩, .string ⟨#[]⟩, .int .i64 0, .bool false, .bool false] 85)) w.heap.size #[.string s, .string t, .int .i64 d, .bool r, .bool b] 135 := ((Box.new w #[.string s, .string t, .int .i64 d, .bool r, .bool b] 135).alloc _).alloc _
  have hR0 : Box (((w.alloc (.cells #[.string s, .string t, .int .i64 d, .bool r, .bool b] 135)).alloc (.cells #[.string ⟨#[]⟩, .string ⟨#[]⟩, .int .i64 0, .bool false, .bool false] 85)).alloc (.cells #[.string ⟨#[]⟩, .string ⟨#[]⟩, .int .i64 0, .bool false, .bool false] 85)) (w.heap.size + 1) #[.string ⟨#[]⟩, .string ⟨#[]⟩, .int .i64 0, .bool false, .bool false] 85 := by
    have := (Box.new (w.alloc (.cells #[.string s, .string t, .int .i64 d, .bool r, .bool b] 135)) #[.string ⟨#[]⟩, .string ⟨#[]⟩, .int .i64 0, .bool false, .bool false] 85).alloc (.cells #[.string ⟨#[]⟩, .string ⟨#[]⟩, .int .i64 0, .bool false, .bool false] 85)
    simpa using this
  have hO0 : Box (((w.alloc (.cells #[.string s, .string t, .int .i64 d, .bool r, .bool b] 135)).alloc (.cells #[.string ⟨#[]⟩, .string ⟨#[]⟩, .int .i64 0, .bool false, .bool false] 85)).alloc (.cells #[.string ⟨#[]⟩, .string ⟨#[]⟩, .int .i64 0, .bool false, .bool false] 85)) (w.heap.size + 1 + 1) #[.string ⟨#[]⟩, .string ⟨#[]⟩, .int .i64 0, .bool false, .bool false] 85 := by
    have := Box.new ((w.alloc (.cells #[.string s, .string t, .int .i64 d, .bool r, .bool b] 135)).alloc (.cells #[.string ⟨#[]⟩, .string ⟨#[]⟩, .int .i64 0, .bool false, .bool false] 85)) #[.string ⟨#[]⟩, .string ⟨#[]⟩, .int .i64 0, .bool false, .bool false] 85
    simpa using this
  go_enter Tryz.func94, Tryz.ntmps94
  go_wp2_with fail
  generalize (((w.alloc (.cells #[.string s, .string t, .int .i64 d, .bool r, .bool b] 135)).alloc (.cells #[.string ⟨#[]⟩, .string ⟨#[]⟩, .int .i64 0, .bool false, .bool false] 85)).alloc (.cells #[.string ⟨#[]⟩, .string ⟨#[]⟩, .int .i64 0, .bool false, .bool false] 85)) = W at hB0 hX0 hR0 hO0 ⊢
  refine (HC.out _).mono ?_
  rintro e w1 ⟨rfl, hb1⟩
  have hB1 := hB0.trans (hb1.mono hB0.size)
  have hX1 := hX0.keep hb1 hX0.lt
  have hR1 := hR0.keep hb1 hR0.lt
  have hO1 := hO0.keep hb1 hO0.lt
  have x3 := hX1.cell 3 _ rfl
  have x4 := hX1.cell 4 _ rfl
  have o0 := hO1.cell 0 _ rfl
  have o1 := hO1.cell 1 _ rfl
  have o2 := hO1.cell 2 _ rfl
  have o3 := hO1.cell 3 _ rfl
  have o4 := hO1.cell 4 _ rfl
  have of := hO1.free
  have r0 := hR1.cell 0 _ rfl
  have r1 := hR1.cell 1 _ rfl
  have r2 := hR1.cell 2 _ rfl
  have r3 := hR1.cell 3 _ rfl
  have r4 := hR1.cell 4 _ rfl
  have rf := hR1.free
  have HR1 := Lib.hid hR1
  clear hb1 hB0 hX0 hR0 hO0 hX1 hR1 hO1
  go_wp2
  have hR1 := HR1.out
  have hR2 := ((((((((((hR1.other ⟨w.heap.size + 1 + 1, 0, none⟩ (.string s) (by simp)).other ⟨w.heap.size + 1 + 1, 1, none⟩ (.string t) (by simp)).other ⟨w.heap.size + 1 + 1, 2, none⟩ (.int .i64 d) (by simp)).other ⟨w.heap.size + 1 + 1, 3, none⟩ (.bool r) (by simp)).other ⟨w.heap.size + 1 + 1, 4, none⟩ (.bool b) (by simp)).set 0 (.string s)).set 1 (.string t)).set 2 (.int .i64 d)).set 3 (.bool r)).set 4 (.bool b))
  have hB2 := ((((((((((hB1.setCell (p := ⟨w.heap.size + 1 + 1, 0, none⟩) (by simp; try omega) (.string s)).setCell (p := ⟨w.heap.size + 1 + 1, 1, none⟩) (by simp; try omega) (.string t)).setCell (p := ⟨w.heap.size + 1 + 1, 2, none⟩) (by simp; try omega) (.int .i64 d)).setCell (p := ⟨w.heap.size + 1 + 1, 3, none⟩) (by simp; try omega) (.bool r)).setCell (p := ⟨w.heap.size + 1 + 1, 4, none⟩) (by simp; try omega) (.bool b)).setCell (p := ⟨w.heap.size + 1, 0, none⟩) (by simp; try omega) (.string s)).setCell (p := ⟨w.heap.size + 1, 1, none⟩) (by simp; try omega) (.string t)).setCell (p := ⟨w.heap.size + 1, 2, none⟩) (by simp; try omega) (.int .i64 d)).setCell (p := ⟨w.heap.size + 1, 3, none⟩) (by simp; try omega) (.bool r)).setCell (p := ⟨w.heap.size + 1, 4, none⟩) (by simp; try omega) (.bool b))
  generalize ((((((((((w1.setCell ⟨w.heap.size + 1 + 1, 0, none⟩ (.string s)).setCell ⟨w.heap.size + 1 + 1, 1, none⟩ (.string t)).setCell ⟨w.heap.size + 1 + 1, 2, none⟩ (.int .i64 d)).setCell ⟨w.heap.size + 1 + 1, 3, none⟩ (.bool r)).setCell ⟨w.heap.size + 1 + 1, 4, none⟩ (.bool b)).setCell ⟨w.heap.size + 1, 0, none⟩ (.string s)).setCell ⟨w.heap.size + 1, 1, none⟩ (.string t)).setCell ⟨w.heap.size + 1, 2, none⟩ (.int .i64 d)).setCell ⟨w.heap.size + 1, 3, none⟩ (.bool r)).setCell ⟨w.heap.size + 1, 4, none⟩ (.bool b)) = W2 at hR2 hB2 ⊢
  have q0 := hR2.cell 0 _ rfl
  have q1 := hR2.cell 1 _ rfl
  have q2 := hR2.cell 2 _ rfl
  have q3 := hR2.cell 3 _ rfl
  have q4 := hR2.cell 4 _ rfl
  exact bodyPost_ret (v := enV s t d r b) (by simp [results, Tryz.results94, go_sem, q0, q1, q2, q3, q4]) rfl ⟨rfl, hB2⟩

set_option maxRecDepth 100000 in
set_option maxHeartbeats 1600000 in
theorem toEntryS_any (v : Value) (es : List En) (w : World) (h : EnAt w w.heap.size v es) (hn : es.length ≤ 1048576) :
    Calls Tryz.prog 76 #[v] w (OutR 85 5 enC es w) := by
  have HI := Lib.hid h
  obtain ⟨a, cap, rfl, hl, hm, hc⟩ := h.raw
  unfold maxLen at hm
  clear hc h
  go_enter Tryz.func76, Tryz.ntmps76
  go_wp2_with (at_make; refine wpList_fullR (z := en0) enC_len (by decide) Tryz.underlying70 Tryz.infoEntry rfl (by decide) rfl _ _ rfl w.heap.size .i64 .i64 es.length rfl rfl (by omega) (Nat.le_refl _) ?_; intro w0 hown0 hb0)
  go_loopw [4] (fun i wr => ∃ k : Nat, k ≤ es.length ∧ i = .int .i64 k ∧ OwnR 85 5 enC wr w.heap.size (.slice (some ⟨w.heap.size, 0, none⟩) es.length es.length) (es.take k ++ List.replicate (es.length - k) en0) ∧ Below w.heap.size w wr)
    (fun i _ => es.length - (intOf i).toNat)
  case atStart => exact ⟨0, Nat.zero_le _, rfl, by simpa using hown0, hb0⟩
  case round =>
    obtain ⟨k, hk, rfl, hown, hbel⟩ := hrel
    clear hown0 hb0
    by_cases hlt : k < es.length
    · obtain ⟨a', cap', hv, _, _, hc⟩ := (HI.out.below hbel).raw
      cases hv
      obtain ⟨b, off, rfl, hb, hr⟩ := hc k hlt
      obtain ⟨c0, c1, c2, c3, c4, s0, s1⟩ := hr k hlt
      have HC := Lib.hid (fun w => toEntry_any es[k].it.id es[k].it.ti es[k].it.da es[k].rd es[k].st w)
      have HP : Hid (∀ w', OwnR 85 5 enC w' w.heap.size (.slice (some ⟨w.heap.size, 0, none⟩) es.length es.length) (es.take k ++ List.replicate (es.length - k) en0) → OwnR 85 5 enC (putRow w.heap.size (k * 5) (enC es[k]) w') w.heap.size (.slice (some ⟨w.heap.size, 0, none⟩) es.length es.length) (es.take (k + 1) ++ List.replicate (es.length - (k + 1)) en0)) := Lib.hid (fun w' h => by
        rw [← set_copyR es en0 k hlt]
        exact h.put enC_len (by simp; omega) k es[k] (by simp; omega))
      have HQ : Hid (∀ w', Below w.heap.size w w' → Below w.heap.size w (putRow w.heap.size (k * 5) (enC es[k]) w')) := Lib.hid (fun w' h => putRow_below (Nat.le_refl _) _ _ _ _ h)
      unfold enC at HP HQ
      simp only [putRow] at HP HQ
      obtain ⟨S0, hS0⟩ : ∃ x, x = es[k].it.id := ⟨_, rfl⟩
      rw [← hS0] at c0 HC HP HQ
      obtain ⟨S1, hS1⟩ : ∃ x, x = es[k].it.ti := ⟨_, rfl⟩
      rw [← hS1] at c1 HC HP HQ
      obtain ⟨S2, hS2⟩ : ∃ x, x = es[k].it.da := ⟨_, rfl⟩
      rw [← hS2] at c2 HC HP HQ
      obtain ⟨S3, hS3⟩ : ∃ x, x = es[k].rd := ⟨_, rfl⟩
      rw [← hS3] at c3 HC HP HQ
      obtain ⟨S4, hS4⟩ : ∃ x, x = es[k].st := ⟨_, rfl⟩
      rw [← hS4] at c4 HC HP HQ
      have HOw := Lib.hid hown
      clear hr hc hS0 hS1 hS2 hS3 hS4 s0 s1 hown
      go_wp2_with fail
      refine (HC.out _).mono ?_
      rintro e w1 ⟨rfl, hb1⟩
      have hown1 := HOw.out.keep hb1 (Nat.le_refl _)
      have hbel1 := hbel.trans (hb1.mono hbel.size)
      have hfr : ∀ j, w1.frozen? ⟨w.heap.size, j, none⟩ = false := fun j => hown1.free (by simp; omega) j
      obtain ⟨x0, d0⟩ := hown1.cell enC_len (by simp; omega) k 0 hlt (by decide)
      obtain ⟨x1, d1⟩ := hown1.cell enC_len (by simp; omega) k 1 hlt (by decide)
      obtain ⟨x2, d2⟩ := hown1.cell enC_len (by simp; omega) k 2 hlt (by decide)
      obtain ⟨x3, d3⟩ := hown1.cell enC_len (by simp; omega) k 3 hlt (by decide)
      obtain ⟨x4, d4⟩ := hown1.cell enC_len (by simp; omega) k 4 hlt (by decide)
      rw [Nat.add_zero] at d0
      have HO1 := Lib.hid hown1
      clear hown1 HOw hb1 hbel c0 c1 c2 c3 c4
      go_wp2
      refine ⟨⟨k + 1, by omega, by simp, HP.out _ HO1.out, HQ.out _ hbel1⟩, ?_⟩
      simp [intOf]; omega
    · go_wp2
      go_ret
      have : k = es.length := by omega
      subst this
      simp only [List.take_length, Nat.sub_self, List.replicate_zero, List.append_nil] at hown
      exact ⟨_, rfl, hown, hbel⟩

set_option maxRecDepth 100000 in
set_option maxHeartbeats 1600000 in
theorem eqEntryS_same (v v' : Value) (es : List En) (w : World) (h : EnAt w w.heap.size v es) (h' : EnAt w w.heap.size v' es) :
    Calls Tryz.prog 91 #[v, v'] w fun e w' => e = .returned (.bool true) ∧ Below w.heap.size w w' := by
  have HI := Lib.hid h
  have HJ := Lib.hid h'
  obtain ⟨a, cap, rfl, hl, hm, hc⟩ := h.raw
  obtain ⟨a2, cap2, rfl, hl2, hm2, hc2⟩ := h'.raw
  unfold maxLen at hm hm2
  clear hc h hc2 h'
  go_enter Tryz.func91, Tryz.ntmps91
  go_wp2
  go_loopw [5] (fun i wr => ∃ k : Nat, k ≤ es.length ∧ i = .int .i64 k ∧ Below w.heap.size w wr) (fun i _ => es.length - (intOf i).toNat)
  case atStart => exact ⟨0, Nat.zero_le _, rfl, Below.refl _ _⟩
  case round =>
    obtain ⟨k, hk, rfl, hbel⟩ := hrel
    by_cases hlt : k < es.length
    · obtain ⟨a', cap', hv, _, _, hc⟩ := (HI.out.below hbel).raw
      cases hv
      obtain ⟨b, off, rfl, hb, hr⟩ := hc k hlt
      obtain ⟨c0, c1, c2, c3, c4, _, _⟩ := hr k hlt
      obtain ⟨a'2, cap'2, hv2, _, _, hc2⟩ := (HJ.out.below hbel).raw
      cases hv2
      obtain ⟨b2, off2, rfl, hb2, hr2⟩ := hc2 k hlt
      obtain ⟨g0, g1, g2, g3, g4, _, _⟩ := hr2 k hlt
      have HC := Lib.hid (fun w => eqEntry_same es[k].it.id es[k].it.ti es[k].it.da es[k].rd es[k].st w)
      obtain ⟨S0, hS0⟩ : ∃ x, x = es[k].it.id := ⟨_, rfl⟩
      rw [← hS0] at c0 g0 HC
      obtain ⟨S1, hS1⟩ : ∃ x, x = es[k].it.ti := ⟨_, rfl⟩
      rw [← hS1] at c1 g1 HC
      obtain ⟨S2, hS2⟩ : ∃ x, x = es[k].it.da := ⟨_, rfl⟩
      rw [← hS2] at c2 g2 HC
      obtain ⟨S3, hS3⟩ : ∃ x, x = es[k].rd := ⟨_, rfl⟩
      rw [← hS3] at c3 g3 HC
      obtain ⟨S4, hS4⟩ : ∃ x, x = es[k].st := ⟨_, rfl⟩
      rw [← hS4] at c4 g4 HC
      clear hr hc hr2 hc2 hS0 hS1 hS2 hS3 hS4
      go_wp2
      refine wp_region_T (fun w' => (w'.cell? ⟨b, off + k * 5, none⟩ = some (.string S0) ∧ w'.cell? ⟨b, off + k * 5 + 1, none⟩ = some (.string S1) ∧ w'.cell? ⟨b, off + k * 5 + 2, none⟩ = some (.int .i64 S2) ∧ w'.cell? ⟨b, off + k * 5 + 3, none⟩ = some (.bool S3) ∧ w'.cell? ⟨b, off + k * 5 + 4, none⟩ = some (.bool S4)) ∧ (w'.cell? ⟨b2, off2 + k * 5, none⟩ = some (.string S0) ∧ w'.cell? ⟨b2, off2 + k * 5 + 1, none⟩ = some (.string S1) ∧ w'.cell? ⟨b2, off2 + k * 5 + 2, none⟩ = some (.int .i64 S2) ∧ w'.cell? ⟨b2, off2 + k * 5 + 3, none⟩ = some (.bool S3) ∧ w'.cell? ⟨b2, off2 + k * 5 + 4, none⟩ = some (.bool S4))) (fun _ => True) 9 (by kernel_rfl) 10 rfl ?_
      refine wpAnyT_takesA (md := .any) 2 (by kernel_rfl) (by intro d v c a w h; cases d <;> exact h) [0, 1, 2, 3, 4, 5, 6, 7] _ _ _ (by decide) (by kernel_rfl) ⟨⟨⟨c0, c1, c2, c3, c4⟩, g0, g1, g2, g3, g4⟩, fun _ => trivial⟩ ?_
      simp only [pick, List.filterMap_cons, List.filterMap_nil, List.getElem?_cons_zero, List.getElem?_cons_succ]
      refine wpIf_step (.slice (some ⟨b, off, none⟩) es.length cap) (by kernel_rfl) (fun w hw => by go_simp) ?_
      refine wpIf_step (.int .i64 (k : Int)) (by kernel_rfl) (fun w hw => by go_simp) ?_
      refine wpIf_step (.pointer (some ⟨b, off + k * 5, none⟩)) (by kernel_rfl) (fun w hw => by go_simp) ?_
      refine wpIf_step (enV S0 S1 S2 S3 S4) (by kernel_rfl) (fun w hw => by obtain ⟨⟨e0, e1, e2, e3, e4⟩, _⟩ := hw; go_simp) ?_
      refine wpIf_step (.slice (some ⟨b2, off2, none⟩) es.length cap2) (by kernel_rfl) (fun w hw => by go_simp) ?_
      refine wpIf_step (.int .i64 (k : Int)) (by kernel_rfl) (fun w hw => by go_simp) ?_
      refine wpIf_step (.pointer (some ⟨b2, off2 + k * 5, none⟩)) (by kernel_rfl) (fun w hw => by go_simp) ?_
      refine wpIf_step (enV S0 S1 S2 S3 S4) (by kernel_rfl) (fun w hw => by obtain ⟨_, e0, e1, e2, e3, e4⟩ := hw; go_simp) ?_
      refine wpIf_nil (fun hS => ?_)
      clear hS
      refine wpAnyT_one 8 1 (by kernel_rfl) rfl (by kernel_rfl) (fun K hK => ?_)
      go_simp
      refine (HC.out _).mono ?_
      rintro e w1 ⟨rfl, hb1⟩
      have hbel1 := hbel.drew.trans (hb1.mono hbel.size)
      have hbl : b < wr.drew.heap.size := by have := hbel.size; show b < wr.heap.size; omega
      have hbl2 : b2 < wr.drew.heap.size := by have := hbel.size; show b2 < wr.heap.size; omega
      have hkc : ∀ b o x, b < wr.drew.heap.size → wr.drew.cell? ⟨b, o, none⟩ = some x → w1.cell? ⟨b, o, none⟩ = some x := fun b o x hb hx => by rw [hb1.cell (p := ⟨b, o, none⟩) hb]; exact hx
      have hA3 : (fun w' => (w'.cell? ⟨b, off + k * 5, none⟩ = some (.string S0) ∧ w'.cell? ⟨b, off + k * 5 + 1, none⟩ = some (.string S1) ∧ w'.cell? ⟨b, off + k * 5 + 2, none⟩ = some (.int .i64 S2) ∧ w'.cell? ⟨b, off + k * 5 + 3, none⟩ = some (.bool S3) ∧ w'.cell? ⟨b, off + k * 5 + 4, none⟩ = some (.bool S4)) ∧ (w'.cell? ⟨b2, off2 + k * 5, none⟩ = some (.string S0) ∧ w'.cell? ⟨b2, off2 + k * 5 + 1, none⟩ = some (.string S1) ∧ w'.cell? ⟨b2, off2 + k * 5 + 2, none⟩ = some (.int .i64 S2) ∧ w'.cell? ⟨b2, off2 + k * 5 + 3, none⟩ = some (.bool S3) ∧ w'.cell? ⟨b2, off2 + k * 5 + 4, none⟩ = some (.bool S4))) w1 := ⟨⟨hkc _ _ _ hbl c0, hkc _ _ _ hbl c1, hkc _ _ _ hbl c2, hkc _ _ _ hbl c3, hkc _ _ _ hbl c4⟩, hkc _ _ _ hbl2 g0, hkc _ _ _ hbl2 g1, hkc _ _ _ hbl2 g2, hkc _ _ _ hbl2 g3, hkc _ _ _ hbl2 g4⟩
      clear hb1 hbel c0 c1 c2 c3 c4 g0 g1 g2 g3 g4 hkc hbl hbl2
      refine hK _ _ ⟨hA3, fun _ => trivial⟩ (fun hS => ?_)
      clear hK K hS
      refine wpAnyT_one 9 0 (by kernel_rfl) rfl (by kernel_rfl) (fun K hK => ?_)
      go_simp
      refine hK _ _ ⟨hA3, fun _ => trivial⟩ (fun hS => ?_)
      clear hK K hS
      refine wpAnyT_over (by kernel_rfl) ?_
      go_wp2
      go_roundw
      case rel => exact ⟨k + 1, by omega, by go_num, hbel1⟩
      case measure => simp [intOf]; omega
    · go_wp2
      go_ret
      exact ⟨rfl, hbel⟩
end Go.Proofs.YtfgdbpjmjeaolaaGreat

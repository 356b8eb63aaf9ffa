/- Joined: OpenF, W9l. -/
import Derived.Test.YtfgdbpjmjeaolaaH13
import Derived.Test.YtfgdbpjmjeaolaaH15
import Derived.Test.YtfgdbpjmjeaolaaH26
/- OpenF -/
namespace Go.Proofs.Ytfgdbpjmjeaolaa
open Go.ChangeShapes Go.WideShapes Go.Deep Go.RowKit
set_option linter.unusedVariables false

theorem Try.cellsStr : Try.prog.cellsOf 9 = 1 := by kernel_rfl
theorem Try.cellsI64 : Try.prog.cellsOf 2 = 1 := by kernel_rfl
theorem Try.cellsLItem : Try.prog.cellsOf 231 = 3 := by kernel_rfl
theorem Try.cellsLItems : Try.prog.cellsOf 89 = 1 := by kernel_rfl
theorem Try.cellsLFeed : Try.prog.cellsOf 91 = 3 := by kernel_rfl
theorem list3 {α : Type} {l : List α} (h : l.length = 3) : ∃ a b c, l = [a, b, c] := by
  cases l with
  | nil => cases h
  | cons a l => cases l with
    | nil => cases h
    | cons b l => cases l with
      | nil => cases h
      | cons c l => cases l with
        | nil => exact ⟨a, b, c, rfl⟩
        | cons d l => simp at h
section
variable {H : Type} {enc : TypeId × Value → H} {w : World} {base : Nat} {spare : Nat → Bool} {held : Bool}
theorem open_item {n : Nat} {cs : List Value} {y : DataW H × List MemPlace} (h : DataW.trod enc Try.prog w base spare held n 231 cs = some y) : ∃ z : It, cs = itC z ∧ z.id.size ≤ maxLen ∧ z.ti.size ≤ maxLen := by
  obtain ⟨xs, n', _, _, hl, hxl, hf⟩ := DataW.trod_struct Try.underlying231 h
  rw [Try.cellsLItem] at hl
  clear h
  obtain ⟨c0, c1, c2, rfl⟩ := list3 hl
  obtain ⟨x0, x1, x2, rfl⟩ := list3 hxl
  have h0 := hf 0 _ rfl
  have h1 := hf 1 _ rfl
  have h2 := hf 2 _ rfl
  simp [Try.cellsStr, Try.cellsI64] at h0 h1 h2
  obtain ⟨s0, e0, _, b0⟩ := DataW.trod_string Try.underlying9 h0
  obtain ⟨s1, e1, _, b1⟩ := DataW.trod_string Try.underlying9 h1
  obtain ⟨d2, e2, _, b2⟩ := DataW.trod_int Try.underlying2 h2
  simp at e0 e1 e2
  subst e0 e1 e2
  exact ⟨⟨s0, s1, d2⟩, rfl, b0, b1⟩
theorem open_items {n : Nat} {v : Value} {y : DataW H × List MemPlace} (h : DataW.trod enc Try.prog w base spare held n 89 [v] = some y) : ∃ its, ItAt w w.heap.size v its := by
  obtain ⟨l, hl, hg⟩ := open_recs (C := itC) (G := fun z : It => z.id.size ≤ maxLen ∧ z.ti.size ≤ maxLen) Try.underlying89 Try.cellsLItem (by decide) (fun n cs y h => open_item h) h
  exact ⟨l, hl, hg⟩
theorem open_feed_cells {n : Nat} {cs : List Value} {y : DataW H × List MemPlace} (h : DataW.trod enc Try.prog w base spare held n 91 cs = some y) : ∃ u t x its, cs = [.string u, .string t, x] ∧ FeedAt w (fV u t x) u t its := by
  obtain ⟨xs, n', _, _, hl, hxl, hf⟩ := DataW.trod_struct Try.underlying91 h
  rw [Try.cellsLFeed] at hl
  clear h
  obtain ⟨c0, c1, c2, rfl⟩ := list3 hl
  obtain ⟨x0, x1, x2, rfl⟩ := list3 hxl
  have h0 := hf 0 _ rfl
  have h1 := hf 1 _ rfl
  have h2 := hf 2 _ rfl
  simp [Try.cellsStr, Try.cellsLItems] at h0 h1 h2
  obtain ⟨s0, e0, _, b0⟩ := DataW.trod_string Try.underlying9 h0
  obtain ⟨s1, e1, _, b1⟩ := DataW.trod_string Try.underlying9 h1
  obtain ⟨its, hi⟩ := open_items h2
  simp at e0 e1
  subst e0 e1
  exact ⟨s0, s1, c2, its, rfl, c2, rfl, hi, b0, b1⟩
set_option maxRecDepth 100000 in
theorem open_feed {r : Reach} {b0 : Nat} {v : Value} {d : DataW H} {p : List MemPlace} (hv : Value.okWide Try.prog w r b0 91 v) (h : DataW.Trod enc Try.prog w base spare held 91 v d p) : ∃ u t its, FeedAt w v u t its := by
  obtain ⟨cs, rfl, hsz⟩ := okWide_struct Try.underlying91 hv
  obtain ⟨fuel, hf⟩ := h
  have hf' : DataW.trod enc Try.prog w base spare held fuel 91 cs.toList = some (d, p) := hf
  clear hf hv
  obtain ⟨u, t, x, its, e2, hF⟩ := open_feed_cells hf'
  clear hf' hsz
  obtain ⟨l⟩ := cs
  obtain rfl : l = [.string u, .string t, x] := e2
  exact ⟨u, t, its, hF⟩
end
end Go.Proofs.Ytfgdbpjmjeaolaa

/- W9l -/
namespace Go.Proofs.Ytfgdbpjmjeaolaa
open Go.ChangeShapes Go.WideShapes Go.ChangeAt Go.RowKit
set_option linter.unusedVariables false

def OpAt (w : World) (v : Value) (o : OpD) : Prop := ∃ x, v = opV o x ∧ ItAt w w.heap.size x o.its ∧ OpSz o
theorem OpAt.below {w w' : World} {v : Value} {o : OpD} (h : OpAt w v o) (hb : Below w.heap.size w w') : OpAt w' v o := by
  obtain ⟨x, hv, hi, r⟩ := h
  exact ⟨x, hv, (hi.below hb).mono hb.size, r⟩
theorem OpAt.drew {w : World} {v : Value} {o : OpD} (h : OpAt w v o) : OpAt w.drew v o := h
theorem OpAt.get {w : World} {x : Value} {o : OpD} (h : OpAt w (opV o x) o) : ItAt w w.heap.size x o.its := by
  obtain ⟨y, hv, hi, r⟩ := h
  have : x = y := by
    have e := Value.agg.inj hv
    have e2 := congrArg (fun a : Array Value => a[6]?) e
    simpa using e2
  subst this
  exact hi
theorem Box.putL {g : Nat} {t : TypeId} (us : List Value) : ∀ (o : Nat) (w : World) (xs : List Value), Box w g xs.toArray t → Box (putRow g o us w) g (setL o us xs).toArray t := by
  induction us with
  | nil => intro o w xs h; exact h
  | cons u us ih =>
    intro o w xs h
    refine ih (o + 1) _ _ ?_
    have := h.set o u
    rw [List.setIfInBounds_toArray] at this
    exact this
theorem Box.putAll {w : World} {g : Nat} {t : TypeId} {xs us : List Value} (h : Box w g xs.toArray t) (hl : us.length = xs.length) : Box (putRow g 0 us w) g us.toArray t := by
  have := Box.putL us 0 w xs h
  rw [setL_eq us 0 xs (by omega), Nat.zero_add, hl, List.drop_length, List.take_zero, List.append_nil, List.nil_append] at this
  exact this
theorem ne_beq {k : Int} (q : Int) (h : k ≠ q) : (k == q) = false := beq_eq_false_iff_ne.2 h

set_option maxRecDepth 100000 in
theorem implOpOk_any (o : OpD) (x : Value) (w : World) (hI : ItAt w w.heap.size x o.its) (hz : OpSz o) :
    Calls Try.prog 65 #[opV o x] w fun e w' => e = .returned (.bool (opB o)) ∧ Below w.heap.size w w' := by
  obtain ⟨a, cap, rfl⟩ := hI.1.slice
  obtain ⟨k, u, i, d, fu, ft, its⟩ := o
  obtain ⟨z1, z2, z3, z4⟩ := hz
  unfold opB
  by_cases h1 : k = 1 ∨ k = 2 ∨ k = 8
  · simp only [if_pos h1]
    exact implOp_1 k h1 u i d fu ft a its.length cap w z1
  · simp only [if_neg h1]
    by_cases h2 : k = 3
    · simp only [if_pos h2]
      exact implOp_3 k h2 u i d fu ft a its.length cap its w z3 z4 hI
    · simp only [if_neg h2]
      by_cases h3 : k = 4 ∨ k = 5 ∨ k = 6 ∨ k = 7
      · simp only [if_pos h3]
        exact implOp_4 k h3 u i d fu ft a its.length cap w z1 z2
      · simp only [if_neg h3]
        by_cases h4 : k = 9
        · simp only [if_pos h4]
          exact implOp_9 k h4 u i d fu ft a its.length cap w
        · simp only [if_neg h4]
          exact implOp_0 k (ne_beq 1 (by omega)) (ne_beq 2 (by omega)) (ne_beq 3 (by omega)) (ne_beq 4 (by omega)) (ne_beq 5 (by omega)) (ne_beq 6 (by omega)) (ne_beq 7 (by omega)) (ne_beq 8 (by omega)) (ne_beq 9 (by omega)) u i d fu ft a its.length cap w
theorem and_four (a b c d : Bool) : (d && a && b && c) = (a && b && c && d) := by cases a <;> cases b <;> cases c <;> cases d <;> rfl

set_option maxRecDepth 100000 in
theorem specOpOk_any (o : OpD) (x : Value) (w : World) (hI : ItAt w w.heap.size x o.its) (hz : OpSz o) :
    Calls Try.prog 108 #[opV o x] w fun e w' => e = .returned (.bool (opB o)) ∧ Below w.heap.size w w' := by
  obtain ⟨a, cap, rfl⟩ := hI.1.slice
  obtain ⟨k, u, i, d, fu, ft, its⟩ := o
  obtain ⟨z1, z2, z3, z4⟩ := hz
  unfold opB
  by_cases h1 : k = 1 ∨ k = 2 ∨ k = 8
  · simp only [if_pos h1]
    rw [Bool.and_comm]
    exact specOp_1 k h1 u i d fu ft a its.length cap w z1
  · simp only [if_neg h1]
    by_cases h2 : k = 3
    · simp only [if_pos h2]
      rw [← and_four]
      exact specOp_3 k h2 u i d fu ft a its.length cap its w z3 z4 hI
    · simp only [if_neg h2]
      by_cases h3 : k = 4 ∨ k = 5 ∨ k = 6 ∨ k = 7
      · simp only [if_pos h3]
        rw [Bool.and_comm]
        exact specOp_4 k h3 u i d fu ft a its.length cap w z1 z2
      · simp only [if_neg h3]
        by_cases h4 : k = 9
        · simp only [if_pos h4]
          rw [Bool.and_comm]
          exact specOp_9 k h4 u i d fu ft a its.length cap w
        · simp only [if_neg h4]
          exact specOp_0 k (ne_beq 1 (by omega)) (ne_beq 2 (by omega)) (ne_beq 3 (by omega)) (ne_beq 4 (by omega)) (ne_beq 5 (by omega)) (ne_beq 6 (by omega)) (ne_beq 7 (by omega)) (ne_beq 8 (by omega)) (ne_beq 9 (by omega)) u i d fu ft a its.length cap w

/-- What szOp answers. -/
def SzO (o : OpD) (n : Int) (w : World) (e : Ending) (w' : World) : Prop := ∃ r : Int, e = .returned (.int .i64 r) ∧ -1 ≤ r ∧ r ≤ n ∧ (0 ≤ r → (o.its.length : Int) ≤ n) ∧ Below w.heap.size w w'

set_option maxRecDepth 100000 in
set_option maxHeartbeats 1600000 in
theorem szOp_any (o : OpD) (x : Value) (n : Int) (w : World) (hI : ItAt w w.heap.size x o.its) (hz : OpSz o) (h0 : 0 ≤ n) (h1 : n ≤ 1048576) :
    Calls Try.prog 53 #[opV o x, .int .i64 n] w (SzO o n w) := by
  have HI := Lib.hid hI
  obtain ⟨hu, hi, hfu, hft⟩ := hz
  clear hI
  have hb0 : Below w.heap.size w (w.alloc (.cells #[.int .i64 o.k, .string o.u, .string o.i, .int .i64 o.d, .string o.fu, .string o.ft, x] 93)) := (Below.refl _ _).alloc (Nat.le_refl _) _
  have HC := Lib.hid (fun w n h h0 h1 => szFeed_any (fV o.fu o.ft x) o.fu o.ft o.its n w ⟨x, rfl, h, hfu, hft⟩ h0 h1)
  unfold maxLen at hu hi
  by_cases h2 : n - o.u.size < 0
  · go_enter Try.func53, Try.ntmps53
    go_wp2
    go_ret
    exact ⟨-1, rfl, by omega, by omega, by omega, hb0⟩
  · by_cases h3 : n - o.u.size - o.i.size < 0
    · go_enter Try.func53, Try.ntmps53
      go_wp2
      go_ret
      exact ⟨-1, rfl, by omega, by omega, by omega, hb0⟩
    · go_enter Try.func53, Try.ntmps53
      go_wp2_with fail
      refine (HC.out _ (n - o.u.size - o.i.size) ((HI.out.below hb0).mono hb0.size) (by omega) (by omega)).mono ?_
      rintro e w1 ⟨r, rfl, hr0, hr1, hr2, hb1⟩
      have hb2 := hb0.trans (hb1.mono hb0.size)
      have HR2 := Lib.hid hr2
      clear hb1 hb0 hr2
      by_cases h4 : r < 0
      · go_wp2
        go_ret
        exact ⟨-1, rfl, by omega, by omega, by omega, hb2⟩
      · go_wp2
        go_ret
        exact ⟨r, rfl, by omega, by omega, fun h => by have := (HR2.out h).1; omega, hb2⟩

/-- What toOp answers. -/
def OutO (o : OpD) (w : World) (e : Ending) (w' : World) : Prop := ∃ y, e = .returned (opV o y) ∧ OwnR 107 3 itC w' w.heap.size y o.its ∧ Below w.heap.size w w'

set_option maxRecDepth 100000 in
set_option maxHeartbeats 1600000 in
theorem toOp_any (o : OpD) (x : Value) (w : World) (hI : ItAt w w.heap.size x o.its) (hz : OpSz o) (hn : o.its.length ≤ 1048576) :
    Calls Try.prog 55 #[opV o x] w (OutO o w) := by
  have HI := Lib.hid hI
  clear hI
  obtain ⟨hu, hi, hfu, hft⟩ := hz
  have HC := Lib.hid (fun w h => toFeed_any (fV o.fu o.ft x) o.fu o.ft o.its w ⟨x, rfl, h, hfu, hft⟩ hn)
  have hb0 : Below w.heap.size w (((w.alloc (.cells #[.int .i64 o.k, .string o.u, .string o.i, .int .i64 o.d, .string o.fu, .string o.ft, x] 93)).alloc (.cells #[.int .i64 0, .string ⟨#[]⟩, .string ⟨#[]⟩, .int .i64 0, .string ⟨#[]⟩, .string ⟨#[]⟩, .slice none 0 0] 45)).alloc (.cells #[.int .i64 o.k, .string o.u, .string o.i, .int .i64 o.d, .string ⟨#[]⟩, .string ⟨#[]⟩, .slice none 0 0] 45)) := (((Below.refl _ _).alloc (Nat.le_refl _) _).alloc (by simp) _).alloc (by simp; omega) _
  have hR0 : Box (((w.alloc (.cells #[.int .i64 o.k, .string o.u, .string o.i, .int .i64 o.d, .string o.fu, .string o.ft, x] 93)).alloc (.cells #[.int .i64 0, .string ⟨#[]⟩, .string ⟨#[]⟩, .int .i64 0, .string ⟨#[]⟩, .string ⟨#[]⟩, .slice none 0 0] 45)).alloc (.cells #[.int .i64 o.k, .string o.u, .string o.i, .int .i64 o.d, .string ⟨#[]⟩, .string ⟨#[]⟩, .slice none 0 0] 45)) (w.heap.size + 1) #[.int .i64 0, .string ⟨#[]⟩, .string ⟨#[]⟩, .int .i64 0, .string ⟨#[]⟩, .string ⟨#[]⟩, .slice none 0 0] 45 := by
    have := (Box.new (w.alloc (.cells #[.int .i64 o.k, .string o.u, .string o.i, .int .i64 o.d, .string o.fu, .string o.ft, x] 93)) #[.int .i64 0, .string ⟨#[]⟩, .string ⟨#[]⟩, .int .i64 0, .string ⟨#[]⟩, .string ⟨#[]⟩, .slice none 0 0] 45).alloc (.cells #[.int .i64 o.k, .string o.u, .string o.i, .int .i64 o.d, .string ⟨#[]⟩, .string ⟨#[]⟩, .slice none 0 0] 45)
    simpa using this
  have hO0 : Box (((w.alloc (.cells #[.int .i64 o.k, .string o.u, .string o.i, .int .i64 o.d, .string o.fu, .string o.ft, x] 93)).alloc (.cells #[.int .i64 0, .string ⟨#[]⟩, .string ⟨#[]⟩, .int .i64 0, .string ⟨#[]⟩, .string ⟨#[]⟩, .slice none 0 0] 45)).alloc (.cells #[.int .i64 o.k, .string o.u, .string o.i, .int .i64 o.d, .string ⟨#[]⟩, .string ⟨#[]⟩, .slice none 0 0] 45)) (w.heap.size + 1 + 1) #[.int .i64 o.k, .string o.u, .string o.i, .int .i64 o.d, .string ⟨#[]⟩, .string ⟨#[]⟩, .slice none 0 0] 45 := by
    have := Box.new ((w.alloc (.cells #[.int .i64 o.k, .string o.u, .string o.i, .int .i64 o.d, .string o.fu, .string o.ft, x] 93)).alloc (.cells #[.int .i64 0, .string ⟨#[]⟩, .string ⟨#[]⟩, .int .i64 0, .string ⟨#[]⟩, .string ⟨#[]⟩, .slice none 0 0] 45)) #[.int .i64 o.k, .string o.u, .string o.i, .int .i64 o.d, .string ⟨#[]⟩, .string ⟨#[]⟩, .slice none 0 0] 45
    simpa using this
  go_enter Try.func55, Try.ntmps55
  go_wp2_with fail
  generalize (((w.alloc (.cells #[.int .i64 o.k, .string o.u, .string o.i, .int .i64 o.d, .string o.fu, .string o.ft, x] 93)).alloc (.cells #[.int .i64 0, .string ⟨#[]⟩, .string ⟨#[]⟩, .int .i64 0, .string ⟨#[]⟩, .string ⟨#[]⟩, .slice none 0 0] 45)).alloc (.cells #[.int .i64 o.k, .string o.u, .string o.i, .int .i64 o.d, .string ⟨#[]⟩, .string ⟨#[]⟩, .slice none 0 0] 45)) = W at hb0 hR0 hO0 ⊢
  refine (HC.out _ ((HI.out.below hb0).mono hb0.size)).mono ?_
  rintro e w1 ⟨y, rfl, hown, hb1⟩
  have hR1 := hR0.keep hb1 hR0.lt
  have hO1 := hO0.keep hb1 hO0.lt
  have p0 := hO1.cell 0 _ rfl
  have r0 := hR1.cell 0 _ rfl
  have p1 := hO1.cell 1 _ rfl
  have r1 := hR1.cell 1 _ rfl
  have p2 := hO1.cell 2 _ rfl
  have r2 := hR1.cell 2 _ rfl
  have p3 := hO1.cell 3 _ rfl
  have r3 := hR1.cell 3 _ rfl
  have p4 := hO1.cell 4 _ rfl
  have r4 := hR1.cell 4 _ rfl
  have p5 := hO1.cell 5 _ rfl
  have r5 := hR1.cell 5 _ rfl
  have p6 := hO1.cell 6 _ rfl
  have r6 := hR1.cell 6 _ rfl
  have of := hO1.free
  have rf := hR1.free
  obtain ⟨ya, yc, rfl⟩ := hown.slice
  have hgs : w.heap.size + 1 + 1 < W.heap.size := hO0.lt
  have HOw := Lib.hid hown
  have HB := Lib.hid (hb0.trans (hb1.mono hb0.size))
  have HR1 := Lib.hid hR1
  clear hown hb1 hb0 hR0 hO0 hR1 hO1
  go_wp2
  have hR1 := HR1.out
  have hR2 : Box ((((((((((w1.setCell ⟨w.heap.size + 1 + 1, 4, none⟩ (.string o.fu)).setCell ⟨w.heap.size + 1 + 1, 5, none⟩ (.string o.ft)).setCell ⟨w.heap.size + 1 + 1, 6, none⟩ (.slice ya o.its.length yc)).setCell ⟨w.heap.size + 1, 0, none⟩ (.int .i64 o.k)).setCell ⟨w.heap.size + 1, 1, none⟩ (.string o.u)).setCell ⟨w.heap.size + 1, 2, none⟩ (.string o.i)).setCell ⟨w.heap.size + 1, 3, none⟩ (.int .i64 o.d)).setCell ⟨w.heap.size + 1, 4, none⟩ (.string o.fu)).setCell ⟨w.heap.size + 1, 5, none⟩ (.string o.ft)).setCell ⟨w.heap.size + 1, 6, none⟩ (.slice ya o.its.length yc)) (w.heap.size + 1) #[.int .i64 o.k, .string o.u, .string o.i, .int .i64 o.d, .string o.fu, .string o.ft, .slice ya o.its.length yc] 45 := (((hR1.other ⟨w.heap.size + 1 + 1, 4, none⟩ (.string o.fu) (by simp)).other ⟨w.heap.size + 1 + 1, 5, none⟩ (.string o.ft) (by simp)).other ⟨w.heap.size + 1 + 1, 6, none⟩ (.slice ya o.its.length yc) (by simp)).putAll (xs := [.int .i64 0, .string ⟨#[]⟩, .string ⟨#[]⟩, .int .i64 0, .string ⟨#[]⟩, .string ⟨#[]⟩, .slice none 0 0]) (us := [.int .i64 o.k, .string o.u, .string o.i, .int .i64 o.d, .string o.fu, .string o.ft, .slice ya o.its.length yc]) rfl
  have hO := ((((((((((HOw.out.other ⟨w.heap.size + 1 + 1, 4, none⟩ (.string o.fu) (by simp; omega)).other ⟨w.heap.size + 1 + 1, 5, none⟩ (.string o.ft) (by simp; omega)).other ⟨w.heap.size + 1 + 1, 6, none⟩ (.slice ya o.its.length yc) (by simp; omega)).other ⟨w.heap.size + 1, 0, none⟩ (.int .i64 o.k) (by simp; omega)).other ⟨w.heap.size + 1, 1, none⟩ (.string o.u) (by simp; omega)).other ⟨w.heap.size + 1, 2, none⟩ (.string o.i) (by simp; omega)).other ⟨w.heap.size + 1, 3, none⟩ (.int .i64 o.d) (by simp; omega)).other ⟨w.heap.size + 1, 4, none⟩ (.string o.fu) (by simp; omega)).other ⟨w.heap.size + 1, 5, none⟩ (.string o.ft) (by simp; omega)).other ⟨w.heap.size + 1, 6, none⟩ (.slice ya o.its.length yc) (by simp; omega)).base_mono (show w.heap.size ≤ W.heap.size by omega)
  have hB := ((((((((((HB.out.setCell (p := ⟨w.heap.size + 1 + 1, 4, none⟩) (by simp; try omega) (.string o.fu)).setCell (p := ⟨w.heap.size + 1 + 1, 5, none⟩) (by simp; try omega) (.string o.ft)).setCell (p := ⟨w.heap.size + 1 + 1, 6, none⟩) (by simp; try omega) (.slice ya o.its.length yc)).setCell (p := ⟨w.heap.size + 1, 0, none⟩) (by simp; try omega) (.int .i64 o.k)).setCell (p := ⟨w.heap.size + 1, 1, none⟩) (by simp; try omega) (.string o.u)).setCell (p := ⟨w.heap.size + 1, 2, none⟩) (by simp; try omega) (.string o.i)).setCell (p := ⟨w.heap.size + 1, 3, none⟩) (by simp; try omega) (.int .i64 o.d)).setCell (p := ⟨w.heap.size + 1, 4, none⟩) (by simp; try omega) (.string o.fu)).setCell (p := ⟨w.heap.size + 1, 5, none⟩) (by simp; try omega) (.string o.ft)).setCell (p := ⟨w.heap.size + 1, 6, none⟩) (by simp; try omega) (.slice ya o.its.length yc))
  generalize ((((((((((w1.setCell ⟨w.heap.size + 1 + 1, 4, none⟩ (.string o.fu)).setCell ⟨w.heap.size + 1 + 1, 5, none⟩ (.string o.ft)).setCell ⟨w.heap.size + 1 + 1, 6, none⟩ (.slice ya o.its.length yc)).setCell ⟨w.heap.size + 1, 0, none⟩ (.int .i64 o.k)).setCell ⟨w.heap.size + 1, 1, none⟩ (.string o.u)).setCell ⟨w.heap.size + 1, 2, none⟩ (.string o.i)).setCell ⟨w.heap.size + 1, 3, none⟩ (.int .i64 o.d)).setCell ⟨w.heap.size + 1, 4, none⟩ (.string o.fu)).setCell ⟨w.heap.size + 1, 5, none⟩ (.string o.ft)).setCell ⟨w.heap.size + 1, 6, none⟩ (.slice ya o.its.length yc)) = W2 at hR2 hO hB ⊢
  have q0 := hR2.cell 0 _ rfl
  have q1 := hR2.cell 1 _ rfl
  have q2 := hR2.cell 2 _ rfl
  have q3 := hR2.cell 3 _ rfl
  have q4 := hR2.cell 4 _ rfl
  have q5 := hR2.cell 5 _ rfl
  have q6 := hR2.cell 6 _ rfl
  exact bodyPost_ret (v := opV o (.slice ya o.its.length yc)) (by simp [results, Try.results55, go_sem, q0, q1, q2, q3, q4, q5, q6]) rfl ⟨_, rfl, hO, hB⟩

set_option maxRecDepth 100000 in
set_option maxHeartbeats 1600000 in
theorem eqOp_same (o : OpD) (x x' : Value) (w : World) (h : ItAt w w.heap.size x o.its) (h' : ItAt w w.heap.size x' o.its) (hz : OpSz o) :
    Calls Try.prog 57 #[opV o x, opV o x'] w fun e w' => e = .returned (.bool true) ∧ Below w.heap.size w w' := by
  have HI := Lib.hid h
  have HI' := Lib.hid h'
  obtain ⟨hu, hi, hfu, hft⟩ := hz
  have HC := Lib.hid (fun w h h' => eqFeed_same (fV o.fu o.ft x) (fV o.fu o.ft x') o.fu o.ft o.its w ⟨x, rfl, h, hfu, hft⟩ ⟨x', rfl, h', hfu, hft⟩)
  clear h h'
  have hb0 : Below w.heap.size w ((w.alloc (.cells #[.int .i64 o.k, .string o.u, .string o.i, .int .i64 o.d, .string o.fu, .string o.ft, x] 45)).alloc (.cells #[.int .i64 o.k, .string o.u, .string o.i, .int .i64 o.d, .string o.fu, .string o.ft, x'] 45)) := ((Below.refl _ _).alloc (Nat.le_refl _) _).alloc (by simp) _
  go_enter Try.func57, Try.ntmps57
  go_wp2_with fail
  refine (HC.out _ ((HI.out.below hb0).mono hb0.size) ((HI'.out.below hb0).mono hb0.size)).mono ?_
  rintro e w1 ⟨rfl, hb1⟩
  have hb2 := hb0.trans (hb1.mono hb0.size)
  clear hb1 hb0
  go_wp2
  go_ret
  exact ⟨rfl, hb2⟩

theorem Try.cellsLOp : Try.prog.cellsOf 93 = 7 := by kernel_rfl
theorem list7 {α : Type} {l : List α} (h : l.length = 7) : ∃ a b c d e f g, l = [a, b, c, d, e, f, g] := by
  match l, h with
  | [a, b, c, d, e, f, g], _ => exact ⟨a, b, c, d, e, f, g, rfl⟩
theorem list5' {α : Type} {l : List α} (h : l.length = 5) : ∃ a b c d e, l = [a, b, c, d, e] := by
  match l, h with
  | [a, b, c, d, e], _ => exact ⟨a, b, c, d, e, rfl⟩
section
variable {H : Type} {enc : TypeId × Value → H} {w : World} {base : Nat} {spare : Nat → Bool} {held : Bool}
theorem open_op_cells {n : Nat} {cs : List Value} {y : DataW H × List MemPlace} (h : DataW.trod enc Try.prog w base spare held n 93 cs = some y) : ∃ o x, cs = [.int .i64 o.k, .string o.u, .string o.i, .int .i64 o.d, .string o.fu, .string o.ft, x] ∧ ItAt w w.heap.size x o.its ∧ OpSz o := by
  obtain ⟨xs, n', _, _, hl, hxl, hf⟩ := DataW.trod_struct Try.underlying93 h
  rw [Try.cellsLOp] at hl
  clear h
  obtain ⟨c0, c1, c2, c3, c4, c5, c6, rfl⟩ := list7 hl
  obtain ⟨x0, x1, x2, x3, x4, rfl⟩ := list5' hxl
  have h0 := hf 0 _ rfl
  have h1 := hf 1 _ rfl
  have h2 := hf 2 _ rfl
  have h3 := hf 3 _ rfl
  have h4 := hf 4 _ rfl
  simp [Try.cellsStr, Try.cellsI64, Try.cellsLFeed] at h0 h1 h2 h3 h4
  obtain ⟨d0, e0, _, _⟩ := DataW.trod_int Try.underlying2 h0
  obtain ⟨s1, e1, _, b1⟩ := DataW.trod_string Try.underlying9 h1
  obtain ⟨s2, e2, _, b2⟩ := DataW.trod_string Try.underlying9 h2
  obtain ⟨d3, e3, _, _⟩ := DataW.trod_int Try.underlying2 h3
  obtain ⟨fu, ft, x, its, e4, hF⟩ := open_feed_cells h4
  obtain ⟨x', hx', hi, hfu, hft⟩ := hF
  have exx : x = x' := by
    have e := Value.agg.inj hx'
    have e2 := congrArg (fun a : Array Value => a[2]?) e
    simpa using e2
  subst exx
  simp at e0 e1 e2 e3 e4
  obtain ⟨rfl, rfl, rfl⟩ := e4
  subst e0 e1 e2 e3
  exact ⟨⟨d0, s1, s2, d3, fu, ft, its⟩, _, rfl, hi, b1, b2, hfu, hft⟩
set_option maxRecDepth 100000 in
theorem open_op {r : Reach} {b0 : Nat} {v : Value} {d : DataW H} {p : List MemPlace} (hv : Value.okWide Try.prog w r b0 93 v) (h : DataW.Trod enc Try.prog w base spare held 93 v d p) : ∃ o, OpAt w v o := by
  obtain ⟨cs, rfl, hsz⟩ := okWide_struct Try.underlying93 hv
  obtain ⟨fuel, hf⟩ := h
  have hf' : DataW.trod enc Try.prog w base spare held fuel 93 cs.toList = some (d, p) := hf
  clear hf hv
  obtain ⟨o, x, e2, hF, hz⟩ := open_op_cells hf'
  clear hf' hsz
  obtain ⟨l⟩ := cs
  obtain rfl : l = [.int .i64 o.k, .string o.u, .string o.i, .int .i64 o.d, .string o.fu, .string o.ft, x] := e2
  exact ⟨o, x, rfl, hF, hz⟩
end
end Go.Proofs.Ytfgdbpjmjeaolaa

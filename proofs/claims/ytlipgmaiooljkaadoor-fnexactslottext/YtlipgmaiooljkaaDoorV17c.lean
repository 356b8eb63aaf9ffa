/- Slots as arguments of the law on their texts; its walk. -/
import Derived.Test.YtlipgmaiooljkaaDoorOpens
import Derived.Test.YtlipgmaiooljkaaDoorW17f
import Derived.ChangeArms
import Derived.Test.YtlipgmaiooljkaaDoorRows
import Derived.LaidMore
namespace Go.Proofs.YtlipgmaiooljkaaDoor
section
open Go.ChangeShapes Go.WideShapes Go.Deep Go.RowKit
set_option linter.unusedVariables false

theorem Tryd.cellsStr17 : Tryd.prog.cellsOf 9 = 1 := by kernel_rfl
theorem Tryd.cellsI6417 : Tryd.prog.cellsOf 2 = 1 := by kernel_rfl
theorem Tryd.cellsLSlot : Tryd.prog.cellsOf 23 = 4 := by kernel_rfl
theorem listS17 {α : Type} {l : List α} {n : Nat} (h : l.length = n + 1) : ∃ a r, l = a :: r ∧ r.length = n := by
  cases l with
  | nil => cases h
  | cons a l => exact ⟨a, l, rfl, by simpa using h⟩
theorem list4s {α : Type} {l : List α} (h : l.length = 4) : ∃ a b c d, l = [a, b, c, d] := by
  obtain ⟨a, l0, rfl, h0⟩ := listS17 h
  obtain ⟨b, l1, rfl, h1⟩ := listS17 h0
  obtain ⟨c, l2, rfl, h2⟩ := listS17 h1
  obtain ⟨d, l3, rfl, h3⟩ := listS17 h2
  obtain rfl := List.eq_nil_of_length_eq_zero h3
  exact ⟨a, b, c, d, rfl⟩
def SlotIn (v : Value) (z : SlotD) : Prop := v = slV z ∧ z.sa.size ≤ maxLen ∧ z.no.size ≤ maxLen ∧ z.bx.size ≤ maxLen ∧ (Lit.int .i64 z.ro).wf = true
section
variable {H : Type} {enc : TypeId × Value → H} {w : World} {base : Nat} {spare : Nat → Bool} {held : Bool}
theorem open_slot_cells {n : Nat} {cs : List Value} {y : DataW H × List MemPlace} (h : DataW.trod enc Tryd.prog w base spare held n 23 cs = some y) : ∃ z : SlotD, cs = [.string z.sa, .int .i64 z.ro, .string z.no, .string z.bx] ∧ z.sa.size ≤ maxLen ∧ z.no.size ≤ maxLen ∧ z.bx.size ≤ maxLen ∧ (Lit.int .i64 z.ro).wf = true := by
  obtain ⟨xs, n', _, _, hl, hxl, hf⟩ := DataW.trod_struct Tryd.underlying23 h
  rw [Tryd.cellsLSlot] at hl
  clear h
  obtain ⟨c0, c1, c2, c3, rfl⟩ := list4s hl
  obtain ⟨x0, x1, x2, x3, rfl⟩ := list4s hxl
  have h0 := hf 0 _ rfl
  have h1 := hf 1 _ rfl
  have h2 := hf 2 _ rfl
  have h3 := hf 3 _ rfl
  simp [Tryd.cellsStr17, Tryd.cellsI6417] at h0 h1 h2 h3
  obtain ⟨s0, e0, _, b0⟩ := DataW.trod_string Tryd.underlying9 h0
  obtain ⟨d1, e1, _, b1⟩ := DataW.trod_int Tryd.underlying2 h1
  obtain ⟨s2, e2, _, b2⟩ := DataW.trod_string Tryd.underlying9 h2
  obtain ⟨s3, e3, _, b3⟩ := DataW.trod_string Tryd.underlying9 h3
  simp at e0 e1 e2 e3
  subst e0 e1 e2 e3
  exact ⟨⟨s0, d1, s2, s3⟩, rfl, b0, b2, b3, b1⟩
set_option maxRecDepth 100000 in
theorem open_slot {r : Reach} {b0 : Nat} {v : Value} {d : DataW H} {p : List MemPlace} (hv : Value.okWide Tryd.prog w r b0 23 v) (h : DataW.Trod enc Tryd.prog w base spare held 23 v d p) : ∃ z : SlotD, SlotIn v z := by
  obtain ⟨cs, rfl, hsz⟩ := okWide_struct Tryd.underlying23 hv
  obtain ⟨fuel, hf⟩ := h
  have hf' : DataW.trod enc Tryd.prog w base spare held fuel 23 cs.toList = some (d, p) := hf
  clear hf hv
  obtain ⟨z, e2, hF⟩ := open_slot_cells hf'
  clear hf' hsz
  obtain ⟨l⟩ := cs
  obtain rfl : l = [.string z.sa, .int .i64 z.ro, .string z.no, .string z.bx] := e2
  exact ⟨z, rfl, hF⟩
end
end
section
open Go.ChangeShapes Go.WideShapes Go.ChangeAt Go.RowKit
set_option linter.unusedVariables false
set_option linter.unusedSimpArgs false

theorem laid_FnExactSlotText {W : World} (h : laidMetH Tryd.prog [("math/bits.deBruijn32tab", Rows.laid_math_bits_deBruijn32tab), ("math/bits.deBruijn64tab", Rows.laid_math_bits_deBruijn64tab), ("internal/strconv.uint64pow10", Rows.laid_internal_strconv_uint64pow10)] W) : True := trivial

theorem Tryd.infSl : (Tryd.prog.info? 26).map (·.size) = some 4 := by kernel_rfl
theorem results_sl {fn : Func} {p : Tmp} (h : fn.results = #[.cell p 26]) (tmps : Array Value) (w : World) (g : Nat) (cs : Array Value) (hz : cs.size = 4)
    (hp : tmps.getD p undef = .pointer (some ⟨g, 0, none⟩)) (hA : Box w g cs 26) : (results fn tmps).run Tryd.prog w = .ok (.agg cs) w :=
  results_cell_row h tmps w g _ _ _ _ hp hA Tryd.underlying26 rfl (by rw [hz]; exact Tryd.infSl)
theorem Box.third17 (w : World) (x y : Obj) (cs : Array Value) (t : TypeId) : Box (((w.alloc x).alloc y).alloc (.cells cs t)) (w.heap.size + 1 + 1) cs t := by
  have := Box.new ((w.alloc x).alloc y) cs t
  simpa using this
theorem below3c (w : World) (x y z : Obj) : Below w.heap.size w (((w.alloc x).alloc y).alloc z) := (((Below.refl _ _).alloc (Nat.le_refl _) _).alloc (by simp) _).alloc (by simp; omega) _

set_option maxRecDepth 100000 in
set_option maxHeartbeats 1600000 in
theorem toSlot_any (s : SlotD) (w : World) : Calls Tryd.prog 7 #[slV s] w fun e w' => e = .returned (slV s) ∧ Below w.heap.size w w' := by
  obtain ⟨sa, ro, no, bx⟩ := s
  go_enter Tryd.func7, Tryd.ntmps7
  go_wp2
  have hA := (Box.new (w.alloc (.cells #[.string sa, .int .i64 ro, .string no, .string bx] 23)) #[.string sa, .int .i64 ro, .string no, .string bx] 26).alloc (.cells #[.string sa, .int .i64 ro, .string no, .string bx] 26)
  rw [World.size_alloc] at hA
  exact bodyPost_ret (results_sl rfl _ _ _ _ rfl rfl hA) rfl ⟨rfl, below3c _ _ _ _⟩

set_option maxRecDepth 100000 in
set_option maxHeartbeats 1600000 in
theorem szSlot_any (s : SlotD) (w : World) (z1 : s.sa.size ≤ maxLen) (z2 : s.no.size ≤ maxLen) (z3 : s.bx.size ≤ maxLen) :
    Calls Tryd.prog 5 #[slV s, .int .i64 1048576] w fun e w' => ∃ r : Int, e = .returned (.int .i64 r) ∧ -1 ≤ r ∧ (0 ≤ r → s.sa.size ≤ 1048576 ∧ s.no.size ≤ 1048576 ∧ s.bx.size ≤ 1048576) ∧ Below w.heap.size w w' := by
  obtain ⟨sa, ro, no, bx⟩ := s
  unfold maxLen at z1 z2 z3
  dsimp only at z1 z2 z3 ⊢
  have hB := (Below.refl w.heap.size w).alloc (Nat.le_refl _) (.cells #[.string sa, .int .i64 ro, .string no, .string bx] 23)
  by_cases c1 : 1048576 - (sa.size : Int) < 0
  · go_enter Tryd.func5, Tryd.ntmps5
    go_wp2
    go_ret
    exact ⟨-1, rfl, by omega, by omega, hB⟩
  by_cases c2 : 1048576 - (sa.size : Int) - no.size < 0
  · go_enter Tryd.func5, Tryd.ntmps5
    go_wp2
    go_ret
    exact ⟨-1, rfl, by omega, by omega, hB⟩
  by_cases c3 : 1048576 - (sa.size : Int) - no.size - bx.size < 0
  · go_enter Tryd.func5, Tryd.ntmps5
    go_wp2
    go_ret
    exact ⟨-1, rfl, by omega, by omega, hB⟩
  go_enter Tryd.func5, Tryd.ntmps5
  go_wp2
  go_ret
  exact ⟨_, rfl, by omega, fun _ => by omega, hB⟩

set_option maxRecDepth 100000 in
set_option maxHeartbeats 3000000 in
theorem walk_FnExactSlotText (v : Value) (z : SlotD) (w : World) (h : SlotIn v z) (hT : True) :
    Calls Tryd.prog 3 #[v] w fun e w' => e = .returned (.bool true) ∧ Below w.heap.size w w' := by
  obtain ⟨rfl, y1, y2, y3, hro⟩ := h
  have HZ := Lib.hid (fun w => szSlot_any z w y1 y2 y3)
  have HTo := Lib.hid (fun w => toSlot_any z w)
  have HS := Lib.hid (fun w hz => specSlotText_any z w hz)
  have HI := Lib.hid (fun w hz => implSlotText_any z w hz)
  generalize slX z = T at HS HI
  have HSZ : Hid (z.sa.size ≤ 1048576 ∧ z.no.size ≤ 1048576 ∧ z.bx.size ≤ 1048576 → SlSz z) := Lib.hid (fun h => ⟨h.1, h.2.1, h.2.2, hro⟩)
  generalize SlSz z = SS at HS HI HSZ
  obtain ⟨sa, ro, no, bx⟩ := z
  dsimp only at HSZ HZ
  clear y1 y2 y3 hro hT
  have hx := Box.new w #[.string sa, .int .i64 ro, .string no, .string bx] 23
  have hB := (Below.refl w.heap.size w).alloc (Nat.le_refl _) (.cells #[.string sa, .int .i64 ro, .string no, .string bx] 23)
  go_enter Tryd.func3, Tryd.ntmps3
  go_wp2_with fail
  generalize w.alloc (.cells #[.string sa, .int .i64 ro, .string no, .string bx] 23) = W0 at hx hB ⊢
  refine (HZ.out _).mono ?_
  rintro e w1 ⟨r, rfl, hr0, hr1, hb1⟩
  replace hx := hx.keep hb1 hx.lt
  replace hB := hB.trans (hb1.mono hB.size)
  clear hb1 HZ
  by_cases hr : r < 0
  case pos =>
    clear hr1
    go_wp2
    go_ret
    exact ⟨rfl, hB⟩
  have hSS := HSZ.out (hr1 (by omega))
  clear hr1 HSZ

  have x0 := hx.cell 0 _ rfl
  have x1 := hx.cell 1 _ rfl
  have x2 := hx.cell 2 _ rfl
  have x3 := hx.cell 3 _ rfl
  go_wp2_with fail
  refine (HTo.out _).mono ?_
  rintro e w2 ⟨rfl, hb⟩
  clear x0 x1 x2 x3
  replace hx := hx.keep hb hx.lt
  replace hB := hB.trans (hb.mono hB.size)
  clear hb
  go_wp2_with fail
  refine (HS.out _ hSS).mono ?_
  rintro e w3 ⟨rfl, hb⟩
  replace hx := hx.keep hb hx.lt
  replace hB := hB.trans (hb.mono hB.size)
  clear hb
  have x0 := hx.cell 0 _ rfl
  have x1 := hx.cell 1 _ rfl
  have x2 := hx.cell 2 _ rfl
  have x3 := hx.cell 3 _ rfl
  go_wp2_with fail
  refine (HTo.out _).mono ?_
  rintro e w4 ⟨rfl, hb⟩
  clear x0 x1 x2 x3
  replace hx := hx.keep hb hx.lt
  replace hB := hB.trans (hb.mono hB.size)
  clear hb
  go_wp2_with fail
  refine (HI.out _ hSS).mono ?_
  rintro e w5 ⟨rfl, hb⟩
  replace hB := hB.trans (hb.mono hB.size)
  clear hb hx
  go_wp2
  go_ret
  exact ⟨rfl, hB⟩
end
end Go.Proofs.YtlipgmaiooljkaaDoor

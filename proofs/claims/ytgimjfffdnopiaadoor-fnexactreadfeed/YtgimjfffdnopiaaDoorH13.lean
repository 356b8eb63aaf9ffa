/- Joined: W7f. -/
import Derived.Test.YtgimjfffdnopiaaDoorH12
/- W7f -/
namespace Go.Proofs.YtgimjfffdnopiaaDoor
open Go.ChangeShapes Go.WideShapes Go.ChangeAt Go.RowKit
set_option linter.unusedVariables false

abbrev dC (y m d : Int) : Obj := .cells #[.int .i64 y, .int .i64 m, .int .i64 d] 25
theorem DAt.frozen {w : World} {g : Nat} {y m d : Int} (h : DAt w g y m d) (j : Nat) : w.frozen? ⟨g, j, none⟩ = false := Arr.frozen h j
theorem DAt.s0 {w : World} {g : Nat} {y m d : Int} (h : DAt w g y m d) (x : Int) : DAt (w.setCell ⟨g, 0, none⟩ (.int .i64 x)) g x m d := Arr.set h 0 x
theorem DAt.s1 {w : World} {g : Nat} {y m d : Int} (h : DAt w g y m d) (x : Int) : DAt (w.setCell ⟨g, 1, none⟩ (.int .i64 x)) g y x d := Arr.set h 1 x
theorem DAt.s2 {w : World} {g : Nat} {y m d : Int} (h : DAt w g y m d) (x : Int) : DAt (w.setCell ⟨g, 2, none⟩ (.int .i64 x)) g y m x := Arr.set h 2 x
theorem DAt.other {w : World} {g g' : Nat} {y m d : Int} (h : DAt w g y m d) (j : Nat) (v : Value) (hne : g ≠ g') : DAt (w.setCell ⟨g', j, none⟩ v) g y m d := Arr.other h g' j v hne
theorem DAt.alloc {w : World} {g : Nat} {y m d : Int} (h : DAt w g y m d) (o : Obj) : DAt (w.alloc o) g y m d := Arr.alloc h o

theorem Tryd.infD : (Tryd.prog.info? 25).map (·.size) = some 3 := by kernel_rfl
theorem results_date {fn : Func} {p : Tmp} (h : fn.results = #[.cell p 25]) (tmps : Array Value) (w : World) (g : Nat) (y m d : Int)
    (hp : tmps.getD p undef = .pointer (some ⟨g, 0, none⟩)) (hA : DAt w g y m d) : (results fn tmps).run Tryd.prog w = .ok (dV y m d) w :=
  results_cell_row h tmps w g _ _ _ _ hp hA Tryd.underlying25 rfl Tryd.infD

/-- A date on the way to a day: so many days are left. -/
def Way (n y m r : Int) : Prop := 1970 ≤ y ∧ 1 ≤ m ∧ m ≤ 12 ∧ 0 ≤ r ∧ n = yS y + mS y (m.toNat - 1) + r
theorem Way.first (n : Int) (h : 0 ≤ n) : Way n 1970 1 n := ⟨by omega, by omega, by omega, h, by rw [yS_first]; show n = 0 + 0 + n; omega⟩
theorem Way.month {n y m r : Int} (h : Way n y m r) (hr : dIM y m ≤ r) (hm : m < 12) : Way n y (m + 1) (r - dIM y m) := by
  obtain ⟨h0, h1, h2, h3, h4⟩ := h
  have := mS_last y m h1
  refine ⟨h0, by omega, by omega, by omega, ?_⟩
  rw [show (m + 1).toNat - 1 = m.toNat by omega]
  omega
theorem Way.year {n y m r : Int} (h : Way n y m r) (hr : dIM y m ≤ r) (hm : m = 12) : Way n (y + 1) 1 (r - dIM y m) := by
  obtain ⟨h0, h1, h2, h3, h4⟩ := h
  have a := mS_last y m h1
  have b := yS_succ y
  have c := mS_year y
  have e : m.toNat = 12 := by omega
  rw [e] at a
  refine ⟨by omega, by omega, by omega, by omega, ?_⟩
  show n = yS (y + 1) + 0 + (r - dIM y m)
  rw [e] at h4
  omega
theorem Way.done {n y m r : Int} (h : Way n y m r) (hr : r < dIM y m) : IsD n y m (r + 1) := by
  obtain ⟨h0, h1, h2, h3, h4⟩ := h
  exact ⟨h0, h1, h2, by omega, by omega, by unfold dN; omega⟩
theorem Way.bound {n y m r : Int} (h : Way n y m r) (hn : n ≤ 200000) : y ≤ 2600 ∧ r ≤ 200000 ∧ 0 ≤ r := by
  obtain ⟨h0, h1, h2, h3, h4⟩ := h
  have a := mS_nn y (m.toNat - 1)
  have b := yS_mono 1970 y h0
  have c := yS_first
  refine ⟨?_, by omega, h3⟩
  by_cases e : y ≤ 2600
  · exact e
  · have := yS_mono 2600 y (by omega)
    have : 200000 < yS 2600 := by decide
    omega

set_option maxRecDepth 100000 in
set_option maxHeartbeats 2000000 in
theorem l7Date_any (n : Int) (w : World) (h0 : 0 ≤ n) (h1 : n ≤ 200000) :
    Calls Tryd.prog 47 #[.int .i64 n] w fun e w' => ∃ y m d, e = .returned (dV y m d) ∧ IsD n y m d ∧ Below w.heap.size w w' := by
  have hA := DAt.new (w.alloc (dC 0 0 0)) 1970 1 1
  have hZ := (DAt.new w 0 0 0).alloc (dC 1970 1 1)
  rw [World.size_alloc] at hA
  have hB : Below w.heap.size w ((w.alloc (dC 0 0 0)).alloc (dC 1970 1 1)) := ((Below.refl _ _).alloc (Nat.le_refl _) _).alloc (by simp) _
  go_enter Tryd.func47, Tryd.ntmps47
  go_wp2
  go_loopw [0] (fun s wr => ∃ y m r, s = .int .i64 r ∧ Way n y m r ∧ DAt wr (w.heap.size + 1) y m 1 ∧ DAt wr w.heap.size 0 0 0 ∧ Below w.heap.size w wr) (fun s _ => (intOf s).toNat)
  case atStart => exact ⟨1970, 1, n, rfl, Way.first n h0, hA, hZ, hB⟩
  case round =>
    obtain ⟨y, m, r, rfl, hW, hD, hZ1, hB1⟩ := hrel
    clear hA hZ hB
    have hbd := hW.bound h1
    obtain ⟨w0, w1, w2, _⟩ := id hW
    have HW := Lib.hid hW
    have HD := Lib.hid hD
    have HZ1 := Lib.hid hZ1
    have HB1 := Lib.hid hB1
    have c0 := hD.c0
    have c1 := hD.c1
    have c2 := hD.c2
    have f0 := hD.frozen 0
    have f1 := hD.frozen 1
    have f2 := hD.frozen 2
    have HC := Lib.hid (fun w => l7Days_any y m w (by omega) (by omega))
    have hd := dIM_bd y m
    by_cases hlt : dIM y m ≤ r
    · by_cases hm : m < 12
      · have HN := Lib.hid (hW.month hlt hm)
        generalize dIM y m = X at HC HN hd hlt
        clear hW hD hZ1 hB1
        go_wp2_with fail
        refine (HC.out _).mono ?_
        rintro e v1 ⟨rfl, rfl⟩
        go_wp2_with fail
        refine (HC.out _).mono ?_
        rintro e v1 ⟨rfl, rfl⟩
        go_wp2
        go_roundw
        case rel => exact ⟨y, m + 1, r - X, rfl, HN.out, HD.out.s1 _, HZ1.out.other _ _ (by omega), HB1.out.setCell (p := ⟨w.heap.size + 1, 1, none⟩) (by show w.heap.size ≤ w.heap.size + 1; omega) _⟩
        case measure => simp [intOf]; omega
      · have hm12 : m = 12 := by omega
        have HN := Lib.hid (hW.year hlt hm12)
        subst hm12
        generalize dIM y 12 = X at HC HN hd hlt
        clear hW hD hZ1 hB1 hm
        go_wp2_with fail
        refine (HC.out _).mono ?_
        rintro e v1 ⟨rfl, rfl⟩
        go_wp2_with fail
        refine (HC.out _).mono ?_
        rintro e v1 ⟨rfl, rfl⟩
        go_wp2
        refine ⟨⟨y + 1, 1, r - X, rfl, HN.out, ((HD.out.s1 _).s1 _).s0 _, ((HZ1.out.other _ _ (by omega)).other _ _ (by omega)).other _ _ (by omega), ((HB1.out.setCell (p := ⟨w.heap.size + 1, 1, none⟩) (by show w.heap.size ≤ w.heap.size + 1; omega) _).setCell (p := ⟨w.heap.size + 1, 1, none⟩) (by show w.heap.size ≤ w.heap.size + 1; omega) _).setCell (p := ⟨w.heap.size + 1, 0, none⟩) (by show w.heap.size ≤ w.heap.size + 1; omega) _⟩, ?_⟩
        simp [intOf]; omega
    · have HN := Lib.hid (hW.done (by omega))
      generalize dIM y m = X at HC hd hlt
      have z0 := hZ1.c0
      have z1 := hZ1.c1
      have z2 := hZ1.c2
      have g0 := hZ1.frozen 0
      have g1 := hZ1.frozen 1
      have g2 := hZ1.frozen 2
      clear hW hD hZ1 hB1
      go_wp2_with fail
      refine (HC.out _).mono ?_
      rintro e v1 ⟨rfl, rfl⟩
      go_wp2
      have hF := (((HZ1.out.other 2 (.int .i64 (r + 1)) (show w.heap.size ≠ w.heap.size + 1 by omega)).s0 y).s1 m).s2 (r + 1)
      have hBF := (((HB1.out.setCell (p := ⟨w.heap.size + 1, 2, none⟩) (by show w.heap.size ≤ w.heap.size + 1; omega) (.int .i64 (r + 1))).setCell (p := ⟨w.heap.size, 0, none⟩) (Nat.le_refl _) (.int .i64 y)).setCell (p := ⟨w.heap.size, 1, none⟩) (Nat.le_refl _) (.int .i64 m)).setCell (p := ⟨w.heap.size, 2, none⟩) (Nat.le_refl _) (.int .i64 (r + 1))
      refine bodyPost_ret (results_date rfl _ _ _ _ _ _ rfl hF) rfl ?_
      exact ⟨y, m, r + 1, rfl, HN.out, hBF⟩
end Go.Proofs.YtgimjfffdnopiaaDoor

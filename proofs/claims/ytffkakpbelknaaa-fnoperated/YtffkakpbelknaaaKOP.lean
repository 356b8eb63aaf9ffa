/- Joined: Draw26, Y9z, V9o. -/
import Derived.Test.YtffkakpbelknaaaH52
import Derived.Test.YtffkakpbelknaaaH13
import Derived.Test.YtffkakpbelknaaaH24
import Derived.Test.YtffkakpbelknaaaH50
/- Draw26 -/
namespace Go.Proofs.Ytffkakpbelknaaa
open Go.ChangeShapes Go.WideShapes Go.ChangeAt Go.RowKit
set_option linter.unusedVariables false

theorem offOp {w : World} {B F : Nat} {cs : Array Value} {v : Value} {its : List It} (h : OwnR 45 3 itC w B v its) (hp : Box w F cs 31) (x : Value) : OwnR 45 3 itC (w.setCell ⟨F, 3, none⟩ x) B v its := h.off ⟨F, 3, none⟩ x (box_row hp h (by decide))

set_option maxRecDepth 100000 in
set_option maxHeartbeats 2000000 in
theorem drawReaderOk_any (w : World) (cv : Value) (zs : List Int) (h : Cd w cv zs) :
    Calls Try.prog 18 #[cv] w fun e w' => ∃ (V : Value) (ss : List Sb), e = .returned (.agg #[V]) ∧ (∀ s ∈ ss, SbSz s ∧ ∀ x ∈ s.es, EnSz x) ∧ OwnS w' w.heap.size V ss ∧ Below w.heap.size w w' := by
  obtain ⟨a, len, cap, hcv⟩ := h.form
  have HV := Lib.hid hcv
  clear hcv
  obtain ⟨W0, hW0⟩ : ∃ W0, W0 = w.alloc (.cells #[.slice none 0 0] 26) := ⟨_, rfl⟩
  have hB0 : Below w.heap.size w W0 := by rw [hW0]; exact (Below.refl _ _).alloc (Nat.le_refl _) _
  have hx0 : Box W0 w.heap.size #[.slice none 0 0] 26 := by rw [hW0]; exact Box.new w _ _
  have hc0 : Cd W0 cv zs := h.below hB0
  have hz0 : W0.heap.size = w.heap.size + 1 := by rw [hW0]; simp
  go_enter Try.func18, Try.ntmps18
  go_wp2_with fail
  rw [← hW0]
  clear hW0
  refine (open_any cv a len cap HV.out _).mono ?_
  rintro e w1 ⟨rfl, rfl⟩
  have hrd := hc0.rd
  have hgr := World.grownBy.refl (W0.alloc (.cells #[cv, .int .i64 0] 133)) (some W0.heap.size)
  replace hx0 := hx0.alloc (.cells #[cv, .int .i64 0] 133)
  have hB1 := hB0.alloc hB0.size (.cells #[cv, .int .i64 0] 133)
  generalize hrb : W0.heap.size = rb at hrd hgr ⊢
  rw [hz0] at hrb
  generalize W0.alloc (.cells #[cv, .int .i64 0] 133) = W1 at hrd hgr hx0 hB1 ⊢
  clear hc0 hz0 hB0
  have hgw : ∀ w', W1.grownBy w' (some rb) → Below w.heap.size w w' := fun w' hg => hB1.trans (below_of_grown hg (by omega) hB1.size)
  have HG := Lib.hid hgw
  have hrl : rb < W1.heap.size := hrd.lt
  clear hgw
  go_wp2_with fail
  refine (reader_any _ _ cv zs _ hrd).mono ?_
  rintro e w2 ⟨V, ss, rfl, hsz, hS, hrd, hg2⟩
  replace hx0 := hx0.keepG hg2 (by omega)
  have hBe := HG.out _ (grown_trans hgr hg2)
  have HZ := Lib.hid hsz
  clear hg2 hsz HG hgr hrd
  obtain ⟨va, vc, rfl⟩ := hS.slice24
  have z0 := hx0.cell 0 _ rfl
  have zf := hx0.free
  go_wp2
  have q5 := hx0.set 0 (.slice va ss.length vc)
  have o5 := hS.other24 ⟨w.heap.size, 0, none⟩ (.slice va ss.length vc) (show w.heap.size < W1.heap.size by omega)
  have b5 := hBe.trans ((Below.refl w.heap.size w2).setCell (p := ⟨w.heap.size, 0, none⟩) (Nat.le_refl _) (.slice va ss.length vc))
  have d0 := cell_of_cells (i := 0) q5 rfl
  obtain ⟨ps, h1, h2, h3⟩ := o5
  exact bodyPost_ret (v := .agg #[.slice va ss.length vc]) (by simp [results, Try.results18, go_sem, d0]) rfl ⟨_, ss, rfl, HZ.out, ⟨ps, h1, h2.base_mono (by omega), fun p hp => (h3 p hp).base_mono (by omega)⟩, b5⟩

set_option maxRecDepth 100000 in
set_option maxHeartbeats 2000000 in
theorem drawOpOk_any (w : World) (cv : Value) (zs : List Int) (h : Cd w cv zs) :
    Calls Try.prog 19 #[cv] w fun e w' => ∃ (o : OpD) (x : Value), e = .returned (opV o x) ∧ smO o ∧ OwnR 45 3 itC w' w.heap.size x o.its ∧ Below w.heap.size w w' := by
  obtain ⟨a, len, cap, hcv⟩ := h.form
  have HV := Lib.hid hcv
  clear hcv
  obtain ⟨W0, hW0⟩ : ∃ W0, W0 = w.alloc (.cells opZ 31) := ⟨_, rfl⟩
  have hB0 : Below w.heap.size w W0 := by rw [hW0]; exact (Below.refl _ _).alloc (Nat.le_refl _) _
  have hx0 : Box W0 w.heap.size opZ 31 := by rw [hW0]; exact Box.new w _ _
  have hc0 : Cd W0 cv zs := h.below hB0
  have hz0 : W0.heap.size = w.heap.size + 1 := by rw [hW0]; simp
  go_enter Try.func19, Try.ntmps19
  go_wp2_with fail
  rw [← hW0]
  clear hW0
  refine (open_any cv a len cap HV.out _).mono ?_
  rintro e w1 ⟨rfl, rfl⟩
  have hrd := hc0.rd
  have hgr := World.grownBy.refl (W0.alloc (.cells #[cv, .int .i64 0] 133)) (some W0.heap.size)
  replace hx0 := hx0.alloc (.cells #[cv, .int .i64 0] 133)
  have hB1 := hB0.alloc hB0.size (.cells #[cv, .int .i64 0] 133)
  generalize hrb : W0.heap.size = rb at hrd hgr ⊢
  rw [hz0] at hrb
  generalize W0.alloc (.cells #[cv, .int .i64 0] 133) = W1 at hrd hgr hx0 hB1 ⊢
  clear hc0 hz0 hB0
  have hgw : ∀ w', W1.grownBy w' (some rb) → Below w.heap.size w w' := fun w' hg => hB1.trans (below_of_grown hg (by omega) hB1.size)
  have HG := Lib.hid hgw
  have hrl : rb < W1.heap.size := hrd.lt
  clear hgw
  go_wp2_with fail
  refine (op_any _ _ cv zs _ hrd).mono ?_
  rintro e w2 ⟨o, x, rfl, hso, hI, hrd, hg2⟩
  replace hx0 := hx0.keepG hg2 (by omega)
  replace hgr := grown_trans hgr hg2
  clear hg2
  obtain ⟨ok, ou, oi, od, ofu, oft, oits⟩ := o
  obtain ⟨xa, xc, hxv⟩ := hI.slice
  simp only at hxv
  subst hxv
  simp only at hI
  have hp := Box.new w2 #[.int .i64 ok, .string ou, .string oi, .int .i64 od, .string ofu, .string oft, .slice xa oits.length xc] 31
  have hpl : w.heap.size < w2.heap.size := hx0.lt
  have hpr : rb < w2.heap.size := hrd.lt
  have ga := World.grownBy_alloc w2 (.cells #[.int .i64 ok, .string ou, .string oi, .int .i64 od, .string ofu, .string oft, .slice xa oits.length xc] 31) (some rb)
  replace hx0 := hx0.keepG ga (by omega)
  replace hrd := hrd.alloc (.cells #[.int .i64 ok, .string ou, .string oi, .int .i64 od, .string ofu, .string oft, .slice xa oits.length xc] 31)
  replace hI := hI.keepG ga hrl
  replace hgr := grown_trans hgr ga
  clear ga
  go_wp2_with fail
  generalize w2.alloc (.cells #[.int .i64 ok, .string ou, .string oi, .int .i64 od, .string ofu, .string oft, .slice xa oits.length xc] 31) = W2 at hx0 hrd hgr hp hI ⊢
  generalize w2.heap.size = F at hp hpl hpr ⊢
  refine (once_any 6 _ _ cv zs _ hrd (by omega) (by omega)).mono ?_
  rintro e W ⟨b, rfl, hrd, hg3⟩
  replace hx0 := hx0.keepG hg3 (by omega)
  replace hp := hp.keepG hg3 (by omega)
  replace hI := hI.keepG hg3 hrl
  replace hgr := grown_trans hgr hg3
  have hlo : w.heap.size < W1.heap.size := by omega
  clear hg3
  cases b with
  | false =>
    have hB := HG.out _ hgr
    have q0 := hp.cell 0 _ rfl
    have q1 := hp.cell 1 _ rfl
    have q2 := hp.cell 2 _ rfl
    have q3 := hp.cell 3 _ rfl
    have q4 := hp.cell 4 _ rfl
    have q5 := hp.cell 5 _ rfl
    have q6 := hp.cell 6 _ rfl
    have y0 := hx0.cell 0 _ rfl
    have yf0 := hx0.free 0
    have y1 := hx0.cell 1 _ rfl
    have yf1 := hx0.free 1
    have y2 := hx0.cell 2 _ rfl
    have yf2 := hx0.free 2
    have y3 := hx0.cell 3 _ rfl
    have yf3 := hx0.free 3
    have y4 := hx0.cell 4 _ rfl
    have yf4 := hx0.free 4
    have y5 := hx0.cell 5 _ rfl
    have yf5 := hx0.free 5
    have y6 := hx0.cell 6 _ rfl
    have yf6 := hx0.free 6
    go_wp2
    have x5 := hx0.put7 (.int .i64 ok) (.string ou) (.string oi) (.int .i64 od) (.string ofu) (.string oft) (.slice xa oits.length xc)
    have i5 := hI.other7 w.heap.size hlo (.int .i64 ok) (.string ou) (.string oi) (.int .i64 od) (.string ofu) (.string oft) (.slice xa oits.length xc)
    have b5 := hB.trans (below7 W w.heap.size w.heap.size (Nat.le_refl _) (.int .i64 ok) (.string ou) (.string oi) (.int .i64 od) (.string ofu) (.string oft) (.slice xa oits.length xc))
    unfold put7 at x5 i5 b5
    have d0 := cell_of_cells (i := 0) x5 rfl
    have d1 := cell_of_cells (i := 1) x5 rfl
    have d2 := cell_of_cells (i := 2) x5 rfl
    have d3 := cell_of_cells (i := 3) x5 rfl
    have d4 := cell_of_cells (i := 4) x5 rfl
    have d5 := cell_of_cells (i := 5) x5 rfl
    have d6 := cell_of_cells (i := 6) x5 rfl
    exact bodyPost_ret (v := opV (⟨ok, ou, oi, od, ofu, oft, oits⟩ : OpD) (.slice xa oits.length xc)) (by simp [results, Try.results19, go_sem, d0, d1, d2, d3, d4, d5, d6]) rfl ⟨(⟨ok, ou, oi, od, ofu, oft, oits⟩ : OpD), _, rfl, hso, i5.base_mono (by omega), b5⟩
  | true =>
    go_wp2_with fail
    refine (off_any 0 3 _ _ cv zs _ hrd (by omega) (by omega) (by omega)).mono ?_
    rintro e w7 ⟨n, rfl, hn, hrd, hg7⟩
    replace hx0 := hx0.keepG hg7 (by omega)
    replace hp := hp.keepG hg7 (by omega)
    replace hI := hI.keepG hg7 hrl
    replace hgr := grown_trans hgr hg7
    have hp3 := hp.cell 3 _ rfl
    have hpf := hp.free 3
    have hB7 := HG.out _ hgr
    clear hg7 hrd hgr
    have hpX := hp.set 3 (.int .i64 n)
    change Box (w7.setCell ⟨F, 3, none⟩ (.int .i64 n)) F #[.int .i64 ok, .string ou, .string oi, .int .i64 n, .string ofu, .string oft, .slice xa oits.length xc] _ at hpX
    have hb8 : Below F w7 (w7.setCell ⟨F, 3, none⟩ (.int .i64 n)) := (Below.refl _ _).setCell (p := ⟨F, 3, none⟩) (Nat.le_refl _) _
    have hx8 := hx0.keep hb8 hpl
    have hB8 := hB7.trans (hb8.mono (by omega))
    have hI8 := offOp hI hp (.int .i64 n)
    have q0 := hpX.cell 0 _ rfl
    have q1 := hpX.cell 1 _ rfl
    have q2 := hpX.cell 2 _ rfl
    have q3 := hpX.cell 3 _ rfl
    have q4 := hpX.cell 4 _ rfl
    have q5 := hpX.cell 5 _ rfl
    have q6 := hpX.cell 6 _ rfl
    have y0 := hx8.cell 0 _ rfl
    have yf0 := hx8.free 0
    have y1 := hx8.cell 1 _ rfl
    have yf1 := hx8.free 1
    have y2 := hx8.cell 2 _ rfl
    have yf2 := hx8.free 2
    have y3 := hx8.cell 3 _ rfl
    have yf3 := hx8.free 3
    have y4 := hx8.cell 4 _ rfl
    have yf4 := hx8.free 4
    have y5 := hx8.cell 5 _ rfl
    have yf5 := hx8.free 5
    have y6 := hx8.cell 6 _ rfl
    have yf6 := hx8.free 6
    go_wp2
    have x5 := hx8.put7 (.int .i64 ok) (.string ou) (.string oi) (.int .i64 n) (.string ofu) (.string oft) (.slice xa oits.length xc)
    have i5 := hI8.other7 w.heap.size hlo (.int .i64 ok) (.string ou) (.string oi) (.int .i64 n) (.string ofu) (.string oft) (.slice xa oits.length xc)
    have b5 := hB8.trans (below7 (w7.setCell ⟨F, 3, none⟩ (.int .i64 n)) w.heap.size w.heap.size (Nat.le_refl _) (.int .i64 ok) (.string ou) (.string oi) (.int .i64 n) (.string ofu) (.string oft) (.slice xa oits.length xc))
    unfold put7 at x5 i5 b5
    have d0 := cell_of_cells (i := 0) x5 rfl
    have d1 := cell_of_cells (i := 1) x5 rfl
    have d2 := cell_of_cells (i := 2) x5 rfl
    have d3 := cell_of_cells (i := 3) x5 rfl
    have d4 := cell_of_cells (i := 4) x5 rfl
    have d5 := cell_of_cells (i := 5) x5 rfl
    have d6 := cell_of_cells (i := 6) x5 rfl
    exact bodyPost_ret (v := opV (⟨ok, ou, oi, n, ofu, oft, oits⟩ : OpD) (.slice xa oits.length xc)) (by simp [results, Try.results19, go_sem, d0, d1, d2, d3, d4, d5, d6]) rfl ⟨(⟨ok, ou, oi, n, ofu, oft, oits⟩ : OpD), _, rfl, hso, i5.base_mono (by omega), b5⟩
end Go.Proofs.Ytffkakpbelknaaa

/- Y9z -/
namespace Go.Proofs.Ytffkakpbelknaaa
open Go.ChangeShapes Go.WideShapes Go.ChangeAt Go.RowKit
set_option linter.unusedVariables false

theorem SbAt.one {w : World} {B n cap : Nat} {b off : Nat} {ss : List Sb} (h : SbAt w B (.slice (some ⟨b, off, none⟩) n cap) ss) (k : Nat) (hk : k < ss.length) : SbAt w B (.slice (some ⟨b, off + k * 3, none⟩) 1 (cap - k)) [ss[k]] := by
  obtain ⟨ps, rfl, h2, h3⟩ := h
  have hk2 : k < ps.length := by rwa [List.length_map] at hk
  refine ⟨[ps[k]], by simp, ?_, fun p hp => by rw [List.mem_singleton.1 hp]; exact h3 _ (List.getElem_mem hk2)⟩
  obtain ⟨a, c, hv, h4, h5, h6⟩ := h2
  simp only [Value.slice.injEq] at hv
  obtain ⟨rfl, hn, rfl⟩ := hv
  refine ⟨some ⟨b, off + k * 3, none⟩, cap - k, rfl, by show 1 ≤ cap - k; omega, by omega, fun _ => ?_⟩
  obtain ⟨b', off', hb, hB, hr⟩ := h6 (by omega)
  simp only [Option.some.injEq, Addr.mk.injEq, and_true] at hb
  obtain ⟨rfl, rfl⟩ := hb
  refine ⟨b, off + k * 3, rfl, hB, fun i hi j u hu => ?_⟩
  have hi0 : i = 0 := by simpa using hi
  subst hi0
  have := hr k hk2 j u (by simpa using hu)
  simpa using this

set_option maxRecDepth 100000 in
set_option maxHeartbeats 3000000 in
theorem sameReader_url (v v' : Value) (x y : Sb) (w : World) (h : SbAt w w.heap.size v [x]) (h' : SbAt w w.heap.size v' [y]) (hne : x.u ≠ y.u) :
    Calls Try.prog 20 #[.agg #[v], .agg #[v']] w fun e w' => e = .returned (.bool false) ∧ Below w.heap.size w w' := by
  have HI := Lib.hid h
  have HJ := Lib.hid h'
  obtain ⟨a, cap, rfl, hl, hm, hc⟩ := h.raw
  obtain ⟨a', cap', rfl, hl', hm', hc'⟩ := h'.raw
  unfold maxLen at hm hm'
  clear hc hc' h h'
  obtain ⟨W0, hW0⟩ : ∃ W0, W0 = (w.alloc (.cells #[.slice a 1 cap] 26)).alloc (.cells #[.slice a' 1 cap'] 26) := ⟨_, rfl⟩
  have hb0 : Below w.heap.size w W0 := by rw [hW0]; exact ((Below.refl _ _).alloc (Nat.le_refl _) _).alloc (by simp) _
  have hz0 : W0.heap.size = w.heap.size + 2 := by rw [hW0]; simp
  have hx0 : Box W0 w.heap.size #[.slice a 1 cap] 26 := by rw [hW0]; exact (Box.new w #[.slice a 1 cap] 26).alloc _
  have hy0 : Box W0 (w.heap.size + 1) #[.slice a' 1 cap'] 26 := by
    rw [hW0]
    have := Box.new (w.alloc (.cells #[.slice a 1 cap] 26)) #[.slice a' 1 cap'] 26
    simpa using this
  have p0 := hx0.cell 0 _ rfl
  have p1 := hy0.cell 0 _ rfl
  rw [hW0] at p0 p1
  have hU : (x.u.toList != y.u.toList) = true := by
    have h1 : (x.u.toList == y.u.toList) = false := by rw [str_eq]; exact decide_eq_false hne
    rw [bne, h1]; rfl
  have hU2 : (x.u.toList == y.u.toList) = false := by rw [str_eq]; exact decide_eq_false hne
  go_enter Try.func20, Try.ntmps20
  go_wp2
  clear p0 p1
  rw [← hW0]
  clear hW0
  go_loopw [5] (fun i wr => i = .int .i64 0 ∧ W0 = wr) (fun i _ => 0)
  case atStart => exact ⟨rfl, rfl⟩
  case round =>
    obtain ⟨rfl, rfl⟩ := hrel
    have p0 : W0.cell? ⟨w.heap.size, 0, none⟩ = some (.slice a 1 cap) := hx0.cell 0 _ rfl
    have p1 : W0.cell? ⟨w.heap.size + 1, 0, none⟩ = some (.slice a' 1 cap') := hy0.cell 0 _ rfl
    obtain ⟨a1, cap1, hv, _, _, hc⟩ := (HI.out.below hb0).raw
    cases hv
    obtain ⟨a2, cap2, hv, _, _, hc'⟩ := (HJ.out.below hb0).raw
    cases hv
    obtain ⟨b, off, rfl, hb, hr⟩ := hc 0 (by simp)
    obtain ⟨b', off', rfl, hb', hr'⟩ := hc' 0 (by simp)
    obtain ⟨X, c0, c1, c2, hx, _⟩ := hr 0 (by simp)
    obtain ⟨Y, d0, d1, d2, hy, _⟩ := hr' 0 (by simp)
    obtain ⟨xa, xc, rfl, _⟩ := hx.1
    obtain ⟨ya, yc, rfl, _⟩ := hy.1
    simp only [List.getElem_cons_zero, Nat.zero_mul, Nat.add_zero] at c0 c1 c2 d0 d1 d2
    clear hr hr' hc hc' hx hy
    obtain ⟨OX, hOX⟩ : ∃ OX, OX = Obj.cells #[.string x.u, .string x.t, .slice xa x.es.length xc] 43 := ⟨_, rfl⟩
    have hb1 : Below W0.heap.size W0 (W0.alloc OX) := (Below.refl _ _).alloc (Nat.le_refl _) _
    have pa1 : (W0.alloc OX).cell? ⟨w.heap.size + 1, 0, none⟩ = some (.slice (some ⟨b', off', none⟩) 1 cap') := (hb1.cell (p := ⟨w.heap.size + 1, 0, none⟩) (by show w.heap.size + 1 < _; omega)).trans p1
    have da0 : (W0.alloc OX).cell? ⟨b', off', none⟩ = _ := (hb1.cell (p := ⟨b', off', none⟩) (by show b' < _; omega)).trans d0
    have da1 : (W0.alloc OX).cell? ⟨b', off' + 1, none⟩ = _ := (hb1.cell (p := ⟨b', off' + 1, none⟩) (by show b' < _; omega)).trans d1
    have da2 : (W0.alloc OX).cell? ⟨b', off' + 2, none⟩ = _ := (hb1.cell (p := ⟨b', off' + 2, none⟩) (by show b' < _; omega)).trans d2
    obtain ⟨OY, hOY⟩ : ∃ OY, OY = Obj.cells #[.string y.u, .string y.t, .slice ya y.es.length yc] 43 := ⟨_, rfl⟩
    have hb2 : Below w.heap.size w ((W0.alloc OX).alloc OY) := (hb0.alloc hb0.size OX).alloc (by simp; omega) OY
    have hXb : Box ((W0.alloc OX).alloc OY) W0.heap.size #[.string x.u, .string x.t, .slice xa x.es.length xc] 43 := by rw [hOX]; exact (Box.new W0 _ _).alloc _
    have hYb : Box ((W0.alloc OX).alloc OY) (W0.heap.size + 1) #[.string y.u, .string y.t, .slice ya y.es.length yc] 43 := by
      have := Box.new (W0.alloc OX) #[.string y.u, .string y.t, .slice ya y.es.length yc] 43
      rw [← hOY] at this
      simpa using this
    have x0 := hXb.cell 0 _ rfl
    have y0 := hYb.cell 0 _ rfl
    have x1 := hXb.cell 1 _ rfl
    have y1 := hYb.cell 1 _ rfl
    have x2 := hXb.cell 2 _ rfl
    have y2 := hYb.cell 2 _ rfl
    rw [hOX] at pa1 da0 da1 da2 x0 y0 x1 y1 x2 y2 hb2
    rw [hOY] at x0 y0 x1 y1 x2 y2 hb2
    have HB2 := Lib.hid hb2
    clear hb2 hXb hYb hOX hOY
    go_wp2
    go_ret
    exact ⟨rfl, HB2.out⟩
end Go.Proofs.Ytffkakpbelknaaa

/- V9o -/
namespace Go.Proofs.Ytffkakpbelknaaa
open Go.ChangeShapes Go.WideShapes Go.ChangeAt Go.RowKit
set_option linter.unusedVariables false
set_option linter.unusedSimpArgs false

theorem wpIf_skipQ {P : Program} {ops : Array Oper} {C : World → Prop} {R : Act → Prop} {o : Oper} {l : List Oper} {a : Act} (hw : Region.wanted o (yielded ops a.tmps) = false) (h : wpIf P ops C R l (a.put o.dst undef)) : wpIf P ops C R (o :: l) a := ⟨undef, .inr ⟨hw, rfl⟩, h⟩
theorem wpAnyT_skipQ {P : Program} {md : Region.Mode} {Q : Exit → Act → World → Prop} {A B : World → Prop} {t : Nat} {l : List Oper} {L : Array Bool} {a : Act} {w : World} (i g : Nat) {o : Oper} (hr : Region.ready md l.toArray L = [i]) (ho : l[i]? = some o) (hw : Region.wanted o (yielded l.toArray a.tmps) = false)
    (hS : Sx A B t (L.setIfInBounds i true) w) (h : wpAnyT P md l.toArray Q A B t g (L.setIfInBounds i true) (a.put o.dst undef) w) : wpAnyT P md l.toArray Q A B t (g + 1) L a w := by
  refine ⟨fun h0 => (by rw [hr] at h0; cases h0), fun j hj => ?_⟩
  rw [hr] at hj
  have : j = i := by simpa using hj
  subst this
  unfold wpOp
  have ho' : l.toArray[j]? = some o := by simpa using ho
  simp only [ho']
  rw [if_neg (by rw [hw]; simp)]
  exact ⟨hS, h⟩

/-- What the loops of FnOperated find. -/
def OprW (v1 : World) (ss rs : List Sb) (o : OpD) (ra a2 xa : Option Addr) (rc c2 xc : Nat) (g2 : Nat) (W : World) : Prop :=
  Box W v1.heap.size #[.slice ra ss.length rc] 26 ∧ Box W (v1.heap.size + 1) #[.int .i64 o.k, .string o.u, .string o.i, .int .i64 o.d, .string o.fu, .string o.ft, .slice xa o.its.length xc] 31 ∧ Box W g2 #[.slice a2 rs.length c2] 26 ∧ SbAt W W.heap.size (.slice a2 rs.length c2) rs ∧ Below v1.heap.size v1 W
theorem OprW.below {v1 : World} {ss rs : List Sb} {o : OpD} {ra a2 xa : Option Addr} {rc c2 xc : Nat} {g2 : Nat} {W W' : World} (h : OprW v1 ss rs o ra a2 xa rc c2 xc g2 W) (hb : Below W.heap.size W W') : OprW v1 ss rs o ra a2 xa rc c2 xc g2 W' :=
  ⟨h.1.keep hb h.1.lt, h.2.1.keep hb h.2.1.lt, h.2.2.1.keep hb h.2.2.1.lt, (h.2.2.2.1.below hb).mono hb.size, h.2.2.2.2.trans (hb.mono h.2.2.2.2.size)⟩

set_option maxRecDepth 100000 in
set_option maxHeartbeats 3000000 in
theorem walk_FnOperated (aa : Option Addr) (len cap : Nat) (z : List Int) (w : World) (h : IsRow .u8 w aa len cap z) :
    Calls Try.prog 3 #[.slice aa len cap] w fun e w' => e = .returned (.bool true) ∧ Below w.heap.size w w' := by
  have hcd := Cd.of_row h
  clear h
  go_enter Try.func3, Try.ntmps3
  go_wp2_with fail
  refine (big_any _ _ _ hcd).mono ?_
  rintro e w1 ⟨⟨b, rfl⟩, rfl⟩
  cases b with
  | true =>
    go_wp2
    go_ret
    exact ⟨rfl, Below.refl _ _⟩
  | false =>
    go_wp2_with fail
    refine (drawDone_any _ _ _ hcd).mono ?_
    rintro e v1 ⟨V, ss, o, x, rfl, hsz, hso, hS, hI, hd1⟩
    have HCD : Hid (∀ W, Below v1.heap.size v1 W → Cd W (.slice aa len cap) (z.take len)) := Lib.hid (fun W hW => hcd.below (hd1.trans (hW.mono hd1.size)))
    clear hcd
    obtain ⟨ra, rc, hV, hrl, hrm, _⟩ := hS.raw
    subst hV
    unfold maxLen at hrm
    obtain ⟨xa, xc, rfl⟩ := hI.1.slice
    have HSs : Hid (∀ W, Below v1.heap.size v1 W → SbAt W W.heap.size (.slice ra ss.length rc) ss) := Lib.hid (fun W hW => (hS.below hW).mono hW.size)
    have HIs : Hid (∀ W, Below v1.heap.size v1 W → ItAt W W.heap.size (.slice xa o.its.length xc) o.its) := Lib.hid (fun W hW => (hI.below hW).mono hW.size)
    have HSz := Lib.hid hsz
    have HOz : Hid (OpSz o) := Lib.hid (smO_sz hso).1
    have HBw0 := Lib.hid hd1
    clear hS hI hsz hso hd1
    have hxr0 := Box.new v1 #[.slice ra ss.length rc] 26
    have hxr := hxr0.alloc (.cells #[.int .i64 o.k, .string o.u, .string o.i, .int .i64 o.d, .string o.fu, .string o.ft, (.slice xa o.its.length xc)] 31)
    have hxo := Box.new (v1.alloc (.cells #[.slice ra ss.length rc] 26)) #[.int .i64 o.k, .string o.u, .string o.i, .int .i64 o.d, .string o.fu, .string o.ft, (.slice xa o.its.length xc)] 31
    have hBw : Below v1.heap.size v1 ((v1.alloc (.cells #[.slice ra ss.length rc] 26)).alloc (.cells #[.int .i64 o.k, .string o.u, .string o.i, .int .i64 o.d, .string o.fu, .string o.ft, (.slice xa o.its.length xc)] 31)) := ((Below.refl _ _).alloc (Nat.le_refl _) _).alloc (by simp) _
    rw [World.size_alloc] at hxo
    clear hxr0
    cases hA : doV ss o with
    | none =>
      have HA := Lib.hid hA
      clear hA
      have xxr0 := hxr.cell 0 _ rfl
      have xxo0 := hxo.cell 0 _ rfl
      have xxo1 := hxo.cell 1 _ rfl
      have xxo2 := hxo.cell 2 _ rfl
      have xxo3 := hxo.cell 3 _ rfl
      have xxo4 := hxo.cell 4 _ rfl
      have xxo5 := hxo.cell 5 _ rfl
      have xxo6 := hxo.cell 6 _ rfl
      go_wp2_with fail
      clear xxr0 xxo0 xxo1 xxo2 xxo3 xxo4 xxo5 xxo6
      refine (implDone_no _ _ ss o _ (HSs.out _ hBw) (HIs.out _ hBw) HOz.out HA.out).mono ?_
      rintro e w2 ⟨V2, q2, rfl, hq2, hD2, hb2⟩
      obtain ⟨a2, c2, hV2⟩ := hD2.1.slice
      have hL2 : q2.length = 0 := by have h5 := congrArg List.length hq2; rw [List.length_map] at h5; exact h5
      rw [hL2] at hV2
      subst hV2
      have HS2 : Hid (SbAt w2 w2.heap.size (.slice a2 0 c2) ([] : List Sb)) := Lib.hid (hD2.at hq2 (by simp))
      replace hxr := hxr.keep hb2 hxr.lt
      replace hxo := hxo.keep hb2 hxo.lt
      replace hBw := hBw.trans (hb2.mono hBw.size)
      clear hb2 hq2 hD2 hL2
      have hxa := Box.new w2 #[.slice a2 0 c2] 26
      have hba : Below w2.heap.size w2 (w2.alloc (.cells #[.slice a2 0 c2] 26)) := (Below.refl _ _).alloc (Nat.le_refl _) _
      replace hxr := hxr.keep hba hxr.lt
      replace hxo := hxo.keep hba hxo.lt
      replace HS2 := Lib.hid ((HS2.out.below hba).mono hba.size)
      replace hBw := hBw.trans (hba.mono hBw.size)
      clear hba
      have xxr0 := hxr.cell 0 _ rfl
      have xxo0 := hxo.cell 0 _ rfl
      have xxo1 := hxo.cell 1 _ rfl
      have xxo2 := hxo.cell 2 _ rfl
      have xxo3 := hxo.cell 3 _ rfl
      have xxo4 := hxo.cell 4 _ rfl
      have xxo5 := hxo.cell 5 _ rfl
      have xxo6 := hxo.cell 6 _ rfl
      go_wp2_with fail
      clear xxr0 xxo0 xxo1 xxo2 xxo3 xxo4 xxo5 xxo6
      generalize w2.alloc (.cells #[.slice a2 0 c2] 26) = W2 at hxr hxo hxa HS2 hBw ⊢
      generalize w2.heap.size = g2 at hxa ⊢
      refine (specDone_no _ _ ss o _ (HSs.out _ hBw) (HIs.out _ hBw) HOz.out HA.out).mono ?_
      rintro e w3 ⟨V3, q3, rfl, hq3, hD3, hb3⟩
      obtain ⟨a3, c3, hV3⟩ := hD3.1.slice
      have hL3 : q3.length = 0 := by have h5 := congrArg List.length hq3; rw [List.length_map] at h5; exact h5
      rw [hL3] at hV3
      subst hV3
      have HS3 : Hid (SbAt w3 w3.heap.size (.slice a3 0 c3) ([] : List Sb)) := Lib.hid (hD3.at hq3 (by simp))
      replace hxr := hxr.keep hb3 hxr.lt
      replace hxo := hxo.keep hb3 hxo.lt
      replace hxa := hxa.keep hb3 hxa.lt
      replace HS2 := Lib.hid ((HS2.out.below hb3).mono hb3.size)
      replace hBw := hBw.trans (hb3.mono hBw.size)
      clear hb3 hq3 hD3 hL3
      have hxw := Box.new w3 #[.slice a3 0 c3] 26
      have hba : Below w3.heap.size w3 (w3.alloc (.cells #[.slice a3 0 c3] 26)) := (Below.refl _ _).alloc (Nat.le_refl _) _
      replace hxr := hxr.keep hba hxr.lt
      replace hxo := hxo.keep hba hxo.lt
      replace hxa := hxa.keep hba hxa.lt
      replace HS2 := Lib.hid ((HS2.out.below hba).mono hba.size)
      replace HS3 := Lib.hid ((HS3.out.below hba).mono hba.size)
      replace hBw := hBw.trans (hba.mono hBw.size)
      clear hba
      go_wp2_with fail
      generalize w3.alloc (.cells #[.slice a3 0 c3] 26) = W3 at hxr hxo hxa hxw HS2 HS3 hBw ⊢
      generalize w3.heap.size = g3 at hxw ⊢
      refine (drawReaderOk_any _ _ _ (HCD.out _ hBw)).mono ?_
      rintro e w4 ⟨V4, ss4, rfl, hz4, hO4, hb4⟩
      obtain ⟨a4, c4, rfl⟩ := hO4.slice24
      have HS4 : Hid (SbAt w4 w4.heap.size (.slice a4 ss4.length c4) ss4) := Lib.hid (hO4.at hz4)
      replace hxr := hxr.keep hb4 hxr.lt
      replace hxo := hxo.keep hb4 hxo.lt
      replace hxa := hxa.keep hb4 hxa.lt
      replace hxw := hxw.keep hb4 hxw.lt
      replace HS2 := Lib.hid ((HS2.out.below hb4).mono hb4.size)
      replace HS3 := Lib.hid ((HS3.out.below hb4).mono hb4.size)
      replace hBw := hBw.trans (hb4.mono hBw.size)
      clear hb4 hO4 hz4
      have hx9 := Box.new w4 #[.slice a4 ss4.length c4] 26
      have hba : Below w4.heap.size w4 (w4.alloc (.cells #[.slice a4 ss4.length c4] 26)) := (Below.refl _ _).alloc (Nat.le_refl _) _
      replace hxr := hxr.keep hba hxr.lt
      replace hxo := hxo.keep hba hxo.lt
      replace hxa := hxa.keep hba hxa.lt
      replace hxw := hxw.keep hba hxw.lt
      replace HS2 := Lib.hid ((HS2.out.below hba).mono hba.size)
      replace HS3 := Lib.hid ((HS3.out.below hba).mono hba.size)
      replace HS4 := Lib.hid ((HS4.out.below hba).mono hba.size)
      replace hBw := hBw.trans (hba.mono hBw.size)
      clear hba
      go_wp2_with fail
      generalize w4.alloc (.cells #[.slice a4 ss4.length c4] 26) = W4 at hxr hxo hxa hxw hx9 HS2 HS3 HS4 hBw ⊢
      generalize w4.heap.size = g4 at hx9 ⊢
      refine (drawOpOk_any _ _ _ (HCD.out _ hBw)).mono ?_
      rintro e w5 ⟨p, V5, rfl, hs5, hO5, hb5⟩
      obtain ⟨a5, c5, rfl⟩ := hO5.slice
      have HI5 : Hid (ItAt w5 w5.heap.size (.slice a5 p.its.length c5) p.its) := Lib.hid (ItAt.of_own hO5 (smO_sz hs5).2)
      have HO5 := Lib.hid (smO_sz hs5).1
      replace hxr := hxr.keep hb5 hxr.lt
      replace hxo := hxo.keep hb5 hxo.lt
      replace hxa := hxa.keep hb5 hxa.lt
      replace hxw := hxw.keep hb5 hxw.lt
      replace hx9 := hx9.keep hb5 hx9.lt
      replace HS2 := Lib.hid ((HS2.out.below hb5).mono hb5.size)
      replace HS3 := Lib.hid ((HS3.out.below hb5).mono hb5.size)
      replace HS4 := Lib.hid ((HS4.out.below hb5).mono hb5.size)
      replace hBw := hBw.trans (hb5.mono hBw.size)
      clear hb5 hO5 hs5
      have hx10 := Box.new w5 #[.int .i64 p.k, .string p.u, .string p.i, .int .i64 p.d, .string p.fu, .string p.ft, .slice a5 p.its.length c5] 31
      have hba : Below w5.heap.size w5 (w5.alloc (.cells #[.int .i64 p.k, .string p.u, .string p.i, .int .i64 p.d, .string p.fu, .string p.ft, .slice a5 p.its.length c5] 31)) := (Below.refl _ _).alloc (Nat.le_refl _) _
      replace hxr := hxr.keep hba hxr.lt
      replace hxo := hxo.keep hba hxo.lt
      replace hxa := hxa.keep hba hxa.lt
      replace hxw := hxw.keep hba hxw.lt
      replace hx9 := hx9.keep hba hx9.lt
      replace HS2 := Lib.hid ((HS2.out.below hba).mono hba.size)
      replace HS3 := Lib.hid ((HS3.out.below hba).mono hba.size)
      replace HS4 := Lib.hid ((HS4.out.below hba).mono hba.size)
      replace HI5 := Lib.hid ((HI5.out.below hba).mono hba.size)
      replace hBw := hBw.trans (hba.mono hBw.size)
      clear hba
      have HR4 : Hid (∀ W, SbAt W W.heap.size (.slice a4 ss4.length c4) ss4 → (Calls Try.prog 21 #[.agg #[.slice a4 ss4.length c4]] W fun e w' => e = .returned (.bool (rdB ss4)) ∧ Below W.heap.size W w') ∧ (Calls Try.prog 22 #[.agg #[.slice a4 ss4.length c4]] W fun e w' => e = .returned (.bool (rdB ss4)) ∧ Below W.heap.size W w')) := Lib.hid (fun W h1 => ⟨implReaderOk_any _ ss4 W h1, specReaderOk_any _ ss4 W h1⟩)
      have HP5 : Hid (∀ W, ItAt W W.heap.size (.slice a5 p.its.length c5) p.its → (Calls Try.prog 23 #[opV p (.slice a5 p.its.length c5)] W fun e w' => e = .returned (.bool (opB p)) ∧ Below W.heap.size W w') ∧ (Calls Try.prog 24 #[opV p (.slice a5 p.its.length c5)] W fun e w' => e = .returned (.bool (opB p)) ∧ Below W.heap.size W w')) := Lib.hid (fun W h1 => ⟨implOpOk_any p _ W h1 HO5.out, specOpOk_any p _ W h1 HO5.out⟩)
      generalize rdB ss4 = RR at HR4
      generalize opB p = PP at HP5
      clear HO5
      go_wp2
      generalize w5.alloc (.cells #[.int .i64 p.k, .string p.u, .string p.i, .int .i64 p.d, .string p.fu, .string p.ft, .slice a5 p.its.length c5] 31) = W5 at hxr hxo hxa hxw hx9 hx10 HS2 HS3 HS4 HI5 hBw ⊢
      generalize w5.heap.size = g5 at hx10 ⊢
      refine wp_region_T (fun w' => Box w' v1.heap.size #[.slice ra ss.length rc] 26 ∧ Box w' (v1.heap.size + 1) #[.int .i64 o.k, .string o.u, .string o.i, .int .i64 o.d, .string o.fu, .string o.ft, .slice xa o.its.length xc] 31 ∧ Box w' g2 #[.slice a2 0 c2] 26 ∧ Box w' g3 #[.slice a3 0 c3] 26 ∧ Box w' g4 #[.slice a4 ss4.length c4] 26 ∧ Box w' g5 #[.int .i64 p.k, .string p.u, .string p.i, .int .i64 p.d, .string p.fu, .string p.ft, .slice a5 p.its.length c5] 31) (fun _ => True) 26 (by kernel_rfl) 27 rfl ?_
      have hbd : Below W5.heap.size W5 W5.drew := (Below.refl _ _).drew
      replace hxr := hxr.keep hbd hxr.lt
      replace hxo := hxo.keep hbd hxo.lt
      replace hxa := hxa.keep hbd hxa.lt
      replace hxw := hxw.keep hbd hxw.lt
      replace hx9 := hx9.keep hbd hx9.lt
      replace hx10 := hx10.keep hbd hx10.lt
      replace HS2 := Lib.hid ((HS2.out.below hbd).mono hbd.size)
      replace HS3 := Lib.hid ((HS3.out.below hbd).mono hbd.size)
      replace HS4 := Lib.hid ((HS4.out.below hbd).mono hbd.size)
      replace HI5 := Lib.hid ((HI5.out.below hbd).mono hbd.size)
      replace hBw := hBw.trans (hbd.mono hBw.size)
      clear hbd
      generalize W5.drew = W5d at hxr hxo hxa hxw hx9 hx10 HS2 HS3 HS4 HI5 hBw ⊢
      refine wpAnyT_takesA (md := .any) 21 (by kernel_rfl) (by intro d v c a w h; cases d <;> exact h) [0, 1, 2, 3, 4, 5] _ _ _ (by decide) (by kernel_rfl) ⟨⟨hxr, hxo, hxa, hxw, hx9, hx10⟩, fun _ => trivial⟩ ?_
      simp only [pick, List.filterMap_cons, List.filterMap_nil, List.getElem?_cons_zero, List.getElem?_cons_succ]
      refine wpIf_step (.bool false) (by kernel_rfl) (fun w hw => by go_simp) ?_
      refine wpIf_step (.bool false) (by kernel_rfl) (fun w hw => by go_simp) ?_
      refine wpIf_step (.bool false) (by kernel_rfl) (fun w hw => by go_simp) ?_
      refine wpIf_step (.bool false) (by kernel_rfl) (fun w hw => by go_simp) ?_
      refine wpIf_step (.agg #[.slice a2 0 c2]) (by kernel_rfl) (fun w hw => by have e0 := hw.2.2.1.cell 0 _ rfl; go_simp) ?_
      refine wpIf_step (.agg #[.slice a3 0 c3]) (by kernel_rfl) (fun w hw => by have e0 := hw.2.2.2.1.cell 0 _ rfl; go_simp) ?_
      refine wpIf_nil (fun hS9 => ?_)
      clear hS9
      refine wpAnyT_one 6 20 (by kernel_rfl) rfl (by kernel_rfl) (fun K hK => ?_)
      go_simp
      refine (sameReader_any _ _ [] _ HS2.out HS3.out).mono ?_
      rintro e w6 ⟨rfl, hb6⟩
      replace hxr := hxr.keep hb6 hxr.lt
      replace hxo := hxo.keep hb6 hxo.lt
      replace hxa := hxa.keep hb6 hxa.lt
      replace hxw := hxw.keep hb6 hxw.lt
      replace hx9 := hx9.keep hb6 hx9.lt
      replace hx10 := hx10.keep hb6 hx10.lt
      replace HS2 := Lib.hid ((HS2.out.below hb6).mono hb6.size)
      replace HS3 := Lib.hid ((HS3.out.below hb6).mono hb6.size)
      replace HS4 := Lib.hid ((HS4.out.below hb6).mono hb6.size)
      replace HI5 := Lib.hid ((HI5.out.below hb6).mono hb6.size)
      replace hBw := hBw.trans (hb6.mono hBw.size)
      refine hK _ _ ⟨⟨hxr, hxo, hxa, hxw, hx9, hx10⟩, fun _ => trivial⟩ (fun hS9 => ?_)
      clear hK K hS9 hb6
      refine wpAnyT_takesA (md := .any) 15 (by kernel_rfl) (by intro d v c a w h; cases d <;> exact h) [7, 8, 9, 10, 12] _ _ _ (by decide) (by kernel_rfl) ⟨⟨hxr, hxo, hxa, hxw, hx9, hx10⟩, fun _ => trivial⟩ ?_
      simp only [pick, List.filterMap_cons, List.filterMap_nil, List.getElem?_cons_zero, List.getElem?_cons_succ]
      refine wpIf_step (.bool false) (by kernel_rfl) (fun w hw => by go_simp) ?_
      refine wpIf_step (.bool false) (by kernel_rfl) (fun w hw => by go_simp) ?_
      refine wpIf_step (.bool false) (by kernel_rfl) (fun w hw => by go_simp) ?_
      refine wpIf_step (.agg #[.slice a4 ss4.length c4]) (by kernel_rfl) (fun w hw => by have e0 := hw.2.2.2.2.1.cell 0 _ rfl; go_simp) ?_
      refine wpIf_step (.agg #[.slice a4 ss4.length c4]) (by kernel_rfl) (fun w hw => by have e0 := hw.2.2.2.2.1.cell 0 _ rfl; go_simp) ?_
      refine wpIf_nil (fun hS9 => ?_)
      clear hS9
      refine wpAnyT_one 11 14 (by kernel_rfl) rfl (by kernel_rfl) (fun K hK => ?_)
      go_simp
      refine ((HR4.out _ HS4.out).1).mono ?_
      rintro e w7 ⟨rfl, hb7⟩
      replace hxr := hxr.keep hb7 hxr.lt
      replace hxo := hxo.keep hb7 hxo.lt
      replace hxa := hxa.keep hb7 hxa.lt
      replace hxw := hxw.keep hb7 hxw.lt
      replace hx9 := hx9.keep hb7 hx9.lt
      replace hx10 := hx10.keep hb7 hx10.lt
      replace HS2 := Lib.hid ((HS2.out.below hb7).mono hb7.size)
      replace HS3 := Lib.hid ((HS3.out.below hb7).mono hb7.size)
      replace HS4 := Lib.hid ((HS4.out.below hb7).mono hb7.size)
      replace HI5 := Lib.hid ((HI5.out.below hb7).mono hb7.size)
      replace hBw := hBw.trans (hb7.mono hBw.size)
      refine hK _ _ ⟨⟨hxr, hxo, hxa, hxw, hx9, hx10⟩, fun _ => trivial⟩ (fun hS9 => ?_)
      clear hK K hS9 hb7
      refine wpAnyT_one 13 13 (by kernel_rfl) rfl (by kernel_rfl) (fun K hK => ?_)
      go_simp
      refine ((HR4.out _ HS4.out).2).mono ?_
      rintro e w8 ⟨rfl, hb8⟩
      replace hxr := hxr.keep hb8 hxr.lt
      replace hxo := hxo.keep hb8 hxo.lt
      replace hxa := hxa.keep hb8 hxa.lt
      replace hxw := hxw.keep hb8 hxw.lt
      replace hx9 := hx9.keep hb8 hx9.lt
      replace hx10 := hx10.keep hb8 hx10.lt
      replace HS2 := Lib.hid ((HS2.out.below hb8).mono hb8.size)
      replace HS3 := Lib.hid ((HS3.out.below hb8).mono hb8.size)
      replace HS4 := Lib.hid ((HS4.out.below hb8).mono hb8.size)
      replace HI5 := Lib.hid ((HI5.out.below hb8).mono hb8.size)
      replace hBw := hBw.trans (hb8.mono hBw.size)
      refine hK _ _ ⟨⟨hxr, hxo, hxa, hxw, hx9, hx10⟩, fun _ => trivial⟩ (fun hS9 => ?_)
      clear hK K hS9 hb8
      refine wpAnyT_takesA (md := .any) 8 (by kernel_rfl) (by intro d v c a w h; cases d <;> exact h) [14, 15, 16, 17, 19] _ _ _ (by decide) (by kernel_rfl) ⟨⟨hxr, hxo, hxa, hxw, hx9, hx10⟩, fun _ => trivial⟩ ?_
      simp only [pick, List.filterMap_cons, List.filterMap_nil, List.getElem?_cons_zero, List.getElem?_cons_succ]
      refine wpIf_step (.bool false) (by kernel_rfl) (fun w hw => by go_simp) ?_
      refine wpIf_step (.bool false) (by kernel_rfl) (fun w hw => by go_simp) ?_
      refine wpIf_step (.bool false) (by kernel_rfl) (fun w hw => by go_simp) ?_
      refine wpIf_step (opV p (.slice a5 p.its.length c5)) (by kernel_rfl) (fun w hw => by have e0 := hw.2.2.2.2.2.cell 0 _ rfl; have e1 := hw.2.2.2.2.2.cell 1 _ rfl; have e2 := hw.2.2.2.2.2.cell 2 _ rfl; have e3 := hw.2.2.2.2.2.cell 3 _ rfl; have e4 := hw.2.2.2.2.2.cell 4 _ rfl; have e5 := hw.2.2.2.2.2.cell 5 _ rfl; have e6 := hw.2.2.2.2.2.cell 6 _ rfl; go_simp) ?_
      refine wpIf_step (opV p (.slice a5 p.its.length c5)) (by kernel_rfl) (fun w hw => by have e0 := hw.2.2.2.2.2.cell 0 _ rfl; have e1 := hw.2.2.2.2.2.cell 1 _ rfl; have e2 := hw.2.2.2.2.2.cell 2 _ rfl; have e3 := hw.2.2.2.2.2.cell 3 _ rfl; have e4 := hw.2.2.2.2.2.cell 4 _ rfl; have e5 := hw.2.2.2.2.2.cell 5 _ rfl; have e6 := hw.2.2.2.2.2.cell 6 _ rfl; go_simp) ?_
      refine wpIf_nil (fun hS9 => ?_)
      clear hS9
      refine wpAnyT_one 18 7 (by kernel_rfl) rfl (by kernel_rfl) (fun K hK => ?_)
      go_simp
      refine ((HP5.out _ HI5.out).1).mono ?_
      rintro e w9 ⟨rfl, hb9⟩
      replace hxr := hxr.keep hb9 hxr.lt
      replace hxo := hxo.keep hb9 hxo.lt
      replace hxa := hxa.keep hb9 hxa.lt
      replace hxw := hxw.keep hb9 hxw.lt
      replace hx9 := hx9.keep hb9 hx9.lt
      replace hx10 := hx10.keep hb9 hx10.lt
      replace HS2 := Lib.hid ((HS2.out.below hb9).mono hb9.size)
      replace HS3 := Lib.hid ((HS3.out.below hb9).mono hb9.size)
      replace HS4 := Lib.hid ((HS4.out.below hb9).mono hb9.size)
      replace HI5 := Lib.hid ((HI5.out.below hb9).mono hb9.size)
      replace hBw := hBw.trans (hb9.mono hBw.size)
      refine hK _ _ ⟨⟨hxr, hxo, hxa, hxw, hx9, hx10⟩, fun _ => trivial⟩ (fun hS9 => ?_)
      clear hK K hS9 hb9
      refine wpAnyT_one 20 6 (by kernel_rfl) rfl (by kernel_rfl) (fun K hK => ?_)
      go_simp
      refine ((HP5.out _ HI5.out).2).mono ?_
      rintro e w10 ⟨rfl, hb10⟩
      replace hxr := hxr.keep hb10 hxr.lt
      replace hxo := hxo.keep hb10 hxo.lt
      replace hxa := hxa.keep hb10 hxa.lt
      replace hxw := hxw.keep hb10 hxw.lt
      replace hx9 := hx9.keep hb10 hx9.lt
      replace hx10 := hx10.keep hb10 hx10.lt
      replace HS2 := Lib.hid ((HS2.out.below hb10).mono hb10.size)
      replace HS3 := Lib.hid ((HS3.out.below hb10).mono hb10.size)
      replace HS4 := Lib.hid ((HS4.out.below hb10).mono hb10.size)
      replace HI5 := Lib.hid ((HI5.out.below hb10).mono hb10.size)
      replace hBw := hBw.trans (hb10.mono hBw.size)
      refine hK _ _ ⟨⟨hxr, hxo, hxa, hxw, hx9, hx10⟩, fun _ => trivial⟩ (fun hS9 => ?_)
      clear hK K hS9 hb10
      refine wpAnyT_takesA (md := .any) 1 (by kernel_rfl) (by intro d v c a w h; cases d <;> exact h) [21, 22, 23, 24, 25] _ _ _ (by decide) (by kernel_rfl) ⟨⟨hxr, hxo, hxa, hxw, hx9, hx10⟩, fun _ => trivial⟩ ?_
      simp only [pick, List.filterMap_cons, List.filterMap_nil, List.getElem?_cons_zero, List.getElem?_cons_succ]
      refine wpIf_step (.bool false) (by kernel_rfl) (fun w hw => by go_simp) ?_
      refine wpIf_step (.bool false) (by kernel_rfl) (fun w hw => by go_simp) ?_
      refine wpIf_step (.bool false) (by kernel_rfl) (fun w hw => by go_simp) ?_
      refine wpIf_step (.bool false) (by kernel_rfl) (fun w hw => by go_simp) ?_
      refine wpIf_step (.bool true) (by kernel_rfl) (fun w hw => by go_simp) ?_
      refine wpIf_nil (fun hS9 => ?_)
      clear hS9
      refine wpAnyT_one 26 0 (by kernel_rfl) rfl (by kernel_rfl) (fun K hK => ?_)
      go_simp
      refine hK _ _ ⟨⟨hxr, hxo, hxa, hxw, hx9, hx10⟩, fun _ => trivial⟩ (fun hS9 => ?_)
      clear hK K hS9
      refine wpAnyT_over (by kernel_rfl) ?_
      go_wp2
      refine wp_region_T (fun w' => Box w' v1.heap.size #[.slice ra ss.length rc] 26 ∧ Box w' (v1.heap.size + 1) #[.int .i64 o.k, .string o.u, .string o.i, .int .i64 o.d, .string o.fu, .string o.ft, .slice xa o.its.length xc] 31 ∧ Box w' g2 #[.slice a2 0 c2] 26 ∧ Box w' g3 #[.slice a3 0 c3] 26 ∧ Box w' g4 #[.slice a4 ss4.length c4] 26 ∧ Box w' g5 #[.int .i64 p.k, .string p.u, .string p.i, .int .i64 p.d, .string p.fu, .string p.ft, .slice a5 p.its.length c5] 31) (fun _ => True) 22 (by kernel_rfl) 23 rfl ?_
      have hbd : Below w10.heap.size w10 w10.drew := (Below.refl _ _).drew
      replace hxr := hxr.keep hbd hxr.lt
      replace hxo := hxo.keep hbd hxo.lt
      replace hxa := hxa.keep hbd hxa.lt
      replace hxw := hxw.keep hbd hxw.lt
      replace hx9 := hx9.keep hbd hx9.lt
      replace hx10 := hx10.keep hbd hx10.lt
      replace HS2 := Lib.hid ((HS2.out.below hbd).mono hbd.size)
      replace HS3 := Lib.hid ((HS3.out.below hbd).mono hbd.size)
      replace HS4 := Lib.hid ((HS4.out.below hbd).mono hbd.size)
      replace HI5 := Lib.hid ((HI5.out.below hbd).mono hbd.size)
      replace hBw := hBw.trans (hbd.mono hBw.size)
      clear hbd
      generalize w10.drew = w10d at hxr hxo hxa hxw hx9 hx10 HS2 HS3 HS4 HI5 hBw ⊢
      refine wpAnyT_takesA (md := .any) 17 (by kernel_rfl) (by intro d v c a w h; cases d <;> exact h) [0, 1, 2, 3, 4, 5] _ _ _ (by decide) (by kernel_rfl) ⟨⟨hxr, hxo, hxa, hxw, hx9, hx10⟩, fun _ => trivial⟩ ?_
      simp only [pick, List.filterMap_cons, List.filterMap_nil, List.getElem?_cons_zero, List.getElem?_cons_succ]
      refine wpIf_step (.bool false) (by kernel_rfl) (fun w hw => by go_simp) ?_
      refine wpIf_step (.bool false) (by kernel_rfl) (fun w hw => by go_simp) ?_
      refine wpIf_step (.bool true) (by kernel_rfl) (fun w hw => by go_simp) ?_
      refine wpIf_step (.bool true) (by kernel_rfl) (fun w hw => by go_simp) ?_
      refine wpIf_step (.agg #[.slice a2 0 c2]) (by kernel_rfl) (fun w hw => by have e0 := hw.2.2.1.cell 0 _ rfl; go_simp) ?_
      refine wpIf_step (.agg #[.slice a3 0 c3]) (by kernel_rfl) (fun w hw => by have e0 := hw.2.2.2.1.cell 0 _ rfl; go_simp) ?_
      refine wpIf_nil (fun hS9 => ?_)
      clear hS9
      refine wpAnyT_one 6 16 (by kernel_rfl) rfl (by kernel_rfl) (fun K hK => ?_)
      go_simp
      refine (sameReader_any _ _ [] _ HS2.out HS3.out).mono ?_
      rintro e w11 ⟨rfl, hb11⟩
      replace hxr := hxr.keep hb11 hxr.lt
      replace hxo := hxo.keep hb11 hxo.lt
      replace hxa := hxa.keep hb11 hxa.lt
      replace hxw := hxw.keep hb11 hxw.lt
      replace hx9 := hx9.keep hb11 hx9.lt
      replace hx10 := hx10.keep hb11 hx10.lt
      replace HS2 := Lib.hid ((HS2.out.below hb11).mono hb11.size)
      replace HS3 := Lib.hid ((HS3.out.below hb11).mono hb11.size)
      replace HS4 := Lib.hid ((HS4.out.below hb11).mono hb11.size)
      replace HI5 := Lib.hid ((HI5.out.below hb11).mono hb11.size)
      replace hBw := hBw.trans (hb11.mono hBw.size)
      refine hK _ _ ⟨⟨hxr, hxo, hxa, hxw, hx9, hx10⟩, fun _ => trivial⟩ (fun hS9 => ?_)
      clear hK K hS9 hb11
      refine wpAnyT_takesA (md := .any) 12 (by kernel_rfl) (by intro d v c a w h; cases d <;> exact h) [7, 8, 9, 11] _ _ _ (by decide) (by kernel_rfl) ⟨⟨hxr, hxo, hxa, hxw, hx9, hx10⟩, fun _ => trivial⟩ ?_
      simp only [pick, List.filterMap_cons, List.filterMap_nil, List.getElem?_cons_zero, List.getElem?_cons_succ]
      refine wpIf_step (.bool true) (by kernel_rfl) (fun w hw => by go_simp) ?_
      refine wpIf_step (.bool true) (by kernel_rfl) (fun w hw => by go_simp) ?_
      refine wpIf_step (.agg #[.slice a4 ss4.length c4]) (by kernel_rfl) (fun w hw => by have e0 := hw.2.2.2.2.1.cell 0 _ rfl; go_simp) ?_
      refine wpIf_step (.agg #[.slice a4 ss4.length c4]) (by kernel_rfl) (fun w hw => by have e0 := hw.2.2.2.2.1.cell 0 _ rfl; go_simp) ?_
      refine wpIf_nil (fun hS9 => ?_)
      clear hS9
      refine wpAnyT_one 10 11 (by kernel_rfl) rfl (by kernel_rfl) (fun K hK => ?_)
      go_simp
      refine ((HR4.out _ HS4.out).1).mono ?_
      rintro e w12 ⟨rfl, hb12⟩
      replace hxr := hxr.keep hb12 hxr.lt
      replace hxo := hxo.keep hb12 hxo.lt
      replace hxa := hxa.keep hb12 hxa.lt
      replace hxw := hxw.keep hb12 hxw.lt
      replace hx9 := hx9.keep hb12 hx9.lt
      replace hx10 := hx10.keep hb12 hx10.lt
      replace HS2 := Lib.hid ((HS2.out.below hb12).mono hb12.size)
      replace HS3 := Lib.hid ((HS3.out.below hb12).mono hb12.size)
      replace HS4 := Lib.hid ((HS4.out.below hb12).mono hb12.size)
      replace HI5 := Lib.hid ((HI5.out.below hb12).mono hb12.size)
      replace hBw := hBw.trans (hb12.mono hBw.size)
      refine hK _ _ ⟨⟨hxr, hxo, hxa, hxw, hx9, hx10⟩, fun _ => trivial⟩ (fun hS9 => ?_)
      clear hK K hS9 hb12
      refine wpAnyT_one 12 10 (by kernel_rfl) rfl (by kernel_rfl) (fun K hK => ?_)
      go_simp
      refine ((HR4.out _ HS4.out).2).mono ?_
      rintro e w13 ⟨rfl, hb13⟩
      replace hxr := hxr.keep hb13 hxr.lt
      replace hxo := hxo.keep hb13 hxo.lt
      replace hxa := hxa.keep hb13 hxa.lt
      replace hxw := hxw.keep hb13 hxw.lt
      replace hx9 := hx9.keep hb13 hx9.lt
      replace hx10 := hx10.keep hb13 hx10.lt
      replace HS2 := Lib.hid ((HS2.out.below hb13).mono hb13.size)
      replace HS3 := Lib.hid ((HS3.out.below hb13).mono hb13.size)
      replace HS4 := Lib.hid ((HS4.out.below hb13).mono hb13.size)
      replace HI5 := Lib.hid ((HI5.out.below hb13).mono hb13.size)
      replace hBw := hBw.trans (hb13.mono hBw.size)
      refine hK _ _ ⟨⟨hxr, hxo, hxa, hxw, hx9, hx10⟩, fun _ => trivial⟩ (fun hS9 => ?_)
      clear hK K hS9 hb13
      refine wpAnyT_takesA (md := .any) 5 (by kernel_rfl) (by intro d v c a w h; cases d <;> exact h) [13, 14, 15, 16, 18] _ _ _ (by decide) (by kernel_rfl) ⟨⟨hxr, hxo, hxa, hxw, hx9, hx10⟩, fun _ => trivial⟩ ?_
      simp only [pick, List.filterMap_cons, List.filterMap_nil, List.getElem?_cons_zero, List.getElem?_cons_succ]
      refine wpIf_step (.bool true) (by kernel_rfl) (fun w hw => by go_simp) ?_
      refine wpIf_step (.bool true) (by kernel_rfl) (fun w hw => by go_simp) ?_
      refine wpIf_step (.bool true) (by kernel_rfl) (fun w hw => by go_simp) ?_
      refine wpIf_step (opV p (.slice a5 p.its.length c5)) (by kernel_rfl) (fun w hw => by have e0 := hw.2.2.2.2.2.cell 0 _ rfl; have e1 := hw.2.2.2.2.2.cell 1 _ rfl; have e2 := hw.2.2.2.2.2.cell 2 _ rfl; have e3 := hw.2.2.2.2.2.cell 3 _ rfl; have e4 := hw.2.2.2.2.2.cell 4 _ rfl; have e5 := hw.2.2.2.2.2.cell 5 _ rfl; have e6 := hw.2.2.2.2.2.cell 6 _ rfl; go_simp) ?_
      refine wpIf_step (opV p (.slice a5 p.its.length c5)) (by kernel_rfl) (fun w hw => by have e0 := hw.2.2.2.2.2.cell 0 _ rfl; have e1 := hw.2.2.2.2.2.cell 1 _ rfl; have e2 := hw.2.2.2.2.2.cell 2 _ rfl; have e3 := hw.2.2.2.2.2.cell 3 _ rfl; have e4 := hw.2.2.2.2.2.cell 4 _ rfl; have e5 := hw.2.2.2.2.2.cell 5 _ rfl; have e6 := hw.2.2.2.2.2.cell 6 _ rfl; go_simp) ?_
      refine wpIf_nil (fun hS9 => ?_)
      clear hS9
      refine wpAnyT_one 17 4 (by kernel_rfl) rfl (by kernel_rfl) (fun K hK => ?_)
      go_simp
      refine ((HP5.out _ HI5.out).1).mono ?_
      rintro e w14 ⟨rfl, hb14⟩
      replace hxr := hxr.keep hb14 hxr.lt
      replace hxo := hxo.keep hb14 hxo.lt
      replace hxa := hxa.keep hb14 hxa.lt
      replace hxw := hxw.keep hb14 hxw.lt
      replace hx9 := hx9.keep hb14 hx9.lt
      replace hx10 := hx10.keep hb14 hx10.lt
      replace HS2 := Lib.hid ((HS2.out.below hb14).mono hb14.size)
      replace HS3 := Lib.hid ((HS3.out.below hb14).mono hb14.size)
      replace HS4 := Lib.hid ((HS4.out.below hb14).mono hb14.size)
      replace HI5 := Lib.hid ((HI5.out.below hb14).mono hb14.size)
      replace hBw := hBw.trans (hb14.mono hBw.size)
      refine hK _ _ ⟨⟨hxr, hxo, hxa, hxw, hx9, hx10⟩, fun _ => trivial⟩ (fun hS9 => ?_)
      clear hK K hS9 hb14
      refine wpAnyT_one 19 3 (by kernel_rfl) rfl (by kernel_rfl) (fun K hK => ?_)
      go_simp
      refine ((HP5.out _ HI5.out).2).mono ?_
      rintro e w15 ⟨rfl, hb15⟩
      replace hxr := hxr.keep hb15 hxr.lt
      replace hxo := hxo.keep hb15 hxo.lt
      replace hxa := hxa.keep hb15 hxa.lt
      replace hxw := hxw.keep hb15 hxw.lt
      replace hx9 := hx9.keep hb15 hx9.lt
      replace hx10 := hx10.keep hb15 hx10.lt
      replace HS2 := Lib.hid ((HS2.out.below hb15).mono hb15.size)
      replace HS3 := Lib.hid ((HS3.out.below hb15).mono hb15.size)
      replace HS4 := Lib.hid ((HS4.out.below hb15).mono hb15.size)
      replace HI5 := Lib.hid ((HI5.out.below hb15).mono hb15.size)
      replace hBw := hBw.trans (hb15.mono hBw.size)
      refine hK _ _ ⟨⟨hxr, hxo, hxa, hxw, hx9, hx10⟩, fun _ => trivial⟩ (fun hS9 => ?_)
      clear hK K hS9 hb15
      refine wpAnyT_takesA (md := .any) 1 (by kernel_rfl) (by intro d v c a w h; cases d <;> exact h) [20, 21] _ _ _ (by decide) (by kernel_rfl) ⟨⟨hxr, hxo, hxa, hxw, hx9, hx10⟩, fun _ => trivial⟩ ?_
      simp only [pick, List.filterMap_cons, List.filterMap_nil, List.getElem?_cons_zero, List.getElem?_cons_succ]
      refine wpIf_step (.bool true) (by kernel_rfl) (fun w hw => by go_simp) ?_
      refine wpIf_step (.bool true) (by kernel_rfl) (fun w hw => by go_simp) ?_
      refine wpIf_nil (fun hS9 => ?_)
      clear hS9
      refine wpAnyT_one 22 0 (by kernel_rfl) rfl (by kernel_rfl) (fun K hK => ?_)
      go_simp
      refine hK _ _ ⟨⟨hxr, hxo, hxa, hxw, hx9, hx10⟩, fun _ => trivial⟩ (fun hS9 => ?_)
      clear hK K hS9
      refine wpAnyT_over (by kernel_rfl) ?_
      go_wp2
      go_ret
      exact ⟨rfl, HBw0.out.trans (hBw.mono HBw0.out.size)⟩
    | some rs =>
      have HRD := Lib.hid (doV_rd hA)
      have HZR := Lib.hid (rd_sz HRD.out)
      have HKP := Lib.hid (fun hk s hs hu => op_keep hA hk (s := s) hs hu)
      have HA := Lib.hid hA
      clear hA
      have xxr0 := hxr.cell 0 _ rfl
      have xxo0 := hxo.cell 0 _ rfl
      have xxo1 := hxo.cell 1 _ rfl
      have xxo2 := hxo.cell 2 _ rfl
      have xxo3 := hxo.cell 3 _ rfl
      have xxo4 := hxo.cell 4 _ rfl
      have xxo5 := hxo.cell 5 _ rfl
      have xxo6 := hxo.cell 6 _ rfl
      go_wp2_with fail
      clear xxr0 xxo0 xxo1 xxo2 xxo3 xxo4 xxo5 xxo6
      refine (implDone_some _ _ ss rs o _ (HSs.out _ hBw) (HIs.out _ hBw) HOz.out HA.out).mono ?_
      rintro e w2 ⟨V2, q2, rfl, hq2, hD2, hb2⟩
      obtain ⟨a2, c2, hV2⟩ := hD2.1.slice
      have hL2 : q2.length = rs.length := by have h5 := congrArg List.length hq2; rw [List.length_map] at h5; exact h5
      rw [hL2] at hV2
      subst hV2
      have HS2 : Hid (SbAt w2 w2.heap.size (.slice a2 rs.length c2) rs) := Lib.hid (hD2.at hq2 HZR.out)
      replace hxr := hxr.keep hb2 hxr.lt
      replace hxo := hxo.keep hb2 hxo.lt
      replace hBw := hBw.trans (hb2.mono hBw.size)
      clear hb2 hq2 hD2 hL2
      have hxa := Box.new w2 #[.slice a2 rs.length c2] 26
      have hba : Below w2.heap.size w2 (w2.alloc (.cells #[.slice a2 rs.length c2] 26)) := (Below.refl _ _).alloc (Nat.le_refl _) _
      replace hxr := hxr.keep hba hxr.lt
      replace hxo := hxo.keep hba hxo.lt
      replace HS2 := Lib.hid ((HS2.out.below hba).mono hba.size)
      replace hBw := hBw.trans (hba.mono hBw.size)
      clear hba
      have xxr0 := hxr.cell 0 _ rfl
      have xxo0 := hxo.cell 0 _ rfl
      have xxo1 := hxo.cell 1 _ rfl
      have xxo2 := hxo.cell 2 _ rfl
      have xxo3 := hxo.cell 3 _ rfl
      have xxo4 := hxo.cell 4 _ rfl
      have xxo5 := hxo.cell 5 _ rfl
      have xxo6 := hxo.cell 6 _ rfl
      go_wp2_with fail
      clear xxr0 xxo0 xxo1 xxo2 xxo3 xxo4 xxo5 xxo6
      generalize w2.alloc (.cells #[.slice a2 rs.length c2] 26) = W2 at hxr hxo hxa HS2 hBw ⊢
      generalize w2.heap.size = g2 at hxa ⊢
      refine (specDone_some _ _ ss rs o _ (HSs.out _ hBw) (HIs.out _ hBw) HOz.out HA.out).mono ?_
      rintro e w3 ⟨V3, q3, rfl, hq3, hD3, hb3⟩
      obtain ⟨a3, c3, hV3⟩ := hD3.1.slice
      have hL3 : q3.length = rs.length := by have h5 := congrArg List.length hq3; rw [List.length_map] at h5; exact h5
      rw [hL3] at hV3
      subst hV3
      have HS3 : Hid (SbAt w3 w3.heap.size (.slice a3 rs.length c3) rs) := Lib.hid (hD3.at hq3 HZR.out)
      replace hxr := hxr.keep hb3 hxr.lt
      replace hxo := hxo.keep hb3 hxo.lt
      replace hxa := hxa.keep hb3 hxa.lt
      replace HS2 := Lib.hid ((HS2.out.below hb3).mono hb3.size)
      replace hBw := hBw.trans (hb3.mono hBw.size)
      clear hb3 hq3 hD3 hL3
      have hxw := Box.new w3 #[.slice a3 rs.length c3] 26
      have hba : Below w3.heap.size w3 (w3.alloc (.cells #[.slice a3 rs.length c3] 26)) := (Below.refl _ _).alloc (Nat.le_refl _) _
      replace hxr := hxr.keep hba hxr.lt
      replace hxo := hxo.keep hba hxo.lt
      replace hxa := hxa.keep hba hxa.lt
      replace HS2 := Lib.hid ((HS2.out.below hba).mono hba.size)
      replace HS3 := Lib.hid ((HS3.out.below hba).mono hba.size)
      replace hBw := hBw.trans (hba.mono hBw.size)
      clear hba
      go_wp2_with fail
      generalize w3.alloc (.cells #[.slice a3 rs.length c3] 26) = W3 at hxr hxo hxa hxw HS2 HS3 hBw ⊢
      generalize w3.heap.size = g3 at hxw ⊢
      refine (drawReaderOk_any _ _ _ (HCD.out _ hBw)).mono ?_
      rintro e w4 ⟨V4, ss4, rfl, hz4, hO4, hb4⟩
      obtain ⟨a4, c4, rfl⟩ := hO4.slice24
      have HS4 : Hid (SbAt w4 w4.heap.size (.slice a4 ss4.length c4) ss4) := Lib.hid (hO4.at hz4)
      replace hxr := hxr.keep hb4 hxr.lt
      replace hxo := hxo.keep hb4 hxo.lt
      replace hxa := hxa.keep hb4 hxa.lt
      replace hxw := hxw.keep hb4 hxw.lt
      replace HS2 := Lib.hid ((HS2.out.below hb4).mono hb4.size)
      replace HS3 := Lib.hid ((HS3.out.below hb4).mono hb4.size)
      replace hBw := hBw.trans (hb4.mono hBw.size)
      clear hb4 hO4 hz4
      have hx9 := Box.new w4 #[.slice a4 ss4.length c4] 26
      have hba : Below w4.heap.size w4 (w4.alloc (.cells #[.slice a4 ss4.length c4] 26)) := (Below.refl _ _).alloc (Nat.le_refl _) _
      replace hxr := hxr.keep hba hxr.lt
      replace hxo := hxo.keep hba hxo.lt
      replace hxa := hxa.keep hba hxa.lt
      replace hxw := hxw.keep hba hxw.lt
      replace HS2 := Lib.hid ((HS2.out.below hba).mono hba.size)
      replace HS3 := Lib.hid ((HS3.out.below hba).mono hba.size)
      replace HS4 := Lib.hid ((HS4.out.below hba).mono hba.size)
      replace hBw := hBw.trans (hba.mono hBw.size)
      clear hba
      go_wp2_with fail
      generalize w4.alloc (.cells #[.slice a4 ss4.length c4] 26) = W4 at hxr hxo hxa hxw hx9 HS2 HS3 HS4 hBw ⊢
      generalize w4.heap.size = g4 at hx9 ⊢
      refine (drawOpOk_any _ _ _ (HCD.out _ hBw)).mono ?_
      rintro e w5 ⟨p, V5, rfl, hs5, hO5, hb5⟩
      obtain ⟨a5, c5, rfl⟩ := hO5.slice
      have HI5 : Hid (ItAt w5 w5.heap.size (.slice a5 p.its.length c5) p.its) := Lib.hid (ItAt.of_own hO5 (smO_sz hs5).2)
      have HO5 := Lib.hid (smO_sz hs5).1
      replace hxr := hxr.keep hb5 hxr.lt
      replace hxo := hxo.keep hb5 hxo.lt
      replace hxa := hxa.keep hb5 hxa.lt
      replace hxw := hxw.keep hb5 hxw.lt
      replace hx9 := hx9.keep hb5 hx9.lt
      replace HS2 := Lib.hid ((HS2.out.below hb5).mono hb5.size)
      replace HS3 := Lib.hid ((HS3.out.below hb5).mono hb5.size)
      replace HS4 := Lib.hid ((HS4.out.below hb5).mono hb5.size)
      replace hBw := hBw.trans (hb5.mono hBw.size)
      clear hb5 hO5 hs5
      have hx10 := Box.new w5 #[.int .i64 p.k, .string p.u, .string p.i, .int .i64 p.d, .string p.fu, .string p.ft, .slice a5 p.its.length c5] 31
      have hba : Below w5.heap.size w5 (w5.alloc (.cells #[.int .i64 p.k, .string p.u, .string p.i, .int .i64 p.d, .string p.fu, .string p.ft, .slice a5 p.its.length c5] 31)) := (Below.refl _ _).alloc (Nat.le_refl _) _
      replace hxr := hxr.keep hba hxr.lt
      replace hxo := hxo.keep hba hxo.lt
      replace hxa := hxa.keep hba hxa.lt
      replace hxw := hxw.keep hba hxw.lt
      replace hx9 := hx9.keep hba hx9.lt
      replace HS2 := Lib.hid ((HS2.out.below hba).mono hba.size)
      replace HS3 := Lib.hid ((HS3.out.below hba).mono hba.size)
      replace HS4 := Lib.hid ((HS4.out.below hba).mono hba.size)
      replace HI5 := Lib.hid ((HI5.out.below hba).mono hba.size)
      replace hBw := hBw.trans (hba.mono hBw.size)
      clear hba
      have HR4 : Hid (∀ W, SbAt W W.heap.size (.slice a4 ss4.length c4) ss4 → (Calls Try.prog 21 #[.agg #[.slice a4 ss4.length c4]] W fun e w' => e = .returned (.bool (rdB ss4)) ∧ Below W.heap.size W w') ∧ (Calls Try.prog 22 #[.agg #[.slice a4 ss4.length c4]] W fun e w' => e = .returned (.bool (rdB ss4)) ∧ Below W.heap.size W w')) := Lib.hid (fun W h1 => ⟨implReaderOk_any _ ss4 W h1, specReaderOk_any _ ss4 W h1⟩)
      have HP5 : Hid (∀ W, ItAt W W.heap.size (.slice a5 p.its.length c5) p.its → (Calls Try.prog 23 #[opV p (.slice a5 p.its.length c5)] W fun e w' => e = .returned (.bool (opB p)) ∧ Below W.heap.size W w') ∧ (Calls Try.prog 24 #[opV p (.slice a5 p.its.length c5)] W fun e w' => e = .returned (.bool (opB p)) ∧ Below W.heap.size W w')) := Lib.hid (fun W h1 => ⟨implOpOk_any p _ W h1 HO5.out, specOpOk_any p _ W h1 HO5.out⟩)
      generalize rdB ss4 = RR at HR4
      generalize opB p = PP at HP5
      clear HO5
      go_wp2
      generalize w5.alloc (.cells #[.int .i64 p.k, .string p.u, .string p.i, .int .i64 p.d, .string p.fu, .string p.ft, .slice a5 p.its.length c5] 31) = W5 at hxr hxo hxa hxw hx9 hx10 HS2 HS3 HS4 HI5 hBw ⊢
      generalize w5.heap.size = g5 at hx10 ⊢
      refine wp_region_T (fun w' => Box w' v1.heap.size #[.slice ra ss.length rc] 26 ∧ Box w' (v1.heap.size + 1) #[.int .i64 o.k, .string o.u, .string o.i, .int .i64 o.d, .string o.fu, .string o.ft, .slice xa o.its.length xc] 31 ∧ Box w' g2 #[.slice a2 rs.length c2] 26 ∧ Box w' g3 #[.slice a3 rs.length c3] 26 ∧ Box w' g4 #[.slice a4 ss4.length c4] 26 ∧ Box w' g5 #[.int .i64 p.k, .string p.u, .string p.i, .int .i64 p.d, .string p.fu, .string p.ft, .slice a5 p.its.length c5] 31) (fun _ => True) 26 (by kernel_rfl) 27 rfl ?_
      have hbd : Below W5.heap.size W5 W5.drew := (Below.refl _ _).drew
      replace hxr := hxr.keep hbd hxr.lt
      replace hxo := hxo.keep hbd hxo.lt
      replace hxa := hxa.keep hbd hxa.lt
      replace hxw := hxw.keep hbd hxw.lt
      replace hx9 := hx9.keep hbd hx9.lt
      replace hx10 := hx10.keep hbd hx10.lt
      replace HS2 := Lib.hid ((HS2.out.below hbd).mono hbd.size)
      replace HS3 := Lib.hid ((HS3.out.below hbd).mono hbd.size)
      replace HS4 := Lib.hid ((HS4.out.below hbd).mono hbd.size)
      replace HI5 := Lib.hid ((HI5.out.below hbd).mono hbd.size)
      replace hBw := hBw.trans (hbd.mono hBw.size)
      clear hbd
      generalize W5.drew = W5d at hxr hxo hxa hxw hx9 hx10 HS2 HS3 HS4 HI5 hBw ⊢
      refine wpAnyT_takesA (md := .any) 21 (by kernel_rfl) (by intro d v c a w h; cases d <;> exact h) [0, 1, 2, 3, 4, 5] _ _ _ (by decide) (by kernel_rfl) ⟨⟨hxr, hxo, hxa, hxw, hx9, hx10⟩, fun _ => trivial⟩ ?_
      simp only [pick, List.filterMap_cons, List.filterMap_nil, List.getElem?_cons_zero, List.getElem?_cons_succ]
      refine wpIf_step (.bool true) (by kernel_rfl) (fun w hw => by go_simp) ?_
      refine wpIf_step (.bool true) (by kernel_rfl) (fun w hw => by go_simp) ?_
      refine wpIf_step (.bool false) (by kernel_rfl) (fun w hw => by go_simp) ?_
      refine wpIf_step (.bool false) (by kernel_rfl) (fun w hw => by go_simp) ?_
      refine wpIf_step (.agg #[.slice a2 rs.length c2]) (by kernel_rfl) (fun w hw => by have e0 := hw.2.2.1.cell 0 _ rfl; go_simp) ?_
      refine wpIf_step (.agg #[.slice a3 rs.length c3]) (by kernel_rfl) (fun w hw => by have e0 := hw.2.2.2.1.cell 0 _ rfl; go_simp) ?_
      refine wpIf_nil (fun hS9 => ?_)
      clear hS9
      refine wpAnyT_one 6 20 (by kernel_rfl) rfl (by kernel_rfl) (fun K hK => ?_)
      go_simp
      refine (sameReader_any _ _ rs _ HS2.out HS3.out).mono ?_
      rintro e w6 ⟨rfl, hb6⟩
      replace hxr := hxr.keep hb6 hxr.lt
      replace hxo := hxo.keep hb6 hxo.lt
      replace hxa := hxa.keep hb6 hxa.lt
      replace hxw := hxw.keep hb6 hxw.lt
      replace hx9 := hx9.keep hb6 hx9.lt
      replace hx10 := hx10.keep hb6 hx10.lt
      replace HS2 := Lib.hid ((HS2.out.below hb6).mono hb6.size)
      replace HS3 := Lib.hid ((HS3.out.below hb6).mono hb6.size)
      replace HS4 := Lib.hid ((HS4.out.below hb6).mono hb6.size)
      replace HI5 := Lib.hid ((HI5.out.below hb6).mono hb6.size)
      replace hBw := hBw.trans (hb6.mono hBw.size)
      refine hK _ _ ⟨⟨hxr, hxo, hxa, hxw, hx9, hx10⟩, fun _ => trivial⟩ (fun hS9 => ?_)
      clear hK K hS9 hb6
      refine wpAnyT_takesA (md := .any) 15 (by kernel_rfl) (by intro d v c a w h; cases d <;> exact h) [7, 8, 9, 10, 12] _ _ _ (by decide) (by kernel_rfl) ⟨⟨hxr, hxo, hxa, hxw, hx9, hx10⟩, fun _ => trivial⟩ ?_
      simp only [pick, List.filterMap_cons, List.filterMap_nil, List.getElem?_cons_zero, List.getElem?_cons_succ]
      refine wpIf_step (.bool false) (by kernel_rfl) (fun w hw => by go_simp) ?_
      refine wpIf_step (.bool false) (by kernel_rfl) (fun w hw => by go_simp) ?_
      refine wpIf_step (.bool false) (by kernel_rfl) (fun w hw => by go_simp) ?_
      refine wpIf_step (.agg #[.slice a4 ss4.length c4]) (by kernel_rfl) (fun w hw => by have e0 := hw.2.2.2.2.1.cell 0 _ rfl; go_simp) ?_
      refine wpIf_step (.agg #[.slice a4 ss4.length c4]) (by kernel_rfl) (fun w hw => by have e0 := hw.2.2.2.2.1.cell 0 _ rfl; go_simp) ?_
      refine wpIf_nil (fun hS9 => ?_)
      clear hS9
      refine wpAnyT_one 11 14 (by kernel_rfl) rfl (by kernel_rfl) (fun K hK => ?_)
      go_simp
      refine ((HR4.out _ HS4.out).1).mono ?_
      rintro e w7 ⟨rfl, hb7⟩
      replace hxr := hxr.keep hb7 hxr.lt
      replace hxo := hxo.keep hb7 hxo.lt
      replace hxa := hxa.keep hb7 hxa.lt
      replace hxw := hxw.keep hb7 hxw.lt
      replace hx9 := hx9.keep hb7 hx9.lt
      replace hx10 := hx10.keep hb7 hx10.lt
      replace HS2 := Lib.hid ((HS2.out.below hb7).mono hb7.size)
      replace HS3 := Lib.hid ((HS3.out.below hb7).mono hb7.size)
      replace HS4 := Lib.hid ((HS4.out.below hb7).mono hb7.size)
      replace HI5 := Lib.hid ((HI5.out.below hb7).mono hb7.size)
      replace hBw := hBw.trans (hb7.mono hBw.size)
      refine hK _ _ ⟨⟨hxr, hxo, hxa, hxw, hx9, hx10⟩, fun _ => trivial⟩ (fun hS9 => ?_)
      clear hK K hS9 hb7
      refine wpAnyT_one 13 13 (by kernel_rfl) rfl (by kernel_rfl) (fun K hK => ?_)
      go_simp
      refine ((HR4.out _ HS4.out).2).mono ?_
      rintro e w8 ⟨rfl, hb8⟩
      replace hxr := hxr.keep hb8 hxr.lt
      replace hxo := hxo.keep hb8 hxo.lt
      replace hxa := hxa.keep hb8 hxa.lt
      replace hxw := hxw.keep hb8 hxw.lt
      replace hx9 := hx9.keep hb8 hx9.lt
      replace hx10 := hx10.keep hb8 hx10.lt
      replace HS2 := Lib.hid ((HS2.out.below hb8).mono hb8.size)
      replace HS3 := Lib.hid ((HS3.out.below hb8).mono hb8.size)
      replace HS4 := Lib.hid ((HS4.out.below hb8).mono hb8.size)
      replace HI5 := Lib.hid ((HI5.out.below hb8).mono hb8.size)
      replace hBw := hBw.trans (hb8.mono hBw.size)
      refine hK _ _ ⟨⟨hxr, hxo, hxa, hxw, hx9, hx10⟩, fun _ => trivial⟩ (fun hS9 => ?_)
      clear hK K hS9 hb8
      refine wpAnyT_takesA (md := .any) 8 (by kernel_rfl) (by intro d v c a w h; cases d <;> exact h) [14, 15, 16, 17, 19] _ _ _ (by decide) (by kernel_rfl) ⟨⟨hxr, hxo, hxa, hxw, hx9, hx10⟩, fun _ => trivial⟩ ?_
      simp only [pick, List.filterMap_cons, List.filterMap_nil, List.getElem?_cons_zero, List.getElem?_cons_succ]
      refine wpIf_step (.bool false) (by kernel_rfl) (fun w hw => by go_simp) ?_
      refine wpIf_step (.bool false) (by kernel_rfl) (fun w hw => by go_simp) ?_
      refine wpIf_step (.bool false) (by kernel_rfl) (fun w hw => by go_simp) ?_
      refine wpIf_step (opV p (.slice a5 p.its.length c5)) (by kernel_rfl) (fun w hw => by have e0 := hw.2.2.2.2.2.cell 0 _ rfl; have e1 := hw.2.2.2.2.2.cell 1 _ rfl; have e2 := hw.2.2.2.2.2.cell 2 _ rfl; have e3 := hw.2.2.2.2.2.cell 3 _ rfl; have e4 := hw.2.2.2.2.2.cell 4 _ rfl; have e5 := hw.2.2.2.2.2.cell 5 _ rfl; have e6 := hw.2.2.2.2.2.cell 6 _ rfl; go_simp) ?_
      refine wpIf_step (opV p (.slice a5 p.its.length c5)) (by kernel_rfl) (fun w hw => by have e0 := hw.2.2.2.2.2.cell 0 _ rfl; have e1 := hw.2.2.2.2.2.cell 1 _ rfl; have e2 := hw.2.2.2.2.2.cell 2 _ rfl; have e3 := hw.2.2.2.2.2.cell 3 _ rfl; have e4 := hw.2.2.2.2.2.cell 4 _ rfl; have e5 := hw.2.2.2.2.2.cell 5 _ rfl; have e6 := hw.2.2.2.2.2.cell 6 _ rfl; go_simp) ?_
      refine wpIf_nil (fun hS9 => ?_)
      clear hS9
      refine wpAnyT_one 18 7 (by kernel_rfl) rfl (by kernel_rfl) (fun K hK => ?_)
      go_simp
      refine ((HP5.out _ HI5.out).1).mono ?_
      rintro e w9 ⟨rfl, hb9⟩
      replace hxr := hxr.keep hb9 hxr.lt
      replace hxo := hxo.keep hb9 hxo.lt
      replace hxa := hxa.keep hb9 hxa.lt
      replace hxw := hxw.keep hb9 hxw.lt
      replace hx9 := hx9.keep hb9 hx9.lt
      replace hx10 := hx10.keep hb9 hx10.lt
      replace HS2 := Lib.hid ((HS2.out.below hb9).mono hb9.size)
      replace HS3 := Lib.hid ((HS3.out.below hb9).mono hb9.size)
      replace HS4 := Lib.hid ((HS4.out.below hb9).mono hb9.size)
      replace HI5 := Lib.hid ((HI5.out.below hb9).mono hb9.size)
      replace hBw := hBw.trans (hb9.mono hBw.size)
      refine hK _ _ ⟨⟨hxr, hxo, hxa, hxw, hx9, hx10⟩, fun _ => trivial⟩ (fun hS9 => ?_)
      clear hK K hS9 hb9
      refine wpAnyT_one 20 6 (by kernel_rfl) rfl (by kernel_rfl) (fun K hK => ?_)
      go_simp
      refine ((HP5.out _ HI5.out).2).mono ?_
      rintro e w10 ⟨rfl, hb10⟩
      replace hxr := hxr.keep hb10 hxr.lt
      replace hxo := hxo.keep hb10 hxo.lt
      replace hxa := hxa.keep hb10 hxa.lt
      replace hxw := hxw.keep hb10 hxw.lt
      replace hx9 := hx9.keep hb10 hx9.lt
      replace hx10 := hx10.keep hb10 hx10.lt
      replace HS2 := Lib.hid ((HS2.out.below hb10).mono hb10.size)
      replace HS3 := Lib.hid ((HS3.out.below hb10).mono hb10.size)
      replace HS4 := Lib.hid ((HS4.out.below hb10).mono hb10.size)
      replace HI5 := Lib.hid ((HI5.out.below hb10).mono hb10.size)
      replace hBw := hBw.trans (hb10.mono hBw.size)
      refine hK _ _ ⟨⟨hxr, hxo, hxa, hxw, hx9, hx10⟩, fun _ => trivial⟩ (fun hS9 => ?_)
      clear hK K hS9 hb10
      refine wpAnyT_takesA (md := .any) 1 (by kernel_rfl) (by intro d v c a w h; cases d <;> exact h) [21, 22, 23, 24, 25] _ _ _ (by decide) (by kernel_rfl) ⟨⟨hxr, hxo, hxa, hxw, hx9, hx10⟩, fun _ => trivial⟩ ?_
      simp only [pick, List.filterMap_cons, List.filterMap_nil, List.getElem?_cons_zero, List.getElem?_cons_succ]
      refine wpIf_step (.bool false) (by kernel_rfl) (fun w hw => by go_simp) ?_
      refine wpIf_step (.bool false) (by kernel_rfl) (fun w hw => by go_simp) ?_
      refine wpIf_step (.bool false) (by kernel_rfl) (fun w hw => by go_simp) ?_
      refine wpIf_step (.bool true) (by kernel_rfl) (fun w hw => by go_simp) ?_
      refine wpIf_step (.bool false) (by kernel_rfl) (fun w hw => by go_simp) ?_
      refine wpIf_nil (fun hS9 => ?_)
      clear hS9
      refine wpAnyT_one 26 0 (by kernel_rfl) rfl (by kernel_rfl) (fun K hK => ?_)
      go_simp
      refine hK _ _ ⟨⟨hxr, hxo, hxa, hxw, hx9, hx10⟩, fun _ => trivial⟩ (fun hS9 => ?_)
      clear hK K hS9
      refine wpAnyT_over (by kernel_rfl) ?_
      have hRd : Hid (∀ W, SbAt W W.heap.size (.slice a2 rs.length c2) rs → Calls Try.prog 21 #[.agg #[.slice a2 rs.length c2]] W fun e w' => e = .returned (.bool true) ∧ Below W.heap.size W w') := Lib.hid (fun W h1 => by have h5 := implReaderOk_any _ rs W h1; rw [HRD.out] at h5; exact h5)
      have xxa0 := hxa.cell 0 _ rfl
      go_wp2_with fail
      clear xxa0
      refine (hRd.out _ HS2.out).mono ?_
      rintro e w11 ⟨rfl, hb11⟩
      replace hxr := hxr.keep hb11 hxr.lt
      replace hxo := hxo.keep hb11 hxo.lt
      replace hxa := hxa.keep hb11 hxa.lt
      replace hxw := hxw.keep hb11 hxw.lt
      replace hx9 := hx9.keep hb11 hx9.lt
      replace hx10 := hx10.keep hb11 hx10.lt
      replace HS2 := Lib.hid ((HS2.out.below hb11).mono hb11.size)
      replace HS3 := Lib.hid ((HS3.out.below hb11).mono hb11.size)
      replace HS4 := Lib.hid ((HS4.out.below hb11).mono hb11.size)
      replace HI5 := Lib.hid ((HI5.out.below hb11).mono hb11.size)
      replace hBw := hBw.trans (hb11.mono hBw.size)
      clear hb11 hRd
      have HPW : Hid (OprW v1 ss rs o ra a2 xa rc c2 xc g2 w11) := Lib.hid ⟨hxr, hxo, hxa, HS2.out, hBw⟩
      have k0 := hxo.cell 0 _ rfl
      have k1 := hxo.cell 1 _ rfl
      have k4 := hxo.cell 4 _ rfl
      clear hxr hxo hxa hxw HS2 HS3 hBw hx9 hx10 HS4 HI5 HR4 HP5
      have hsl : ss.length ≤ 6 := by
        have h5 := HA.out
        unfold doV at h5
        split at h5
        · rename_i h6; exact rd_len h6.1
        · cases h5
      by_cases hk3 : o.k = 3
      ·
        have hk3b : (o.k == 3) = true := by simp [hk3]
        have HK3 := Lib.hid hk3
        clear hk3
        go_wp2
        clear k0 k1 k4
        generalize w11 = wz at HPW ⊢
        go_loopw [12] (fun i wr => ∃ p : Nat, p ≤ ss.length ∧ i = .int .i64 (p : Int) ∧ Hid (OprW v1 ss rs o ra a2 xa rc c2 xc g2 wr)) (fun i _ => ss.length - (intOf i).toNat)
        case atStart => exact ⟨0, Nat.zero_le _, rfl, HPW⟩
        case round =>
          clear HPW
          obtain ⟨p, hp, rfl, HPW⟩ := hrel
          have hxr := HPW.out.1
          have hxo := HPW.out.2.1
          have kr := hxr.cell 0 _ rfl
          have ko := hxo.cell 0 _ rfl
          by_cases hlt : p < ss.length
          case neg =>
            have hkl : decide ((p : Int) < (ss.length : Int)) = false := decide_eq_false (by omega)
            go_wp2
            go_ret
            exact ⟨rfl, HBw0.out.trans (HPW.out.2.2.2.2.mono HBw0.out.size)⟩
          have hkl : decide ((p : Int) < (ss.length : Int)) = true := decide_eq_true (by omega)
          by_cases hk9 : o.k = 9
          case pos =>
            have hk9b : (o.k != 9) = false := by simp [hk9]
            clear hk9
            go_wp2
            go_ret
            exact ⟨rfl, HBw0.out.trans (HPW.out.2.2.2.2.mono HBw0.out.size)⟩
          have hk9b : (o.k != 9) = true := by simp [hk9]
          have hkl2 : (p : Int) < (ss.length : Int) := by omega
          have hk0 : (0 : Int) ≤ (p : Int) := by omega
          obtain ⟨sb, hsb⟩ : ∃ sb, sb = ss[p] := ⟨_, rfl⟩
          have HM : Hid (sb ∈ ss) := Lib.hid (by rw [hsb]; exact List.getElem_mem hlt)
          have HC : Hid (∀ W, Below v1.heap.size v1 W → ∃ b off, ra = some ⟨b, off, none⟩ ∧ b < W.heap.size ∧ ss.length ≤ rc ∧ rc ≤ maxLen ∧ W.cell? ⟨b, off + p * 3, none⟩ = some (.string sb.u) ∧ SbAt W W.heap.size (.slice (some ⟨b, off + p * 3, none⟩) 1 (rc - p)) [sb]) := Lib.hid (fun W hW => by
              obtain ⟨a1, cap1, hv, hq1, hq2, hc⟩ := (HSs.out W hW).raw
              cases hv
              obtain ⟨b, off, rfl, hb, hr⟩ := hc p hlt
              obtain ⟨x, c0, _, _, _, _⟩ := hr p hlt
              rw [← hsb] at c0
              have h5 := SbAt.one (HSs.out W hW) p hlt
              rw [← hsb] at h5
              exact ⟨b, off, rfl, hb, hq1, hq2, c0, h5⟩)
          have HNu : Hid (sb.u ≠ o.fu → sb ∈ rs) := Lib.hid (fun hne => HKP.out hk9 sb HM.out (by unfold opU; rw [if_pos HK3.out]; exact hne))
          clear hsb hk9
          obtain ⟨b, off, rfl, hb, hrc1, hrc2, c0, hone⟩ := HC.out wr HPW.out.2.2.2.2
          unfold maxLen at hrc2
          by_cases hu : sb.u = o.fu
          case pos =>
            have hU : (sb.u.toList == (o.fu).toList) = true := by rw [hu]; simp
            clear hu hone
            go_wp2
            go_roundw
            case rel => exact ⟨p + 1, by omega, by go_num, HPW⟩
            case measure => simp [intOf]; omega
          have hU : (sb.u.toList == (o.fu).toList) = false := by rw [str_eq]; exact decide_eq_false hu
          have HIN := Lib.hid (HNu.out hu)
          clear hu hone
          go_wp2
          clear kr ko c0 hxr hxo
          go_loopw [13, 14] (fun th j wq => ∃ (q : Nat) (t : Bool), q ≤ rs.length ∧ j = .int .i64 (q : Int) ∧ th = .bool t ∧ Hid (t = true ↔ sb ∈ rs.take q) ∧ Hid (OprW v1 ss rs o (some ⟨b, off, none⟩) a2 xa rc c2 xc g2 wq)) (fun _ j _ => rs.length - (intOf j).toNat)
          case atStart => exact ⟨0, false, Nat.zero_le _, rfl, rfl, Lib.hid (by simp), HPW⟩
          case round =>
            clear HPW hb
            obtain ⟨q, t, hq, rfl, rfl, HTT, HPW⟩ := hrel
            have hxa := HPW.out.2.2.1
            have ka := hxa.cell 0 _ rfl
            by_cases hql : q < rs.length
            case neg =>
              have hjd : decide ((q : Int) < (rs.length : Int)) = false := decide_eq_false (by omega)
              have htt : t = true := HTT.out.2 (by rw [List.take_of_length_le (by omega)]; exact HIN.out)
              subst htt
              go_wp2
              go_roundw
              case rel => exact ⟨p + 1, by omega, by go_num, HPW⟩
              case measure => simp [intOf]; omega
            have hjd : decide ((q : Int) < (rs.length : Int)) = true := decide_eq_true (by omega)
            have hjd2 : (q : Int) < (rs.length : Int) := by omega
            have hj0 : (0 : Int) ≤ (q : Int) := by omega
            obtain ⟨sq, hsq⟩ : ∃ sq, sq = rs[q] := ⟨_, rfl⟩
            have HTN : Hid ((t = true ∨ sb = sq) ↔ sb ∈ rs.take (q + 1)) := Lib.hid (by rw [List.take_succ_eq_append_getElem hql, List.mem_append, List.mem_singleton, ← hsq, HTT.out])
            obtain ⟨a6, c6, hv6, hq61, hq62, hc6⟩ := HPW.out.2.2.2.1.raw
            cases hv6
            obtain ⟨b6, off6, rfl, hb6, _⟩ := hc6 q hql
            unfold maxLen at hq62
            clear hc6
            have HO6 : Hid (∀ W, SbAt W W.heap.size (.slice (some ⟨b6, off6, none⟩) rs.length c2) rs → SbAt W W.heap.size (.slice (some ⟨b6, off6 + q * 3, none⟩) 1 (c2 - q)) [sq]) := Lib.hid (fun W h5 => by have h6 := SbAt.one h5 q hql; rw [← hsq] at h6; exact h6)
            have HUQ : Hid (sq.u = sb.u → sb = sq) := Lib.hid (fun h5 => rd_uniq HRD.out HIN.out (by rw [hsq]; exact List.getElem_mem hql) h5.symm)
            clear hsq
            have hxr := HPW.out.1
            cases t with
            | true =>
              have HTN2 : Hid (true = true ↔ sb ∈ rs.take (q + 1)) := Lib.hid (by rw [← HTN.out]; simp)
              go_wp2
              refine wp_region_T (fun w' => Box w' g2 #[.slice (some ⟨b6, off6, none⟩) rs.length c2] 26 ∧ Box w' v1.heap.size #[.slice (some ⟨b, off, none⟩) ss.length rc] 26) (fun _ => True) 18 (by kernel_rfl) 19 rfl ?_
              replace HPW := Lib.hid (HPW.out.below ((Below.refl _ _).drew))
              replace hxa := Box.drew hxa
              replace hxr := Box.drew hxr
              generalize wr.drew = wd at HPW hxa hxr ⊢
              refine wpAnyT_takesA (md := .any) 3 (by kernel_rfl) (by intro d v c a w h; cases d <;> exact h) [0, 1, 2, 3, 4, 5, 6, 7, 8, 9, 10, 11, 12, 13, 14, 15] _ _ _ (by decide) (by kernel_rfl) ⟨⟨hxa, hxr⟩, fun _ => trivial⟩ ?_
              simp only [pick, List.filterMap_cons, List.filterMap_nil, List.getElem?_cons_zero, List.getElem?_cons_succ]
              refine wpIf_step (.bool true) (by kernel_rfl) (fun w hw => by go_simp) ?_
              refine wpIf_step (.bool true) (by kernel_rfl) (fun w hw => by go_simp) ?_
              refine wpIf_skipQ (by kernel_rfl) ?_
              refine wpIf_skipQ (by kernel_rfl) ?_
              refine wpIf_skipQ (by kernel_rfl) ?_
              refine wpIf_skipQ (by kernel_rfl) ?_
              refine wpIf_skipQ (by kernel_rfl) ?_
              refine wpIf_skipQ (by kernel_rfl) ?_
              refine wpIf_skipQ (by kernel_rfl) ?_
              refine wpIf_skipQ (by kernel_rfl) ?_
              refine wpIf_skipQ (by kernel_rfl) ?_
              refine wpIf_skipQ (by kernel_rfl) ?_
              refine wpIf_skipQ (by kernel_rfl) ?_
              refine wpIf_skipQ (by kernel_rfl) ?_
              refine wpIf_skipQ (by kernel_rfl) ?_
              refine wpIf_skipQ (by kernel_rfl) ?_
              refine wpIf_nil (fun hS9 => ?_)
              clear hS9
              refine wpAnyT_skipQ 16 2 (by kernel_rfl) rfl (by kernel_rfl) ⟨⟨hxa, hxr⟩, fun _ => trivial⟩ ?_
              refine wpAnyT_takesA (md := .any) 1 (by kernel_rfl) (by intro d v c a w h; cases d <;> exact h) [17] _ _ _ (by decide) (by kernel_rfl) ⟨⟨hxa, hxr⟩, fun _ => trivial⟩ ?_
              simp only [pick, List.filterMap_cons, List.filterMap_nil, List.getElem?_cons_zero, List.getElem?_cons_succ]
              refine wpIf_step (.bool true) (by kernel_rfl) (fun w hw => by go_simp) ?_
              refine wpIf_nil (fun hS9 => ?_)
              clear hS9
              refine wpAnyT_one 18 0 (by kernel_rfl) rfl (by kernel_rfl) (fun K hK => ?_)
              go_simp
              refine hK _ _ ⟨⟨hxa, hxr⟩, fun _ => trivial⟩ (fun hS9 => ?_)
              clear hK K hS9
              refine wpAnyT_over (by kernel_rfl) ?_
              go_wp2
              go_roundw
              case rel => exact ⟨q + 1, true, by omega, by go_num, rfl, Lib.hid (by simpa using HTN2.out), HPW⟩
              case measure => simp [intOf]; omega
            | false =>
              have hw1 : IntKind.i64.wrap ((q : Int) + 1) = (q : Int) + 1 := IntWalk.i64_in _ (by omega)
              have hw2 : IntKind.i64.wrap ((p : Int) + 1) = (p : Int) + 1 := IntWalk.i64_in _ (by omega)
              go_wp2
              by_cases hsu : sq.u = sb.u
              case pos =>
                have hsq2 := HUQ.out hsu
                subst hsq2
                have HTN2 : Hid (true = true ↔ sb ∈ rs.take (q + 1)) := Lib.hid (by rw [← HTN.out]; simp)
                clear hsu
                refine wp_region_T (fun w' => Box w' g2 #[.slice (some ⟨b6, off6, none⟩) rs.length c2] 26 ∧ Box w' v1.heap.size #[.slice (some ⟨b, off, none⟩) ss.length rc] 26) (fun _ => True) 18 (by kernel_rfl) 19 rfl ?_
                replace HPW := Lib.hid (HPW.out.below ((Below.refl _ _).drew))
                replace hxa := Box.drew hxa
                replace hxr := Box.drew hxr
                generalize wr.drew = wd at HPW hxa hxr ⊢
                refine wpAnyT_takesA (md := .any) 3 (by kernel_rfl) (by intro d v c a w h; cases d <;> exact h) [0, 1, 2, 3, 4, 5, 6, 7, 8, 9, 10, 11, 12, 13, 14, 15] _ _ _ (by decide) (by kernel_rfl) ⟨⟨hxa, hxr⟩, fun _ => trivial⟩ ?_
                simp only [pick, List.filterMap_cons, List.filterMap_nil, List.getElem?_cons_zero, List.getElem?_cons_succ]
                refine wpIf_step (.bool false) (by kernel_rfl) (fun w hw => by go_simp) ?_
                refine wpIf_step (.bool false) (by kernel_rfl) (fun w hw => by go_simp) ?_
                refine wpIf_step (.pointer (some ⟨g2, 0, none⟩)) (by kernel_rfl) (fun w hw => by go_simp) ?_
                refine wpIf_step (.slice (some ⟨b6, off6, none⟩) rs.length c2) (by kernel_rfl) (fun w hw => by have e0 := hw.1.cell 0 _ rfl; go_simp) ?_
                refine wpIf_step (.int .i64 (q : Int)) (by kernel_rfl) (fun w hw => by go_simp) ?_
                refine wpIf_step (.int .i64 (q : Int)) (by kernel_rfl) (fun w hw => by go_simp) ?_
                refine wpIf_step (.int .i64 ((q : Int) + 1)) (by kernel_rfl) (fun w hw => by go_simp) ?_
                refine wpIf_step (.slice (some ⟨b6, off6 + q * 3, none⟩) 1 (c2 - q)) (by kernel_rfl) (fun w hw => by have e1 : ((q : Int) + 1) ≤ (c2 : Int) := (by omega); have e2 : (q : Int) ≤ (q : Int) + 1 := (by omega); go_simp; intro h5; omega) ?_
                refine wpIf_step (.agg #[.slice (some ⟨b6, off6 + q * 3, none⟩) 1 (c2 - q)]) (by kernel_rfl) (fun w hw => by go_simp) ?_
                refine wpIf_step (.pointer (some ⟨v1.heap.size, 0, none⟩)) (by kernel_rfl) (fun w hw => by go_simp) ?_
                refine wpIf_step (.slice (some ⟨b, off, none⟩) ss.length rc) (by kernel_rfl) (fun w hw => by have e0 := hw.2.cell 0 _ rfl; go_simp) ?_
                refine wpIf_step (.int .i64 (p : Int)) (by kernel_rfl) (fun w hw => by go_simp) ?_
                refine wpIf_step (.int .i64 (p : Int)) (by kernel_rfl) (fun w hw => by go_simp) ?_
                refine wpIf_step (.int .i64 ((p : Int) + 1)) (by kernel_rfl) (fun w hw => by go_simp) ?_
                refine wpIf_step (.slice (some ⟨b, off + p * 3, none⟩) 1 (rc - p)) (by kernel_rfl) (fun w hw => by have e1 : ((p : Int) + 1) ≤ (rc : Int) := (by omega); have e2 : (p : Int) ≤ (p : Int) + 1 := (by omega); go_simp; intro h5; omega) ?_
                refine wpIf_step (.agg #[.slice (some ⟨b, off + p * 3, none⟩) 1 (rc - p)]) (by kernel_rfl) (fun w hw => by go_simp) ?_
                refine wpIf_nil (fun hS9 => ?_)
                clear hS9
                refine wpAnyT_one 16 2 (by kernel_rfl) rfl (by kernel_rfl) (fun K hK => ?_)
                go_simp
                obtain ⟨b7, off7, hv7, _, _, _, _, hon⟩ := HC.out wd HPW.out.2.2.2.2
                cases hv7
                refine (sameReader_any _ _ [sb] _ (HO6.out _ HPW.out.2.2.2.1) hon).mono ?_
                rintro e w8 ⟨rfl, hb8⟩
                clear hon
                replace HPW := Lib.hid (HPW.out.below hb8)
                replace hxa := hxa.keep hb8 hxa.lt
                replace hxr := hxr.keep hb8 hxr.lt
                refine hK _ _ ⟨⟨hxa, hxr⟩, fun _ => trivial⟩ (fun hS9 => ?_)
                clear hK K hS9 hb8
                refine wpAnyT_takesA (md := .any) 1 (by kernel_rfl) (by intro d v c a w h; cases d <;> exact h) [17] _ _ _ (by decide) (by kernel_rfl) ⟨⟨hxa, hxr⟩, fun _ => trivial⟩ ?_
                simp only [pick, List.filterMap_cons, List.filterMap_nil, List.getElem?_cons_zero, List.getElem?_cons_succ]
                refine wpIf_step (.bool true) (by kernel_rfl) (fun w hw => by go_simp) ?_
                refine wpIf_nil (fun hS9 => ?_)
                clear hS9
                refine wpAnyT_one 18 0 (by kernel_rfl) rfl (by kernel_rfl) (fun K hK => ?_)
                go_simp
                refine hK _ _ ⟨⟨hxa, hxr⟩, fun _ => trivial⟩ (fun hS9 => ?_)
                clear hK K hS9
                refine wpAnyT_over (by kernel_rfl) ?_
                go_wp2
                go_roundw
                case rel => exact ⟨q + 1, true, by omega, by go_num, rfl, Lib.hid (by simpa using HTN2.out), HPW⟩
                case measure => simp [intOf]; omega
              have hne : sq.u ≠ sb.u := hsu
              have HTN2 : Hid (false = true ↔ sb ∈ rs.take (q + 1)) := Lib.hid (by rw [← HTN.out]; exact ⟨fun h5 => (by cases h5), fun h5 => h5.elim (fun h6 => (by cases h6)) (fun h6 => absurd (congrArg Sb.u h6.symm) hne)⟩)
              have HNE := Lib.hid hne
              clear hne hsu
              refine wp_region_T (fun w' => Box w' g2 #[.slice (some ⟨b6, off6, none⟩) rs.length c2] 26 ∧ Box w' v1.heap.size #[.slice (some ⟨b, off, none⟩) ss.length rc] 26) (fun _ => True) 18 (by kernel_rfl) 19 rfl ?_
              replace HPW := Lib.hid (HPW.out.below ((Below.refl _ _).drew))
              replace hxa := Box.drew hxa
              replace hxr := Box.drew hxr
              generalize wr.drew = wd at HPW hxa hxr ⊢
              refine wpAnyT_takesA (md := .any) 3 (by kernel_rfl) (by intro d v c a w h; cases d <;> exact h) [0, 1, 2, 3, 4, 5, 6, 7, 8, 9, 10, 11, 12, 13, 14, 15] _ _ _ (by decide) (by kernel_rfl) ⟨⟨hxa, hxr⟩, fun _ => trivial⟩ ?_
              simp only [pick, List.filterMap_cons, List.filterMap_nil, List.getElem?_cons_zero, List.getElem?_cons_succ]
              refine wpIf_step (.bool false) (by kernel_rfl) (fun w hw => by go_simp) ?_
              refine wpIf_step (.bool false) (by kernel_rfl) (fun w hw => by go_simp) ?_
              refine wpIf_step (.pointer (some ⟨g2, 0, none⟩)) (by kernel_rfl) (fun w hw => by go_simp) ?_
              refine wpIf_step (.slice (some ⟨b6, off6, none⟩) rs.length c2) (by kernel_rfl) (fun w hw => by have e0 := hw.1.cell 0 _ rfl; go_simp) ?_
              refine wpIf_step (.int .i64 (q : Int)) (by kernel_rfl) (fun w hw => by go_simp) ?_
              refine wpIf_step (.int .i64 (q : Int)) (by kernel_rfl) (fun w hw => by go_simp) ?_
              refine wpIf_step (.int .i64 ((q : Int) + 1)) (by kernel_rfl) (fun w hw => by go_simp) ?_
              refine wpIf_step (.slice (some ⟨b6, off6 + q * 3, none⟩) 1 (c2 - q)) (by kernel_rfl) (fun w hw => by have e1 : ((q : Int) + 1) ≤ (c2 : Int) := (by omega); have e2 : (q : Int) ≤ (q : Int) + 1 := (by omega); go_simp; intro h5; omega) ?_
              refine wpIf_step (.agg #[.slice (some ⟨b6, off6 + q * 3, none⟩) 1 (c2 - q)]) (by kernel_rfl) (fun w hw => by go_simp) ?_
              refine wpIf_step (.pointer (some ⟨v1.heap.size, 0, none⟩)) (by kernel_rfl) (fun w hw => by go_simp) ?_
              refine wpIf_step (.slice (some ⟨b, off, none⟩) ss.length rc) (by kernel_rfl) (fun w hw => by have e0 := hw.2.cell 0 _ rfl; go_simp) ?_
              refine wpIf_step (.int .i64 (p : Int)) (by kernel_rfl) (fun w hw => by go_simp) ?_
              refine wpIf_step (.int .i64 (p : Int)) (by kernel_rfl) (fun w hw => by go_simp) ?_
              refine wpIf_step (.int .i64 ((p : Int) + 1)) (by kernel_rfl) (fun w hw => by go_simp) ?_
              refine wpIf_step (.slice (some ⟨b, off + p * 3, none⟩) 1 (rc - p)) (by kernel_rfl) (fun w hw => by have e1 : ((p : Int) + 1) ≤ (rc : Int) := (by omega); have e2 : (p : Int) ≤ (p : Int) + 1 := (by omega); go_simp; intro h5; omega) ?_
              refine wpIf_step (.agg #[.slice (some ⟨b, off + p * 3, none⟩) 1 (rc - p)]) (by kernel_rfl) (fun w hw => by go_simp) ?_
              refine wpIf_nil (fun hS9 => ?_)
              clear hS9
              refine wpAnyT_one 16 2 (by kernel_rfl) rfl (by kernel_rfl) (fun K hK => ?_)
              go_simp
              obtain ⟨b7, off7, hv7, _, _, _, _, hon⟩ := HC.out wd HPW.out.2.2.2.2
              cases hv7
              refine (sameReader_url _ _ sq sb _ (HO6.out _ HPW.out.2.2.2.1) hon HNE.out).mono ?_
              rintro e w8 ⟨rfl, hb8⟩
              clear hon
              replace HPW := Lib.hid (HPW.out.below hb8)
              replace hxa := hxa.keep hb8 hxa.lt
              replace hxr := hxr.keep hb8 hxr.lt
              refine hK _ _ ⟨⟨hxa, hxr⟩, fun _ => trivial⟩ (fun hS9 => ?_)
              clear hK K hS9 hb8
              refine wpAnyT_takesA (md := .any) 1 (by kernel_rfl) (by intro d v c a w h; cases d <;> exact h) [17] _ _ _ (by decide) (by kernel_rfl) ⟨⟨hxa, hxr⟩, fun _ => trivial⟩ ?_
              simp only [pick, List.filterMap_cons, List.filterMap_nil, List.getElem?_cons_zero, List.getElem?_cons_succ]
              refine wpIf_step (.bool false) (by kernel_rfl) (fun w hw => by go_simp) ?_
              refine wpIf_nil (fun hS9 => ?_)
              clear hS9
              refine wpAnyT_one 18 0 (by kernel_rfl) rfl (by kernel_rfl) (fun K hK => ?_)
              go_simp
              refine hK _ _ ⟨⟨hxa, hxr⟩, fun _ => trivial⟩ (fun hS9 => ?_)
              clear hK K hS9
              refine wpAnyT_over (by kernel_rfl) ?_
              go_wp2
              go_roundw
              case rel => exact ⟨q + 1, false, by omega, by go_num, rfl, Lib.hid (by simpa using HTN2.out), HPW⟩
              case measure => simp [intOf]; omega
      ·
        have hk3b : (o.k == 3) = false := by simp [hk3]
        have HK3 := Lib.hid hk3
        clear hk3
        go_wp2
        clear k0 k1 k4
        generalize w11 = wz at HPW ⊢
        go_loopw [12] (fun i wr => ∃ p : Nat, p ≤ ss.length ∧ i = .int .i64 (p : Int) ∧ Hid (OprW v1 ss rs o ra a2 xa rc c2 xc g2 wr)) (fun i _ => ss.length - (intOf i).toNat)
        case atStart => exact ⟨0, Nat.zero_le _, rfl, HPW⟩
        case round =>
          clear HPW
          obtain ⟨p, hp, rfl, HPW⟩ := hrel
          have hxr := HPW.out.1
          have hxo := HPW.out.2.1
          have kr := hxr.cell 0 _ rfl
          have ko := hxo.cell 0 _ rfl
          by_cases hlt : p < ss.length
          case neg =>
            have hkl : decide ((p : Int) < (ss.length : Int)) = false := decide_eq_false (by omega)
            go_wp2
            go_ret
            exact ⟨rfl, HBw0.out.trans (HPW.out.2.2.2.2.mono HBw0.out.size)⟩
          have hkl : decide ((p : Int) < (ss.length : Int)) = true := decide_eq_true (by omega)
          by_cases hk9 : o.k = 9
          case pos =>
            have hk9b : (o.k != 9) = false := by simp [hk9]
            clear hk9
            go_wp2
            go_ret
            exact ⟨rfl, HBw0.out.trans (HPW.out.2.2.2.2.mono HBw0.out.size)⟩
          have hk9b : (o.k != 9) = true := by simp [hk9]
          have hkl2 : (p : Int) < (ss.length : Int) := by omega
          have hk0 : (0 : Int) ≤ (p : Int) := by omega
          obtain ⟨sb, hsb⟩ : ∃ sb, sb = ss[p] := ⟨_, rfl⟩
          have HM : Hid (sb ∈ ss) := Lib.hid (by rw [hsb]; exact List.getElem_mem hlt)
          have HC : Hid (∀ W, Below v1.heap.size v1 W → ∃ b off, ra = some ⟨b, off, none⟩ ∧ b < W.heap.size ∧ ss.length ≤ rc ∧ rc ≤ maxLen ∧ W.cell? ⟨b, off + p * 3, none⟩ = some (.string sb.u) ∧ SbAt W W.heap.size (.slice (some ⟨b, off + p * 3, none⟩) 1 (rc - p)) [sb]) := Lib.hid (fun W hW => by
              obtain ⟨a1, cap1, hv, hq1, hq2, hc⟩ := (HSs.out W hW).raw
              cases hv
              obtain ⟨b, off, rfl, hb, hr⟩ := hc p hlt
              obtain ⟨x, c0, _, _, _, _⟩ := hr p hlt
              rw [← hsb] at c0
              have h5 := SbAt.one (HSs.out W hW) p hlt
              rw [← hsb] at h5
              exact ⟨b, off, rfl, hb, hq1, hq2, c0, h5⟩)
          have HNu : Hid (sb.u ≠ o.u → sb ∈ rs) := Lib.hid (fun hne => HKP.out hk9 sb HM.out (by unfold opU; rw [if_neg HK3.out]; exact hne))
          clear hsb hk9
          obtain ⟨b, off, rfl, hb, hrc1, hrc2, c0, hone⟩ := HC.out wr HPW.out.2.2.2.2
          unfold maxLen at hrc2
          by_cases hu : sb.u = o.u
          case pos =>
            have hU : (sb.u.toList == (o.u).toList) = true := by rw [hu]; simp
            clear hu hone
            go_wp2
            go_roundw
            case rel => exact ⟨p + 1, by omega, by go_num, HPW⟩
            case measure => simp [intOf]; omega
          have hU : (sb.u.toList == (o.u).toList) = false := by rw [str_eq]; exact decide_eq_false hu
          have HIN := Lib.hid (HNu.out hu)
          clear hu hone
          go_wp2
          clear kr ko c0 hxr hxo
          go_loopw [13, 14] (fun th j wq => ∃ (q : Nat) (t : Bool), q ≤ rs.length ∧ j = .int .i64 (q : Int) ∧ th = .bool t ∧ Hid (t = true ↔ sb ∈ rs.take q) ∧ Hid (OprW v1 ss rs o (some ⟨b, off, none⟩) a2 xa rc c2 xc g2 wq)) (fun _ j _ => rs.length - (intOf j).toNat)
          case atStart => exact ⟨0, false, Nat.zero_le _, rfl, rfl, Lib.hid (by simp), HPW⟩
          case round =>
            clear HPW hb
            obtain ⟨q, t, hq, rfl, rfl, HTT, HPW⟩ := hrel
            have hxa := HPW.out.2.2.1
            have ka := hxa.cell 0 _ rfl
            by_cases hql : q < rs.length
            case neg =>
              have hjd : decide ((q : Int) < (rs.length : Int)) = false := decide_eq_false (by omega)
              have htt : t = true := HTT.out.2 (by rw [List.take_of_length_le (by omega)]; exact HIN.out)
              subst htt
              go_wp2
              go_roundw
              case rel => exact ⟨p + 1, by omega, by go_num, HPW⟩
              case measure => simp [intOf]; omega
            have hjd : decide ((q : Int) < (rs.length : Int)) = true := decide_eq_true (by omega)
            have hjd2 : (q : Int) < (rs.length : Int) := by omega
            have hj0 : (0 : Int) ≤ (q : Int) := by omega
            obtain ⟨sq, hsq⟩ : ∃ sq, sq = rs[q] := ⟨_, rfl⟩
            have HTN : Hid ((t = true ∨ sb = sq) ↔ sb ∈ rs.take (q + 1)) := Lib.hid (by rw [List.take_succ_eq_append_getElem hql, List.mem_append, List.mem_singleton, ← hsq, HTT.out])
            obtain ⟨a6, c6, hv6, hq61, hq62, hc6⟩ := HPW.out.2.2.2.1.raw
            cases hv6
            obtain ⟨b6, off6, rfl, hb6, _⟩ := hc6 q hql
            unfold maxLen at hq62
            clear hc6
            have HO6 : Hid (∀ W, SbAt W W.heap.size (.slice (some ⟨b6, off6, none⟩) rs.length c2) rs → SbAt W W.heap.size (.slice (some ⟨b6, off6 + q * 3, none⟩) 1 (c2 - q)) [sq]) := Lib.hid (fun W h5 => by have h6 := SbAt.one h5 q hql; rw [← hsq] at h6; exact h6)
            have HUQ : Hid (sq.u = sb.u → sb = sq) := Lib.hid (fun h5 => rd_uniq HRD.out HIN.out (by rw [hsq]; exact List.getElem_mem hql) h5.symm)
            clear hsq
            have hxr := HPW.out.1
            cases t with
            | true =>
              have HTN2 : Hid (true = true ↔ sb ∈ rs.take (q + 1)) := Lib.hid (by rw [← HTN.out]; simp)
              go_wp2
              refine wp_region_T (fun w' => Box w' g2 #[.slice (some ⟨b6, off6, none⟩) rs.length c2] 26 ∧ Box w' v1.heap.size #[.slice (some ⟨b, off, none⟩) ss.length rc] 26) (fun _ => True) 18 (by kernel_rfl) 19 rfl ?_
              replace HPW := Lib.hid (HPW.out.below ((Below.refl _ _).drew))
              replace hxa := Box.drew hxa
              replace hxr := Box.drew hxr
              generalize wr.drew = wd at HPW hxa hxr ⊢
              refine wpAnyT_takesA (md := .any) 3 (by kernel_rfl) (by intro d v c a w h; cases d <;> exact h) [0, 1, 2, 3, 4, 5, 6, 7, 8, 9, 10, 11, 12, 13, 14, 15] _ _ _ (by decide) (by kernel_rfl) ⟨⟨hxa, hxr⟩, fun _ => trivial⟩ ?_
              simp only [pick, List.filterMap_cons, List.filterMap_nil, List.getElem?_cons_zero, List.getElem?_cons_succ]
              refine wpIf_step (.bool true) (by kernel_rfl) (fun w hw => by go_simp) ?_
              refine wpIf_step (.bool true) (by kernel_rfl) (fun w hw => by go_simp) ?_
              refine wpIf_skipQ (by kernel_rfl) ?_
              refine wpIf_skipQ (by kernel_rfl) ?_
              refine wpIf_skipQ (by kernel_rfl) ?_
              refine wpIf_skipQ (by kernel_rfl) ?_
              refine wpIf_skipQ (by kernel_rfl) ?_
              refine wpIf_skipQ (by kernel_rfl) ?_
              refine wpIf_skipQ (by kernel_rfl) ?_
              refine wpIf_skipQ (by kernel_rfl) ?_
              refine wpIf_skipQ (by kernel_rfl) ?_
              refine wpIf_skipQ (by kernel_rfl) ?_
              refine wpIf_skipQ (by kernel_rfl) ?_
              refine wpIf_skipQ (by kernel_rfl) ?_
              refine wpIf_skipQ (by kernel_rfl) ?_
              refine wpIf_skipQ (by kernel_rfl) ?_
              refine wpIf_nil (fun hS9 => ?_)
              clear hS9
              refine wpAnyT_skipQ 16 2 (by kernel_rfl) rfl (by kernel_rfl) ⟨⟨hxa, hxr⟩, fun _ => trivial⟩ ?_
              refine wpAnyT_takesA (md := .any) 1 (by kernel_rfl) (by intro d v c a w h; cases d <;> exact h) [17] _ _ _ (by decide) (by kernel_rfl) ⟨⟨hxa, hxr⟩, fun _ => trivial⟩ ?_
              simp only [pick, List.filterMap_cons, List.filterMap_nil, List.getElem?_cons_zero, List.getElem?_cons_succ]
              refine wpIf_step (.bool true) (by kernel_rfl) (fun w hw => by go_simp) ?_
              refine wpIf_nil (fun hS9 => ?_)
              clear hS9
              refine wpAnyT_one 18 0 (by kernel_rfl) rfl (by kernel_rfl) (fun K hK => ?_)
              go_simp
              refine hK _ _ ⟨⟨hxa, hxr⟩, fun _ => trivial⟩ (fun hS9 => ?_)
              clear hK K hS9
              refine wpAnyT_over (by kernel_rfl) ?_
              go_wp2
              go_roundw
              case rel => exact ⟨q + 1, true, by omega, by go_num, rfl, Lib.hid (by simpa using HTN2.out), HPW⟩
              case measure => simp [intOf]; omega
            | false =>
              have hw1 : IntKind.i64.wrap ((q : Int) + 1) = (q : Int) + 1 := IntWalk.i64_in _ (by omega)
              have hw2 : IntKind.i64.wrap ((p : Int) + 1) = (p : Int) + 1 := IntWalk.i64_in _ (by omega)
              go_wp2
              by_cases hsu : sq.u = sb.u
              case pos =>
                have hsq2 := HUQ.out hsu
                subst hsq2
                have HTN2 : Hid (true = true ↔ sb ∈ rs.take (q + 1)) := Lib.hid (by rw [← HTN.out]; simp)
                clear hsu
                refine wp_region_T (fun w' => Box w' g2 #[.slice (some ⟨b6, off6, none⟩) rs.length c2] 26 ∧ Box w' v1.heap.size #[.slice (some ⟨b, off, none⟩) ss.length rc] 26) (fun _ => True) 18 (by kernel_rfl) 19 rfl ?_
                replace HPW := Lib.hid (HPW.out.below ((Below.refl _ _).drew))
                replace hxa := Box.drew hxa
                replace hxr := Box.drew hxr
                generalize wr.drew = wd at HPW hxa hxr ⊢
                refine wpAnyT_takesA (md := .any) 3 (by kernel_rfl) (by intro d v c a w h; cases d <;> exact h) [0, 1, 2, 3, 4, 5, 6, 7, 8, 9, 10, 11, 12, 13, 14, 15] _ _ _ (by decide) (by kernel_rfl) ⟨⟨hxa, hxr⟩, fun _ => trivial⟩ ?_
                simp only [pick, List.filterMap_cons, List.filterMap_nil, List.getElem?_cons_zero, List.getElem?_cons_succ]
                refine wpIf_step (.bool false) (by kernel_rfl) (fun w hw => by go_simp) ?_
                refine wpIf_step (.bool false) (by kernel_rfl) (fun w hw => by go_simp) ?_
                refine wpIf_step (.pointer (some ⟨g2, 0, none⟩)) (by kernel_rfl) (fun w hw => by go_simp) ?_
                refine wpIf_step (.slice (some ⟨b6, off6, none⟩) rs.length c2) (by kernel_rfl) (fun w hw => by have e0 := hw.1.cell 0 _ rfl; go_simp) ?_
                refine wpIf_step (.int .i64 (q : Int)) (by kernel_rfl) (fun w hw => by go_simp) ?_
                refine wpIf_step (.int .i64 (q : Int)) (by kernel_rfl) (fun w hw => by go_simp) ?_
                refine wpIf_step (.int .i64 ((q : Int) + 1)) (by kernel_rfl) (fun w hw => by go_simp) ?_
                refine wpIf_step (.slice (some ⟨b6, off6 + q * 3, none⟩) 1 (c2 - q)) (by kernel_rfl) (fun w hw => by have e1 : ((q : Int) + 1) ≤ (c2 : Int) := (by omega); have e2 : (q : Int) ≤ (q : Int) + 1 := (by omega); go_simp; intro h5; omega) ?_
                refine wpIf_step (.agg #[.slice (some ⟨b6, off6 + q * 3, none⟩) 1 (c2 - q)]) (by kernel_rfl) (fun w hw => by go_simp) ?_
                refine wpIf_step (.pointer (some ⟨v1.heap.size, 0, none⟩)) (by kernel_rfl) (fun w hw => by go_simp) ?_
                refine wpIf_step (.slice (some ⟨b, off, none⟩) ss.length rc) (by kernel_rfl) (fun w hw => by have e0 := hw.2.cell 0 _ rfl; go_simp) ?_
                refine wpIf_step (.int .i64 (p : Int)) (by kernel_rfl) (fun w hw => by go_simp) ?_
                refine wpIf_step (.int .i64 (p : Int)) (by kernel_rfl) (fun w hw => by go_simp) ?_
                refine wpIf_step (.int .i64 ((p : Int) + 1)) (by kernel_rfl) (fun w hw => by go_simp) ?_
                refine wpIf_step (.slice (some ⟨b, off + p * 3, none⟩) 1 (rc - p)) (by kernel_rfl) (fun w hw => by have e1 : ((p : Int) + 1) ≤ (rc : Int) := (by omega); have e2 : (p : Int) ≤ (p : Int) + 1 := (by omega); go_simp; intro h5; omega) ?_
                refine wpIf_step (.agg #[.slice (some ⟨b, off + p * 3, none⟩) 1 (rc - p)]) (by kernel_rfl) (fun w hw => by go_simp) ?_
                refine wpIf_nil (fun hS9 => ?_)
                clear hS9
                refine wpAnyT_one 16 2 (by kernel_rfl) rfl (by kernel_rfl) (fun K hK => ?_)
                go_simp
                obtain ⟨b7, off7, hv7, _, _, _, _, hon⟩ := HC.out wd HPW.out.2.2.2.2
                cases hv7
                refine (sameReader_any _ _ [sb] _ (HO6.out _ HPW.out.2.2.2.1) hon).mono ?_
                rintro e w8 ⟨rfl, hb8⟩
                clear hon
                replace HPW := Lib.hid (HPW.out.below hb8)
                replace hxa := hxa.keep hb8 hxa.lt
                replace hxr := hxr.keep hb8 hxr.lt
                refine hK _ _ ⟨⟨hxa, hxr⟩, fun _ => trivial⟩ (fun hS9 => ?_)
                clear hK K hS9 hb8
                refine wpAnyT_takesA (md := .any) 1 (by kernel_rfl) (by intro d v c a w h; cases d <;> exact h) [17] _ _ _ (by decide) (by kernel_rfl) ⟨⟨hxa, hxr⟩, fun _ => trivial⟩ ?_
                simp only [pick, List.filterMap_cons, List.filterMap_nil, List.getElem?_cons_zero, List.getElem?_cons_succ]
                refine wpIf_step (.bool true) (by kernel_rfl) (fun w hw => by go_simp) ?_
                refine wpIf_nil (fun hS9 => ?_)
                clear hS9
                refine wpAnyT_one 18 0 (by kernel_rfl) rfl (by kernel_rfl) (fun K hK => ?_)
                go_simp
                refine hK _ _ ⟨⟨hxa, hxr⟩, fun _ => trivial⟩ (fun hS9 => ?_)
                clear hK K hS9
                refine wpAnyT_over (by kernel_rfl) ?_
                go_wp2
                go_roundw
                case rel => exact ⟨q + 1, true, by omega, by go_num, rfl, Lib.hid (by simpa using HTN2.out), HPW⟩
                case measure => simp [intOf]; omega
              have hne : sq.u ≠ sb.u := hsu
              have HTN2 : Hid (false = true ↔ sb ∈ rs.take (q + 1)) := Lib.hid (by rw [← HTN.out]; exact ⟨fun h5 => (by cases h5), fun h5 => h5.elim (fun h6 => (by cases h6)) (fun h6 => absurd (congrArg Sb.u h6.symm) hne)⟩)
              have HNE := Lib.hid hne
              clear hne hsu
              refine wp_region_T (fun w' => Box w' g2 #[.slice (some ⟨b6, off6, none⟩) rs.length c2] 26 ∧ Box w' v1.heap.size #[.slice (some ⟨b, off, none⟩) ss.length rc] 26) (fun _ => True) 18 (by kernel_rfl) 19 rfl ?_
              replace HPW := Lib.hid (HPW.out.below ((Below.refl _ _).drew))
              replace hxa := Box.drew hxa
              replace hxr := Box.drew hxr
              generalize wr.drew = wd at HPW hxa hxr ⊢
              refine wpAnyT_takesA (md := .any) 3 (by kernel_rfl) (by intro d v c a w h; cases d <;> exact h) [0, 1, 2, 3, 4, 5, 6, 7, 8, 9, 10, 11, 12, 13, 14, 15] _ _ _ (by decide) (by kernel_rfl) ⟨⟨hxa, hxr⟩, fun _ => trivial⟩ ?_
              simp only [pick, List.filterMap_cons, List.filterMap_nil, List.getElem?_cons_zero, List.getElem?_cons_succ]
              refine wpIf_step (.bool false) (by kernel_rfl) (fun w hw => by go_simp) ?_
              refine wpIf_step (.bool false) (by kernel_rfl) (fun w hw => by go_simp) ?_
              refine wpIf_step (.pointer (some ⟨g2, 0, none⟩)) (by kernel_rfl) (fun w hw => by go_simp) ?_
              refine wpIf_step (.slice (some ⟨b6, off6, none⟩) rs.length c2) (by kernel_rfl) (fun w hw => by have e0 := hw.1.cell 0 _ rfl; go_simp) ?_
              refine wpIf_step (.int .i64 (q : Int)) (by kernel_rfl) (fun w hw => by go_simp) ?_
              refine wpIf_step (.int .i64 (q : Int)) (by kernel_rfl) (fun w hw => by go_simp) ?_
              refine wpIf_step (.int .i64 ((q : Int) + 1)) (by kernel_rfl) (fun w hw => by go_simp) ?_
              refine wpIf_step (.slice (some ⟨b6, off6 + q * 3, none⟩) 1 (c2 - q)) (by kernel_rfl) (fun w hw => by have e1 : ((q : Int) + 1) ≤ (c2 : Int) := (by omega); have e2 : (q : Int) ≤ (q : Int) + 1 := (by omega); go_simp; intro h5; omega) ?_
              refine wpIf_step (.agg #[.slice (some ⟨b6, off6 + q * 3, none⟩) 1 (c2 - q)]) (by kernel_rfl) (fun w hw => by go_simp) ?_
              refine wpIf_step (.pointer (some ⟨v1.heap.size, 0, none⟩)) (by kernel_rfl) (fun w hw => by go_simp) ?_
              refine wpIf_step (.slice (some ⟨b, off, none⟩) ss.length rc) (by kernel_rfl) (fun w hw => by have e0 := hw.2.cell 0 _ rfl; go_simp) ?_
              refine wpIf_step (.int .i64 (p : Int)) (by kernel_rfl) (fun w hw => by go_simp) ?_
              refine wpIf_step (.int .i64 (p : Int)) (by kernel_rfl) (fun w hw => by go_simp) ?_
              refine wpIf_step (.int .i64 ((p : Int) + 1)) (by kernel_rfl) (fun w hw => by go_simp) ?_
              refine wpIf_step (.slice (some ⟨b, off + p * 3, none⟩) 1 (rc - p)) (by kernel_rfl) (fun w hw => by have e1 : ((p : Int) + 1) ≤ (rc : Int) := (by omega); have e2 : (p : Int) ≤ (p : Int) + 1 := (by omega); go_simp; intro h5; omega) ?_
              refine wpIf_step (.agg #[.slice (some ⟨b, off + p * 3, none⟩) 1 (rc - p)]) (by kernel_rfl) (fun w hw => by go_simp) ?_
              refine wpIf_nil (fun hS9 => ?_)
              clear hS9
              refine wpAnyT_one 16 2 (by kernel_rfl) rfl (by kernel_rfl) (fun K hK => ?_)
              go_simp
              obtain ⟨b7, off7, hv7, _, _, _, _, hon⟩ := HC.out wd HPW.out.2.2.2.2
              cases hv7
              refine (sameReader_url _ _ sq sb _ (HO6.out _ HPW.out.2.2.2.1) hon HNE.out).mono ?_
              rintro e w8 ⟨rfl, hb8⟩
              clear hon
              replace HPW := Lib.hid (HPW.out.below hb8)
              replace hxa := hxa.keep hb8 hxa.lt
              replace hxr := hxr.keep hb8 hxr.lt
              refine hK _ _ ⟨⟨hxa, hxr⟩, fun _ => trivial⟩ (fun hS9 => ?_)
              clear hK K hS9 hb8
              refine wpAnyT_takesA (md := .any) 1 (by kernel_rfl) (by intro d v c a w h; cases d <;> exact h) [17] _ _ _ (by decide) (by kernel_rfl) ⟨⟨hxa, hxr⟩, fun _ => trivial⟩ ?_
              simp only [pick, List.filterMap_cons, List.filterMap_nil, List.getElem?_cons_zero, List.getElem?_cons_succ]
              refine wpIf_step (.bool false) (by kernel_rfl) (fun w hw => by go_simp) ?_
              refine wpIf_nil (fun hS9 => ?_)
              clear hS9
              refine wpAnyT_one 18 0 (by kernel_rfl) rfl (by kernel_rfl) (fun K hK => ?_)
              go_simp
              refine hK _ _ ⟨⟨hxa, hxr⟩, fun _ => trivial⟩ (fun hS9 => ?_)
              clear hK K hS9
              refine wpAnyT_over (by kernel_rfl) ?_
              go_wp2
              go_roundw
              case rel => exact ⟨q + 1, false, by omega, by go_num, rfl, Lib.hid (by simpa using HTN2.out), HPW⟩
              case measure => simp [intOf]; omega
end Go.Proofs.Ytffkakpbelknaaa

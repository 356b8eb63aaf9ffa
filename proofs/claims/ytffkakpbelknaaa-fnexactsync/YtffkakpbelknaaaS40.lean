/- Joined: W14t. -/
import Derived.Test.YtffkakpbelknaaaS39
/- W14t -/
namespace Go.Proofs.Ytffkakpbelknaaa
open Go.ChangeShapes Go.WideShapes Go.ChangeAt Go.RowKit
set_option linter.unusedVariables false
set_option linter.unusedSimpArgs false

set_option maxRecDepth 100000 in
set_option maxHeartbeats 1600000 in
theorem szDisk_any (vl vs vo : Value) (L S : List Fi) (os : List DOp) (n : Int) (w : World) (hL : FiAt w w.heap.size vl L) (hS : FiAt w w.heap.size vs S) (hO : OaAt w w.heap.size vo os) (h0 : 0 ≤ n) (h1 : n ≤ 1048576) :
    Calls Try.prog 28 #[dkV vl vs vo, .int .i64 n] w fun e w' => ∃ r : Int, e = .returned (.int .i64 r) ∧ -1 ≤ r ∧ (0 ≤ r → (L.length : Int) ≤ n ∧ (fiSum L : Int) ≤ n ∧ (S.length : Int) ≤ n ∧ (fiSum S : Int) ≤ n ∧ (os.length : Int) ≤ n ∧ ∀ j (hj : j < os.length), (os[j].da.size : Int) ≤ n) ∧ Below w.heap.size w w' := by
  have HL := Lib.hid hL
  have HS := Lib.hid hS
  have HO := Lib.hid hO
  have HA := Lib.hid (fun w h => szFileS_any vl L n w h h0 h1)
  have HB := Lib.hid (fun m w h h0 h1 => szFileS_any vs S m w h h0 h1)
  have HC := Lib.hid (fun m w h h0 h1 => szDOpS_any vo os m w h h0 h1)
  have hx0 := Box.new w #[vl, vs, vo] 56
  have hb0 : Below w.heap.size w (w.alloc (.cells #[vl, vs, vo] 56)) := (Below.refl _ _).alloc (Nat.le_refl _) _
  clear hL hS hO
  go_enter Try.func28, Try.ntmps28
  go_wp2_with fail
  refine (HA.out _ ((HL.out.below hb0).mono hb0.size)).mono ?_
  rintro e w1 ⟨r1, rfl, p0, p1, hb1⟩
  have hB1 := hb0.trans (hb1.mono hb0.size)
  have hx1 := hx0.keep hb1 hx0.lt
  have f1 := hx1.cell 1 _ rfl
  clear hb0 hb1 hx0
  by_cases q1 : r1 < 0
  · go_wp2
    go_ret
    exact ⟨-1, rfl, by omega, by omega, hB1⟩
  · have p2 := p1 (by omega)
    go_wp2_with fail
    refine (HB.out _ _ ((HS.out.below hB1).mono hB1.size) (by omega) (by omega)).mono ?_
    rintro e w2 ⟨r2, rfl, p3, p4, hb2⟩
    have hB2 := hB1.trans (hb2.mono hB1.size)
    have hx2 := hx1.keep hb2 hx1.lt
    have f2 := hx2.cell 2 _ rfl
    clear hb2 hB1 hx1 f1
    by_cases q2 : r2 < 0
    · go_wp2
      go_ret
      exact ⟨-1, rfl, by omega, by omega, hB2⟩
    · have p5 := p4 (by omega)
      go_wp2_with fail
      refine (HC.out _ _ ((HO.out.below hB2).mono hB2.size) (by omega) (by omega)).mono ?_
      rintro e w3 ⟨r3, rfl, p6, p7, hb3⟩
      have hB3 := hB2.trans (hb3.mono hB2.size)
      clear hb3 hB2 hx2 f2
      by_cases q3 : r3 < 0
      · go_wp2
        go_ret
        exact ⟨-1, rfl, by omega, by omega, hB3⟩
      · have p8 := p7 (by omega)
        have HZ : Hid (∀ j (hj : j < os.length), (os[j].da.size : Int) ≤ n) := Lib.hid (fun j hj => by have := p8.2.2 j hj; omega)
        have p9 := p8.2.1
        have p10 := p8.1
        clear p8 p7 p4 p1
        go_wp2
        go_ret
        exact ⟨r3, rfl, by omega, fun _ => ⟨by omega, by omega, by omega, by omega, by omega, HZ.out⟩, hB3⟩

set_option maxRecDepth 100000 in
set_option maxHeartbeats 1600000 in
theorem eqDisk_same (vl vs vo vl' vs' vo' : Value) (L S : List Fi) (os : List DOp) (w : World) (hL : FiAt w w.heap.size vl L) (hS : FiAt w w.heap.size vs S) (hO : OaAt w w.heap.size vo os) (hL' : FiAt w w.heap.size vl' L) (hS' : FiAt w w.heap.size vs' S) (hO' : OaAt w w.heap.size vo' os) :
    Calls Try.prog 34 #[dkV vl vs vo, dkV vl' vs' vo'] w fun e w' => e = .returned (.bool true) ∧ Below w.heap.size w w' := by
  have HL := Lib.hid hL
  have HS := Lib.hid hS
  have HO := Lib.hid hO
  have HL' := Lib.hid hL'
  have HS' := Lib.hid hS'
  have HO' := Lib.hid hO'
  have HA := Lib.hid (fun w h h' => eqFileS_same vl vl' L w h h')
  have HB := Lib.hid (fun w h h' => eqFileS_same vs vs' S w h h')
  have HC := Lib.hid (fun w h h' => eqDOpS_same vo vo' os w h h')
  have hy0 := Box.new (w.alloc (.cells #[vl, vs, vo] 64)) #[vl', vs', vo'] 64
  have hx0 := (Box.new w #[vl, vs, vo] 64).alloc (.cells #[vl', vs', vo'] 64)
  have hb0 : Below w.heap.size w ((w.alloc (.cells #[vl, vs, vo] 64)).alloc (.cells #[vl', vs', vo'] 64)) := ((Below.refl _ _).alloc (Nat.le_refl _) _).alloc (by simp) _
  rw [World.size_alloc] at hy0
  clear hL hS hO hL' hS' hO'
  go_enter Try.func34, Try.ntmps34
  go_wp2_with fail
  refine (HA.out _ ((HL.out.below hb0).mono hb0.size) ((HL'.out.below hb0).mono hb0.size)).mono ?_
  rintro e w1 ⟨rfl, hb1⟩
  have hB1 := hb0.trans (hb1.mono hb0.size)
  have hx1 := hx0.keep hb1 hx0.lt
  have hy1 := hy0.keep hb1 hy0.lt
  have f1 := hx1.cell 1 _ rfl
  have g1 := hy1.cell 1 _ rfl
  clear hb0 hb1 hx0 hy0
  go_wp2_with fail
  refine (HB.out _ ((HS.out.below hB1).mono hB1.size) ((HS'.out.below hB1).mono hB1.size)).mono ?_
  rintro e w2 ⟨rfl, hb2⟩
  have hB2 := hB1.trans (hb2.mono hB1.size)
  have hx2 := hx1.keep hb2 hx1.lt
  have hy2 := hy1.keep hb2 hy1.lt
  have f2 := hx2.cell 2 _ rfl
  have g2 := hy2.cell 2 _ rfl
  clear hB1 hb2 hx1 hy1 f1 g1
  go_wp2_with fail
  refine (HC.out _ ((HO.out.below hB2).mono hB2.size) ((HO'.out.below hB2).mono hB2.size)).mono ?_
  rintro e w3 ⟨rfl, hb3⟩
  have hB3 := hB2.trans (hb3.mono hB2.size)
  go_wp2
  go_ret
  exact ⟨rfl, hB3⟩

theorem Try.infDk1 : (Try.prog.info? 64).map (·.size) = some 3 := by kernel_rfl
theorem results_Dk {fn : Func} {p : Tmp} (h : fn.results = #[.cell p 64]) (tmps : Array Value) (w : World) (g : Nat) (cs : Array Value) (hz : cs.size = 3)
    (hp : tmps.getD p undef = .pointer (some ⟨g, 0, none⟩)) (hA : Box w g cs 64) : (results fn tmps).run Try.prog w = .ok (.agg cs) w :=
  results_cell_row h tmps w g _ _ _ _ hp hA Try.underlying64 rfl (by rw [hz]; exact Try.infDk1)
def ApartV (v u : Value) : Prop := ∀ g, v.ownBlock = some g → u.ownBlock ≠ some g
section
variable {α β : Type} {k k' : Nat} {C : α → List Value} {C' : β → List Value}
theorem OwnR.blk {e : TypeId} {w : World} {base : Nat} {v : Value} {l : List α} (h : OwnR e k C w base v l) (b : Nat) (hb : v.ownBlock = some b) : base ≤ b ∧ b < w.heap.size := by
  rcases h.2 with ⟨rfl, _⟩ | ⟨g, cap, cur, rfl, hb', hgg, rest⟩
  · cases hb
  · have e1 : g = b := Option.some.inj hb
    subst e1
    exact ⟨hb', (Array.getElem?_eq_some_iff.1 hgg).1⟩
theorem apart_of {e e' : TypeId} {w w' : World} {B B' : Nat} {v u : Value} {l : List α} {l' : List β} (h : OwnR e k C w B v l) (h' : OwnR e' k' C' w' B' u l') (hb : w.heap.size ≤ B') : ApartV v u := by
  intro g hg hu
  have h1 := h.blk g hg
  have h2 := h'.blk g hu
  omega
end
/-- What toDisk answers: a disk in memory of its own. -/
def OutDk (L S : List Fi) (os : List DOp) (w : World) (e : Ending) (w' : World) : Prop := ∃ vl vs vo, e = .returned (dkV vl vs vo) ∧ OwnR 167 2 fiC w' w.heap.size vl L ∧ OwnR 167 2 fiC w' w.heap.size vs S ∧ OwnR 68 4 doC w' w.heap.size vo os ∧ Below w.heap.size w w'
/-- The same, its three rows apart. -/
def OutDs (L S : List Fi) (os : List DOp) (w : World) (e : Ending) (w' : World) : Prop := ∃ vl vs vo, e = .returned (dkV vl vs vo) ∧ OwnR 167 2 fiC w' w.heap.size vl L ∧ OwnR 167 2 fiC w' w.heap.size vs S ∧ OwnR 68 4 doC w' w.heap.size vo os ∧ Below w.heap.size w w' ∧ ApartV vl vs ∧ ApartV vl vo ∧ ApartV vs vo
theorem OutDs.out {L S : List Fi} {os : List DOp} {w : World} {e : Ending} {w' : World} (h : OutDs L S os w e w') : OutDk L S os w e w' := by
  obtain ⟨vl, vs, vo, h0, h1, h2, h3, h4, _⟩ := h
  exact ⟨vl, vs, vo, h0, h1, h2, h3, h4⟩

set_option maxRecDepth 100000 in
set_option maxHeartbeats 1600000 in
theorem toDisk_own (vl vs vo : Value) (L S : List Fi) (os : List DOp) (w : World) (hL : FiAt w w.heap.size vl L) (hS : FiAt w w.heap.size vs S) (hO : OaAt w w.heap.size vo os) (nL : L.length ≤ 1048576) (nS : S.length ≤ 1048576) (nO : os.length ≤ 1048576) :
    Calls Try.prog 31 #[dkV vl vs vo] w (OutDs L S os w) := by
  have HL := Lib.hid hL
  have HS := Lib.hid hS
  have HO := Lib.hid hO
  have HA := Lib.hid (fun w h => toFileS_any vl L w h nL)
  have HB := Lib.hid (fun w h => toFileS_any vs S w h nS)
  have HC := Lib.hid (fun w h => toDOpS_any vo os w h nO)
  have hx0 := ((Box.new w #[vl, vs, vo] 56).alloc (.cells #[.slice none 0 0, .slice none 0 0, .slice none 0 0] 64)).alloc (.cells #[.slice none 0 0, .slice none 0 0, .slice none 0 0] 64)
  have hr0 := (Box.new (w.alloc (.cells #[vl, vs, vo] 56)) #[.slice none 0 0, .slice none 0 0, .slice none 0 0] 64).alloc (.cells #[.slice none 0 0, .slice none 0 0, .slice none 0 0] 64)
  have ho0 := Box.new ((w.alloc (.cells #[vl, vs, vo] 56)).alloc (.cells #[.slice none 0 0, .slice none 0 0, .slice none 0 0] 64)) #[.slice none 0 0, .slice none 0 0, .slice none 0 0] 64
  have hb0 : Below w.heap.size w (((w.alloc (.cells #[vl, vs, vo] 56)).alloc (.cells #[.slice none 0 0, .slice none 0 0, .slice none 0 0] 64)).alloc (.cells #[.slice none 0 0, .slice none 0 0, .slice none 0 0] 64)) := (((Below.refl _ _).alloc (Nat.le_refl _) _).alloc (by simp) _).alloc (by simp; omega) _
  rw [World.size_alloc] at hr0
  rw [World.size_alloc, World.size_alloc] at ho0
  clear hL hS hO
  go_enter Try.func31, Try.ntmps31
  go_wp2_with fail
  generalize ((w.alloc (.cells #[vl, vs, vo] 56)).alloc (.cells #[.slice none 0 0, .slice none 0 0, .slice none 0 0] 64)).alloc (.cells #[.slice none 0 0, .slice none 0 0, .slice none 0 0] 64) = W at hx0 hr0 ho0 hb0 ⊢
  refine (HA.out _ ((HL.out.below hb0).mono hb0.size)).mono ?_
  rintro e w1 ⟨v1, rfl, hown1, hb1⟩
  have hlo := ho0.lt
  have hs1 := hb1.size
  have hx1 := hx0.keep hb1 hx0.lt
  have hr1 := hr0.keep hb1 hr0.lt
  have ho1 := ho0.keep hb1 ho0.lt
  have hB1 := hb0.trans (hb1.mono hb0.size)
  obtain ⟨a1, c1, rfl⟩ := hown1.slice
  have f1 := hx1.cell 1 _ rfl
  have o0 := ho1.cell 0 _ rfl
  have fr := ho1.free
  clear hb1 hx0 hr0 ho0
  go_wp2_with fail
  have HO1 := Lib.hid (hown1.other ⟨w.heap.size + 1 + 1, 0, none⟩ (.slice a1 L.length c1) hlo)
  have hx2 := hx1.other ⟨w.heap.size + 1 + 1, 0, none⟩ (.slice a1 L.length c1) (by show w.heap.size ≠ w.heap.size + 1 + 1; omega)
  have hr2 := hr1.other ⟨w.heap.size + 1 + 1, 0, none⟩ (.slice a1 L.length c1) (by show w.heap.size + 1 ≠ w.heap.size + 1 + 1; omega)
  have ho2 := ho1.set 0 (.slice a1 L.length c1)
  have hB2 := hB1.setCell (p := ⟨w.heap.size + 1 + 1, 0, none⟩) (by show w.heap.size ≤ w.heap.size + 1 + 1; omega) (.slice a1 L.length c1)
  have hs2 : W.heap.size ≤ (w1.setCell ⟨w.heap.size + 1 + 1, 0, none⟩ (.slice a1 L.length c1)).heap.size := by simp; omega
  clear hown1 hx1 hr1 ho1 hB1 f1 o0 fr hb0
  generalize w1.setCell ⟨w.heap.size + 1 + 1, 0, none⟩ (.slice a1 L.length c1) = W2 at HO1 hx2 hr2 ho2 hB2 hs2 ⊢
  refine (HB.out _ ((HS.out.below hB2).mono hB2.size)).mono ?_
  rintro e w3 ⟨v3, rfl, hown3, hb3⟩
  have HP1 := Lib.hid (apart_of HO1.out hown3 (Nat.le_refl _))
  have hs3 := hb3.size
  have HO1b := Lib.hid (HO1.out.keep hb3 (Nat.le_refl _))
  have hx3 := hx2.keep hb3 hx2.lt
  have hr3 := hr2.keep hb3 hr2.lt
  have ho3 := ho2.keep hb3 ho2.lt
  have hB3 := hB2.trans (hb3.mono hB2.size)
  obtain ⟨a3, c3, rfl⟩ := hown3.slice
  have f2 := hx3.cell 2 _ rfl
  have o1 := ho3.cell 1 _ rfl
  have fr := ho3.free
  clear hb3 hx2 hr2 ho2 hB2 HO1
  go_wp2_with fail
  have HO1 := Lib.hid (HO1b.out.other ⟨w.heap.size + 1 + 1, 1, none⟩ (.slice a3 S.length c3) hlo)
  have HO3 := Lib.hid (hown3.other ⟨w.heap.size + 1 + 1, 1, none⟩ (.slice a3 S.length c3) (by show w.heap.size + 1 + 1 < W2.heap.size; omega))
  have hx4 := hx3.other ⟨w.heap.size + 1 + 1, 1, none⟩ (.slice a3 S.length c3) (by show w.heap.size ≠ w.heap.size + 1 + 1; omega)
  have hr4 := hr3.other ⟨w.heap.size + 1 + 1, 1, none⟩ (.slice a3 S.length c3) (by show w.heap.size + 1 ≠ w.heap.size + 1 + 1; omega)
  have ho4 := ho3.set 1 (.slice a3 S.length c3)
  have hB4 := hB3.setCell (p := ⟨w.heap.size + 1 + 1, 1, none⟩) (by show w.heap.size ≤ w.heap.size + 1 + 1; omega) (.slice a3 S.length c3)
  have hs4 : W2.heap.size ≤ (w3.setCell ⟨w.heap.size + 1 + 1, 1, none⟩ (.slice a3 S.length c3)).heap.size := by simp; omega
  clear hown3 hx3 hr3 ho3 hB3 f2 o1 fr HO1b
  generalize w3.setCell ⟨w.heap.size + 1 + 1, 1, none⟩ (.slice a3 S.length c3) = W4 at HO1 HO3 hx4 hr4 ho4 hB4 hs4 ⊢
  refine (HC.out _ ((HO.out.below hB4).mono hB4.size)).mono ?_
  rintro e w5 ⟨v5, rfl, hown5, hb5⟩
  have HP2 := Lib.hid (apart_of HO1.out hown5 (Nat.le_refl _))
  have HP3 := Lib.hid (apart_of HO3.out hown5 (Nat.le_refl _))
  have hs5 := hb5.size
  have HO1b := Lib.hid (HO1.out.keep hb5 (Nat.le_refl _))
  have HO3b := Lib.hid (HO3.out.keep hb5 (Nat.le_refl _))
  have hr5 := hr4.keep hb5 hr4.lt
  have ho5 := ho4.keep hb5 ho4.lt
  have hB5 := hB4.trans (hb5.mono hB4.size)
  obtain ⟨a5, c5, rfl⟩ := hown5.slice
  have o0 : w5.cell? ⟨w.heap.size + 1 + 1, 0, none⟩ = some (.slice a1 L.length c1) := ho5.cell 0 _ rfl
  have o1 : w5.cell? ⟨w.heap.size + 1 + 1, 1, none⟩ = some (.slice a3 S.length c3) := ho5.cell 1 _ rfl
  have o2 := ho5.cell 2 _ rfl
  have fr := ho5.free
  have q0 := hr5.cell 0 _ rfl
  have q1 := hr5.cell 1 _ rfl
  have q2 := hr5.cell 2 _ rfl
  have fr2 := hr5.free
  have HR5 := Lib.hid hr5
  have HB5 := Lib.hid hB5
  have HO5 := Lib.hid hown5
  clear hb5 hx4 hr4 ho4 hB4 HO1 HO3 hown5 hr5 ho5 hB5
  go_wp2
  have hR := (((HR5.out.other ⟨w.heap.size + 1 + 1, 2, none⟩ (.slice a5 os.length c5) (by show w.heap.size + 1 ≠ w.heap.size + 1 + 1; omega)).set 0 (.slice a1 L.length c1)).set 1 (.slice a3 S.length c3)).set 2 (.slice a5 os.length c5)
  have e1 := (((((HO1b.out.other ⟨w.heap.size + 1 + 1, 2, none⟩ (.slice a5 os.length c5) hlo).other ⟨w.heap.size + 1, 0, none⟩ (.slice a1 L.length c1) (by show w.heap.size + 1 < W.heap.size; omega)).other ⟨w.heap.size + 1, 1, none⟩ (.slice a3 S.length c3) (by show w.heap.size + 1 < W.heap.size; omega)).other ⟨w.heap.size + 1, 2, none⟩ (.slice a5 os.length c5) (by show w.heap.size + 1 < W.heap.size; omega))).base_mono (show w.heap.size ≤ W.heap.size by omega)
  have e3 := (((((HO3b.out.other ⟨w.heap.size + 1 + 1, 2, none⟩ (.slice a5 os.length c5) (by show w.heap.size + 1 + 1 < W2.heap.size; omega)).other ⟨w.heap.size + 1, 0, none⟩ (.slice a1 L.length c1) (by show w.heap.size + 1 < W2.heap.size; omega)).other ⟨w.heap.size + 1, 1, none⟩ (.slice a3 S.length c3) (by show w.heap.size + 1 < W2.heap.size; omega)).other ⟨w.heap.size + 1, 2, none⟩ (.slice a5 os.length c5) (by show w.heap.size + 1 < W2.heap.size; omega))).base_mono (show w.heap.size ≤ W2.heap.size by omega)
  have e5 := (((((HO5.out.other ⟨w.heap.size + 1 + 1, 2, none⟩ (.slice a5 os.length c5) (by show w.heap.size + 1 + 1 < W4.heap.size; omega)).other ⟨w.heap.size + 1, 0, none⟩ (.slice a1 L.length c1) (by show w.heap.size + 1 < W4.heap.size; omega)).other ⟨w.heap.size + 1, 1, none⟩ (.slice a3 S.length c3) (by show w.heap.size + 1 < W4.heap.size; omega)).other ⟨w.heap.size + 1, 2, none⟩ (.slice a5 os.length c5) (by show w.heap.size + 1 < W4.heap.size; omega))).base_mono (show w.heap.size ≤ W4.heap.size by omega)
  have hB := (((HB5.out.setCell (p := ⟨w.heap.size + 1 + 1, 2, none⟩) (by show w.heap.size ≤ w.heap.size + 1 + 1; omega) (.slice a5 os.length c5)).setCell (p := ⟨w.heap.size + 1, 0, none⟩) (by show w.heap.size ≤ w.heap.size + 1; omega) (.slice a1 L.length c1)).setCell (p := ⟨w.heap.size + 1, 1, none⟩) (by show w.heap.size ≤ w.heap.size + 1; omega) (.slice a3 S.length c3)).setCell (p := ⟨w.heap.size + 1, 2, none⟩) (by show w.heap.size ≤ w.heap.size + 1; omega) (.slice a5 os.length c5)
  exact bodyPost_ret (results_Dk rfl _ _ _ _ rfl rfl hR) rfl ⟨_, _, _, rfl, e1, e3, e5, hB, HP1.out, HP2.out, HP3.out⟩
theorem toDisk_any (vl vs vo : Value) (L S : List Fi) (os : List DOp) (w : World) (hL : FiAt w w.heap.size vl L) (hS : FiAt w w.heap.size vs S) (hO : OaAt w w.heap.size vo os) (nL : L.length ≤ 1048576) (nS : S.length ≤ 1048576) (nO : os.length ≤ 1048576) :
    Calls Try.prog 31 #[dkV vl vs vo] w (OutDk L S os w) :=
  (toDisk_own vl vs vo L S os w hL hS hO nL nS nO).mono (fun _ _ h => h.out)
end Go.Proofs.Ytffkakpbelknaaa

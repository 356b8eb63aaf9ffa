/- Joined: W14z. -/
import Derived.Test.YtffkakpbelknaaaS38
import Derived.Test.YtffkakpbelknaaaS47
import Derived.Test.YtffkakpbelknaaaS48
/- W14z -/
namespace Go.Proofs.Ytffkakpbelknaaa
open Go.ChangeShapes Go.WideShapes Go.ChangeAt Go.RowKit
set_option linter.unusedVariables false

theorem apart_nilR (v : Value) : ApartV v (.slice none 0 0) := fun g _ h => by cases h
theorem apart_nilL (v : Value) : ApartV (.slice none 0 0) v := fun g h _ => by cases h

set_option maxRecDepth 100000 in
set_option maxHeartbeats 1600000 in
theorem syncedDisk_own (vl : Value) (L : List Fi) (w : World) (hL : FiAt w w.heap.size vl L) (nL : L.length ≤ 1048576) :
    Calls Try.prog 84 #[vl] w (OutDs L L [] w) := by
  have HL := Lib.hid hL
  have hx0 := Box.new w #[.slice none 0 0, .slice none 0 0, .slice none 0 0] 64
  have hb0 : Below w.heap.size w (w.alloc (.cells #[.slice none 0 0, .slice none 0 0, .slice none 0 0] 64)) := (Below.refl _ _).alloc (Nat.le_refl _) _
  clear hL
  go_enter Try.func84, Try.ntmps84
  go_wp2_with fail
  generalize w.alloc (.cells #[.slice none 0 0, .slice none 0 0, .slice none 0 0] 64) = W at hx0 hb0 ⊢
  refine (cloneF_any vl L W (((HL.out.below hb0).mono hb0.size).1) (by omega)).mono ?_
  rintro e w1 ⟨v1, rfl, o1, hb1⟩
  have hs0 := hx0.lt
  have hx1 := hx0.keep hb1 hx0.lt
  have hB1 := hb0.trans (hb1.mono hb0.size)
  have hs1 := hb1.size
  have HO1 := Lib.hid o1
  clear hb1 o1 hx0
  go_wp2_with fail
  refine (cloneF_any vl L w1 (((HL.out.below hB1).mono hB1.size).1) (by omega)).mono ?_
  rintro e w2 ⟨v2, rfl, o2, hb2⟩
  have HP := Lib.hid (apart_of HO1.out o2 (Nat.le_refl _))
  have hx2 := hx1.keep hb2 hx1.lt
  have hB2 := hB1.trans (hb2.mono hB1.size)
  have HO1b := Lib.hid (HO1.out.keep hb2 (Nat.le_refl _))
  obtain ⟨p1, q1, rfl⟩ := HO1b.out.slice
  obtain ⟨p2, q2, rfl⟩ := o2.slice
  have HO2 := Lib.hid o2
  have HX2 := Lib.hid hx2
  have HB2 := Lib.hid hB2
  have z0 := hx2.cell 0 _ rfl
  have z1 := hx2.cell 1 _ rfl
  have z2 := hx2.cell 2 _ rfl
  have zf := hx2.free
  clear hb2 o2 hx1 hB1 hx2 hB2 HO1
  go_wp2
  have y4 := ((HX2.out.set 0 (.slice p1 L.length q1)).set 1 (.slice p2 L.length q2)).set 2 (.slice none 0 0)
  have e1 := (((HO1b.out.other ⟨w.heap.size, 0, none⟩ (.slice p1 L.length q1) hs0).other ⟨w.heap.size, 1, none⟩ (.slice p2 L.length q2) hs0).other ⟨w.heap.size, 2, none⟩ (.slice none 0 0) hs0).base_mono hb0.size
  have hs2 : w.heap.size < w1.heap.size := by omega
  have e2 := (((HO2.out.other ⟨w.heap.size, 0, none⟩ (.slice p1 L.length q1) hs2).other ⟨w.heap.size, 1, none⟩ (.slice p2 L.length q2) hs2).other ⟨w.heap.size, 2, none⟩ (.slice none 0 0) hs2).base_mono (show w.heap.size ≤ w1.heap.size by omega)
  have hB4 := ((HB2.out.setCell (p := ⟨w.heap.size, 0, none⟩) (Nat.le_refl _) (.slice p1 L.length q1)).setCell (p := ⟨w.heap.size, 1, none⟩) (Nat.le_refl _) (.slice p2 L.length q2)).setCell (p := ⟨w.heap.size, 2, none⟩) (Nat.le_refl _) (.slice none 0 0)
  exact bodyPost_ret (results_Dk rfl _ _ _ _ rfl rfl y4) rfl ⟨_, _, _, rfl, e1, e2, OwnR.nil _ _ _, hB4, HP.out, apart_nilR _, apart_nilR _⟩

def syL (L S : List Fi) (os : List DOp) : List Fi := if dkB L S os then L else []

set_option maxRecDepth 100000 in
set_option maxHeartbeats 1600000 in
theorem implSync_own (vl vs vo : Value) (L S : List Fi) (os : List DOp) (w : World) (hL : FiAt w w.heap.size vl L) (hS : FiAt w w.heap.size vs S) (hO : OdAt w w.heap.size vo os) (hsL : fiSum L ≤ 100000000000) (hsS : fiSum S ≤ 100000000000) (nL : L.length ≤ 1048576) :
    Calls Try.prog 38 #[dkV vl vs vo] w (OutDs (syL L S os) (syL L S os) [] w) := by
  have HSy : Hid (syL L S os = if dkB L S os then L else []) := Lib.hid rfl
  generalize syL L S os = Y at HSy ⊢
  have HL := Lib.hid hL
  have HS := Lib.hid hS
  have HO := Lib.hid hO
  have hx0 := (Box.new w #[vl, vs, vo] 64).alloc (.cells #[.slice none 0 0, .slice none 0 0, .slice none 0 0] 64)
  have hy0 := Box.new (w.alloc (.cells #[vl, vs, vo] 64)) #[.slice none 0 0, .slice none 0 0, .slice none 0 0] 64
  have hb0 : Below w.heap.size w ((w.alloc (.cells #[vl, vs, vo] 64)).alloc (.cells #[.slice none 0 0, .slice none 0 0, .slice none 0 0] 64)) := ((Below.refl _ _).alloc (Nat.le_refl _) _).alloc (by simp) _
  rw [World.size_alloc] at hy0
  clear hL hS hO
  go_enter Try.func38, Try.ntmps38
  go_wp2_with fail
  generalize (w.alloc (.cells #[vl, vs, vo] 64)).alloc (.cells #[.slice none 0 0, .slice none 0 0, .slice none 0 0] 64) = W at hx0 hy0 hb0 ⊢
  refine (implDiskOk_any vl vs vo L S os W ((HL.out.below hb0).mono hb0.size) ((HS.out.below hb0).mono hb0.size) ((HO.out.below hb0).mono hb0.size) hsL hsS).mono ?_
  rintro e w1 ⟨rfl, hb1⟩
  have hx1 := hx0.keep hb1 hx0.lt
  have hy1 := hy0.keep hb1 hy0.lt
  have hB1 := hb0.trans (hb1.mono hb0.size)
  generalize dkB L S os = R at HSy ⊢
  clear hb1 hx0 hy0 hb0
  cases R with
  | false =>
    have hY : Y = [] := HSy.out
    subst hY
    have z0 := hy1.cell 0 _ rfl
    have z1 := hy1.cell 1 _ rfl
    have z2 := hy1.cell 2 _ rfl
    have zf := hy1.free
    have HY1 := Lib.hid hy1
    have HB1 := Lib.hid hB1
    clear hx1 hy1 hB1
    go_wp2
    have y4 := ((HY1.out.set 0 (.slice none 0 0)).set 1 (.slice none 0 0)).set 2 (.slice none 0 0)
    have hB4 := ((HB1.out.setCell (p := ⟨w.heap.size + 1, 0, none⟩) (Nat.le_succ _) (.slice none 0 0)).setCell (p := ⟨w.heap.size + 1, 1, none⟩) (Nat.le_succ _) (.slice none 0 0)).setCell (p := ⟨w.heap.size + 1, 2, none⟩) (Nat.le_succ _) (.slice none 0 0)
    exact bodyPost_ret (results_Dk rfl _ _ _ _ rfl rfl y4) rfl ⟨_, _, _, rfl, OwnR.nil _ _ _, OwnR.nil _ _ _, OwnR.nil _ _ _, hB4, apart_nilR _, apart_nilR _, apart_nilR _⟩
  | true =>
    have hY : L = Y := HSy.out.symm
    subst hY
    have z0 := hx1.cell 0 _ rfl
    go_wp2_with fail
    refine (syncedDisk_own vl L w1 ((HL.out.below hB1).mono hB1.size) nL).mono ?_
    rintro e w2 ⟨v1, v2, v3, rfl, o1, o2, o3, hb2, p1, p2, p3⟩
    obtain ⟨b1, c1, rfl⟩ := o1.slice
    obtain ⟨b2, c2, rfl⟩ := o2.slice
    obtain ⟨b3, c3, rfl⟩ := o3.slice
    have hs1 := hB1.size
    have hl1 := hy1.lt
    have HY2 := Lib.hid (hy1.keep hb2 hy1.lt)
    have HB2 := Lib.hid (hB1.trans (hb2.mono hB1.size))
    have HO1 := Lib.hid o1
    have HO2 := Lib.hid o2
    have HO3 := Lib.hid o3
    have HP := Lib.hid (And.intro p1 (And.intro p2 p3))
    have z0 := HY2.out.cell 0 _ rfl
    have z1 := HY2.out.cell 1 _ rfl
    have z2 := HY2.out.cell 2 _ rfl
    have zf := HY2.out.free
    clear hb2 o1 o2 o3 p1 p2 p3 hx1 hy1
    unfold dkV
    go_wp2
    have y4 := ((HY2.out.set 0 (.slice b1 L.length c1)).set 1 (.slice b2 L.length c2)).set 2 (.slice b3 0 c3)
    have e1 := (((HO1.out.other ⟨w.heap.size + 1, 0, none⟩ (.slice b1 L.length c1) hl1).other ⟨w.heap.size + 1, 1, none⟩ (.slice b2 L.length c2) hl1).other ⟨w.heap.size + 1, 2, none⟩ (.slice b3 0 c3) hl1).base_mono hs1
    have e2 := (((HO2.out.other ⟨w.heap.size + 1, 0, none⟩ (.slice b1 L.length c1) hl1).other ⟨w.heap.size + 1, 1, none⟩ (.slice b2 L.length c2) hl1).other ⟨w.heap.size + 1, 2, none⟩ (.slice b3 0 c3) hl1).base_mono hs1
    have e3 := (((HO3.out.other ⟨w.heap.size + 1, 0, none⟩ (.slice b1 L.length c1) hl1).other ⟨w.heap.size + 1, 1, none⟩ (.slice b2 L.length c2) hl1).other ⟨w.heap.size + 1, 2, none⟩ (.slice b3 0 c3) hl1).base_mono hs1
    have hB4 := ((HB2.out.setCell (p := ⟨w.heap.size + 1, 0, none⟩) (Nat.le_succ _) (.slice b1 L.length c1)).setCell (p := ⟨w.heap.size + 1, 1, none⟩) (Nat.le_succ _) (.slice b2 L.length c2)).setCell (p := ⟨w.heap.size + 1, 2, none⟩) (Nat.le_succ _) (.slice b3 0 c3)
    exact bodyPost_ret (results_Dk rfl _ _ _ _ rfl rfl y4) rfl ⟨_, _, _, rfl, e1, e2, e3, hB4, HP.out.1, HP.out.2.1, HP.out.2.2⟩
end Go.Proofs.Ytffkakpbelknaaa

/- What the laws on dates draw: dates. -/
import Derived.Test.YtgimjfffdnopiaaDoorDraw4
import Derived.Test.YtgimjfffdnopiaaDoorFloEx
import Derived.Test.YtgimjfffdnopiaaDoorDraw14
import Derived.Test.YtgimjfffdnopiaaDoorPlainD3
namespace Go.Proofs.YtgimjfffdnopiaaDoor
open Go.ChangeShapes Go.WideShapes Go.ChangeAt Go.RowKit
set_option linter.unusedVariables false
set_option linter.unusedSimpArgs false

theorem put3da (w : World) (g : Nat) (a b c : Value) {cs : Array Value} {t : TypeId} (h : Box w g cs t) (hz : cs.size = 3) : Box (((w.setCell ⟨g, 0, none⟩ a).setCell ⟨g, 1, none⟩ b).setCell ⟨g, 2, none⟩ c) g #[a, b, c] t := by
  obtain ⟨xs, rfl, hl⟩ := arrS hz
  exact Box.fillAll (us := [a, b, c]) h hl.symm
theorem below3da (w : World) (B g : Nat) (hB : B ≤ g) (a b c : Value) : Below B w (((w.setCell ⟨g, 0, none⟩ a).setCell ⟨g, 1, none⟩ b).setCell ⟨g, 2, none⟩ c) := below_putRow g B hB [a, b, c] 0 w

set_option maxRecDepth 100000 in
set_option maxHeartbeats 2000000 in
theorem date_any (base rb : Nat) (cv : Value) (zs : List Int) (w : World) (h : Rd w base rb cv zs) :
    Calls Tryd.prog 52 #[.pointer (some ⟨rb, 0, none⟩)] w fun e w' => ∃ y m d : Int, e = .returned (dV y m d) ∧ Rd w' base rb cv zs ∧ w.grownBy w' (some rb) := by
  have hrb0 := h.lt
  have hrd0 := h.alloc (.cells #[.int .i64 0, .int .i64 0, .int .i64 0] 25)
  have hg0 := World.grownBy_alloc w (.cells #[.int .i64 0, .int .i64 0, .int .i64 0] 25) (some rb)
  have hz0 := Box.new w #[.int .i64 0, .int .i64 0, .int .i64 0] 25
  clear h
  go_enter Tryd.func52, Tryd.ntmps52
  go_wp2_with fail
  generalize w.alloc (.cells #[.int .i64 0, .int .i64 0, .int .i64 0] 25) = W0 at hrd0 hg0 hz0 ⊢
  refine (below_any 110 base rb cv zs _ hrd0 (by omega) (by omega)).mono ?_
  rintro e w1 ⟨x1, rfl, h10, h11, hr1, hgx⟩
  have hz1 := hz0.keepG hgx (by omega)
  have hgw := grown_trans hg0 hgx
  clear hgx hz0 hg0 hrd0
  go_wp2_with fail
  refine (below_any 12 base rb cv zs _ hr1 (by omega) (by omega)).mono ?_
  rintro e w1 ⟨x2, rfl, h20, h21, hr1, hgx⟩
  replace hz1 := hz1.keepG hgx (by omega)
  replace hgw := grown_trans hgw hgx
  clear hgx
  go_wp2_with fail
  refine (below_any 31 base rb cv zs _ hr1 (by omega) (by omega)).mono ?_
  rintro e w1 ⟨x3, rfl, h30, h31, hr1, hgx⟩
  replace hz1 := hz1.keepG hgx (by omega)
  replace hgw := grown_trans hgw hgx
  clear hgx
  have hb := Box.new w1 #[.int .i64 (1996 + x1), .int .i64 (1 + x2), .int .i64 (1 + x3)] 25
  have hgne : w1.heap.size ≠ rb := by have := hr1.lt; omega
  have hgw2 : w.heap.size < w1.heap.size := hz1.lt
  have hgw3 : rb + 1 ≤ w1.heap.size := hr1.lt
  replace hz1 := hz1.alloc (.cells #[.int .i64 (1996 + x1), .int .i64 (1 + x2), .int .i64 (1 + x3)] 25)
  replace hgw := grown_trans hgw (World.grownBy_alloc w1 (.cells #[.int .i64 (1996 + x1), .int .i64 (1 + x2), .int .i64 (1 + x3)] 25) (some rb))
  replace hr1 := hr1.alloc (.cells #[.int .i64 (1996 + x1), .int .i64 (1 + x2), .int .i64 (1 + x3)] 25)
  go_wp2_with fail
  generalize w1.alloc (.cells #[.int .i64 (1996 + x1), .int .i64 (1 + x2), .int .i64 (1 + x3)] 25) = W1 at hb hz1 hgw hr1 ⊢
  generalize w1.heap.size = g10 at hb hgne hgw2 hgw3 ⊢
  refine (below_any 12 base rb cv zs _ hr1 (by omega) (by omega)).mono ?_
  rintro e w2 ⟨xx, rfl, hxx0, hxx1, hr1, hgx⟩
  replace hb := hb.keepG hgx hgne
  replace hz1 := hz1.keepG hgx (by omega)
  replace hgw := grown_trans hgw hgx
  clear hgx
  by_cases q9 : xx = 9
  case pos =>
    subst q9
    go_wp2_with fail
    refine (below_any 5 base rb cv zs _ hr1 (by omega) (by omega)).mono ?_
    rintro e w3 ⟨xy, rfl, hxy0, hxy1, hr1, hgx⟩
    replace hb := hb.keepG hgx hgne
    replace hz1 := hz1.keepG hgx (by omega)
    replace hgw := grown_trans hgw hgx
    clear hgx
    have g0 := hb.free 0
    have g1 := hb.free 1
    have g2 := hb.free 2
    have yk0 := hb.cell 0 _ rfl
    have yk1 := hb.cell 1 _ rfl
    have yk2 := hb.cell 2 _ rfl
    replace hb := hb.set 0 (.int .i64 ((2000 + 100 * xy)))
    change Box _ g10 #[.int .i64 (2000 + 100 * xy), .int .i64 (1 + x2), .int .i64 (1 + x3)] _ at hb
    have hbe : Below g10 w3 (w3.setCell ⟨g10, 0, none⟩ (.int .i64 ((2000 + 100 * xy)))) := (Below.refl _ _).setCell (p := ⟨g10, 0, none⟩) (Nat.le_refl _) _
    replace hr1 := hr1.below (hbe.mono (show rb + 1 ≤ g10 by omega)) (Nat.lt_succ_self rb)
    replace hz1 := hz1.keep hbe hgw2
    replace hgw := gw_below16 hgw (hbe.mono (Nat.le_of_lt hgw2)) (Nat.le_refl _)
    clear hbe
    replace hb := hb.set 1 (.int .i64 (2))
    change Box _ g10 #[.int .i64 (2000 + 100 * xy), .int .i64 2, .int .i64 (1 + x3)] _ at hb
    have hbe : Below g10 (w3.setCell ⟨g10, 0, none⟩ (.int .i64 ((2000 + 100 * xy)))) ((w3.setCell ⟨g10, 0, none⟩ (.int .i64 ((2000 + 100 * xy)))).setCell ⟨g10, 1, none⟩ (.int .i64 (2))) := (Below.refl _ _).setCell (p := ⟨g10, 1, none⟩) (Nat.le_refl _) _
    replace hr1 := hr1.below (hbe.mono (show rb + 1 ≤ g10 by omega)) (Nat.lt_succ_self rb)
    replace hz1 := hz1.keep hbe hgw2
    replace hgw := gw_below16 hgw (hbe.mono (Nat.le_of_lt hgw2)) (Nat.le_refl _)
    clear hbe
    replace hb := hb.set 2 (.int .i64 (29))
    change Box _ g10 #[.int .i64 (2000 + 100 * xy), .int .i64 2, .int .i64 29] _ at hb
    have hbe : Below g10 ((w3.setCell ⟨g10, 0, none⟩ (.int .i64 ((2000 + 100 * xy)))).setCell ⟨g10, 1, none⟩ (.int .i64 (2))) (((w3.setCell ⟨g10, 0, none⟩ (.int .i64 ((2000 + 100 * xy)))).setCell ⟨g10, 1, none⟩ (.int .i64 (2))).setCell ⟨g10, 2, none⟩ (.int .i64 (29))) := (Below.refl _ _).setCell (p := ⟨g10, 2, none⟩) (Nat.le_refl _) _
    replace hr1 := hr1.below (hbe.mono (show rb + 1 ≤ g10 by omega)) (Nat.lt_succ_self rb)
    replace hz1 := hz1.keep hbe hgw2
    replace hgw := gw_below16 hgw (hbe.mono (Nat.le_of_lt hgw2)) (Nat.le_refl _)
    clear hbe
    have y0 := hb.cell 0 _ rfl
    have y1 := hb.cell 1 _ rfl
    have y2 := hb.cell 2 _ rfl
    have z0 := hz1.cell 0 _ rfl
    have z1 := hz1.cell 1 _ rfl
    have z2 := hz1.cell 2 _ rfl
    have f0 := hz1.free 0
    have f1 := hz1.free 1
    have f2 := hz1.free 2
    go_wp2
    refine bodyPost_ret (results_date rfl _ _ _ (2000 + 100 * xy) 2 29 rfl (put3da _ _ _ _ _ hz1 rfl)) rfl ?_
    exact ⟨(2000 + 100 * xy), 2, 29, rfl, hr1.below (below3da _ (rb + 1) _ (by omega) _ _ _) (Nat.lt_succ_self rb), gw_below16 hgw (below3da _ w.heap.size _ (Nat.le_refl _) _ _ _) (Nat.le_refl _)⟩
  by_cases q10 : xx = 10
  case pos =>
    subst q10
    go_wp2_with fail
    refine (off_any 1970 2517 base rb cv zs _ hr1 (by omega) (by omega) (by omega)).mono ?_
    rintro e w3 ⟨yy, rfl, hyy, hr1, hgx⟩
    replace hb := hb.keepG hgx hgne
    replace hz1 := hz1.keepG hgx (by omega)
    replace hgw := grown_trans hgw hgx
    clear hgx
    have g0 := hb.free 0
    have g1 := hb.free 1
    have g2 := hb.free 2
    have yk0 := hb.cell 0 _ rfl
    replace hb := hb.set 0 (.int .i64 (yy))
    change Box _ g10 #[.int .i64 yy, .int .i64 (1 + x2), .int .i64 (1 + x3)] _ at hb
    have hbe : Below g10 w3 (w3.setCell ⟨g10, 0, none⟩ (.int .i64 (yy))) := (Below.refl _ _).setCell (p := ⟨g10, 0, none⟩) (Nat.le_refl _) _
    replace hr1 := hr1.below (hbe.mono (show rb + 1 ≤ g10 by omega)) (Nat.lt_succ_self rb)
    replace hz1 := hz1.keep hbe hgw2
    replace hgw := gw_below16 hgw (hbe.mono (Nat.le_of_lt hgw2)) (Nat.le_refl _)
    clear hbe
    have y0 := hb.cell 0 _ rfl
    have y1 := hb.cell 1 _ rfl
    have y2 := hb.cell 2 _ rfl
    have z0 := hz1.cell 0 _ rfl
    have z1 := hz1.cell 1 _ rfl
    have z2 := hz1.cell 2 _ rfl
    have f0 := hz1.free 0
    have f1 := hz1.free 1
    have f2 := hz1.free 2
    go_wp2
    refine bodyPost_ret (results_date rfl _ _ _ yy (1 + x2) (1 + x3) rfl (put3da _ _ _ _ _ hz1 rfl)) rfl ?_
    exact ⟨yy, (1 + x2), (1 + x3), rfl, hr1.below (below3da _ (rb + 1) _ (by omega) _ _ _) (Nat.lt_succ_self rb), gw_below16 hgw (below3da _ w.heap.size _ (Nat.le_refl _) _ _ _) (Nat.le_refl _)⟩
  by_cases q11 : xx = 11
  case pos =>
    subst q11
    go_wp2_with fail
    refine (off_any 1 31 base rb cv zs _ hr1 (by omega) (by omega) (by omega)).mono ?_
    rintro e w3 ⟨dd, rfl, hdd, hr1, hgx⟩
    replace hb := hb.keepG hgx hgne
    replace hz1 := hz1.keepG hgx (by omega)
    replace hgw := grown_trans hgw hgx
    clear hgx
    have g0 := hb.free 0
    have g1 := hb.free 1
    have g2 := hb.free 2
    have yk2 := hb.cell 2 _ rfl
    replace hb := hb.set 2 (.int .i64 (dd))
    change Box _ g10 #[.int .i64 (1996 + x1), .int .i64 (1 + x2), .int .i64 dd] _ at hb
    have hbe : Below g10 w3 (w3.setCell ⟨g10, 2, none⟩ (.int .i64 (dd))) := (Below.refl _ _).setCell (p := ⟨g10, 2, none⟩) (Nat.le_refl _) _
    replace hr1 := hr1.below (hbe.mono (show rb + 1 ≤ g10 by omega)) (Nat.lt_succ_self rb)
    replace hz1 := hz1.keep hbe hgw2
    replace hgw := gw_below16 hgw (hbe.mono (Nat.le_of_lt hgw2)) (Nat.le_refl _)
    clear hbe
    have y0 := hb.cell 0 _ rfl
    have y1 := hb.cell 1 _ rfl
    have y2 := hb.cell 2 _ rfl
    have z0 := hz1.cell 0 _ rfl
    have z1 := hz1.cell 1 _ rfl
    have z2 := hz1.cell 2 _ rfl
    have f0 := hz1.free 0
    have f1 := hz1.free 1
    have f2 := hz1.free 2
    go_wp2
    refine bodyPost_ret (results_date rfl _ _ _ (1996 + x1) (1 + x2) dd rfl (put3da _ _ _ _ _ hz1 rfl)) rfl ?_
    exact ⟨(1996 + x1), (1 + x2), dd, rfl, hr1.below (below3da _ (rb + 1) _ (by omega) _ _ _) (Nat.lt_succ_self rb), gw_below16 hgw (below3da _ w.heap.size _ (Nat.le_refl _) _ _ _) (Nat.le_refl _)⟩
  have n9 : (xx == 9) = false := by simpa using q9
  have n10 : (xx == 10) = false := by simpa using q10
  have n11 : (xx == 11) = false := by simpa using q11
  have y0 := hb.cell 0 _ rfl
  have y1 := hb.cell 1 _ rfl
  have y2 := hb.cell 2 _ rfl
  have z0 := hz1.cell 0 _ rfl
  have z1 := hz1.cell 1 _ rfl
  have z2 := hz1.cell 2 _ rfl
  have f0 := hz1.free 0
  have f1 := hz1.free 1
  have f2 := hz1.free 2
  go_wp2
  refine bodyPost_ret (results_date rfl _ _ _ (1996 + x1) (1 + x2) (1 + x3) rfl (put3da _ _ _ _ _ hz1 rfl)) rfl ?_
  exact ⟨(1996 + x1), (1 + x2), (1 + x3), rfl, hr1.below (below3da _ (rb + 1) _ (by omega) _ _ _) (Nat.lt_succ_self rb), gw_below16 hgw (below3da _ w.heap.size _ (Nat.le_refl _) _ _ _) (Nat.le_refl _)⟩
end Go.Proofs.YtgimjfffdnopiaaDoor

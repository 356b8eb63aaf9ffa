/- Parts of the proof. -/
import Derived.WalkLawsBesides
import Derived.Test.YtffkakpbelknaaaGreatDoorO8
import Derived.Test.YtffkakpbelknaaaGreatDoorO17
import Derived.Test.YtffkakpbelknaaaGreatDoorO33
namespace Go.Proofs.YtffkakpbelknaaaGreatDoor
set_option maxHeartbeats 4000000
set_option maxRecDepth 100000
open Go.ChangeShapes Go.WideShapes Go.ChangeAt Go.RowKit
set_option linter.unusedVariables false
set_option linter.unusedSimpArgs false
theorem title_any (base rb : Nat) (cv : Value) (zs : List Int) (w : World) (h : Rd w base rb cv zs) :
  Calls Tryz.prog 90 #[.pointer (some ⟨rb, 0, none⟩)] w fun e w' => ∃ t : ByteArray, e = .returned (.string t) /\ t.size <= 8 /\ Rd w' base rb cv zs /\ w.grownBy w' (some rb) := by
 go_enter Tryz.func90, Tryz.ntmps90
 go_wp2_with fail
 refine (once_any 30 base rb cv zs _ h (by omega) (by omega)).mono ?_
 rintro e w1 ⟨b, rfl, hr1, hg1⟩
 cases b with
 | true =>
  go_wp2
  go_ret
  exact ⟨_, rfl, by decide, hr1, hg1⟩
 | false =>
  go_wp2_with fail
  refine (below_any 6 base rb cv zs _ (hr1.alloc _) (by omega) (by omega)).mono ?_
  rintro e w2 ⟨y, rfl, hy0, hy1, hr2, hg2⟩
  have hlt := hr1.lt
  have hblk := (hg2.block w1.heap.size (by simp) (by simp; omega)).trans (heap_alloc_new w1 _)
  have c0 := cell_of_cells (i := 0) hblk rfl
  have c1 := cell_of_cells (i := 1) hblk rfl
  have c2 := cell_of_cells (i := 2) hblk rfl
  have c3 := cell_of_cells (i := 3) hblk rfl
  have c4 := cell_of_cells (i := 4) hblk rfl
  have c5 := cell_of_cells (i := 5) hblk rfl
  have hg3 := grown_trans (grown_trans hg1 (World.grownBy_alloc w1 _ (some rb))) hg2
  clear hblk hg2 hg1
  rcases (show y = 0 \/ y = 1 \/ y = 2 \/ y = 3 \/ y = 4 \/ y = 5 by omega) with rfl | rfl | rfl | rfl | rfl | rfl
  all_goals
   go_wp2
   go_ret
   exact ⟨_, rfl, by decide, hr2, hg3⟩
theorem url_any (base rb : Nat) (cv : Value) (zs : List Int) (w : World) (h : Rd w base rb cv zs) :
  Calls Tryz.prog 89 #[.pointer (some ⟨rb, 0, none⟩)] w fun e w' => ∃ t : ByteArray, e = .returned (.string t) /\ t.size <= 3 /\ Rd w' base rb cv zs /\ w.grownBy w' (some rb) := by
 go_enter Tryz.func89, Tryz.ntmps89
 go_wp2_with fail
 refine (once_any 40 base rb cv zs _ h (by omega) (by omega)).mono ?_
 rintro e w1 ⟨b, rfl, hr1, hg1⟩
 cases b with
 | true =>
  go_wp2
  go_ret
  exact ⟨_, rfl, by decide, hr1, hg1⟩
 | false =>
  go_wp2_with fail
  refine (below_any 4 base rb cv zs _ (hr1.alloc _) (by omega) (by omega)).mono ?_
  rintro e w2 ⟨y, rfl, hy0, hy1, hr2, hg2⟩
  have hlt := hr1.lt
  have hblk := (hg2.block w1.heap.size (by simp) (by simp; omega)).trans (heap_alloc_new w1 _)
  have c0 := cell_of_cells (i := 0) hblk rfl
  have c1 := cell_of_cells (i := 1) hblk rfl
  have c2 := cell_of_cells (i := 2) hblk rfl
  have c3 := cell_of_cells (i := 3) hblk rfl
  have hg3 := grown_trans (grown_trans hg1 (World.grownBy_alloc w1 _ (some rb))) hg2
  clear hblk hg2 hg1
  rcases (show y = 0 \/ y = 1 \/ y = 2 \/ y = 3 by omega) with rfl | rfl | rfl | rfl
  all_goals
   go_wp2
   go_ret
   exact ⟨_, rfl, by decide, hr2, hg3⟩
theorem gw_below {w wr w' : World} {row : Option Nat} {B : Nat} (h : w.grownBy wr row) (hb : Below B wr w') (hB : w.heap.size <= B) : w.grownBy w' row :=
 ⟨hb.os.trans h.os, hb.tape.trans h.tape, hb.output.trans h.output, Nat.le_trans h.size hb.size, fun k hk hne => (hb.block k (by omega)).trans (h.block k hk hne)⟩
theorem below3 (w : World) (B g : Nat) (hB : B <= g) (a b c : Value) : Below B w (((w.setCell ⟨g, 0, none⟩ a).setCell ⟨g, 1, none⟩ b).setCell ⟨g, 2, none⟩ c) := (((Below.refl B w).setCell (p := ⟨g, 0, none⟩) hB a).setCell (p := ⟨g, 1, none⟩) hB b).setCell (p := ⟨g, 2, none⟩) hB c
abbrev ids6 : Array Value := #[.string ⟨#[49]⟩, .string ⟨#[50]⟩, .string ⟨#[51]⟩, .string ⟨#[52]⟩, .string ⟨#[53]⟩, .string ⟨#[120, 60, 121]⟩]
def itP (rb : Nat) (w0 : World) (i : Nat) (v : Value) (wr : World) : Prop := match i with
 | 0 => ∃ g, v = .slice (some ⟨g, 0, none⟩) 6 6 /\ g ≠ rb /\ Box wr g ids6 9
 | 2 => ∃ x : Nat, v = .int .i64 (x : Int) /\ x < 6
 | 3 => ∃ g x : Nat, v = .pointer (some ⟨g, x, none⟩) /\ x < 6 /\ g ≠ rb /\ Box wr g ids6 9
 | 4 => ∃ t : ByteArray, v = .string t /\ t.size <= 3
 | 6 => ∃ t : ByteArray, v = .string t /\ t.size <= 8
 | 8 => ∃ x : Int, v = .int .i64 x /\ 0 <= x /\ x < 9
 | 9 => ∃ x : Int, v = .int .i64 x /\ 20000 <= x /\ x < 20009
 | 10 => ∃ it : It, v = itV it.id it.ti it.da /\ it.id.size <= 3 /\ it.ti.size <= 8
 | 11 => ∃ g, v = .pointer (some ⟨g, 0, none⟩) /\ g ≠ rb /\ w0.heap.size < g /\ Box wr g #[.string ⟨#[]⟩, .string ⟨#[]⟩, .int .i64 0] 55
 | _ => True
theorem itP_keep {rb : Nat} {w0 w w' : World} (hb : ∀ g cs t, g ≠ rb -> Box w g cs t -> Box w' g cs t) (i : Nat) (v : Value) (h : itP rb w0 i v w) : itP rb w0 i v w' := by
 unfold itP at h ⊢
 split at h
 ·obtain ⟨g, h1, h2, h3⟩ := h; exact ⟨g, h1, h2, hb _ _ _ h2 h3⟩
 ·exact h
 ·obtain ⟨g, x, h1, h2, h3, h4⟩ := h; exact ⟨g, x, h1, h2, h3, hb _ _ _ h3 h4⟩
 ·exact h
 ·exact h
 ·exact h
 ·exact h
 ·exact h
 ·obtain ⟨g, h1, h2, h3, h4⟩ := h; exact ⟨g, h1, h2, h3, hb _ _ _ h2 h4⟩
 ·trivial
theorem Box.keepG {w w' : World} {g rb : Nat} {cs : Array Value} {t : TypeId} (h : Box w g cs t) (hg : w.grownBy w' (some rb)) (hne : g ≠ rb) : Box w' g cs t := (hg.block g h.lt (fun e => hne (Option.some.inj e))).trans h
theorem item_any (base rb : Nat) (cv : Value) (zs : List Int) (w : World) (h : Rd w base rb cv zs) :
  Calls Tryz.prog 93 #[.pointer (some ⟨rb, 0, none⟩)] w fun e w' => ∃ it : It, e = .returned (itV it.id it.ti it.da) /\ it.id.size <= 3 /\ it.ti.size <= 8 /\ Rd w' base rb cv zs /\ w.grownBy w' (some rb) := by
 have hrb := h.lt
 have hr0 := h.alloc (.cells #[.string ⟨#[]⟩, .string ⟨#[]⟩, .int .i64 0] 55)
 have hg0 := World.grownBy_alloc w (.cells #[.string ⟨#[]⟩, .string ⟨#[]⟩, .int .i64 0] 55) (some rb)
 have hz0 := Box.new w #[.string ⟨#[]⟩, .string ⟨#[]⟩, .int .i64 0] 55
 clear h
 go_enter Tryz.func93, Tryz.ntmps93
 go_wp2
 generalize w.alloc (.cells #[.string ⟨#[]⟩, .string ⟨#[]⟩, .int .i64 0] 55) = W0 at hr0 hg0 hz0 ⊢
 refine wp_region_T (fun _ => True) (fun _ => True) 12 (by kernel_rfl) 13 rfl ?_
 refine wA 10 [1, 5, 7] ⟨trivial, fun _ => trivial⟩ ?_
 simp only [pick, List.filterMap_cons, List.filterMap_nil, List.getElem?_cons_zero, List.getElem?_cons_succ]
 refine wS (.pointer (some ⟨rb, 0, none⟩)) (fun w hw => by go_simp) ?_
 refine wS (.pointer (some ⟨rb, 0, none⟩)) (fun w hw => by go_simp) ?_
 refine wS (.pointer (some ⟨rb, 0, none⟩)) (fun w hw => by go_simp) ?_
 refine wpIf_nil (fun hS => ?_)
 clear hS
 refine wpAnyT_flo (fun i => decide (i < 12)) (by kernel_rfl) (by kernel_rfl) 1 (fun L a wr => ∃ (c : Nat -> Bool) (s : Nat -> Value), L = #[c 0, true, c 2, c 3, c 4, true, c 6, true, c 8, c 9, c 10, c 11, false] /\ a = { tmps := #[.pointer (some ⟨rb, 0, none⟩), undef, .pointer (some ⟨w.heap.size, 0, none⟩), sl c s 11, sl c s 0, .pointer (some ⟨rb, 0, none⟩), sl c s 2, sl c s 3, sl c s 4, .pointer (some ⟨rb, 0, none⟩), sl c s 6, .pointer (some ⟨rb, 0, none⟩), sl c s 8, sl c s 9, sl c s 10, undef, undef, undef, undef, undef, undef], defers := [] } /\ FloS (itP rb w) (fun wr => Rd wr base rb cv zs /\ w.grownBy wr (some rb) /\ Box wr w.heap.size #[.string ⟨#[]⟩, .string ⟨#[]⟩, .int .i64 0] 55) c s wr) ?_ ?_ ?_ 9 _ _ _ ?_ ?_
 ·rintro L a wr ⟨c, s, rfl, _, _⟩
  rfl
 ·rintro L a wr i o ⟨c, s, rfl, rfl, hF⟩ ho hfl hL hdep
  have hi : i < 12 := of_decide_eq_true hfl
  obtain ⟨hrd, hgr, hzz⟩ := hF.fr
  rcases (show i = 0 \/ i = 1 \/ i = 2 \/ i = 3 \/ i = 4 \/ i = 5 \/ i = 6 \/ i = 7 \/ i = 8 \/ i = 9 \/ i = 10 \/ i = 11 by omega) with rfl | rfl | rfl | rfl | rfl | rfl | rfl | rfl | rfl | rfl | rfl | rfl
  ·have ho' := Option.some.inj ho
   subst ho'
   refine ⟨by kernel_rfl, ?_⟩
   go_simp
   exact ⟨up c 0 true, by simp [up], up s 0 (.slice (some ⟨wr.heap.size, 0, none⟩) 6 6), by simp [up, sl], hF.step 0 (.slice (some ⟨wr.heap.size, 0, none⟩) 6 6) _ ⟨hrd.alloc _, grown_trans hgr (World.grownBy_alloc wr _ (some rb)), hzz.keepG (World.grownBy_alloc wr _ (some rb)) (by omega)⟩ (itP_keep (fun g cs t hne hb => hb.keepG (World.grownBy_alloc wr _ (some rb)) hne)) ⟨wr.heap.size, rfl, by have := hrd.lt; omega, Box.new wr ids6 9⟩⟩
  ·cases hL
  ·have ho' := Option.some.inj ho
   subst ho'
   refine ⟨by kernel_rfl, ?_⟩
   go_simp
   refine (below_any 6 base rb cv zs _ hrd (by omega) (by omega)).mono ?_
   rintro e w2 ⟨y, rfl, hy0, hy1, hr2, hg2⟩
   go_simp
   exact ⟨up c 2 true, by simp [up], up s 2 (.int .i64 y), by simp [up, sl], hF.step 2 (.int .i64 y) _ ⟨hr2, grown_trans hgr hg2, hzz.keepG hg2 (by omega)⟩ (itP_keep (fun g cs t hne hb => hb.keepG hg2 hne)) ⟨y.toNat, by rw [Int.toNat_of_nonneg hy0], by omega⟩⟩
  ·have ho' := Option.some.inj ho
   subst ho'
   have h0 : c 0 = true := hdep ⟨0, .data⟩ (by simp) rfl
   have h2 : c 2 = true := hdep ⟨2, .data⟩ (by simp) rfl
   refine ⟨by kernel_rfl, ?_⟩
   obtain ⟨g, e0, hg1, hg2⟩ := hF.k 0 h0
   obtain ⟨x, e2, hx⟩ := hF.k 2 h2
   have hx1 : (x : Int) < 6 := by omega
   have hx0 : (0 : Int) <= (x : Int) := by omega
   rw [sl_on h0, sl_on h2, e0, e2]
   go_simp
   exact ⟨up c 3 true, by simp [up, h0, h2, e0, e2], up s 3 (.pointer (some ⟨g, x, none⟩)), by simp [up, sl, h0, h2, e0, e2], hF.step 3 (.pointer (some ⟨g, x, none⟩)) _ ⟨hrd, hgr, hzz⟩ (fun j u h => h) ⟨g, x, rfl, hx, hg1, hg2⟩⟩
  ·have ho' := Option.some.inj ho
   subst ho'
   have h3 : c 3 = true := hdep ⟨3, .data⟩ (by simp) rfl
   refine ⟨by kernel_rfl, ?_⟩
   obtain ⟨g, x, e3, hx, hg1, hg2⟩ := hF.k 3 h3
   rw [sl_on h3, e3]
   have hc : ∃ t : ByteArray, ids6[x]? = some (.string t) /\ t.size <= 3 := by
    rcases (show x = 0 \/ x = 1 \/ x = 2 \/ x = 3 \/ x = 4 \/ x = 5 by omega) with rfl | rfl | rfl | rfl | rfl | rfl
    all_goals exact ⟨_, rfl, by decide⟩
   obtain ⟨t, hc1, hc2⟩ := hc
   have hcell := cell_of_cells (i := x) hg2 hc1
   go_simp
   exact ⟨up c 4 true, by simp [up, h3, e3], up s 4 (.string t), by simp [up, sl, h3, e3], hF.step 4 (.string t) _ ⟨hrd, hgr, hzz⟩ (fun j u h => h) ⟨t, rfl, hc2⟩⟩
  ·cases hL
  ·have ho' := Option.some.inj ho
   subst ho'
   refine ⟨by kernel_rfl, ?_⟩
   go_simp
   refine (title_any base rb cv zs _ hrd).mono ?_
   rintro e w2 ⟨t, rfl, ht, hr2, hg2⟩
   go_simp
   exact ⟨up c 6 true, by simp [up], up s 6 (.string t), by simp [up, sl], hF.step 6 (.string t) _ ⟨hr2, grown_trans hgr hg2, hzz.keepG hg2 (by omega)⟩ (itP_keep (fun g cs t hne hb => hb.keepG hg2 hne)) ⟨t, rfl, ht⟩⟩
  ·cases hL
  ·have ho' := Option.some.inj ho
   subst ho'
   refine ⟨by kernel_rfl, ?_⟩
   go_simp
   refine (below_any 9 base rb cv zs _ hrd (by omega) (by omega)).mono ?_
   rintro e w2 ⟨y, rfl, hy0, hy1, hr2, hg2⟩
   go_simp
   exact ⟨up c 8 true, by simp [up], up s 8 (.int .i64 y), by simp [up, sl], hF.step 8 (.int .i64 y) _ ⟨hr2, grown_trans hgr hg2, hzz.keepG hg2 (by omega)⟩ (itP_keep (fun g cs t hne hb => hb.keepG hg2 hne)) ⟨y, rfl, hy0, hy1⟩⟩
  ·have ho' := Option.some.inj ho
   subst ho'
   have h8 : c 8 = true := hdep ⟨8, .data⟩ (by simp) rfl
   refine ⟨by kernel_rfl, ?_⟩
   obtain ⟨y, e8, hy0, hy1⟩ := hF.k 8 h8
   rw [sl_on h8, e8]
   go_simp
   rw [show IntKind.i64.wrap (20000 + y) = 20000 + y from IntWalk.i64_in _ (by omega)]
   exact ⟨up c 9 true, by simp [up, h8, e8], up s 9 (.int .i64 (20000 + y)), by simp [up, sl, h8, e8], hF.step 9 (.int .i64 (20000 + y)) _ ⟨hrd, hgr, hzz⟩ (fun j u h => h) ⟨20000 + y, rfl, by omega, by omega⟩⟩
  ·have ho' := Option.some.inj ho
   subst ho'
   have h4 : c 4 = true := hdep ⟨4, .data⟩ (by simp) rfl
   have h6 : c 6 = true := hdep ⟨6, .data⟩ (by simp) rfl
   have h9 : c 9 = true := hdep ⟨9, .data⟩ (by simp) rfl
   refine ⟨by kernel_rfl, ?_⟩
   obtain ⟨t4, e4, ht4⟩ := hF.k 4 h4
   obtain ⟨t6, e6, ht6⟩ := hF.k 6 h6
   obtain ⟨y, e9, hy0, hy1⟩ := hF.k 9 h9
   rw [sl_on h4, sl_on h6, sl_on h9, e4, e6, e9]
   go_simp
   exact ⟨up c 10 true, by simp [up, h4, h6, h9, e4, e6, e9, itV], up s 10 (itV t4 t6 y), by simp [up, sl, h4, h6, h9, e4, e6, e9, itV], hF.step 10 (itV t4 t6 y) _ ⟨hrd, hgr, hzz⟩ (fun j u h => h) ⟨⟨t4, t6, y⟩, rfl, ht4, ht6⟩⟩
  ·have ho' := Option.some.inj ho
   subst ho'
   refine ⟨by kernel_rfl, ?_⟩
   go_simp
   exact ⟨up c 11 true, by simp [up], up s 11 (.pointer (some ⟨wr.heap.size, 0, none⟩)), by simp [up, sl], hF.step 11 (.pointer (some ⟨wr.heap.size, 0, none⟩)) _ ⟨hrd.alloc _, grown_trans hgr (World.grownBy_alloc wr _ (some rb)), hzz.keepG (World.grownBy_alloc wr _ (some rb)) (by omega)⟩ (itP_keep (fun g cs t hne hb => hb.keepG (World.grownBy_alloc wr _ (some rb)) hne)) ⟨wr.heap.size, rfl, by have := hrd.lt; omega, hzz.lt, Box.new wr _ 55⟩⟩
 ·rintro L a wr ⟨c, s, rfl, rfl, hF⟩ hall
  have h10 : c 10 = true := hall 10 (by decide) rfl
  have h11 : c 11 = true := hall 11 (by decide) rfl
  have h0 : c 0 = true := hall 0 (by decide) rfl
  have h2 : c 2 = true := hall 2 (by decide) rfl
  have h3 : c 3 = true := hall 3 (by decide) rfl
  have h4 : c 4 = true := hall 4 (by decide) rfl
  have h6 : c 6 = true := hall 6 (by decide) rfl
  have h8 : c 8 = true := hall 8 (by decide) rfl
  have h9 : c 9 = true := hall 9 (by decide) rfl
  obtain ⟨it, e10, hi1, hi2⟩ := hF.k 10 h10
  obtain ⟨g, e11, hg1, hg2, hg3⟩ := hF.k 11 h11
  obtain ⟨hrd, hgr, hzz⟩ := hF.fr
  rw [h0, h2, h3, h4, h6, h8, h9, h10, h11, sl_on h10, sl_on h11, e10, e11]
  clear hall hF h0 h2 h3 h4 h6 h8 h9 h10 h11 e10 e11
  generalize sl c s 0 = s0
  generalize sl c s 2 = s2
  generalize sl c s 3 = s3
  generalize sl c s 4 = s4
  generalize sl c s 6 = s6
  generalize sl c s 8 = s8
  generalize sl c s 9 = s9
  have c0 := cell_of_cells (i := 0) hg3 rfl
  have c1 := cell_of_cells (i := 1) hg3 rfl
  have c2 := cell_of_cells (i := 2) hg3 rfl
  have f0 := frozen_of_row wr g 0 _ _ hg3
  have f1 := frozen_of_row wr g 1 _ _ hg3
  have f2 := frozen_of_row wr g 2 _ _ hg3
  refine wpAnyT_one 12 0 (by kernel_rfl) rfl (by kernel_rfl) ?_
  intro K hK
  go_simp
  have b1 := Box.set hg3 0 (.string it.id)
  have b2 := Box.set b1 1 (.string it.ti)
  have b3 := Box.set b2 2 (.int .i64 it.da)
  have hb3 : Below (w.heap.size + 1) wr (((wr.setCell ⟨g, 0, none⟩ (.string it.id)).setCell ⟨g, 1, none⟩ (.string it.ti)).setCell ⟨g, 2, none⟩ (.int .i64 it.da)) := below3 _ _ _ (by omega) _ _ _
  have r3 := hrd.below hb3 (by omega)
  have z3 := hzz.keep hb3 (by omega)
  have g3 := gw_below hgr hb3 (by omega)
  change Box _ g #[.string it.id, .string it.ti, .int .i64 it.da] _ at b3
  clear b1 b2 hb3 c0 c1 c2 f0 f1 f2 hg3 hzz hgr hrd
  generalize ((wr.setCell ⟨g, 0, none⟩ (.string it.id)).setCell ⟨g, 1, none⟩ (.string it.ti)).setCell ⟨g, 2, none⟩ (.int .i64 it.da) = W3 at b3 r3 z3 g3 ⊢
  refine hK _ _ ⟨trivial, fun _ => trivial⟩ (fun hS => ?_)
  clear hK K hS
  refine wpAnyT_over (by kernel_rfl) ?_
  go_wp2_with fail
  refine (once_any 40 base rb cv zs _ r3 (by omega) (by omega)).mono ?_
  rintro e w4 ⟨b, rfl, hr4, hg4⟩
  have hwg : w.heap.size ≠ g := by omega
  have hwr : w.heap.size ≠ rb := by omega
  have b4 := b3.keepG hg4 hg1
  have z4 := z3.keepG hg4 hwr
  have g4 := grown_trans g3 hg4
  clear b3 z3 r3 g3 hg4
  cases b with
  | false =>
   have cb0 := cell_of_cells (i := 0) b4 rfl
   have cb1 := cell_of_cells (i := 1) b4 rfl
   have cb2 := cell_of_cells (i := 2) b4 rfl
   have fz0 := frozen_of_row w4 w.heap.size 0 _ _ z4
   have fz1 := frozen_of_row w4 w.heap.size 1 _ _ z4
   have fz2 := frozen_of_row w4 w.heap.size 2 _ _ z4
   have cz0 := cell_of_cells (i := 0) z4 rfl
   have cz1 := cell_of_cells (i := 1) z4 rfl
   have cz2 := cell_of_cells (i := 2) z4 rfl
   go_wp2
   have q1 := Box.set z4 0 (.string it.id)
   have q2 := Box.set q1 1 (.string it.ti)
   have q3 := Box.set q2 2 (.int .i64 it.da)
   have hb3 : Below w.heap.size w4 (((w4.setCell ⟨w.heap.size, 0, none⟩ (.string it.id)).setCell ⟨w.heap.size, 1, none⟩ (.string it.ti)).setCell ⟨w.heap.size, 2, none⟩ (.int .i64 it.da)) := below3 _ _ _ (Nat.le_refl _) _ _ _
   have r3 := hr4.below hb3 hrb
   have g3 := gw_below g4 hb3 (Nat.le_refl _)
   change Box _ w.heap.size #[.string it.id, .string it.ti, .int .i64 it.da] _ at q3
   generalize ((w4.setCell ⟨w.heap.size, 0, none⟩ (.string it.id)).setCell ⟨w.heap.size, 1, none⟩ (.string it.ti)).setCell ⟨w.heap.size, 2, none⟩ (.int .i64 it.da) = W5 at q3 r3 g3 ⊢
   have d0 := cell_of_cells (i := 0) q3 rfl
   have d1 := cell_of_cells (i := 1) q3 rfl
   have d2 := cell_of_cells (i := 2) q3 rfl
   exact bodyPost_ret (v := itV it.id it.ti (it.da)) (by simp [results, Tryz.results93, go_sem, d0, d1, d2]) rfl ⟨⟨it.id, it.ti, it.da⟩, rfl, hi1, hi2, r3, g3⟩
  | true =>
   go_wp2_with fail
   refine (off_any 0 200000 base rb cv zs _ hr4 (by omega) (by omega) (by omega)).mono ?_
   rintro e w5 ⟨y, rfl, hy, hr5, hg5⟩
   have b5 := b4.keepG hg5 hg1
   have z5 := z4.keepG hg5 hwr
   have g5 := grown_trans g4 hg5
   clear b4 z4 g4 hg5 hr4
   have fb2 := frozen_of_row w5 g 2 _ _ b5
   have cb2 := cell_of_cells (i := 2) b5 rfl
   have b6 := Box.set b5 2 (.int .i64 y)
   have hb6 : Below (w.heap.size + 1) w5 (w5.setCell ⟨g, 2, none⟩ (.int .i64 y)) := (Below.refl _ w5).setCell (p := ⟨g, 2, none⟩) (by show w.heap.size + 1 <= g; omega) _
   have z6 := z5.keep hb6 (by omega)
   have r6 := hr5.below hb6 (by omega)
   have g6 := gw_below g5 hb6 (by omega)
   change Box _ g #[.string it.id, .string it.ti, .int .i64 y] _ at b6
   clear hb6 b5 z5 g5 hr5
   have cb0 := cell_of_cells (i := 0) b6 rfl
   have cb1 := cell_of_cells (i := 1) b6 rfl
   have cc2 := cell_of_cells (i := 2) b6 rfl
   have fz0 := frozen_of_row (w5.setCell ⟨g, 2, none⟩ (.int .i64 y)) w.heap.size 0 _ _ z6
   have fz1 := frozen_of_row (w5.setCell ⟨g, 2, none⟩ (.int .i64 y)) w.heap.size 1 _ _ z6
   have fz2 := frozen_of_row (w5.setCell ⟨g, 2, none⟩ (.int .i64 y)) w.heap.size 2 _ _ z6
   have cz0 := cell_of_cells (i := 0) z6 rfl
   have cz1 := cell_of_cells (i := 1) z6 rfl
   have cz2 := cell_of_cells (i := 2) z6 rfl
   go_wp2
   have q1 := Box.set z6 0 (.string it.id)
   have q2 := Box.set q1 1 (.string it.ti)
   have q3 := Box.set q2 2 (.int .i64 y)
   have hb3 : Below w.heap.size (w5.setCell ⟨g, 2, none⟩ (.int .i64 y)) ((((w5.setCell ⟨g, 2, none⟩ (.int .i64 y)).setCell ⟨w.heap.size, 0, none⟩ (.string it.id)).setCell ⟨w.heap.size, 1, none⟩ (.string it.ti)).setCell ⟨w.heap.size, 2, none⟩ (.int .i64 y)) := below3 _ _ _ (Nat.le_refl _) _ _ _
   have r3 := r6.below hb3 hrb
   have g3 := gw_below g6 hb3 (Nat.le_refl _)
   change Box _ w.heap.size #[.string it.id, .string it.ti, .int .i64 y] _ at q3
   generalize (((w5.setCell ⟨g, 2, none⟩ (.int .i64 y)).setCell ⟨w.heap.size, 0, none⟩ (.string it.id)).setCell ⟨w.heap.size, 1, none⟩ (.string it.ti)).setCell ⟨w.heap.size, 2, none⟩ (.int .i64 y) = W5 at q3 r3 g3 ⊢
   have d0 := cell_of_cells (i := 0) q3 rfl
   have d1 := cell_of_cells (i := 1) q3 rfl
   have d2 := cell_of_cells (i := 2) q3 rfl
   exact bodyPost_ret (v := itV it.id it.ti (y)) (by simp [results, Tryz.results93, go_sem, d0, d1, d2]) rfl ⟨⟨it.id, it.ti, y⟩, rfl, hi1, hi2, r3, g3⟩
 ·exact ⟨fun _ => false, fun _ => undef, rfl, rfl, ⟨hr0.drewN 1, grown_drewN hg0 1, hz0⟩, fun i hi => by cases hi⟩
 ·decide
end Go.Proofs.YtffkakpbelknaaaGreatDoor

/- Joined: W14w. -/
import Derived.Test.YtffkakpbelknaaaS47
/- W14w -/
namespace Go.Proofs.Ytffkakpbelknaaa
open Go.ChangeShapes Go.WideShapes Go.ChangeAt Go.RowKit
set_option linter.unusedVariables false

set_option maxRecDepth 100000 in
set_option maxHeartbeats 3000000 in
theorem copiedDisk_own (vl vs vo : Value) (L S : List Fi) (os : List DOp) (w : World) (hL : FiAt w w.heap.size vl L) (hS : FiAt w w.heap.size vs S) (hO : OaAt w w.heap.size vo os) (nL : L.length ≤ 1048576) (nS : S.length ≤ 1048576) (nO : os.length ≤ 1048576) :
    Calls Try.prog 77 #[dkV vl vs vo] w (OutDs L S os w) := by
  have HL := Lib.hid hL
  have HS := Lib.hid hS
  have HO := Lib.hid hO
  have hx0 := (Box.new w #[vl, vs, vo] 64).alloc (.cells #[.slice none 0 0, .slice none 0 0, .slice none 0 0] 64)
  have hy0 := Box.new (w.alloc (.cells #[vl, vs, vo] 64)) #[.slice none 0 0, .slice none 0 0, .slice none 0 0] 64
  have hb0 : Below w.heap.size w ((w.alloc (.cells #[vl, vs, vo] 64)).alloc (.cells #[.slice none 0 0, .slice none 0 0, .slice none 0 0] 64)) := ((Below.refl _ _).alloc (Nat.le_refl _) _).alloc (by simp) _
  rw [World.size_alloc] at hy0
  clear hL hS hO
  go_enter Try.func77, Try.ntmps77
  go_wp2
  have hx := hx0.drew
  have hy := hy0.drew
  have hB := hb0.drew
  clear hx0 hy0 hb0
  refine wp_region_T (fun w' => Box w' w.heap.size #[vl, vs, vo] 64 ∧ ∃ c0 c1 c2, Box w' (w.heap.size + 1) #[c0, c1, c2] 64) (fun _ => True) 10 (by kernel_rfl) 11 rfl ?_
  generalize ((w.alloc (.cells #[vl, vs, vo] 64)).alloc (.cells #[.slice none 0 0, .slice none 0 0, .slice none 0 0] 64)).drew = W at hx hy hB ⊢
  refine wpAnyT_takesA (md := .any) 5 (by kernel_rfl) (by intro d v c a w h; cases d <;> exact h) [0, 1, 3, 4, 6, 7] _ _ _ (by decide) (by kernel_rfl) ⟨⟨hx, _, _, _, hy⟩, fun _ => trivial⟩ ?_
  simp only [pick, List.filterMap_cons, List.filterMap_nil, List.getElem?_cons_zero, List.getElem?_cons_succ]
  refine wpIf_step (.pointer (some ⟨w.heap.size, 0, none⟩)) (by kernel_rfl) (fun w hw => by go_simp) ?_
  refine wpIf_step (vl) (by kernel_rfl) (fun w hw => by have e0 := hw.1.cell 0 _ rfl; go_simp) ?_
  refine wpIf_step (.pointer (some ⟨w.heap.size, 1, none⟩)) (by kernel_rfl) (fun w hw => by go_simp) ?_
  refine wpIf_step (vs) (by kernel_rfl) (fun w hw => by have e0 := hw.1.cell 1 _ rfl; go_simp) ?_
  refine wpIf_step (.pointer (some ⟨w.heap.size, 2, none⟩)) (by kernel_rfl) (fun w hw => by go_simp) ?_
  refine wpIf_step (vo) (by kernel_rfl) (fun w hw => by have e0 := hw.1.cell 2 _ rfl; go_simp) ?_
  refine wpIf_nil (fun hS => ?_)
  clear hS
  refine wpAnyT_one 2 4 (by kernel_rfl) rfl (by kernel_rfl) (fun K hK => ?_)
  go_simp
  refine (cloneF_any vl L W (((HL.out.below hB).mono hB.size).1) (by omega)).mono ?_
  rintro e w1 ⟨v1, rfl, o1, hb1⟩
  have hx1 := hx.keep hb1 hx.lt
  have hy1 := hy.keep hb1 hy.lt
  have hB1 := hB.trans (hb1.mono hB.size)
  have hs1 := hb1.size
  refine hK _ _ ⟨⟨hx1, _, _, _, hy1⟩, fun _ => trivial⟩ (fun hS => ?_)
  clear hK K hS
  refine wpAnyT_one 5 3 (by kernel_rfl) rfl (by kernel_rfl) (fun K hK => ?_)
  go_simp
  refine (cloneF_any vs S w1 (((HS.out.below hB1).mono hB1.size).1) (by omega)).mono ?_
  rintro e w2 ⟨v2, rfl, o2, hb2⟩
  have HP1 := Lib.hid (apart_of o1 o2 (Nat.le_refl _))
  have hx2 := hx1.keep hb2 hx1.lt
  have hy2 := hy1.keep hb2 hy1.lt
  have hB2 := hB1.trans (hb2.mono hB1.size)
  have hs2 := hb2.size
  have o1b := o1.keep hb2 (Nat.le_refl _)
  refine hK _ _ ⟨⟨hx2, _, _, _, hy2⟩, fun _ => trivial⟩ (fun hS => ?_)
  clear hK K hS
  refine wpAnyT_one 8 2 (by kernel_rfl) rfl (by kernel_rfl) (fun K hK => ?_)
  go_simp
  refine (cloneO_any vo os w2 (((HO.out.below hB2).mono hB2.size).1) (by omega)).mono ?_
  rintro e w3 ⟨v3, rfl, o3, hb3⟩
  have HP2 := Lib.hid (apart_of o1b o3 (Nat.le_refl _))
  have HP3 := Lib.hid (apart_of o2 o3 (Nat.le_refl _))
  have hx3 := hx2.keep hb3 hx2.lt
  have hy3 := hy2.keep hb3 hy2.lt
  have hB3 := hB2.trans (hb3.mono hB2.size)
  have hs3 := hb3.size
  have o1c := o1b.keep hb3 (Nat.le_refl _)
  have o2c := o2.keep hb3 (Nat.le_refl _)
  obtain ⟨p1, q1, rfl⟩ := o1c.slice
  obtain ⟨p2, q2, rfl⟩ := o2c.slice
  obtain ⟨p3, q3, rfl⟩ := o3.slice
  refine hK _ _ ⟨⟨hx3, _, _, _, hy3⟩, fun _ => trivial⟩ (fun hS => ?_)
  clear hK K hS
  refine wpAnyT_one 9 1 (by kernel_rfl) rfl (by kernel_rfl) (fun K hK => ?_)
  go_simp
  refine hK _ _ ⟨⟨hx3, _, _, _, hy3⟩, fun _ => trivial⟩ (fun hS => ?_)
  clear hK K hS
  have z0 := hy3.cell 0 _ rfl
  have z1 := hy3.cell 1 _ rfl
  have z2 := hy3.cell 2 _ rfl
  have zf := hy3.free
  have hlt1 := hy.lt
  refine wpAnyT_one 10 0 (by kernel_rfl) rfl (by kernel_rfl) (fun K hK => ?_)
  go_simp
  have hN : w.heap.size ≠ w.heap.size + 1 := by omega
  have x4 := ((hx3.other ⟨w.heap.size + 1, 0, none⟩ (.slice p1 L.length q1) hN).other ⟨w.heap.size + 1, 1, none⟩ (.slice p2 S.length q2) hN).other ⟨w.heap.size + 1, 2, none⟩ (.slice p3 os.length q3) hN
  have y4 := ((hy3.set 0 (.slice p1 L.length q1)).set 1 (.slice p2 S.length q2)).set 2 (.slice p3 os.length q3)
  have e1 := (((o1c.other ⟨w.heap.size + 1, 0, none⟩ (.slice p1 L.length q1) (by show w.heap.size + 1 < W.heap.size; omega)).other ⟨w.heap.size + 1, 1, none⟩ (.slice p2 S.length q2) (by show w.heap.size + 1 < W.heap.size; omega)).other ⟨w.heap.size + 1, 2, none⟩ (.slice p3 os.length q3) (by show w.heap.size + 1 < W.heap.size; omega)).base_mono (show w.heap.size ≤ W.heap.size by omega)
  have e2 := (((o2c.other ⟨w.heap.size + 1, 0, none⟩ (.slice p1 L.length q1) (by show w.heap.size + 1 < w1.heap.size; omega)).other ⟨w.heap.size + 1, 1, none⟩ (.slice p2 S.length q2) (by show w.heap.size + 1 < w1.heap.size; omega)).other ⟨w.heap.size + 1, 2, none⟩ (.slice p3 os.length q3) (by show w.heap.size + 1 < w1.heap.size; omega)).base_mono (show w.heap.size ≤ w1.heap.size by omega)
  have e3 := (((o3.other ⟨w.heap.size + 1, 0, none⟩ (.slice p1 L.length q1) (by show w.heap.size + 1 < w2.heap.size; omega)).other ⟨w.heap.size + 1, 1, none⟩ (.slice p2 S.length q2) (by show w.heap.size + 1 < w2.heap.size; omega)).other ⟨w.heap.size + 1, 2, none⟩ (.slice p3 os.length q3) (by show w.heap.size + 1 < w2.heap.size; omega)).base_mono (show w.heap.size ≤ w2.heap.size by omega)
  have hB4 := ((hB3.setCell (p := ⟨w.heap.size + 1, 0, none⟩) (by show w.heap.size ≤ w.heap.size + 1; omega) (.slice p1 L.length q1)).setCell (p := ⟨w.heap.size + 1, 1, none⟩) (by show w.heap.size ≤ w.heap.size + 1; omega) (.slice p2 S.length q2)).setCell (p := ⟨w.heap.size + 1, 2, none⟩) (by show w.heap.size ≤ w.heap.size + 1; omega) (.slice p3 os.length q3)
  refine hK _ _ ⟨⟨x4, _, _, _, y4⟩, fun _ => trivial⟩ (fun hS => ?_)
  clear hK K hS
  refine wpAnyT_over (by kernel_rfl) ?_
  go_wp2
  exact bodyPost_ret (results_Dk rfl _ _ _ _ rfl rfl y4) rfl ⟨_, _, _, rfl, e1, e2, e3, hB4, HP1.out, HP2.out, HP3.out⟩

theorem copiedDisk_any (vl vs vo : Value) (L S : List Fi) (os : List DOp) (w : World) (hL : FiAt w w.heap.size vl L) (hS : FiAt w w.heap.size vs S) (hO : OaAt w w.heap.size vo os) (nL : L.length ≤ 1048576) (nS : S.length ≤ 1048576) (nO : os.length ≤ 1048576) :
    Calls Try.prog 77 #[dkV vl vs vo] w (OutDk L S os w) :=
  (copiedDisk_own vl vs vo L S os w hL hS hO nL nS nO).mono (fun _ _ h => h.out)
end Go.Proofs.Ytffkakpbelknaaa

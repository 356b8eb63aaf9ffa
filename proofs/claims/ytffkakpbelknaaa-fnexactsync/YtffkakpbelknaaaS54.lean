/- Joined: V14c. -/
import Derived.Test.YtffkakpbelknaaaS50
import Derived.Test.YtffkakpbelknaaaS53
/- V14c -/
namespace Go.Proofs.Ytffkakpbelknaaa
open Go.ChangeShapes Go.WideShapes Go.ChangeAt Go.RowKit
set_option linter.unusedVariables false

/-- A disk that stands in a box, its rows from B up to the box. -/
def DkI (wn : World) (g B : Nat) (vl vs vo : Value) (L S : List Fi) (os : List DOp) : Prop := Box wn g #[vl, vs, vo] 64 ∧ OwDk wn B vl vs vo L S os ∧ B ≤ g ∧ (∀ b, vl.ownBlock = some b → b < g) ∧ (∀ b, vs.ownBlock = some b → b < g) ∧ (∀ b, vo.ownBlock = some b → b < g)
section
variable {w w' : World} {g B : Nat} {vl vs vo : Value} {L S : List Fi} {os : List DOp}
theorem DkI.keep (h : DkI w g B vl vs vo L S os) (hb : Below w.heap.size w w') : DkI w' g B vl vs vo L S os := ⟨h.1.keep hb h.1.lt, ⟨h.2.1.1.keep hb (Nat.le_refl _), h.2.1.2.1.keep hb (Nat.le_refl _), h.2.1.2.2.keep hb (Nat.le_refl _)⟩, h.2.2⟩
theorem DkI.lo (h : DkI w g B vl vs vo L S os) {A : Nat} (hb : Below A w w') (hg : g < A) : DkI w' g B vl vs vo L S os := ⟨h.1.keep hb hg, ⟨h.2.1.1.lo hb (fun b e => Nat.lt_trans (h.2.2.2.1 b e) hg), h.2.1.2.1.lo hb (fun b e => Nat.lt_trans (h.2.2.2.2.1 b e) hg), h.2.1.2.2.lo hb (fun b e => Nat.lt_trans (h.2.2.2.2.2 b e) hg)⟩, h.2.2⟩
theorem DkI.hi (h : DkI w g B vl vs vo L S os) {A T : Nat} (hm : Mid A T w w') (hT : T ≤ B) : DkI w' g B vl vs vo L S os := by
  refine ⟨?_, ⟨h.2.1.1.mid hm hT, h.2.1.2.1.mid hm hT, h.2.1.2.2.mid hm hT⟩, h.2.2⟩
  show w'.heap[g]? = _
  rw [hm.2 g (Nat.le_trans hT h.2.2.1) h.1.lt]
  exact h.1
theorem DkI.drew (h : DkI w g B vl vs vo L S os) : DkI w.drew g B vl vs vo L S os := ⟨h.1.drew, ⟨h.2.1.1.drew, h.2.1.2.1.drew, h.2.1.2.2.drew⟩, h.2.2⟩
theorem DkI.new {w0 : World} (h1 : OwnR 167 2 fiC w B vl L) (h2 : OwnR 167 2 fiC w B vs S) (h3 : OwnR 68 4 doC w B vo os) (hB : B ≤ w.heap.size) : DkI (w.alloc (.cells #[vl, vs, vo] 64)) w.heap.size B vl vs vo L S os := by
  have hb : Below w.heap.size w (w.alloc (.cells #[vl, vs, vo] 64)) := (Below.refl _ _).alloc (Nat.le_refl _) _
  exact ⟨Box.new w _ _, ⟨h1.keep hb (Nat.le_refl _), h2.keep hb (Nat.le_refl _), h3.keep hb (Nat.le_refl _)⟩, hB, fun b e => (h1.blk b e).2, fun b e => (h2.blk b e).2, fun b e => (h3.blk b e).2⟩
/-- What marking leaves of it. -/
theorem DkI.marked {L' S' : List Fi} {os' : List DOp} (h : DkI w g B vl vs vo L S os) (hm : Mid B g w w') (h1 : OwnR 167 2 fiC w' B vl L') (h2 : OwnR 167 2 fiC w' B vs S') (h3 : OwnR 68 4 doC w' B vo os') : DkI w' g B vl vs vo L' S' os' := by
  refine ⟨?_, ⟨h1, h2, h3⟩, h.2.2⟩
  show w'.heap[g]? = _
  rw [hm.2 g (Nat.le_refl _) h.1.lt]
  exact h.1
theorem OwDk.ats (h : OwDk w B vl vs vo L S os) (hL : ∀ x ∈ L, FiSz x) (hS : ∀ x ∈ S, FiSz x) (hO : ∀ x ∈ os, DoSz x) : FiAt w w.heap.size vl L ∧ FiAt w w.heap.size vs S ∧ OaAt w w.heap.size vo os := ⟨FiAt.of_own h.1 hL, FiAt.of_own h.2.1 hS, ⟨h.2.2.at doC_len, hO⟩⟩
end

set_option maxRecDepth 100000 in
set_option maxHeartbeats 6000000 in
theorem walk_FnExactSync (v : Value) (L S : List Fi) (os : List DOp) (w : World) (h : DkAt w v L S os) :
    Calls Try.prog 11 #[v] w fun e w' => e = .returned (.bool true) ∧ Below w.heap.size w w' := by
  obtain ⟨vl, vs, vo, rfl, hL, hS, hO⟩ := h
  have HL := Lib.hid hL
  have HS := Lib.hid hS
  have HO := Lib.hid hO
  have hb0 : Below w.heap.size w (w.alloc (.cells #[vl, vs, vo] 56)) := (Below.refl _ _).alloc (Nat.le_refl _) _
  have hx0 := Box.new w #[vl, vs, vo] 56
  clear hL hS hO
  go_enter Try.func11, Try.ntmps11
  go_wp2_with fail
  generalize w.alloc (.cells #[vl, vs, vo] 56) = W0 at hb0 hx0 ⊢
  refine (szDisk_any vl vs vo L S os 1048576 _ ((HL.out.below hb0).mono hb0.size) ((HS.out.below hb0).mono hb0.size) ((HO.out.below hb0).mono hb0.size) (by decide) (by decide)).mono ?_
  rintro e w1 ⟨r, rfl, hr0, hr1, hb1⟩
  have hB := hb0.trans (hb1.mono hb0.size)
  have hx := hx0.keep hb1 hx0.lt
  have f0 := hx.cell 0 _ rfl
  have f1 := hx.cell 1 _ rfl
  have f2 := hx.cell 2 _ rfl
  clear hb0 hb1 hx0
  by_cases hr : r < 0
  · go_wp2
    go_ret
    exact ⟨rfl, hB⟩
  · obtain ⟨n1, n2, n3, n4, n5, n6⟩ := hr1 (by omega)
    have HSz : Hid (∀ x ∈ os, x.da.size ≤ 100000000000) := Lib.hid (fun x hx => by
      obtain ⟨j, hj, rfl⟩ := List.getElem_of_mem hx
      have := n6 j hj
      omega)
    have hyl : (syL L S os).length ≤ 1048576 := by unfold syL; split; · omega
                                                   · simp
    have HYz : Hid (∀ x ∈ syL L S os, FiSz x) := Lib.hid (fun x hx => by
      unfold syL at hx
      split at hx
      · exact HL.out.2 x hx
      · cases hx)
    have HT := Lib.hid (fun w h1 h2 h3 => toDisk_own vl vs vo L S os w h1 h2 h3 (by omega) (by omega) (by omega))
    have HA := Lib.hid (fun a b c w h1 h2 h3 => specSync_any a b c L S os w h1 h2 h3 (by omega) (by omega) (by omega))
    have HI := Lib.hid (fun a b c w h1 h2 h3 => implSync_own a b c L S os w h1 h2 h3 (by omega) (by omega) (by omega))
    have HD := Lib.hid (fun (w' : World) (B : Nat) (a b c : Value) (h : OwDk w' B a b c L S os) => h.ats HL.out.2 HS.out.2 HO.out.2)
    have hL5 : L.length ≤ 1048576 := by omega
    have hS5 : S.length ≤ 1048576 := by omega
    have hO5 : os.length ≤ 1048576 := by omega
    generalize syL L S os = Y at hyl HYz HA HI
    have HE := Lib.hid (fun (w' : World) (B : Nat) (a b c : Value) (h : OwDk w' B a b c Y Y []) => h.ats HYz.out HYz.out (fun x hx => nomatch hx))
    clear n6 hr1 n1 n2 n3 n4 n5
    go_wp2_with fail
    refine (HT.out _ ((HL.out.below hB).mono hB.size) ((HS.out.below hB).mono hB.size) ((HO.out.below hB).mono hB.size)).mono ?_
    rintro e w2 ⟨l2, s2, o2, rfl, a1, a2, a3, hb2, _, _, _⟩
    obtain ⟨d1, d2, d3⟩ := HD.out w2 _ _ _ _ ⟨a1, a2, a3⟩
    have HA2 := Lib.hid (HA.out _ _ _ w2 d1 d2 (d3.od HSz.out))
    replace hx := hx.keep hb2 hx.lt
    have hw2 : w.heap.size < w2.heap.size := hx.lt
    replace hB := hB.trans (hb2.mono hB.size)
    clear hb2 f0 f1 f2 a1 a2 a3 d1 d2 d3 HA
    go_wp2_with fail
    refine HA2.out.mono ?_
    rintro e w3 ⟨l3, s3, o3, rfl, a1, a2, a3, hb3⟩
    obtain ⟨la4, lc4, rfl⟩ := a1.slice
    obtain ⟨sa4, sc4, rfl⟩ := a2.slice
    obtain ⟨oa4, oc4, rfl⟩ := a3.slice
    replace hx := hx.keep hb3 hx.lt
    replace hB := hB.trans (hb3.mono hB.size)
    have hlt4 : w2.heap.size ≤ w3.heap.size := hb3.size
    have H4 := Lib.hid (DkI.new (w0 := w3) a1 a2 a3 hlt4)
    have hba : Below w3.heap.size w3 (w3.alloc (.cells #[.slice la4 Y.length lc4, .slice sa4 Y.length sc4, .slice oa4 0 oc4] 64)) := (Below.refl _ _).alloc (Nat.le_refl _) _
    replace hx := hx.keep hba hx.lt
    replace hB := hB.trans (hba.mono hB.size)
    have hz4 : w3.heap.size < (w3.alloc (.cells #[.slice la4 Y.length lc4, .slice sa4 Y.length sc4, .slice oa4 0 oc4] 64)).heap.size := by simp
    clear hb3 a1 a2 a3 hba HA2
    have f0 := hx.cell 0 _ rfl
    have f1 := hx.cell 1 _ rfl
    have f2 := hx.cell 2 _ rfl
    go_wp2_with fail
    generalize w3.alloc (.cells #[.slice la4 Y.length lc4, .slice sa4 Y.length sc4, .slice oa4 0 oc4] 64) = W4 at hx hB H4 hz4 f0 f1 f2 ⊢
    refine (HT.out _ ((HL.out.below hB).mono hB.size) ((HS.out.below hB).mono hB.size) ((HO.out.below hB).mono hB.size)).mono ?_
    rintro e w5 ⟨l5, s5, o5, rfl, a1, a2, a3, hb5, p1, p2, p3⟩
    obtain ⟨la5, lc5, rfl⟩ := a1.slice
    obtain ⟨sa5, sc5, rfl⟩ := a2.slice
    obtain ⟨oa5, oc5, rfl⟩ := a3.slice
    have HP5 := Lib.hid (And.intro p1 (And.intro p2 p3))
    replace hx := hx.keep hb5 hx.lt
    replace hB := hB.trans (hb5.mono hB.size)
    have hlt5 := hb5.size
    replace H4 := Lib.hid (H4.out.keep hb5)
    have H5 := Lib.hid (DkI.new (w0 := w5) a1 a2 a3 hlt5)
    have hba : Below w5.heap.size w5 (w5.alloc (.cells #[.slice la5 L.length lc5, .slice sa5 S.length sc5, .slice oa5 os.length oc5] 64)) := (Below.refl _ _).alloc (Nat.le_refl _) _
    replace hx := hx.keep hba hx.lt
    replace hB := hB.trans (hba.mono hB.size)
    have hz5 : w5.heap.size < (w5.alloc (.cells #[.slice la5 L.length lc5, .slice sa5 S.length sc5, .slice oa5 os.length oc5] 64)).heap.size := by simp
    replace H4 := Lib.hid (H4.out.keep hba)
    clear hb5 a1 a2 a3 hba f0 f1 f2 p1 p2 p3
    go_wp2_with fail
    generalize w5.alloc (.cells #[.slice la5 L.length lc5, .slice sa5 S.length sc5, .slice oa5 os.length oc5] 64) = W5 at hx hB H4 H5 hz5 ⊢
    have y50 := H5.out.1.cell 0 _ rfl
    have y51 := H5.out.1.cell 1 _ rfl
    have y52 := H5.out.1.cell 2 _ rfl
    go_wp2_with fail
    obtain ⟨d1, d2, d3⟩ := HD.out W5 _ _ _ _ H5.out.2.1
    refine (HI.out _ _ _ W5 d1 d2 (d3.od HSz.out)).mono ?_
    rintro e w6 ⟨l6, s6, o6, rfl, a1, a2, a3, hb6, p1, p2, p3⟩
    clear d1 d2 d3 y50 y51 y52
    obtain ⟨la6, lc6, rfl⟩ := a1.slice
    obtain ⟨sa6, sc6, rfl⟩ := a2.slice
    obtain ⟨oa6, oc6, rfl⟩ := a3.slice
    have HP6 := Lib.hid (And.intro p1 (And.intro p2 p3))
    replace hx := hx.keep hb6 hx.lt
    replace hB := hB.trans (hb6.mono hB.size)
    have hlt6 := hb6.size
    replace H4 := Lib.hid (H4.out.keep hb6)
    replace H5 := Lib.hid (H5.out.keep hb6)
    have H6 := Lib.hid (DkI.new (w0 := w6) a1 a2 a3 hlt6)
    have hba : Below w6.heap.size w6 (w6.alloc (.cells #[.slice la6 Y.length lc6, .slice sa6 Y.length sc6, .slice oa6 0 oc6] 64)) := (Below.refl _ _).alloc (Nat.le_refl _) _
    replace hx := hx.keep hba hx.lt
    replace hB := hB.trans (hba.mono hB.size)
    have hz6 : w6.heap.size < (w6.alloc (.cells #[.slice la6 Y.length lc6, .slice sa6 Y.length sc6, .slice oa6 0 oc6] 64)).heap.size := by simp
    replace H4 := Lib.hid (H4.out.keep hba)
    replace H5 := Lib.hid (H5.out.keep hba)
    clear hb6 a1 a2 a3 hba p1 p2 p3
    have y40 := H4.out.1.cell 0 _ rfl
    have y41 := H4.out.1.cell 1 _ rfl
    have y42 := H4.out.1.cell 2 _ rfl
    have y60 := H6.out.1.cell 0 _ rfl
    have y61 := H6.out.1.cell 1 _ rfl
    have y62 := H6.out.1.cell 2 _ rfl
    go_wp2_with fail
    generalize w6.alloc (.cells #[.slice la6 Y.length lc6, .slice sa6 Y.length sc6, .slice oa6 0 oc6] 64) = W6 at hx hB H4 H5 H6 hz6 y40 y41 y42 y60 y61 y62 ⊢
    obtain ⟨d1, d2, d3⟩ := HE.out _ _ _ _ _ H6.out.2.1
    obtain ⟨g1, g2, g3⟩ := HE.out _ _ _ _ _ H4.out.2.1
    refine (eqDisk_same _ _ _ _ _ _ Y Y [] _ d1 d2 d3 g1 g2 g3).mono ?_
    rintro e w7 ⟨rfl, hbq⟩
    clear d1 d2 d3 g1 g2 g3 y60 y61 y62 y40 y41 y42
    replace hx := hx.keep hbq hx.lt
    replace hB := hB.trans (hbq.mono hB.size)
    replace H4 := Lib.hid (H4.out.keep hbq)
    replace H5 := Lib.hid (H5.out.keep hbq)
    replace H6 := Lib.hid (H6.out.keep hbq)
    clear hbq
    go_wp2
    refine wp_region_T (fun w' => Box w' w5.heap.size #[.slice la5 L.length lc5, .slice sa5 S.length sc5, .slice oa5 os.length oc5] 64 ∧ Box w' w.heap.size #[vl, vs, vo] 56) (fun _ => True) 4 (by kernel_rfl) 5 rfl ?_
    refine wpAnyT_takesA (md := .any) 3 (by kernel_rfl) (by intro d v c a w h; cases d <;> exact h) [0, 1] _ _ _ (by decide) (by kernel_rfl) ⟨⟨H5.out.1, hx⟩, fun _ => trivial⟩ ?_
    simp only [pick, List.filterMap_cons, List.filterMap_nil, List.getElem?_cons_zero, List.getElem?_cons_succ]
    refine wpIf_step (dkV (.slice la5 L.length lc5) (.slice sa5 S.length sc5) (.slice oa5 os.length oc5)) (by kernel_rfl) (fun w hw => by have e0 := hw.1.cell 0 _ rfl; have e1 := hw.1.cell 1 _ rfl; have e2 := hw.1.cell 2 _ rfl; go_simp) ?_
    refine wpIf_step (dkV vl vs vo) (by kernel_rfl) (fun w hw => by have e0 := hw.2.cell 0 _ rfl; have e1 := hw.2.cell 1 _ rfl; have e2 := hw.2.cell 2 _ rfl; go_simp) ?_
    refine wpIf_nil (fun hS => ?_)
    refine wpAnyT_one 2 2 (by kernel_rfl) rfl (by kernel_rfl) (fun K hK => ?_)
    go_simp
    refine (HT.out w7.drew ((HL.out.below hB.drew).mono hB.size) ((HS.out.below hB.drew).mono hB.size) ((HO.out.below hB.drew).mono hB.size)).mono ?_
    rintro e w8 ⟨l7, s7, o7, rfl, a1, a2, a3, hb7, _, _, _⟩
    replace hx := hx.drew.keep hb7 hx.lt
    replace hB := hB.drew.trans (hb7.mono hB.size)
    replace H4 := Lib.hid (H4.out.drew.keep hb7)
    replace H5 := Lib.hid (H5.out.drew.keep hb7)
    replace H6 := Lib.hid (H6.out.drew.keep hb7)
    obtain ⟨d1, d2, d3⟩ := HD.out w8 _ _ _ _ H5.out.2.1
    obtain ⟨g1, g2, g3⟩ := HD.out w8 _ _ _ _ ⟨a1, a2, a3⟩
    have HEq := Lib.hid (eqDisk_same _ _ _ _ _ _ L S os w8 d1 d2 d3 g1 g2 g3)
    refine hK _ _ ⟨⟨H5.out.1, hx⟩, fun _ => trivial⟩ (fun hS3 => ?_)
    clear hK K hS hS3 hb7 a1 a2 a3 d1 d2 d3 g1 g2 g3
    refine wpAnyT_one 3 1 (by kernel_rfl) rfl (by kernel_rfl) (fun K hK => ?_)
    go_simp
    refine HEq.out.mono ?_
    rintro e w9 ⟨rfl, hb8⟩
    replace hx := hx.keep hb8 hx.lt
    replace hB := hB.trans (hb8.mono hB.size)
    replace H4 := Lib.hid (H4.out.keep hb8)
    replace H5 := Lib.hid (H5.out.keep hb8)
    replace H6 := Lib.hid (H6.out.keep hb8)
    clear hb8
    refine hK _ _ ⟨⟨H5.out.1, hx⟩, fun _ => trivial⟩ (fun hS3 => ?_)
    clear hK K hS3 HEq
    refine wpAnyT_one 4 0 (by kernel_rfl) rfl (by kernel_rfl) (fun K hK => ?_)
    go_simp
    refine hK _ _ ⟨⟨H5.out.1, hx⟩, fun _ => trivial⟩ (fun hS4 => ?_)
    clear hK K hS4
    refine wpAnyT_over (by kernel_rfl) ?_
    have y50 := H5.out.1.cell 0 _ rfl
    have y51 := H5.out.1.cell 1 _ rfl
    have y52 := H5.out.1.cell 2 _ rfl
    go_wp2_with fail
    refine (markDisk_any _ _ _ L S os _ _ 1 _ H5.out.2.1.1 H5.out.2.1.2.1 H5.out.2.1.2.2 (by have := H5.out.2.2.1; have := H5.out.1.lt; omega) H5.out.2.2.2.1 H5.out.2.2.2.2.1 H5.out.2.2.2.2.2 HP5.out.1 HP5.out.2.1 HP5.out.2.2 (by omega) (by omega) (by first | omega | simp) (by decide) (by decide)).mono ?_
    rintro e w10 ⟨rfl, a1, a2, a3, hm⟩
    clear y50 y51 y52
    have hwlt : w.heap.size < W4.heap.size := by omega
    replace hx := hx.keep hm.1 hwlt
    replace hB := hB.trans (hm.1.mono (Nat.le_of_lt hwlt))
    replace H4 := Lib.hid (H4.out.lo hm.1 (by omega))
    replace H6 := Lib.hid (H6.out.hi hm (by omega))
    replace H5 := Lib.hid (H5.out.marked hm a1 a2 a3)
    clear hm a1 a2 a3 hwlt
    have y60 := H6.out.1.cell 0 _ rfl
    have y61 := H6.out.1.cell 1 _ rfl
    have y62 := H6.out.1.cell 2 _ rfl
    have y40 := H4.out.1.cell 0 _ rfl
    have y41 := H4.out.1.cell 1 _ rfl
    have y42 := H4.out.1.cell 2 _ rfl
    go_wp2_with fail
    obtain ⟨d1, d2, d3⟩ := HE.out _ _ _ _ _ H6.out.2.1
    obtain ⟨g1, g2, g3⟩ := HE.out _ _ _ _ _ H4.out.2.1
    refine (eqDisk_same _ _ _ _ _ _ Y Y [] _ d1 d2 d3 g1 g2 g3).mono ?_
    rintro e w11 ⟨rfl, hbq⟩
    clear d1 d2 d3 g1 g2 g3 y60 y61 y62 y40 y41 y42
    replace hx := hx.keep hbq hx.lt
    replace hB := hB.trans (hbq.mono hB.size)
    replace H4 := Lib.hid (H4.out.keep hbq)
    replace H6 := Lib.hid (H6.out.keep hbq)
    clear hbq
    have y60 := H6.out.1.cell 0 _ rfl
    have y61 := H6.out.1.cell 1 _ rfl
    have y62 := H6.out.1.cell 2 _ rfl
    go_wp2_with fail
    refine (markDisk_any _ _ _ Y Y [] _ _ 1 _ H6.out.2.1.1 H6.out.2.1.2.1 H6.out.2.1.2.2 (by have := H6.out.2.2.1; have := H6.out.1.lt; omega) H6.out.2.2.2.1 H6.out.2.2.2.2.1 H6.out.2.2.2.2.2 HP6.out.1 HP6.out.2.1 HP6.out.2.2 (by omega) (by omega) (by first | omega | simp) (by decide) (by decide)).mono ?_
    rintro e w12 ⟨rfl, a1, a2, a3, hm⟩
    clear y60 y61 y62
    have hwlt : w.heap.size < W5.heap.size := by omega
    replace hx := hx.keep hm.1 hwlt
    replace hB := hB.trans (hm.1.mono (Nat.le_of_lt hwlt))
    replace H4 := Lib.hid (H4.out.lo hm.1 (by omega))
    replace H6 := Lib.hid (H6.out.marked hm a1 a2 a3)
    clear hm a1 a2 a3 hwlt
    clear H5
    have y60 := H6.out.1.cell 0 _ rfl
    have y61 := H6.out.1.cell 1 _ rfl
    have y62 := H6.out.1.cell 2 _ rfl
    go_wp2_with fail
    obtain ⟨d1, d2, d3⟩ := H6.out.2.1.ats (maFs_sz _ _) (maFs_sz _ _) (maDs_sz _ _)
    refine (heldDisk_any _ _ _ Y.length Y.length ([] : List DOp).length 1 _ d1 d2 d3 hyl hyl (Nat.zero_le _) (by decide) (by decide)).mono ?_
    rintro e w13 ⟨rfl, hbq⟩
    clear d1 d2 d3 y60 y61 y62
    replace hx := hx.keep hbq hx.lt
    replace hB := hB.trans (hbq.mono hB.size)
    replace H4 := Lib.hid (H4.out.keep hbq)
    replace H6 := Lib.hid (H6.out.keep hbq)
    clear hbq
    have f0 := hx.cell 0 _ rfl
    have f1 := hx.cell 1 _ rfl
    have f2 := hx.cell 2 _ rfl
    go_wp2_with fail
    refine (HT.out _ ((HL.out.below hB).mono hB.size) ((HS.out.below hB).mono hB.size) ((HO.out.below hB).mono hB.size)).mono ?_
    rintro e w14 ⟨l14, s14, o14, rfl, a1, a2, a3, hb14, _, _, _⟩
    clear f0 f1 f2
    obtain ⟨d1, d2, d3⟩ := HD.out w14 _ _ _ _ ⟨a1, a2, a3⟩
    have HI2 := Lib.hid (HI.out _ _ _ w14 d1 d2 (d3.od HSz.out))
    clear a1 a2 a3 d1 d2 d3
    replace hx := hx.keep hb14 hx.lt
    replace hB := hB.trans (hb14.mono hB.size)
    replace H4 := Lib.hid (H4.out.keep hb14)
    replace H6 := Lib.hid (H6.out.keep hb14)
    clear hb14
    go_wp2_with fail
    refine HI2.out.mono ?_
    rintro e w15 ⟨l15, s15, o15, rfl, a1, a2, a3, hb15, _, _, _⟩
    clear HI2
    obtain ⟨la7, lc7, rfl⟩ := a1.slice
    obtain ⟨sa7, sc7, rfl⟩ := a2.slice
    obtain ⟨oa7, oc7, rfl⟩ := a3.slice
    have hlt7 := hb15.size
    replace hx := hx.keep hb15 hx.lt
    replace hB := hB.trans (hb15.mono hB.size)
    replace H4 := Lib.hid (H4.out.keep hb15)
    replace H6 := Lib.hid (H6.out.keep hb15)
    clear hb15
    have H7 := Lib.hid (DkI.new (w0 := w15) a1 a2 a3 hlt7)
    have hba : Below w15.heap.size w15 (w15.alloc (.cells #[.slice la7 Y.length lc7, .slice sa7 Y.length sc7, .slice oa7 0 oc7] 64)) := (Below.refl _ _).alloc (Nat.le_refl _) _
    replace hx := hx.keep hba hx.lt
    replace hB := hB.trans (hba.mono hB.size)
    have hz7 : w15.heap.size < (w15.alloc (.cells #[.slice la7 Y.length lc7, .slice sa7 Y.length sc7, .slice oa7 0 oc7] 64)).heap.size := by simp
    replace H4 := Lib.hid (H4.out.keep hba)
    replace H6 := Lib.hid (H6.out.keep hba)
    clear a1 a2 a3 hba
    have y40 := H4.out.1.cell 0 _ rfl
    have y41 := H4.out.1.cell 1 _ rfl
    have y42 := H4.out.1.cell 2 _ rfl
    have y70 := H7.out.1.cell 0 _ rfl
    have y71 := H7.out.1.cell 1 _ rfl
    have y72 := H7.out.1.cell 2 _ rfl
    go_wp2_with fail
    generalize w15.alloc (.cells #[.slice la7 Y.length lc7, .slice sa7 Y.length sc7, .slice oa7 0 oc7] 64) = W7 at hx hB H4 H6 H7 hz7 y40 y41 y42 y70 y71 y72 ⊢
    obtain ⟨d1, d2, d3⟩ := HE.out _ _ _ _ _ H7.out.2.1
    obtain ⟨g1, g2, g3⟩ := HE.out _ _ _ _ _ H4.out.2.1
    refine (eqDisk_same _ _ _ _ _ _ Y Y [] _ d1 d2 d3 g1 g2 g3).mono ?_
    rintro e w16 ⟨rfl, hbq⟩
    clear d1 d2 d3 g1 g2 g3 y70 y71 y72 y40 y41 y42
    replace hx := hx.keep hbq hx.lt
    replace hB := hB.trans (hbq.mono hB.size)
    replace H4 := Lib.hid (H4.out.keep hbq)
    replace H6 := Lib.hid (H6.out.keep hbq)
    replace H7 := Lib.hid (H7.out.keep hbq)
    clear hbq
    have y60 := H6.out.1.cell 0 _ rfl
    have y61 := H6.out.1.cell 1 _ rfl
    have y62 := H6.out.1.cell 2 _ rfl
    go_wp2_with fail
    obtain ⟨d1, d2, d3⟩ := H6.out.2.1.ats (maFs_sz _ _) (maFs_sz _ _) (maDs_sz _ _)
    refine (heldDisk_any _ _ _ Y.length Y.length ([] : List DOp).length 1 _ d1 d2 d3 hyl hyl (Nat.zero_le _) (by decide) (by decide)).mono ?_
    rintro e w17 ⟨rfl, hbq⟩
    clear d1 d2 d3 y60 y61 y62
    replace hx := hx.keep hbq hx.lt
    replace hB := hB.trans (hbq.mono hB.size)
    clear hbq
    go_wp2
    go_ret
    exact ⟨rfl, hB⟩
end Go.Proofs.Ytffkakpbelknaaa

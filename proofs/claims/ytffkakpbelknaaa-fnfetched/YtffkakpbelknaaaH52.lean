/- Joined: Draw23, Draw24, LawD. -/
import Derived.Test.YtffkakpbelknaaaH11
import Derived.Test.YtffkakpbelknaaaH19
import Derived.Test.YtffkakpbelknaaaH48
import Derived.Test.YtffkakpbelknaaaH50
import Derived.Test.YtffkakpbelknaaaH51
/- Draw23 -/
namespace Go.Proofs.Ytffkakpbelknaaa
open Go.ChangeShapes Go.WideShapes Go.ChangeAt Go.RowKit
set_option linter.unusedVariables false

theorem fd_rd2 : ∀ (os : List OpD) (r : List Sb), rdB r = true → rdB (fdG r os).1 = true
  | [], r, h => h
  | o :: os, r, h => by
    cases ho : doV r o with
    | none => rw [fdG_none ho]; exact h
    | some r2 => rw [fdG_some ho]; exact fd_rd2 os r2 (doV_rd ho)
theorem OwnD.keepG {w w' : World} {B rb : Nat} {v : Value} {ps : List (Sb × Value)} (h : OwnD w B v ps) (hg : w.grownBy w' (Option.some rb)) (hb : rb < B) : OwnD w' B v ps := ⟨h.1.keepG hg hb, fun p hp => (h.2.1 p hp).keepG hg hb, h.2.2⟩
theorem OwnS.keepG {w w' : World} {B rb : Nat} {v : Value} {ss : List Sb} (h : OwnS w B v ss) (hg : w.grownBy w' (some rb)) (hb : rb < B) : OwnS w' B v ss := by
  obtain ⟨ps, h1, h2, h3⟩ := h
  exact ⟨ps, h1, h2.keepG hg hb, fun p hp => (h3 p hp).keepG hg hb⟩
/-- What is drawn as a reader. -/
def OutRdr (base rb : Nat) (cv : Value) (zs : List Int) (w : World) (e : Ending) (w' : World) : Prop :=
  ∃ (V : Value) (ss : List Sb), e = .returned (.agg #[V]) ∧ (∀ s ∈ ss, SbSz s ∧ ∀ x ∈ s.es, EnSz x) ∧ OwnS w' w.heap.size V ss ∧ Rd w' base rb cv zs ∧ w.grownBy w' (some rb)
/-- The first feed once more at the end. -/
theorem OwnS.again {w w' : World} {B : Nat} {v v' : Value} {qs : List (Sb × Value)} {p : Sb × Value} (h : OwnD w B v qs) (hp : p ∈ qs) (hg : w.grownBy w' v.ownBlock) (ho : OwnR 43 3 sbC w' B v' (qs ++ [p])) : OwnS w' B v' ((qs ++ [p]).map Prod.fst) := by
  refine ⟨_, rfl, ho, fun q hq => ?_⟩
  have hq2 : q ∈ qs := by
    rcases List.mem_append.1 hq with h1 | h1
    · exact h1
    · rw [List.mem_singleton.1 h1]; exact hp
  exact (h.2.1 q hq2).keepRow hg (own_apart (by decide) (h.2.1 q hq2) h.1)

theorem OwnS.offBoxS {w : World} {B g : Nat} {cs : Array Value} {v : Value} {ss : List Sb} (h : OwnS w B v ss) (hZ : Box w g cs 26) (z : Value) : OwnS (w.setCell ⟨g, 0, none⟩ z) B v ss := by
  obtain ⟨ps, h1, h2, h3⟩ := h
  exact ⟨ps, h1, h2.off ⟨g, 0, none⟩ z (box_row hZ h2 (by decide)), fun p hp => (h3 p hp).off ⟨g, 0, none⟩ z (box_row hZ (h3 p hp) (by decide))⟩
theorem row_ne {α : Type} {k : Nat} {C : α → List Value} {e t : TypeId} {w : World} {B F : Nat} {cs : Array Value} {v : Value} {l : List α} (hX : Box w F cs t) (h : OwnR e k C w B v l) (he : e ≠ t) {g : Nat} (hg : v.ownBlock = some g) : F ≠ g := fun e2 => box_row hX h he (by rw [hg, e2])

set_option maxRecDepth 100000 in
set_option maxHeartbeats 3000000 in
theorem reader_any (base rb : Nat) (cv : Value) (zs : List Int) (w : World) (h : Rd w base rb cv zs) :
    Calls Try.prog 47 #[.pointer (some ⟨rb, 0, none⟩)] w (OutRdr base rb cv zs w) := by
  have hrb := h.lt
  have hr0 := h.alloc (.cells #[.slice none 0 0] 26)
  have hg0 := World.grownBy_alloc w (.cells #[.slice none 0 0] 26) (some rb)
  have hz0 := Box.new w #[.slice none 0 0] 26
  have hs0 : (w.alloc (.cells #[.slice none 0 0] 26)).heap.size = w.heap.size + 1 := by simp
  clear h
  go_enter Try.func47, Try.ntmps47
  go_wp2_with fail
  refine (ops_any 12 (by omega) (by omega) base rb cv zs _ hr0).mono ?_
  rintro e w1 ⟨V0, ps, rfl, hpl, hq, hr1, hg1⟩
  have hz1 := hz0.keepG hg1 (by omega)
  have g1 := grown_trans hg0 hg1
  have HO := Lib.hid hq.at
  obtain ⟨va, vc, hV⟩ := hq.r.slice
  subst hV
  clear hz0 hg0 hg1 hr0 hs0 hq hpl
  go_wp2_with fail
  refine (specFolded_any _ _ _ HO.out).mono ?_
  rintro e w2 ⟨V, qs, rfl, hqs, hD, hb2⟩
  have hrdB : rdB (fdV (ps.map Prod.fst)).1 = true := fd_rd2 _ _ rdB_nil
  have hlq : qs.length ≤ 6 := by
    have := rd_len hrdB
    rw [← hqs, List.length_map] at this
    exact this
  have HZ : Hid (∀ s ∈ qs.map Prod.fst, SbSz s ∧ ∀ x ∈ s.es, EnSz x) := Lib.hid (by rw [hqs]; exact rd_sz hrdB)
  generalize ((fdV (ps.map Prod.fst)).2 : Int) = N
  clear hqs hrdB HO
  obtain ⟨va2, vc2, hV⟩ := hD.1.slice
  subst hV
  have hD2 := hD.lower g1.size
  have hz2 := hz1.keep hb2 hz1.lt
  have hr2 := hr1.below hb2 hr1.lt
  have g2 := gw_below g1 hb2 g1.size
  clear hD hz1 hr1 g1 hb2
  have hba : Below w2.heap.size w2 (w2.alloc (.cells #[.slice va2 qs.length vc2] 26)) := (Below.refl _ _).alloc (Nat.le_refl _) _
  have hX3 := Box.new w2 #[.slice va2 qs.length vc2] 26
  have hz3 := hz2.keep hba hz2.lt
  have hD3 := hD2.keep hba (Nat.le_refl _)
  have hr3 := hr2.below hba hr2.lt
  have g3 := gw_below g2 hba g2.size
  have hF := hz2.lt
  clear hz2 hD2 hr2 g2 hba
  go_wp2_with fail
  refine (below_any 30 base rb cv zs _ hr3 (by omega) (by omega)).mono ?_
  rintro e W ⟨d, rfl, hd0, hd1, hr, hg4⟩
  have hX := hX3.keepG hg4 (by omega)
  have hz := hz3.keepG hg4 (by omega)
  have hD := hD3.keepG hg4 hrb
  have g := grown_trans g3 hg4
  clear hX3 hz3 hD3 g3 hg4 hr3
  generalize w2.heap.size = F at hX hF ⊢
  have hO : OwnS W w.heap.size (.slice va2 qs.length vc2) (qs.map Prod.fst) := ⟨qs, rfl, hD.1, hD.2.1⟩
  rcases (show d = 28 ∨ d = 29 ∨ (d ≠ 28 ∧ d ≠ 29) by omega) with rfl | rfl | ⟨hd28, hd29⟩
  · by_cases h0 : 0 < qs.length
    · obtain ⟨gr, cap, hV, hgl, hgB, hcap, hcap2⟩ := hD.some h0
      simp only [Value.slice.injEq, true_and] at hV
      obtain ⟨rfl, rfl⟩ := hV
      have hp : qs[0] ∈ qs := List.getElem_mem h0
      obtain ⟨s0, hs0⟩ : ∃ s0, s0 = qs[0].1 := ⟨_, rfl⟩
      obtain ⟨y0, hy0⟩ : ∃ y0, y0 = qs[0].2 := ⟨_, rfl⟩
      have hp2 : qs[0] = (s0, y0) := by rw [hs0, hy0]
      have c0 := hD.1.val sbC_len rfl 0 0 (.string s0.u) h0 (by rw [hp2]; rfl)
      have c1 := hD.1.val sbC_len rfl 0 1 (.string s0.t) h0 (by rw [hp2]; rfl)
      have c2 := hD.1.val sbC_len rfl 0 2 y0 h0 (by rw [hp2]; rfl)
      obtain ⟨ya, yc, hyv⟩ := (hD.2.1 _ hp).slice
      rw [hp2] at hyv hp
      simp only at hyv
      subst hyv
      simp only [Nat.zero_mul, Nat.zero_add] at c0 c1 c2
      have HP := Lib.hid hp2
      have HM := Lib.hid hp
      have HY := Lib.hid hy0
      clear hp2 hp hs0 hy0 hO
      have x0 := hX.cell 0 _ rfl
      have hgt : decide ((0 : Int) < (qs.length : Int)) = true := decide_eq_true (by omega)
      have hln : (0 : Int) < (qs.length : Int) := by omega
      have hFg : F ≠ gr := row_ne hX hD.1 (by decide) rfl
      go_wp2
      have x1 := hX.drew
      have hD1 := hD.drew
      have hz1 := hz.drew
      have hr1 : Rd W.drew base rb cv zs := hr.drewN 1
      have g1 : w.grownBy W.drew (some rb) := grown_drewN g 1
      clear x0 hX hD hz hr g
      change W.drew.cell? ⟨gr, 0, none⟩ = _ at c0
      change W.drew.cell? ⟨gr, 1, none⟩ = _ at c1
      change W.drew.cell? ⟨gr, 2, none⟩ = _ at c2
      refine wp_region_T (fun _ => True) (fun w' => Box w' F #[.slice (some ⟨gr, 0, none⟩) qs.length vc2] 26 ∧ w'.cell? ⟨gr, 0, none⟩ = some (.string s0.u) ∧ w'.cell? ⟨gr, 1, none⟩ = some (.string s0.t) ∧ w'.cell? ⟨gr, 2, none⟩ = some (.slice ya s0.es.length yc)) 9 (by kernel_rfl) 10 rfl ?_
      generalize W.drew = W1 at x1 hD1 hz1 hr1 g1 c0 c1 c2 ⊢
      refine wpAnyT_takesB (md := .any) 4 (by kernel_rfl) (by intro d v c a w h; cases d <;> exact h) [0, 1, 2, 3, 4, 5] _ _ _ (by decide) (by kernel_rfl) (by kernel_rfl) (by kernel_rfl) ⟨trivial, fun _ => ⟨x1, c0, c1, c2⟩⟩ ?_
      simp only [pick, List.filterMap_cons, List.filterMap_nil, List.getElem?_cons_zero, List.getElem?_cons_succ]
      refine wpIf_step (.pointer (some ⟨F, 0, none⟩)) (by kernel_rfl) (fun w hw => by go_simp) ?_
      refine wpIf_step (.slice (some ⟨gr, 0, none⟩) qs.length vc2) (by kernel_rfl) (fun w hw => by have e0 := hw.2.1.cell 0 _ rfl; go_simp) ?_
      refine wpIf_step (.pointer (some ⟨F, 0, none⟩)) (by kernel_rfl) (fun w hw => by go_simp) ?_
      refine wpIf_step (.slice (some ⟨gr, 0, none⟩) qs.length vc2) (by kernel_rfl) (fun w hw => by have e0 := hw.2.1.cell 0 _ rfl; go_simp) ?_
      refine wpIf_step (.pointer (some ⟨gr, 0, none⟩)) (by kernel_rfl) (fun w hw => by go_simp) ?_
      refine wpIf_step (.agg #[.string s0.u, .string s0.t, .slice ya s0.es.length yc]) (by kernel_rfl) (fun w hw => by have e0 := hw.2.2.1; have e1 := hw.2.2.2.1; have e2 := hw.2.2.2.2; go_simp) ?_
      refine wpIf_nil (fun hS => ?_)
      clear hS
      refine wpAnyT_one 6 3 (by kernel_rfl) rfl (by kernel_rfl) (fun K hK => ?_)
      go_simp
      have hba : Below W1.heap.size W1 (W1.alloc (.cells #[.string s0.u, .string s0.t, .slice ya s0.es.length yc] 43)) := (Below.refl _ _).alloc (Nat.le_refl _) _
      have hN := Box.new W1 #[.string s0.u, .string s0.t, .slice ya s0.es.length yc] 43
      have hgl1 : gr < W1.heap.size := (World.ownsRow.lt hD1.1 gr rfl).2
      have kc : ∀ o x, W1.cell? ⟨gr, o, none⟩ = some x → (W1.alloc (.cells #[.string s0.u, .string s0.t, .slice ya s0.es.length yc] 43)).cell? ⟨gr, o, none⟩ = some x := fun o x h => by rw [hba.cell (p := ⟨gr, o, none⟩) hgl1]; exact h
      have x2 := x1.keep hba x1.lt
      have hD2 := hD1.keep hba (Nat.le_refl _)
      have hz2 := hz1.keep hba hz1.lt
      have hr2 := hr1.below hba hr1.lt
      have g2 := gw_below g1 hba g1.size
      refine hK _ _ ⟨trivial, fun _ => ⟨x2, kc _ _ c0, kc _ _ c1, kc _ _ c2⟩⟩ (fun hS => ?_)
      have c0b := kc _ _ c0
      have c1b := kc _ _ c1
      have c2b := kc _ _ c2
      have hsz2 : w.heap.size ≤ (W1.alloc (.cells #[.string s0.u, .string s0.t, .slice ya s0.es.length yc] 43)).heap.size := g2.size
      clear hK K hS kc hba x1 hD1 hz1 hr1 g1 c0 c1 c2 hgl1
      generalize W1.alloc (.cells #[.string s0.u, .string s0.t, .slice ya s0.es.length yc] 43) = W2 at x2 hD2 hz2 hr2 g2 hN c0b c1b c2b hsz2 ⊢
      generalize W1.heap.size = gn at hN ⊢
      have hrec : RecAt 3 sbC W2 (gn + 1) (.slice (some ⟨gn, 0, none⟩) 1 1) [((s0, .slice ya s0.es.length yc) : Sb × Value)] := by
        refine ⟨_, 1, rfl, Nat.le_refl _, by unfold maxLen; omega, fun _ => ⟨gn, 0, rfl, Nat.lt_succ_self _, fun i hi j u hu => ?_⟩⟩
        have hi0 : i = 0 := by simpa using hi
        subst hi0
        simp only [Nat.zero_mul, Nat.zero_add]
        exact cell_of_cells hN (by simpa [sbC] using hu)
      have hone : ∀ z ∈ ([((s0, .slice ya s0.es.length yc) : Sb × Value)] : List (Sb × Value)), ∀ u ∈ sbC z, u.oneCell' = true := fun z hz u hu => by
        rw [List.mem_singleton.1 hz] at hu
        simp only [sbC, List.mem_cons, List.not_mem_nil, or_false] at hu
        rcases hu with rfl | rfl | rfl <;> rfl
      obtain ⟨v2, w3, hrun, hv2, hgr2, hck⟩ := appK_run (P := Try.prog) (t := 24) sbC_len (by decide) Try.underlying24 Try.infoSub rfl (by decide) hD2.1 hrec hone (by simp; omega) hsz2 24
      have hFg2 : F ≠ gr := hFg
      have hck2 : ∀ j u, (sbC qs[0])[j]? = some u → w3.cell? ⟨gr, j, none⟩ = some u := fun j u hu => by
        have hj : j < 3 := by have := (List.getElem?_eq_some_iff.1 hu).1; rwa [sbC_len] at this
        have := hck j u (by have h5 := flat_get sbC_len qs 0 j h0 hj; simp only [Nat.zero_mul, Nat.zero_add] at h5; rw [h5]; exact hu)
        rw [Addr.add_lit] at this
        simpa using this
      have k0 := hck2 0 (.string s0.u) (by rw [HP.out]; rfl)
      have k1 := hck2 1 (.string s0.t) (by rw [HP.out]; rfl)
      have k2 := hck2 2 (.slice ya s0.es.length yc) (by rw [HP.out]; rfl)
      have kb : ∀ (b : Nat) cs t, b ≠ gr → Box W2 b cs t → Box w3 b cs t := fun b cs t hb hx => (hgr2.block b hx.lt (fun e => hb (Option.some.inj e))).trans hx
      have hzg : w.heap.size ≠ gr := row_ne hz2 hD2.1 (by decide) rfl
      have x3 := kb F _ _ hFg2 x2
      have z3 := kb _ _ _ hzg hz2
      have hrg : rb ≠ gr := by omega
      have hb23 : Below w.heap.size W2 w3 := below_of_grown hgr2 hgB g2.size
      have hr3 : Rd w3 base rb cv zs := hr2.below hb23 hrb
      have g3 : w.grownBy w3 (some rb) := gw_below g2 hb23 (Nat.le_refl _)
      have hS3 : OwnS w3 w.heap.size v2 ((qs ++ [((s0, .slice ya s0.es.length yc) : Sb × Value)]).map Prod.fst) := OwnS.again hD2 (by rw [← HP.out]; exact List.getElem_mem h0) hgr2 hv2
      obtain ⟨wa, wc, hv2f⟩ := hv2.slice
      have hln : (qs ++ [((s0, .slice ya s0.es.length yc) : Sb × Value)]).length = qs.length + 1 := by simp
      rw [hln] at hv2f
      clear hln
      refine wpAnyT_one 7 2 (by kernel_rfl) rfl (by kernel_rfl) (fun K hK => ?_)
      refine wp_appQ 24 (.tmp 20) (.tmp 25) rfl _ _ v2 rfl rfl hrun ?_
      go_simp
      refine hK _ _ ⟨trivial, fun _ => ⟨x3, k0, k1, k2⟩⟩ (fun hS => ?_)
      clear hK K hS
      refine wpAnyT_one 8 1 (by kernel_rfl) rfl (by kernel_rfl) (fun K hK => ?_)
      go_simp
      refine hK _ _ ⟨trivial, fun _ => ⟨x3, k0, k1, k2⟩⟩ (fun hS => ?_)
      clear hK K hS x2 hD2 hz2 hr2 g2 hN c0b c1b c2b hsz2 hrec hone hck hck2 kb hgr2 hrun hv2
      subst hv2f
      have x0 := x3.cell 0 _ rfl
      have xf := x3.free
      have hX5 := x3.set 0 (.slice wa (qs.length + 1) wc)
      have hb5 : Below F w3 (w3.setCell ⟨F, 0, none⟩ (.slice wa (qs.length + 1) wc)) := (Below.refl _ w3).setCell (p := ⟨F, 0, none⟩) (Nat.le_refl _) _
      have hz5 := z3.keep hb5 hF
      have hr5 := hr3.below hb5 (by omega)
      have g5 := gw_below g3 hb5 (by omega)
      have hO5 := OwnS.offBoxS hS3 x3 (.slice wa (qs.length + 1) wc)
      refine wpAnyT_one 9 0 (by kernel_rfl) rfl (by kernel_rfl) (fun K hK => ?_)
      go_simp
      refine hK _ _ ⟨trivial, fun h => by exact absurd h (by decide)⟩ (fun hS => ?_)
      have HZ2 : Hid (∀ s ∈ (qs ++ [((s0, .slice ya s0.es.length yc) : Sb × Value)]).map Prod.fst, SbSz s ∧ ∀ x ∈ s.es, EnSz x) := Lib.hid (by
        intro s hs
        rw [List.map_append] at hs
        rcases List.mem_append.1 hs with h5 | h5
        · exact HZ.out s h5
        · refine HZ.out s ?_
          rw [← HP.out] at h5
          simp only [List.map_cons, List.map_nil, List.mem_singleton] at h5
          rw [h5]
          exact List.mem_map.2 ⟨_, List.getElem_mem h0, rfl⟩)
      clear hK K hS x0 xf hb5 x3 z3 hr3 g3 hS3 k0 k1 k2
      generalize w3.setCell ⟨F, 0, none⟩ (.slice wa (qs.length + 1) wc) = W5 at hX5 hz5 hr5 g5 hO5 ⊢
      change Box W5 F #[.slice wa (qs.length + 1) wc] _ at hX5
      refine wpAnyT_over (by kernel_rfl) ?_
      have x0e := hX5.cell 0 _ rfl
      have z0e := hz5.cell 0 _ rfl
      have zfe := hz5.free
      go_wp2
      have hb5e : Below w.heap.size W5 (W5.setCell ⟨w.heap.size, 0, none⟩ (.slice wa (qs.length + 1) wc)) := (Below.refl _ W5).setCell (p := ⟨w.heap.size, 0, none⟩) (Nat.le_refl _) _
      have r5e := hr5.below hb5e hrb
      have g5e := gw_below g5 hb5e (Nat.le_refl _)
      have o5e := OwnS.offBoxS hO5 hz5 (.slice wa (qs.length + 1) wc)
      have q5e := hz5.set 0 (.slice wa (qs.length + 1) wc)
      have d0e := cell_of_cells (i := 0) q5e rfl
      exact bodyPost_ret (v := .agg #[(.slice wa (qs.length + 1) wc)]) (by simp [results, Try.results47, go_sem, d0e]) rfl ⟨(.slice wa (qs.length + 1) wc), _, rfl, HZ2.out, o5e, r5e, g5e⟩
    · have hgt : decide ((0 : Int) < (qs.length : Int)) = false := decide_eq_false (by omega)
      have hx0 := hX.cell 0 _ rfl
      have x0e := hX.cell 0 _ rfl
      have z0e := hz.cell 0 _ rfl
      have zfe := hz.free
      go_wp2
      have hb5e : Below w.heap.size W (W.setCell ⟨w.heap.size, 0, none⟩ (.slice va2 qs.length vc2)) := (Below.refl _ W).setCell (p := ⟨w.heap.size, 0, none⟩) (Nat.le_refl _) _
      have r5e := hr.below hb5e hrb
      have g5e := gw_below g hb5e (Nat.le_refl _)
      have o5e := OwnS.offBoxS hO hz (.slice va2 qs.length vc2)
      have q5e := hz.set 0 (.slice va2 qs.length vc2)
      have d0e := cell_of_cells (i := 0) q5e rfl
      exact bodyPost_ret (v := .agg #[(.slice va2 qs.length vc2)]) (by simp [results, Try.results47, go_sem, d0e]) rfl ⟨(.slice va2 qs.length vc2), _, rfl, HZ.out, o5e, r5e, g5e⟩
  · by_cases h0 : 0 < qs.length
    · obtain ⟨gr, cap, hV, hgl, hgB, hcap, hcap2⟩ := hD.some h0
      simp only [Value.slice.injEq, true_and] at hV
      obtain ⟨rfl, rfl⟩ := hV
      have hp : qs[0] ∈ qs := List.getElem_mem h0
      obtain ⟨s0, hs0⟩ : ∃ s0, s0 = qs[0].1 := ⟨_, rfl⟩
      obtain ⟨y0, hy0⟩ : ∃ y0, y0 = qs[0].2 := ⟨_, rfl⟩
      have hp2 : qs[0] = (s0, y0) := by rw [hs0, hy0]
      have HE := hD.2.1 _ hp
      obtain ⟨ya, yc, hyv⟩ := HE.slice
      rw [hp2] at hyv HE
      simp only at hyv HE
      subst hyv
      have HP := Lib.hid hp2
      have HC : Hid (∀ W', OwnR 43 3 sbC W' w.heap.size (.slice (some ⟨gr, 0, none⟩) qs.length vc2) qs → W'.cell? ⟨gr, 2, none⟩ = some (.slice ya s0.es.length yc)) := Lib.hid (fun W' hh => by
        have := hh.val sbC_len rfl 0 2 (.slice ya s0.es.length yc) h0 (by rw [hp2]; rfl)
        simpa using this)
      have c2 := HC.out _ hD.1
      clear hp2 hp hs0 hy0
      have x0 := hX.cell 0 _ rfl
      have hgt : decide ((0 : Int) < (qs.length : Int)) = true := decide_eq_true (by omega)
      have hln : (0 : Int) < (qs.length : Int) := by omega
      by_cases h1 : 0 < s0.es.length
      · obtain ⟨ge, rfl, heB, hel, _⟩ := HE.form h1
        have hgt2 : decide ((0 : Int) < (s0.es.length : Int)) = true := decide_eq_true (by omega)
        have hln2 : (0 : Int) < (s0.es.length : Int) := by omega
        have hFg : F ≠ ge := row_ne hX HE (by decide) rfl
        have hzg : w.heap.size ≠ ge := row_ne hz HE (by decide) rfl
        clear hO HE
        go_wp2
        have x1 := hX.drew
        have hD1 := hD.drew
        have hz1 := hz.drew
        have hr1 : Rd W.drew base rb cv zs := hr.drewN 1
        have g1 : w.grownBy W.drew (some rb) := grown_drewN g 1
        clear x0 hX hD hz hr g
        change W.drew.cell? ⟨gr, 2, none⟩ = _ at c2
        refine wp_region_T (fun _ => True) (fun w' => Box w' F #[.slice (some ⟨gr, 0, none⟩) qs.length vc2] 26 ∧ w'.cell? ⟨gr, 2, none⟩ = some (.slice (some ⟨ge, 0, none⟩) s0.es.length yc)) 10 (by kernel_rfl) 11 rfl ?_
        generalize W.drew = W1 at x1 hD1 hz1 hr1 g1 c2 ⊢
        refine wpAnyT_takesB (md := .any) 5 (by kernel_rfl) (by intro d v c a w h; cases d <;> exact h) [0, 1, 2, 3, 4, 5] _ _ _ (by decide) (by kernel_rfl) (by kernel_rfl) (by kernel_rfl) ⟨trivial, fun _ => ⟨x1, c2⟩⟩ ?_
        simp only [pick, List.filterMap_cons, List.filterMap_nil, List.getElem?_cons_zero, List.getElem?_cons_succ]
        refine wpIf_step (.pointer (some ⟨F, 0, none⟩)) (by kernel_rfl) (fun w hw => by go_simp) ?_
        refine wpIf_step (.slice (some ⟨gr, 0, none⟩) qs.length vc2) (by kernel_rfl) (fun w hw => by have e0 := hw.2.1.cell 0 _ rfl; go_simp) ?_
        refine wpIf_step (.pointer (some ⟨gr, 0, none⟩)) (by kernel_rfl) (fun w hw => by go_simp) ?_
        refine wpIf_step (.pointer (some ⟨gr, 2, none⟩)) (by kernel_rfl) (fun w hw => by go_simp) ?_
        refine wpIf_step (.slice (some ⟨ge, 0, none⟩) s0.es.length yc) (by kernel_rfl) (fun w hw => by have e0 := hw.2.2; go_simp) ?_
        refine wpIf_step (.pointer (some ⟨rb, 0, none⟩)) (by kernel_rfl) (fun w hw => by go_simp) ?_
        refine wpIf_nil (fun hS => ?_)
        clear hS
        refine wpAnyT_one 6 4 (by kernel_rfl) rfl (by kernel_rfl) (fun K hK => ?_)
        go_simp
        refine (off_any 0 200000 base rb cv zs _ hr1 (by omega) (by omega) (by omega)).mono ?_
        rintro e w5 ⟨n, rfl, hn, hr5, hg5⟩
        have x5 := x1.keepG hg5 (by omega)
        have hD5 := hD1.keepG hg5 hrb
        have hz5 := hz1.keepG hg5 (by omega)
        have g5 := grown_trans g1 hg5
        have c5 := HC.out _ hD5.1
        clear x1 hD1 hz1 hr1 g1 c2 hg5
        refine hK _ _ ⟨trivial, fun _ => ⟨x5, c5⟩⟩ (fun hS => ?_)
        clear hK K hS
        refine wpAnyT_one 7 3 (by kernel_rfl) rfl (by kernel_rfl) (fun K hK => ?_)
        go_simp
        refine hK _ _ ⟨trivial, fun _ => ⟨x5, c5⟩⟩ (fun hS => ?_)
        clear hK K hS
        refine wpAnyT_one 8 2 (by kernel_rfl) rfl (by kernel_rfl) (fun K hK => ?_)
        go_simp
        refine hK _ _ ⟨trivial, fun _ => ⟨x5, c5⟩⟩ (fun hS => ?_)
        clear hK K hS
        refine wpAnyT_one 9 1 (by kernel_rfl) rfl (by kernel_rfl) (fun K hK => ?_)
        go_simp
        refine hK _ _ ⟨trivial, fun _ => ⟨x5, c5⟩⟩ (fun hS => ?_)
        clear hK K hS
        have HE5 : OwnR 47 5 enC w5 w.heap.size (.slice (some ⟨ge, 0, none⟩) s0.es.length yc) s0.es := by
          have := hD5.2.1 _ (List.getElem_mem h0)
          rw [HP.out] at this
          exact this
        obtain ⟨it, rd, st, hen⟩ : ∃ it rd st, s0.es[0] = (⟨it, rd, st⟩ : En) := ⟨_, _, _, rfl⟩
        have q2 := HE5.val enC_len rfl 0 2 (.int .i64 it.da) h1 (by rw [hen]; rfl)
        have qf := HE5.free rfl 2
        simp only [Nat.zero_mul, Nat.zero_add] at q2
        refine wpAnyT_one 10 0 (by kernel_rfl) rfl (by kernel_rfl) (fun K hK => ?_)
        go_simp
        refine hK _ _ ⟨trivial, fun h => by exact absurd h (by decide)⟩ (fun hS => ?_)
        have HE6 := HE5.setF enC_len rfl 0 2 (⟨⟨it.id, it.ti, n⟩, rd, st⟩ : En) (.int .i64 n) h1 (by decide) (by rw [hen]; rfl)
        simp only [Nat.zero_mul, Nat.zero_add] at HE6
        have hge : w5.grownBy (w5.setCell ⟨ge, 2, none⟩ (.int .i64 n)) (qs[0].2.ownBlock) := by
          rw [HP.out]
          exact gb_set (World.grownBy.refl _ _) ⟨ge, 2, none⟩ _ (.inr rfl)
        have hD6 := hD5.inplace 0 h0 (⟨s0.u, s0.t, s0.es.set 0 ⟨⟨it.id, it.ti, n⟩, rd, st⟩⟩ : Sb) (by rw [HP.out]) (by rw [HP.out]) hge (by rw [HP.out]; exact HE6)
        have hO6 : OwnS (w5.setCell ⟨ge, 2, none⟩ (.int .i64 n)) w.heap.size (.slice (some ⟨gr, 0, none⟩) qs.length vc2) _ := ⟨_, rfl, hD6.1, hD6.2.1⟩
        have hX6 := x5.other ⟨ge, 2, none⟩ (.int .i64 n) hFg
        have hz6 := hz5.other ⟨ge, 2, none⟩ (.int .i64 n) hzg
        have hb6 : Below w.heap.size w5 (w5.setCell ⟨ge, 2, none⟩ (.int .i64 n)) := (Below.refl _ _).setCell (p := ⟨ge, 2, none⟩) heB _
        have hr6 := hr5.below hb6 hrb
        have g6 := gw_below g5 hb6 (Nat.le_refl _)
        have HZ2 : Hid (∀ s ∈ (qs.set 0 ((⟨s0.u, s0.t, s0.es.set 0 ⟨⟨it.id, it.ti, n⟩, rd, st⟩⟩ : Sb), qs[0].2)).map Prod.fst, SbSz s ∧ ∀ x ∈ s.es, EnSz x) := Lib.hid (by
          intro s hs
          obtain ⟨p, hp, rfl⟩ := List.mem_map.1 hs
          have h00 := HZ.out s0 (List.mem_map.2 ⟨qs[0], List.getElem_mem h0, by rw [HP.out]⟩)
          rcases List.mem_or_eq_of_mem_set hp with h5 | h5
          · exact HZ.out _ (List.mem_map.2 ⟨p, h5, rfl⟩)
          · rw [h5]
            refine ⟨h00.1, fun x hx => ?_⟩
            rcases List.mem_or_eq_of_mem_set hx with h6 | h6
            · exact h00.2 x h6
            · rw [h6]
              have := h00.2 _ (List.getElem_mem h1)
              rw [hen] at this
              exact this)
        clear hK K hS q2 qf HE5 HE6 hge hD5 hD6 x5 hz5 hr5 g5 c5 hb6
        generalize w5.setCell ⟨ge, 2, none⟩ (.int .i64 n) = W6 at hX6 hz6 hr6 g6 hO6 ⊢
        refine wpAnyT_over (by kernel_rfl) ?_
        have x0e := hX6.cell 0 _ rfl
        have z0e := hz6.cell 0 _ rfl
        have zfe := hz6.free
        go_wp2
        have hb5e : Below w.heap.size W6 (W6.setCell ⟨w.heap.size, 0, none⟩ (.slice (some ⟨gr, 0, none⟩) qs.length vc2)) := (Below.refl _ W6).setCell (p := ⟨w.heap.size, 0, none⟩) (Nat.le_refl _) _
        have r5e := hr6.below hb5e hrb
        have g5e := gw_below g6 hb5e (Nat.le_refl _)
        have o5e := OwnS.offBoxS hO6 hz6 (.slice (some ⟨gr, 0, none⟩) qs.length vc2)
        have q5e := hz6.set 0 (.slice (some ⟨gr, 0, none⟩) qs.length vc2)
        have d0e := cell_of_cells (i := 0) q5e rfl
        exact bodyPost_ret (v := .agg #[(.slice (some ⟨gr, 0, none⟩) qs.length vc2)]) (by simp [results, Try.results47, go_sem, d0e]) rfl ⟨(.slice (some ⟨gr, 0, none⟩) qs.length vc2), _, rfl, HZ2.out, o5e, r5e, g5e⟩
      · have hgt2 : decide ((0 : Int) < (s0.es.length : Int)) = false := decide_eq_false (by omega)
        have x0e := hX.cell 0 _ rfl
        have z0e := hz.cell 0 _ rfl
        have zfe := hz.free
        go_wp2
        have hb5e : Below w.heap.size W (W.setCell ⟨w.heap.size, 0, none⟩ (.slice (some ⟨gr, 0, none⟩) qs.length vc2)) := (Below.refl _ W).setCell (p := ⟨w.heap.size, 0, none⟩) (Nat.le_refl _) _
        have r5e := hr.below hb5e hrb
        have g5e := gw_below g hb5e (Nat.le_refl _)
        have o5e := OwnS.offBoxS hO hz (.slice (some ⟨gr, 0, none⟩) qs.length vc2)
        have q5e := hz.set 0 (.slice (some ⟨gr, 0, none⟩) qs.length vc2)
        have d0e := cell_of_cells (i := 0) q5e rfl
        exact bodyPost_ret (v := .agg #[(.slice (some ⟨gr, 0, none⟩) qs.length vc2)]) (by simp [results, Try.results47, go_sem, d0e]) rfl ⟨(.slice (some ⟨gr, 0, none⟩) qs.length vc2), _, rfl, HZ.out, o5e, r5e, g5e⟩
    · have hgt : decide ((0 : Int) < (qs.length : Int)) = false := decide_eq_false (by omega)
      have hx0 := hX.cell 0 _ rfl
      have x0e := hX.cell 0 _ rfl
      have z0e := hz.cell 0 _ rfl
      have zfe := hz.free
      go_wp2
      have hb5e : Below w.heap.size W (W.setCell ⟨w.heap.size, 0, none⟩ (.slice va2 qs.length vc2)) := (Below.refl _ W).setCell (p := ⟨w.heap.size, 0, none⟩) (Nat.le_refl _) _
      have r5e := hr.below hb5e hrb
      have g5e := gw_below g hb5e (Nat.le_refl _)
      have o5e := OwnS.offBoxS hO hz (.slice va2 qs.length vc2)
      have q5e := hz.set 0 (.slice va2 qs.length vc2)
      have d0e := cell_of_cells (i := 0) q5e rfl
      exact bodyPost_ret (v := .agg #[(.slice va2 qs.length vc2)]) (by simp [results, Try.results47, go_sem, d0e]) rfl ⟨(.slice va2 qs.length vc2), _, rfl, HZ.out, o5e, r5e, g5e⟩
  · have n28 : (d == 28) = false := beq_false_of_ne hd28
    have n29 : (d == 29) = false := beq_false_of_ne hd29
    have x0 := hX.cell 0 _ rfl
    have z0 := hz.cell 0 _ rfl
    have zf := hz.free
    go_wp2
    have hb5 : Below w.heap.size W (W.setCell ⟨w.heap.size, 0, none⟩ (.slice va2 qs.length vc2)) := (Below.refl _ W).setCell (p := ⟨w.heap.size, 0, none⟩) (Nat.le_refl _) _
    have r5 := hr.below hb5 hrb
    have g5 := gw_below g hb5 (Nat.le_refl _)
    have o5 := OwnS.offBoxS hO hz (.slice va2 qs.length vc2)
    have q5 := hz.set 0 (.slice va2 qs.length vc2)
    have d0 := cell_of_cells (i := 0) q5 rfl
    exact bodyPost_ret (v := .agg #[(.slice va2 qs.length vc2)]) (by simp [results, Try.results47, go_sem, d0]) rfl ⟨(.slice va2 qs.length vc2), _, rfl, HZ.out, o5, r5, g5⟩
/-- What DrawDone answers: a reader and an operation, to be read. -/
def OutDd (w : World) (e : Ending) (w' : World) : Prop := ∃ (V : Value) (ss : List Sb) (o : OpD) (x : Value), e = .returned (.tuple #[.agg #[V], opV o x]) ∧ (∀ s ∈ ss, SbSz s ∧ ∀ x ∈ s.es, EnSz x) ∧ smO o ∧ SbAt w' w'.heap.size V ss ∧ ItAt w' w'.heap.size x o.its ∧ Below w.heap.size w w'

end Go.Proofs.Ytffkakpbelknaaa

/- Draw24 -/
namespace Go.Proofs.Ytffkakpbelknaaa
open Go.ChangeShapes Go.WideShapes Go.ChangeAt Go.RowKit
set_option linter.unusedVariables false

theorem OwnS.other24 {w : World} {B : Nat} {v : Value} {ss : List Sb} (h : OwnS w B v ss) (p : Addr) (x : Value) (hp : p.block < B) : OwnS (w.setCell p x) B v ss := by
  obtain ⟨ps, h1, h2, h3⟩ := h
  exact ⟨ps, h1, h2.other p x hp, fun q hq => (h3 q hq).other p x hp⟩
theorem OwnS.slice24 {w : World} {B : Nat} {v : Value} {ss : List Sb} (h : OwnS w B v ss) : ∃ a cap, v = .slice a ss.length cap := by
  obtain ⟨ps, rfl, h2, _⟩ := h
  rw [List.length_map]
  exact h2.slice
theorem OwnS.other7 {w : World} {B : Nat} {v : Value} {ss : List Sb} (h : OwnS w B v ss) (g : Nat) (hB : g < B) (a b c d e f k : Value) : OwnS (put7 w g a b c d e f k) B v ss :=
  (((((((h).other24 ⟨g, 0, none⟩ a hB).other24 ⟨g, 1, none⟩ b hB).other24 ⟨g, 2, none⟩ c hB).other24 ⟨g, 3, none⟩ d hB).other24 ⟨g, 4, none⟩ e hB).other24 ⟨g, 5, none⟩ f hB).other24 ⟨g, 6, none⟩ k hB
theorem boxOther7 {w : World} {g0 : Nat} {cs : Array Value} {t : TypeId} (h : Box w g0 cs t) (g : Nat) (hB : g0 ≠ g) (a b c d e f k : Value) : Box (put7 w g a b c d e f k) g0 cs t :=
  (((((((h).other ⟨g, 0, none⟩ a hB).other ⟨g, 1, none⟩ b hB).other ⟨g, 2, none⟩ c hB).other ⟨g, 3, none⟩ d hB).other ⟨g, 4, none⟩ e hB).other ⟨g, 5, none⟩ f hB).other ⟨g, 6, none⟩ k hB

set_option maxRecDepth 100000 in
set_option maxHeartbeats 2000000 in
theorem drawDone_any (w : World) (cv : Value) (zs : List Int) (h : Cd w cv zs) :
    Calls Try.prog 15 #[cv] w (OutDd w) := by
  obtain ⟨a, len, cap, hcv⟩ := h.form
  have HV := Lib.hid hcv
  clear hcv
  obtain ⟨W0, hW0⟩ : ∃ W0, W0 = (w.alloc (.cells #[.slice none 0 0] 26)).alloc (.cells opZ 31) := ⟨_, rfl⟩
  have hB0 : Below w.heap.size w W0 := by rw [hW0]; exact ((Below.refl _ _).alloc (Nat.le_refl _) _).alloc (by simp) _
  have hx0 : Box W0 w.heap.size #[.slice none 0 0] 26 := by rw [hW0]; exact (Box.new w _ _).alloc _
  have hy0 : Box W0 (w.heap.size + 1) opZ 31 := by
    rw [hW0]
    have := Box.new (w.alloc (.cells #[.slice none 0 0] 26)) opZ 31
    simpa using this
  have hc0 : Cd W0 cv zs := h.below hB0
  have hz0 : W0.heap.size = w.heap.size + 2 := by rw [hW0]; simp
  go_enter Try.func15, Try.ntmps15
  go_wp2_with fail
  rw [← hW0]
  clear hW0
  refine (open_any cv a len cap HV.out _).mono ?_
  rintro e w1 ⟨rfl, rfl⟩
  have hrd := hc0.rd
  have hgr := World.grownBy.refl (W0.alloc (.cells #[cv, .int .i64 0] 133)) (some W0.heap.size)
  replace hx0 := hx0.alloc (.cells #[cv, .int .i64 0] 133)
  replace hy0 := hy0.alloc (.cells #[cv, .int .i64 0] 133)
  have hB1 := hB0.alloc hB0.size (.cells #[cv, .int .i64 0] 133)
  generalize hrb : W0.heap.size = rb at hrd hgr ⊢
  rw [hz0] at hrb
  generalize W0.alloc (.cells #[cv, .int .i64 0] 133) = W1 at hrd hgr hx0 hy0 hB1 ⊢
  clear hc0 hz0 hB0
  have hgw : ∀ w', W1.grownBy w' (some rb) → Below w.heap.size w w' := fun w' hg => hB1.trans (below_of_grown hg (by omega) hB1.size)
  have HG := Lib.hid hgw
  have hrl : rb < W1.heap.size := hrd.lt
  clear hgw
  go_wp2_with fail
  refine (reader_any _ _ cv zs _ hrd).mono ?_
  rintro e w2 ⟨V, ss, rfl, hsz, hS, hrd, hg2⟩
  replace hx0 := hx0.keepG hg2 (by omega)
  replace hy0 := hy0.keepG hg2 (by omega)
  replace hgr := grown_trans hgr hg2
  have HZ := Lib.hid hsz
  clear hg2 hsz
  obtain ⟨va, vc, rfl⟩ := hS.slice24
  have hp := Box.new w2 #[.slice va ss.length vc] 26
  have hpl : w.heap.size + 1 < w2.heap.size := hy0.lt
  have hpr : rb < w2.heap.size := hrd.lt
  replace hx0 := hx0.alloc (.cells #[.slice va ss.length vc] 26)
  replace hy0 := hy0.alloc (.cells #[.slice va ss.length vc] 26)
  replace hrd := hrd.alloc (.cells #[.slice va ss.length vc] 26)
  replace hS := hS.keepG (World.grownBy_alloc w2 (.cells #[.slice va ss.length vc] 26) (some rb)) hrl
  replace hgr := grown_trans hgr (World.grownBy_alloc w2 (.cells #[.slice va ss.length vc] 26) (some rb))
  go_wp2
  generalize w2.alloc (.cells #[.slice va ss.length vc] 26) = W2 at hx0 hy0 hrd hgr hp hS ⊢
  generalize w2.heap.size = G at hp hpl hpr ⊢
  refine wp_region_T (fun w' => Box w' G #[.slice va ss.length vc] 26) (fun _ => True) 4 (by kernel_rfl) 5 rfl ?_
  refine wpAnyT_takesA (md := .any) 3 (by kernel_rfl) (by intro d v c a w h; cases d <;> exact h) [0, 1] _ _ _ (by decide) (by kernel_rfl) ⟨hp, fun _ => trivial⟩ ?_
  simp only [pick, List.filterMap_cons, List.filterMap_nil, List.getElem?_cons_zero, List.getElem?_cons_succ]
  refine wpIf_step (.agg #[.slice va ss.length vc]) (by kernel_rfl) (fun w hw => by have k2 := hw.cell 0 _ rfl; go_simp) ?_
  refine wpIf_step (.pointer (some ⟨rb, 0, none⟩)) (by kernel_rfl) (fun w hw => by go_simp) ?_
  refine wpIf_nil (fun hS9 => ?_)
  clear hS9
  refine wpAnyT_one 2 2 (by kernel_rfl) rfl (by kernel_rfl) (fun K hK => ?_)
  go_simp
  refine (op_any _ _ cv zs _ (hrd.drewN 1)).mono ?_
  rintro e w3 ⟨o, x, rfl, hso, hx, hrd, hg3⟩
  have hg23 := grown_trans (grown_drewN (World.grownBy.refl W2 (some rb)) 1) hg3
  replace hp := hp.keepG hg23 (by omega)
  replace hx0 := hx0.keepG hg23 (by omega)
  replace hy0 := hy0.keepG hg23 (by omega)
  replace hS := hS.keepG hg23 hrl
  have hgW : W1.grownBy w3 (some rb) := grown_trans hgr hg23
  replace hx := hx.base_mono hgr.size
  have HBe := Lib.hid (HG.out _ hgW)
  clear hg3 hg23 hgr hrd
  refine hK _ _ ⟨hp, fun _ => trivial⟩ (fun hS9 => ?_)
  clear hK K hS9
  have HSo := Lib.hid hso
  obtain ⟨ok, ou, oi, od, ofu, oft, oits⟩ := o
  obtain ⟨xa, xc, hxv⟩ := hx.slice
  simp only at hxv
  subst hxv
  simp only at hx
  clear hso
  have z0 := hx0.cell 0 _ rfl
  have zf := hx0.free
  refine wpAnyT_one 3 1 (by kernel_rfl) rfl (by kernel_rfl) (fun K hK => ?_)
  go_simp
  have hb4 : Below w.heap.size w3 (w3.setCell ⟨w.heap.size, 0, none⟩ (.slice va ss.length vc)) := (Below.refl _ _).setCell (p := ⟨w.heap.size, 0, none⟩) (Nat.le_refl _) _
  have hp4 := hp.other ⟨w.heap.size, 0, none⟩ (.slice va ss.length vc) (show G ≠ w.heap.size by omega)
  have hx4 := hx0.set 0 (.slice va ss.length vc)
  have hy4 := hy0.other ⟨w.heap.size, 0, none⟩ (.slice va ss.length vc) (show w.heap.size + 1 ≠ w.heap.size by omega)
  have hS4 := hS.other24 ⟨w.heap.size, 0, none⟩ (.slice va ss.length vc) (show w.heap.size < W1.heap.size by omega)
  have hI4 := hx.other ⟨w.heap.size, 0, none⟩ (.slice va ss.length vc) (show w.heap.size < W1.heap.size by omega)
  have HB4 := Lib.hid (HBe.out.trans hb4)
  refine hK _ _ ⟨hp4, fun _ => trivial⟩ (fun hS9 => ?_)
  clear hK K hS9 z0 zf hb4 hp hx0 hy0 hS hx HBe
  change Box _ w.heap.size #[.slice va ss.length vc] _ at hx4
  generalize w3.setCell ⟨w.heap.size, 0, none⟩ (.slice va ss.length vc) = W4 at hp4 hx4 hy4 hS4 hI4 HB4 ⊢
  have y0 := hy4.cell 0 _ rfl
  have y1 := hy4.cell 1 _ rfl
  have y2 := hy4.cell 2 _ rfl
  have y3 := hy4.cell 3 _ rfl
  have y4 := hy4.cell 4 _ rfl
  have y5 := hy4.cell 5 _ rfl
  have y6 := hy4.cell 6 _ rfl
  have yf0 := hy4.free 0
  have yf1 := hy4.free 1
  have yf2 := hy4.free 2
  have yf3 := hy4.free 3
  have yf4 := hy4.free 4
  have yf5 := hy4.free 5
  have yf6 := hy4.free 6
  refine wpAnyT_one 4 0 (by kernel_rfl) rfl (by kernel_rfl) (fun K hK => ?_)
  go_simp
  have hp5 := boxOther7 hp4 (w.heap.size + 1) (show G ≠ w.heap.size + 1 by omega) (.int .i64 ok) (.string ou) (.string oi) (.int .i64 od) (.string ofu) (.string oft) (.slice xa oits.length xc)
  have hx5 := boxOther7 hx4 (w.heap.size + 1) (show w.heap.size ≠ w.heap.size + 1 by omega) (.int .i64 ok) (.string ou) (.string oi) (.int .i64 od) (.string ofu) (.string oft) (.slice xa oits.length xc)
  have hy5 := hy4.put7 (.int .i64 ok) (.string ou) (.string oi) (.int .i64 od) (.string ofu) (.string oft) (.slice xa oits.length xc)
  have hS5 := hS4.other7 (w.heap.size + 1) (show w.heap.size + 1 < W1.heap.size by omega) (.int .i64 ok) (.string ou) (.string oi) (.int .i64 od) (.string ofu) (.string oft) (.slice xa oits.length xc)
  have hI5 := hI4.other7 (w.heap.size + 1) (show w.heap.size + 1 < W1.heap.size by omega) (.int .i64 ok) (.string ou) (.string oi) (.int .i64 od) (.string ofu) (.string oft) (.slice xa oits.length xc)
  have hB5 := HB4.out.trans (below7 W4 w.heap.size (w.heap.size + 1) (by omega) (.int .i64 ok) (.string ou) (.string oi) (.int .i64 od) (.string ofu) (.string oft) (.slice xa oits.length xc))
  unfold put7 at hp5 hx5 hy5 hS5 hI5 hB5
  generalize hW5 : (((((((W4.setCell ⟨w.heap.size + 1, 0, none⟩ (.int .i64 ok)).setCell ⟨w.heap.size + 1, 1, none⟩ (.string ou)).setCell ⟨w.heap.size + 1, 2, none⟩ (.string oi)).setCell ⟨w.heap.size + 1, 3, none⟩ (.int .i64 od)).setCell ⟨w.heap.size + 1, 4, none⟩ (.string ofu)).setCell ⟨w.heap.size + 1, 5, none⟩ (.string oft)).setCell ⟨w.heap.size + 1, 6, none⟩ (.slice xa oits.length xc)) = W5 at hp5 hx5 hy5 hS5 hI5 hB5 ⊢
  clear hW5
  refine hK _ _ ⟨hp5, fun _ => trivial⟩ (fun hS9 => ?_)
  clear hK K hS9 y0 y1 y2 y3 y4 y5 y6 yf0 yf1 yf2 yf3 yf4 yf5 yf6 hp4 hx4 hy4 hS4 hI4 HB4
  refine wpAnyT_over (by kernel_rfl) ?_
  go_wp2
  have d0 := cell_of_cells (i := 0) hy5 rfl
  have d1 := cell_of_cells (i := 1) hy5 rfl
  have d2 := cell_of_cells (i := 2) hy5 rfl
  have d3 := cell_of_cells (i := 3) hy5 rfl
  have d4 := cell_of_cells (i := 4) hy5 rfl
  have d5 := cell_of_cells (i := 5) hy5 rfl
  have d6 := cell_of_cells (i := 6) hy5 rfl
  have e0 := cell_of_cells (i := 0) hx5 rfl
  exact bodyPost_ret (v := .tuple #[.agg #[.slice va ss.length vc], opV (⟨ok, ou, oi, od, ofu, oft, oits⟩ : OpD) (.slice xa oits.length xc)]) (by simp [results, Try.results15, go_sem, d0, d1, d2, d3, d4, d5, d6, e0]) rfl
    ⟨_, ss, ⟨ok, ou, oi, od, ofu, oft, oits⟩, _, rfl, HZ.out, HSo.out, hS5.at HZ.out, ItAt.of_own hI5 (smO_sz HSo.out).2, hB5⟩

end Go.Proofs.Ytffkakpbelknaaa

/- LawD -/
namespace Go.Proofs.Ytffkakpbelknaaa
open Go.ChangeShapes Go.WideShapes Go.ChangeAt Go.RowKit
set_option linter.unusedVariables false

theorem specDone_some (v x : Value) (ss rs : List Sb) (o : OpD) (w : World) (h : SbAt w w.heap.size v ss) (hx : ItAt w w.heap.size x o.its) (hz : OpSz o) (hd : doV ss o = some rs) :
    Calls Try.prog 17 #[.agg #[v], opV o x] w (OutDu rs true w) := by
  have h1 := specDone_uni v x ss o w h hx hz
  rw [hd] at h1
  exact h1
theorem specDone_no (v x : Value) (ss : List Sb) (o : OpD) (w : World) (h : SbAt w w.heap.size v ss) (hx : ItAt w w.heap.size x o.its) (hz : OpSz o) (hd : doV ss o = none) :
    Calls Try.prog 17 #[.agg #[v], opV o x] w (OutDu [] false w) := by
  have h1 := specDone_uni v x ss o w h hx hz
  rw [hd] at h1
  exact h1

theorem implDone_some (v x : Value) (ss rs : List Sb) (o : OpD) (w : World) (h : SbAt w w.heap.size v ss) (hx : ItAt w w.heap.size x o.its) (hz : OpSz o) (hd : doV ss o = some rs) :
    Calls Try.prog 16 #[.agg #[v], opV o x] w (OutDu rs true w) := by
  have h1 := implDone_uni v x ss o w h hx hz
  rw [hd] at h1
  exact h1
theorem implDone_no (v x : Value) (ss : List Sb) (o : OpD) (w : World) (h : SbAt w w.heap.size v ss) (hx : ItAt w w.heap.size x o.its) (hz : OpSz o) (hd : doV ss o = none) :
    Calls Try.prog 16 #[.agg #[v], opV o x] w (OutDu [] false w) := by
  have h1 := implDone_uni v x ss o w h hx hz
  rw [hd] at h1
  exact h1

theorem itAt_nil (w : World) (B : Nat) : ItAt w B (.slice none 0 0) [] := ⟨⟨none, 0, rfl, Nat.le_refl _, by unfold maxLen; omega, fun h => absurd h (Nat.lt_irrefl _)⟩, fun x hx => (by cases hx)⟩
theorem opSz_pg (d : Int) : OpSz (opPg d) := ⟨Nat.zero_le _, Nat.zero_le _, Nat.zero_le _, Nat.zero_le _⟩
end Go.Proofs.Ytffkakpbelknaaa

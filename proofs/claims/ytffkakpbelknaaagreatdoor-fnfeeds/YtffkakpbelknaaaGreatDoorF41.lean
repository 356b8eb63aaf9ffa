/- Joined: Draw25. -/
import Derived.Test.YtffkakpbelknaaaGreatDoorF17
import Derived.Test.YtffkakpbelknaaaGreatDoorF18
import Derived.Test.YtffkakpbelknaaaGreatDoorF21
import Derived.Test.YtffkakpbelknaaaGreatDoorF35
import Derived.Test.YtffkakpbelknaaaGreatDoorF37
import Derived.Test.YtffkakpbelknaaaGreatDoorF40
/- Draw25 -/
namespace Go.Proofs.YtffkakpbelknaaaGreatDoor
open Go.ChangeShapes Go.WideShapes Go.ChangeAt Go.RowKit
set_option linter.unusedVariables false

theorem smI_sz {y : It} (h : smI y) : y.id.size ≤ maxLen ∧ y.ti.size ≤ maxLen := by
  obtain ⟨h1, h2⟩ := h
  unfold maxLen
  exact ⟨by omega, by omega⟩
abbrev fd0A : Array Value := #[.string ⟨#[]⟩, .string ⟨#[]⟩, .slice none 0 0]
/-- What is drawn as a feed, to be read. -/
def OutFk (n : Nat) (w : World) (e : Ending) (w' : World) : Prop := ∃ (u t : ByteArray) (x : Value) (its : List It), e = .returned (fV u t x) ∧ u.size ≤ 3 ∧ t.size ≤ 8 ∧ its.length ≤ n ∧ (∀ y ∈ its, smI y) ∧ OwnR 55 3 itC w' w.heap.size x its ∧ Below w.heap.size w w'

set_option maxRecDepth 100000 in
set_option maxHeartbeats 2000000 in
theorem drawFeedOk_any (w : World) (cv : Value) (zs : List Int) (h : Cd w cv zs) :
    Calls Tryz.prog 32 #[cv] w (OutFk 5 w) := by
  obtain ⟨a, len, cap, hcv⟩ := h.form
  have HV := Lib.hid hcv
  clear hcv
  obtain ⟨W0, hW0⟩ : ∃ W0, W0 = w.alloc (.cells fd0A 26) := ⟨_, rfl⟩
  have hB0 : Below w.heap.size w W0 := by rw [hW0]; exact (Below.refl _ _).alloc (Nat.le_refl _) _
  have hx0 : Box W0 w.heap.size fd0A 26 := by rw [hW0]; exact Box.new w _ _
  have hc0 : Cd W0 cv zs := h.below hB0
  have hz0 : W0.heap.size = w.heap.size + 1 := by rw [hW0]; simp
  go_enter Tryz.func32, Tryz.ntmps32
  go_wp2_with fail
  rw [← hW0]
  clear hW0
  refine (open_any cv a len cap HV.out _).mono ?_
  rintro e w1 ⟨rfl, rfl⟩
  have hrd := hc0.rd
  have hgr := World.grownBy.refl (W0.alloc (.cells #[cv, .int .i64 0] 114)) (some W0.heap.size)
  replace hx0 := hx0.alloc (.cells #[cv, .int .i64 0] 114)
  have hB1 := hB0.alloc hB0.size (.cells #[cv, .int .i64 0] 114)
  generalize hrb : W0.heap.size = rb at hrd hgr ⊢
  rw [hz0] at hrb
  generalize W0.alloc (.cells #[cv, .int .i64 0] 114) = W1 at hrd hgr hx0 hB1 ⊢
  clear hc0 hz0 hB0
  have hgw : ∀ w', W1.grownBy w' (some rb) → Below w.heap.size w w' := fun w' hg => hB1.trans (below_of_grown hg (by omega) hB1.size)
  have HG := Lib.hid hgw
  have hrl : rb < W1.heap.size := hrd.lt
  clear hgw
  go_wp2_with fail
  refine (feed_any _ _ cv zs _ hrd).mono ?_
  rintro e w2 ⟨u, t, x, its, rfl, hu, ht, hil, hsm, hO, hrd, hg2⟩
  replace hx0 := hx0.keepG hg2 (by omega)
  replace hgr := grown_trans hgr hg2
  have HSM := Lib.hid hsm
  clear hg2 hsm
  obtain ⟨xa, xc, rfl⟩ := hO.slice
  have hp := Box.new w2 #[.string u, .string t, .slice xa its.length xc] 26
  have hpl : w.heap.size < w2.heap.size := hx0.lt
  have hpr : rb < w2.heap.size := hrd.lt
  have ga := World.grownBy_alloc w2 (.cells #[.string u, .string t, .slice xa its.length xc] 26) (some rb)
  replace hx0 := hx0.keepG ga (by omega)
  replace hrd := hrd.alloc (.cells #[.string u, .string t, .slice xa its.length xc] 26)
  replace hO := hO.keepG ga hrl
  replace hgr := grown_trans hgr ga
  clear ga
  go_wp2_with fail
  generalize w2.alloc (.cells #[.string u, .string t, .slice xa its.length xc] 26) = W2 at hx0 hrd hgr hp hO ⊢
  generalize w2.heap.size = F at hp hpl hpr ⊢
  refine (once_any 6 _ _ cv zs _ hrd (by omega) (by omega)).mono ?_
  rintro e W ⟨b, rfl, hrd, hg3⟩
  replace hx0 := hx0.keepG hg3 (by omega)
  replace hp := hp.keepG hg3 (by omega)
  replace hO := hO.keepG hg3 hrl
  have hB := HG.out _ (grown_trans hgr hg3)
  have hlo : w.heap.size < W1.heap.size := by omega
  clear hrd hg3 hgr HG
  cases b with
  | false =>
    have c0 := hp.cell 0 _ rfl
    have c1 := hp.cell 1 _ rfl
    have c2 := hp.cell 2 _ rfl
    have z0 := hx0.cell 0 _ rfl
    have z1 := hx0.cell 1 _ rfl
    have z2 := hx0.cell 2 _ rfl
    have zf0 := hx0.free 0
    have zf1 := hx0.free 1
    have zf2 := hx0.free 2
    go_wp2
    have q1 := Box.set hx0 0 (.string u)
    have q2 := Box.set q1 1 (.string t)
    have q3 := Box.set q2 2 (.slice xa its.length xc)
    have hb3 := hB.trans (below3 W _ _ (Nat.le_refl _) (.string u) (.string t) (.slice xa its.length xc))
    have o3 := ((hO.other ⟨w.heap.size, 0, none⟩ (.string u) hlo).other ⟨w.heap.size, 1, none⟩ (.string t) hlo).other ⟨w.heap.size, 2, none⟩ (.slice xa its.length xc) hlo
    change Box _ w.heap.size #[.string u, .string t, .slice xa its.length xc] _ at q3
    generalize ((W.setCell ⟨w.heap.size, 0, none⟩ (.string u)).setCell ⟨w.heap.size, 1, none⟩ (.string t)).setCell ⟨w.heap.size, 2, none⟩ (.slice xa its.length xc) = W9 at q3 hb3 o3 ⊢
    have d0 := cell_of_cells (i := 0) q3 rfl
    have d1 := cell_of_cells (i := 1) q3 rfl
    have d2 := cell_of_cells (i := 2) q3 rfl
    exact bodyPost_ret (v := fV u t (.slice xa its.length xc)) (by simp [results, Tryz.results32, go_sem, d0, d1, d2]) rfl ⟨u, t, _, its, rfl, hu, ht, by omega, HSM.out, o3.base_mono (by omega), hb3⟩
  | true =>
    by_cases h0 : 0 < its.length
    case neg =>
      have hgt : decide ((0 : Int) < (its.length : Int)) = false := decide_eq_false (by omega)
      have c0 := hp.cell 0 _ rfl
      have c1 := hp.cell 1 _ rfl
      have c2 := hp.cell 2 _ rfl
      have z0 := hx0.cell 0 _ rfl
      have z1 := hx0.cell 1 _ rfl
      have z2 := hx0.cell 2 _ rfl
      have zf0 := hx0.free 0
      have zf1 := hx0.free 1
      have zf2 := hx0.free 2
      go_wp2
      have q1 := Box.set hx0 0 (.string u)
      have q2 := Box.set q1 1 (.string t)
      have q3 := Box.set q2 2 (.slice xa its.length xc)
      have hb3 := hB.trans (below3 W _ _ (Nat.le_refl _) (.string u) (.string t) (.slice xa its.length xc))
      have o3 := ((hO.other ⟨w.heap.size, 0, none⟩ (.string u) hlo).other ⟨w.heap.size, 1, none⟩ (.string t) hlo).other ⟨w.heap.size, 2, none⟩ (.slice xa its.length xc) hlo
      change Box _ w.heap.size #[.string u, .string t, .slice xa its.length xc] _ at q3
      generalize ((W.setCell ⟨w.heap.size, 0, none⟩ (.string u)).setCell ⟨w.heap.size, 1, none⟩ (.string t)).setCell ⟨w.heap.size, 2, none⟩ (.slice xa its.length xc) = W9 at q3 hb3 o3 ⊢
      have d0 := cell_of_cells (i := 0) q3 rfl
      have d1 := cell_of_cells (i := 1) q3 rfl
      have d2 := cell_of_cells (i := 2) q3 rfl
      exact bodyPost_ret (v := fV u t (.slice xa its.length xc)) (by simp [results, Tryz.results32, go_sem, d0, d1, d2]) rfl ⟨u, t, _, its, rfl, hu, ht, by omega, HSM.out, o3.base_mono (by omega), hb3⟩
    obtain ⟨gr, rfl, hgB, hgl, _⟩ := formA hO h0
    obtain ⟨it0, hi0⟩ : ∃ i0, i0 = its[0] := ⟨_, rfl⟩
    have HI0 := Lib.hid hi0
    have hgt : decide ((0 : Int) < (its.length : Int)) = true := decide_eq_true (by omega)
    have hln : (0 : Int) < (its.length : Int) := by omega
    have hFg : F ≠ gr := rowNeA hp hO (by decide) rfl
    have hzg : w.heap.size ≠ gr := rowNeA hx0 hO (by decide) rfl
    have k0 := valA itC_len hO h0 0 (.string it0.id) (by rw [← hi0]; rfl)
    have k1 := valA itC_len hO h0 1 (.string it0.ti) (by rw [← hi0]; rfl)
    have k2 := valA itC_len hO h0 2 (.int .i64 it0.da) (by rw [← hi0]; rfl)
    clear hi0
    have p2 := hp.cell 2 _ rfl
    go_wp2
    have x1 := hp.drew
    have hD1 := hO.drew
    have hz1 := hx0.drew
    have hB1 := hB.drew
    clear p2 hp hO hx0 hB
    change W.drew.cell? ⟨gr, 0, none⟩ = _ at k0
    change W.drew.cell? ⟨gr, 1, none⟩ = _ at k1
    change W.drew.cell? ⟨gr, 2, none⟩ = _ at k2
    refine wp_region_T (fun _ => True) (fun w' => Box w' F #[.string u, .string t, .slice (some ⟨gr, 0, none⟩) its.length xc] 26 ∧ w'.cell? ⟨gr, 0, none⟩ = some (.string it0.id) ∧ w'.cell? ⟨gr, 1, none⟩ = some (.string it0.ti) ∧ w'.cell? ⟨gr, 2, none⟩ = some (.int .i64 it0.da)) 9 (by kernel_rfl) 10 rfl ?_
    generalize W.drew = W3 at x1 hD1 hz1 hB1 k0 k1 k2 ⊢
    refine wpAnyT_takesB (md := .any) 4 (by kernel_rfl) (by intro d v c a w h; cases d <;> exact h) [0, 1, 2, 3, 4, 5] _ _ _ (by decide) (by kernel_rfl) (by kernel_rfl) (by kernel_rfl) ⟨trivial, fun _ => ⟨x1, k0, k1, k2⟩⟩ ?_
    simp only [pick, List.filterMap_cons, List.filterMap_nil, List.getElem?_cons_zero, List.getElem?_cons_succ]
    refine wpIf_step (.pointer (some ⟨F, 2, none⟩)) (by kernel_rfl) (fun w hw => by go_simp) ?_
    refine wpIf_step (.slice (some ⟨gr, 0, none⟩) its.length xc) (by kernel_rfl) (fun w hw => by have e0 := hw.2.1.cell 2 _ rfl; go_simp) ?_
    refine wpIf_step (.pointer (some ⟨F, 2, none⟩)) (by kernel_rfl) (fun w hw => by go_simp) ?_
    refine wpIf_step (.slice (some ⟨gr, 0, none⟩) its.length xc) (by kernel_rfl) (fun w hw => by have e0 := hw.2.1.cell 2 _ rfl; go_simp) ?_
    refine wpIf_step (.pointer (some ⟨gr, 0, none⟩)) (by kernel_rfl) (fun w hw => by go_simp) ?_
    refine wpIf_step (.agg #[.string it0.id, .string it0.ti, .int .i64 it0.da]) (by kernel_rfl) (fun w hw => by have e0 := hw.2.2.1; have e1 := hw.2.2.2.1; have e2 := hw.2.2.2.2; go_simp) ?_
    refine wpIf_nil (fun hS => ?_)
    clear hS
    refine wpAnyT_one 6 3 (by kernel_rfl) rfl (by kernel_rfl) (fun K hK => ?_)
    go_simp
    have hba : Below W3.heap.size W3 (W3.alloc (.cells #[.string it0.id, .string it0.ti, .int .i64 it0.da] 55)) := (Below.refl _ _).alloc (Nat.le_refl _) _
    have hN := Box.new W3 #[.string it0.id, .string it0.ti, .int .i64 it0.da] 55
    have hgl1 : gr < W3.heap.size := (World.ownsRow.lt hD1 gr rfl).2
    have kc : ∀ o x, W3.cell? ⟨gr, o, none⟩ = some x → (W3.alloc (.cells #[.string it0.id, .string it0.ti, .int .i64 it0.da] 55)).cell? ⟨gr, o, none⟩ = some x := fun o x h => by rw [hba.cell (p := ⟨gr, o, none⟩) hgl1]; exact h
    have x2 := x1.keep hba x1.lt
    have hD2 := hD1.keep hba (Nat.le_refl _)
    have hz2 := hz1.keep hba hz1.lt
    have hB2 := hB1.trans (hba.mono hB1.size)
    have m0 := kc _ _ k0
    have m1 := kc _ _ k1
    have m2 := kc _ _ k2
    refine hK _ _ ⟨trivial, fun _ => ⟨x2, m0, m1, m2⟩⟩ (fun hS => ?_)
    have hsz2 : W1.heap.size ≤ (W3.alloc (.cells #[.string it0.id, .string it0.ti, .int .i64 it0.da] 55)).heap.size := by rw [World.size_alloc]; omega
    clear hK K hS kc hba x1 hD1 hz1 hB1 k0 k1 k2 hgl1
    generalize W3.alloc (.cells #[.string it0.id, .string it0.ti, .int .i64 it0.da] 55) = W4 at x2 hD2 hz2 hB2 hN m0 m1 m2 hsz2 ⊢
    generalize W3.heap.size = gn at hN ⊢
    have hrec : RecAt 3 itC W4 (gn + 1) (.slice (some ⟨gn, 0, none⟩) 1 1) [it0] := by
      refine ⟨_, 1, rfl, Nat.le_refl _, by unfold maxLen; omega, fun _ => ⟨gn, 0, rfl, Nat.lt_succ_self _, fun i hi j u hu => ?_⟩⟩
      have hi0 : i = 0 := by simpa using hi
      subst hi0
      simp only [Nat.zero_mul, Nat.zero_add]
      exact cell_of_cells hN (by simpa [itC] using hu)
    have hone : ∀ z ∈ ([it0] : List It), ∀ u ∈ itC z, u.oneCell' = true := fun z _ => itC_one z
    obtain ⟨v2, w5, hrun, hv2, hgr2, hck⟩ := appK_run (P := Tryz.prog) (t := 24) itC_len (by decide) Tryz.underlying24 Tryz.infoItem rfl (by decide) hD2 hrec hone (by simp; omega) hsz2 24
    have hck2 : ∀ j u, (itC its[0])[j]? = some u → w5.cell? ⟨gr, j, none⟩ = some u := fun j u hu => by
      have hj : j < 3 := by have := (List.getElem?_eq_some_iff.1 hu).1; rwa [itC_len] at this
      have := hck j u (by have h5 := flat_get itC_len its 0 j h0 hj; simp only [Nat.zero_mul, Nat.zero_add] at h5; rw [h5]; exact hu)
      rw [Addr.add_lit] at this
      simpa using this
    have n0 := hck2 0 (.string it0.id) (by rw [← HI0.out]; rfl)
    have n1 := hck2 1 (.string it0.ti) (by rw [← HI0.out]; rfl)
    have n2 := hck2 2 (.int .i64 it0.da) (by rw [← HI0.out]; rfl)
    have kb : ∀ (b : Nat) cs t, b ≠ gr → Box W4 b cs t → Box w5 b cs t := fun b cs t hb hx => (hgr2.block b hx.lt (fun e => hb (Option.some.inj e))).trans hx
    have x3 := kb F _ _ hFg x2
    have z3 := kb _ _ _ hzg hz2
    have hB3 := hB2.trans (below_of_grown hgr2 (show w.heap.size ≤ gr by omega) (by omega : w.heap.size ≤ W4.heap.size))
    obtain ⟨wa, wc, hv2f⟩ := hv2.slice
    have hl1 : (its ++ [it0]).length = its.length + 1 := by simp
    rw [hl1] at hv2f
    clear hl1
    refine wpAnyT_one 7 2 (by kernel_rfl) rfl (by kernel_rfl) (fun K hK => ?_)
    refine wp_appQ25 24 (.tmp 18) (.tmp 23) rfl _ _ v2 rfl rfl hrun ?_
    go_simp
    refine hK _ _ ⟨trivial, fun _ => ⟨x3, n0, n1, n2⟩⟩ (fun hS => ?_)
    clear hK K hS
    refine wpAnyT_one 8 1 (by kernel_rfl) rfl (by kernel_rfl) (fun K hK => ?_)
    go_simp
    refine hK _ _ ⟨trivial, fun _ => ⟨x3, n0, n1, n2⟩⟩ (fun hS => ?_)
    clear hK K hS x2 hD2 hz2 hB2 hN m0 m1 m2 hsz2 hrec hone hck hck2 kb hgr2 hrun
    subst hv2f
    have y2 := x3.cell 2 _ rfl
    have yf := x3.free 2
    have hX5 := x3.set 2 (.slice wa (its.length + 1) wc)
    have hb5 : Below F w5 (w5.setCell ⟨F, 2, none⟩ (.slice wa (its.length + 1) wc)) := (Below.refl _ w5).setCell (p := ⟨F, 2, none⟩) (Nat.le_refl _) _
    have hz5 := z3.keep hb5 hpl
    have hB5 := hB3.trans (hb5.mono (by omega))
    have hO5 := offA hv2 ⟨F, 2, none⟩ (.slice wa (its.length + 1) wc) (boxRowA x3 hv2 (by decide))
    refine wpAnyT_one 9 0 (by kernel_rfl) rfl (by kernel_rfl) (fun K hK => ?_)
    go_simp
    refine hK _ _ ⟨trivial, fun h => by exact absurd h (by decide)⟩ (fun hS => ?_)
    have HS2 : Hid (∀ y ∈ its ++ [it0], smI y) := Lib.hid (by
      intro y hy
      rcases List.mem_append.1 hy with h5 | h5
      · exact HSM.out y h5
      · rw [List.mem_singleton.1 h5, HI0.out]; exact HSM.out _ (List.getElem_mem h0))
    clear hK K hS y2 yf hb5 x3 z3 hB3 hv2 n0 n1 n2
    change Box _ F #[.string u, .string t, .slice wa (its.length + 1) wc] _ at hX5
    generalize w5.setCell ⟨F, 2, none⟩ (.slice wa (its.length + 1) wc) = W5 at hX5 hz5 hB5 hO5 ⊢
    refine wpAnyT_over (by kernel_rfl) ?_
    have hp := hX5
    have hx0 := hz5
    have hB := hB5
    have hO := hO5
    clear hX5 hz5 hB5 hO5
    have c0 := hp.cell 0 _ rfl
    have c1 := hp.cell 1 _ rfl
    have c2 := hp.cell 2 _ rfl
    have z0 := hx0.cell 0 _ rfl
    have z1 := hx0.cell 1 _ rfl
    have z2 := hx0.cell 2 _ rfl
    have zf0 := hx0.free 0
    have zf1 := hx0.free 1
    have zf2 := hx0.free 2
    go_wp2
    have q1 := Box.set hx0 0 (.string u)
    have q2 := Box.set q1 1 (.string t)
    have q3 := Box.set q2 2 (.slice wa (its.length + 1) wc)
    have hb3 := hB.trans (below3 W5 _ _ (Nat.le_refl _) (.string u) (.string t) (.slice wa (its.length + 1) wc))
    have o3 := ((hO.other ⟨w.heap.size, 0, none⟩ (.string u) hlo).other ⟨w.heap.size, 1, none⟩ (.string t) hlo).other ⟨w.heap.size, 2, none⟩ (.slice wa (its.length + 1) wc) hlo
    change Box _ w.heap.size #[.string u, .string t, .slice wa (its.length + 1) wc] _ at q3
    generalize ((W5.setCell ⟨w.heap.size, 0, none⟩ (.string u)).setCell ⟨w.heap.size, 1, none⟩ (.string t)).setCell ⟨w.heap.size, 2, none⟩ (.slice wa (its.length + 1) wc) = W9 at q3 hb3 o3 ⊢
    have d0 := cell_of_cells (i := 0) q3 rfl
    have d1 := cell_of_cells (i := 1) q3 rfl
    have d2 := cell_of_cells (i := 2) q3 rfl
    exact bodyPost_ret (v := fV u t (.slice wa (its.length + 1) wc)) (by simp [results, Tryz.results32, go_sem, d0, d1, d2]) rfl ⟨u, t, _, (its ++ [it0]), rfl, hu, ht, by (simp; omega), HS2.out, o3.base_mono (by omega), hb3⟩

set_option maxRecDepth 100000 in
set_option maxHeartbeats 1600000 in
theorem drawFeedText_any (w : World) (cv : Value) (zs : List Int) (h : Cd w cv zs) :
    Calls Tryz.prog 7 #[cv] w (OutFk 5 w) := by
  have hB0 : Below w.heap.size w (w.alloc (.cells fd0A 26)) := (Below.refl _ _).alloc (Nat.le_refl _) _
  have hx0 := Box.new w fd0A 26
  have hc0 := h.below hB0
  go_enter Tryz.func7, Tryz.ntmps7
  go_wp2_with fail
  refine (drawFeedOk_any _ cv zs hc0).mono ?_
  rintro e WZ ⟨u, t, x, its, rfl, hu, ht, hil, hsm, hI, hb⟩
  replace hx0 := hx0.keep hb hx0.lt
  have hB := hB0.trans (hb.mono hB0.size)
  obtain ⟨xa, xc, rfl⟩ := hI.slice
  rw [World.size_alloc] at hI
  have HSM := Lib.hid hsm
  clear hB0 hb hc0 hsm
  have z0 : WZ.cell? ⟨w.heap.size, 0, none⟩ = some (.string ⟨#[]⟩) := hx0.cell 0 _ rfl
  have z1 : WZ.cell? ⟨w.heap.size, 1, none⟩ = some (.string ⟨#[]⟩) := hx0.cell 1 _ rfl
  have z2 : WZ.cell? ⟨w.heap.size, 2, none⟩ = some (.slice none 0 0) := hx0.cell 2 _ rfl
  have zf0 := hx0.free 0
  have zf1 := hx0.free 1
  have zf2 := hx0.free 2
  go_wp2
  have q1 := Box.set hx0 0 (.string u)
  have q2 := Box.set q1 1 (.string t)
  have q3 := Box.set q2 2 (.slice xa its.length xc)
  have hb3 := hB.trans (below3 WZ _ _ (Nat.le_refl _) (.string u) (.string t) (.slice xa its.length xc))
  have o3 := ((hI.other ⟨w.heap.size, 0, none⟩ (.string u) (Nat.lt_succ_self _)).other ⟨w.heap.size, 1, none⟩ (.string t) (Nat.lt_succ_self _)).other ⟨w.heap.size, 2, none⟩ (.slice xa its.length xc) (Nat.lt_succ_self _)
  change Box _ w.heap.size #[.string u, .string t, .slice xa its.length xc] _ at q3
  generalize ((WZ.setCell ⟨w.heap.size, 0, none⟩ (.string u)).setCell ⟨w.heap.size, 1, none⟩ (.string t)).setCell ⟨w.heap.size, 2, none⟩ (.slice xa its.length xc) = W9 at q3 hb3 o3 ⊢
  have d0 := cell_of_cells (i := 0) q3 rfl
  have d1 := cell_of_cells (i := 1) q3 rfl
  have d2 := cell_of_cells (i := 2) q3 rfl
  exact bodyPost_ret (v := fV u t (.slice xa its.length xc)) (by simp [results, Tryz.results7, go_sem, d0, d1, d2]) rfl ⟨u, t, _, its, rfl, hu, ht, hil, HSM.out, o3.base_mono (by omega), hb3⟩

set_option maxRecDepth 100000 in
set_option maxHeartbeats 1600000 in
theorem drawReadFeed_any (w : World) (cv : Value) (zs : List Int) (h : Cd w cv zs) :
    Calls Tryz.prog 14 #[cv] w fun e w' => ∃ t : ByteArray, e = .returned (.string t) ∧ t.size ≤ 100000 ∧ Below w.heap.size w w' := by
  obtain ⟨a, len, cap, hcv⟩ := h.form
  have HV := Lib.hid hcv
  clear hcv
  go_enter Tryz.func14, Tryz.ntmps14
  go_wp2_with fail
  refine (open_any cv a len cap HV.out _).mono ?_
  rintro e w1 ⟨rfl, rfl⟩
  have hrd := h.rd
  have hgr := World.grownBy.refl (w.alloc (.cells #[cv, .int .i64 0] 114)) (some w.heap.size)
  generalize hW1 : w.alloc (.cells #[cv, .int .i64 0] 114) = W1 at hrd hgr ⊢
  have hgw : ∀ w', W1.grownBy w' (some w.heap.size) → Below w.heap.size w w' := fun w' hg => below_open (by rw [hW1]; exact hg)
  have HG := Lib.hid hgw
  have hrl : w.heap.size < W1.heap.size := hrd.lt
  clear hgw hW1
  go_wp2_with fail
  refine (feed_any _ _ cv zs _ hrd).mono ?_
  rintro e w2 ⟨u, t, x, its, rfl, hu, ht, hil, hsm, hO, hrd, hg2⟩
  replace hgr := grown_trans hgr hg2
  obtain ⟨xa, xc, rfl⟩ := hO.slice
  have hI : ItAt w2 w2.heap.size (.slice xa its.length xc) its := ItAt.of_own hO (fun y hy => smI_sz (hsm y hy))
  have hsz := fdX_small u t its
  have HSZ := Lib.hid hsz
  clear hg2 hO hsz hsm
  go_wp2_with fail
  refine (specFeedText_any u t _ its _ (by unfold maxLen; omega) (by unfold maxLen; omega) hI).mono ?_
  rintro e w3 ⟨rfl, hb3⟩
  have hlt2 := hrd.lt
  replace hrd := hrd.below hb3 hrd.lt
  replace hgr := gw_below hgr hb3 hgr.size
  generalize fdX u t its = T at HSZ ⊢
  clear hb3 hI hlt2
  go_wp2_with fail
  refine (once_any 2 _ _ cv zs _ hrd (by omega) (by omega)).mono ?_
  rintro e w4 ⟨b, rfl, hrd, hg4⟩
  replace hgr := grown_trans hgr hg4
  clear hg4
  cases b with
  | true =>
    have hBe := HG.out _ hgr
    have hszT := HSZ.out
    go_wp2
    go_ret
    exact ⟨T, rfl, by omega, hBe⟩
  | false =>
    go_wp2_with fail
    refine (hurt_any T _ _ cv zs _ hrd (by have := HSZ.out; omega)).mono ?_
    rintro e w5 ⟨t5, rfl, hs5, hrd, hg5⟩
    have hBe := HG.out _ (grown_trans hgr hg5)
    have hszT := HSZ.out
    go_wp2
    go_ret
    exact ⟨t5, rfl, by omega, hBe⟩
end Go.Proofs.YtffkakpbelknaaaGreatDoor

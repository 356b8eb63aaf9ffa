/- Joined: V8g. -/
import Derived.Test.YtffkakpbelknaaaGreatDoorF23
import Derived.Test.YtffkakpbelknaaaGreatDoorF41
import Derived.Test.YtffkakpbelknaaaGreatDoorF49
/- V8g -/
namespace Go.Proofs.YtffkakpbelknaaaGreatDoor
open Go.ChangeShapes Go.WideShapes Go.ChangeAt Go.RowKit
set_option linter.unusedVariables false
set_option linter.unusedSimpArgs false

theorem wpIf_skipQ {P : Program} {ops : Array Oper} {C : World → Prop} {R : Act → Prop} {o : Oper} {l : List Oper} {a : Act} (hw : Region.wanted o (yielded ops a.tmps) = false) (h : wpIf P ops C R l (a.put o.dst undef)) : wpIf P ops C R (o :: l) a := ⟨undef, .inr ⟨hw, rfl⟩, h⟩
theorem wpAnyT_skipQ {P : Program} {md : Region.Mode} {Q : Exit → Act → World → Prop} {A B : World → Prop} {t : Nat} {l : List Oper} {L : Array Bool} {a : Act} {w : World} (i g : Nat) {o : Oper} (hr : Region.ready md l.toArray L = [i]) (ho : l[i]? = some o) (hw : Region.wanted o (yielded l.toArray a.tmps) = false)
    (hS : Sx A B t (L.setIfInBounds i true) w) (h : wpAnyT P md l.toArray Q A B t g (L.setIfInBounds i true) (a.put o.dst undef) w) : wpAnyT P md l.toArray Q A B t (g + 1) L a w := by
  refine ⟨fun h0 => (by rw [hr] at h0; cases h0), fun j hj => ?_⟩
  rw [hr] at hj
  have : j = i := by simpa using hj
  subst this
  unfold wpOp
  have ho' : l.toArray[j]? = some o := by simpa using ho
  simp only [ho']
  rw [if_neg (by rw [hw]; simp)]
  exact ⟨hS, h⟩
theorem rf_uni2 (s : ByteArray) : ∃ (u t : ByteArray) (its : List It) (b : Bool), (∀ S e w', RfOut S (rdF s) e w' → ∃ v, e = .returned (.tuple #[fV u t v, .bool b]) ∧ OwnR 55 3 itC w' S v its) ∧ u.size ≤ maxLen ∧ t.size ≤ maxLen ∧ (∀ x ∈ its, x.id.size ≤ maxLen ∧ x.ti.size ≤ maxLen) ∧ (b = true → fdB u t its = true ∧ fdX u t its = s) ∧ ∀ f, rdF s = some f → b = true ∧ u = f.u ∧ t = f.t ∧ its = f.its := by
  cases h : rdF s with
  | none => exact ⟨⟨#[]⟩, ⟨#[]⟩, [], false, fun S e w' hr => ⟨_, hr, OwnR.nil _ _ _⟩, Nat.zero_le _, Nat.zero_le _, (fun x hx => by cases hx), (fun h => by cases h), (fun f h => by cases h)⟩
  | some f =>
    obtain ⟨hb, he⟩ := rdF_some h
    obtain ⟨h1, h2, h3⟩ := fdB_parts8 hb
    refine ⟨f.u, f.t, f.its, true, fun S e w' hr => hr, by unfold maxLen; omega, by unfold maxLen; omega, fun x hx => ?_, fun _ => ⟨hb, he⟩, fun g hg => ?_⟩
    · obtain ⟨a, b, _⟩ := h3 x hx
      unfold maxLen
      exact ⟨by omega, by omega⟩
    · obtain rfl := Option.some.inj hg
      exact ⟨rfl, rfl, rfl, rfl⟩

set_option maxRecDepth 100000 in
set_option maxHeartbeats 4000000 in
theorem walk_FnFeeds (aa : Option Addr) (len cap : Nat) (z : List Int) (w : World) (h : IsRow .u8 w aa len cap z) (hk : ETab w ∧ XTab w ∧ MTab w ∧ PTab w) :
    Calls Tryz.prog 3 #[.slice aa len cap] w fun e w' => e = .returned (.bool true) ∧ Below w.heap.size w w' := by
  have hcd := Cd.of_row h
  have HK := Lib.hid hk
  clear h hk
  go_enter Tryz.func3, Tryz.ntmps3
  go_wp2_with fail
  refine (big_any _ _ _ hcd).mono ?_
  rintro e w1 ⟨⟨b, rfl⟩, rfl⟩
  cases b with
  | true =>
    go_wp2
    go_ret
    exact ⟨rfl, Below.refl _ _⟩
  | false =>
    go_wp2_with fail
    have HCD := Lib.hid hcd
    refine (drawFeedText_any _ _ _ hcd).mono ?_
    rintro e v1 ⟨u, t, x, its, rfl, hu, ht, hil, hsm, hO, hd1⟩
    clear hcd
    obtain ⟨xa, xc, rfl⟩ := hO.slice
    have hul : u.size ≤ maxLen := by unfold maxLen; omega
    have htl : t.size ≤ maxLen := by unfold maxLen; omega
    have hI : ItAt v1 v1.heap.size (.slice xa its.length xc) its := ItAt.of_own hO (fun y hy => smI_sz (hsm y hy))
    have HF : Hid (∀ W, Below v1.heap.size v1 W → ItAt W W.heap.size (.slice xa its.length xc) its) := Lib.hid (fun W hW => (hI.below hW).mono hW.size)
    have HBw0 := Lib.hid hd1
    have HT : Hid (∀ W, Below v1.heap.size v1 W → ETab W ∧ XTab W ∧ MTab W ∧ PTab W) := Lib.hid (fun W hW => by
      have hB := hd1.trans (hW.mono hd1.size)
      exact ⟨HK.out.1.below hB (Nat.le_refl _), HK.out.2.1.below hB (Nat.le_refl _), HK.out.2.2.1.below hB (Nat.le_refl _), HK.out.2.2.2.below hB (Nat.le_refl _)⟩)
    have hfs := fdX_small u t its
    obtain ⟨T, hT⟩ : ∃ T, T = fdX u t its := ⟨_, rfl⟩
    obtain ⟨bb, hbb⟩ : ∃ bb, bb = fdB u t its := ⟨_, rfl⟩
    have HIT := Lib.hid (fun (W : World) h1 h2 h3 h4 => implFeedText_any u t (.slice xa its.length xc) its W hul htl h1 h2 h3 h4)
    have HST := Lib.hid (fun (W : World) h1 => specFeedText_any u t (.slice xa its.length xc) its W hul htl h1)
    have HIO := Lib.hid (fun (W : World) h1 => implFeedOk_any u t (.slice xa its.length xc) its W hul htl h1)
    have HSO := Lib.hid (fun (W : World) h1 => specFeedOk_any u t (.slice xa its.length xc) its W hul htl h1)
    rw [← hT] at HIT HST
    rw [← hbb] at HIO HSO
    obtain ⟨u2, t2, its2, b2, hr2, hz2u, hz2t, hz2i, _, hs2⟩ := rf_uni2 T
    have HR2 := Lib.hid hr2
    have HZ2 := Lib.hid hz2i
    have HSame : Hid (bb = true → b2 = true ∧ u = u2 ∧ t = t2 ∧ its = its2) := Lib.hid (fun hb => by
      have h5 := hs2 ⟨u, t, its⟩ (by rw [hT]; exact rdF_hit ⟨u, t, its⟩ (by rw [← hbb]; exact hb) (by show (fdX u t its).size ≤ 4000; omega))
      exact ⟨h5.1, h5.2.1.symm, h5.2.2.1.symm, h5.2.2.2.symm⟩)
    clear hT hbb hfs hs2 hr2 hz2u hz2t hz2i hO hI hsm hd1
    have hBw : Below v1.heap.size v1 v1 := Below.refl _ _
    have hxf := Box.new v1 #[.string u, .string t, .slice xa its.length xc] 26
    have hba : Below v1.heap.size v1 (v1.alloc (.cells #[.string u, .string t, .slice xa its.length xc] 26)) := (Below.refl _ _).alloc (Nat.le_refl _) _
    replace hBw := hBw.trans (hba.mono hBw.size)
    clear hba
    have p0 := hxf.cell 0 _ rfl
    have p1 := hxf.cell 1 _ rfl
    have p2 := hxf.cell 2 _ rfl
    go_wp2_with fail
    clear p0 p1 p2
    generalize v1.alloc (.cells #[.string u, .string t, .slice xa its.length xc] 26) = W1 at hxf hBw ⊢
    refine (HIT.out W1 (HF.out _ hBw) (HT.out _ hBw).1 (HT.out _ hBw).2.2.1 (HT.out _ hBw).2.2.2).mono ?_
    rintro e w2 ⟨rfl, hb2⟩
    replace hxf := hxf.keep hb2 hxf.lt
    replace hBw := hBw.trans (hb2.mono hBw.size)
    clear hb2
    go_wp2_with fail
    refine (implReadFeed_any T _ (HT.out _ hBw).1 (HT.out _ hBw).2.1 (HT.out _ hBw).2.2.1).mono ?_
    rintro e w3 ⟨hrf, hb3⟩
    obtain ⟨V3, rfl, hO3⟩ := HR2.out _ _ _ hrf
    obtain ⟨a3, c3, rfl⟩ := hO3.slice
    have HS3 : Hid (ItAt w3 w3.heap.size (.slice a3 its2.length c3) its2) := Lib.hid (ItAt.of_own hO3 HZ2.out)
    replace hxf := hxf.keep hb3 hxf.lt
    replace hBw := hBw.trans (hb3.mono hBw.size)
    clear hb3 hrf hO3
    have hx3 := Box.new w3 #[.string u2, .string t2, .slice a3 its2.length c3] 26
    have hba : Below w3.heap.size w3 (w3.alloc (.cells #[.string u2, .string t2, .slice a3 its2.length c3] 26)) := (Below.refl _ _).alloc (Nat.le_refl _) _
    replace hxf := hxf.keep hba hxf.lt
    replace HS3 := Lib.hid ((HS3.out.below hba).mono hba.size)
    replace hBw := hBw.trans (hba.mono hBw.size)
    clear hba
    go_wp2
    generalize w3.alloc (.cells #[.string u2, .string t2, .slice a3 its2.length c3] 26) = W3 at hxf hx3 HS3 hBw ⊢
    generalize w3.heap.size = g3 at hx3 ⊢
    cases bb with
    | false =>
      refine wp_region_T (fun w' => Box w' v1.heap.size #[.string u, .string t, .slice xa its.length xc] 26 ∧ Box w' g3 #[.string u2, .string t2, .slice a3 its2.length c3] 26) (fun _ => True) 24 (by kernel_rfl) 25 rfl ?_
      have hbd : Below W3.heap.size W3 W3.drew := (Below.refl _ _).drew
      replace hxf := hxf.keep hbd hxf.lt
      replace hx3 := hx3.keep hbd hx3.lt
      replace HS3 := Lib.hid ((HS3.out.below hbd).mono hbd.size)
      replace hBw := hBw.trans (hbd.mono hBw.size)
      clear hbd
      generalize W3.drew = W3d at hxf hx3 HS3 hBw ⊢
      refine wpAnyT_takesA (md := .any) 23 (by kernel_rfl) (by intro d v c a w h; cases d <;> exact h) [0, 1] _ _ _ (by decide) (by kernel_rfl) ⟨⟨hxf, hx3⟩, fun _ => trivial⟩ ?_
      simp only [pick, List.filterMap_cons, List.filterMap_nil, List.getElem?_cons_zero, List.getElem?_cons_succ]
      refine wpIf_step (.string T) (by kernel_rfl) (fun w hw => by go_simp) ?_
      refine wpIf_step (.agg #[.string u, .string t, .slice xa its.length xc]) (by kernel_rfl) (fun w hw => by have e0 := hw.1.cell 0 _ rfl; have e1 := hw.1.cell 1 _ rfl; have e2 := hw.1.cell 2 _ rfl; go_simp) ?_
      refine wpIf_nil (fun hS9 => ?_)
      clear hS9
      refine wpAnyT_one 2 22 (by kernel_rfl) rfl (by kernel_rfl) (fun K hK => ?_)
      go_simp
      refine (HST.out _ (HF.out _ hBw)).mono ?_
      rintro e w4 ⟨rfl, hb4⟩
      replace hxf := hxf.keep hb4 hxf.lt
      replace hx3 := hx3.keep hb4 hx3.lt
      replace HS3 := Lib.hid ((HS3.out.below hb4).mono hb4.size)
      replace hBw := hBw.trans (hb4.mono hBw.size)
      refine hK _ _ ⟨⟨hxf, hx3⟩, fun _ => trivial⟩ (fun hS9 => ?_)
      clear hK K hS9 hb4
      refine wpAnyT_takesA (md := .any) 18 (by kernel_rfl) (by intro d v c a w h; cases d <;> exact h) [3, 4, 5, 7] _ _ _ (by decide) (by kernel_rfl) ⟨⟨hxf, hx3⟩, fun _ => trivial⟩ ?_
      simp only [pick, List.filterMap_cons, List.filterMap_nil, List.getElem?_cons_zero, List.getElem?_cons_succ]
      refine wpIf_step (.bool false) (by kernel_rfl) (fun w hw => by go_simp) ?_
      refine wpIf_step (.bool false) (by kernel_rfl) (fun w hw => by go_simp) ?_
      refine wpIf_step (.agg #[.string u, .string t, .slice xa its.length xc]) (by kernel_rfl) (fun w hw => by have e0 := hw.1.cell 0 _ rfl; have e1 := hw.1.cell 1 _ rfl; have e2 := hw.1.cell 2 _ rfl; go_simp) ?_
      refine wpIf_step (.agg #[.string u, .string t, .slice xa its.length xc]) (by kernel_rfl) (fun w hw => by have e0 := hw.1.cell 0 _ rfl; have e1 := hw.1.cell 1 _ rfl; have e2 := hw.1.cell 2 _ rfl; go_simp) ?_
      refine wpIf_nil (fun hS9 => ?_)
      clear hS9
      refine wpAnyT_one 6 17 (by kernel_rfl) rfl (by kernel_rfl) (fun K hK => ?_)
      go_simp
      refine (HIO.out _ (HF.out _ hBw)).mono ?_
      rintro e w5 ⟨rfl, hb5⟩
      replace hxf := hxf.keep hb5 hxf.lt
      replace hx3 := hx3.keep hb5 hx3.lt
      replace HS3 := Lib.hid ((HS3.out.below hb5).mono hb5.size)
      replace hBw := hBw.trans (hb5.mono hBw.size)
      refine hK _ _ ⟨⟨hxf, hx3⟩, fun _ => trivial⟩ (fun hS9 => ?_)
      clear hK K hS9 hb5
      refine wpAnyT_one 8 16 (by kernel_rfl) rfl (by kernel_rfl) (fun K hK => ?_)
      go_simp
      refine (HSO.out _ (HF.out _ hBw)).mono ?_
      rintro e w6 ⟨rfl, hb6⟩
      replace hxf := hxf.keep hb6 hxf.lt
      replace hx3 := hx3.keep hb6 hx3.lt
      replace HS3 := Lib.hid ((HS3.out.below hb6).mono hb6.size)
      replace hBw := hBw.trans (hb6.mono hBw.size)
      refine hK _ _ ⟨⟨hxf, hx3⟩, fun _ => trivial⟩ (fun hS9 => ?_)
      clear hK K hS9 hb6
      refine wpAnyT_takesA (md := .any) 12 (by kernel_rfl) (by intro d v c a w h; cases d <;> exact h) [9, 10, 11, 12] _ _ _ (by decide) (by kernel_rfl) ⟨⟨hxf, hx3⟩, fun _ => trivial⟩ ?_
      simp only [pick, List.filterMap_cons, List.filterMap_nil, List.getElem?_cons_zero, List.getElem?_cons_succ]
      refine wpIf_step (.bool false) (by kernel_rfl) (fun w hw => by go_simp) ?_
      refine wpIf_step (.bool false) (by kernel_rfl) (fun w hw => by go_simp) ?_
      refine wpIf_step (.bool false) (by kernel_rfl) (fun w hw => by go_simp) ?_
      refine wpIf_step (.agg #[.string u, .string t, .slice xa its.length xc]) (by kernel_rfl) (fun w hw => by have e0 := hw.1.cell 0 _ rfl; have e1 := hw.1.cell 1 _ rfl; have e2 := hw.1.cell 2 _ rfl; go_simp) ?_
      refine wpIf_nil (fun hS9 => ?_)
      clear hS9
      refine wpAnyT_one 13 11 (by kernel_rfl) rfl (by kernel_rfl) (fun K hK => ?_)
      go_simp
      refine (HIO.out _ (HF.out _ hBw)).mono ?_
      rintro e w7 ⟨rfl, hb7⟩
      replace hxf := hxf.keep hb7 hxf.lt
      replace hx3 := hx3.keep hb7 hx3.lt
      replace HS3 := Lib.hid ((HS3.out.below hb7).mono hb7.size)
      replace hBw := hBw.trans (hb7.mono hBw.size)
      refine hK _ _ ⟨⟨hxf, hx3⟩, fun _ => trivial⟩ (fun hS9 => ?_)
      clear hK K hS9 hb7
      refine wpAnyT_takesA (md := .any) 5 (by kernel_rfl) (by intro d v c a w h; cases d <;> exact h) [14, 15, 16, 17, 18, 19] _ _ _ (by decide) (by kernel_rfl) ⟨⟨hxf, hx3⟩, fun _ => trivial⟩ ?_
      simp only [pick, List.filterMap_cons, List.filterMap_nil, List.getElem?_cons_zero, List.getElem?_cons_succ]
      refine wpIf_step (.bool false) (by kernel_rfl) (fun w hw => by go_simp) ?_
      refine wpIf_skipQ (by kernel_rfl) ?_
      refine wpIf_skipQ (by kernel_rfl) ?_
      refine wpIf_skipQ (by kernel_rfl) ?_
      refine wpIf_skipQ (by kernel_rfl) ?_
      refine wpIf_skipQ (by kernel_rfl) ?_
      refine wpIf_nil (fun hS9 => ?_)
      clear hS9
      refine wpAnyT_skipQ 20 4 (by kernel_rfl) rfl (by kernel_rfl) ⟨⟨hxf, hx3⟩, fun _ => trivial⟩ ?_
      refine wpAnyT_takesA (md := .any) 1 (by kernel_rfl) (by intro d v c a w h; cases d <;> exact h) [21, 22, 23] _ _ _ (by decide) (by kernel_rfl) ⟨⟨hxf, hx3⟩, fun _ => trivial⟩ ?_
      simp only [pick, List.filterMap_cons, List.filterMap_nil, List.getElem?_cons_zero, List.getElem?_cons_succ]
      refine wpIf_skipQ (by kernel_rfl) ?_
      refine wpIf_skipQ (by kernel_rfl) ?_
      refine wpIf_step (.bool false) (by kernel_rfl) (fun w hw => by go_simp) ?_
      refine wpIf_nil (fun hS9 => ?_)
      clear hS9
      refine wpAnyT_one 24 0 (by kernel_rfl) rfl (by kernel_rfl) (fun K hK => ?_)
      go_simp
      refine hK _ _ ⟨⟨hxf, hx3⟩, fun _ => trivial⟩ (fun hS9 => ?_)
      clear hK K hS9
      refine wpAnyT_over (by kernel_rfl) ?_
      clear HSame
      go_wp2_with fail
      refine (drawReadFeed_any _ _ _ (HCD.out.below (HBw0.out.trans (hBw.mono HBw0.out.size)))).mono ?_
      rintro e w9 ⟨t5, rfl, ht5, hb9⟩
      replace hxf := hxf.keep hb9 hxf.lt
      replace hx3 := hx3.keep hb9 hx3.lt
      replace HS3 := Lib.hid ((HS3.out.below hb9).mono hb9.size)
      replace hBw := hBw.trans (hb9.mono hBw.size)
      clear hb9
      obtain ⟨u6, t6, its6, b6, hr6, hz6u, hz6t, hz6i, hf6, _⟩ := rf_uni2 t5
      have HR6 := Lib.hid hr6
      have HZ6 := Lib.hid hz6i
      have HF6 := Lib.hid hf6
      have HU6 := Lib.hid hz6u
      have HT6 := Lib.hid hz6t
      clear hr6 hz6i hf6 hz6u hz6t
      go_wp2_with fail
      refine (implReadFeed_any t5 _ (HT.out _ hBw).1 (HT.out _ hBw).2.1 (HT.out _ hBw).2.2.1).mono ?_
      rintro e w10 ⟨hrf, hb10⟩
      obtain ⟨V10, rfl, hO10⟩ := HR6.out _ _ _ hrf
      obtain ⟨a10, c10, rfl⟩ := hO10.slice
      have HS10 : Hid (ItAt w10 w10.heap.size (.slice a10 its6.length c10) its6) := Lib.hid (ItAt.of_own hO10 HZ6.out)
      replace hxf := hxf.keep hb10 hxf.lt
      replace hx3 := hx3.keep hb10 hx3.lt
      replace HS3 := Lib.hid ((HS3.out.below hb10).mono hb10.size)
      replace hBw := hBw.trans (hb10.mono hBw.size)
      clear hb10 hrf hO10
      have hx10 := Box.new w10 #[.string u6, .string t6, .slice a10 its6.length c10] 26
      have hba : Below w10.heap.size w10 (w10.alloc (.cells #[.string u6, .string t6, .slice a10 its6.length c10] 26)) := (Below.refl _ _).alloc (Nat.le_refl _) _
      replace hxf := hxf.keep hba hxf.lt
      replace hx3 := hx3.keep hba hx3.lt
      replace HS3 := Lib.hid ((HS3.out.below hba).mono hba.size)
      replace HS10 := Lib.hid ((HS10.out.below hba).mono hba.size)
      replace hBw := hBw.trans (hba.mono hBw.size)
      clear hba
      go_wp2_with fail
      generalize w10.alloc (.cells #[.string u6, .string t6, .slice a10 its6.length c10] 26) = W10 at hxf hx3 hx10 HS3 HS10 hBw ⊢
      generalize w10.heap.size = g10 at hx10 ⊢
      refine (specReadFeed_any t5 _).mono ?_
      rintro e w11 ⟨hrf, hb11⟩
      obtain ⟨V11, rfl, hO11⟩ := HR6.out _ _ _ hrf
      obtain ⟨a11, c11, rfl⟩ := hO11.slice
      have HS11 : Hid (ItAt w11 w11.heap.size (.slice a11 its6.length c11) its6) := Lib.hid (ItAt.of_own hO11 HZ6.out)
      replace hxf := hxf.keep hb11 hxf.lt
      replace hx3 := hx3.keep hb11 hx3.lt
      replace hx10 := hx10.keep hb11 hx10.lt
      replace HS3 := Lib.hid ((HS3.out.below hb11).mono hb11.size)
      replace HS10 := Lib.hid ((HS10.out.below hb11).mono hb11.size)
      replace hBw := hBw.trans (hb11.mono hBw.size)
      clear hb11 hrf hO11
      have hx11 := Box.new w11 #[.string u6, .string t6, .slice a11 its6.length c11] 26
      have hba : Below w11.heap.size w11 (w11.alloc (.cells #[.string u6, .string t6, .slice a11 its6.length c11] 26)) := (Below.refl _ _).alloc (Nat.le_refl _) _
      replace hxf := hxf.keep hba hxf.lt
      replace hx3 := hx3.keep hba hx3.lt
      replace hx10 := hx10.keep hba hx10.lt
      replace HS3 := Lib.hid ((HS3.out.below hba).mono hba.size)
      replace HS10 := Lib.hid ((HS10.out.below hba).mono hba.size)
      replace HS11 := Lib.hid ((HS11.out.below hba).mono hba.size)
      replace hBw := hBw.trans (hba.mono hBw.size)
      clear hba
      cases b6 with
      | false =>
        go_wp2
        go_ret
        exact ⟨rfl, HBw0.out.trans (hBw.mono HBw0.out.size)⟩
      | true =>
        obtain ⟨hq1, hq2⟩ := HF6.out rfl
        have HIT6 := Lib.hid (fun (W : World) h1 h2 h3 h4 => implFeedText_any u6 t6 (.slice a10 its6.length c10) its6 W HU6.out HT6.out h1 h2 h3 h4)
        have HIO6 := Lib.hid (fun (W : World) h1 => implFeedOk_any u6 t6 (.slice a10 its6.length c10) its6 W HU6.out HT6.out h1)
        rw [hq2] at HIT6
        rw [hq1] at HIO6
        clear hq1 hq2
        have xx100 := hx10.cell 0 _ rfl
        have xx101 := hx10.cell 1 _ rfl
        have xx102 := hx10.cell 2 _ rfl
        go_wp2_with fail
        clear xx100 xx101 xx102
        generalize w11.alloc (.cells #[.string u6, .string t6, .slice a11 its6.length c11] 26) = W11 at hxf hx3 hx10 hx11 HS3 HS10 HS11 hBw ⊢
        generalize w11.heap.size = g11 at hx11 ⊢
        refine (HIT6.out _ HS10.out (HT.out _ hBw).1 (HT.out _ hBw).2.2.1 (HT.out _ hBw).2.2.2).mono ?_
        rintro e w12 ⟨rfl, hb12⟩
        replace hxf := hxf.keep hb12 hxf.lt
        replace hx3 := hx3.keep hb12 hx3.lt
        replace hx10 := hx10.keep hb12 hx10.lt
        replace hx11 := hx11.keep hb12 hx11.lt
        replace HS3 := Lib.hid ((HS3.out.below hb12).mono hb12.size)
        replace HS10 := Lib.hid ((HS10.out.below hb12).mono hb12.size)
        replace HS11 := Lib.hid ((HS11.out.below hb12).mono hb12.size)
        replace hBw := hBw.trans (hb12.mono hBw.size)
        clear hb12
        have xx100 := hx10.cell 0 _ rfl
        have xx101 := hx10.cell 1 _ rfl
        have xx102 := hx10.cell 2 _ rfl
        go_wp2_with fail
        clear xx100 xx101 xx102
        refine (HIO6.out _ HS10.out).mono ?_
        rintro e w13 ⟨rfl, hb13⟩
        replace hxf := hxf.keep hb13 hxf.lt
        replace hx3 := hx3.keep hb13 hx3.lt
        replace hx10 := hx10.keep hb13 hx10.lt
        replace hx11 := hx11.keep hb13 hx11.lt
        replace HS3 := Lib.hid ((HS3.out.below hb13).mono hb13.size)
        replace HS10 := Lib.hid ((HS10.out.below hb13).mono hb13.size)
        replace HS11 := Lib.hid ((HS11.out.below hb13).mono hb13.size)
        replace hBw := hBw.trans (hb13.mono hBw.size)
        clear hb13
        go_wp2
        go_ret
        exact ⟨rfl, HBw0.out.trans (hBw.mono HBw0.out.size)⟩
    | true =>
      obtain ⟨rfl, rfl, rfl, rfl⟩ := HSame.out rfl
      refine wp_region_T (fun w' => Box w' v1.heap.size #[.string u, .string t, .slice xa its.length xc] 26 ∧ Box w' g3 #[.string u, .string t, .slice a3 its.length c3] 26) (fun _ => True) 24 (by kernel_rfl) 25 rfl ?_
      have hbd : Below W3.heap.size W3 W3.drew := (Below.refl _ _).drew
      replace hxf := hxf.keep hbd hxf.lt
      replace hx3 := hx3.keep hbd hx3.lt
      replace HS3 := Lib.hid ((HS3.out.below hbd).mono hbd.size)
      replace hBw := hBw.trans (hbd.mono hBw.size)
      clear hbd
      generalize W3.drew = W3d at hxf hx3 HS3 hBw ⊢
      refine wpAnyT_takesA (md := .any) 23 (by kernel_rfl) (by intro d v c a w h; cases d <;> exact h) [0, 1] _ _ _ (by decide) (by kernel_rfl) ⟨⟨hxf, hx3⟩, fun _ => trivial⟩ ?_
      simp only [pick, List.filterMap_cons, List.filterMap_nil, List.getElem?_cons_zero, List.getElem?_cons_succ]
      refine wpIf_step (.string T) (by kernel_rfl) (fun w hw => by go_simp) ?_
      refine wpIf_step (.agg #[.string u, .string t, .slice xa its.length xc]) (by kernel_rfl) (fun w hw => by have e0 := hw.1.cell 0 _ rfl; have e1 := hw.1.cell 1 _ rfl; have e2 := hw.1.cell 2 _ rfl; go_simp) ?_
      refine wpIf_nil (fun hS9 => ?_)
      clear hS9
      refine wpAnyT_one 2 22 (by kernel_rfl) rfl (by kernel_rfl) (fun K hK => ?_)
      go_simp
      refine (HST.out _ (HF.out _ hBw)).mono ?_
      rintro e w4 ⟨rfl, hb4⟩
      replace hxf := hxf.keep hb4 hxf.lt
      replace hx3 := hx3.keep hb4 hx3.lt
      replace HS3 := Lib.hid ((HS3.out.below hb4).mono hb4.size)
      replace hBw := hBw.trans (hb4.mono hBw.size)
      refine hK _ _ ⟨⟨hxf, hx3⟩, fun _ => trivial⟩ (fun hS9 => ?_)
      clear hK K hS9 hb4
      refine wpAnyT_takesA (md := .any) 18 (by kernel_rfl) (by intro d v c a w h; cases d <;> exact h) [3, 4, 5, 7] _ _ _ (by decide) (by kernel_rfl) ⟨⟨hxf, hx3⟩, fun _ => trivial⟩ ?_
      simp only [pick, List.filterMap_cons, List.filterMap_nil, List.getElem?_cons_zero, List.getElem?_cons_succ]
      refine wpIf_step (.bool false) (by kernel_rfl) (fun w hw => by go_simp) ?_
      refine wpIf_step (.bool false) (by kernel_rfl) (fun w hw => by go_simp) ?_
      refine wpIf_step (.agg #[.string u, .string t, .slice xa its.length xc]) (by kernel_rfl) (fun w hw => by have e0 := hw.1.cell 0 _ rfl; have e1 := hw.1.cell 1 _ rfl; have e2 := hw.1.cell 2 _ rfl; go_simp) ?_
      refine wpIf_step (.agg #[.string u, .string t, .slice xa its.length xc]) (by kernel_rfl) (fun w hw => by have e0 := hw.1.cell 0 _ rfl; have e1 := hw.1.cell 1 _ rfl; have e2 := hw.1.cell 2 _ rfl; go_simp) ?_
      refine wpIf_nil (fun hS9 => ?_)
      clear hS9
      refine wpAnyT_one 6 17 (by kernel_rfl) rfl (by kernel_rfl) (fun K hK => ?_)
      go_simp
      refine (HIO.out _ (HF.out _ hBw)).mono ?_
      rintro e w5 ⟨rfl, hb5⟩
      replace hxf := hxf.keep hb5 hxf.lt
      replace hx3 := hx3.keep hb5 hx3.lt
      replace HS3 := Lib.hid ((HS3.out.below hb5).mono hb5.size)
      replace hBw := hBw.trans (hb5.mono hBw.size)
      refine hK _ _ ⟨⟨hxf, hx3⟩, fun _ => trivial⟩ (fun hS9 => ?_)
      clear hK K hS9 hb5
      refine wpAnyT_one 8 16 (by kernel_rfl) rfl (by kernel_rfl) (fun K hK => ?_)
      go_simp
      refine (HSO.out _ (HF.out _ hBw)).mono ?_
      rintro e w6 ⟨rfl, hb6⟩
      replace hxf := hxf.keep hb6 hxf.lt
      replace hx3 := hx3.keep hb6 hx3.lt
      replace HS3 := Lib.hid ((HS3.out.below hb6).mono hb6.size)
      replace hBw := hBw.trans (hb6.mono hBw.size)
      refine hK _ _ ⟨⟨hxf, hx3⟩, fun _ => trivial⟩ (fun hS9 => ?_)
      clear hK K hS9 hb6
      refine wpAnyT_takesA (md := .any) 12 (by kernel_rfl) (by intro d v c a w h; cases d <;> exact h) [9, 10, 11, 12] _ _ _ (by decide) (by kernel_rfl) ⟨⟨hxf, hx3⟩, fun _ => trivial⟩ ?_
      simp only [pick, List.filterMap_cons, List.filterMap_nil, List.getElem?_cons_zero, List.getElem?_cons_succ]
      refine wpIf_step (.bool false) (by kernel_rfl) (fun w hw => by go_simp) ?_
      refine wpIf_step (.bool false) (by kernel_rfl) (fun w hw => by go_simp) ?_
      refine wpIf_step (.bool false) (by kernel_rfl) (fun w hw => by go_simp) ?_
      refine wpIf_step (.agg #[.string u, .string t, .slice xa its.length xc]) (by kernel_rfl) (fun w hw => by have e0 := hw.1.cell 0 _ rfl; have e1 := hw.1.cell 1 _ rfl; have e2 := hw.1.cell 2 _ rfl; go_simp) ?_
      refine wpIf_nil (fun hS9 => ?_)
      clear hS9
      refine wpAnyT_one 13 11 (by kernel_rfl) rfl (by kernel_rfl) (fun K hK => ?_)
      go_simp
      refine (HIO.out _ (HF.out _ hBw)).mono ?_
      rintro e w7 ⟨rfl, hb7⟩
      replace hxf := hxf.keep hb7 hxf.lt
      replace hx3 := hx3.keep hb7 hx3.lt
      replace HS3 := Lib.hid ((HS3.out.below hb7).mono hb7.size)
      replace hBw := hBw.trans (hb7.mono hBw.size)
      refine hK _ _ ⟨⟨hxf, hx3⟩, fun _ => trivial⟩ (fun hS9 => ?_)
      clear hK K hS9 hb7
      refine wpAnyT_takesA (md := .any) 5 (by kernel_rfl) (by intro d v c a w h; cases d <;> exact h) [14, 15, 16, 17, 18, 19] _ _ _ (by decide) (by kernel_rfl) ⟨⟨hxf, hx3⟩, fun _ => trivial⟩ ?_
      simp only [pick, List.filterMap_cons, List.filterMap_nil, List.getElem?_cons_zero, List.getElem?_cons_succ]
      refine wpIf_step (.bool true) (by kernel_rfl) (fun w hw => by go_simp) ?_
      refine wpIf_step (.bool true) (by kernel_rfl) (fun w hw => by go_simp) ?_
      refine wpIf_step (.bool false) (by kernel_rfl) (fun w hw => by go_simp) ?_
      refine wpIf_step (.bool false) (by kernel_rfl) (fun w hw => by go_simp) ?_
      refine wpIf_step (.agg #[.string u, .string t, .slice a3 its.length c3]) (by kernel_rfl) (fun w hw => by have e0 := hw.2.cell 0 _ rfl; have e1 := hw.2.cell 1 _ rfl; have e2 := hw.2.cell 2 _ rfl; go_simp) ?_
      refine wpIf_step (.agg #[.string u, .string t, .slice xa its.length xc]) (by kernel_rfl) (fun w hw => by have e0 := hw.1.cell 0 _ rfl; have e1 := hw.1.cell 1 _ rfl; have e2 := hw.1.cell 2 _ rfl; go_simp) ?_
      refine wpIf_nil (fun hS9 => ?_)
      clear hS9
      refine wpAnyT_one 20 4 (by kernel_rfl) rfl (by kernel_rfl) (fun K hK => ?_)
      go_simp
      refine (sameFeed_any _ _ _ _ _ _ HS3.out (HF.out _ hBw)).mono ?_
      rintro e w8 ⟨rfl, hb8⟩
      replace hxf := hxf.keep hb8 hxf.lt
      replace hx3 := hx3.keep hb8 hx3.lt
      replace HS3 := Lib.hid ((HS3.out.below hb8).mono hb8.size)
      replace hBw := hBw.trans (hb8.mono hBw.size)
      refine hK _ _ ⟨⟨hxf, hx3⟩, fun _ => trivial⟩ (fun hS9 => ?_)
      clear hK K hS9 hb8
      refine wpAnyT_takesA (md := .any) 1 (by kernel_rfl) (by intro d v c a w h; cases d <;> exact h) [21, 22, 23] _ _ _ (by decide) (by kernel_rfl) ⟨⟨hxf, hx3⟩, fun _ => trivial⟩ ?_
      simp only [pick, List.filterMap_cons, List.filterMap_nil, List.getElem?_cons_zero, List.getElem?_cons_succ]
      refine wpIf_step (.bool false) (by kernel_rfl) (fun w hw => by go_simp) ?_
      refine wpIf_step (.bool false) (by kernel_rfl) (fun w hw => by go_simp) ?_
      refine wpIf_step (.bool false) (by kernel_rfl) (fun w hw => by go_simp) ?_
      refine wpIf_nil (fun hS9 => ?_)
      clear hS9
      refine wpAnyT_one 24 0 (by kernel_rfl) rfl (by kernel_rfl) (fun K hK => ?_)
      go_simp
      refine hK _ _ ⟨⟨hxf, hx3⟩, fun _ => trivial⟩ (fun hS9 => ?_)
      clear hK K hS9
      refine wpAnyT_over (by kernel_rfl) ?_
      clear HSame
      go_wp2_with fail
      refine (drawReadFeed_any _ _ _ (HCD.out.below (HBw0.out.trans (hBw.mono HBw0.out.size)))).mono ?_
      rintro e w9 ⟨t5, rfl, ht5, hb9⟩
      replace hxf := hxf.keep hb9 hxf.lt
      replace hx3 := hx3.keep hb9 hx3.lt
      replace HS3 := Lib.hid ((HS3.out.below hb9).mono hb9.size)
      replace hBw := hBw.trans (hb9.mono hBw.size)
      clear hb9
      obtain ⟨u6, t6, its6, b6, hr6, hz6u, hz6t, hz6i, hf6, _⟩ := rf_uni2 t5
      have HR6 := Lib.hid hr6
      have HZ6 := Lib.hid hz6i
      have HF6 := Lib.hid hf6
      have HU6 := Lib.hid hz6u
      have HT6 := Lib.hid hz6t
      clear hr6 hz6i hf6 hz6u hz6t
      go_wp2_with fail
      refine (implReadFeed_any t5 _ (HT.out _ hBw).1 (HT.out _ hBw).2.1 (HT.out _ hBw).2.2.1).mono ?_
      rintro e w10 ⟨hrf, hb10⟩
      obtain ⟨V10, rfl, hO10⟩ := HR6.out _ _ _ hrf
      obtain ⟨a10, c10, rfl⟩ := hO10.slice
      have HS10 : Hid (ItAt w10 w10.heap.size (.slice a10 its6.length c10) its6) := Lib.hid (ItAt.of_own hO10 HZ6.out)
      replace hxf := hxf.keep hb10 hxf.lt
      replace hx3 := hx3.keep hb10 hx3.lt
      replace HS3 := Lib.hid ((HS3.out.below hb10).mono hb10.size)
      replace hBw := hBw.trans (hb10.mono hBw.size)
      clear hb10 hrf hO10
      have hx10 := Box.new w10 #[.string u6, .string t6, .slice a10 its6.length c10] 26
      have hba : Below w10.heap.size w10 (w10.alloc (.cells #[.string u6, .string t6, .slice a10 its6.length c10] 26)) := (Below.refl _ _).alloc (Nat.le_refl _) _
      replace hxf := hxf.keep hba hxf.lt
      replace hx3 := hx3.keep hba hx3.lt
      replace HS3 := Lib.hid ((HS3.out.below hba).mono hba.size)
      replace HS10 := Lib.hid ((HS10.out.below hba).mono hba.size)
      replace hBw := hBw.trans (hba.mono hBw.size)
      clear hba
      go_wp2_with fail
      generalize w10.alloc (.cells #[.string u6, .string t6, .slice a10 its6.length c10] 26) = W10 at hxf hx3 hx10 HS3 HS10 hBw ⊢
      generalize w10.heap.size = g10 at hx10 ⊢
      refine (specReadFeed_any t5 _).mono ?_
      rintro e w11 ⟨hrf, hb11⟩
      obtain ⟨V11, rfl, hO11⟩ := HR6.out _ _ _ hrf
      obtain ⟨a11, c11, rfl⟩ := hO11.slice
      have HS11 : Hid (ItAt w11 w11.heap.size (.slice a11 its6.length c11) its6) := Lib.hid (ItAt.of_own hO11 HZ6.out)
      replace hxf := hxf.keep hb11 hxf.lt
      replace hx3 := hx3.keep hb11 hx3.lt
      replace hx10 := hx10.keep hb11 hx10.lt
      replace HS3 := Lib.hid ((HS3.out.below hb11).mono hb11.size)
      replace HS10 := Lib.hid ((HS10.out.below hb11).mono hb11.size)
      replace hBw := hBw.trans (hb11.mono hBw.size)
      clear hb11 hrf hO11
      have hx11 := Box.new w11 #[.string u6, .string t6, .slice a11 its6.length c11] 26
      have hba : Below w11.heap.size w11 (w11.alloc (.cells #[.string u6, .string t6, .slice a11 its6.length c11] 26)) := (Below.refl _ _).alloc (Nat.le_refl _) _
      replace hxf := hxf.keep hba hxf.lt
      replace hx3 := hx3.keep hba hx3.lt
      replace hx10 := hx10.keep hba hx10.lt
      replace HS3 := Lib.hid ((HS3.out.below hba).mono hba.size)
      replace HS10 := Lib.hid ((HS10.out.below hba).mono hba.size)
      replace HS11 := Lib.hid ((HS11.out.below hba).mono hba.size)
      replace hBw := hBw.trans (hba.mono hBw.size)
      clear hba
      cases b6 with
      | false =>
        go_wp2
        go_ret
        exact ⟨rfl, HBw0.out.trans (hBw.mono HBw0.out.size)⟩
      | true =>
        obtain ⟨hq1, hq2⟩ := HF6.out rfl
        have HIT6 := Lib.hid (fun (W : World) h1 h2 h3 h4 => implFeedText_any u6 t6 (.slice a10 its6.length c10) its6 W HU6.out HT6.out h1 h2 h3 h4)
        have HIO6 := Lib.hid (fun (W : World) h1 => implFeedOk_any u6 t6 (.slice a10 its6.length c10) its6 W HU6.out HT6.out h1)
        rw [hq2] at HIT6
        rw [hq1] at HIO6
        clear hq1 hq2
        have xx100 := hx10.cell 0 _ rfl
        have xx101 := hx10.cell 1 _ rfl
        have xx102 := hx10.cell 2 _ rfl
        go_wp2_with fail
        clear xx100 xx101 xx102
        generalize w11.alloc (.cells #[.string u6, .string t6, .slice a11 its6.length c11] 26) = W11 at hxf hx3 hx10 hx11 HS3 HS10 HS11 hBw ⊢
        generalize w11.heap.size = g11 at hx11 ⊢
        refine (HIT6.out _ HS10.out (HT.out _ hBw).1 (HT.out _ hBw).2.2.1 (HT.out _ hBw).2.2.2).mono ?_
        rintro e w12 ⟨rfl, hb12⟩
        replace hxf := hxf.keep hb12 hxf.lt
        replace hx3 := hx3.keep hb12 hx3.lt
        replace hx10 := hx10.keep hb12 hx10.lt
        replace hx11 := hx11.keep hb12 hx11.lt
        replace HS3 := Lib.hid ((HS3.out.below hb12).mono hb12.size)
        replace HS10 := Lib.hid ((HS10.out.below hb12).mono hb12.size)
        replace HS11 := Lib.hid ((HS11.out.below hb12).mono hb12.size)
        replace hBw := hBw.trans (hb12.mono hBw.size)
        clear hb12
        have xx100 := hx10.cell 0 _ rfl
        have xx101 := hx10.cell 1 _ rfl
        have xx102 := hx10.cell 2 _ rfl
        go_wp2_with fail
        clear xx100 xx101 xx102
        refine (HIO6.out _ HS10.out).mono ?_
        rintro e w13 ⟨rfl, hb13⟩
        replace hxf := hxf.keep hb13 hxf.lt
        replace hx3 := hx3.keep hb13 hx3.lt
        replace hx10 := hx10.keep hb13 hx10.lt
        replace hx11 := hx11.keep hb13 hx11.lt
        replace HS3 := Lib.hid ((HS3.out.below hb13).mono hb13.size)
        replace HS10 := Lib.hid ((HS10.out.below hb13).mono hb13.size)
        replace HS11 := Lib.hid ((HS11.out.below hb13).mono hb13.size)
        replace hBw := hBw.trans (hb13.mono hBw.size)
        clear hb13
        go_wp2
        go_ret
        exact ⟨rfl, HBw0.out.trans (hBw.mono HBw0.out.size)⟩
end Go.Proofs.YtffkakpbelknaaaGreatDoor

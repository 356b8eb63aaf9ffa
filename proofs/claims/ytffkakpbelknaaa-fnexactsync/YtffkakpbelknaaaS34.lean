/- Joined: W14k. -/
import Derived.Test.YtffkakpbelknaaaS33
/- W14k -/
namespace Go.Proofs.Ytffkakpbelknaaa
open Go.ChangeShapes Go.WideShapes Go.ChangeAt Go.RowKit
set_option linter.unusedVariables false

theorem fiSz_X {es : List Fi} (h : ∀ x ∈ es, FiSz x) (nm : ByteArray) : ∀ x ∈ fiX es nm, FiSz x := by
  intro x hx
  unfold fiX at hx
  rcases List.mem_append.1 hx with hx | hx
  · exact h x (List.mem_of_mem_take hx)
  · exact h x (List.mem_of_mem_drop hx)

set_option maxRecDepth 100000 in
set_option maxHeartbeats 1600000 in
theorem changed_rn (v : Value) (es : List Fi) (nm tn : ByteArray) (w : World) (h : FiAt w w.heap.size v es) (hr : risB (fiKs es) = true) (hn : es.length ≤ 800) :
    Calls Try.prog 90 #[v, .iface 182 (.agg #[.string nm, .string tn])] w fun e w' => ∃ v', e = .returned (.tuple #[v', .bool (fnB (fiKs es) nm)]) ∧ (fnB (fiKs es) nm = true → OwnR 167 2 fiC w' w.heap.size v' (fiP (fiX es nm) tn (fiG es nm))) ∧ (fnB (fiKs es) nm = false → v' = v) ∧ Below w.heap.size w w' := by
  have hM := fun v w => Try.methodRn v w
  have HM := Lib.hid (fun w => fileRn_any nm tn w)
  have hRA := fun x w => Try.asRA x w
  have hRR := fun x w => Try.asRR x w
  have HP := Lib.hid (fun w h => placeOfF_any v es nm w h (by omega) (ris_mono hr nm))
  have HFl := Lib.hid (fun h => fnF_lt (es := es) (x := nm) h)
  have HX := Lib.hid (fun w h => withoutF_any v es (plK (fiKs es) nm) w h)
  have HXe : Hid (es.take (plK (fiKs es) nm) ++ es.drop (plK (fiKs es) nm + 1) = fiX es nm) := Lib.hid rfl
  rw [HXe.out] at HX
  have HW := Lib.hid (fun u w h => withF_any u (fiX es nm) ⟨tn, fiG es nm⟩ w h (ris_fiX hr nm) (by have := len_fiX es nm; omega))
  have HWe : Hid (putP (fiX es nm) (plK (fiKs (fiX es nm)) tn) (fnB (fiKs (fiX es nm)) tn) ⟨tn, fiG es nm⟩ = fiP (fiX es nm) tn (fiG es nm)) := Lib.hid rfl
  simp only [HWe.out] at HW
  have HG : Hid (fiG es nm = if fnB (fiKs es) nm then (es[plK (fiKs es) nm]?.getD ⟨ByteArray.empty, ByteArray.empty⟩).da else ByteArray.empty) := Lib.hid rfl
  generalize fiP (fiX es nm) tn (fiG es nm) = FP at HW ⊢
  generalize fiG es nm = G at HW HG
  generalize plK (fiKs es) nm = p at HP HFl HG HX
  generalize fnB (fiKs es) nm = f at HP HFl HG ⊢
  clear HWe HXe hr
  have HI := Lib.hid h
  obtain ⟨a, cap, rfl, hl, hm, hc⟩ := h.raw
  unfold maxLen at hm
  clear h hc
  cases f with
  | false =>
    go_enter Try.func90, Try.ntmps90
    go_wp2_with fail
    refine (HM.out _).mono ?_
    rintro e w1 ⟨rfl, hb1⟩
    go_wp2_with fail
    refine (HP.out _ ((HI.out.below hb1).mono hb1.size)).mono ?_
    rintro e w2 ⟨rfl, hb2⟩
    have hB2 := hb1.trans (hb2.mono hb1.size)
    clear hb2 hb1 hM
    have hB3 : Below w.heap.size w (w2.alloc (.cells #[.string nm, .string tn] 182)) := hB2.alloc hB2.size _
    go_wp2
    go_ret2
    exact ⟨_, rfl, fun h => (by cases h), fun _ => rfl, hB3⟩
  | true =>
    have hpl := HFl.out rfl
    have hGe : G = es[p].da := by rw [HG.out, if_pos rfl, List.getElem?_eq_getElem hpl]; rfl
    have hpd : decide ((p : Int) < (es.length : Int)) = true := decide_eq_true (by omega)
    have HCC : Hid (∀ w1, Below w.heap.size w w1 → ∃ b off, a = some ⟨b, off, none⟩ ∧ w1.cell? ⟨b, off + p * 2 + 1, none⟩ = some (.string G)) := Lib.hid (fun w1 hb1 => by
      obtain ⟨a2, cap2, hv2, _, _, hc2⟩ := (HI.out.below hb1).raw
      cases hv2
      obtain ⟨b2, off2, rfl, _, hr2⟩ := hc2 p hpl
      obtain ⟨d0, d1, _, _⟩ := hr2 p hpl
      rw [hGe]
      exact ⟨b2, off2, rfl, d1⟩)
    clear hGe HG
    go_enter Try.func90, Try.ntmps90
    go_wp2_with fail
    refine (HM.out _).mono ?_
    rintro e w1 ⟨rfl, hb1⟩
    go_wp2_with fail
    refine (HP.out _ ((HI.out.below hb1).mono hb1.size)).mono ?_
    rintro e w2 ⟨rfl, hb2⟩
    have hB2 := hb1.trans (hb2.mono hb1.size)
    clear hb2 hb1 hM
    have hB3 : Below w.heap.size w (w2.alloc (.cells #[.string nm, .string tn] 182)) := hB2.alloc hB2.size _
    have hx0 := Box.new w2 #[.string nm, .string tn] 182
    obtain ⟨b, off, rfl, c1⟩ := HCC.out w2 hB2
    have hXX := fun w h => HX.out w h hpl (by omega)
    replace HX := Lib.hid hXX
    clear hXX
    go_wp2
    have hx := hx0.drew
    have hB3d := hB3.drew
    clear hx0 hB3 c1 HCC hpd
    refine wp_region_T (fun w' => Box w' w2.heap.size #[.string nm, .string tn] 182) (fun _ => True) 9 (by kernel_rfl) 10 rfl ?_
    generalize (w2.alloc (.cells #[.string nm, .string tn] 182)).drew = W at hx hB3d ⊢
    refine wpAnyT_takesA (md := .any) 4 (by kernel_rfl) (by intro d v c a w h; cases d <;> exact h) [0, 1, 3, 4, 5, 6] _ _ _ (by decide) (by kernel_rfl) ⟨hx, fun _ => trivial⟩ ?_
    simp only [pick, List.filterMap_cons, List.filterMap_nil, List.getElem?_cons_zero, List.getElem?_cons_succ]
    refine wpIf_step (.slice (some ⟨b, off, none⟩) es.length cap) (by kernel_rfl) (fun w hw => by go_simp) ?_
    refine wpIf_step (.int .i64 (p : Int)) (by kernel_rfl) (fun w hw => by go_simp) ?_
    refine wpIf_step (.pointer (some ⟨w2.heap.size, 1, none⟩)) (by kernel_rfl) (fun w hw => by go_simp) ?_
    refine wpIf_step (.string tn) (by kernel_rfl) (fun w hw => by have e0 := hw.cell 0 _ rfl; have e1 := hw.cell 1 _ rfl; go_simp) ?_
    refine wpIf_step (.string G) (by kernel_rfl) (fun w hw => by go_simp) ?_
    refine wpIf_step (fiV tn G) (by kernel_rfl) (fun w hw => by go_simp) ?_
    refine wpIf_nil (fun hS => ?_)
    clear hS
    refine wpAnyT_one 2 3 (by kernel_rfl) rfl (by kernel_rfl) (fun K hK => ?_)
    go_simp
    refine (HX.out _ (((HI.out.below hB3d).mono hB3d.size).1)).mono ?_
    rintro e w4 ⟨v4, rfl, hown4, hb4⟩
    have hx4 := hx.keep hb4 hx.lt
    have hB4 := hB3d.trans (hb4.mono hB3d.size)
    have hown4b := hown4.base_mono hB3d.size
    have hF4 := FiAt.of_own hown4 (fiSz_X HI.out.2 nm)
    refine hK _ _ ⟨hx4, fun _ => trivial⟩ (fun hS => ?_)
    clear hK K hS
    refine wpAnyT_one 7 2 (by kernel_rfl) rfl (by kernel_rfl) (fun K hK => ?_)
    go_simp
    refine (HW.out _ _ hF4).mono ?_
    rintro e w5 ⟨v5, rfl, hown5, hb5⟩
    have hx5 := hx4.keep hb5 hx4.lt
    have hB5 := hB4.trans (hb5.mono hB4.size)
    have hown5b := hown5.base_mono hB4.size
    refine hK _ _ ⟨hx5, fun _ => trivial⟩ (fun hS => ?_)
    clear hK K hS
    refine wpAnyT_one 8 1 (by kernel_rfl) rfl (by kernel_rfl) (fun K hK => ?_)
    go_simp
    refine hK _ _ ⟨hx5, fun _ => trivial⟩ (fun hS => ?_)
    clear hK K hS
    refine wpAnyT_one 9 0 (by kernel_rfl) rfl (by kernel_rfl) (fun K hK => ?_)
    go_simp
    refine hK _ _ ⟨hx5, fun _ => trivial⟩ (fun hS => ?_)
    clear hK K hS
    refine wpAnyT_over (by kernel_rfl) ?_
    go_wp2
    go_ret2
    exact ⟨v5, rfl, fun _ => hown5b, fun h => (by cases h), hB5⟩

set_option maxRecDepth 100000 in
set_option maxHeartbeats 1600000 in
theorem changed_rm (v : Value) (es : List Fi) (nm : ByteArray) (w : World) (h : FiAt w w.heap.size v es) (hr : risB (fiKs es) = true) (hn : es.length ≤ 800) :
    Calls Try.prog 90 #[v, .iface 184 (.agg #[.string nm])] w fun e w' => ∃ v', e = .returned (.tuple #[v', .bool (fnB (fiKs es) nm)]) ∧ (fnB (fiKs es) nm = true → OwnR 167 2 fiC w' w.heap.size v' (fiX es nm)) ∧ (fnB (fiKs es) nm = false → v' = v) ∧ Below w.heap.size w w' := by
  have hM := fun v w => Try.methodRm v w
  have HM := Lib.hid (fun w => fileRm_any nm w)
  have hMA := fun x w => Try.asMA x w
  have hMR := fun x w => Try.asMR x w
  have hMM := fun x w => Try.asMM x w
  have HP := Lib.hid (fun w h => placeOfF_any v es nm w h (by omega) (ris_mono hr nm))
  have HFl := Lib.hid (fun h => fnF_lt (es := es) (x := nm) h)
  have HX := Lib.hid (fun w h => withoutF_any v es (plK (fiKs es) nm) w h)
  have HXe : Hid (es.take (plK (fiKs es) nm) ++ es.drop (plK (fiKs es) nm + 1) = fiX es nm) := Lib.hid rfl
  rw [HXe.out] at HX
  generalize fiX es nm = FP at HX ⊢
  generalize plK (fiKs es) nm = p at HP HFl HX
  generalize fnB (fiKs es) nm = f at HP HFl ⊢
  clear HXe hr
  have HI := Lib.hid h
  obtain ⟨a, cap, rfl, hl, hm, hc⟩ := h.raw
  unfold maxLen at hm
  clear h hc
  cases f with
  | false =>
    go_enter Try.func90, Try.ntmps90
    go_wp2_with fail
    refine (HM.out _).mono ?_
    rintro e w1 ⟨rfl, hb1⟩
    go_wp2_with fail
    refine (HP.out _ ((HI.out.below hb1).mono hb1.size)).mono ?_
    rintro e w2 ⟨rfl, hb2⟩
    have hB2 := hb1.trans (hb2.mono hb1.size)
    clear hb2 hb1 hM
    have hB3 : Below w.heap.size w (w2.alloc (.cells #[.string nm] 184)) := hB2.alloc hB2.size _
    go_wp2
    go_ret2
    exact ⟨_, rfl, fun h => (by cases h), fun _ => rfl, hB3⟩
  | true =>
    have hpl := HFl.out rfl
    have hpd : decide ((p : Int) < (es.length : Int)) = true := decide_eq_true (by omega)
    have HCC : Hid (∀ w1, Below w.heap.size w w1 → ∃ b off, ∃ D, a = some ⟨b, off, none⟩ ∧ w1.cell? ⟨b, off + p * 2 + 1, none⟩ = some (.string D)) := Lib.hid (fun w1 hb1 => by
      obtain ⟨a2, cap2, hv2, _, _, hc2⟩ := (HI.out.below hb1).raw
      cases hv2
      obtain ⟨b2, off2, rfl, _, hr2⟩ := hc2 p hpl
      obtain ⟨d0, d1, _, _⟩ := hr2 p hpl
      exact ⟨b2, off2, _, rfl, d1⟩)
    go_enter Try.func90, Try.ntmps90
    go_wp2_with fail
    refine (HM.out _).mono ?_
    rintro e w1 ⟨rfl, hb1⟩
    go_wp2_with fail
    refine (HP.out _ ((HI.out.below hb1).mono hb1.size)).mono ?_
    rintro e w2 ⟨rfl, hb2⟩
    have hB2 := hb1.trans (hb2.mono hb1.size)
    clear hb2 hb1 hM
    have hB3 : Below w.heap.size w (w2.alloc (.cells #[.string nm] 184)) := hB2.alloc hB2.size _
    obtain ⟨b, off, D, rfl, c1⟩ := HCC.out w2 hB2
    go_wp2_with fail
    refine (HX.out _ (((HI.out.below hB3).mono hB3.size).1) hpl (by omega)).mono ?_
    rintro e w4 ⟨v4, rfl, hown4, hb4⟩
    have hB4 := hB3.trans (hb4.mono hB3.size)
    have hown4b := hown4.base_mono hB3.size
    go_wp2
    go_ret2
    exact ⟨v4, rfl, fun _ => hown4b, fun h => (by cases h), hB4⟩

end Go.Proofs.Ytffkakpbelknaaa

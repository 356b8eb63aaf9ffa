/- Joined: W14n. -/
import Derived.Test.YtffkakpbelknaaaS42
/- W14n -/
namespace Go.Proofs.Ytffkakpbelknaaa
open Go.ChangeShapes Go.WideShapes Go.ChangeAt Go.RowKit
set_option linter.unusedVariables false

theorem emp_app (s : ByteArray) : ByteArray.empty ++ s = s := by
  simp

set_option maxRecDepth 100000 in
set_option maxHeartbeats 1600000 in
theorem l14Do_ap (v : Value) (es : List Fi) (nm tn da : ByteArray) (w : World) (h : FiAt w w.heap.size v es) (hr : risB (fiKs es) = true) (hn : es.length ≤ 800) (hs : fiSum es ≤ 100000000000) (hd : da.size ≤ 100000000000) :
    Calls Try.prog 85 #[v, .agg #[.int .i64 1, .string nm, .string tn, .string da]] w fun e w' => ∃ v', e = .returned (.tuple #[v', .bool (true)]) ∧ (true = true → OwnR 167 2 fiC w' w.heap.size v' (fiP es nm (fiG es nm ++ da))) ∧ (true = false → OwnR 167 2 fiC w' w.heap.size v' es) ∧ Below w.heap.size w w' := by
  have HA := Lib.hid (fun w h => l14At_any v es nm w h)
  have HAT : Hid (fnB (fiKs es) nm = true → atK (fiKs es) nm = ((plK (fiKs es) nm : Nat) : Int)) := Lib.hid (fun h => atF_there hr h)
  have HAN : Hid (fnB (fiKs es) nm = false → atK (fiKs es) nm = -1) := Lib.hid (fun h => atF_not hr h)
  have HFl := Lib.hid (fun h => fnF_lt (es := es) (x := nm) h)
  have hgs := fiG_sum es nm
  have HG : Hid (fiG es nm = if fnB (fiKs es) nm then (es[plK (fiKs es) nm]?.getD ⟨ByteArray.empty, ByteArray.empty⟩).da else ByteArray.empty) := Lib.hid rfl
  have HPut := Lib.hid (fun w h => l14Put_any v es nm (fiG es nm ++ da) w h hr (by omega))
  generalize fiG es nm = G at HPut hgs HG ⊢
  generalize fiP es nm (G ++ da) = FP at HPut ⊢
  generalize plK (fiKs es) nm = p at HAT HFl HG
  generalize fnB (fiKs es) nm = f at HAT HAN HFl HG ⊢
  generalize atK (fiKs es) nm = AT at HA HAT HAN
  have HI := Lib.hid h
  obtain ⟨a, cap, rfl, hl, hm, hc⟩ := h.raw
  unfold maxLen at hm
  clear h hc hr
  have hcat : G.size + da.size ≤ 9223372036854775807 := by omega
  cases f with
  | false =>
    obtain rfl : AT = -1 := HAN.out rfl
    have hmi : decide (0 ≤ (-1 : Int)) = false := by decide
    obtain rfl : G = ByteArray.empty := HG.out
    rw [emp_app] at HPut
    have hx0 := Box.new w #[.int .i64 1, .string nm, .string tn, .string da] 68
    have hb0 : Below w.heap.size w (w.alloc (.cells #[.int .i64 1, .string nm, .string tn, .string da] 68)) := (Below.refl _ _).alloc (Nat.le_refl _) _
    go_enter Try.func85, Try.ntmps85
    go_wp2_with fail
    refine (HA.out _ ((HI.out.below hb0).mono hb0.size)).mono ?_
    rintro e w1 ⟨rfl, hb1⟩
    have hB1 := hb0.trans (hb1.mono hb0.size)
    have hx1 := hx0.keep hb1 hx0.lt
    clear hb0 hb1 hx0
    have f0 := hx1.cell 0 _ rfl
    have f1 := hx1.cell 1 _ rfl
    have f2 := hx1.cell 2 _ rfl
    have f3 := hx1.cell 3 _ rfl
    go_wp2_with fail
    refine (HPut.out _ ((HI.out.below hB1).mono hB1.size)).mono ?_
    rintro e w2 ⟨v2, rfl, hown2, hb2⟩
    have hown2b := hown2.base_mono hB1.size
    have hB2 := hB1.trans (hb2.mono hB1.size)
    go_wp2
    go_ret2
    exact ⟨v2, rfl, fun _ => hown2b, fun h => (by cases h), hB2⟩
  | true =>
    obtain rfl : AT = (p : Int) := HAT.out rfl
    have hge : decide (0 ≤ (p : Int)) = true := decide_eq_true (by omega)
    have hlt0 : decide ((p : Int) < 0) = false := decide_eq_false (by omega)
    have hpl := HFl.out rfl
    have hGe : G = es[p].da := by rw [HG.out, if_pos rfl, List.getElem?_eq_getElem hpl]; rfl
    have HCC : Hid (∀ w1, Below w.heap.size w w1 → ∃ b off, a = some ⟨b, off, none⟩ ∧ b < w.heap.size ∧ w1.cell? ⟨b, off + p * 2 + 1, none⟩ = some (.string G)) := Lib.hid (fun w1 hb1 => by
      obtain ⟨a2, cap2, hv2, _, _, hc2⟩ := (HI.out.below hb1).raw
      cases hv2
      obtain ⟨b2, off2, rfl, hbb, hr2⟩ := hc2 p hpl
      obtain ⟨d0, d1, _, _⟩ := hr2 p hpl
      rw [hGe]
      exact ⟨b2, off2, rfl, hbb, d1⟩)
    clear hGe HG HFl
    have hx0 := Box.new w #[.int .i64 1, .string nm, .string tn, .string da] 68
    have hb0 : Below w.heap.size w (w.alloc (.cells #[.int .i64 1, .string nm, .string tn, .string da] 68)) := (Below.refl _ _).alloc (Nat.le_refl _) _
    go_enter Try.func85, Try.ntmps85
    go_wp2_with fail
    refine (HA.out _ ((HI.out.below hb0).mono hb0.size)).mono ?_
    rintro e w1 ⟨rfl, hb1⟩
    have hB1 := hb0.trans (hb1.mono hb0.size)
    have hx1 := hx0.keep hb1 hx0.lt
    clear hb0 hb1 hx0
    have f0 := hx1.cell 0 _ rfl
    have f1 := hx1.cell 1 _ rfl
    have f2 := hx1.cell 2 _ rfl
    have f3 := hx1.cell 3 _ rfl
    obtain ⟨b, off, rfl, hbw, c1⟩ := HCC.out w1 hB1
    go_wp2_with fail
    refine (HPut.out _ ((HI.out.below hB1).mono hB1.size)).mono ?_
    rintro e w2 ⟨v2, rfl, hown2, hb2⟩
    have hown2b := hown2.base_mono hB1.size
    have hB2 := hB1.trans (hb2.mono hB1.size)
    go_wp2
    go_ret2
    exact ⟨v2, rfl, fun _ => hown2b, fun h => (by cases h), hB2⟩

set_option maxRecDepth 100000 in
set_option maxHeartbeats 1600000 in
theorem l14Do_rn (v : Value) (es : List Fi) (nm tn da : ByteArray) (w : World) (h : FiAt w w.heap.size v es) (hr : risB (fiKs es) = true) (hn : es.length ≤ 800) (hs : fiSum es ≤ 100000000000) (hd : da.size ≤ 100000000000) :
    Calls Try.prog 85 #[v, .agg #[.int .i64 2, .string nm, .string tn, .string da]] w fun e w' => ∃ v', e = .returned (.tuple #[v', .bool (fnB (fiKs es) nm)]) ∧ (fnB (fiKs es) nm = true → OwnR 167 2 fiC w' w.heap.size v' (fiP (fiX es nm) tn (fiG es nm))) ∧ (fnB (fiKs es) nm = false → OwnR 167 2 fiC w' w.heap.size v' es) ∧ Below w.heap.size w w' := by
  have HA := Lib.hid (fun w h => l14At_any v es nm w h)
  have HAT : Hid (fnB (fiKs es) nm = true → atK (fiKs es) nm = ((plK (fiKs es) nm : Nat) : Int)) := Lib.hid (fun h => atF_there hr h)
  have HAN : Hid (fnB (fiKs es) nm = false → atK (fiKs es) nm = -1) := Lib.hid (fun h => atF_not hr h)
  have HFl := Lib.hid (fun h => fnF_lt (es := es) (x := nm) h)
  have hgs := fiG_sum es nm
  have HG : Hid (fiG es nm = if fnB (fiKs es) nm then (es[plK (fiKs es) nm]?.getD ⟨ByteArray.empty, ByteArray.empty⟩).da else ByteArray.empty) := Lib.hid rfl
  have HCut := Lib.hid (fun hf w h => l14Cut_any v es nm w h hr (by omega) hf)
  have HPut := Lib.hid (fun u w h => l14Put_any u (fiX es nm) tn (fiG es nm) w h (ris_fiX hr nm) (by have := len_fiX es nm; omega))
  generalize fiP (fiX es nm) tn (fiG es nm) = FP at HPut ⊢
  generalize fiG es nm = G at HPut hgs HG
  generalize plK (fiKs es) nm = p at HAT HFl HG
  generalize fnB (fiKs es) nm = f at HAT HAN HFl HG HCut ⊢
  generalize atK (fiKs es) nm = AT at HA HAT HAN
  have HI := Lib.hid h
  obtain ⟨a, cap, rfl, hl, hm, hc⟩ := h.raw
  unfold maxLen at hm
  clear h hc hr
  have hcat : G.size + da.size ≤ 9223372036854775807 := by omega
  cases f with
  | false =>
    obtain rfl : AT = -1 := HAN.out rfl
    have hmi : decide (0 ≤ (-1 : Int)) = false := by decide
    have hx0 := Box.new w #[.int .i64 2, .string nm, .string tn, .string da] 68
    have hb0 : Below w.heap.size w (w.alloc (.cells #[.int .i64 2, .string nm, .string tn, .string da] 68)) := (Below.refl _ _).alloc (Nat.le_refl _) _
    go_enter Try.func85, Try.ntmps85
    go_wp2_with fail
    refine (HA.out _ ((HI.out.below hb0).mono hb0.size)).mono ?_
    rintro e w1 ⟨rfl, hb1⟩
    have hB1 := hb0.trans (hb1.mono hb0.size)
    have hx1 := hx0.keep hb1 hx0.lt
    clear hb0 hb1 hx0
    have f0 := hx1.cell 0 _ rfl
    have f1 := hx1.cell 1 _ rfl
    have f2 := hx1.cell 2 _ rfl
    have f3 := hx1.cell 3 _ rfl
    have HRc := Lib.hid (((HI.out.below hB1).mono hB1.size).1)
    have hba1 : Below w1.heap.size w1 (w1.alloc (.cells #[] 167)) := (Below.refl _ _).alloc (Nat.le_refl _) _
    have HRc2 := Lib.hid ((HRc.out.below hba1))
    have HL0 := Lib.hid (OwnR.lit (k := 2) (C := fiC) 167 w1 w1.heap.size (Nat.le_refl _))
    clear HRc
    go_wp2_with (at_builtin; refine wpList_appR fiC_len (by decide) Try.underlying61 Try.infoFile rfl (by decide) rfl (.tmp 34) (.tmp 35) rfl w1.heap.size w1.heap.size _ _ [] es rfl rfl HL0.out HRc2.out (fun y _ => fiC_one y) (by simp; omega) (by simp) ?_; intro v2 w2 hown2 hg2)
    have hb2 : Below w1.heap.size w1 w2 := hba1.trans (gb_BelowF hg2 (by simp) (ownBlock_base HL0.out))
    rw [List.nil_append] at hown2
    have hown2b := hown2.base_mono hB1.size
    have hB2 := hB1.trans (hb2.mono hB1.size)
    clear hg2
    go_ret2
    exact ⟨v2, rfl, fun h => (by cases h), fun _ => hown2b, hB2⟩
  | true =>
    obtain rfl : AT = (p : Int) := HAT.out rfl
    have hge : decide (0 ≤ (p : Int)) = true := decide_eq_true (by omega)
    have hlt0 : decide ((p : Int) < 0) = false := decide_eq_false (by omega)
    have HC2 := Lib.hid (HCut.out rfl)
    replace HCut := HC2
    have hpl := HFl.out rfl
    have hGe : G = es[p].da := by rw [HG.out, if_pos rfl, List.getElem?_eq_getElem hpl]; rfl
    have HCC : Hid (∀ w1, Below w.heap.size w w1 → ∃ b off, a = some ⟨b, off, none⟩ ∧ b < w.heap.size ∧ w1.cell? ⟨b, off + p * 2 + 1, none⟩ = some (.string G)) := Lib.hid (fun w1 hb1 => by
      obtain ⟨a2, cap2, hv2, _, _, hc2⟩ := (HI.out.below hb1).raw
      cases hv2
      obtain ⟨b2, off2, rfl, hbb, hr2⟩ := hc2 p hpl
      obtain ⟨d0, d1, _, _⟩ := hr2 p hpl
      rw [hGe]
      exact ⟨b2, off2, rfl, hbb, d1⟩)
    clear hGe HG HFl
    have hx0 := Box.new w #[.int .i64 2, .string nm, .string tn, .string da] 68
    have hb0 : Below w.heap.size w (w.alloc (.cells #[.int .i64 2, .string nm, .string tn, .string da] 68)) := (Below.refl _ _).alloc (Nat.le_refl _) _
    go_enter Try.func85, Try.ntmps85
    go_wp2_with fail
    refine (HA.out _ ((HI.out.below hb0).mono hb0.size)).mono ?_
    rintro e w1 ⟨rfl, hb1⟩
    have hB1 := hb0.trans (hb1.mono hb0.size)
    have hx1 := hx0.keep hb1 hx0.lt
    clear hb0 hb1 hx0
    have f0 := hx1.cell 0 _ rfl
    have f1 := hx1.cell 1 _ rfl
    have f2 := hx1.cell 2 _ rfl
    have f3 := hx1.cell 3 _ rfl
    obtain ⟨b, off, rfl, hbw, c1⟩ := HCC.out w1 hB1
    go_wp2_with fail
    refine (HCut.out _ ((HI.out.below hB1).mono hB1.size)).mono ?_
    rintro e w2 ⟨v2, rfl, hown2, hb2⟩
    have hown2b := hown2.base_mono hB1.size
    have hB2 := hB1.trans (hb2.mono hB1.size)
    have hx2 := (hx1.keep hb2 hx1.lt).drew
    have g1 : w2.drew.cell? ⟨b, off + p * 2 + 1, none⟩ = some (.string G) := by
      have : w2.cell? ⟨b, off + p * 2 + 1, none⟩ = some (.string G) := by
        rw [hb2.cell (p := ⟨b, _, none⟩) (by have := hB1.size; show b < w1.heap.size; omega)]; exact c1
      exact this
    have hF2 : FiAt w2.drew w2.drew.heap.size v2 (fiX es nm) := FiAt.of_own hown2 (fiSz_X HI.out.2 nm)
    have hk2 := (hx1.keep hb2 hx1.lt).cell 0 _ rfl
    replace hB2 := hB2.drew
    clear hown2b hb2 f0 f1 f2 f3 c1 hx1 hB1
    go_wp2
    clear hk2
    refine wp_region_T (fun w' => Box w' w.heap.size #[.int .i64 2, .string nm, .string tn, .string da] 68 ∧ w'.cell? ⟨b, off + p * 2 + 1, none⟩ = some (.string G)) (fun _ => True) 9 (by kernel_rfl) 10 rfl ?_
    generalize w2.drew = W at hx2 g1 hB2 hF2 ⊢
    refine wpAnyT_takesA (md := .any) 2 (by kernel_rfl) (by intro d v c a w h; cases d <;> exact h) [0, 1, 2, 3, 4, 5, 6, 7] _ _ _ (by decide) (by kernel_rfl) ⟨⟨hx2, g1⟩, fun _ => trivial⟩ ?_
    simp only [pick, List.filterMap_cons, List.filterMap_nil, List.getElem?_cons_zero, List.getElem?_cons_succ]
    refine wpIf_step (v2) (by kernel_rfl) (fun w hw => by go_simp) ?_
    refine wpIf_step (.pointer (some ⟨w.heap.size, 2, none⟩)) (by kernel_rfl) (fun w hw => by go_simp) ?_
    refine wpIf_step (.string tn) (by kernel_rfl) (fun w hw => by have e0 := hw.1.cell 0 _ rfl; have e1 := hw.1.cell 1 _ rfl; have e2 := hw.1.cell 2 _ rfl; have e3 := hw.1.cell 3 _ rfl; go_simp) ?_
    refine wpIf_step (.slice (some ⟨b, off, none⟩) es.length cap) (by kernel_rfl) (fun w hw => by go_simp) ?_
    refine wpIf_step (.int .i64 (p : Int)) (by kernel_rfl) (fun w hw => by go_simp) ?_
    refine wpIf_step (.pointer (some ⟨b, off + p * 2, none⟩)) (by kernel_rfl) (fun w hw => by go_simp) ?_
    refine wpIf_step (.pointer (some ⟨b, off + p * 2 + 1, none⟩)) (by kernel_rfl) (fun w hw => by go_simp) ?_
    refine wpIf_step (.string G) (by kernel_rfl) (fun w hw => by have e0 := hw.2; go_simp) ?_
    refine wpIf_nil (fun hS => ?_)
    clear hS
    refine wpAnyT_one 8 1 (by kernel_rfl) rfl (by kernel_rfl) (fun K hK => ?_)
    go_simp
    refine (HPut.out _ _ hF2).mono ?_
    rintro e w3 ⟨v3, rfl, hown3, hb3⟩
    have hx3 := hx2.keep hb3 hx2.lt
    have g3 : w3.cell? ⟨b, off + p * 2 + 1, none⟩ = some (.string G) := by rw [hb3.cell (p := ⟨b, _, none⟩) (by have := hB2.size; show b < W.heap.size; omega)]; exact g1
    have hB3 := hB2.trans (hb3.mono hB2.size)
    have hown3b := hown3.base_mono hB2.size
    refine hK _ _ ⟨⟨hx3, g3⟩, fun _ => trivial⟩ (fun hS => ?_)
    clear hK K hS
    refine wpAnyT_one 9 0 (by kernel_rfl) rfl (by kernel_rfl) (fun K hK => ?_)
    go_simp
    refine hK _ _ ⟨⟨hx3, g3⟩, fun _ => trivial⟩ (fun hS => ?_)
    clear hK K hS
    refine wpAnyT_over (by kernel_rfl) ?_
    go_wp2
    go_ret2
    exact ⟨v3, rfl, fun _ => hown3b, fun h => (by cases h), hB3⟩

set_option maxRecDepth 100000 in
set_option maxHeartbeats 1600000 in
theorem l14Do_rm (v : Value) (es : List Fi) (k : Int) (hk1 : ¬ k = 1) (hk2 : ¬ k = 2) (nm tn da : ByteArray) (w : World) (h : FiAt w w.heap.size v es) (hr : risB (fiKs es) = true) (hn : es.length ≤ 800) (hs : fiSum es ≤ 100000000000) (hd : da.size ≤ 100000000000) :
    Calls Try.prog 85 #[v, .agg #[.int .i64 k, .string nm, .string tn, .string da]] w fun e w' => ∃ v', e = .returned (.tuple #[v', .bool (fnB (fiKs es) nm)]) ∧ (fnB (fiKs es) nm = true → OwnR 167 2 fiC w' w.heap.size v' (fiX es nm)) ∧ (fnB (fiKs es) nm = false → OwnR 167 2 fiC w' w.heap.size v' es) ∧ Below w.heap.size w w' := by
  have HA := Lib.hid (fun w h => l14At_any v es nm w h)
  have HAT : Hid (fnB (fiKs es) nm = true → atK (fiKs es) nm = ((plK (fiKs es) nm : Nat) : Int)) := Lib.hid (fun h => atF_there hr h)
  have HAN : Hid (fnB (fiKs es) nm = false → atK (fiKs es) nm = -1) := Lib.hid (fun h => atF_not hr h)
  have HFl := Lib.hid (fun h => fnF_lt (es := es) (x := nm) h)
  have hgs := fiG_sum es nm
  have HG : Hid (fiG es nm = if fnB (fiKs es) nm then (es[plK (fiKs es) nm]?.getD ⟨ByteArray.empty, ByteArray.empty⟩).da else ByteArray.empty) := Lib.hid rfl
  have HCut := Lib.hid (fun hf w h => l14Cut_any v es nm w h hr (by omega) hf)
  generalize fiG es nm = G at hgs HG
  generalize plK (fiKs es) nm = p at HAT HFl HG
  generalize fnB (fiKs es) nm = f at HAT HAN HFl HG HCut ⊢
  generalize atK (fiKs es) nm = AT at HA HAT HAN
  have HI := Lib.hid h
  obtain ⟨a, cap, rfl, hl, hm, hc⟩ := h.raw
  unfold maxLen at hm
  clear h hc hr
  have hcat : G.size + da.size ≤ 9223372036854775807 := by omega
  cases f with
  | false =>
    obtain rfl : AT = -1 := HAN.out rfl
    have hmi : decide (0 ≤ (-1 : Int)) = false := by decide
    have hx0 := Box.new w #[.int .i64 k, .string nm, .string tn, .string da] 68
    have hb0 : Below w.heap.size w (w.alloc (.cells #[.int .i64 k, .string nm, .string tn, .string da] 68)) := (Below.refl _ _).alloc (Nat.le_refl _) _
    go_enter Try.func85, Try.ntmps85
    go_wp2_with fail
    refine (HA.out _ ((HI.out.below hb0).mono hb0.size)).mono ?_
    rintro e w1 ⟨rfl, hb1⟩
    have hB1 := hb0.trans (hb1.mono hb0.size)
    have hx1 := hx0.keep hb1 hx0.lt
    clear hb0 hb1 hx0
    have f0 := hx1.cell 0 _ rfl
    have f1 := hx1.cell 1 _ rfl
    have f2 := hx1.cell 2 _ rfl
    have f3 := hx1.cell 3 _ rfl
    have HRc := Lib.hid (((HI.out.below hB1).mono hB1.size).1)
    have hba1 : Below w1.heap.size w1 (w1.alloc (.cells #[] 167)) := (Below.refl _ _).alloc (Nat.le_refl _) _
    have HRc2 := Lib.hid ((HRc.out.below hba1))
    have HL0 := Lib.hid (OwnR.lit (k := 2) (C := fiC) 167 w1 w1.heap.size (Nat.le_refl _))
    clear HRc
    go_wp2_with (at_builtin; refine wpList_appR fiC_len (by decide) Try.underlying61 Try.infoFile rfl (by decide) rfl (.tmp 34) (.tmp 35) rfl w1.heap.size w1.heap.size _ _ [] es rfl rfl HL0.out HRc2.out (fun y _ => fiC_one y) (by simp; omega) (by simp) ?_; intro v2 w2 hown2 hg2)
    have hb2 : Below w1.heap.size w1 w2 := hba1.trans (gb_BelowF hg2 (by simp) (ownBlock_base HL0.out))
    rw [List.nil_append] at hown2
    have hown2b := hown2.base_mono hB1.size
    have hB2 := hB1.trans (hb2.mono hB1.size)
    clear hg2
    go_ret2
    exact ⟨v2, rfl, fun h => (by cases h), fun _ => hown2b, hB2⟩
  | true =>
    obtain rfl : AT = (p : Int) := HAT.out rfl
    have hge : decide (0 ≤ (p : Int)) = true := decide_eq_true (by omega)
    have hlt0 : decide ((p : Int) < 0) = false := decide_eq_false (by omega)
    have HC2 := Lib.hid (HCut.out rfl)
    replace HCut := HC2
    have hpl := HFl.out rfl
    have hGe : G = es[p].da := by rw [HG.out, if_pos rfl, List.getElem?_eq_getElem hpl]; rfl
    have HCC : Hid (∀ w1, Below w.heap.size w w1 → ∃ b off, a = some ⟨b, off, none⟩ ∧ b < w.heap.size ∧ w1.cell? ⟨b, off + p * 2 + 1, none⟩ = some (.string G)) := Lib.hid (fun w1 hb1 => by
      obtain ⟨a2, cap2, hv2, _, _, hc2⟩ := (HI.out.below hb1).raw
      cases hv2
      obtain ⟨b2, off2, rfl, hbb, hr2⟩ := hc2 p hpl
      obtain ⟨d0, d1, _, _⟩ := hr2 p hpl
      rw [hGe]
      exact ⟨b2, off2, rfl, hbb, d1⟩)
    clear hGe HG HFl
    have hx0 := Box.new w #[.int .i64 k, .string nm, .string tn, .string da] 68
    have hb0 : Below w.heap.size w (w.alloc (.cells #[.int .i64 k, .string nm, .string tn, .string da] 68)) := (Below.refl _ _).alloc (Nat.le_refl _) _
    go_enter Try.func85, Try.ntmps85
    go_wp2_with fail
    refine (HA.out _ ((HI.out.below hb0).mono hb0.size)).mono ?_
    rintro e w1 ⟨rfl, hb1⟩
    have hB1 := hb0.trans (hb1.mono hb0.size)
    have hx1 := hx0.keep hb1 hx0.lt
    clear hb0 hb1 hx0
    have f0 := hx1.cell 0 _ rfl
    have f1 := hx1.cell 1 _ rfl
    have f2 := hx1.cell 2 _ rfl
    have f3 := hx1.cell 3 _ rfl
    obtain ⟨b, off, rfl, hbw, c1⟩ := HCC.out w1 hB1
    go_wp2_with fail
    refine (HCut.out _ ((HI.out.below hB1).mono hB1.size)).mono ?_
    rintro e w2 ⟨v2, rfl, hown2, hb2⟩
    have hown2b := hown2.base_mono hB1.size
    have hB2 := hB1.trans (hb2.mono hB1.size)
    have hk2 := (hx1.keep hb2 hx1.lt).cell 0 _ rfl
    clear f0 f1 f2 f3 c1
    go_wp2
    go_ret2
    exact ⟨v2, rfl, fun _ => hown2b, fun h => (by cases h), hB2⟩

end Go.Proofs.Ytffkakpbelknaaa

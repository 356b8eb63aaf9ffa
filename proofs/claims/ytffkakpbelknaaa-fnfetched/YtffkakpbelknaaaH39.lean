/- Joined: W9zt, W9zw. -/
import Derived.Test.YtffkakpbelknaaaH36
import Derived.Test.YtffkakpbelknaaaH38
/- W9zt -/
namespace Go.Proofs.Ytffkakpbelknaaa
open Go.ChangeShapes Go.WideShapes Go.ChangeAt Go.RowKit
set_option linter.unusedVariables false

theorem ft1_there {es : List En} {it : It} {p : Nat} (hf : fnB (enKs es) it.id = true) (hpl : plK (enKs es) it.id = p) (hp : p < es.length) : ft1 es it = es.set p ⟨it, es[p].rd, es[p].st⟩ := by
  unfold ft1 neE
  rw [hf, hpl, if_pos rfl, putP_set _ _ _ hp, List.getElem?_eq_getElem hp]
  rfl
theorem ft1_new {es : List En} {it : It} {p : Nat} (hf : fnB (enKs es) it.id = false) (hpl : plK (enKs es) it.id = p) : ft1 es it = (es.take p ++ [⟨it, false, false⟩]) ++ es.drop p := by
  unfold ft1 neE putP
  rw [hf, hpl, if_neg (by simp), if_neg (by simp), List.append_assoc]
  rfl
theorem atK_there {ks : List ByteArray} (hr : risB ks = true) {x : ByteArray} (hf : fnB ks x = true) : atK ks x = ((plK ks x : Nat) : Int) := by
  unfold atK
  rw [ix_pl hr, hf]
  rfl
theorem atK_not {ks : List ByteArray} (hr : risB ks = true) {x : ByteArray} (hf : fnB ks x = false) : atK ks x = -1 := by
  unfold atK
  rw [ix_pl hr, hf]
  rfl
theorem fn_lt {ks : List ByteArray} {x : ByteArray} (hf : fnB ks x = true) : plK ks x < ks.length := by
  unfold fnB at hf
  rcases Nat.lt_or_ge (plK ks x) ks.length with h | h
  · exact h
  · rw [List.getElem?_eq_none h] at hf; cases hf

set_option maxRecDepth 100000 in
set_option maxHeartbeats 1600000 in
theorem l9Put_there (v : Value) (es : List En) (it : It) (w : World) (h : EnAt w w.heap.size v es) (hr : risB (enKs es) = true) (hn : es.length ≤ 1000) (hf : fnB (enKs es) it.id = true) :
    Calls Try.prog 153 #[v, itV it.id it.ti it.da] w (OutB 47 5 enC (ft1 es it) w.heap.size w) := by
  have hP := fn_lt hf
  rw [show (enKs es).length = es.length by simp [enKs]] at hP
  have HF := Lib.hid (fun w h => l9Find_any v es it.id w h)
  rw [atK_there hr hf] at HF
  have HE := Lib.hid (ft1_there hf rfl hP)
  rw [HE.out]
  generalize plK (enKs es) it.id = p at hP HF
  have HI := Lib.hid h
  obtain ⟨a, cap, rfl, hl, hm, hc⟩ := h.raw
  unfold maxLen at hm
  clear hc h hr hf HE
  have hb0 : Below w.heap.size w (w.alloc (.cells #[.string it.id, .string it.ti, .int .i64 it.da] 45)) := (Below.refl _ _).alloc (Nat.le_refl _) _
  have hx0 := Box.new w #[.string it.id, .string it.ti, .int .i64 it.da] 45
  have hge : decide (0 ≤ (p : Int)) = true := decide_eq_true (by omega)
  obtain ⟨R, hR⟩ : ∃ R, es.set p ⟨it, es[p].rd, es[p].st⟩ = R := ⟨_, rfl⟩
  have HR := Lib.hid hR
  rw [hR]
  clear hR
  obtain ⟨I0, I1, I2⟩ := it
  simp only at hx0 hb0 HF HR ⊢
  go_enter Try.func153, Try.ntmps153
  go_wp2_with fail
  refine (HF.out _ ((HI.out.below hb0).mono hb0.size)).mono ?_
  rintro e w1 ⟨rfl, hb1⟩
  have hB1 := hb0.trans (hb1.mono hb0.size)
  have hx1 := hx0.keep hb1 hx0.lt
  have HRc := Lib.hid (((HI.out.below hB1).mono hB1.size).1)
  have hba1 : Below w1.heap.size w1 (w1.alloc (.cells #[] 47)) := (Below.refl _ _).alloc (Nat.le_refl _) _
  have HRc2 := Lib.hid ((HRc.out.below hba1))
  have HL0 := Lib.hid (OwnR.lit (k := 5) (C := enC) 47 w1 w1.heap.size (Nat.le_refl _))
  clear hb0 hb1 hx0 HRc
  go_wp2_with (
    at_builtin
    refine wpList_appR enC_len (by decide) Try.underlying41 Try.infoEntry rfl (by decide) rfl (.tmp 12) (.tmp 13) rfl w1.heap.size w1.heap.size _ _ [] es rfl rfl HL0.out HRc2.out (fun y _ => enC_one y) (by simp; omega) (by simp) ?_
    intro v2 w2 hown2 hg2
    have hb2 : Below w1.heap.size w1 w2 := hba1.trans (gb_Below hg2 (by simp) (ownBlock_base HL0.out))
    have hx2 := hx1.keep hb2 hx1.lt
    rw [List.nil_append] at hown2
    rcases hown2.2 with ⟨_, hz⟩ | ⟨g, c2, cur, rfl, hgb, _, hlc, hcm, _⟩
    · have : es.length = 0 := hz
      omega
    have d0 : w2.cell? ⟨g, p * 5 + 0, none⟩ = some (.string es[p].it.id) := hown2.val enC_len rfl p 0 _ hP rfl
    have d1 : w2.cell? ⟨g, p * 5 + 1, none⟩ = some (.string es[p].it.ti) := hown2.val enC_len rfl p 1 _ hP rfl
    have d2 : w2.cell? ⟨g, p * 5 + 2, none⟩ = some (.int .i64 es[p].it.da) := hown2.val enC_len rfl p 2 _ hP rfl
    have hfr := hown2.free rfl
    have f0 : w2.cell? ⟨w.heap.size, 0, none⟩ = some (.string I0) := hx2.cell 0 _ rfl
    have f1 : w2.cell? ⟨w.heap.size, 1, none⟩ = some (.string I1) := hx2.cell 1 _ rfl
    have f2 : w2.cell? ⟨w.heap.size, 2, none⟩ = some (.int .i64 I2) := hx2.cell 2 _ rfl
    have HO := Lib.hid hown2
    have HB2 := Lib.hid (hB1.trans (hb2.mono hB1.size))
    have hws : w.heap.size ≤ w1.heap.size := hB1.size
    unfold maxLen at hcm
    rw [Nat.add_zero] at d0
    have hgx : w.heap.size ≠ g := by have := hx1.lt; omega
    clear hown2 hg2 hb2 hB1 hx1 hx2 hba1 HRc2 HL0 HI HF)
  have e1 := HO.out.setF enC_len rfl p 0 ⟨⟨I0, es[p].it.ti, es[p].it.da⟩, es[p].rd, es[p].st⟩ (.string I0) hP (by decide) rfl
  have e2 := e1.setF enC_len (by simp) p 1 ⟨⟨I0, I1, es[p].it.da⟩, es[p].rd, es[p].st⟩ (.string I1) (by simp; omega) (by decide) (by rw [List.getElem_set_self]; rfl)
  have e3 := e2.setF enC_len (by simp) p 2 ⟨⟨I0, I1, I2⟩, es[p].rd, es[p].st⟩ (.int .i64 I2) (by simp; omega) (by decide) (by rw [List.getElem_set_self]; rfl)
  rw [List.set_set, List.set_set, HR.out] at e3
  rw [Nat.add_zero] at e3
  have hB3 := ((HB2.out.setCell (p := ⟨g, p * 5, none⟩) (by simp; omega) (.string I0)).setCell (p := ⟨g, p * 5 + 1, none⟩) (by simp; omega) (.string I1)).setCell (p := ⟨g, p * 5 + 2, none⟩) (by simp; omega) (.int .i64 I2)
  go_ret
  exact ⟨_, rfl, e3.base_mono hws, hB3⟩

set_option maxRecDepth 100000 in
set_option maxHeartbeats 1600000 in
theorem l9Put_new (v : Value) (es : List En) (it : It) (w : World) (h : EnAt w w.heap.size v es) (hr : risB (enKs es) = true) (hn : es.length ≤ 1000) (hf : fnB (enKs es) it.id = false) :
    Calls Try.prog 153 #[v, itV it.id it.ti it.da] w (OutB 47 5 enC (ft1 es it) w.heap.size w) := by
  have hpl := plK_le (enKs es) it.id
  rw [show (enKs es).length = es.length by simp [enKs]] at hpl
  have HF := Lib.hid (fun w h => l9Find_any v es it.id w h)
  rw [atK_not hr hf] at HF
  have HE := Lib.hid (ft1_new hf (p := plK (enKs es) it.id) rfl)
  have HLo : Hid (∀ t (ht : t < es.length), t < plK (enKs es) it.id → Op.bytesLess es[t].it.id.toList it.id.toList = true) := Lib.hid (fun t ht htp => by
    have h1 := plK_lo (enKs es) it.id t htp
    have htk : t < (enKs es).length := by simpa [enKs] using ht
    have h2 : ltK (enKs es)[t] it.id = true := by rw [ltK_cmp]; exact decide_eq_true h1
    simpa [enKs, ltK] using h2)
  have HHi : Hid (∀ (ht : plK (enKs es) it.id < es.length), Op.bytesLess es[plK (enKs es) it.id].it.id.toList it.id.toList = false) := Lib.hid (fun ht => by
    have htk : plK (enKs es) it.id < (enKs es).length := by simpa [enKs] using ht
    have h1 := plK_hi (ks := enKs es) (x := it.id) htk
    have h2 : ltK (enKs es)[plK (enKs es) it.id] it.id = false := by rw [ltK_cmp]; exact decide_eq_false h1
    simpa [enKs, ltK] using h2)
  rw [HE.out]
  generalize plK (enKs es) it.id = p at hpl HF HLo HHi ⊢
  have HI := Lib.hid h
  obtain ⟨a, cap, rfl, hl, hm, hc⟩ := h.raw
  unfold maxLen at hm
  clear hc h hr hf HE
  have hb0 : Below w.heap.size w (w.alloc (.cells #[.string it.id, .string it.ti, .int .i64 it.da] 45)) := (Below.refl _ _).alloc (Nat.le_refl _) _
  have hx0 := Box.new w #[.string it.id, .string it.ti, .int .i64 it.da] 45
  go_enter Try.func153, Try.ntmps153
  go_wp2_with fail
  refine (HF.out _ ((HI.out.below hb0).mono hb0.size)).mono ?_
  rintro e w1 ⟨rfl, hb1⟩
  have hB1 := hb0.trans (hb1.mono hb0.size)
  have hx1 := hx0.keep hb1 hx0.lt
  have HRc := Lib.hid (((HI.out.below hB1).mono hB1.size).1)
  have hba1 : Below w1.heap.size w1 (w1.alloc (.cells #[] 47)) := (Below.refl _ _).alloc (Nat.le_refl _) _
  have HRc2 := Lib.hid ((HRc.out.below hba1))
  have HL0 := Lib.hid (OwnR.lit (k := 5) (C := enC) 47 w1 w1.heap.size (Nat.le_refl _))
  clear hb0 hb1 hx0 HRc
  go_wp2_with (
    at_builtin
    refine wpList_appR enC_len (by decide) Try.underlying41 Try.infoEntry rfl (by decide) rfl (.tmp 12) (.tmp 13) rfl w1.heap.size w1.heap.size _ _ [] es rfl rfl HL0.out HRc2.out (fun y _ => enC_one y) (by simp; omega) (by simp) ?_
    intro v2 w2 hown2 hg2
    have hb2 : Below w1.heap.size w1 w2 := hba1.trans (gb_Below hg2 (by simp) (ownBlock_base HL0.out))
    have hx2 := hx1.keep hb2 hx1.lt
    have hB2 := hB1.trans (hb2.mono hB1.size)
    clear hown2 hg2 hb2 hB1 hx1 hba1 HRc2 HL0 HF)
  go_loopw [7] (fun i wr => ∃ k : Nat, k ≤ p ∧ i = .int .i64 (k : Int) ∧ Box wr w.heap.size #[.string it.id, .string it.ti, .int .i64 it.da] 45 ∧ Below w.heap.size w wr) (fun i _ => p - (intOf i).toNat)
  case atStart => exact ⟨0, Nat.zero_le _, rfl, hx2, hB2⟩
  case round =>
    obtain ⟨k, hk, rfl, hx, hB⟩ := hrel
    clear hx2 hB2
    have f0 := hx.cell 0 _ rfl
    have f1 := hx.cell 1 _ rfl
    have f2 := hx.cell 2 _ rfl
    have HBn : Hid (∀ n, Below w.heap.size w (wr.drewN n)) := Lib.hid (fun n => below_drewN hB n)
    have HXn : Hid (∀ n, Box (wr.drewN n) w.heap.size #[.string it.id, .string it.ti, .int .i64 it.da] 45) := Lib.hid (fun n => hx)
    by_cases hkp : k < p
    · have hlt : k < es.length := by omega
      obtain ⟨a', cap', hv, _, _, hc⟩ := (HI.out.below hB).raw
      cases hv
      obtain ⟨b, off, rfl, hb, hr⟩ := hc k hlt
      obtain ⟨c0, _, _, _, _, _, _⟩ := hr k hlt
      have hlo := HLo.out k hlt hkp
      have hkl : decide ((k : Int) < (es.length : Int)) = true := decide_eq_true (by omega)
      clear hr hc hB hx
      go_wp2
      go_quiet (fail)
      go_wp2
      go_roundw
      case rel => exact ⟨k + 1, by omega, by go_num, HXn.out _, HBn.out _⟩
      case measure => simp [intOf]; omega
    · obtain rfl : k = p := by omega
      by_cases hke : k < es.length
      · obtain ⟨a', cap', hv, _, _, hc⟩ := (HI.out.below hB).raw
        cases hv
        obtain ⟨b, off, rfl, hb, hr⟩ := hc k hke
        obtain ⟨c0, _, _, _, _, _, _⟩ := hr k hke
        have HLf := Lib.hid (HHi.out hke)
        have HKl : Hid (decide ((k : Int) < (es.length : Int)) = true) := Lib.hid (decide_eq_true (by omega))
        have hcp : ¬ cap = k := by omega
        clear hr hc f0 f1 f2 HBn HXn
        go_wp2
        refine wp_region_T (fun w' => (Box w' w.heap.size #[.string it.id, .string it.ti, .int .i64 it.da] 45) ∧ w'.cell? ⟨b, off + k * 5, none⟩ = some (.string es[k].it.id)) (fun _ => True) 14 (by kernel_rfl) 15 rfl ?_
        refine wpAnyT_takesA (md := .any) 1 (by kernel_rfl) (by intro d v c a w h; cases d <;> exact h) [0, 1, 2, 3, 4, 5, 6, 7, 8, 9, 10, 11, 12, 13] _ _ _ (by decide) (by kernel_rfl) ⟨⟨hx.drew, c0⟩, fun _ => trivial⟩ ?_
        simp only [pick, List.filterMap_cons, List.filterMap_nil, List.getElem?_cons_zero, List.getElem?_cons_succ]
        refine wpIf_step (.int .i64 (k : Int)) (by kernel_rfl) (fun w hw => by go_simp) ?_
        refine wpIf_step (.slice (some ⟨b, off, none⟩) es.length cap) (by kernel_rfl) (fun w hw => by go_simp) ?_
        refine wpIf_step (.int .i64 (es.length : Int)) (by kernel_rfl) (fun w hw => by go_simp) ?_
        refine wpIf_step (.bool true) (by kernel_rfl) (fun w hw => by have hkl := HKl.out; go_simp) ?_
        refine wpIf_step (.bool true) (by kernel_rfl) (fun w hw => by go_simp) ?_
        refine wpIf_step (.slice (some ⟨b, off, none⟩) es.length cap) (by kernel_rfl) (fun w hw => by go_simp) ?_
        refine wpIf_step (.int .i64 (k : Int)) (by kernel_rfl) (fun w hw => by go_simp) ?_
        refine wpIf_step (.pointer (some ⟨b, off + k * 5, none⟩)) (by kernel_rfl) (fun w hw => by go_simp) ?_
        refine wpIf_step (.pointer (some ⟨b, off + k * 5, none⟩)) (by kernel_rfl) (fun w hw => by go_simp) ?_
        refine wpIf_step (.pointer (some ⟨b, off + k * 5, none⟩)) (by kernel_rfl) (fun w hw => by go_simp) ?_
        refine wpIf_step (.string es[k].it.id) (by kernel_rfl) (fun w hw => by have e0 := hw.2; go_simp) ?_
        refine wpIf_step (.pointer (some ⟨w.heap.size, 0, none⟩)) (by kernel_rfl) (fun w hw => by go_simp) ?_
        refine wpIf_step (.string it.id) (by kernel_rfl) (fun w hw => by have e0 : w.cell? ⟨_, 0, none⟩ = some (.string it.id) := hw.1.cell 0 _ rfl; go_simp) ?_
        refine wpIf_step (.bool false) (by kernel_rfl) (fun w hw => by have hlo := HLf.out; go_simp) ?_
        refine wpIf_nil (fun hS => ?_)
        clear hS
        refine wpAnyT_one 14 0 (by kernel_rfl) rfl (by kernel_rfl) (fun K hK => ?_)
        go_simp
        refine hK _ _ ⟨⟨hx.drew, c0⟩, fun _ => trivial⟩ (fun hS => ?_)
        clear hK K hS
        refine wpAnyT_over (by kernel_rfl) ?_
        clear c0 HLf HKl
        have hWb : Below w.heap.size w wr.drew := hB.drew
        have HRw := Lib.hid (((HI.out.below hWb).mono hWb.size).1)
        have HXw := Lib.hid hx.drew
        have HWb := Lib.hid hWb
        clear hB hx hWb
        generalize wr.drew = W at HRw HXw HWb ⊢
        have hws : w.heap.size ≤ W.heap.size := HWb.out.size
        have HT0 : Hid (RecAt 5 enC (W.alloc (.cells #[] 47)) W.heap.size (.slice (some ⟨b, off, none⟩) k cap) (es.take k)) := Lib.hid ((HRw.out.take k hpl).below ((Below.refl _ _).alloc (Nat.le_refl _) _))
        have HL0 := Lib.hid (OwnR.lit (k := 5) (C := enC) 47 W w.heap.size hws)
        have HA0 := Lib.hid (HWb.out.alloc HWb.out.size (.cells #[] 47))
        have htl : (es.take k).length = k := by rw [List.length_take]; omega
        have hdl : (es.drop k).length = es.length - k := List.length_drop
        go_wp2_with (first
          | (at_builtin
             refine wpList_appR enC_len (by decide) Try.underlying41 Try.infoEntry rfl (by decide) rfl (.tmp 40) (.tmp 43) rfl w.heap.size W.heap.size _ _ [] (es.take k) rfl rfl HL0.out HT0.out (fun y _ => enC_one y) (by simp; omega) (by simp; omega) ?_
             intro v3 w3 hown3 hg3
             have hB3 := HA0.out.trans (gb_Below hg3 (by simp; omega) (ownBlock_base HL0.out))
             have hb3 : Below W.heap.size W w3 := ((Below.refl _ _).alloc (Nat.le_refl _) _).trans (gb_Below hg3 (by simp) (by intro b hb; cases hb; exact Nat.le_refl _))
             rw [List.nil_append] at hown3
             have HX3 := HXw.out.keep hb3 HXw.out.lt
             have f0 : w3.cell? ⟨w.heap.size, 0, none⟩ = some (.string it.id) := HX3.cell 0 _ rfl
             have f1 : w3.cell? ⟨w.heap.size, 1, none⟩ = some (.string it.ti) := HX3.cell 1 _ rfl
             have f2 : w3.cell? ⟨w.heap.size, 2, none⟩ = some (.int .i64 it.da) := HX3.cell 2 _ rfl
             have HO3 := Lib.hid (hown3.alloc (.cells #[.string it.id, .string it.ti, .int .i64 it.da, .bool false, .bool false] 47))
             have HN3 := Lib.hid (one_rec enC_len w3 47 ⟨it, false, false⟩ #[.string it.id, .string it.ti, .int .i64 it.da, .bool false, .bool false] rfl)
             have HB3 := Lib.hid (hB3.alloc hB3.size (.cells #[.string it.id, .string it.ti, .int .i64 it.da, .bool false, .bool false] 47))
             have hs3 : w.heap.size ≤ w3.heap.size := hB3.size
             have Hb3 := Lib.hid hb3
             have HOb := Lib.hid (ownBlock_base hown3)
             clear hown3 hg3 hB3 hb3 HX3)
          | (at_builtin
             refine wpList_appR enC_len (by decide) Try.underlying41 Try.infoEntry rfl (by decide) rfl (.tmp 45) (.tmp 48) rfl w.heap.size (w3.heap.size + 1) _ _ (es.take k) [⟨it, false, false⟩] rfl rfl HO3.out HN3.out (fun y _ => enC_one y) (by simp; omega) (by simp; omega) ?_
             intro v4 w4 hown4 hg4
             have HB4 := Lib.hid (HB3.out.trans (gb_Below hg4 (by simp; omega) HOb.out))
             have HO4 := Lib.hid hown4
             have hs4 : w.heap.size ≤ w4.heap.size := HB4.out.size
             have HR4 : Hid (RecAt 5 enC w4 w.heap.size (.slice (some ⟨b, off + k * 5, none⟩) (es.length - k) (cap - k)) (es.drop k)) := Lib.hid (by
               exact (HI.out.below HB4.out).1.drop k hpl (fun _ b2 off2 hab => by cases hab; rfl))
             have HOb4 := Lib.hid (ownBlock_base hown4)
             clear hown4 hg4)
          | (at_builtin
             refine wpList_appR enC_len (by decide) Try.underlying41 Try.infoEntry rfl (by decide) rfl (.tmp 50) (.tmp 53) rfl w.heap.size w.heap.size _ _ (es.take k ++ ([⟨it, false, false⟩] : List En)) (es.drop k) rfl rfl HO4.out HR4.out (fun y _ => enC_one y) (by simp; omega) hs4 ?_
             intro v5 w5 hown5 hg5
             have hB5 := HB4.out.trans (gb_Below hg5 hs4 HOb4.out)))
        go_ret
        exact ⟨_, rfl, hown5, hB5⟩
      · have hkl : decide ((k : Int) < (es.length : Int)) = false := decide_eq_false (by omega)
        clear f0 f1 f2 HBn HXn
        rcases Nat.eq_or_lt_of_le (show k ≤ cap by omega) with hcp | hcp
        · obtain rfl : cap = k := hcp.symm
          clear hcp
          go_wp2
          refine wp_region_T (fun w' => Box w' w.heap.size #[.string it.id, .string it.ti, .int .i64 it.da] 45) (fun _ => True) 14 (by kernel_rfl) 15 rfl ?_
          refine wpAnyT_takesA (md := .any) 1 (by kernel_rfl) (by intro d v c a w h; cases d <;> exact h) [0, 1, 2, 3, 4, 5, 6, 7, 8, 9, 10, 11, 12, 13] _ _ _ (by decide) (by kernel_rfl) ⟨hx.drew, fun _ => trivial⟩ ?_
          simp only [pick, List.filterMap_cons, List.filterMap_nil, List.getElem?_cons_zero, List.getElem?_cons_succ]
          refine wpIf_step (.int .i64 (cap : Int)) (by kernel_rfl) (fun w hw => by go_simp) ?_
          refine wpIf_step (.slice a es.length cap) (by kernel_rfl) (fun w hw => by go_simp) ?_
          refine wpIf_step (.int .i64 (es.length : Int)) (by kernel_rfl) (fun w hw => by go_simp) ?_
          refine wpIf_step (.bool false) (by kernel_rfl) (fun w hw => by go_simp) ?_
          refine wpIf_step (.bool false) (by kernel_rfl) (fun w hw => by go_simp) ?_
          refine wpIf_skip (by kernel_rfl) ?_
          refine wpIf_skip (by kernel_rfl) ?_
          refine wpIf_skip (by kernel_rfl) ?_
          refine wpIf_skip (by kernel_rfl) ?_
          refine wpIf_skip (by kernel_rfl) ?_
          refine wpIf_skip (by kernel_rfl) ?_
          refine wpIf_skip (by kernel_rfl) ?_
          refine wpIf_skip (by kernel_rfl) ?_
          refine wpIf_skip (by kernel_rfl) ?_
          refine wpIf_nil (fun hS => ?_)
          clear hS
          refine wpAnyT_one 14 0 (by kernel_rfl) rfl (by kernel_rfl) (fun K hK => ?_)
          go_simp
          refine hK _ _ ⟨hx.drew, fun _ => trivial⟩ (fun hS => ?_)
          clear hK K hS
          refine wpAnyT_over (by kernel_rfl) ?_
          have hWb : Below w.heap.size w wr.drew := hB.drew
          have HRw := Lib.hid (((HI.out.below hWb).mono hWb.size).1)
          have HXw := Lib.hid hx.drew
          have HWb := Lib.hid hWb
          clear hB hx hWb
          generalize wr.drew = W at HRw HXw HWb ⊢
          have hws : w.heap.size ≤ W.heap.size := HWb.out.size
          have HT0 : Hid (RecAt 5 enC (W.alloc (.cells #[] 47)) W.heap.size (.slice a cap cap) (es.take cap)) := Lib.hid ((HRw.out.take cap hpl).below ((Below.refl _ _).alloc (Nat.le_refl _) _))
          have HL0 := Lib.hid (OwnR.lit (k := 5) (C := enC) 47 W w.heap.size hws)
          have HA0 := Lib.hid (HWb.out.alloc HWb.out.size (.cells #[] 47))
          have htl : (es.take cap).length = cap := by rw [List.length_take]; omega
          have hdl : (es.drop cap).length = es.length - cap := List.length_drop
          go_wp2_with (first
            | (at_builtin
               refine wpList_appR enC_len (by decide) Try.underlying41 Try.infoEntry rfl (by decide) rfl (.tmp 40) (.tmp 43) rfl w.heap.size W.heap.size _ _ [] (es.take cap) rfl rfl HL0.out HT0.out (fun y _ => enC_one y) (by simp; omega) (by simp; omega) ?_
               intro v3 w3 hown3 hg3
               have hB3 := HA0.out.trans (gb_Below hg3 (by simp; omega) (ownBlock_base HL0.out))
               have hb3 : Below W.heap.size W w3 := ((Below.refl _ _).alloc (Nat.le_refl _) _).trans (gb_Below hg3 (by simp) (by intro b hb; cases hb; exact Nat.le_refl _))
               rw [List.nil_append] at hown3
               have HX3 := HXw.out.keep hb3 HXw.out.lt
               have f0 : w3.cell? ⟨w.heap.size, 0, none⟩ = some (.string it.id) := HX3.cell 0 _ rfl
               have f1 : w3.cell? ⟨w.heap.size, 1, none⟩ = some (.string it.ti) := HX3.cell 1 _ rfl
               have f2 : w3.cell? ⟨w.heap.size, 2, none⟩ = some (.int .i64 it.da) := HX3.cell 2 _ rfl
               have HO3 := Lib.hid (hown3.alloc (.cells #[.string it.id, .string it.ti, .int .i64 it.da, .bool false, .bool false] 47))
               have HN3 := Lib.hid (one_rec enC_len w3 47 ⟨it, false, false⟩ #[.string it.id, .string it.ti, .int .i64 it.da, .bool false, .bool false] rfl)
               have HB3 := Lib.hid (hB3.alloc hB3.size (.cells #[.string it.id, .string it.ti, .int .i64 it.da, .bool false, .bool false] 47))
               have hs3 : w.heap.size ≤ w3.heap.size := hB3.size
               have Hb3 := Lib.hid hb3
               have HOb := Lib.hid (ownBlock_base hown3)
               clear hown3 hg3 hB3 hb3 HX3)
            | (at_builtin
               refine wpList_appR enC_len (by decide) Try.underlying41 Try.infoEntry rfl (by decide) rfl (.tmp 45) (.tmp 48) rfl w.heap.size (w3.heap.size + 1) _ _ (es.take cap) [⟨it, false, false⟩] rfl rfl HO3.out HN3.out (fun y _ => enC_one y) (by simp; omega) (by simp; omega) ?_
               intro v4 w4 hown4 hg4
               have HB4 := Lib.hid (HB3.out.trans (gb_Below hg4 (by simp; omega) HOb.out))
               have HO4 := Lib.hid hown4
               have hs4 : w.heap.size ≤ w4.heap.size := HB4.out.size
               have HR4 : Hid (RecAt 5 enC w4 w.heap.size (.slice a 0 0) (es.drop cap)) := Lib.hid (by
                 exact drop_eq (((HI.out.below HB4.out).1.drop cap hpl (a2 := a) (fun hlt => by omega))) (by omega) (by omega))
               have HOb4 := Lib.hid (ownBlock_base hown4)
               clear hown4 hg4)
            | (at_builtin
               refine wpList_appR enC_len (by decide) Try.underlying41 Try.infoEntry rfl (by decide) rfl (.tmp 50) (.tmp 53) rfl w.heap.size w.heap.size _ _ (es.take cap ++ ([⟨it, false, false⟩] : List En)) (es.drop cap) rfl rfl HO4.out HR4.out (fun y _ => enC_one y) (by simp; omega) hs4 ?_
               intro v5 w5 hown5 hg5
               have hB5 := HB4.out.trans (gb_Below hg5 hs4 HOb4.out)))
          go_ret
          exact ⟨_, rfl, hown5, hB5⟩
        · have hcq : ¬ cap = k := by omega
          go_wp2
          refine wp_region_T (fun w' => Box w' w.heap.size #[.string it.id, .string it.ti, .int .i64 it.da] 45) (fun _ => True) 14 (by kernel_rfl) 15 rfl ?_
          refine wpAnyT_takesA (md := .any) 1 (by kernel_rfl) (by intro d v c a w h; cases d <;> exact h) [0, 1, 2, 3, 4, 5, 6, 7, 8, 9, 10, 11, 12, 13] _ _ _ (by decide) (by kernel_rfl) ⟨hx.drew, fun _ => trivial⟩ ?_
          simp only [pick, List.filterMap_cons, List.filterMap_nil, List.getElem?_cons_zero, List.getElem?_cons_succ]
          refine wpIf_step (.int .i64 (k : Int)) (by kernel_rfl) (fun w hw => by go_simp) ?_
          refine wpIf_step (.slice a es.length cap) (by kernel_rfl) (fun w hw => by go_simp) ?_
          refine wpIf_step (.int .i64 (es.length : Int)) (by kernel_rfl) (fun w hw => by go_simp) ?_
          refine wpIf_step (.bool false) (by kernel_rfl) (fun w hw => by go_simp) ?_
          refine wpIf_step (.bool false) (by kernel_rfl) (fun w hw => by go_simp) ?_
          refine wpIf_skip (by kernel_rfl) ?_
          refine wpIf_skip (by kernel_rfl) ?_
          refine wpIf_skip (by kernel_rfl) ?_
          refine wpIf_skip (by kernel_rfl) ?_
          refine wpIf_skip (by kernel_rfl) ?_
          refine wpIf_skip (by kernel_rfl) ?_
          refine wpIf_skip (by kernel_rfl) ?_
          refine wpIf_skip (by kernel_rfl) ?_
          refine wpIf_skip (by kernel_rfl) ?_
          refine wpIf_nil (fun hS => ?_)
          clear hS
          refine wpAnyT_one 14 0 (by kernel_rfl) rfl (by kernel_rfl) (fun K hK => ?_)
          go_simp
          refine hK _ _ ⟨hx.drew, fun _ => trivial⟩ (fun hS => ?_)
          clear hK K hS
          refine wpAnyT_over (by kernel_rfl) ?_
          have hWb : Below w.heap.size w wr.drew := hB.drew
          have HRw := Lib.hid (((HI.out.below hWb).mono hWb.size).1)
          have HXw := Lib.hid hx.drew
          have HWb := Lib.hid hWb
          clear hB hx hWb
          generalize wr.drew = W at HRw HXw HWb ⊢
          have hws : w.heap.size ≤ W.heap.size := HWb.out.size
          have HT0 : Hid (RecAt 5 enC (W.alloc (.cells #[] 47)) W.heap.size (.slice a k cap) (es.take k)) := Lib.hid ((HRw.out.take k hpl).below ((Below.refl _ _).alloc (Nat.le_refl _) _))
          have HL0 := Lib.hid (OwnR.lit (k := 5) (C := enC) 47 W w.heap.size hws)
          have HA0 := Lib.hid (HWb.out.alloc HWb.out.size (.cells #[] 47))
          have htl : (es.take k).length = k := by rw [List.length_take]; omega
          have hdl : (es.drop k).length = es.length - k := List.length_drop
          go_wp2_with (first
            | (at_builtin
               refine wpList_appR enC_len (by decide) Try.underlying41 Try.infoEntry rfl (by decide) rfl (.tmp 40) (.tmp 43) rfl w.heap.size W.heap.size _ _ [] (es.take k) rfl rfl HL0.out HT0.out (fun y _ => enC_one y) (by simp; omega) (by simp; omega) ?_
               intro v3 w3 hown3 hg3
               have hB3 := HA0.out.trans (gb_Below hg3 (by simp; omega) (ownBlock_base HL0.out))
               have hb3 : Below W.heap.size W w3 := ((Below.refl _ _).alloc (Nat.le_refl _) _).trans (gb_Below hg3 (by simp) (by intro b hb; cases hb; exact Nat.le_refl _))
               rw [List.nil_append] at hown3
               have HX3 := HXw.out.keep hb3 HXw.out.lt
               have f0 : w3.cell? ⟨w.heap.size, 0, none⟩ = some (.string it.id) := HX3.cell 0 _ rfl
               have f1 : w3.cell? ⟨w.heap.size, 1, none⟩ = some (.string it.ti) := HX3.cell 1 _ rfl
               have f2 : w3.cell? ⟨w.heap.size, 2, none⟩ = some (.int .i64 it.da) := HX3.cell 2 _ rfl
               have HO3 := Lib.hid (hown3.alloc (.cells #[.string it.id, .string it.ti, .int .i64 it.da, .bool false, .bool false] 47))
               have HN3 := Lib.hid (one_rec enC_len w3 47 ⟨it, false, false⟩ #[.string it.id, .string it.ti, .int .i64 it.da, .bool false, .bool false] rfl)
               have HB3 := Lib.hid (hB3.alloc hB3.size (.cells #[.string it.id, .string it.ti, .int .i64 it.da, .bool false, .bool false] 47))
               have hs3 : w.heap.size ≤ w3.heap.size := hB3.size
               have Hb3 := Lib.hid hb3
               have HOb := Lib.hid (ownBlock_base hown3)
               clear hown3 hg3 hB3 hb3 HX3)
            | (at_builtin
               refine wpList_appR enC_len (by decide) Try.underlying41 Try.infoEntry rfl (by decide) rfl (.tmp 45) (.tmp 48) rfl w.heap.size (w3.heap.size + 1) _ _ (es.take k) [⟨it, false, false⟩] rfl rfl HO3.out HN3.out (fun y _ => enC_one y) (by simp; omega) (by simp; omega) ?_
               intro v4 w4 hown4 hg4
               have HB4 := Lib.hid (HB3.out.trans (gb_Below hg4 (by simp; omega) HOb.out))
               have HO4 := Lib.hid hown4
               have hs4 : w.heap.size ≤ w4.heap.size := HB4.out.size
               have HR4 : Hid (RecAt 5 enC w4 w.heap.size (.slice (Option.map (fun x => x.add (k * 5)) a) (es.length - k) (cap - k)) (es.drop k)) := Lib.hid (by
                 exact (HI.out.below HB4.out).1.drop k hpl (fun _ b off hab => by rw [hab]; simp [Addr.add_lit]))
               have HOb4 := Lib.hid (ownBlock_base hown4)
               clear hown4 hg4)
            | (at_builtin
               refine wpList_appR enC_len (by decide) Try.underlying41 Try.infoEntry rfl (by decide) rfl (.tmp 50) (.tmp 53) rfl w.heap.size w.heap.size _ _ (es.take k ++ ([⟨it, false, false⟩] : List En)) (es.drop k) rfl rfl HO4.out HR4.out (fun y _ => enC_one y) (by simp; omega) hs4 ?_
               intro v5 w5 hown5 hg5
               have hB5 := HB4.out.trans (gb_Below hg5 hs4 HOb4.out)))
          go_ret
          exact ⟨_, rfl, hown5, hB5⟩
end Go.Proofs.Ytffkakpbelknaaa

/- W9zw -/
namespace Go.Proofs.Ytffkakpbelknaaa
open Go.ChangeShapes Go.WideShapes Go.ChangeAt Go.RowKit
set_option linter.unusedVariables false

/-- Rows of other types lie in other blocks. -/
theorem own_apart {α β : Type} {k k' : Nat} {C : α → List Value} {D : β → List Value} {e e' : TypeId} {w : World} {B B' : Nat} {v v' : Value} {l : List α} {l' : List β} (he : e ≠ e') (h : OwnR e k C w B v l) (h' : OwnR e' k' D w B' v' l') : v.ownBlock = none ∨ v.ownBlock ≠ v'.ownBlock := by
  rcases h.2 with ⟨rfl, _⟩ | ⟨g, cap, cur, rfl, _, hg, _⟩
  · exact .inl rfl
  · right
    rcases h'.2 with ⟨rfl, _⟩ | ⟨g', cap', cur', rfl, _, hg', _⟩
    · intro h2; cases h2
    · intro h2
      have : g = g' := by simpa [Value.ownBlock] using h2
      subst this
      rw [hg] at hg'
      have h3 := Option.some.inj hg'
      injection h3 with _ h4
      exact he h4
/-- One more feed, with a list of its own, behind the others. -/
theorem OwnD.snoc {w w' : World} {B : Nat} {v v' y : Value} {qs : List (Sb × Value)} {s : Sb} (h : OwnD w B v qs) (hy : OwnR 47 5 enC w B y s.es) (hyn : ∀ p ∈ qs, p.2.ownBlock = none ∨ p.2.ownBlock ≠ y.ownBlock) (hg : w.grownBy w' v.ownBlock) (ho : OwnR 43 3 sbC w' B v' (qs ++ [(s, y)])) : OwnD w' B v' (qs ++ [(s, y)]) := by
  have hk : ∀ z l, OwnR 47 5 enC w B z l → OwnR 47 5 enC w' B z l := fun z l hz => by
    refine World.ownsRow.kept hz hg ?_
    exact own_apart (by decide) hz h.1
  have hall : ∀ p ∈ qs ++ [(s, y)], OwnR 47 5 enC w' B p.2 p.1.es := fun p hp => by
    rcases List.mem_append.1 hp with h1 | h1
    · exact hk _ _ (h.2.1 p h1)
    · obtain rfl : p = (s, y) := by simpa using h1
      exact hk _ _ hy
  refine ⟨ho, hall, ?_⟩
  unfold ApartD
  rw [List.pairwise_cons]
  refine ⟨fun c hc => ?_, ?_⟩
  · obtain ⟨p, hp, rfl⟩ := List.mem_map.1 hc
    exact own_apart (by decide) ho (hall p hp)
  · rw [List.map_append, List.pairwise_append]
    refine ⟨(List.pairwise_cons.1 h.2.2).2, by simp, fun a ha b hb => ?_⟩
    obtain ⟨p, hp, rfl⟩ := List.mem_map.1 ha
    obtain rfl : b = y.ownBlock := by simpa using hb
    exact hyn p hp

/-- What l9Copy leaves. -/
def OutCp (ss : List Sb) (w : World) (e : Ending) (w' : World) : Prop := ∃ v qs, e = .returned (.agg #[v]) ∧ qs.map Prod.fst = ss ∧ OwnD w' w.heap.size v qs ∧ Below w.heap.size w w'

set_option maxRecDepth 100000 in
set_option maxHeartbeats 3000000 in
theorem l9Copy_any (v : Value) (ss : List Sb) (w : World) (h : SbAt w w.heap.size v ss) (hn : ss.length ≤ 1000) (hns : ∀ s ∈ ss, s.es.length ≤ 1000) :
    Calls Try.prog 109 #[.agg #[v]] w (OutCp ss w) := by
  have HI := Lib.hid h
  have HNS := Lib.hid hns
  obtain ⟨a, cap, rfl, hl, hm, hc⟩ := h.raw
  unfold maxLen at hm
  clear hc h hns
  have hb0 : Below w.heap.size w (((w.alloc (.cells #[.slice a ss.length cap] 26)).alloc (.cells #[.slice none 0 0] 26)).alloc (.cells #[.slice none 0 0] 26)) := (((Below.refl _ _).alloc (Nat.le_refl _) _).alloc (by simp) _).alloc (by simp; omega) _
  have hR0 := ((Box.new w #[.slice a ss.length cap] 26).alloc (.cells #[.slice none 0 0] 26)).alloc (.cells #[.slice none 0 0] 26)
  have hZ0 : Box (((w.alloc (.cells #[.slice a ss.length cap] 26)).alloc (.cells #[.slice none 0 0] 26)).alloc (.cells #[.slice none 0 0] 26)) (w.heap.size + 1) #[.slice none 0 0] 26 := by
    have := (Box.new (w.alloc (.cells #[.slice a ss.length cap] 26)) #[.slice none 0 0] 26).alloc (.cells #[.slice none 0 0] 26)
    simpa using this
  have hO0 : Box (((w.alloc (.cells #[.slice a ss.length cap] 26)).alloc (.cells #[.slice none 0 0] 26)).alloc (.cells #[.slice none 0 0] 26)) (w.heap.size + 1 + 1) #[.slice none 0 0] 26 := by
    have := Box.new ((w.alloc (.cells #[.slice a ss.length cap] 26)).alloc (.cells #[.slice none 0 0] 26)) #[.slice none 0 0] 26
    simpa using this
  have hs0 : (((w.alloc (.cells #[.slice a ss.length cap] 26)).alloc (.cells #[.slice none 0 0] 26)).alloc (.cells #[.slice none 0 0] 26)).heap.size = w.heap.size + 3 := by simp
  have HD0 : Hid (OwnD (((w.alloc (.cells #[.slice a ss.length cap] 26)).alloc (.cells #[.slice none 0 0] 26)).alloc (.cells #[.slice none 0 0] 26)) (w.heap.size + 3) (.slice none 0 0) []) := Lib.hid ⟨OwnR.nil _ _ _, (fun p hp => by cases hp), by unfold ApartD; simp⟩
  go_enter Try.func109, Try.ntmps109
  go_wp2
  generalize (((w.alloc (.cells #[.slice a ss.length cap] 26)).alloc (.cells #[.slice none 0 0] 26)).alloc (.cells #[.slice none 0 0] 26)) = W0 at hb0 hR0 hZ0 hO0 hs0 HD0 ⊢
  go_loopw [4] (fun i wr => ∃ (k : Nat) (ov : Value) (qs : List (Sb × Value)), k ≤ ss.length ∧ i = .int .i64 (k : Int) ∧ Hid (qs.map Prod.fst = ss.take k) ∧ Box wr w.heap.size #[.slice a ss.length cap] 26 ∧ Box wr (w.heap.size + 1) #[.slice none 0 0] 26 ∧ Box wr (w.heap.size + 1 + 1) #[ov] 26 ∧ Hid (OwnD wr (w.heap.size + 3) ov qs) ∧ Below w.heap.size w wr ∧ w.heap.size + 3 ≤ wr.heap.size) (fun i _ => ss.length - (intOf i).toNat)
  case atStart => exact ⟨0, _, [], Nat.zero_le _, rfl, Lib.hid rfl, hR0, hZ0, hO0, HD0, hb0, by omega⟩
  case round =>
    obtain ⟨k, ov, qs, hk, rfl, HQ, hR, hZ, hO, HD, hB, hsr⟩ := hrel
    clear hb0 hR0 hZ0 hO0 hs0 HD0
    have f0 : wr.cell? ⟨w.heap.size, 0, none⟩ = some (.slice a ss.length cap) := hR.cell 0 _ rfl
    obtain ⟨oa, oc, rfl⟩ := HD.out.1.slice
    by_cases hlt : k < ss.length
    · obtain ⟨a', cap', hv, _, _, hc⟩ := (HI.out.below hB).raw
      cases hv
      obtain ⟨b, off, rfl, hb, hr⟩ := hc k hlt
      obtain ⟨y, c0, c1, c2, hy, s0, s1⟩ := hr k hlt
      have hes := HNS.out _ (List.getElem_mem hlt)
      have HQn : Hid (∀ z, (qs ++ [(ss[k], z)]).map Prod.fst = ss.take (k + 1)) := Lib.hid (fun z => by rw [List.map_append, HQ.out, List.take_succ_eq_append_getElem hlt]; rfl)
      obtain ⟨ya, yc, rfl⟩ := hy.1.slice
      obtain ⟨P, hP⟩ : ∃ P, P = ss[k] := ⟨_, rfl⟩
      rw [← hP] at c0 c1 c2 hy hes HQn
      have HQl : Hid (qs.length = k) := Lib.hid (by have := congrArg List.length HQ.out; simpa [hk] using this)
      have HY : Hid (RecAt 5 enC ((wr.alloc (.cells #[.string P.u, .string P.t, .slice ya P.es.length yc] 43)).alloc (.cells #[] 47)) wr.heap.size (.slice ya P.es.length yc) P.es) := Lib.hid (((hy.mono hB.size).1).below (((Below.refl _ _).alloc (Nat.le_refl _) _).alloc (by simp) _))
      have hw1 : (wr.alloc (.cells #[.string P.u, .string P.t, .slice ya P.es.length yc] 43)).heap.size = wr.heap.size + 1 := by simp
      have HL0 : Hid (OwnR 47 5 enC ((wr.alloc (.cells #[.string P.u, .string P.t, .slice ya P.es.length yc] 43)).alloc (.cells #[] 47)) (wr.heap.size + 1) (.slice (some ⟨wr.heap.size + 1, 0, none⟩) 0 0) []) := Lib.hid (by
        have := OwnR.lit (k := 5) (C := enC) 47 (wr.alloc (.cells #[.string P.u, .string P.t, .slice ya P.es.length yc] 43)) (wr.heap.size + 1) (by rw [hw1]; exact Nat.le_refl _)
        rw [hw1] at this
        exact this)
      have hS0 := (Box.new wr #[.string P.u, .string P.t, .slice ya P.es.length yc] 43).alloc (.cells #[] 47)
      have hba : Below wr.heap.size wr ((wr.alloc (.cells #[.string P.u, .string P.t, .slice ya P.es.length yc] 43)).alloc (.cells #[] 47)) := ((Below.refl _ _).alloc (Nat.le_refl _) _).alloc (by simp) _
      have hsb : ((wr.alloc (.cells #[.string P.u, .string P.t, .slice ya P.es.length yc] 43)).alloc (.cells #[] 47)).heap.size = wr.heap.size + 2 := by simp
      clear hr hc hP s0 s1 hy hw1
      go_wp2_with (first
        | (at_builtin
           refine wpList_appR enC_len (by decide) Try.underlying41 Try.infoEntry rfl (by decide) rfl (.tmp 19) (.tmp 21) rfl (wr.heap.size + 1) wr.heap.size _ _ [] P.es rfl rfl HL0.out HY.out (fun y _ => enC_one y) (by simp; omega) (by simp) ?_
           intro y2 w2 hown2 hg2
           rw [List.nil_append] at hown2
           obtain ⟨ya2, yc2, rfl⟩ := hown2.slice
           have hbg : Below (wr.heap.size + 1) ((wr.alloc (.cells #[.string P.u, .string P.t, .slice ya P.es.length yc] 43)).alloc (.cells #[] 47)) w2 := gb_Below hg2 (by omega) (ownBlock_base HL0.out)
           have hb2 : Below wr.heap.size wr w2 := hba.trans (hbg.mono (by omega))
           have hS2 := hS0.keep hbg (by omega)
           have t0 : w2.cell? ⟨wr.heap.size, 2, none⟩ = some (.slice ya P.es.length yc) := hS2.cell 2 _ rfl
           have tf := hS2.free
           have hS3 := hS2.set 2 (.slice ya2 P.es.length yc2)
           have hb3 : Below wr.heap.size wr (w2.setCell ⟨wr.heap.size, 2, none⟩ (.slice ya2 P.es.length yc2)) := hb2.setCell (p := ⟨wr.heap.size, 2, none⟩) (Nat.le_refl _) _
           have u0 : (w2.setCell ⟨wr.heap.size, 2, none⟩ (.slice ya2 P.es.length yc2)).cell? ⟨wr.heap.size, 0, none⟩ = some (.string P.u) := hS3.cell 0 _ rfl
           have u1 : (w2.setCell ⟨wr.heap.size, 2, none⟩ (.slice ya2 P.es.length yc2)).cell? ⟨wr.heap.size, 1, none⟩ = some (.string P.t) := hS3.cell 1 _ rfl
           have u2 : (w2.setCell ⟨wr.heap.size, 2, none⟩ (.slice ya2 P.es.length yc2)).cell? ⟨wr.heap.size, 2, none⟩ = some (.slice ya2 P.es.length yc2) := hS3.cell 2 _ rfl
           have hO3 := hO.keep hb3 (by omega)
           have o0 : (w2.setCell ⟨wr.heap.size, 2, none⟩ (.slice ya2 P.es.length yc2)).cell? ⟨w.heap.size + 1 + 1, 0, none⟩ = some (.slice oa qs.length oc) := hO3.cell 0 _ rfl
           have HD3 := Lib.hid (HD.out.keep hb3 (Nat.le_refl _))
           have HY3 : Hid (OwnR 47 5 enC (w2.setCell ⟨wr.heap.size, 2, none⟩ (.slice ya2 P.es.length yc2)) (wr.heap.size + 1) (.slice ya2 P.es.length yc2) P.es) := Lib.hid (hown2.other ⟨wr.heap.size, 2, none⟩ _ (by simp))
           have HR3 := Lib.hid (hR.keep hb3 (by omega))
           have HZ3 := Lib.hid (hZ.keep hb3 (by omega))
           have HO3 := Lib.hid hO3
           have HB3 := Lib.hid (hB.trans (hb3.mono hB.size))
           have hs3 : wr.heap.size ≤ (w2.setCell ⟨wr.heap.size, 2, none⟩ (.slice ya2 P.es.length yc2)).heap.size := hb3.size
           have hXs : (w2.setCell ⟨wr.heap.size, 2, none⟩ (.slice ya2 P.es.length yc2)).heap.size = w2.heap.size := by simp [World.setCell]
           have HXs := Lib.hid hXs
           have HN5 : Hid (RecAt 3 sbC ((w2.setCell ⟨wr.heap.size, 2, none⟩ (.slice ya2 P.es.length yc2)).alloc (.cells #[.string P.u, .string P.t, .slice ya2 P.es.length yc2] 43)) (w2.heap.size + 1) (.slice (some ⟨w2.heap.size, 0, none⟩) 1 1) [(P, Value.slice ya2 P.es.length yc2)]) := Lib.hid (by
             have h := one_rec sbC_len (w2.setCell ⟨wr.heap.size, 2, none⟩ (.slice ya2 P.es.length yc2)) 43 (P, Value.slice ya2 P.es.length yc2) #[.string P.u, .string P.t, .slice ya2 P.es.length yc2] rfl
             rw [hXs] at h
             exact h)
           have hs4 : wr.heap.size ≤ w2.heap.size := by rw [← hXs]; exact hs3
           clear hXs hs3
           clear hown2 hg2 hbg hb2 hS2 hS3 hb3 hO3 HY HL0 hS0 hba hsb hR hZ hO hB)
        | (at_builtin
           refine wpList_appR sbC_len (by decide) Try.underlying24 Try.infoSub rfl (by decide) rfl (.tmp 25) (.tmp 27) rfl (w.heap.size + 3) (w2.heap.size + 1) _ _ qs [(P, .slice ya2 P.es.length yc2)] rfl rfl (HD3.out.1.alloc (.cells #[.string P.u, .string P.t, .slice ya2 P.es.length yc2] 43)) HN5.out (fun y hy => by
             obtain rfl : y = (P, .slice ya2 P.es.length yc2) := by simpa using hy
             exact sbC_one _ rfl) (by have := HQl.out; simp; omega) (by have := HXs.out; simp only [World.size_alloc]; omega) ?_
           intro v5 w5 hown5 hg5
           have hXs := HXs.out
           have hal : Below (w2.setCell ⟨wr.heap.size, 2, none⟩ (.slice ya2 P.es.length yc2)).heap.size (w2.setCell ⟨wr.heap.size, 2, none⟩ (.slice ya2 P.es.length yc2)) ((w2.setCell ⟨wr.heap.size, 2, none⟩ (.slice ya2 P.es.length yc2)).alloc (.cells #[.string P.u, .string P.t, .slice ya2 P.es.length yc2] 43)) := (Below.refl _ _).alloc (Nat.le_refl _) _
           have HD4 := HD3.out.keep hal (Nat.le_refl _)
           have HY4 := HY3.out.alloc (.cells #[.string P.u, .string P.t, .slice ya2 P.es.length yc2] 43)
           have hbg5 : Below (w.heap.size + 3) ((w2.setCell ⟨wr.heap.size, 2, none⟩ (.slice ya2 P.es.length yc2)).alloc (.cells #[.string P.u, .string P.t, .slice ya2 P.es.length yc2] 43)) w5 := gb_Below hg5 (by simp only [World.size_alloc]; omega) (ownBlock_base HD4.1)
           have hb5 : Below (w.heap.size + 3) (w2.setCell ⟨wr.heap.size, 2, none⟩ (.slice ya2 P.es.length yc2)) w5 := (hal.mono (by omega)).trans hbg5
           have HD5 := HD4.snoc (HY4.base_mono (by omega)) (fun p hp => by
             rcases (HD.out.2.1 p hp).blk with h1 | ⟨g, h1, _, h2⟩
             · exact .inl h1
             · right
               rw [h1]
               rcases HY4.blk with h3 | ⟨g2, h3, h4, _⟩
               · rw [h3]; intro h5; cases h5
               · rw [h3]; intro h5; cases h5; omega) hg5 hown5
           have hO5 := HO3.out.keep hb5 (by omega)
           have hR5 := HR3.out.keep hb5 (by omega)
           have hZ5 := HZ3.out.keep hb5 (by omega)
           have hB5 := HB3.out.trans (hb5.mono (by omega))
           obtain ⟨va5, vc5, hv5⟩ := hown5.slice
           obtain ⟨n5, hn5⟩ : ∃ n, (qs ++ [(P, Value.slice ya2 P.es.length yc2)]).length = n := ⟨_, rfl⟩
           rw [hn5] at hv5
           subst hv5
           have z0 : w5.cell? ⟨w.heap.size + 1 + 1, 0, none⟩ = some (.slice oa qs.length oc) := hO5.cell 0 _ rfl
           have zf := hO5.free
           have HE1 := Lib.hid (hR5.other ⟨w.heap.size + 1 + 1, 0, none⟩ (.slice va5 n5 vc5) (show w.heap.size ≠ w.heap.size + 1 + 1 by omega))
           have HE2 := Lib.hid (hZ5.other ⟨w.heap.size + 1 + 1, 0, none⟩ (.slice va5 n5 vc5) (show w.heap.size + 1 ≠ w.heap.size + 1 + 1 by omega))
           have HE3 := Lib.hid (hO5.set 0 (.slice va5 n5 vc5))
           have HE4 := Lib.hid (HD5.aside ⟨w.heap.size + 1 + 1, 0, none⟩ (.slice va5 n5 vc5) (show w.heap.size + 1 + 1 < w.heap.size + 3 by omega))
           have HE5 := Lib.hid (hB5.setCell (p := ⟨w.heap.size + 1 + 1, 0, none⟩) (show w.heap.size ≤ w.heap.size + 1 + 1 by omega) (.slice va5 n5 vc5))
           have hE6 : w.heap.size + 3 ≤ w5.heap.size := by have := hb5.size; omega
           clear hown5 hg5 hal HD4 HY4 hbg5 hb5 HD5 hO5 hR5 hZ5 hB5 hn5 HD3 HY3 HR3 HZ3 HO3 HB3 u0 u1 u2 o0 t0 tf hs4 hXs HXs HN5))
      refine ⟨⟨k + 1, _, qs ++ [(P, Value.slice ya2 P.es.length yc2)], by omega, by simp, Lib.hid (HQn.out _), HE1.out, HE2.out, HE3.out, HE4, HE5.out, by simpa [World.setCell] using hE6⟩, ?_⟩
      simp [intOf]; omega
    · have HZe : Hid (qs.map Prod.fst = ss) := Lib.hid (by have h1 := HQ.out; rw [List.take_of_length_le (by omega)] at h1; exact h1)
      have o0 : wr.cell? ⟨w.heap.size + 1 + 1, 0, none⟩ = some (.slice oa qs.length oc) := hO.cell 0 _ rfl
      have z0 : wr.cell? ⟨w.heap.size + 1, 0, none⟩ = some (.slice none 0 0) := hZ.cell 0 _ rfl
      have zf := hZ.free
      go_wp2
      have hZe := hZ.set 0 (.slice oa qs.length oc)
      have hBe := hB.setCell (p := ⟨w.heap.size + 1, 0, none⟩) (by simp) (.slice oa qs.length oc)
      have hDe := (HD.out.aside ⟨w.heap.size + 1, 0, none⟩ (.slice oa qs.length oc) (by simp)).lower (show w.heap.size ≤ w.heap.size + 3 by omega)
      generalize wr.setCell ⟨w.heap.size + 1, 0, none⟩ (.slice oa qs.length oc) = We at hZe hBe hDe ⊢
      have p0 : We.cell? ⟨w.heap.size + 1, 0, none⟩ = some (.slice oa qs.length oc) := hZe.cell 0 _ rfl
      exact bodyPost_ret (v := .agg #[.slice oa qs.length oc]) (by simp [results, Try.results109, go_sem, p0]) rfl ⟨_, qs, rfl, HZe.out, hDe, hBe⟩
end Go.Proofs.Ytffkakpbelknaaa

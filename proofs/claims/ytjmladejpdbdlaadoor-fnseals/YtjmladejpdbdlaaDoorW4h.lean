/- Contract: Unpadded of the program. -/
import Derived.Test.YtjmladejpdbdlaaDoorW4e
import Derived.RangeFuncNested
namespace Go.Proofs.YtjmladejpdbdlaaDoor
open Go.ChangeShapes Go.WideShapes Go.ChangeAt Go.RowKit
set_option linter.unusedVariables false

theorem clone_any (s : ByteArray) (w : World) (hs : s.size ≤ 1000000000) : Calls Tryd.prog 79 #[.string s] w fun e w' => e = .returned (.string s) ∧ Below w.heap.size w w' := by
  have H := Lib.hid (fun w => Tryd.stringslite_Clone s w (by omega))
  go_enter Tryd.func79, Tryd.ntmps79
  go_wp2_with fail
  refine (H.out _).mono ?_
  rintro e w1 ⟨rfl, hb1⟩
  go_wp2
  go_ret
  exact ⟨rfl, hb1⟩

/-- The three boxes of a reader that gives up: the text, the flag, the reader. -/
structure Ubox (w W : World) (s : ByteArray) : Prop where
  b0 : Boxed W w.heap.size 9 (.string ⟨#[]⟩)
  b1 : Boxed W (w.heap.size + 1) 4 (.bool false)
  b2 : Boxed W (w.heap.size + 1 + 1) 69 (.string s)
  bel : Below w.heap.size w W
theorem Ubox.set {w W : World} {s : ByteArray} (h : Ubox w W s) (s' : ByteArray) : Ubox w (W.setCell ⟨w.heap.size + 1 + 1, 0, none⟩ (.string s')) s' :=
  ⟨h.b0.other (by omega) _, h.b1.other (by omega) _, h.b2.set _, h.bel.setCell (p := ⟨w.heap.size + 1 + 1, 0, none⟩) (by show w.heap.size ≤ w.heap.size + 1 + 1; omega) _⟩
theorem Ubox.keep {w W W' : World} {s : ByteArray} (h : Ubox w W s) (hb : Below W.heap.size W W') : Ubox w W' s := by
  have h0 := h.b0.lt; have h1 := h.b1.lt; have h2 := h.b2.lt
  exact ⟨(hb.block _ h0).trans h.b0, (hb.block _ h1).trans h.b1, (hb.block _ h2).trans h.b2, h.bel.trans (hb.mono h.bel.size)⟩
theorem Ubox.gives {w W : World} {s : ByteArray} {t : TypeId} {x : Value} (h : Ubox w W s) (hv : Gives w t x) : Gives W t x := hv.below h.bel (Nat.le_refl _)
theorem Ubox.new (w : World) (s : ByteArray) : Ubox w (((w.alloc (.cells #[.string ⟨#[]⟩] 9)).alloc (.cells #[.bool false] 4)).alloc (.cells #[.string s] 69)) s := by
  have h0 := Boxed.new w 9 (.string ⟨#[]⟩)
  have h1 := Boxed.new (w.alloc (.cells #[.string ⟨#[]⟩] 9)) 4 (.bool false)
  have h2 := Boxed.new ((w.alloc (.cells #[.string ⟨#[]⟩] 9)).alloc (.cells #[.bool false] 4)) 69 (.string s)
  rw [World.size_alloc] at h1
  rw [World.size_alloc, World.size_alloc] at h2
  exact ⟨(h0.alloc _).alloc _, h1.alloc _, h2, (((Below.refl _ _).alloc (Nat.le_refl _) _).alloc (by simp) _).alloc (by simp; omega) _⟩
theorem Ubox.gone {w W : World} {s : ByteArray} (h : Ubox w W s) : Ubox w ((W.setCell ⟨w.heap.size, 0, none⟩ (.string ⟨#[]⟩)).setCell ⟨w.heap.size + 1, 0, none⟩ (.bool false)) s :=
  ⟨(h.b0.set _).other (by omega) _, (h.b1.other (by omega) _).set _, (h.b2.other (by omega) _).other (by omega) _, (h.bel.setCell (p := ⟨w.heap.size, 0, none⟩) (Nat.le_refl _) _).setCell (p := ⟨w.heap.size + 1, 0, none⟩) (by show w.heap.size ≤ w.heap.size + 1; omega) _⟩
theorem extract_one (s : ByteArray) (m : Nat) (h : m < s.size) : s.extract m (m + 1) = ⟨#[s[m]]⟩ := by
  apply ba_eq
  have : (s.extract m (m + 1)).size = 1 := by rw [ByteArray.size_extract]; omega
  rw [ByteArray.data_extract]
  rw [Array.toList_extract]
  simp only [List.extract]
  rw [show m + 1 - m = 1 by omega]
  have hl : m < s.data.toList.length := by simpa using h
  rw [List.drop_eq_getElem_cons hl]
  rfl

set_option maxRecDepth 100000 in
set_option maxHeartbeats 4000000 in
theorem implUnpadded_any (s : ByteArray) (w : World) (t : TypeId) (x : Value) (hv : Gives w t x) (hs : s.size ≤ 1048576) :
    Calls Tryd.prog 40 #[.string s] w fun e w' => e = .returned (.tuple #[.string (unpT s), .bool (unpOk s)]) ∧ Below w.heap.size w w' := by
  have hmf : ∀ (fn : Fn) (first cap : Array Value) (w : World), (Instr.makeFunc fn first cap).run Tryd.prog w = .ok (.func fn first cap) w := fun _ _ _ _ => rfl
  have HV := Lib.hid hv
  clear hv
  have HU := Lib.hid (Ubox.new w s)
  by_cases h8 : s.size ≤ 8000
  · have hd8 : decide ((s.size : Int) ≤ 8000) = true := decide_eq_true (by omega)
    go_enter_defers Tryd.func40, Tryd.ntmps40
    go_wp2_with (first | (go_at_call 77; refine (need_true _).mono ?_; rintro e w' ⟨rfl, rfl⟩))
    obtain ⟨W, hW⟩ : ∃ W, W = ((w.alloc (.cells #[.string ⟨#[]⟩] 9)).alloc (.cells #[.bool false] 4)).alloc (.cells #[.string s] 69) := ⟨_, rfl⟩
    rw [← hW] at HU ⊢
    clear hW
    by_cases h0 : s.size = 0
    · have HR : Hid (unpOk s = false) := Lib.hid (by unfold unpOk; rw [h0]; simp [topN])
      have HR2 : Hid (unpT s = ⟨#[]⟩) := Lib.hid (by unfold unpT; rw [HR.out]; rfl)
      refine (take_bad _ 1 s _ t x (HU.out.gives HV.out) HU.out.b2 (by omega) (by omega)).mono ?_
      rintro e w' ⟨rfl, rfl⟩
      refine leaves_cons (f := 76) (args := #[.pointer (some ⟨w.heap.size, 0, none⟩), .pointer (some ⟨w.heap.size + 1, 0, none⟩)]) (by simp) (by simp [go_sem]) ?_
      refine (catchU_panicking _ _ ⟨#[]⟩ false t x [] _ (by simp) HU.out.b0.cell HU.out.b0.frozen HU.out.b1.cell HU.out.b1.frozen).mono ?_
      rintro e u' w'' ⟨rfl, rfl, rfl⟩
      have hG := HU.out.gone
      obtain ⟨W2, hW2⟩ : ∃ W2, W2 = (W.setCell ⟨w.heap.size, 0, none⟩ (.string ⟨#[]⟩)).setCell ⟨w.heap.size + 1, 0, none⟩ (.bool false) := ⟨_, rfl⟩
      rw [← hW2] at hG ⊢
      have hc0 := hG.b0.cell
      have hc1 := hG.b1.cell
      simp only [HR2.out, HR.out]
      simp [Leaves, settle, results, Tryd.results40, go_sem, hc0, hc1]
      exact hG.bel
    · obtain ⟨M, hM⟩ : ∃ M, s.size = M + 1 := ⟨s.size - 1, by omega⟩
      have HT := Lib.hid (take_ok _ 1 s _ HU.out.b2 (by omega) (by omega))
      refine HT.out.mono ?_
      rintro e w' ⟨rfl, rfl⟩
      have HU2 := Lib.hid (HU.out.set (s.extract 0 M))
      have he : s.extract (s.size - 1) s.size = s.extract M (M + 1) := by rw [hM, Nat.add_sub_cancel]
      rw [he, show s.size - 1 = M by omega]
      obtain ⟨V, hV⟩ : ∃ V, V = W.setCell ⟨w.heap.size + 1 + 1, 0, none⟩ (.string (s.extract 0 M)) := ⟨_, rfl⟩
      rw [← hV] at HU2 ⊢
      have HM : Hid (topN s (M + 1) = topN s s.size) := Lib.hid (by rw [hM])
      have HMs := Lib.hid hM
      have hMl : M < s.size := by omega
      clear hV HU HT he h0 hM
      go_wp2
      go_loopw [5] (fun v wr => ∃ m : Nat, m < s.size ∧ v = .string (s.extract m (m + 1)) ∧ Hid (topN s (m + 1) = topN s s.size) ∧ Ubox w wr (s.extract 0 m)) (fun _ wr => match wr.cell? ⟨w.heap.size + 1 + 1, 0, none⟩ with | some (.string b) => b.size | _ => 0)
      case atStart => exact ⟨M, by omega, rfl, HM, HU2.out⟩
      case round =>
        obtain ⟨m, hm, rfl, HTm, hU⟩ := hrel
        clear HU2 HM HMs hMl
        have hL := extract_one s m hm
        obtain ⟨L, hLe⟩ : ∃ L, L = s.extract m (m + 1) := ⟨_, rfl⟩
        rw [← hLe] at hL ⊢
        clear hLe
        have hst : topN s (m + 1) = if s[m] = 0 then topN s m else m + 1 := by rw [← byte_at s m hm]; rfl
        by_cases hz : s[m] = 0
        · have hzb : (s[m] == 0) = true := by rw [hz]; rfl
          rw [if_pos hz] at hst
          by_cases hm0 : m = 0
          · have HT0 : Hid (topN s s.size = 0) := Lib.hid (by rw [← HTm.out, hst, hm0]; rfl)
            have HR : Hid (unpOk s = false) := Lib.hid (by unfold unpOk; rw [HT0.out]; simp)
            have HR2 : Hid (unpT s = ⟨#[]⟩) := Lib.hid (by unfold unpT; rw [HR.out]; rfl)
            have hes : (s.extract 0 m).size = 0 := by rw [ByteArray.size_extract]; omega
            have HTB := Lib.hid (take_bad _ 1 (s.extract 0 m) _ t x (hU.gives HV.out) hU.b2 (by omega) (by omega))
            clear hst hz HTm hes hm0
            go_wp2_with fail
            refine HTB.out.mono ?_
            rintro e w' ⟨rfl, rfl⟩
            refine leaves_cons (f := 76) (args := #[.pointer (some ⟨w.heap.size, 0, none⟩), .pointer (some ⟨w.heap.size + 1, 0, none⟩)]) (by simp) (by simp [go_sem]) ?_
            refine (catchU_panicking _ _ ⟨#[]⟩ false t x [] _ (by simp) hU.b0.cell hU.b0.frozen hU.b1.cell hU.b1.frozen).mono ?_
            rintro e u' w'' ⟨rfl, rfl, rfl⟩
            have hG := hU.gone
            obtain ⟨W2, hW2⟩ : ∃ W2, W2 = (wr.setCell ⟨w.heap.size, 0, none⟩ (.string ⟨#[]⟩)).setCell ⟨w.heap.size + 1, 0, none⟩ (.bool false) := ⟨_, rfl⟩
            rw [← hW2] at hG ⊢
            have hc0 := hG.b0.cell
            have hc1 := hG.b1.cell
            simp only [HR2.out, HR.out]
            simp [Leaves, settle, results, Tryd.results40, go_sem, hc0, hc1]
            exact hG.bel
          · obtain ⟨k, rfl⟩ : ∃ k, m = k + 1 := ⟨m - 1, by omega⟩
            have hes : (s.extract 0 (k + 1)).size = k + 1 := by rw [ByteArray.size_extract]; omega
            have he1 : (s.extract 0 (k + 1)).extract k (k + 1) = s.extract k (k + 1) := by
              rw [ByteArray.extract_extract]; congr 1 <;> omega
            have he0 : (s.extract 0 (k + 1)).extract 0 k = s.extract 0 k := by
              rw [ByteArray.extract_extract]; congr 1 <;> omega
            have hTK := take_ok _ 1 (s.extract 0 (k + 1)) _ hU.b2 (by omega) (by omega)
            rw [hes, Nat.add_sub_cancel, he1, he0] at hTK
            have HTK := Lib.hid hTK
            have HT2 : Hid (topN s (k + 1) = topN s s.size) := Lib.hid (by rw [← hst]; exact HTm.out)
            have HU2 := Lib.hid (hU.set (s.extract 0 k))
            have HC := Lib.hid hU.b2.cell
            have HES := Lib.hid hes
            clear hst hz HTm hes hm0 hTK he1 he0
            go_wp2_with fail
            refine HTK.out.mono ?_
            rintro e w' ⟨rfl, rfl⟩
            go_wp2
            go_roundw
            case rel => exact ⟨k, by omega, rfl, HT2, HU2.out⟩
            case measure =>
              have hc2 := HU2.out.b2.cell
              rw [hc2, HC.out]
              show (s.extract 0 k).size < (s.extract 0 (k + 1)).size
              rw [HES.out, ByteArray.size_extract]; omega
        · have hzb : (s[m] == 0) = false := beq_eq_false_iff_ne.2 hz
          rw [if_neg hz] at hst
          have HT2 : Hid (topN s s.size = m + 1) := Lib.hid (by rw [← hst]; exact HTm.out.symm)
          have HUk : Hid (unpOk s = decide (s[m] = 128)) := Lib.hid (by
            unfold unpOk; rw [HT2.out, Nat.add_sub_cancel, byte_at s m hm]; congr 1; simp [h8])
          have HVt : Hid (unpT s = if unpOk s = true then s.extract 0 m else ⟨#[]⟩) := Lib.hid (by unfold unpT; rw [HT2.out, Nat.add_sub_cancel])
          by_cases h128 : s[m] = 128
          · have h1b : (s[m] == 128) = true := by rw [h128]; rfl
            have HR : Hid (unpOk s = true) := Lib.hid (by rw [HUk.out]; exact decide_eq_true h128)
            have HR2 : Hid (unpT s = s.extract 0 m) := Lib.hid (by rw [HVt.out, if_pos HR.out])
            have hes : (s.extract 0 m).size ≤ 8000 := by rw [ByteArray.size_extract]; omega
            obtain ⟨E, hE⟩ : ∃ E, E = s.extract 0 m := ⟨_, rfl⟩
            rw [← hE] at hU HR2 hes
            have hc2 := hU.b2.cell
            clear hst hz HTm HUk HVt h128 hE HT2
            go_wp2_with (first | (go_at_call 77; refine (need_true _).mono ?_; rintro e w' ⟨rfl, rfl⟩))
            refine (clone_any E _ (by omega)).mono ?_
            rintro e w5 ⟨rfl, hb5⟩
            have hU5 := hU.keep hb5
            have hca := hU5.b0.cell
            have hfa := hU5.b0.frozen
            have hcb := (hU5.b1.other (show w.heap.size + 1 ≠ w.heap.size by omega) (.string E)).cell
            have hfb := (hU5.b1.other (show w.heap.size + 1 ≠ w.heap.size by omega) (.string E)).frozen
            go_wp2
            refine leaves_cons (f := 76) (args := #[.pointer (some ⟨w.heap.size, 0, none⟩), .pointer (some ⟨w.heap.size + 1, 0, none⟩)]) (by simp) (by simp [go_sem]) ?_
            refine (catchU_idle _ _ _).mono ?_
            rintro e u' w'' ⟨rfl, rfl, rfl⟩
            have hG0 := ((hU5.b0.set (.string E)).other (show w.heap.size ≠ w.heap.size + 1 by omega) (.bool true)).cell
            have hG1 := ((hU5.b1.other (show w.heap.size + 1 ≠ w.heap.size by omega) (.string E)).set (.bool true)).cell
            have hGB := (hU5.bel.setCell (p := ⟨w.heap.size, 0, none⟩) (Nat.le_refl _) (.string E)).setCell (p := ⟨w.heap.size + 1, 0, none⟩) (by show w.heap.size ≤ w.heap.size + 1; omega) (.bool true)
            obtain ⟨W2, hW2⟩ : ∃ W2, W2 = (w5.setCell ⟨w.heap.size, 0, none⟩ (.string E)).setCell ⟨w.heap.size + 1, 0, none⟩ (.bool true) := ⟨_, rfl⟩
            rw [← hW2] at hG0 hG1 hGB ⊢
            simp only [HR2.out, HR.out]
            simp [Leaves, settle, results, Tryd.results40, go_sem, hG0, hG1]
            exact hGB
          · have h1b : (s[m] == 128) = false := beq_eq_false_iff_ne.2 h128
            have HR : Hid (unpOk s = false) := Lib.hid (by rw [HUk.out]; exact decide_eq_false h128)
            have HR2 : Hid (unpT s = ⟨#[]⟩) := Lib.hid (by rw [HVt.out, HR.out]; rfl)
            clear hst hz HTm HUk HVt h128 HT2
            go_wp2_with fail
            refine (need_false t x _ (hU.gives HV.out)).mono ?_
            rintro e w' ⟨rfl, rfl⟩
            refine leaves_cons (f := 76) (args := #[.pointer (some ⟨w.heap.size, 0, none⟩), .pointer (some ⟨w.heap.size + 1, 0, none⟩)]) (by simp) (by simp [go_sem]) ?_
            refine (catchU_panicking _ _ ⟨#[]⟩ false t x [] _ (by simp) hU.b0.cell hU.b0.frozen hU.b1.cell hU.b1.frozen).mono ?_
            rintro e u' w'' ⟨rfl, rfl, rfl⟩
            have hG := hU.gone
            obtain ⟨W2, hW2⟩ : ∃ W2, W2 = (wr.setCell ⟨w.heap.size, 0, none⟩ (.string ⟨#[]⟩)).setCell ⟨w.heap.size + 1, 0, none⟩ (.bool false) := ⟨_, rfl⟩
            rw [← hW2] at hG ⊢
            have hc0 := hG.b0.cell
            have hc1 := hG.b1.cell
            simp only [HR2.out, HR.out]
            simp [Leaves, settle, results, Tryd.results40, go_sem, hc0, hc1]
            exact hG.bel
  · have hd8 : decide ((s.size : Int) ≤ 8000) = false := decide_eq_false (by omega)
    have HR : Hid (unpOk s = false) := Lib.hid (by unfold unpOk; exact decide_eq_false (fun h => h8 h.1))
    have HR2 : Hid (unpT s = ⟨#[]⟩) := Lib.hid (by unfold unpT; rw [HR.out]; rfl)
    clear HU
    have h0 := Boxed.new w 9 (.string ⟨#[]⟩)
    have h1 := Boxed.new (w.alloc (.cells #[.string ⟨#[]⟩] 9)) 4 (.bool false)
    rw [World.size_alloc] at h1
    have h0' := h0.alloc (.cells #[.bool false] 4)
    have hbl : Below w.heap.size w ((w.alloc (.cells #[.string ⟨#[]⟩] 9)).alloc (.cells #[.bool false] 4)) := ((Below.refl _ _).alloc (Nat.le_refl _) _).alloc (by simp) _
    have hgv := HV.out.below hbl (Nat.le_refl _)
    have HB0 := Lib.hid h0'
    have HB1 := Lib.hid h1
    have HBL := Lib.hid hbl
    have HG := Lib.hid hgv
    clear h0 h1 h0' hbl hgv h8
    go_enter_defers Tryd.func40, Tryd.ntmps40
    go_wp2_with fail
    refine (need_false t x _ HG.out).mono ?_
    rintro e w' ⟨rfl, rfl⟩
    obtain ⟨W, hW⟩ : ∃ W, W = (w.alloc (.cells #[.string ⟨#[]⟩] 9)).alloc (.cells #[.bool false] 4) := ⟨_, rfl⟩
    rw [← hW] at HB0 HB1 HBL ⊢
    refine leaves_cons (f := 76) (args := #[.pointer (some ⟨w.heap.size, 0, none⟩), .pointer (some ⟨w.heap.size + 1, 0, none⟩)]) (by simp) (by simp [go_sem]) ?_
    refine (catchU_panicking _ _ ⟨#[]⟩ false t x [] _ (by simp) HB0.out.cell HB0.out.frozen HB1.out.cell HB1.out.frozen).mono ?_
    rintro e u' w'' ⟨rfl, rfl, rfl⟩
    have hG0 := ((HB0.out.set (.string ⟨#[]⟩)).other (show w.heap.size ≠ w.heap.size + 1 by omega) (.bool false)).cell
    have hG1 := ((HB1.out.other (show w.heap.size + 1 ≠ w.heap.size by omega) (.string ⟨#[]⟩)).set (.bool false)).cell
    have hGB := (HBL.out.setCell (p := ⟨w.heap.size, 0, none⟩) (Nat.le_refl _) (.string ⟨#[]⟩)).setCell (p := ⟨w.heap.size + 1, 0, none⟩) (by show w.heap.size ≤ w.heap.size + 1; omega) (.bool false)
    obtain ⟨W2, hW2⟩ : ∃ W2, W2 = (W.setCell ⟨w.heap.size, 0, none⟩ (.string ⟨#[]⟩)).setCell ⟨w.heap.size + 1, 0, none⟩ (.bool false) := ⟨_, rfl⟩
    rw [← hW2] at hG0 hG1 hGB ⊢
    simp only [HR2.out, HR.out]
    simp [Leaves, settle, results, Tryd.results40, go_sem, hG0, hG1]
    exact hGB
end Go.Proofs.YtjmladejpdbdlaaDoor

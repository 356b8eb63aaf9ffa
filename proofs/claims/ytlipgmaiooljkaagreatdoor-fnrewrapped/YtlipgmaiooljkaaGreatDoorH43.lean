/- Joined: W4i, W4j. -/
import Derived.Test.YtlipgmaiooljkaaGreatDoorH41
import Derived.Test.YtlipgmaiooljkaaGreatDoorH42
/- W4i -/
namespace Go.Proofs.YtlipgmaiooljkaaGreatDoor
open Go.ChangeShapes Go.WideShapes Go.ChangeAt Go.RowKit
set_option linter.unusedVariables false

/-- Whether a box is opened, and what it holds. -/
def opOk (key nonce wi b : ByteArray) : Bool := decide (key.size = 32 ∧ nonce.size = 12 ∧ wi.size ≤ 1000 ∧ 16 ≤ b.size ∧ b.size ≤ 4016 ∧ sealT key nonce wi (b.extract 0 (b.size - 16)) = b.extract (b.size - 16) b.size)
def opT (key nonce wi b : ByteArray) : ByteArray := if opOk key nonce wi b = true then strB key nonce 1 (b.extract 0 (b.size - 16)) else ⟨#[]⟩
theorem opT_true {key nonce wi b : ByteArray} (h : opOk key nonce wi b = true) : opT key nonce wi b = strB key nonce 1 (b.extract 0 (b.size - 16)) := if_pos h
theorem opT_false {key nonce wi b : ByteArray} (h : opOk key nonce wi b = false) : opT key nonce wi b = ⟨#[]⟩ := if_neg (by rw [h]; simp)

theorem catchO_panicking (p q : Addr) (y : ByteArray) (z : Bool) (u : TypeId) (pv : Value) (older : List PanicEntry) (w : World) (hpq : p.block ≠ q.block) (hc : w.cell? p = some (.string y)) (hz : w.frozen? p = false) (hc2 : w.cell? q = some (.bool z)) (hz2 : w.frozen? q = false) :
    CallsD Tryz.prog 72 #[.pointer (some p), .pointer (some q)] (.panicking ({ v := .iface u pv, recovered := false } :: older)) w fun e u' w' =>
      e = .returned (.tuple #[]) ∧ u' = .panicking ({ v := .iface u pv, recovered := true } :: older) ∧ w' = (w.setCell p (.string ⟨#[]⟩)).setCell q (.bool false) := by
  have hc3 : (w.setCell p (.string ⟨#[]⟩)).cell? q = some (.bool z) := by rw [World.cell?_setCell_other]; exact hc2; exact fun e => hpq (by rw [e])
  have hz3 : (w.setCell p (.string ⟨#[]⟩)).frozen? q = false := by rw [World.frozen?_setCell]; exact hz2
  refine callsD_of_wpS Tryz.func72 rfl fun c₀ cs hu => ?_
  apply wpS_seq
  apply wpS_region
  simp [wpOpsS, go_sem, recoverD, hu, Tryz.ntmps72, Exit.thenS]
  refine wpS_cond (t := true) (by simp [Act.eval, Array.replicate]) ?_
  simp only [if_true]
  apply wpS_region
  simp [wpOpsS, go_sem, hc, hz, hc3, hz3, bodyPostS, results, Tryz.results72]

theorem catchO_idle (p q : Addr) (w : World) :
    CallsD Tryz.prog 72 #[.pointer (some p), .pointer (some q)] .returning w fun e u' w' => e = .returned (.tuple #[]) ∧ u' = .returning ∧ w' = w := by
  refine callsD_of_wpS Tryz.func72 rfl fun c₀ cs hu => ?_
  apply wpS_seq
  apply wpS_region
  simp [wpOpsS, go_sem, recoverD, hu, Tryz.ntmps72, Exit.thenS]
  refine wpS_cond (t := false) (by simp [Act.eval, Array.replicate]) ?_
  simp only [Bool.false_eq_true, if_false]
  refine wpS_of_wp (wp_skip ?_)
  cases c₀
  simp_all [bodyPostS, results, Tryz.results72]

set_option maxRecDepth 100000 in
set_option maxHeartbeats 4000000 in
theorem implOpened_any (key nonce wi b : ByteArray) (w : World) (t : TypeId) (x : Value) (hv : Gives w t x) (hk : key.size ≤ 1048576) (hn : nonce.size ≤ 1048576) (hw : wi.size ≤ 1048576) (hb : b.size ≤ 1048576) :
    Calls Tryz.prog 38 #[.string key, .string nonce, .string wi, .string b] w fun e w' => e = .returned (.tuple #[.string (opT key nonce wi b), .bool (opOk key nonce wi b)]) ∧ Below w.heap.size w w' := by
  have hmf : ∀ (fn : Fn) (first cap : Array Value) (w : World), (Instr.makeFunc fn first cap).run Tryz.prog w = .ok (.func fn first cap) w := fun _ _ _ _ => rfl
  have HV := Lib.hid hv
  clear hv
  have HU := Lib.hid (Ubox.new w b)
  have hm : (1048576 : Nat) ≤ maxLen := by unfold maxLen; decide
  go_enter_defers Tryz.func38, Tryz.ntmps38
  go_wp2_with fail
  obtain ⟨W, hW⟩ : ∃ W, W = ((w.alloc (.cells #[.string ⟨#[]⟩] 9)).alloc (.cells #[.bool false] 4)).alloc (.cells #[.string b] 85) := ⟨_, rfl⟩
  rw [← hW] at HU ⊢
  clear hW
  by_cases h16 : 16 ≤ b.size
  · have HT := Lib.hid (take_ok _ 16 b _ HU.out.b2 (by omega) h16)
    refine HT.out.mono ?_
    rintro e w' ⟨rfl, rfl⟩
    have HU2 := Lib.hid (HU.out.set (b.extract 0 (b.size - 16)))
    have hrs : (b.extract 0 (b.size - 16)).size = b.size - 16 := by rw [ByteArray.size_extract]; omega
    have HOK : Hid (opOk key nonce wi b = decide ((key.size = 32 ∧ nonce.size = 12 ∧ wi.size ≤ 1000 ∧ (b.extract 0 (b.size - 16)).size ≤ 4000) ∧ b.extract (b.size - 16) b.size = sealT key nonce wi (b.extract 0 (b.size - 16)))) := Lib.hid (by
      unfold opOk; apply decide_eq_decide.2; rw [hrs]
      constructor
      · rintro ⟨h1, h2, h3, h4, h5, h6⟩; exact ⟨⟨h1, h2, h3, by omega⟩, h6.symm⟩
      · rintro ⟨⟨h1, h2, h3, h4⟩, h6⟩; exact ⟨h1, h2, h3, h16, by omega, h6.symm⟩)
    have HOT := Lib.hid (@opT_true key nonce wi b)
    have HOF := Lib.hid (@opT_false key nonce wi b)
    obtain ⟨R, hR⟩ : ∃ R, R = b.extract 0 (b.size - 16) := ⟨_, rfl⟩
    obtain ⟨G, hG⟩ : ∃ G, G = b.extract (b.size - 16) b.size := ⟨_, rfl⟩
    rw [← hR, ← hG] at HOK
    rw [← hR] at HU2 hrs HOT
    rw [← hR, ← hG]
    obtain ⟨V, hV⟩ : ∃ V, V = W.setCell ⟨w.heap.size + 1 + 1, 0, none⟩ (.string R) := ⟨_, rfl⟩
    rw [← hV] at HU2 ⊢
    clear hV HU HT hR hG
    have hc2 := HU2.out.b2.cell
    have HA := Lib.hid (fun w => sealArgsOk_any key nonce wi R w (by omega) (by omega) (by omega) (by omega))
    by_cases hall : key.size = 32 ∧ nonce.size = 12 ∧ wi.size ≤ 1000 ∧ R.size ≤ 4000
    · rw [decide_eq_true hall] at HA
      obtain ⟨g1, g2, g3, g4⟩ := hall
      have HS := Lib.hid (fun w => implStrm_any key nonce 1 R w g1 g2 (by omega) (by omega) (by omega))
      have HTg := Lib.hid (fun w => sealTag_any key nonce wi R w g1 g2 g3 g4)
      have HOK2 : Hid (opOk key nonce wi b = decide (G = sealT key nonce wi R)) := Lib.hid (by rw [HOK.out]; apply decide_eq_decide.2; exact ⟨fun h => h.2, fun h => ⟨⟨g1, g2, g3, g4⟩, h⟩⟩)
      obtain ⟨S, hS⟩ : ∃ S, S = strB key nonce 1 R := ⟨_, rfl⟩
      obtain ⟨T, hT⟩ : ∃ T, T = sealT key nonce wi R := ⟨_, rfl⟩
      rw [← hS] at HS HOT
      rw [← hT] at HTg HOK2
      clear hS hT HOK g1 g2
      go_wp2_with fail
      refine (HA.out _).mono ?_
      rintro e w' ⟨rfl, rfl⟩
      go_wp2_with (first | (go_at_call 52; refine (need_true _).mono ?_; rintro e w' ⟨rfl, rfl⟩))
      refine (HTg.out _).mono ?_
      rintro e w3 ⟨rfl, hb3⟩
      have hU3 := HU2.out.keep hb3
      have hc3 := hU3.b2.cell
      clear hc2
      by_cases hGT : G = T
      · have HR : Hid (opOk key nonce wi b = true) := Lib.hid (by rw [HOK2.out]; exact decide_eq_true hGT)
        have HR2 : Hid (opT key nonce wi b = S) := Lib.hid (HOT.out HR.out)
        have hq : (G.toList == T.toList) = true := by rw [str_eq]; exact decide_eq_true hGT
        clear HOK2 HOT HOF hGT
        go_wp2_with (first | (go_at_call 52; refine (need_true _).mono ?_; rintro e w' ⟨rfl, rfl⟩))
        refine (HS.out _).mono ?_
        rintro e w5 ⟨rfl, hb5⟩
        have hU5 := hU3.keep hb5
        have hca := hU5.b0.cell
        have hfa := hU5.b0.frozen
        have hcb := (hU5.b1.other (show w.heap.size + 1 ≠ w.heap.size by omega) (.string S)).cell
        have hfb := (hU5.b1.other (show w.heap.size + 1 ≠ w.heap.size by omega) (.string S)).frozen
        go_wp2
        refine leaves_cons (f := 72) (args := #[.pointer (some ⟨w.heap.size, 0, none⟩), .pointer (some ⟨w.heap.size + 1, 0, none⟩)]) (by simp) (by simp [go_sem]) ?_
        refine (catchO_idle _ _ _).mono ?_
        rintro e u' w'' ⟨rfl, rfl, rfl⟩
        have hG0 := ((hU5.b0.set (.string S)).other (show w.heap.size ≠ w.heap.size + 1 by omega) (.bool true)).cell
        have hG1 := ((hU5.b1.other (show w.heap.size + 1 ≠ w.heap.size by omega) (.string S)).set (.bool true)).cell
        have hGB := (hU5.bel.setCell (p := ⟨w.heap.size, 0, none⟩) (Nat.le_refl _) (.string S)).setCell (p := ⟨w.heap.size + 1, 0, none⟩) (by show w.heap.size ≤ w.heap.size + 1; omega) (.bool true)
        obtain ⟨W2, hW2⟩ : ∃ W2, W2 = (w5.setCell ⟨w.heap.size, 0, none⟩ (.string S)).setCell ⟨w.heap.size + 1, 0, none⟩ (.bool true) := ⟨_, rfl⟩
        rw [← hW2] at hG0 hG1 hGB ⊢
        simp only [HR2.out, HR.out]
        simp [Leaves, settle, results, Tryz.results38, go_sem, hG0, hG1]
        exact hGB
      · have HR : Hid (opOk key nonce wi b = false) := Lib.hid (by rw [HOK2.out]; exact decide_eq_false hGT)
        have HR2 : Hid (opT key nonce wi b = ⟨#[]⟩) := Lib.hid (HOF.out HR.out)
        have hq : (G.toList == T.toList) = false := by rw [str_eq]; exact decide_eq_false hGT
        clear HOK2 HOT HOF hGT
        go_wp2_with fail
        refine (need_false t x _ (hU3.gives HV.out)).mono ?_
        rintro e w' ⟨rfl, rfl⟩
        refine leaves_cons (f := 72) (args := #[.pointer (some ⟨w.heap.size, 0, none⟩), .pointer (some ⟨w.heap.size + 1, 0, none⟩)]) (by simp) (by simp [go_sem]) ?_
        refine (catchO_panicking _ _ ⟨#[]⟩ false t x [] _ (by simp) hU3.b0.cell hU3.b0.frozen hU3.b1.cell hU3.b1.frozen).mono ?_
        rintro e u' w'' ⟨rfl, rfl, rfl⟩
        have hGo := hU3.gone
        obtain ⟨W2, hW2⟩ : ∃ W2, W2 = (w3.setCell ⟨w.heap.size, 0, none⟩ (.string ⟨#[]⟩)).setCell ⟨w.heap.size + 1, 0, none⟩ (.bool false) := ⟨_, rfl⟩
        rw [← hW2] at hGo ⊢
        have hca := hGo.b0.cell
        have hcb := hGo.b1.cell
        simp only [HR2.out, HR.out]
        simp [Leaves, settle, results, Tryz.results38, go_sem, hca, hcb]
        exact hGo.bel
    · rw [decide_eq_false hall] at HA
      have HR : Hid (opOk key nonce wi b = false) := Lib.hid (by rw [HOK.out]; exact decide_eq_false (fun h => hall h.1))
      have HR2 : Hid (opT key nonce wi b = ⟨#[]⟩) := Lib.hid (HOF.out HR.out)
      clear HOK HOT HOF hall
      go_wp2_with fail
      refine (HA.out _).mono ?_
      rintro e w' ⟨rfl, rfl⟩
      go_wp2_with fail
      refine (need_false t x _ (HU2.out.gives HV.out)).mono ?_
      rintro e w' ⟨rfl, rfl⟩
      refine leaves_cons (f := 72) (args := #[.pointer (some ⟨w.heap.size, 0, none⟩), .pointer (some ⟨w.heap.size + 1, 0, none⟩)]) (by simp) (by simp [go_sem]) ?_
      refine (catchO_panicking _ _ ⟨#[]⟩ false t x [] _ (by simp) HU2.out.b0.cell HU2.out.b0.frozen HU2.out.b1.cell HU2.out.b1.frozen).mono ?_
      rintro e u' w'' ⟨rfl, rfl, rfl⟩
      have hGo := HU2.out.gone
      obtain ⟨W2, hW2⟩ : ∃ W2, W2 = (V.setCell ⟨w.heap.size, 0, none⟩ (.string ⟨#[]⟩)).setCell ⟨w.heap.size + 1, 0, none⟩ (.bool false) := ⟨_, rfl⟩
      rw [← hW2] at hGo ⊢
      have hca := hGo.b0.cell
      have hcb := hGo.b1.cell
      simp only [HR2.out, HR.out]
      simp [Leaves, settle, results, Tryz.results38, go_sem, hca, hcb]
      exact hGo.bel
  · have HR : Hid (opOk key nonce wi b = false) := Lib.hid (by unfold opOk; exact decide_eq_false (fun h => h16 h.2.2.2.1))
    have HR2 : Hid (opT key nonce wi b = ⟨#[]⟩) := Lib.hid (opT_false HR.out)
    refine (take_bad _ 16 b _ t x (HU.out.gives HV.out) HU.out.b2 (by omega) (by omega)).mono ?_
    rintro e w' ⟨rfl, rfl⟩
    refine leaves_cons (f := 72) (args := #[.pointer (some ⟨w.heap.size, 0, none⟩), .pointer (some ⟨w.heap.size + 1, 0, none⟩)]) (by simp) (by simp [go_sem]) ?_
    refine (catchO_panicking _ _ ⟨#[]⟩ false t x [] _ (by simp) HU.out.b0.cell HU.out.b0.frozen HU.out.b1.cell HU.out.b1.frozen).mono ?_
    rintro e u' w'' ⟨rfl, rfl, rfl⟩
    have hGo := HU.out.gone
    obtain ⟨W2, hW2⟩ : ∃ W2, W2 = (W.setCell ⟨w.heap.size, 0, none⟩ (.string ⟨#[]⟩)).setCell ⟨w.heap.size + 1, 0, none⟩ (.bool false) := ⟨_, rfl⟩
    rw [← hW2] at hGo ⊢
    have hca := hGo.b0.cell
    have hcb := hGo.b1.cell
    simp only [HR2.out, HR.out]
    simp [Leaves, settle, results, Tryz.results38, go_sem, hca, hcb]
    exact hGo.bel
end Go.Proofs.YtlipgmaiooljkaaGreatDoor

/- W4j -/
namespace Go.Proofs.YtlipgmaiooljkaaGreatDoor
open Go.ChangeShapes Go.WideShapes Go.ChangeAt Go.RowKit
set_option linter.unusedVariables false

theorem free_skip {P : Program} {ops : Array Oper} {R : Act → Prop} {o : Oper} {l : List Oper} {a : Act} (hw : Region.wanted o (yielded ops a.tmps) = false) (h : wpFree P ops R l (a.put o.dst undef)) : wpFree P ops R (o :: l) a := ⟨undef, .inr ⟨hw, rfl⟩, h⟩

set_option maxRecDepth 100000 in
set_option maxHeartbeats 1000000 in
theorem l4Open_short (key nonce wi b : ByteArray) (w : World) (hk : key.size = 32) (hn : nonce.size = 12) (hw : wi.size ≤ 1000) (hb : b.size ≤ 1048576) (h16 : ¬ 16 ≤ b.size) :
    Calls Tryz.prog 36 #[.string key, .string nonce, .string wi, .string b] w fun e w' => e = .returned (.tuple #[.string (opT key nonce wi b), .bool (opOk key nonce wi b)]) ∧ Below w.heap.size w w' := by
  have HR : Hid (opOk key nonce wi b = false) := Lib.hid (by unfold opOk; exact decide_eq_false (fun h => h16 h.2.2.2.1))
  have HR2 := Lib.hid (opT_false HR.out)
  obtain ⟨m, hm⟩ : ∃ m : Int, (b.size : Int) - 16 = m := ⟨_, rfl⟩
  have h0 : decide (m < 0) = true := decide_eq_true (by omega)
  clear hk hn h16
  go_enter Tryz.func36, Tryz.ntmps36
  go_wp2
  refine wp_region_plan (by kernel_rfl) 19 rfl ?_
  refine wpAny_takes (md := .any) 0 (by kernel_rfl) (by intro d v c a w h; cases d <;> exact h) [0, 1, 2, 3, 4, 5, 6, 7, 8, 9, 10, 11, 12, 13, 14, 15, 16, 17, 18] _ _ _ (by kernel_rfl) ?_
  simp only [pick, List.filterMap_cons, List.filterMap_nil, List.getElem?_cons_zero, List.getElem?_cons_succ]
  iterate 3 (refine wpFree_step ?_ (by kernel_rfl) ?_ ?_; rotate_left; (intro w; go_simp); try with_reducible rfl)
  iterate 2 (refine free_skip (by kernel_rfl) ?_; go_simp)
  iterate 2 (refine wpFree_step ?_ (by kernel_rfl) ?_ ?_; rotate_left; (intro w; go_simp); try with_reducible rfl)
  iterate 11 (refine free_skip (by kernel_rfl) ?_; go_simp)
  refine wpFree_step (.bool true) (by kernel_rfl) (fun w => by kernel_rfl) ?_
  refine wpFree_nil ?_
  refine wpAny_over (by kernel_rfl) ?_
  go_wp2
  go_ret2
  exact ⟨ret_two HR2.out.symm HR.out.symm, (Below.refl w.heap.size w).drew⟩

set_option maxRecDepth 100000 in
set_option maxHeartbeats 1000000 in
theorem l4Open_long (key nonce wi b : ByteArray) (w : World) (hk : key.size = 32) (hn : nonce.size = 12) (hw : wi.size ≤ 1000) (hb : b.size ≤ 1048576) (h16 : 16 ≤ b.size) (h40 : ¬ b.size ≤ 4016) :
    Calls Tryz.prog 36 #[.string key, .string nonce, .string wi, .string b] w fun e w' => e = .returned (.tuple #[.string (opT key nonce wi b), .bool (opOk key nonce wi b)]) ∧ Below w.heap.size w w' := by
  have HR : Hid (opOk key nonce wi b = false) := Lib.hid (by unfold opOk; exact decide_eq_false (fun h => h40 h.2.2.2.2.1))
  have HR2 := Lib.hid (opT_false HR.out)
  obtain ⟨n, hn2⟩ : ∃ n : Nat, b.size = n + 16 := ⟨b.size - 16, by omega⟩
  have hsub : (b.size : Int) - 16 = (n : Int) := by omega
  have h0 : decide ((n : Int) < 0) = false := decide_eq_false (by omega)
  have h4 : decide ((4000 : Int) < (n : Int)) = true := decide_eq_true (by omega)
  clear hk hn h16 h40 hn2
  go_enter Tryz.func36, Tryz.ntmps36
  go_wp2
  refine wp_region_plan (by kernel_rfl) 19 rfl ?_
  refine wpAny_takes (md := .any) 0 (by kernel_rfl) (by intro d v c a w h; cases d <;> exact h) [0, 1, 2, 3, 4, 5, 6, 7, 8, 9, 10, 11, 12, 13, 14, 15, 16, 17, 18] _ _ _ (by kernel_rfl) ?_
  simp only [pick, List.filterMap_cons, List.filterMap_nil, List.getElem?_cons_zero, List.getElem?_cons_succ]
  iterate 7 (refine wpFree_step ?_ (by kernel_rfl) ?_ ?_; rotate_left; (intro w; go_simp); try with_reducible rfl)
  iterate 11 (refine free_skip (by kernel_rfl) ?_; go_simp)
  refine wpFree_step (.bool true) (by kernel_rfl) (fun w => by kernel_rfl) ?_
  refine wpFree_nil ?_
  refine wpAny_over (by kernel_rfl) ?_
  go_wp2
  go_ret2
  exact ⟨ret_two HR2.out.symm HR.out.symm, (Below.refl w.heap.size w).drew⟩

set_option maxRecDepth 100000 in
set_option maxHeartbeats 1000000 in
theorem l4Open_mid (key nonce wi b : ByteArray) (w : World) (hk : key.size = 32) (hn : nonce.size = 12) (hw : wi.size ≤ 1000) (hb : b.size ≤ 1048576) (h16 : 16 ≤ b.size) (h40 : b.size ≤ 4016) :
    Calls Tryz.prog 36 #[.string key, .string nonce, .string wi, .string b] w fun e w' => e = .returned (.tuple #[.string (opT key nonce wi b), .bool (opOk key nonce wi b)]) ∧ Below w.heap.size w w' := by
  obtain ⟨n, hn2⟩ : ∃ n : Nat, b.size = n + 16 := ⟨b.size - 16, by omega⟩
  have hsub : (b.size : Int) - 16 = (n : Int) := by omega
  have HOT := Lib.hid (@opT_true key nonce wi b)
  have HOF := Lib.hid (@opT_false key nonce wi b)
  have HOK : Hid (opOk key nonce wi b = decide (sealT key nonce wi (b.extract 0 n) = b.extract n b.size)) := Lib.hid (by
    unfold opOk; apply decide_eq_decide.2; rw [show b.size - 16 = n by omega]
    exact ⟨fun h => h.2.2.2.2.2, fun h => ⟨hk, hn, hw, h16, h40, h⟩⟩)
  rw [show b.size - 16 = n by omega] at HOT
  have hrs : (b.extract 0 n).size = n := by rw [ByteArray.size_extract]; omega
  have HS := Lib.hid (fun w => l2Stream_any key nonce 1 (b.extract 0 n) w hk hn (by omega) (by omega) (by omega))
  have HTg := Lib.hid (fun w => l4Tag_any key nonce wi (b.extract 0 n) w hk hn hw (by omega))
  have h0 : decide ((n : Int) < 0) = false := decide_eq_false (by omega)
  have h4 : decide ((4000 : Int) < (n : Int)) = false := decide_eq_false (by omega)
  have hnb : (n : Int) ≤ (b.size : Int) := by omega
  have hn0 : 0 ≤ (n : Int) := by omega
  have hnn : n ≤ b.size := by omega
  have HN2 := Lib.hid hn2
  clear hk hn h16 h40 hn2 hrs
  go_enter Tryz.func36, Tryz.ntmps36
  go_wp2
  refine wp_region_plan (by kernel_rfl) 19 rfl ?_
  refine wpAny_takes (md := .any) 3 (by kernel_rfl) (by intro d v c a w h; cases d <;> exact h) [0, 1, 2, 3, 4, 5, 6, 7, 8, 9, 10, 11, 12, 14, 15, 16] _ _ _ (by kernel_rfl) ?_
  simp only [pick, List.filterMap_cons, List.filterMap_nil, List.getElem?_cons_zero, List.getElem?_cons_succ]
  iterate 16 (refine wpFree_step ?_ (by kernel_rfl) ?_ ?_; rotate_left; (intro w; go_simp); try with_reducible rfl)
  refine wpFree_nil ?_
  refine wpAny_one 13 2 (by kernel_rfl) rfl (by kernel_rfl) (fun K hK => ?_)
  go_simp
  refine (HTg.out _).mono ?_
  rintro e w3 ⟨rfl, hb3⟩
  refine hK _ _ ?_
  clear hK K
  have hb3' : Below w.heap.size w w3 := (Below.refl w.heap.size w).drew.trans hb3
  clear hb3
  obtain ⟨T, hT⟩ : ∃ T, T = sealT key nonce wi (b.extract 0 n) := ⟨_, rfl⟩
  obtain ⟨E, hE⟩ : ∃ E, E = b.extract n b.size := ⟨_, rfl⟩
  rw [← hT, ← hE] at HOK
  rw [← hT, ← hE]
  clear hT hE HTg
  by_cases hTE : T = E
  · have HR : Hid (opOk key nonce wi b = true) := Lib.hid (by rw [HOK.out]; exact decide_eq_true hTE)
    have HR2 := Lib.hid (HOT.out HR.out)
    have hq : (T.toList == E.toList) = true := by rw [str_eq]; exact decide_eq_true hTE
    clear hTE HOK HOT HOF
    refine wpAny_takes (md := .any) 0 (by kernel_rfl) (by intro d v c a w h; cases d <;> exact h) [17, 18] _ _ _ (by kernel_rfl) ?_
    simp only [pick, List.filterMap_cons, List.filterMap_nil, List.getElem?_cons_zero, List.getElem?_cons_succ]
    iterate 2 (refine wpFree_step ?_ (by kernel_rfl) ?_ ?_; rotate_left; (intro w; go_simp); try with_reducible rfl)
    refine wpFree_nil ?_
    refine wpAny_over (by kernel_rfl) ?_
    go_wp2_with fail
    refine (HS.out _).mono ?_
    rintro e w4 ⟨rfl, hb4⟩
    go_wp2
    go_ret2
    exact ⟨ret_two HR2.out.symm HR.out.symm, hb3'.trans (hb4.mono hb3'.size)⟩
  · have HR : Hid (opOk key nonce wi b = false) := Lib.hid (by rw [HOK.out]; exact decide_eq_false hTE)
    have HR2 := Lib.hid (HOF.out HR.out)
    have hq : (T.toList == E.toList) = false := by rw [str_eq]; exact decide_eq_false hTE
    clear hTE HOK HOT HOF
    refine wpAny_takes (md := .any) 0 (by kernel_rfl) (by intro d v c a w h; cases d <;> exact h) [17, 18] _ _ _ (by kernel_rfl) ?_
    simp only [pick, List.filterMap_cons, List.filterMap_nil, List.getElem?_cons_zero, List.getElem?_cons_succ]
    iterate 2 (refine wpFree_step ?_ (by kernel_rfl) ?_ ?_; rotate_left; (intro w; go_simp); try with_reducible rfl)
    refine wpFree_nil ?_
    refine wpAny_over (by kernel_rfl) ?_
    go_wp2
    go_ret2
    exact ⟨ret_two HR2.out.symm HR.out.symm, hb3'⟩

theorem l4Open_any (key nonce wi b : ByteArray) (w : World) (hk : key.size = 32) (hn : nonce.size = 12) (hw : wi.size ≤ 1000) (hb : b.size ≤ 1048576) :
    Calls Tryz.prog 36 #[.string key, .string nonce, .string wi, .string b] w fun e w' => e = .returned (.tuple #[.string (opT key nonce wi b), .bool (opOk key nonce wi b)]) ∧ Below w.heap.size w w' := by
  by_cases h16 : 16 ≤ b.size
  · by_cases h40 : b.size ≤ 4016
    · exact l4Open_mid key nonce wi b w hk hn hw hb h16 h40
    · exact l4Open_long key nonce wi b w hk hn hw hb h16 h40
  · exact l4Open_short key nonce wi b w hk hn hw hb h16

end Go.Proofs.YtlipgmaiooljkaaGreatDoor

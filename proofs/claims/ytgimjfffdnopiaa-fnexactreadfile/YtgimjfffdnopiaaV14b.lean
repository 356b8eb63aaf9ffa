/- A file of a disk read, of both sides; walk of the law FnExactReadFile. -/
import Derived.Test.YtgimjfffdnopiaaOpenD
import Derived.Test.YtgimjfffdnopiaaW14r
namespace Go.Proofs.Ytgimjfffdnopiaa
open Go.ChangeShapes Go.WideShapes Go.ChangeAt Go.RowKit
set_option linter.unusedVariables false

/-- What ReadFile answers. -/
def rfD (L S : List Fi) (os : List DOp) (nm : ByteArray) : ByteArray := if dkB L S os then fiG L nm else ByteArray.empty
def rfB (L S : List Fi) (os : List DOp) (nm : ByteArray) : Bool := dkB L S os && fnB (fiKs L) nm
theorem ret_sb {a b : ByteArray} {x y : Bool} (h1 : a = b) (h2 : x = y) : Ending.returned (.tuple #[.string a, .bool x]) = .returned (.tuple #[.string b, .bool y]) := by rw [h1, h2]
theorem dkB_fls {L S : List Fi} {os : List DOp} (h : dkB L S os = true) : flsB L = true := by
  unfold dkB at h
  simp only [Bool.and_eq_true] at h
  exact h.2.1

set_option maxRecDepth 100000 in
set_option maxHeartbeats 3000000 in
theorem implReadFile_any (vl vs vo : Value) (L S : List Fi) (os : List DOp) (nm : ByteArray) (w : World) (hL : FiAt w w.heap.size vl L) (hS : FiAt w w.heap.size vs S) (hO : OdAt w w.heap.size vo os) (hsL : fiSum L ≤ 100000000000) (hsS : fiSum S ≤ 100000000000) (hn : L.length ≤ 1000000000) :
    Calls Try.prog 48 #[dkV vl vs vo, .string nm] w fun e w' => e = .returned (.tuple #[.string (rfD L S os nm), .bool (rfB L S os nm)]) ∧ Below w.heap.size w w' := by
  have HL := Lib.hid hL
  have HDk := Lib.hid (fun w h1 h2 h3 => implDiskOk_any vl vs vo L S os w h1 h2 h3 hsL hsS)
  have hb0 : Below w.heap.size w (w.alloc (.cells #[vl, vs, vo] 61)) := (Below.refl _ _).alloc (Nat.le_refl _) _
  have hx0 := Box.new w #[vl, vs, vo] 61
  have HDk0 := Lib.hid (HDk.out _ ((hL.below hb0).mono hb0.size) ((hS.below hb0).mono hb0.size) ((hO.below hb0).mono hb0.size))
  have HD1 : Hid (rfD L S os nm = if dkB L S os then fiG L nm else ByteArray.empty) := Lib.hid rfl
  have HD2 : Hid (rfB L S os nm = (dkB L S os && fnB (fiKs L) nm)) := Lib.hid rfl
  have HK : Hid (dkB L S os = true → flsB L = true) := Lib.hid dkB_fls
  generalize rfD L S os nm = RD at HD1 ⊢
  generalize rfB L S os nm = RB at HD2 ⊢
  obtain ⟨la, lc, rfl, hll, hlm, _⟩ := hL.raw
  unfold maxLen at hlm
  have HP := Lib.hid (fun hr w h => placeOfF_any (.slice la L.length lc) L nm w h (by omega) (ris_mono hr nm))
  generalize dkB L S os = DB at HDk0 HD1 HD2 HK
  clear hL hS hO HDk
  cases DB with
  | false =>
    obtain rfl : RD = ByteArray.empty := HD1.out
    obtain rfl : RB = false := HD2.out
    go_enter Try.func48, Try.ntmps48
    go_wp2_with fail
    refine HDk0.out.mono ?_
    rintro e w1 ⟨rfl, hb1⟩
    have hB1 := hb0.trans (hb1.mono hb0.size)
    go_wp2
    go_ret2
    exact ⟨rfl, hB1⟩
  | true =>
    have hfo := flsB_out (HK.out rfl)
    have HFl := Lib.hid (fun h => fnF_lt (es := L) (x := nm) h)
    have HG : Hid (fiG L nm = if fnB (fiKs L) nm then (L[plK (fiKs L) nm]?.getD ⟨ByteArray.empty, ByteArray.empty⟩).da else ByteArray.empty) := Lib.hid rfl
    have HP2 := Lib.hid (HP.out hfo.1)
    generalize fiG L nm = G at HD1 HG
    generalize plK (fiKs L) nm = p at HP2 HFl HG
    generalize fnB (fiKs L) nm = f at HP2 HD2 HFl HG
    obtain rfl : RD = G := HD1.out
    obtain rfl : RB = f := HD2.out
    clear hfo HP HK
    cases RB with
    | false =>
      obtain rfl : RD = ByteArray.empty := HG.out
      go_enter Try.func48, Try.ntmps48
      go_wp2_with fail
      refine HDk0.out.mono ?_
      rintro e w1 ⟨rfl, hb1⟩
      have hB1 := hb0.trans (hb1.mono hb0.size)
      have hx1 := hx0.keep hb1 hx0.lt
      have f0 := hx1.cell 0 _ rfl
      clear hb0 hb1 hx0
      go_wp2_with fail
      refine (HP2.out _ ((HL.out.below hB1).mono hB1.size)).mono ?_
      rintro e w2 ⟨rfl, hb2⟩
      have hB2 := hB1.trans (hb2.mono hB1.size)
      go_wp2
      go_ret2
      exact ⟨rfl, hB2⟩
    | true =>
      have hpl := HFl.out rfl
      have hGe : RD = L[p].da := by rw [HG.out, if_pos rfl, List.getElem?_eq_getElem hpl]; rfl
      have HCC : Hid (∀ w1, Below w.heap.size w w1 → ∃ b off, la = some ⟨b, off, none⟩ ∧ w1.cell? ⟨b, off + p * 2 + 1, none⟩ = some (.string RD)) := Lib.hid (fun w1 hb1 => by
        obtain ⟨a2, cap2, hv2, _, _, hc2⟩ := (HL.out.below hb1).raw
        cases hv2
        obtain ⟨b2, off2, rfl, _, hr2⟩ := hc2 p hpl
        obtain ⟨d0, d1, _, _⟩ := hr2 p hpl
        rw [hGe]
        exact ⟨b2, off2, rfl, d1⟩)
      have hpd : decide ((p : Int) < (L.length : Int)) = true := decide_eq_true (by omega)
      have hlt0 : decide ((p : Int) < 0) = false := decide_eq_false (by omega)
      clear hGe HG HFl
      go_enter Try.func48, Try.ntmps48
      go_wp2_with fail
      refine HDk0.out.mono ?_
      rintro e w1 ⟨rfl, hb1⟩
      have hB1 := hb0.trans (hb1.mono hb0.size)
      have hx1 := hx0.keep hb1 hx0.lt
      have f0 := hx1.cell 0 _ rfl
      clear hb0 hb1 hx0
      go_wp2_with fail
      refine (HP2.out _ ((HL.out.below hB1).mono hB1.size)).mono ?_
      rintro e w2 ⟨rfl, hb2⟩
      have hB2 := hB1.trans (hb2.mono hB1.size)
      have hx2 := hx1.keep hb2 hx1.lt
      have g0 := hx2.cell 0 _ rfl
      obtain ⟨b, off, rfl, c1⟩ := HCC.out w2 hB2
      go_wp2
      go_ret2
      exact ⟨rfl, hB2⟩

set_option maxRecDepth 100000 in
set_option maxHeartbeats 3000000 in
theorem specReadFile_any (vl vs vo : Value) (L S : List Fi) (os : List DOp) (nm : ByteArray) (w : World) (hL : FiAt w w.heap.size vl L) (hS : FiAt w w.heap.size vs S) (hO : OdAt w w.heap.size vo os) (hsL : fiSum L ≤ 100000000000) (hsS : fiSum S ≤ 100000000000) (hn : L.length ≤ 1000000000) :
    Calls Try.prog 47 #[dkV vl vs vo, .string nm] w fun e w' => e = .returned (.tuple #[.string (rfD L S os nm), .bool (rfB L S os nm)]) ∧ Below w.heap.size w w' := by
  have HL := Lib.hid hL
  have HDk := Lib.hid (fun w h1 h2 h3 => specDiskOk_any vl vs vo L S os w h1 h2 h3 hsL hsS)
  have hb0 : Below w.heap.size w (w.alloc (.cells #[vl, vs, vo] 61)) := (Below.refl _ _).alloc (Nat.le_refl _) _
  have hx0 := Box.new w #[vl, vs, vo] 61
  have HDk0 := Lib.hid (HDk.out _ ((hL.below hb0).mono hb0.size) ((hS.below hb0).mono hb0.size) ((hO.below hb0).mono hb0.size))
  have HD1 : Hid (rfD L S os nm = if dkB L S os then fiG L nm else ByteArray.empty) := Lib.hid rfl
  have HD2 : Hid (rfB L S os nm = (dkB L S os && fnB (fiKs L) nm)) := Lib.hid rfl
  have HK : Hid (dkB L S os = true → flsB L = true) := Lib.hid dkB_fls
  generalize rfD L S os nm = RD at HD1 ⊢
  generalize rfB L S os nm = RB at HD2 ⊢
  obtain ⟨la, lc, rfl, hll, hlm, _⟩ := hL.raw
  unfold maxLen at hlm
  have HP := Lib.hid (fun w h => l14At_any (.slice la L.length lc) L nm w h)
  generalize dkB L S os = DB at HDk0 HD1 HD2 HK
  clear hL hS hO HDk
  cases DB with
  | false =>
    obtain rfl : RD = ByteArray.empty := HD1.out
    obtain rfl : RB = false := HD2.out
    go_enter Try.func47, Try.ntmps47
    go_wp2_with fail
    refine HDk0.out.mono ?_
    rintro e w1 ⟨rfl, hb1⟩
    have hB1 := hb0.trans (hb1.mono hb0.size)
    go_wp2
    go_ret2
    exact ⟨rfl, hB1⟩
  | true =>
    have hfo := flsB_out (HK.out rfl)
    have HFl := Lib.hid (fun h => fnF_lt (es := L) (x := nm) h)
    have HG : Hid (fiG L nm = if fnB (fiKs L) nm then (L[plK (fiKs L) nm]?.getD ⟨ByteArray.empty, ByteArray.empty⟩).da else ByteArray.empty) := Lib.hid rfl
    have HP2 := HP
    have HAT : Hid (fnB (fiKs L) nm = true → atK (fiKs L) nm = ((plK (fiKs L) nm : Nat) : Int)) := Lib.hid (fun h => atF_there hfo.1 h)
    have HAN : Hid (fnB (fiKs L) nm = false → atK (fiKs L) nm = -1) := Lib.hid (fun h => atF_not hfo.1 h)
    generalize atK (fiKs L) nm = AT at HP2 HAT HAN
    generalize fiG L nm = G at HD1 HG
    generalize plK (fiKs L) nm = p at HAT HFl HG
    generalize fnB (fiKs L) nm = f at HAT HAN HD2 HFl HG
    obtain rfl : RD = G := HD1.out
    obtain rfl : RB = f := HD2.out
    clear hfo HP HK
    cases RB with
    | false =>
      obtain rfl : RD = ByteArray.empty := HG.out
      obtain rfl : AT = -1 := HAN.out rfl
      go_enter Try.func47, Try.ntmps47
      go_wp2_with fail
      refine HDk0.out.mono ?_
      rintro e w1 ⟨rfl, hb1⟩
      have hB1 := hb0.trans (hb1.mono hb0.size)
      have hx1 := hx0.keep hb1 hx0.lt
      have f0 := hx1.cell 0 _ rfl
      clear hb0 hb1 hx0
      go_wp2_with fail
      refine (HP2.out _ ((HL.out.below hB1).mono hB1.size)).mono ?_
      rintro e w2 ⟨rfl, hb2⟩
      have hB2 := hB1.trans (hb2.mono hB1.size)
      go_wp2
      go_ret2
      exact ⟨rfl, hB2⟩
    | true =>
      have hpl := HFl.out rfl
      have hGe : RD = L[p].da := by rw [HG.out, if_pos rfl, List.getElem?_eq_getElem hpl]; rfl
      have HCC : Hid (∀ w1, Below w.heap.size w w1 → ∃ b off, la = some ⟨b, off, none⟩ ∧ w1.cell? ⟨b, off + p * 2 + 1, none⟩ = some (.string RD)) := Lib.hid (fun w1 hb1 => by
        obtain ⟨a2, cap2, hv2, _, _, hc2⟩ := (HL.out.below hb1).raw
        cases hv2
        obtain ⟨b2, off2, rfl, _, hr2⟩ := hc2 p hpl
        obtain ⟨d0, d1, _, _⟩ := hr2 p hpl
        rw [hGe]
        exact ⟨b2, off2, rfl, d1⟩)
      have hpd : decide ((p : Int) < (L.length : Int)) = true := decide_eq_true (by omega)
      have hlt0 : decide ((p : Int) < 0) = false := decide_eq_false (by omega)
      clear hGe HG HFl
      obtain rfl : AT = (p : Int) := HAT.out rfl
      go_enter Try.func47, Try.ntmps47
      go_wp2_with fail
      refine HDk0.out.mono ?_
      rintro e w1 ⟨rfl, hb1⟩
      have hB1 := hb0.trans (hb1.mono hb0.size)
      have hx1 := hx0.keep hb1 hx0.lt
      have f0 := hx1.cell 0 _ rfl
      clear hb0 hb1 hx0
      go_wp2_with fail
      refine (HP2.out _ ((HL.out.below hB1).mono hB1.size)).mono ?_
      rintro e w2 ⟨rfl, hb2⟩
      have hB2 := hB1.trans (hb2.mono hB1.size)
      have hx2 := hx1.keep hb2 hx1.lt
      have g0 := hx2.cell 0 _ rfl
      obtain ⟨b, off, rfl, c1⟩ := HCC.out w2 hB2
      go_wp2
      go_ret2
      exact ⟨rfl, hB2⟩

/-- A disk that a call made: its rows lie from B on. -/
def OwDk (w : World) (B : Nat) (vl vs vo : Value) (L S : List Fi) (os : List DOp) : Prop := OwnR 142 2 fiC w B vl L ∧ OwnR 142 2 fiC w B vs S ∧ OwnR 70 4 doC w B vo os

set_option maxRecDepth 100000 in
set_option maxHeartbeats 3000000 in
theorem walk_FnExactReadFile (v : Value) (L S : List Fi) (os : List DOp) (nm : ByteArray) (w : World) (h : DkAt w v L S os) (hnm : nm.size ≤ maxLen) :
    Calls Try.prog 9 #[v, .string nm] w fun e w' => e = .returned (.bool true) ∧ Below w.heap.size w w' := by
  obtain ⟨vl, vs, vo, rfl, hL, hS, hO⟩ := h
  have HL := Lib.hid hL
  have HS := Lib.hid hS
  have HO := Lib.hid hO
  have hb0 : Below w.heap.size w (w.alloc (.cells #[vl, vs, vo] 55)) := (Below.refl _ _).alloc (Nat.le_refl _) _
  have hx0 := Box.new w #[vl, vs, vo] 55
  unfold maxLen at hnm
  clear hL hS hO
  by_cases hlong : 1048576 < nm.size
  · have hlong' : (1048576 : Int) < (nm.size : Int) := by omega
    go_enter Try.func9, Try.ntmps9
    go_wp2
    go_ret
    exact ⟨rfl, hb0⟩
  have hlong' : ¬ (1048576 : Int) < (nm.size : Int) := by omega
  go_enter Try.func9, Try.ntmps9
  go_wp2_with fail
  generalize w.alloc (.cells #[vl, vs, vo] 55) = W0 at hb0 hx0 ⊢
  refine (szDisk_any vl vs vo L S os 1048576 _ ((HL.out.below hb0).mono hb0.size) ((HS.out.below hb0).mono hb0.size) ((HO.out.below hb0).mono hb0.size) (by decide) (by decide)).mono ?_
  rintro e w1 ⟨r, rfl, hr0, hr1, hb1⟩
  have hB1 := hb0.trans (hb1.mono hb0.size)
  have hx1 := hx0.keep hb1 hx0.lt
  have f0 := hx1.cell 0 _ rfl
  have f1 := hx1.cell 1 _ rfl
  have f2 := hx1.cell 2 _ rfl
  clear hb0 hb1 hx0
  by_cases hr : r < 0
  · go_wp2
    go_ret
    exact ⟨rfl, hB1⟩
  · obtain ⟨n1, n2, n3, n4, n5, n6⟩ := hr1 (by omega)
    have HSz : Hid (∀ x ∈ os, x.da.size ≤ 100000000000) := Lib.hid (fun x hx => by
      obtain ⟨j, hj, rfl⟩ := List.getElem_of_mem hx
      have := n6 j hj
      omega)
    have HT := Lib.hid (fun w h1 h2 h3 => toDisk_any vl vs vo L S os w h1 h2 h3 (by omega) (by omega) (by omega))
    have HA := Lib.hid (fun a b c w h1 h2 h3 => specReadFile_any a b c L S os nm w h1 h2 h3 (by omega) (by omega) (by omega))
    have HB := Lib.hid (fun a b c w h1 h2 h3 => implReadFile_any a b c L S os nm w h1 h2 h3 (by omega) (by omega) (by omega))
    have HD := Lib.hid (fun (w' : World) (B : Nat) (a b c : Value) (h : OwDk w' B a b c L S os) => (⟨FiAt.of_own h.1 HL.out.2, FiAt.of_own h.2.1 HS.out.2, ⟨h.2.2.at doC_len, HO.out.2⟩⟩ : FiAt w' w'.heap.size a L ∧ FiAt w' w'.heap.size b S ∧ OaAt w' w'.heap.size c os))
    generalize rfD L S os nm = RS at HA HB
    generalize rfB L S os nm = R at HA HB
    have hRS : (RS.toList == RS.toList) = true := by simp
    clear n6 hr1 n1 n2 n3 n4 n5
    go_wp2_with fail
    refine (HT.out _ ((HL.out.below hB1).mono hB1.size) ((HS.out.below hB1).mono hB1.size) ((HO.out.below hB1).mono hB1.size)).mono ?_
    rintro e w2 ⟨l2, s2, o2, rfl, a1, a2, a3, hb2⟩
    obtain ⟨d1, d2, d3⟩ := HD.out w2 _ _ _ _ ⟨a1, a2, a3⟩
    have HA2 := Lib.hid (HA.out _ _ _ w2 d1 d2 (d3.od HSz.out))
    have hB2 := hB1.trans (hb2.mono hB1.size)
    have hx2 := hx1.keep hb2 hx1.lt
    clear hb2 hB1 hx1 f0 f1 f2 a1 a2 a3 d1 d2 d3 HA
    go_wp2_with fail
    refine HA2.out.mono ?_
    rintro e w3 ⟨rfl, hb3⟩
    have hB3 := hB2.trans (hb3.mono hB2.size)
    have hx3 := hx2.keep hb3 hx2.lt
    have f0 := hx3.cell 0 _ rfl
    have f1 := hx3.cell 1 _ rfl
    have f2 := hx3.cell 2 _ rfl
    clear hb3 hB2 hx2 HA2
    go_wp2_with fail
    refine (HT.out _ ((HL.out.below hB3).mono hB3.size) ((HS.out.below hB3).mono hB3.size) ((HO.out.below hB3).mono hB3.size)).mono ?_
    rintro e w4 ⟨l4, s4, o4, rfl, a1, a2, a3, hb4⟩
    obtain ⟨la4, lc4, rfl⟩ := a1.slice
    obtain ⟨sa4, sc4, rfl⟩ := a2.slice
    obtain ⟨oa4, oc4, rfl⟩ := a3.slice
    have hB4 := hB3.trans (hb4.mono hB3.size)
    have hx4 := hx3.keep hb4 hx3.lt
    have hba : Below w4.heap.size w4 (w4.alloc (.cells #[.slice la4 L.length lc4, .slice sa4 S.length sc4, .slice oa4 os.length oc4] 61)) := (Below.refl _ _).alloc (Nat.le_refl _) _
    have hB5 := hB4.trans (hba.mono hB4.size)
    have hx5 := hx4.keep hba hx4.lt
    have hy5 := Box.new w4 #[.slice la4 L.length lc4, .slice sa4 S.length sc4, .slice oa4 os.length oc4] 61
    have HW5 : Hid (OwDk (w4.alloc (.cells #[.slice la4 L.length lc4, .slice sa4 S.length sc4, .slice oa4 os.length oc4] 61)) w3.heap.size (.slice la4 L.length lc4) (.slice sa4 S.length sc4) (.slice oa4 os.length oc4) L S os) := Lib.hid ⟨a1.keep hba (Nat.le_refl _), a2.keep hba (Nat.le_refl _), a3.keep hba (Nat.le_refl _)⟩
    clear hb4 hB3 hx3 f0 f1 f2 a1 a2 a3 hba hB4 hx4
    go_wp2_with fail
    generalize w4.alloc (.cells #[.slice la4 L.length lc4, .slice sa4 S.length sc4, .slice oa4 os.length oc4] 61) = W5 at hB5 hx5 hy5 HW5 ⊢
    obtain ⟨d1, d2, d3⟩ := HD.out W5 _ _ _ _ HW5.out
    refine (HB.out _ _ _ W5 d1 d2 (d3.od HSz.out)).mono ?_
    rintro e w6 ⟨rfl, hb6⟩
    have hB6 := hB5.trans (hb6.mono hB5.size)
    have HW6 : Hid (OwDk w6 w3.heap.size (.slice la4 L.length lc4) (.slice sa4 S.length sc4) (.slice oa4 os.length oc4) L S os) := Lib.hid ⟨HW5.out.1.keep hb6 (Nat.le_refl _), HW5.out.2.1.keep hb6 (Nat.le_refl _), HW5.out.2.2.keep hb6 (Nat.le_refl _)⟩
    have hx6 := hx5.keep hb6 hx5.lt
    have hy6 := hy5.keep hb6 hy5.lt
    clear d1 d2 d3 hB5 HW5 hx5 hy5 hb6
    have hRR : (R != R) = false := by cases R <;> rfl
    go_wp2
    refine wp_region_T (fun w' => Box w' w4.heap.size #[.slice la4 L.length lc4, .slice sa4 S.length sc4, .slice oa4 os.length oc4] 61 ∧ Box w' w.heap.size #[vl, vs, vo] 55) (fun _ => True) 4 (by kernel_rfl) 5 rfl ?_
    refine wpAnyT_takesA (md := .any) 3 (by kernel_rfl) (by intro d v c a w h; cases d <;> exact h) [0, 1] _ _ _ (by decide) (by kernel_rfl) ⟨⟨hy6, hx6⟩, fun _ => trivial⟩ ?_
    simp only [pick, List.filterMap_cons, List.filterMap_nil, List.getElem?_cons_zero, List.getElem?_cons_succ]
    refine wpIf_step (dkV (.slice la4 L.length lc4) (.slice sa4 S.length sc4) (.slice oa4 os.length oc4)) (by kernel_rfl) (fun w hw => by have e0 := hw.1.cell 0 _ rfl; have e1 := hw.1.cell 1 _ rfl; have e2 := hw.1.cell 2 _ rfl; go_simp) ?_
    refine wpIf_step (dkV vl vs vo) (by kernel_rfl) (fun w hw => by have e0 := hw.2.cell 0 _ rfl; have e1 := hw.2.cell 1 _ rfl; have e2 := hw.2.cell 2 _ rfl; go_simp) ?_
    refine wpIf_nil (fun hS => ?_)
    refine wpAnyT_one 2 2 (by kernel_rfl) rfl (by kernel_rfl) (fun K hK => ?_)
    go_simp
    refine (HT.out w6.drew ((HL.out.below hB6.drew).mono hB6.size) ((HS.out.below hB6.drew).mono hB6.size) ((HO.out.below hB6.drew).mono hB6.size)).mono ?_
    rintro e w7 ⟨l7, s7, o7, rfl, a1, a2, a3, hb7⟩
    have hB7 := hB6.drew.trans (hb7.mono hB6.size)
    have HW7 : Hid (OwDk w7 w3.heap.size (.slice la4 L.length lc4) (.slice sa4 S.length sc4) (.slice oa4 os.length oc4) L S os) := Lib.hid ⟨HW6.out.1.drew.keep hb7 (Nat.le_refl _), HW6.out.2.1.drew.keep hb7 (Nat.le_refl _), HW6.out.2.2.drew.keep hb7 (Nat.le_refl _)⟩
    have hx7 := hx6.drew.keep hb7 hx6.lt
    have hy7 := hy6.drew.keep hb7 hy6.lt
    obtain ⟨d1, d2, d3⟩ := HD.out w7 _ _ _ _ HW7.out
    obtain ⟨g1, g2, g3⟩ := HD.out w7 _ _ _ _ ⟨a1, a2, a3⟩
    have HE := Lib.hid (eqDisk_same _ _ _ _ _ _ L S os w7 d1 d2 d3 g1 g2 g3)
    refine hK _ _ ⟨⟨hy7, hx7⟩, fun _ => trivial⟩ (fun hS3 => ?_)
    clear hK K hS hS3 hb7 a1 a2 a3 d1 d2 d3 g1 g2 g3 hx6 hy6 HW6 HW7 hB6
    refine wpAnyT_one 3 1 (by kernel_rfl) rfl (by kernel_rfl) (fun K hK => ?_)
    go_simp
    refine HE.out.mono ?_
    rintro e w8 ⟨rfl, hb8⟩
    have hB8 := hB7.trans (hb8.mono hB7.size)
    have hx8 := hx7.keep hb8 hx7.lt
    have hy8 := hy7.keep hb8 hy7.lt
    refine hK _ _ ⟨⟨hy8, hx8⟩, fun _ => trivial⟩ (fun hS3 => ?_)
    clear hK K hS3 hb8 hx7 hy7 hB7
    refine wpAnyT_one 4 0 (by kernel_rfl) rfl (by kernel_rfl) (fun K hK => ?_)
    go_simp
    refine hK _ _ ⟨⟨hy8, hx8⟩, fun _ => trivial⟩ (fun hS4 => ?_)
    clear hK K
    refine wpAnyT_over (by kernel_rfl) ?_
    go_wp2
    go_ret
    exact ⟨rfl, hB8⟩
end Go.Proofs.Ytgimjfffdnopiaa

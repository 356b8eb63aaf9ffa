/- Joined: V9r. -/
import Derived.Test.YtffkakpbelknaaaH52
import Derived.Test.YtffkakpbelknaaaH23
/- V9r -/
namespace Go.Proofs.Ytffkakpbelknaaa
open Go.ChangeShapes Go.WideShapes Go.ChangeAt Go.RowKit
set_option linter.unusedVariables false
set_option linter.unusedSimpArgs false

set_option maxRecDepth 100000 in
set_option maxHeartbeats 3000000 in
theorem walk_FnFetchedTwice (aa : Option Addr) (len cap : Nat) (z : List Int) (w : World) (h : IsRow .u8 w aa len cap z) :
    Calls Try.prog 8 #[.slice aa len cap] w fun e w' => e = .returned (.bool true) ∧ Below w.heap.size w w' := by
  have hcd := Cd.of_row h
  clear h
  go_enter Try.func8, Try.ntmps8
  go_wp2_with fail
  refine (big_any _ _ _ hcd).mono ?_
  rintro e w1 ⟨⟨b, rfl⟩, rfl⟩
  cases b with
  | true =>
    go_wp2
    go_ret
    exact ⟨rfl, Below.refl _ _⟩
  | false =>
    go_wp2_with fail
    refine (drawDone_any _ _ _ hcd).mono ?_
    rintro e v1 ⟨V, ss, o, x, rfl, hsz, hso, hS, hI, hd1⟩
    clear hcd
    obtain ⟨ra, rc, hV, hrl, hrm, _⟩ := hS.raw
    subst hV
    unfold maxLen at hrm
    obtain ⟨xa, xc, rfl⟩ := hI.1.slice
    have HSs : Hid (∀ W, Below v1.heap.size v1 W → SbAt W W.heap.size (.slice ra ss.length rc) ss) := Lib.hid (fun W hW => (hS.below hW).mono hW.size)
    have HIs : Hid (∀ W, Below v1.heap.size v1 W → ItAt W W.heap.size (.slice xa o.its.length xc) o.its) := Lib.hid (fun W hW => (hI.below hW).mono hW.size)
    have HSz := Lib.hid hsz
    have HOz : Hid (OpSz o) := Lib.hid (smO_sz hso).1
    have HBw0 := Lib.hid hd1
    clear hS hI hsz hso hd1
    have hxr0 := Box.new v1 #[.slice ra ss.length rc] 26
    have hxr := hxr0.alloc (.cells #[.int .i64 o.k, .string o.u, .string o.i, .int .i64 o.d, .string o.fu, .string o.ft, (.slice xa o.its.length xc)] 31)
    have hxo := Box.new (v1.alloc (.cells #[.slice ra ss.length rc] 26)) #[.int .i64 o.k, .string o.u, .string o.i, .int .i64 o.d, .string o.fu, .string o.ft, (.slice xa o.its.length xc)] 31
    have hBw : Below v1.heap.size v1 ((v1.alloc (.cells #[.slice ra ss.length rc] 26)).alloc (.cells #[.int .i64 o.k, .string o.u, .string o.i, .int .i64 o.d, .string o.fu, .string o.ft, (.slice xa o.its.length xc)] 31)) := ((Below.refl _ _).alloc (Nat.le_refl _) _).alloc (by simp) _
    rw [World.size_alloc] at hxo
    clear hxr0
    cases hA : doV ss o with
    | none =>
      have xxr0 := hxr.cell 0 _ rfl
      have xxo0 := hxo.cell 0 _ rfl
      have xxo1 := hxo.cell 1 _ rfl
      have xxo2 := hxo.cell 2 _ rfl
      have xxo3 := hxo.cell 3 _ rfl
      have xxo4 := hxo.cell 4 _ rfl
      have xxo5 := hxo.cell 5 _ rfl
      have xxo6 := hxo.cell 6 _ rfl
      go_wp2_with fail
      clear xxr0 xxo0 xxo1 xxo2 xxo3 xxo4 xxo5 xxo6
      refine (implDone_no _ _ ss o _ (HSs.out _ hBw) (HIs.out _ hBw) HOz.out hA).mono ?_
      rintro e w2 ⟨V2, q2, rfl, hq2, hD2, hb2⟩
      obtain ⟨a2, c2, hV2⟩ := hD2.1.slice
      have hL2 : q2.length = ([] : List Sb).length := by rw [← hq2, List.length_map]
      rw [hL2] at hV2
      subst hV2
      have HS2 : Hid (SbAt w2 w2.heap.size (.slice a2 ([] : List Sb).length c2) ([] : List Sb)) := Lib.hid (hD2.at hq2 (by simp))
      replace hxr := hxr.keep hb2 hxr.lt
      replace hxo := hxo.keep hb2 hxo.lt
      replace hBw := hBw.trans (hb2.mono hBw.size)
      clear hb2 hq2 hD2 hL2
      have hl02 : ([] : List Sb).length = 0 := rfl
      rw [hl02] at HS2 ⊢
      clear hl02
      have hxa := Box.new w2 #[.slice a2 0 c2] 26
      have hba : Below w2.heap.size w2 (w2.alloc (.cells #[.slice a2 0 c2] 26)) := (Below.refl _ _).alloc (Nat.le_refl _) _
      replace hxr := hxr.keep hba hxr.lt
      replace hxo := hxo.keep hba hxo.lt
      replace HS2 := Lib.hid ((HS2.out.below hba).mono hba.size)
      replace hBw := hBw.trans (hba.mono hBw.size)
      clear hba
      have xxr0 := hxr.cell 0 _ rfl
      have xxo0 := hxo.cell 0 _ rfl
      have xxo1 := hxo.cell 1 _ rfl
      have xxo2 := hxo.cell 2 _ rfl
      have xxo3 := hxo.cell 3 _ rfl
      have xxo4 := hxo.cell 4 _ rfl
      have xxo5 := hxo.cell 5 _ rfl
      have xxo6 := hxo.cell 6 _ rfl
      go_wp2_with fail
      clear xxr0 xxo0 xxo1 xxo2 xxo3 xxo4 xxo5 xxo6
      generalize w2.alloc (.cells #[.slice a2 0 c2] 26) = W2 at hxr hxo hxa HS2 hBw ⊢
      generalize w2.heap.size = g2 at hxa ⊢
      refine (specDone_no _ _ ss o _ (HSs.out _ hBw) (HIs.out _ hBw) HOz.out hA).mono ?_
      rintro e w3 ⟨V3, q3, rfl, hq3, hD3, hb3⟩
      obtain ⟨a3, c3, hV3⟩ := hD3.1.slice
      have hL3 : q3.length = ([] : List Sb).length := by rw [← hq3, List.length_map]
      rw [hL3] at hV3
      subst hV3
      have HS3 : Hid (SbAt w3 w3.heap.size (.slice a3 ([] : List Sb).length c3) ([] : List Sb)) := Lib.hid (hD3.at hq3 (by simp))
      replace hxr := hxr.keep hb3 hxr.lt
      replace hxo := hxo.keep hb3 hxo.lt
      replace hxa := hxa.keep hb3 hxa.lt
      replace HS2 := Lib.hid ((HS2.out.below hb3).mono hb3.size)
      replace hBw := hBw.trans (hb3.mono hBw.size)
      clear hb3 hq3 hD3 hL3
      have hl03 : ([] : List Sb).length = 0 := rfl
      rw [hl03] at HS3 ⊢
      clear hl03
      have hxw := Box.new w3 #[.slice a3 0 c3] 26
      have hba : Below w3.heap.size w3 (w3.alloc (.cells #[.slice a3 0 c3] 26)) := (Below.refl _ _).alloc (Nat.le_refl _) _
      replace hxr := hxr.keep hba hxr.lt
      replace hxo := hxo.keep hba hxo.lt
      replace hxa := hxa.keep hba hxa.lt
      replace HS2 := Lib.hid ((HS2.out.below hba).mono hba.size)
      replace HS3 := Lib.hid ((HS3.out.below hba).mono hba.size)
      replace hBw := hBw.trans (hba.mono hBw.size)
      clear hba
      have xxa0 := hxa.cell 0 _ rfl
      have xxw0 := hxw.cell 0 _ rfl
      go_wp2_with fail
      clear xxa0 xxw0
      generalize w3.alloc (.cells #[.slice a3 0 c3] 26) = W3 at hxr hxo hxa hxw HS2 HS3 hBw ⊢
      generalize w3.heap.size = g3 at hxw ⊢
      refine (sameReader_any _ _ [] _ HS2.out HS3.out).mono ?_
      rintro e w4 ⟨rfl, hb4⟩
      replace hxr := hxr.keep hb4 hxr.lt
      replace hxo := hxo.keep hb4 hxo.lt
      replace hxa := hxa.keep hb4 hxa.lt
      replace hxw := hxw.keep hb4 hxw.lt
      replace HS2 := Lib.hid ((HS2.out.below hb4).mono hb4.size)
      replace HS3 := Lib.hid ((HS3.out.below hb4).mono hb4.size)
      replace hBw := hBw.trans (hb4.mono hBw.size)
      clear hb4
      have xxa0 := hxa.cell 0 _ rfl
      have xxw0 := hxw.cell 0 _ rfl
      go_wp2_with fail
      clear xxa0 xxw0
      refine (sameReader_any _ _ [] _ HS2.out HS3.out).mono ?_
      rintro e w5 ⟨rfl, hb5⟩
      replace hxr := hxr.keep hb5 hxr.lt
      replace hxo := hxo.keep hb5 hxo.lt
      replace hxa := hxa.keep hb5 hxa.lt
      replace hxw := hxw.keep hb5 hxw.lt
      replace HS2 := Lib.hid ((HS2.out.below hb5).mono hb5.size)
      replace HS3 := Lib.hid ((HS3.out.below hb5).mono hb5.size)
      replace hBw := hBw.trans (hb5.mono hBw.size)
      clear hb5
      go_wp2
      go_ret
      exact ⟨rfl, HBw0.out.trans (hBw.mono HBw0.out.size)⟩
    | some rs =>
      have HA := Lib.hid hA
      have HZR := Lib.hid (rd_sz (doV_rd hA))
      have HF := Lib.hid (fun hk => doV_ft hA hk)
      clear hA
      have xxr0 := hxr.cell 0 _ rfl
      have xxo0 := hxo.cell 0 _ rfl
      have xxo1 := hxo.cell 1 _ rfl
      have xxo2 := hxo.cell 2 _ rfl
      have xxo3 := hxo.cell 3 _ rfl
      have xxo4 := hxo.cell 4 _ rfl
      have xxo5 := hxo.cell 5 _ rfl
      have xxo6 := hxo.cell 6 _ rfl
      go_wp2_with fail
      clear xxr0 xxo0 xxo1 xxo2 xxo3 xxo4 xxo5 xxo6
      refine (implDone_some _ _ ss rs o _ (HSs.out _ hBw) (HIs.out _ hBw) HOz.out HA.out).mono ?_
      rintro e w2 ⟨V2, q2, rfl, hq2, hD2, hb2⟩
      obtain ⟨a2, c2, hV2⟩ := hD2.1.slice
      have hL2 : q2.length = rs.length := by rw [← hq2, List.length_map]
      rw [hL2] at hV2
      subst hV2
      have HS2 : Hid (SbAt w2 w2.heap.size (.slice a2 rs.length c2) rs) := Lib.hid (hD2.at hq2 HZR.out)
      replace hxr := hxr.keep hb2 hxr.lt
      replace hxo := hxo.keep hb2 hxo.lt
      replace hBw := hBw.trans (hb2.mono hBw.size)
      clear hb2 hq2 hD2 hL2
      have hxa := Box.new w2 #[.slice a2 rs.length c2] 26
      have hba : Below w2.heap.size w2 (w2.alloc (.cells #[.slice a2 rs.length c2] 26)) := (Below.refl _ _).alloc (Nat.le_refl _) _
      replace hxr := hxr.keep hba hxr.lt
      replace hxo := hxo.keep hba hxo.lt
      replace HS2 := Lib.hid ((HS2.out.below hba).mono hba.size)
      replace hBw := hBw.trans (hba.mono hBw.size)
      clear hba
      have xxr0 := hxr.cell 0 _ rfl
      have xxo0 := hxo.cell 0 _ rfl
      have xxo1 := hxo.cell 1 _ rfl
      have xxo2 := hxo.cell 2 _ rfl
      have xxo3 := hxo.cell 3 _ rfl
      have xxo4 := hxo.cell 4 _ rfl
      have xxo5 := hxo.cell 5 _ rfl
      have xxo6 := hxo.cell 6 _ rfl
      go_wp2_with fail
      clear xxr0 xxo0 xxo1 xxo2 xxo3 xxo4 xxo5 xxo6
      generalize w2.alloc (.cells #[.slice a2 rs.length c2] 26) = W2 at hxr hxo hxa HS2 hBw ⊢
      generalize w2.heap.size = g2 at hxa ⊢
      refine (specDone_some _ _ ss rs o _ (HSs.out _ hBw) (HIs.out _ hBw) HOz.out HA.out).mono ?_
      rintro e w3 ⟨V3, q3, rfl, hq3, hD3, hb3⟩
      obtain ⟨a3, c3, hV3⟩ := hD3.1.slice
      have hL3 : q3.length = rs.length := by rw [← hq3, List.length_map]
      rw [hL3] at hV3
      subst hV3
      have HS3 : Hid (SbAt w3 w3.heap.size (.slice a3 rs.length c3) rs) := Lib.hid (hD3.at hq3 HZR.out)
      replace hxr := hxr.keep hb3 hxr.lt
      replace hxo := hxo.keep hb3 hxo.lt
      replace hxa := hxa.keep hb3 hxa.lt
      replace HS2 := Lib.hid ((HS2.out.below hb3).mono hb3.size)
      replace hBw := hBw.trans (hb3.mono hBw.size)
      clear hb3 hq3 hD3 hL3
      have hxw := Box.new w3 #[.slice a3 rs.length c3] 26
      have hba : Below w3.heap.size w3 (w3.alloc (.cells #[.slice a3 rs.length c3] 26)) := (Below.refl _ _).alloc (Nat.le_refl _) _
      replace hxr := hxr.keep hba hxr.lt
      replace hxo := hxo.keep hba hxo.lt
      replace hxa := hxa.keep hba hxa.lt
      replace HS2 := Lib.hid ((HS2.out.below hba).mono hba.size)
      replace HS3 := Lib.hid ((HS3.out.below hba).mono hba.size)
      replace hBw := hBw.trans (hba.mono hBw.size)
      clear hba
      have xxa0 := hxa.cell 0 _ rfl
      have xxw0 := hxw.cell 0 _ rfl
      go_wp2_with fail
      clear xxa0 xxw0
      generalize w3.alloc (.cells #[.slice a3 rs.length c3] 26) = W3 at hxr hxo hxa hxw HS2 HS3 hBw ⊢
      generalize w3.heap.size = g3 at hxw ⊢
      refine (sameReader_any _ _ rs _ HS2.out HS3.out).mono ?_
      rintro e w4 ⟨rfl, hb4⟩
      replace hxr := hxr.keep hb4 hxr.lt
      replace hxo := hxo.keep hb4 hxo.lt
      replace hxa := hxa.keep hb4 hxa.lt
      replace hxw := hxw.keep hb4 hxw.lt
      replace HS2 := Lib.hid ((HS2.out.below hb4).mono hb4.size)
      replace HS3 := Lib.hid ((HS3.out.below hb4).mono hb4.size)
      replace hBw := hBw.trans (hb4.mono hBw.size)
      clear hb4
      by_cases hk : o.k = 3
      case neg =>
        have hk3 : (o.k != 3) = true := by simp [hk]
        clear hk HF
        have xxa0 := hxa.cell 0 _ rfl
        have xxw0 := hxw.cell 0 _ rfl
        have xxo0 := hxo.cell 0 _ rfl
        go_wp2_with fail
        clear xxa0 xxw0 xxo0
        refine (sameReader_any _ _ rs _ HS2.out HS3.out).mono ?_
        rintro e w5 ⟨rfl, hb5⟩
        replace hxr := hxr.keep hb5 hxr.lt
        replace hxo := hxo.keep hb5 hxo.lt
        replace hxa := hxa.keep hb5 hxa.lt
        replace hxw := hxw.keep hb5 hxw.lt
        replace HS2 := Lib.hid ((HS2.out.below hb5).mono hb5.size)
        replace HS3 := Lib.hid ((HS3.out.below hb5).mono hb5.size)
        replace hBw := hBw.trans (hb5.mono hBw.size)
        clear hb5
        go_wp2
        go_ret
        exact ⟨rfl, HBw0.out.trans (hBw.mono HBw0.out.size)⟩
      have hk3 : (o.k != 3) = false := by simp [hk]
      obtain ⟨rs2, hd2, hsm⟩ := HF.out hk
      have HD2 := Lib.hid hd2
      have HZ2 := Lib.hid (rd_sz (doV_rd hd2))
      obtain ⟨m0, m1, m2, hm⟩ : ∃ a b c, ctV rs o.fu = (a, b, c) := ⟨_, _, _, rfl⟩
      have HM := Lib.hid hm
      have HSM : Hid (m0 ≠ 12 → rs2 = rs) := Lib.hid (by rw [hm] at hsm; exact hsm)
      clear hd2 hm hsm hk HF
      have xxa0 := hxa.cell 0 _ rfl
      have xxo0 := hxo.cell 0 _ rfl
      have xxo4 := hxo.cell 4 _ rfl
      go_wp2_with fail
      clear xxa0 xxo0 xxo4
      have hct5 := implCounts_any _ rs o.fu _ HS2.out
      rw [HM.out] at hct5
      simp only [c3V] at hct5
      refine hct5.mono ?_
      rintro e w5 ⟨rfl, hb5⟩
      clear hct5
      replace hxr := hxr.keep hb5 hxr.lt
      replace hxo := hxo.keep hb5 hxo.lt
      replace hxa := hxa.keep hb5 hxa.lt
      replace hxw := hxw.keep hb5 hxw.lt
      replace HS2 := Lib.hid ((HS2.out.below hb5).mono hb5.size)
      replace HS3 := Lib.hid ((HS3.out.below hb5).mono hb5.size)
      replace hBw := hBw.trans (hb5.mono hBw.size)
      clear hb5
      have xxa0 := hxa.cell 0 _ rfl
      have xxo0 := hxo.cell 0 _ rfl
      have xxo1 := hxo.cell 1 _ rfl
      have xxo2 := hxo.cell 2 _ rfl
      have xxo3 := hxo.cell 3 _ rfl
      have xxo4 := hxo.cell 4 _ rfl
      have xxo5 := hxo.cell 5 _ rfl
      have xxo6 := hxo.cell 6 _ rfl
      go_wp2_with fail
      clear xxa0 xxo0 xxo1 xxo2 xxo3 xxo4 xxo5 xxo6
      refine (implDone_some _ _ rs rs2 o _ HS2.out (HIs.out _ hBw) HOz.out HD2.out).mono ?_
      rintro e w6 ⟨V6, q6, rfl, hq6, hD6, hb6⟩
      obtain ⟨a6, c6, hV6⟩ := hD6.1.slice
      have hL6 : q6.length = rs2.length := by rw [← hq6, List.length_map]
      rw [hL6] at hV6
      subst hV6
      have HS6 : Hid (SbAt w6 w6.heap.size (.slice a6 rs2.length c6) rs2) := Lib.hid (hD6.at hq6 HZ2.out)
      replace hxr := hxr.keep hb6 hxr.lt
      replace hxo := hxo.keep hb6 hxo.lt
      replace hxa := hxa.keep hb6 hxa.lt
      replace hxw := hxw.keep hb6 hxw.lt
      replace HS2 := Lib.hid ((HS2.out.below hb6).mono hb6.size)
      replace HS3 := Lib.hid ((HS3.out.below hb6).mono hb6.size)
      replace hBw := hBw.trans (hb6.mono hBw.size)
      clear hb6 hq6 hD6 hL6
      have hxb := Box.new w6 #[.slice a6 rs2.length c6] 26
      have hba : Below w6.heap.size w6 (w6.alloc (.cells #[.slice a6 rs2.length c6] 26)) := (Below.refl _ _).alloc (Nat.le_refl _) _
      replace hxr := hxr.keep hba hxr.lt
      replace hxo := hxo.keep hba hxo.lt
      replace hxa := hxa.keep hba hxa.lt
      replace hxw := hxw.keep hba hxw.lt
      replace HS2 := Lib.hid ((HS2.out.below hba).mono hba.size)
      replace HS3 := Lib.hid ((HS3.out.below hba).mono hba.size)
      replace HS6 := Lib.hid ((HS6.out.below hba).mono hba.size)
      replace hBw := hBw.trans (hba.mono hBw.size)
      clear hba
      by_cases h12 : m0 = 12
      case pos =>
        have h12b : ((m0 : Int) == 12) = true := by rw [h12]; rfl
        clear h12
        go_wp2
        go_ret
        exact ⟨rfl, HBw0.out.trans (hBw.mono HBw0.out.size)⟩
      have h12b : ((m0 : Int) == 12) = false := by simp; omega
      have e2 := HSM.out h12
      subst e2
      clear h12
      have xxb0 := hxb.cell 0 _ rfl
      have xxa0 := hxa.cell 0 _ rfl
      go_wp2_with fail
      clear xxb0 xxa0
      generalize w6.alloc (.cells #[.slice a6 rs2.length c6] 26) = W6 at hxr hxo hxa hxw hxb HS2 HS3 HS6 hBw ⊢
      generalize w6.heap.size = g6 at hxb ⊢
      refine (sameReader_any _ _ rs2 _ HS6.out HS2.out).mono ?_
      rintro e w7 ⟨rfl, hb7⟩
      replace hxr := hxr.keep hb7 hxr.lt
      replace hxo := hxo.keep hb7 hxo.lt
      replace hxa := hxa.keep hb7 hxa.lt
      replace hxw := hxw.keep hb7 hxw.lt
      replace hxb := hxb.keep hb7 hxb.lt
      replace HS2 := Lib.hid ((HS2.out.below hb7).mono hb7.size)
      replace HS3 := Lib.hid ((HS3.out.below hb7).mono hb7.size)
      replace HS6 := Lib.hid ((HS6.out.below hb7).mono hb7.size)
      replace hBw := hBw.trans (hb7.mono hBw.size)
      clear hb7
      go_wp2
      go_ret
      exact ⟨rfl, HBw0.out.trans (hBw.mono HBw0.out.size)⟩
end Go.Proofs.Ytffkakpbelknaaa

/- Joined: V9p. -/
import Derived.Test.YtffkakpbelknaaaH52
/- V9p -/
namespace Go.Proofs.Ytffkakpbelknaaa
open Go.ChangeShapes Go.WideShapes Go.ChangeAt Go.RowKit
set_option linter.unusedVariables false
set_option linter.unusedSimpArgs false

set_option maxRecDepth 100000 in
set_option maxHeartbeats 3000000 in
theorem walk_FnPurgedTwice (aa : Option Addr) (len cap : Nat) (z : List Int) (w : World) (h : IsRow .u8 w aa len cap z) :
    Calls Try.prog 6 #[.slice aa len cap] w fun e w' => e = .returned (.bool true) ∧ Below w.heap.size w w' := by
  have hcd := Cd.of_row h
  clear h
  go_enter Try.func6, Try.ntmps6
  go_wp2_with fail
  refine (big_any _ _ _ hcd).mono ?_
  rintro e w1 ⟨⟨b, rfl⟩, rfl⟩
  cases b with
  | true =>
    go_wp2
    go_ret
    exact ⟨rfl, Below.refl _ _⟩
  | false =>
    go_wp2_with fail
    refine (drawDone_any _ _ _ hcd).mono ?_
    rintro e v1 ⟨V, ss, o, x, rfl, hsz, hso, hS, hI, hd1⟩
    clear hcd
    obtain ⟨ra, rc, hV, hrl, hrm, _⟩ := hS.raw
    subst hV
    unfold maxLen at hrm
    obtain ⟨xa, xc, rfl⟩ := hI.1.slice
    have HSs : Hid (∀ W, Below v1.heap.size v1 W → SbAt W W.heap.size (.slice ra ss.length rc) ss) := Lib.hid (fun W hW => (hS.below hW).mono hW.size)
    have HIs : Hid (∀ W, Below v1.heap.size v1 W → ItAt W W.heap.size (.slice xa o.its.length xc) o.its) := Lib.hid (fun W hW => (hI.below hW).mono hW.size)
    have HSz := Lib.hid hsz
    have HOz : Hid (OpSz o) := Lib.hid (smO_sz hso).1
    have HBw0 := Lib.hid hd1
    clear hS hI hsz hso hd1
    have hxr0 := Box.new v1 #[.slice ra ss.length rc] 26
    have hxr := hxr0.alloc (.cells #[.int .i64 o.k, .string o.u, .string o.i, .int .i64 o.d, .string o.fu, .string o.ft, (.slice xa o.its.length xc)] 31)
    have hxo := Box.new (v1.alloc (.cells #[.slice ra ss.length rc] 26)) #[.int .i64 o.k, .string o.u, .string o.i, .int .i64 o.d, .string o.fu, .string o.ft, (.slice xa o.its.length xc)] 31
    have hBw : Below v1.heap.size v1 ((v1.alloc (.cells #[.slice ra ss.length rc] 26)).alloc (.cells #[.int .i64 o.k, .string o.u, .string o.i, .int .i64 o.d, .string o.fu, .string o.ft, (.slice xa o.its.length xc)] 31)) := ((Below.refl _ _).alloc (Nat.le_refl _) _).alloc (by simp) _
    rw [World.size_alloc] at hxo
    clear hxr0
    have hxe := Box.new ((v1.alloc (.cells #[.slice ra ss.length rc] 26)).alloc (.cells #[.int .i64 o.k, .string o.u, .string o.i, .int .i64 o.d, .string o.fu, .string o.ft, (.slice xa o.its.length xc)] 31)) #[.int .i64 9, .string ⟨#[]⟩, .string ⟨#[]⟩, .int .i64 (20000 + (len : Int) % 4), .string ⟨#[]⟩, .string ⟨#[]⟩, .slice none 0 0] 31
    rw [World.size_alloc, World.size_alloc] at hxe
    replace hxr := hxr.alloc (.cells #[.int .i64 9, .string ⟨#[]⟩, .string ⟨#[]⟩, .int .i64 (20000 + (len : Int) % 4), .string ⟨#[]⟩, .string ⟨#[]⟩, .slice none 0 0] 31)
    replace hxo := hxo.alloc (.cells #[.int .i64 9, .string ⟨#[]⟩, .string ⟨#[]⟩, .int .i64 (20000 + (len : Int) % 4), .string ⟨#[]⟩, .string ⟨#[]⟩, .slice none 0 0] 31)
    replace hBw := hBw.alloc hBw.size (.cells #[.int .i64 9, .string ⟨#[]⟩, .string ⟨#[]⟩, .int .i64 (20000 + (len : Int) % 4), .string ⟨#[]⟩, .string ⟨#[]⟩, .slice none 0 0] 31)
    have hxl := Box.new (((v1.alloc (.cells #[.slice ra ss.length rc] 26)).alloc (.cells #[.int .i64 o.k, .string o.u, .string o.i, .int .i64 o.d, .string o.fu, .string o.ft, (.slice xa o.its.length xc)] 31)).alloc (.cells #[.int .i64 9, .string ⟨#[]⟩, .string ⟨#[]⟩, .int .i64 (20000 + (len : Int) % 4), .string ⟨#[]⟩, .string ⟨#[]⟩, .slice none 0 0] 31)) #[.int .i64 9, .string ⟨#[]⟩, .string ⟨#[]⟩, .int .i64 (20004 + (len : Int) % 5), .string ⟨#[]⟩, .string ⟨#[]⟩, .slice none 0 0] 31
    rw [World.size_alloc, World.size_alloc, World.size_alloc] at hxl
    replace hxr := hxr.alloc (.cells #[.int .i64 9, .string ⟨#[]⟩, .string ⟨#[]⟩, .int .i64 (20004 + (len : Int) % 5), .string ⟨#[]⟩, .string ⟨#[]⟩, .slice none 0 0] 31)
    replace hxo := hxo.alloc (.cells #[.int .i64 9, .string ⟨#[]⟩, .string ⟨#[]⟩, .int .i64 (20004 + (len : Int) % 5), .string ⟨#[]⟩, .string ⟨#[]⟩, .slice none 0 0] 31)
    replace hxe := hxe.alloc (.cells #[.int .i64 9, .string ⟨#[]⟩, .string ⟨#[]⟩, .int .i64 (20004 + (len : Int) % 5), .string ⟨#[]⟩, .string ⟨#[]⟩, .slice none 0 0] 31)
    replace hBw := hBw.alloc hBw.size (.cells #[.int .i64 9, .string ⟨#[]⟩, .string ⟨#[]⟩, .int .i64 (20004 + (len : Int) % 5), .string ⟨#[]⟩, .string ⟨#[]⟩, .slice none 0 0] 31)
    have hE0 : 0 ≤ (20000 + (len : Int) % 4) := by omega
    have hE1 : (20000 + (len : Int) % 4) ≤ 200000 := by omega
    have hL0 : 0 ≤ (20004 + (len : Int) % 5) := by omega
    have hL1 : (20004 + (len : Int) % 5) ≤ 200000 := by omega
    have hEL : (20000 + (len : Int) % 4) ≤ (20004 + (len : Int) % 5) := by omega
    have hEL2 := hEL
    cases hrB : rdB ss with
    | false =>
      have hNo := doV_bad (o := opPg (20000 + (len : Int) % 4)) hrB
      have xxr0 := hxr.cell 0 _ rfl
      have xxe0 := hxe.cell 0 _ rfl
      have xxe1 := hxe.cell 1 _ rfl
      have xxe2 := hxe.cell 2 _ rfl
      have xxe3 := hxe.cell 3 _ rfl
      have xxe4 := hxe.cell 4 _ rfl
      have xxe5 := hxe.cell 5 _ rfl
      have xxe6 := hxe.cell 6 _ rfl
      go_wp2_with fail
      clear xxr0 xxe0 xxe1 xxe2 xxe3 xxe4 xxe5 xxe6
      refine (implDone_no _ _ ss (opPg (20000 + (len : Int) % 4)) _ (HSs.out _ hBw) (itAt_nil _ _) (opSz_pg _) hNo).mono ?_
      rintro e w2 ⟨V2, q2, rfl, hq2, hD2, hb2⟩
      obtain ⟨a2, c2, hV2⟩ := hD2.1.slice
      have hL2 : q2.length = ([] : List Sb).length := by rw [← hq2, List.length_map]
      rw [hL2] at hV2
      subst hV2
      have HS2 : Hid (SbAt w2 w2.heap.size (.slice a2 ([] : List Sb).length c2) ([] : List Sb)) := Lib.hid (hD2.at hq2 (by simp))
      replace hxr := hxr.keep hb2 hxr.lt
      replace hxo := hxo.keep hb2 hxo.lt
      replace hxe := hxe.keep hb2 hxe.lt
      replace hxl := hxl.keep hb2 hxl.lt
      replace hBw := hBw.trans (hb2.mono hBw.size)
      clear hb2 hq2 hD2 hL2
      have hl02 : ([] : List Sb).length = 0 := rfl
      rw [hl02] at HS2 ⊢
      clear hl02
      have hxa := Box.new w2 #[.slice a2 0 c2] 26
      have hba : Below w2.heap.size w2 (w2.alloc (.cells #[.slice a2 0 c2] 26)) := (Below.refl _ _).alloc (Nat.le_refl _) _
      replace hxr := hxr.keep hba hxr.lt
      replace hxo := hxo.keep hba hxo.lt
      replace hxe := hxe.keep hba hxe.lt
      replace hxl := hxl.keep hba hxl.lt
      replace HS2 := Lib.hid ((HS2.out.below hba).mono hba.size)
      replace hBw := hBw.trans (hba.mono hBw.size)
      clear hba
      have xxr0 := hxr.cell 0 _ rfl
      have xxe0 := hxe.cell 0 _ rfl
      have xxe1 := hxe.cell 1 _ rfl
      have xxe2 := hxe.cell 2 _ rfl
      have xxe3 := hxe.cell 3 _ rfl
      have xxe4 := hxe.cell 4 _ rfl
      have xxe5 := hxe.cell 5 _ rfl
      have xxe6 := hxe.cell 6 _ rfl
      go_wp2_with fail
      clear xxr0 xxe0 xxe1 xxe2 xxe3 xxe4 xxe5 xxe6
      generalize w2.alloc (.cells #[.slice a2 0 c2] 26) = W2 at hxr hxo hxe hxl hxa HS2 hBw ⊢
      generalize w2.heap.size = g2 at hxa ⊢
      refine (specDone_no _ _ ss (opPg (20000 + (len : Int) % 4)) _ (HSs.out _ hBw) (itAt_nil _ _) (opSz_pg _) hNo).mono ?_
      rintro e w3 ⟨V3, q3, rfl, hq3, hD3, hb3⟩
      obtain ⟨a3, c3, hV3⟩ := hD3.1.slice
      have hL3 : q3.length = ([] : List Sb).length := by rw [← hq3, List.length_map]
      rw [hL3] at hV3
      subst hV3
      have HS3 : Hid (SbAt w3 w3.heap.size (.slice a3 ([] : List Sb).length c3) ([] : List Sb)) := Lib.hid (hD3.at hq3 (by simp))
      replace hxr := hxr.keep hb3 hxr.lt
      replace hxo := hxo.keep hb3 hxo.lt
      replace hxe := hxe.keep hb3 hxe.lt
      replace hxl := hxl.keep hb3 hxl.lt
      replace hxa := hxa.keep hb3 hxa.lt
      replace HS2 := Lib.hid ((HS2.out.below hb3).mono hb3.size)
      replace hBw := hBw.trans (hb3.mono hBw.size)
      clear hb3 hq3 hD3 hL3
      have hl03 : ([] : List Sb).length = 0 := rfl
      rw [hl03] at HS3 ⊢
      clear hl03
      have hxw := Box.new w3 #[.slice a3 0 c3] 26
      have hba : Below w3.heap.size w3 (w3.alloc (.cells #[.slice a3 0 c3] 26)) := (Below.refl _ _).alloc (Nat.le_refl _) _
      replace hxr := hxr.keep hba hxr.lt
      replace hxo := hxo.keep hba hxo.lt
      replace hxe := hxe.keep hba hxe.lt
      replace hxl := hxl.keep hba hxl.lt
      replace hxa := hxa.keep hba hxa.lt
      replace HS2 := Lib.hid ((HS2.out.below hba).mono hba.size)
      replace HS3 := Lib.hid ((HS3.out.below hba).mono hba.size)
      replace hBw := hBw.trans (hba.mono hBw.size)
      clear hba
      go_wp2
      go_ret
      exact ⟨rfl, HBw0.out.trans (hBw.mono HBw0.out.size)⟩
    | true =>
      obtain ⟨A, hA⟩ : ∃ A, doV ss (opPg (20000 + (len : Int) % 4)) = some A := ⟨_, doV_pg hE0 hE1 hrB⟩
      obtain ⟨X, hX⟩ : ∃ X, doV ss (opPg (20004 + (len : Int) % 5)) = some X := ⟨_, doV_pg hL0 hL1 hrB⟩
      have eA : A = pgS ss (20000 + (len : Int) % 4) := by rw [doV_pg hE0 hE1 hrB] at hA; exact (Option.some.inj hA).symm
      have eX : X = pgS ss (20004 + (len : Int) % 5) := by rw [doV_pg hL0 hL1 hrB] at hX; exact (Option.some.inj hX).symm
      have hAX : doV A (opPg (20004 + (len : Int) % 5)) = some X := by rw [doV_pg hL0 hL1 (doV_rd hA), eA, eX, pgS_up ss hEL]
      have hXX : doV X (opPg (20000 + (len : Int) % 4)) = some X := by rw [doV_pg hE0 hE1 (doV_rd hX), eX, pgS_down ss hEL]
      have HA := Lib.hid hA
      have HX := Lib.hid hX
      have HAX := Lib.hid hAX
      have HXX := Lib.hid hXX
      have HZA := Lib.hid (rd_sz (doV_rd hA))
      have HZX := Lib.hid (rd_sz (doV_rd hX))
      clear hA hX eA eX hAX hXX hrB hE0 hE1 hL0 hL1 hEL hEL2
      have xxr0 := hxr.cell 0 _ rfl
      have xxe0 := hxe.cell 0 _ rfl
      have xxe1 := hxe.cell 1 _ rfl
      have xxe2 := hxe.cell 2 _ rfl
      have xxe3 := hxe.cell 3 _ rfl
      have xxe4 := hxe.cell 4 _ rfl
      have xxe5 := hxe.cell 5 _ rfl
      have xxe6 := hxe.cell 6 _ rfl
      go_wp2_with fail
      clear xxr0 xxe0 xxe1 xxe2 xxe3 xxe4 xxe5 xxe6
      refine (implDone_some _ _ ss A (opPg (20000 + (len : Int) % 4)) _ (HSs.out _ hBw) (itAt_nil _ _) (opSz_pg _) HA.out).mono ?_
      rintro e w2 ⟨V2, q2, rfl, hq2, hD2, hb2⟩
      obtain ⟨a2, c2, hV2⟩ := hD2.1.slice
      have hL2 : q2.length = A.length := by rw [← hq2, List.length_map]
      rw [hL2] at hV2
      subst hV2
      have HS2 : Hid (SbAt w2 w2.heap.size (.slice a2 A.length c2) A) := Lib.hid (hD2.at hq2 HZA.out)
      replace hxr := hxr.keep hb2 hxr.lt
      replace hxo := hxo.keep hb2 hxo.lt
      replace hxe := hxe.keep hb2 hxe.lt
      replace hxl := hxl.keep hb2 hxl.lt
      replace hBw := hBw.trans (hb2.mono hBw.size)
      clear hb2 hq2 hD2 hL2
      have hxa := Box.new w2 #[.slice a2 A.length c2] 26
      have hba : Below w2.heap.size w2 (w2.alloc (.cells #[.slice a2 A.length c2] 26)) := (Below.refl _ _).alloc (Nat.le_refl _) _
      replace hxr := hxr.keep hba hxr.lt
      replace hxo := hxo.keep hba hxo.lt
      replace hxe := hxe.keep hba hxe.lt
      replace hxl := hxl.keep hba hxl.lt
      replace HS2 := Lib.hid ((HS2.out.below hba).mono hba.size)
      replace hBw := hBw.trans (hba.mono hBw.size)
      clear hba
      have xxr0 := hxr.cell 0 _ rfl
      have xxe0 := hxe.cell 0 _ rfl
      have xxe1 := hxe.cell 1 _ rfl
      have xxe2 := hxe.cell 2 _ rfl
      have xxe3 := hxe.cell 3 _ rfl
      have xxe4 := hxe.cell 4 _ rfl
      have xxe5 := hxe.cell 5 _ rfl
      have xxe6 := hxe.cell 6 _ rfl
      go_wp2_with fail
      clear xxr0 xxe0 xxe1 xxe2 xxe3 xxe4 xxe5 xxe6
      generalize w2.alloc (.cells #[.slice a2 A.length c2] 26) = W2 at hxr hxo hxe hxl hxa HS2 hBw ⊢
      generalize w2.heap.size = g2 at hxa ⊢
      refine (specDone_some _ _ ss A (opPg (20000 + (len : Int) % 4)) _ (HSs.out _ hBw) (itAt_nil _ _) (opSz_pg _) HA.out).mono ?_
      rintro e w3 ⟨V3, q3, rfl, hq3, hD3, hb3⟩
      obtain ⟨a3, c3, hV3⟩ := hD3.1.slice
      have hL3 : q3.length = A.length := by rw [← hq3, List.length_map]
      rw [hL3] at hV3
      subst hV3
      have HS3 : Hid (SbAt w3 w3.heap.size (.slice a3 A.length c3) A) := Lib.hid (hD3.at hq3 HZA.out)
      replace hxr := hxr.keep hb3 hxr.lt
      replace hxo := hxo.keep hb3 hxo.lt
      replace hxe := hxe.keep hb3 hxe.lt
      replace hxl := hxl.keep hb3 hxl.lt
      replace hxa := hxa.keep hb3 hxa.lt
      replace HS2 := Lib.hid ((HS2.out.below hb3).mono hb3.size)
      replace hBw := hBw.trans (hb3.mono hBw.size)
      clear hb3 hq3 hD3 hL3
      have hxw := Box.new w3 #[.slice a3 A.length c3] 26
      have hba : Below w3.heap.size w3 (w3.alloc (.cells #[.slice a3 A.length c3] 26)) := (Below.refl _ _).alloc (Nat.le_refl _) _
      replace hxr := hxr.keep hba hxr.lt
      replace hxo := hxo.keep hba hxo.lt
      replace hxe := hxe.keep hba hxe.lt
      replace hxl := hxl.keep hba hxl.lt
      replace hxa := hxa.keep hba hxa.lt
      replace HS2 := Lib.hid ((HS2.out.below hba).mono hba.size)
      replace HS3 := Lib.hid ((HS3.out.below hba).mono hba.size)
      replace hBw := hBw.trans (hba.mono hBw.size)
      clear hba
      have xxa0 := hxa.cell 0 _ rfl
      have xxl0 := hxl.cell 0 _ rfl
      have xxl1 := hxl.cell 1 _ rfl
      have xxl2 := hxl.cell 2 _ rfl
      have xxl3 := hxl.cell 3 _ rfl
      have xxl4 := hxl.cell 4 _ rfl
      have xxl5 := hxl.cell 5 _ rfl
      have xxl6 := hxl.cell 6 _ rfl
      go_wp2_with fail
      clear xxa0 xxl0 xxl1 xxl2 xxl3 xxl4 xxl5 xxl6
      generalize w3.alloc (.cells #[.slice a3 A.length c3] 26) = W3 at hxr hxo hxe hxl hxa hxw HS2 HS3 hBw ⊢
      generalize w3.heap.size = g3 at hxw ⊢
      refine (implDone_some _ _ A X (opPg (20004 + (len : Int) % 5)) _ HS2.out (itAt_nil _ _) (opSz_pg _) HAX.out).mono ?_
      rintro e w4 ⟨V4, q4, rfl, hq4, hD4, hb4⟩
      obtain ⟨a4, c4, hV4⟩ := hD4.1.slice
      have hL4 : q4.length = X.length := by rw [← hq4, List.length_map]
      rw [hL4] at hV4
      subst hV4
      have HS4 : Hid (SbAt w4 w4.heap.size (.slice a4 X.length c4) X) := Lib.hid (hD4.at hq4 HZX.out)
      replace hxr := hxr.keep hb4 hxr.lt
      replace hxo := hxo.keep hb4 hxo.lt
      replace hxe := hxe.keep hb4 hxe.lt
      replace hxl := hxl.keep hb4 hxl.lt
      replace hxa := hxa.keep hb4 hxa.lt
      replace hxw := hxw.keep hb4 hxw.lt
      replace HS2 := Lib.hid ((HS2.out.below hb4).mono hb4.size)
      replace HS3 := Lib.hid ((HS3.out.below hb4).mono hb4.size)
      replace hBw := hBw.trans (hb4.mono hBw.size)
      clear hb4 hq4 hD4 hL4
      have hxb := Box.new w4 #[.slice a4 X.length c4] 26
      have hba : Below w4.heap.size w4 (w4.alloc (.cells #[.slice a4 X.length c4] 26)) := (Below.refl _ _).alloc (Nat.le_refl _) _
      replace hxr := hxr.keep hba hxr.lt
      replace hxo := hxo.keep hba hxo.lt
      replace hxe := hxe.keep hba hxe.lt
      replace hxl := hxl.keep hba hxl.lt
      replace hxa := hxa.keep hba hxa.lt
      replace hxw := hxw.keep hba hxw.lt
      replace HS2 := Lib.hid ((HS2.out.below hba).mono hba.size)
      replace HS3 := Lib.hid ((HS3.out.below hba).mono hba.size)
      replace HS4 := Lib.hid ((HS4.out.below hba).mono hba.size)
      replace hBw := hBw.trans (hba.mono hBw.size)
      clear hba
      have xxr0 := hxr.cell 0 _ rfl
      have xxl0 := hxl.cell 0 _ rfl
      have xxl1 := hxl.cell 1 _ rfl
      have xxl2 := hxl.cell 2 _ rfl
      have xxl3 := hxl.cell 3 _ rfl
      have xxl4 := hxl.cell 4 _ rfl
      have xxl5 := hxl.cell 5 _ rfl
      have xxl6 := hxl.cell 6 _ rfl
      go_wp2_with fail
      clear xxr0 xxl0 xxl1 xxl2 xxl3 xxl4 xxl5 xxl6
      generalize w4.alloc (.cells #[.slice a4 X.length c4] 26) = W4 at hxr hxo hxe hxl hxa hxw hxb HS2 HS3 HS4 hBw ⊢
      generalize w4.heap.size = g4 at hxb ⊢
      refine (implDone_some _ _ ss X (opPg (20004 + (len : Int) % 5)) _ (HSs.out _ hBw) (itAt_nil _ _) (opSz_pg _) HX.out).mono ?_
      rintro e w5 ⟨V5, q5, rfl, hq5, hD5, hb5⟩
      obtain ⟨a5, c5, hV5⟩ := hD5.1.slice
      have hL5 : q5.length = X.length := by rw [← hq5, List.length_map]
      rw [hL5] at hV5
      subst hV5
      have HS5 : Hid (SbAt w5 w5.heap.size (.slice a5 X.length c5) X) := Lib.hid (hD5.at hq5 HZX.out)
      replace hxr := hxr.keep hb5 hxr.lt
      replace hxo := hxo.keep hb5 hxo.lt
      replace hxe := hxe.keep hb5 hxe.lt
      replace hxl := hxl.keep hb5 hxl.lt
      replace hxa := hxa.keep hb5 hxa.lt
      replace hxw := hxw.keep hb5 hxw.lt
      replace hxb := hxb.keep hb5 hxb.lt
      replace HS2 := Lib.hid ((HS2.out.below hb5).mono hb5.size)
      replace HS3 := Lib.hid ((HS3.out.below hb5).mono hb5.size)
      replace HS4 := Lib.hid ((HS4.out.below hb5).mono hb5.size)
      replace hBw := hBw.trans (hb5.mono hBw.size)
      clear hb5 hq5 hD5 hL5
      have hxc := Box.new w5 #[.slice a5 X.length c5] 26
      have hba : Below w5.heap.size w5 (w5.alloc (.cells #[.slice a5 X.length c5] 26)) := (Below.refl _ _).alloc (Nat.le_refl _) _
      replace hxr := hxr.keep hba hxr.lt
      replace hxo := hxo.keep hba hxo.lt
      replace hxe := hxe.keep hba hxe.lt
      replace hxl := hxl.keep hba hxl.lt
      replace hxa := hxa.keep hba hxa.lt
      replace hxw := hxw.keep hba hxw.lt
      replace hxb := hxb.keep hba hxb.lt
      replace HS2 := Lib.hid ((HS2.out.below hba).mono hba.size)
      replace HS3 := Lib.hid ((HS3.out.below hba).mono hba.size)
      replace HS4 := Lib.hid ((HS4.out.below hba).mono hba.size)
      replace HS5 := Lib.hid ((HS5.out.below hba).mono hba.size)
      replace hBw := hBw.trans (hba.mono hBw.size)
      clear hba
      have xxc0 := hxc.cell 0 _ rfl
      have xxe0 := hxe.cell 0 _ rfl
      have xxe1 := hxe.cell 1 _ rfl
      have xxe2 := hxe.cell 2 _ rfl
      have xxe3 := hxe.cell 3 _ rfl
      have xxe4 := hxe.cell 4 _ rfl
      have xxe5 := hxe.cell 5 _ rfl
      have xxe6 := hxe.cell 6 _ rfl
      go_wp2_with fail
      clear xxc0 xxe0 xxe1 xxe2 xxe3 xxe4 xxe5 xxe6
      generalize w5.alloc (.cells #[.slice a5 X.length c5] 26) = W5 at hxr hxo hxe hxl hxa hxw hxb hxc HS2 HS3 HS4 HS5 hBw ⊢
      generalize w5.heap.size = g5 at hxc ⊢
      refine (implDone_some _ _ X X (opPg (20000 + (len : Int) % 4)) _ HS5.out (itAt_nil _ _) (opSz_pg _) HXX.out).mono ?_
      rintro e w6 ⟨V6, q6, rfl, hq6, hD6, hb6⟩
      obtain ⟨a6, c6, hV6⟩ := hD6.1.slice
      have hL6 : q6.length = X.length := by rw [← hq6, List.length_map]
      rw [hL6] at hV6
      subst hV6
      have HS6 : Hid (SbAt w6 w6.heap.size (.slice a6 X.length c6) X) := Lib.hid (hD6.at hq6 HZX.out)
      replace hxr := hxr.keep hb6 hxr.lt
      replace hxo := hxo.keep hb6 hxo.lt
      replace hxe := hxe.keep hb6 hxe.lt
      replace hxl := hxl.keep hb6 hxl.lt
      replace hxa := hxa.keep hb6 hxa.lt
      replace hxw := hxw.keep hb6 hxw.lt
      replace hxb := hxb.keep hb6 hxb.lt
      replace hxc := hxc.keep hb6 hxc.lt
      replace HS2 := Lib.hid ((HS2.out.below hb6).mono hb6.size)
      replace HS3 := Lib.hid ((HS3.out.below hb6).mono hb6.size)
      replace HS4 := Lib.hid ((HS4.out.below hb6).mono hb6.size)
      replace HS5 := Lib.hid ((HS5.out.below hb6).mono hb6.size)
      replace hBw := hBw.trans (hb6.mono hBw.size)
      clear hb6 hq6 hD6 hL6
      have hxd := Box.new w6 #[.slice a6 X.length c6] 26
      have hba : Below w6.heap.size w6 (w6.alloc (.cells #[.slice a6 X.length c6] 26)) := (Below.refl _ _).alloc (Nat.le_refl _) _
      replace hxr := hxr.keep hba hxr.lt
      replace hxo := hxo.keep hba hxo.lt
      replace hxe := hxe.keep hba hxe.lt
      replace hxl := hxl.keep hba hxl.lt
      replace hxa := hxa.keep hba hxa.lt
      replace hxw := hxw.keep hba hxw.lt
      replace hxb := hxb.keep hba hxb.lt
      replace hxc := hxc.keep hba hxc.lt
      replace HS2 := Lib.hid ((HS2.out.below hba).mono hba.size)
      replace HS3 := Lib.hid ((HS3.out.below hba).mono hba.size)
      replace HS4 := Lib.hid ((HS4.out.below hba).mono hba.size)
      replace HS5 := Lib.hid ((HS5.out.below hba).mono hba.size)
      replace HS6 := Lib.hid ((HS6.out.below hba).mono hba.size)
      replace hBw := hBw.trans (hba.mono hBw.size)
      clear hba
      have xxb0 := hxb.cell 0 _ rfl
      have xxc0 := hxc.cell 0 _ rfl
      go_wp2_with fail
      clear xxb0 xxc0
      generalize w6.alloc (.cells #[.slice a6 X.length c6] 26) = W6 at hxr hxo hxe hxl hxa hxw hxb hxc hxd HS2 HS3 HS4 HS5 HS6 hBw ⊢
      generalize w6.heap.size = g6 at hxd ⊢
      refine (sameReader_any _ _ X _ HS4.out HS5.out).mono ?_
      rintro e w7 ⟨rfl, hb7⟩
      replace hxr := hxr.keep hb7 hxr.lt
      replace hxo := hxo.keep hb7 hxo.lt
      replace hxe := hxe.keep hb7 hxe.lt
      replace hxl := hxl.keep hb7 hxl.lt
      replace hxa := hxa.keep hb7 hxa.lt
      replace hxw := hxw.keep hb7 hxw.lt
      replace hxb := hxb.keep hb7 hxb.lt
      replace hxc := hxc.keep hb7 hxc.lt
      replace hxd := hxd.keep hb7 hxd.lt
      replace HS2 := Lib.hid ((HS2.out.below hb7).mono hb7.size)
      replace HS3 := Lib.hid ((HS3.out.below hb7).mono hb7.size)
      replace HS4 := Lib.hid ((HS4.out.below hb7).mono hb7.size)
      replace HS5 := Lib.hid ((HS5.out.below hb7).mono hb7.size)
      replace HS6 := Lib.hid ((HS6.out.below hb7).mono hb7.size)
      replace hBw := hBw.trans (hb7.mono hBw.size)
      clear hb7
      have xxd0 := hxd.cell 0 _ rfl
      have xxc0 := hxc.cell 0 _ rfl
      go_wp2_with fail
      clear xxd0 xxc0
      refine (sameReader_any _ _ X _ HS6.out HS5.out).mono ?_
      rintro e w8 ⟨rfl, hb8⟩
      replace hxr := hxr.keep hb8 hxr.lt
      replace hxo := hxo.keep hb8 hxo.lt
      replace hxe := hxe.keep hb8 hxe.lt
      replace hxl := hxl.keep hb8 hxl.lt
      replace hxa := hxa.keep hb8 hxa.lt
      replace hxw := hxw.keep hb8 hxw.lt
      replace hxb := hxb.keep hb8 hxb.lt
      replace hxc := hxc.keep hb8 hxc.lt
      replace hxd := hxd.keep hb8 hxd.lt
      replace HS2 := Lib.hid ((HS2.out.below hb8).mono hb8.size)
      replace HS3 := Lib.hid ((HS3.out.below hb8).mono hb8.size)
      replace HS4 := Lib.hid ((HS4.out.below hb8).mono hb8.size)
      replace HS5 := Lib.hid ((HS5.out.below hb8).mono hb8.size)
      replace HS6 := Lib.hid ((HS6.out.below hb8).mono hb8.size)
      replace hBw := hBw.trans (hb8.mono hBw.size)
      clear hb8
      go_wp2
      go_ret
      exact ⟨rfl, HBw0.out.trans (hBw.mono HBw0.out.size)⟩
end Go.Proofs.Ytffkakpbelknaaa

/- Joined: V9q. -/
import Derived.Test.YtffkakpbelknaaaH52
import Derived.Test.YtffkakpbelknaaaH23
/- V9q -/
namespace Go.Proofs.Ytffkakpbelknaaa
open Go.ChangeShapes Go.WideShapes Go.ChangeAt Go.RowKit
set_option linter.unusedVariables false
set_option linter.unusedSimpArgs false

set_option maxRecDepth 100000 in
set_option maxHeartbeats 3000000 in
theorem walk_FnAddedDropped (aa : Option Addr) (len cap : Nat) (z : List Int) (w : World) (h : IsRow .u8 w aa len cap z) :
    Calls Try.prog 9 #[.slice aa len cap] w fun e w' => e = .returned (.bool true) ∧ Below w.heap.size w w' := by
  have hcd := Cd.of_row h
  clear h
  go_enter Try.func9, Try.ntmps9
  go_wp2_with fail
  refine (big_any _ _ _ hcd).mono ?_
  rintro e w1 ⟨⟨b, rfl⟩, rfl⟩
  cases b with
  | true =>
    go_wp2
    go_ret
    exact ⟨rfl, Below.refl _ _⟩
  | false =>
    go_wp2_with fail
    refine (drawDone_any _ _ _ hcd).mono ?_
    rintro e v1 ⟨V, ss, o, x, rfl, hsz, hso, hS, hI, hd1⟩
    clear hcd
    obtain ⟨ra, rc, hV, hrl, hrm, _⟩ := hS.raw
    subst hV
    unfold maxLen at hrm
    obtain ⟨xa, xc, rfl⟩ := hI.1.slice
    have HSs : Hid (∀ W, Below v1.heap.size v1 W → SbAt W W.heap.size (.slice ra ss.length rc) ss) := Lib.hid (fun W hW => (hS.below hW).mono hW.size)
    have HIs : Hid (∀ W, Below v1.heap.size v1 W → ItAt W W.heap.size (.slice xa o.its.length xc) o.its) := Lib.hid (fun W hW => (hI.below hW).mono hW.size)
    have HSz := Lib.hid hsz
    have HOz : Hid (OpSz o) := Lib.hid (smO_sz hso).1
    have HBw0 := Lib.hid hd1
    clear hS hI hsz hso hd1
    have hxr0 := Box.new v1 #[.slice ra ss.length rc] 26
    have hxr := hxr0.alloc (.cells #[.int .i64 o.k, .string o.u, .string o.i, .int .i64 o.d, .string o.fu, .string o.ft, (.slice xa o.its.length xc)] 31)
    have hxo := Box.new (v1.alloc (.cells #[.slice ra ss.length rc] 26)) #[.int .i64 o.k, .string o.u, .string o.i, .int .i64 o.d, .string o.fu, .string o.ft, (.slice xa o.its.length xc)] 31
    have hBw : Below v1.heap.size v1 ((v1.alloc (.cells #[.slice ra ss.length rc] 26)).alloc (.cells #[.int .i64 o.k, .string o.u, .string o.i, .int .i64 o.d, .string o.fu, .string o.ft, (.slice xa o.its.length xc)] 31)) := ((Below.refl _ _).alloc (Nat.le_refl _) _).alloc (by simp) _
    rw [World.size_alloc] at hxo
    clear hxr0
    have hxe := Box.new ((v1.alloc (.cells #[.slice ra ss.length rc] 26)).alloc (.cells #[.int .i64 o.k, .string o.u, .string o.i, .int .i64 o.d, .string o.fu, .string o.ft, (.slice xa o.its.length xc)] 31)) #[.int .i64 1, .string ⟨#[110, 101, 119, 47, 111, 110, 101]⟩, .string ⟨#[]⟩, .int .i64 0, .string ⟨#[]⟩, .string ⟨#[]⟩, .slice none 0 0] 31
    rw [World.size_alloc, World.size_alloc] at hxe
    replace hxr := hxr.alloc (.cells #[.int .i64 1, .string ⟨#[110, 101, 119, 47, 111, 110, 101]⟩, .string ⟨#[]⟩, .int .i64 0, .string ⟨#[]⟩, .string ⟨#[]⟩, .slice none 0 0] 31)
    replace hxo := hxo.alloc (.cells #[.int .i64 1, .string ⟨#[110, 101, 119, 47, 111, 110, 101]⟩, .string ⟨#[]⟩, .int .i64 0, .string ⟨#[]⟩, .string ⟨#[]⟩, .slice none 0 0] 31)
    replace hBw := hBw.alloc hBw.size (.cells #[.int .i64 1, .string ⟨#[110, 101, 119, 47, 111, 110, 101]⟩, .string ⟨#[]⟩, .int .i64 0, .string ⟨#[]⟩, .string ⟨#[]⟩, .slice none 0 0] 31)
    cases hA : doV ss (opAd ⟨#[110, 101, 119, 47, 111, 110, 101]⟩) with
    | none =>
      have xxr0 := hxr.cell 0 _ rfl
      have xxe0 := hxe.cell 0 _ rfl
      have xxe1 := hxe.cell 1 _ rfl
      have xxe2 := hxe.cell 2 _ rfl
      have xxe3 := hxe.cell 3 _ rfl
      have xxe4 := hxe.cell 4 _ rfl
      have xxe5 := hxe.cell 5 _ rfl
      have xxe6 := hxe.cell 6 _ rfl
      go_wp2_with fail
      clear xxr0 xxe0 xxe1 xxe2 xxe3 xxe4 xxe5 xxe6
      refine (implDone_no _ _ ss (opAd ⟨#[110, 101, 119, 47, 111, 110, 101]⟩) _ (HSs.out _ hBw) (itAt_nil _ _) ⟨(by show (7 : Nat) ≤ maxLen; unfold maxLen; omega), Nat.zero_le _, Nat.zero_le _, Nat.zero_le _⟩ hA).mono ?_
      rintro e w2 ⟨V2, q2, rfl, hq2, hD2, hb2⟩
      obtain ⟨a2, c2, hV2⟩ := hD2.1.slice
      have hL2 : q2.length = ([] : List Sb).length := by rw [← hq2, List.length_map]
      rw [hL2] at hV2
      subst hV2
      have HS2 : Hid (SbAt w2 w2.heap.size (.slice a2 ([] : List Sb).length c2) ([] : List Sb)) := Lib.hid (hD2.at hq2 (by simp))
      replace hxr := hxr.keep hb2 hxr.lt
      replace hxo := hxo.keep hb2 hxo.lt
      replace hxe := hxe.keep hb2 hxe.lt
      replace hBw := hBw.trans (hb2.mono hBw.size)
      clear hb2 hq2 hD2 hL2
      have hl02 : ([] : List Sb).length = 0 := rfl
      rw [hl02] at HS2 ⊢
      clear hl02
      have hxa := Box.new w2 #[.slice a2 0 c2] 26
      have hba : Below w2.heap.size w2 (w2.alloc (.cells #[.slice a2 0 c2] 26)) := (Below.refl _ _).alloc (Nat.le_refl _) _
      replace hxr := hxr.keep hba hxr.lt
      replace hxo := hxo.keep hba hxo.lt
      replace hxe := hxe.keep hba hxe.lt
      replace HS2 := Lib.hid ((HS2.out.below hba).mono hba.size)
      replace hBw := hBw.trans (hba.mono hBw.size)
      clear hba
      have xxr0 := hxr.cell 0 _ rfl
      have xxe0 := hxe.cell 0 _ rfl
      have xxe1 := hxe.cell 1 _ rfl
      have xxe2 := hxe.cell 2 _ rfl
      have xxe3 := hxe.cell 3 _ rfl
      have xxe4 := hxe.cell 4 _ rfl
      have xxe5 := hxe.cell 5 _ rfl
      have xxe6 := hxe.cell 6 _ rfl
      go_wp2_with fail
      clear xxr0 xxe0 xxe1 xxe2 xxe3 xxe4 xxe5 xxe6
      generalize w2.alloc (.cells #[.slice a2 0 c2] 26) = W2 at hxr hxo hxe hxa HS2 hBw ⊢
      generalize w2.heap.size = g2 at hxa ⊢
      refine (specDone_no _ _ ss (opAd ⟨#[110, 101, 119, 47, 111, 110, 101]⟩) _ (HSs.out _ hBw) (itAt_nil _ _) ⟨(by show (7 : Nat) ≤ maxLen; unfold maxLen; omega), Nat.zero_le _, Nat.zero_le _, Nat.zero_le _⟩ hA).mono ?_
      rintro e w3 ⟨V3, q3, rfl, hq3, hD3, hb3⟩
      obtain ⟨a3, c3, hV3⟩ := hD3.1.slice
      have hL3 : q3.length = ([] : List Sb).length := by rw [← hq3, List.length_map]
      rw [hL3] at hV3
      subst hV3
      have HS3 : Hid (SbAt w3 w3.heap.size (.slice a3 ([] : List Sb).length c3) ([] : List Sb)) := Lib.hid (hD3.at hq3 (by simp))
      replace hxr := hxr.keep hb3 hxr.lt
      replace hxo := hxo.keep hb3 hxo.lt
      replace hxe := hxe.keep hb3 hxe.lt
      replace hxa := hxa.keep hb3 hxa.lt
      replace HS2 := Lib.hid ((HS2.out.below hb3).mono hb3.size)
      replace hBw := hBw.trans (hb3.mono hBw.size)
      clear hb3 hq3 hD3 hL3
      have hl03 : ([] : List Sb).length = 0 := rfl
      rw [hl03] at HS3 ⊢
      clear hl03
      have hxw := Box.new w3 #[.slice a3 0 c3] 26
      have hba : Below w3.heap.size w3 (w3.alloc (.cells #[.slice a3 0 c3] 26)) := (Below.refl _ _).alloc (Nat.le_refl _) _
      replace hxr := hxr.keep hba hxr.lt
      replace hxo := hxo.keep hba hxo.lt
      replace hxe := hxe.keep hba hxe.lt
      replace hxa := hxa.keep hba hxa.lt
      replace HS2 := Lib.hid ((HS2.out.below hba).mono hba.size)
      replace HS3 := Lib.hid ((HS3.out.below hba).mono hba.size)
      replace hBw := hBw.trans (hba.mono hBw.size)
      clear hba
      have xxa0 := hxa.cell 0 _ rfl
      have xxw0 := hxw.cell 0 _ rfl
      go_wp2_with fail
      clear xxa0 xxw0
      generalize w3.alloc (.cells #[.slice a3 0 c3] 26) = W3 at hxr hxo hxe hxa hxw HS2 HS3 hBw ⊢
      generalize w3.heap.size = g3 at hxw ⊢
      refine (sameReader_any _ _ [] _ HS2.out HS3.out).mono ?_
      rintro e w4 ⟨rfl, hb4⟩
      replace hxr := hxr.keep hb4 hxr.lt
      replace hxo := hxo.keep hb4 hxo.lt
      replace hxe := hxe.keep hb4 hxe.lt
      replace hxa := hxa.keep hb4 hxa.lt
      replace hxw := hxw.keep hb4 hxw.lt
      replace HS2 := Lib.hid ((HS2.out.below hb4).mono hb4.size)
      replace HS3 := Lib.hid ((HS3.out.below hb4).mono hb4.size)
      replace hBw := hBw.trans (hb4.mono hBw.size)
      clear hb4
      have xxa0 := hxa.cell 0 _ rfl
      have xxw0 := hxw.cell 0 _ rfl
      go_wp2_with fail
      clear xxa0 xxw0
      refine (sameReader_any _ _ [] _ HS2.out HS3.out).mono ?_
      rintro e w5 ⟨rfl, hb5⟩
      replace hxr := hxr.keep hb5 hxr.lt
      replace hxo := hxo.keep hb5 hxo.lt
      replace hxe := hxe.keep hb5 hxe.lt
      replace hxa := hxa.keep hb5 hxa.lt
      replace hxw := hxw.keep hb5 hxw.lt
      replace HS2 := Lib.hid ((HS2.out.below hb5).mono hb5.size)
      replace HS3 := Lib.hid ((HS3.out.below hb5).mono hb5.size)
      replace hBw := hBw.trans (hb5.mono hBw.size)
      clear hb5
      go_wp2
      go_ret
      exact ⟨rfl, HBw0.out.trans (hBw.mono HBw0.out.size)⟩
    | some rs =>
      obtain ⟨hl, hdr, hrd, _⟩ := doV_ad hA
      have hct := ct_new hA
      obtain ⟨m0, m1, m2, hm⟩ : ∃ a b c, ctV rs ⟨#[110, 101, 119, 47, 111, 110, 101]⟩ = (a, b, c) := ⟨_, _, _, rfl⟩
      have hm0 : m0 = 0 := by rw [hm] at hct; exact hct
      subst hm0
      have hl6 : rs.length ≤ 6 := rd_len hrd
      have hs6 : ss.length ≤ 6 := by omega
      have hle : ((rs.length : Int) == (ss.length : Int) + 1) = true := by rw [hl]; simp
      have HA := Lib.hid hA
      have HD := Lib.hid hdr
      have HM := Lib.hid hm
      have HZR := Lib.hid (rd_sz hrd)
      clear hA hdr hm hct hl hrd
      have xxr0 := hxr.cell 0 _ rfl
      have xxe0 := hxe.cell 0 _ rfl
      have xxe1 := hxe.cell 1 _ rfl
      have xxe2 := hxe.cell 2 _ rfl
      have xxe3 := hxe.cell 3 _ rfl
      have xxe4 := hxe.cell 4 _ rfl
      have xxe5 := hxe.cell 5 _ rfl
      have xxe6 := hxe.cell 6 _ rfl
      go_wp2_with fail
      clear xxr0 xxe0 xxe1 xxe2 xxe3 xxe4 xxe5 xxe6
      refine (implDone_some _ _ ss rs (opAd ⟨#[110, 101, 119, 47, 111, 110, 101]⟩) _ (HSs.out _ hBw) (itAt_nil _ _) ⟨(by show (7 : Nat) ≤ maxLen; unfold maxLen; omega), Nat.zero_le _, Nat.zero_le _, Nat.zero_le _⟩ HA.out).mono ?_
      rintro e w2 ⟨V2, q2, rfl, hq2, hD2, hb2⟩
      obtain ⟨a2, c2, hV2⟩ := hD2.1.slice
      have hL2 : q2.length = rs.length := by rw [← hq2, List.length_map]
      rw [hL2] at hV2
      subst hV2
      have HS2 : Hid (SbAt w2 w2.heap.size (.slice a2 rs.length c2) rs) := Lib.hid (hD2.at hq2 HZR.out)
      replace hxr := hxr.keep hb2 hxr.lt
      replace hxo := hxo.keep hb2 hxo.lt
      replace hxe := hxe.keep hb2 hxe.lt
      replace hBw := hBw.trans (hb2.mono hBw.size)
      clear hb2 hq2 hD2 hL2
      have hxa := Box.new w2 #[.slice a2 rs.length c2] 26
      have hba : Below w2.heap.size w2 (w2.alloc (.cells #[.slice a2 rs.length c2] 26)) := (Below.refl _ _).alloc (Nat.le_refl _) _
      replace hxr := hxr.keep hba hxr.lt
      replace hxo := hxo.keep hba hxo.lt
      replace hxe := hxe.keep hba hxe.lt
      replace HS2 := Lib.hid ((HS2.out.below hba).mono hba.size)
      replace hBw := hBw.trans (hba.mono hBw.size)
      clear hba
      have xxr0 := hxr.cell 0 _ rfl
      have xxe0 := hxe.cell 0 _ rfl
      have xxe1 := hxe.cell 1 _ rfl
      have xxe2 := hxe.cell 2 _ rfl
      have xxe3 := hxe.cell 3 _ rfl
      have xxe4 := hxe.cell 4 _ rfl
      have xxe5 := hxe.cell 5 _ rfl
      have xxe6 := hxe.cell 6 _ rfl
      go_wp2_with fail
      clear xxr0 xxe0 xxe1 xxe2 xxe3 xxe4 xxe5 xxe6
      generalize w2.alloc (.cells #[.slice a2 rs.length c2] 26) = W2 at hxr hxo hxe hxa HS2 hBw ⊢
      generalize w2.heap.size = g2 at hxa ⊢
      refine (specDone_some _ _ ss rs (opAd ⟨#[110, 101, 119, 47, 111, 110, 101]⟩) _ (HSs.out _ hBw) (itAt_nil _ _) ⟨(by show (7 : Nat) ≤ maxLen; unfold maxLen; omega), Nat.zero_le _, Nat.zero_le _, Nat.zero_le _⟩ HA.out).mono ?_
      rintro e w3 ⟨V3, q3, rfl, hq3, hD3, hb3⟩
      obtain ⟨a3, c3, hV3⟩ := hD3.1.slice
      have hL3 : q3.length = rs.length := by rw [← hq3, List.length_map]
      rw [hL3] at hV3
      subst hV3
      have HS3 : Hid (SbAt w3 w3.heap.size (.slice a3 rs.length c3) rs) := Lib.hid (hD3.at hq3 HZR.out)
      replace hxr := hxr.keep hb3 hxr.lt
      replace hxo := hxo.keep hb3 hxo.lt
      replace hxe := hxe.keep hb3 hxe.lt
      replace hxa := hxa.keep hb3 hxa.lt
      replace HS2 := Lib.hid ((HS2.out.below hb3).mono hb3.size)
      replace hBw := hBw.trans (hb3.mono hBw.size)
      clear hb3 hq3 hD3 hL3
      have hxw := Box.new w3 #[.slice a3 rs.length c3] 26
      have hba : Below w3.heap.size w3 (w3.alloc (.cells #[.slice a3 rs.length c3] 26)) := (Below.refl _ _).alloc (Nat.le_refl _) _
      replace hxr := hxr.keep hba hxr.lt
      replace hxo := hxo.keep hba hxo.lt
      replace hxe := hxe.keep hba hxe.lt
      replace hxa := hxa.keep hba hxa.lt
      replace HS2 := Lib.hid ((HS2.out.below hba).mono hba.size)
      replace HS3 := Lib.hid ((HS3.out.below hba).mono hba.size)
      replace hBw := hBw.trans (hba.mono hBw.size)
      clear hba
      have xxa0 := hxa.cell 0 _ rfl
      have xxw0 := hxw.cell 0 _ rfl
      go_wp2_with fail
      clear xxa0 xxw0
      generalize w3.alloc (.cells #[.slice a3 rs.length c3] 26) = W3 at hxr hxo hxe hxa hxw HS2 HS3 hBw ⊢
      generalize w3.heap.size = g3 at hxw ⊢
      refine (sameReader_any _ _ rs _ HS2.out HS3.out).mono ?_
      rintro e w4 ⟨rfl, hb4⟩
      replace hxr := hxr.keep hb4 hxr.lt
      replace hxo := hxo.keep hb4 hxo.lt
      replace hxe := hxe.keep hb4 hxe.lt
      replace hxa := hxa.keep hb4 hxa.lt
      replace hxw := hxw.keep hb4 hxw.lt
      replace HS2 := Lib.hid ((HS2.out.below hb4).mono hb4.size)
      replace HS3 := Lib.hid ((HS3.out.below hb4).mono hb4.size)
      replace hBw := hBw.trans (hb4.mono hBw.size)
      clear hb4
      have xxa0 := hxa.cell 0 _ rfl
      go_wp2_with fail
      clear xxa0
      refine (implDone_some _ _ rs ss (opDr ⟨#[110, 101, 119, 47, 111, 110, 101]⟩) _ HS2.out (itAt_nil _ _) ⟨(by show (7 : Nat) ≤ maxLen; unfold maxLen; omega), Nat.zero_le _, Nat.zero_le _, Nat.zero_le _⟩ HD.out).mono ?_
      rintro e w5 ⟨V5, q5, rfl, hq5, hD5, hb5⟩
      obtain ⟨a5, c5, hV5⟩ := hD5.1.slice
      have hL5 : q5.length = ss.length := by rw [← hq5, List.length_map]
      rw [hL5] at hV5
      subst hV5
      have HS5 : Hid (SbAt w5 w5.heap.size (.slice a5 ss.length c5) ss) := Lib.hid (hD5.at hq5 HSz.out)
      replace hxr := hxr.keep hb5 hxr.lt
      replace hxo := hxo.keep hb5 hxo.lt
      replace hxe := hxe.keep hb5 hxe.lt
      replace hxa := hxa.keep hb5 hxa.lt
      replace hxw := hxw.keep hb5 hxw.lt
      replace HS2 := Lib.hid ((HS2.out.below hb5).mono hb5.size)
      replace HS3 := Lib.hid ((HS3.out.below hb5).mono hb5.size)
      replace hBw := hBw.trans (hb5.mono hBw.size)
      clear hb5 hq5 hD5 hL5
      have hxb := Box.new w5 #[.slice a5 ss.length c5] 26
      have hba : Below w5.heap.size w5 (w5.alloc (.cells #[.slice a5 ss.length c5] 26)) := (Below.refl _ _).alloc (Nat.le_refl _) _
      replace hxr := hxr.keep hba hxr.lt
      replace hxo := hxo.keep hba hxo.lt
      replace hxe := hxe.keep hba hxe.lt
      replace hxa := hxa.keep hba hxa.lt
      replace hxw := hxw.keep hba hxw.lt
      replace HS2 := Lib.hid ((HS2.out.below hba).mono hba.size)
      replace HS3 := Lib.hid ((HS3.out.below hba).mono hba.size)
      replace HS5 := Lib.hid ((HS5.out.below hba).mono hba.size)
      replace hBw := hBw.trans (hba.mono hBw.size)
      clear hba
      have xxa0 := hxa.cell 0 _ rfl
      go_wp2_with fail
      clear xxa0
      generalize w5.alloc (.cells #[.slice a5 ss.length c5] 26) = W5 at hxr hxo hxe hxa hxw hxb HS2 HS3 HS5 hBw ⊢
      generalize w5.heap.size = g5 at hxb ⊢
      have hct6 := implCounts_any _ rs ⟨#[110, 101, 119, 47, 111, 110, 101]⟩ _ HS2.out
      rw [HM.out] at hct6
      simp only [c3V] at hct6
      refine hct6.mono ?_
      rintro e w6 ⟨rfl, hb6⟩
      clear hct6
      replace hxr := hxr.keep hb6 hxr.lt
      replace hxo := hxo.keep hb6 hxo.lt
      replace hxe := hxe.keep hb6 hxe.lt
      replace hxa := hxa.keep hb6 hxa.lt
      replace hxw := hxw.keep hb6 hxw.lt
      replace hxb := hxb.keep hb6 hxb.lt
      replace HS2 := Lib.hid ((HS2.out.below hb6).mono hb6.size)
      replace HS3 := Lib.hid ((HS3.out.below hb6).mono hb6.size)
      replace HS5 := Lib.hid ((HS5.out.below hb6).mono hb6.size)
      replace hBw := hBw.trans (hb6.mono hBw.size)
      clear hb6
      have HSr := Lib.hid (HSs.out _ hBw)
      have xxb0 := hxb.cell 0 _ rfl
      have xxr0 := hxr.cell 0 _ rfl
      go_wp2_with fail
      clear xxb0 xxr0
      refine (sameReader_any _ _ ss _ HS5.out HSr.out).mono ?_
      rintro e w7 ⟨rfl, hb7⟩
      replace hxr := hxr.keep hb7 hxr.lt
      replace hxo := hxo.keep hb7 hxo.lt
      replace hxe := hxe.keep hb7 hxe.lt
      replace hxa := hxa.keep hb7 hxa.lt
      replace hxw := hxw.keep hb7 hxw.lt
      replace hxb := hxb.keep hb7 hxb.lt
      replace HS2 := Lib.hid ((HS2.out.below hb7).mono hb7.size)
      replace HS3 := Lib.hid ((HS3.out.below hb7).mono hb7.size)
      replace HS5 := Lib.hid ((HS5.out.below hb7).mono hb7.size)
      replace HSr := Lib.hid ((HSr.out.below hb7).mono hb7.size)
      replace hBw := hBw.trans (hb7.mono hBw.size)
      clear hb7
      have xxa0 := hxa.cell 0 _ rfl
      have xxr0 := hxr.cell 0 _ rfl
      go_wp2
      go_ret
      exact ⟨rfl, HBw0.out.trans (hBw.mono HBw0.out.size)⟩
end Go.Proofs.Ytffkakpbelknaaa

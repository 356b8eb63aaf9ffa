/- Readers as texts, of the reference. -/
import Derived.Test.YtfjaincogbdeiaaDoorW11s
namespace Go.Proofs.YtfjaincogbdeiaaDoor
open Go.ChangeShapes Go.WideShapes Go.ChangeAt Go.RowKit
set_option linter.unusedVariables false

/-- The marks of an entry, without the brackets. -/
def mkI (r s : Bool) : ByteArray := match r, s with
  | false, false => ⟨#[]⟩
  | true, false => ⟨#[114]⟩
  | false, true => ⟨#[115]⟩
  | true, true => ⟨#[114, 115]⟩
theorem mkI_size (r s : Bool) : (mkI r s).size ≤ 2 := by cases r <;> cases s <;> decide
theorem mkI_mkB (r s : Bool) : ⟨#[91]⟩ ++ mkI r s ++ ⟨#[93]⟩ = mkB r s := by cases r <;> cases s <;> rfl
theorem spec_line (X G S T : ByteArray) (r s : Bool) : X ++ G ++ ⟨#[32]⟩ ++ S ++ ⟨#[32, 91]⟩ ++ mkI r s ++ ⟨#[93, 32]⟩ ++ T ++ ⟨#[10]⟩ = X ++ (G ++ ⟨#[32]⟩ ++ S ++ ⟨#[32]⟩ ++ mkB r s ++ ⟨#[32]⟩ ++ T ++ ⟨#[10]⟩) := by
  rw [← mkI_mkB]
  apply ba_ext
  simp only [ba_app]
  simp
theorem spec_head (X U T : ByteArray) : X ++ ⟨#[102, 101, 101, 100, 32]⟩ ++ U ++ ⟨#[32]⟩ ++ T ++ ⟨#[10]⟩ = X ++ (⟨#[102, 101, 101, 100]⟩ ++ ⟨#[32]⟩ ++ U ++ ⟨#[32]⟩ ++ T ++ ⟨#[10]⟩) := by
  apply ba_ext
  simp only [ba_app]
  simp

set_option maxRecDepth 100000 in
set_option maxHeartbeats 3000000 in
theorem specReaderText_any (v : Value) (ss : List Sb) (w : World) (h : SbAt w w.heap.size v ss) :
    Calls Tryd.prog 18 #[.agg #[v]] w fun e w' => e = .returned (.string (rdX ss)) ∧ Below w.heap.size w w' := by
  have HI := Lib.hid h
  have HC := Lib.hid (fun w h => specReaderOk_any v ss w h)
  obtain ⟨a, cap, rfl, hl, hm, hc⟩ := h.raw
  clear hc h
  unfold maxLen at hm
  have hB0 : Below w.heap.size w (w.alloc (.cells #[.slice a ss.length cap] 49)) := (Below.refl _ _).alloc (Nat.le_refl _) _
  have hX0 := Box.new w #[.slice a ss.length cap] 49
  cases hrd : rdB ss with
  | false =>
    have HV : Hid (rdX ss = ⟨#[]⟩) := Lib.hid (by unfold rdX; rw [if_neg (by rw [hrd]; simp)])
    rw [hrd] at HC
    rw [HV.out]
    clear hrd HV
    go_enter Tryd.func18, Tryd.ntmps18
    go_wp2_with fail
    refine (HC.out _ ((HI.out.below hB0).mono hB0.size)).mono ?_
    rintro e w1 ⟨rfl, hb1⟩
    have hB1 := hB0.trans (hb1.mono hB0.size)
    clear hb1 hB0
    go_wp2
    go_ret
    exact ⟨rfl, hB1⟩
  | true =>
    have h6 := rd_six hrd
    have HPa := Lib.hid (fun k hk => rd_parts hrd k hk)
    have HV : Hid (rdX ss = sbX ⟨#[]⟩ ss) := Lib.hid (by unfold rdX; rw [if_pos hrd])
    rw [hrd] at HC
    generalize rdX ss = R at HV ⊢
    clear hrd
    go_enter Tryd.func18, Tryd.ntmps18
    go_wp2_with fail
    refine (HC.out _ ((HI.out.below hB0).mono hB0.size)).mono ?_
    rintro e w1 ⟨rfl, hb1⟩
    have hB1 := hB0.trans (hb1.mono hB0.size)
    have hX1 := hX0.keep hb1 hX0.lt
    clear hb1 hB0 hX0 HC
    go_wp2
    go_loopw [3, 4] (fun s i wr => ∃ (k : Nat) (X : ByteArray), k ≤ ss.length ∧ i = .int .i64 (k : Int) ∧ s = .string X ∧ X.size ≤ 700 * k ∧ Hid (X = sbX ⟨#[]⟩ (ss.take k)) ∧ Below w.heap.size w wr ∧ Box wr w.heap.size #[.slice a ss.length cap] 49) (fun _ i _ => ss.length - (intOf i).toNat)
    case atStart => exact ⟨0, ⟨#[]⟩, Nat.zero_le _, rfl, rfl, by decide, Lib.hid rfl, hB1, hX1⟩
    case round =>
      obtain ⟨k, X, hk, rfl, rfl, hXs, HX, hB, hXr⟩ := hrel
      clear hB1 hX1
      have f0 := hXr.cell 0 _ rfl
      by_cases hlt : k < ss.length
      · obtain ⟨a', cap', hv, _, _, hc⟩ := (HI.out.below hB).raw
        cases hv
        obtain ⟨b, off, rfl, hb, hr⟩ := hc k hlt
        obtain ⟨y, c0, c1, c2, hy, s0, s1⟩ := hr k hlt
        obtain ⟨hu20, ht24, he12, hej⟩ := HPa.out k hlt
        have HEj := Lib.hid hej
        have HN : Hid (sbX ⟨#[]⟩ (ss.take (k + 1)) = enX (sbX ⟨#[]⟩ (ss.take k) ++ lnS ss[k]) ss[k].es) := Lib.hid (sbX_snoc _ ss k hlt)
        have hys := lnS_size ss[k] hu20 ht24
        obtain ⟨ya, yc, rfl⟩ := hy.1.slice
        have HY := Lib.hid (hy.mono hB.size)
        obtain ⟨P, hPe⟩ : ∃ P, P = ss[k] := ⟨_, rfl⟩
        rw [← hPe] at c0 c1 c2 hy hu20 ht24 he12 HEj HN hys HY
        have hLs : lnS P = ⟨#[102, 101, 101, 100]⟩ ++ ⟨#[32]⟩ ++ P.u ++ ⟨#[32]⟩ ++ P.t ++ ⟨#[10]⟩ := rfl
        obtain ⟨U, hU⟩ : ∃ x, x = P.u := ⟨_, rfl⟩
        obtain ⟨T, hT⟩ : ∃ x, x = P.t := ⟨_, rfl⟩
        obtain ⟨E, hE⟩ : ∃ x, x = P.es := ⟨_, rfl⟩
        rw [← hU] at c0 hLs hu20
        rw [← hT] at c1 hLs ht24
        rw [← hE] at c2 he12 HN HY
        have HEj' : Hid (∀ j (hj : j < E.length), E[j].it.id.size ≤ 8 ∧ E[j].it.ti.size ≤ 24 ∧ 0 ≤ E[j].it.da ∧ E[j].it.da ≤ 200000) := Lib.hid (by subst hE; exact HEj.out)
        obtain ⟨m, hm2⟩ : ∃ m, m = E.length := ⟨_, rfl⟩
        rw [← hm2] at c2 he12 HY
        have HMl := Lib.hid hm2
        obtain ⟨X1, hX1⟩ : ∃ Z : ByteArray, X ++ ⟨#[102, 101, 101, 100, 32]⟩ = Z := ⟨_, rfl⟩
        have hz1 : X1.size = X.size + 5 := by rw [← hX1, ByteArray.size_append]; rfl
        obtain ⟨X2, hX2⟩ : ∃ Z, X1 ++ U = Z := ⟨_, rfl⟩
        have hz2 : X2.size = X1.size + U.size := by rw [← hX2, ByteArray.size_append]
        obtain ⟨X3, hX3⟩ : ∃ Z : ByteArray, X2 ++ ⟨#[32]⟩ = Z := ⟨_, rfl⟩
        have hz3 : X3.size = X2.size + 1 := by rw [← hX3, ByteArray.size_append]; rfl
        obtain ⟨X4, hX4⟩ : ∃ Z, X3 ++ T = Z := ⟨_, rfl⟩
        have hz4 : X4.size = X3.size + T.size := by rw [← hX4, ByteArray.size_append]
        obtain ⟨H, hH⟩ : ∃ Z : ByteArray, X4 ++ ⟨#[10]⟩ = Z := ⟨_, rfl⟩
        have hHs : H.size ≤ 700 * k + 51 := by rw [← hH, ByteArray.size_append]; have : (⟨#[10]⟩ : ByteArray).size = 1 := rfl; omega
        have HHe : Hid (sbX ⟨#[]⟩ (ss.take (k + 1)) = enX H E) := Lib.hid (by rw [HN.out, ← HX.out, hLs, ← spec_head, hX1, hX2, hX3, hX4, hH])
        have hb1 : X1.size ≤ 10000 := by omega
        have hb2 : X2.size ≤ 10000 := by omega
        have hb3 : X3.size ≤ 10000 := by omega
        have hb4 : X4.size ≤ 10000 := by omega
        have hbX : X.size ≤ 10000 := by omega
        clear hr hc hU hT hE hPe hm2 s0 s1 hy hLs HEj HN hz1 hz2 hz3 hz4 hys
        have hA : (fun w' => Box w' w.heap.size #[.slice (some ⟨b, off, none⟩) ss.length cap] 49 ∧ w'.cell? ⟨b, off + k * 3, none⟩ = some (.string U) ∧ w'.cell? ⟨b, off + k * 3 + 1, none⟩ = some (.string T)) wr.drew := ⟨hXr, c0, c1⟩
        have hBd := hB.drew
        have hXd := hXr.drew
        have c2d : wr.drew.cell? ⟨b, off + k * 3 + 2, none⟩ = some (.slice ya m yc) := c2
        have HYd : Hid (EnAt wr.drew wr.drew.heap.size (.slice ya m yc) E) := Lib.hid HY.out.drew
        go_wp2
        clear c0 c1 c2 f0 hXr hB HY
        refine wp_region_T (fun w' => Box w' w.heap.size #[.slice (some ⟨b, off, none⟩) ss.length cap] 49 ∧ w'.cell? ⟨b, off + k * 3, none⟩ = some (.string U) ∧ w'.cell? ⟨b, off + k * 3 + 1, none⟩ = some (.string T)) (fun _ => True) 18 (by kernel_rfl) 19 rfl ?_
        refine wpAnyT_takesA (md := .any) 1 (by kernel_rfl) (by intro d v c a w h; cases d <;> exact h) [0, 1, 2, 3, 4, 5, 6, 7, 8, 9, 10, 11, 12, 13, 14, 15, 16, 17] _ _ _ (by decide) (by kernel_rfl) ⟨hA, fun _ => trivial⟩ ?_
        simp only [pick, List.filterMap_cons, List.filterMap_nil, List.getElem?_cons_zero, List.getElem?_cons_succ]
        refine wpIf_step (.string X) (by kernel_rfl) (fun w hw => by go_simp) ?_
        refine wpIf_step (.string X1) (by kernel_rfl) (fun w hw => by go_simp; try omega) ?_
        refine wpIf_step (.pointer (some ⟨w.heap.size, 0, none⟩)) (by kernel_rfl) (fun w hw => by go_simp) ?_
        refine wpIf_step (.slice (some ⟨b, off, none⟩) ss.length cap) (by kernel_rfl) (fun w hw => by have e0 := hw.1.cell 0 _ rfl; go_simp) ?_
        refine wpIf_step (.int .i64 (k : Int)) (by kernel_rfl) (fun w hw => by go_simp) ?_
        refine wpIf_step (.pointer (some ⟨b, off + k * 3, none⟩)) (by kernel_rfl) (fun w hw => by go_simp) ?_
        refine wpIf_step (.pointer (some ⟨b, off + k * 3, none⟩)) (by kernel_rfl) (fun w hw => by go_simp) ?_
        refine wpIf_step (.string U) (by kernel_rfl) (fun w hw => by have e0 := hw.2.1; go_simp) ?_
        refine wpIf_step (.string X2) (by kernel_rfl) (fun w hw => by go_simp; try omega) ?_
        refine wpIf_step (.string X3) (by kernel_rfl) (fun w hw => by go_simp; try omega) ?_
        refine wpIf_step (.pointer (some ⟨w.heap.size, 0, none⟩)) (by kernel_rfl) (fun w hw => by go_simp) ?_
        refine wpIf_step (.slice (some ⟨b, off, none⟩) ss.length cap) (by kernel_rfl) (fun w hw => by have e0 := hw.1.cell 0 _ rfl; go_simp) ?_
        refine wpIf_step (.int .i64 (k : Int)) (by kernel_rfl) (fun w hw => by go_simp) ?_
        refine wpIf_step (.pointer (some ⟨b, off + k * 3, none⟩)) (by kernel_rfl) (fun w hw => by go_simp) ?_
        refine wpIf_step (.pointer (some ⟨b, off + k * 3 + 1, none⟩)) (by kernel_rfl) (fun w hw => by go_simp) ?_
        refine wpIf_step (.string T) (by kernel_rfl) (fun w hw => by have e0 := hw.2.2; go_simp) ?_
        refine wpIf_step (.string X4) (by kernel_rfl) (fun w hw => by go_simp; try omega) ?_
        refine wpIf_step (.string H) (by kernel_rfl) (fun w hw => by go_simp; try omega) ?_
        refine wpIf_nil (fun hS => ?_)
        clear hS
        refine wpAnyT_one 18 0 (by kernel_rfl) rfl (by kernel_rfl) (fun K hK => ?_)
        go_simp
        refine hK _ _ ⟨hA, fun _ => trivial⟩ (fun hS => ?_)
        clear hK K hS
        refine wpAnyT_over (by kernel_rfl) ?_
        clear hX1 hX2 hX3 hX4 hH hA
        generalize wr.drew = W1 at hBd hXd c2d HYd ⊢
        have hbl : b < W1.heap.size := by have := hBd.size; omega
        go_wp2
        go_loopw [3, 5] (fun s j wr => ∃ (q : Nat) (X : ByteArray), q ≤ m ∧ j = .int .i64 (q : Int) ∧ s = .string X ∧ X.size ≤ 700 * k + 51 + 50 * q ∧ Hid (X = enX H (E.take q)) ∧ Below W1.heap.size W1 wr) (fun _ j _ => m - (intOf j).toNat)
        case atStart => exact ⟨0, H, Nat.zero_le _, rfl, rfl, by omega, Lib.hid rfl, Below.refl _ _⟩
        case round =>
          obtain ⟨q, X, hq, rfl, rfl, hXs2, HX2, hbr⟩ := hrel
          have hXe := hXd.keep hbr hXd.lt
          have f0 := hXe.cell 0 _ rfl
          have c2 : wr.cell? ⟨b, off + k * 3 + 2, none⟩ = some (.slice ya m yc) := by rw [hbr.cell (p := ⟨b, off + k * 3 + 2, none⟩) hbl]; exact c2d
          by_cases hlt2 : q < m
          · have hlt3 : q < E.length := by have := HMl.out; omega
            obtain ⟨a', cap', hv, hle3, hle4, hc⟩ := (HYd.out.below hbr).raw
            cases hv
            obtain ⟨b2, off2, rfl, hb2x, hr⟩ := hc q hlt3
            obtain ⟨d0, d1, d2, d3, d4, _, _⟩ := hr q hlt3
            obtain ⟨hi8, ht24', hD0, hD1⟩ := HEj'.out q hlt3
            have HN2 : Hid (enX H (E.take (q + 1)) = enX H (E.take q) ++ lnE E[q]) := Lib.hid (enX_snoc H E q hlt3)
            have hes := lnE_size E[q] hi8 ht24'
            obtain ⟨P2, hP2⟩ : ∃ P, P = E[q] := ⟨_, rfl⟩
            rw [← hP2] at d0 d1 d2 d3 d4 HN2 hes hi8 ht24' hD0 hD1
            have HLn : Hid (lnE P2 = dayT P2.it.da ++ ⟨#[32]⟩ ++ P2.it.id ++ ⟨#[32]⟩ ++ mkB P2.rd P2.st ++ ⟨#[32]⟩ ++ P2.it.ti ++ ⟨#[10]⟩) := Lib.hid rfl
            obtain ⟨S, hS⟩ : ∃ x, x = P2.it.id := ⟨_, rfl⟩
            obtain ⟨T, hT2⟩ : ∃ x, x = P2.it.ti := ⟨_, rfl⟩
            obtain ⟨D, hD⟩ : ∃ x, x = P2.it.da := ⟨_, rfl⟩
            obtain ⟨rd, hrd⟩ : ∃ x, x = P2.rd := ⟨_, rfl⟩
            obtain ⟨st, hst⟩ : ∃ x, x = P2.st := ⟨_, rfl⟩
            rw [← hS] at d0 HLn hi8
            rw [← hT2] at d1 HLn ht24'
            rw [← hD] at d2 HLn hD0 hD1
            rw [← hrd] at d3 HLn
            rw [← hst] at d4 HLn
            clear hr hc hP2 hS hT2 hD hrd hst
            have HLd := Lib.hid (fun w => l7Date_any D w hD0 hD1)
            have hgs := dayT_ten D
            obtain ⟨G, hG⟩ : ∃ G, dayT D = G := ⟨_, rfl⟩
            have HGe := Lib.hid hG
            rw [hG] at HLn hgs
            clear hG
            have hms := mkI_size rd st
            have HSl := Lib.hid (fun X G S T => spec_line X G S T rd st)
            rw [← mkI_mkB] at HLn HSl
            obtain ⟨MK, hMK⟩ : ∃ M, M = mkI rd st := ⟨_, rfl⟩
            have HMe := Lib.hid hMK
            rw [← hMK] at HLn HSl hms
            clear hMK
            obtain ⟨Y1, hY1⟩ : ∃ Z, X ++ G = Z := ⟨_, rfl⟩
            have hq1 : Y1.size = X.size + G.size := by rw [← hY1, ByteArray.size_append]
            obtain ⟨Y2, hY2⟩ : ∃ Z : ByteArray, Y1 ++ ⟨#[32]⟩ = Z := ⟨_, rfl⟩
            have hq2 : Y2.size = Y1.size + 1 := by rw [← hY2, ByteArray.size_append]; rfl
            obtain ⟨Y3, hY3⟩ : ∃ Z, Y2 ++ S = Z := ⟨_, rfl⟩
            have hq3 : Y3.size = Y2.size + S.size := by rw [← hY3, ByteArray.size_append]
            obtain ⟨Y4, hY4⟩ : ∃ Z : ByteArray, Y3 ++ ⟨#[32, 91]⟩ = Z := ⟨_, rfl⟩
            have hq4 : Y4.size = Y3.size + 2 := by rw [← hY4, ByteArray.size_append]; rfl
            obtain ⟨Y5, hY5⟩ : ∃ Z, Y4 ++ MK = Z := ⟨_, rfl⟩
            have hq5 : Y5.size = Y4.size + MK.size := by rw [← hY5, ByteArray.size_append]
            obtain ⟨Y6, hY6⟩ : ∃ Z : ByteArray, Y5 ++ ⟨#[93, 32]⟩ = Z := ⟨_, rfl⟩
            have hq6 : Y6.size = Y5.size + 2 := by rw [← hY6, ByteArray.size_append]; rfl
            obtain ⟨Y7, hY7⟩ : ∃ Z, Y6 ++ T = Z := ⟨_, rfl⟩
            have hq7 : Y7.size = Y6.size + T.size := by rw [← hY7, ByteArray.size_append]
            obtain ⟨Z, hZ⟩ : ∃ Z : ByteArray, Y7 ++ ⟨#[10]⟩ = Z := ⟨_, rfl⟩
            have HZe : Hid (Z = X ++ lnE P2) := Lib.hid (by rw [HLn.out, ← HSl.out, hY1, hY2, hY3, hY4, hY5, hY6, hY7, hZ])
            have hzs : Z.size ≤ 700 * k + 51 + 50 * (q + 1) := by rw [HZe.out, ByteArray.size_append]; omega
            have HZ : Hid (Z = enX H (E.take (q + 1))) := Lib.hid (by rw [HN2.out, ← HX2.out, HZe.out])
            have b1 : Y1.size ≤ 10000 := by omega
            have b2' : Y2.size ≤ 10000 := by omega
            have b3 : Y3.size ≤ 10000 := by omega
            have b4 : Y4.size ≤ 10000 := by omega
            have b5 : Y5.size ≤ 10000 := by omega
            have b6 : Y6.size ≤ 10000 := by omega
            have b7 : Y7.size ≤ 10000 := by omega
            have bX : X.size ≤ 10000 := by omega
            have hba : Below wr.heap.size wr (wr.alloc (.cells #[.string S, .string T, .int .i64 D, .bool rd, .bool st] 82)) := (Below.refl _ _).alloc (Nat.le_refl _) _
            have hA0 := Box.new wr #[.string S, .string T, .int .i64 D, .bool rd, .bool st] 82
            have hb2' : Below W1.heap.size W1 (wr.alloc (.cells #[.string S, .string T, .int .i64 D, .bool rd, .bool st] 82)) := hbr.trans (hba.mono hbr.size)
            have g1 := hA0.cell 3 _ rfl
            have g2 := hA0.cell 4 _ rfl
            clear hbr hba HN2 HX2 HLn HSl HZe hq1 hq2 hq3 hq4 hq5 hq6 hq7 hes hXe
            unfold maxLen at hle4
            have hMl := HMl.out
            have HD0 := Lib.hid hD0
            have HD1 := Lib.hid hD1
            cases rd with
            | false =>
              cases st with
              | false =>
                have hMK2 : MK = ⟨#[]⟩ := HMe.out
                subst hMK2
                clear HMe
                go_wp2
                generalize wr.alloc (.cells #[.string S, .string T, .int .i64 D, .bool false, .bool false] 82) = W2 at hA0 hb2' g1 g2 ⊢
                have hA := hA0.drew
                have hB3 := hb2'.drew
                clear hA0 hb2' g1 g2 d0 d1 d2 d3 d4 f0 c2
                refine wp_region_T (fun w' => Box w' wr.heap.size #[.string S, .string T, .int .i64 D, .bool false, .bool false] 82) (fun _ => True) 21 (by kernel_rfl) 22 rfl ?_
                refine wpAnyT_takesA (md := .any) 11 (by kernel_rfl) (by intro d v c a w h; cases d <;> exact h) [0, 1, 2, 3, 8, 9, 10, 13, 16, 17, 18] _ _ _ (by decide) (by kernel_rfl) ⟨hA, fun _ => trivial⟩ ?_
                simp only [pick, List.filterMap_cons, List.filterMap_nil, List.getElem?_cons_zero, List.getElem?_cons_succ]
                refine wpIf_step (.string X) (by kernel_rfl) (fun w hw => by go_simp) ?_
                refine wpIf_step (.pointer (some ⟨wr.heap.size, 0, none⟩)) (by kernel_rfl) (fun w hw => by go_simp) ?_
                refine wpIf_step (.pointer (some ⟨wr.heap.size, 2, none⟩)) (by kernel_rfl) (fun w hw => by go_simp) ?_
                refine wpIf_step (.int .i64 D) (by kernel_rfl) (fun w hw => by have e2 := hw.cell 2 _ rfl; go_simp) ?_
                refine wpIf_step (.pointer (some ⟨wr.heap.size, 0, none⟩)) (by kernel_rfl) (fun w hw => by go_simp) ?_
                refine wpIf_step (.pointer (some ⟨wr.heap.size, 0, none⟩)) (by kernel_rfl) (fun w hw => by go_simp) ?_
                refine wpIf_step (.string S) (by kernel_rfl) (fun w hw => by have e0 := hw.cell 0 _ rfl; go_simp) ?_
                refine wpIf_step (.string ⟨#[]⟩) (by kernel_rfl) (fun w hw => by go_simp; try rfl) ?_
                refine wpIf_step (.pointer (some ⟨wr.heap.size, 0, none⟩)) (by kernel_rfl) (fun w hw => by go_simp) ?_
                refine wpIf_step (.pointer (some ⟨wr.heap.size, 1, none⟩)) (by kernel_rfl) (fun w hw => by go_simp) ?_
                refine wpIf_step (.string T) (by kernel_rfl) (fun w hw => by have e1 := hw.cell 1 _ rfl; go_simp) ?_
                refine wpIf_nil (fun hS => ?_)
                clear hS
                refine wpAnyT_one 4 10 (by kernel_rfl) rfl (by kernel_rfl) (fun K hK => ?_)
                go_simp
                refine (HLd.out _).mono ?_
                rintro e v1 ⟨y, m, dd, rfl, hid, hb1⟩
                have hA1 := hA.keep hb1 hA.lt
                have hB4 := hB3.trans (hb1.mono hB3.size)
                obtain ⟨yn, mn, dn, rfl, rfl, rfl, hy0, hy1, hmn, hdn, HDt⟩ := isD_nat hid hD0 hD1
                have HTx := Lib.hid (fun w => l7Text_any yn mn dn w hy0 hy1 hmn hdn)
                rw [← HDt, HGe.out] at HTx
                clear hb1 hB3 hA hid HDt hy0 hy1 hmn hdn
                refine hK _ _ ⟨hA1, fun _ => trivial⟩ (fun hS => ?_)
                clear hK K hS
                refine wpAnyT_one 5 9 (by kernel_rfl) rfl (by kernel_rfl) (fun K hK => ?_)
                go_simp
                refine (HTx.out _).mono ?_
                rintro e v2 ⟨rfl, hb2⟩
                have hA2 := hA1.keep hb2 hA1.lt
                have hB5 := hB4.trans (hb2.mono hB4.size)
                clear hb2 hB4 hA1 HTx
                refine hK _ _ ⟨hA2, fun _ => trivial⟩ (fun hS => ?_)
                clear hK K hS
                refine wpAnyT_takesA (md := .any) 1 (by kernel_rfl) (by intro d v c a w h; cases d <;> exact h) [6, 7, 11, 12, 14, 15, 19, 20] _ _ _ (by decide) (by kernel_rfl) ⟨hA2, fun _ => trivial⟩ ?_
                simp only [pick, List.filterMap_cons, List.filterMap_nil, List.getElem?_cons_zero, List.getElem?_cons_succ]
                refine wpIf_step (.string Y1) (by kernel_rfl) (fun w hw => by go_simp; try omega) ?_
                refine wpIf_step (.string Y2) (by kernel_rfl) (fun w hw => by go_simp; try omega) ?_
                refine wpIf_step (.string Y3) (by kernel_rfl) (fun w hw => by go_simp; try omega) ?_
                refine wpIf_step (.string Y4) (by kernel_rfl) (fun w hw => by go_simp; try omega) ?_
                refine wpIf_step (.string Y5) (by kernel_rfl) (fun w hw => by go_simp; try omega) ?_
                refine wpIf_step (.string Y6) (by kernel_rfl) (fun w hw => by go_simp; try omega) ?_
                refine wpIf_step (.string Y7) (by kernel_rfl) (fun w hw => by go_simp; try omega) ?_
                refine wpIf_step (.string Z) (by kernel_rfl) (fun w hw => by go_simp; try omega) ?_
                refine wpIf_nil (fun hS => ?_)
                clear hS
                refine wpAnyT_one 21 0 (by kernel_rfl) rfl (by kernel_rfl) (fun K hK => ?_)
                go_simp
                refine hK _ _ ⟨hA2, fun _ => trivial⟩ (fun hS => ?_)
                clear hK K hS
                refine wpAnyT_over (by kernel_rfl) ?_
                go_wp2
                go_roundw
                case rel => exact ⟨q + 1, Z, by omega, by go_num, rfl, hzs, HZ, hB5⟩
                case measure => simp [intOf]; omega
              | true =>
                have hMK2 : MK = ⟨#[115]⟩ := HMe.out
                subst hMK2
                clear HMe
                go_wp2
                generalize wr.alloc (.cells #[.string S, .string T, .int .i64 D, .bool false, .bool true] 82) = W2 at hA0 hb2' g1 g2 ⊢
                have hA := hA0.drew
                have hB3 := hb2'.drew
                clear hA0 hb2' g1 g2 d0 d1 d2 d3 d4 f0 c2
                refine wp_region_T (fun w' => Box w' wr.heap.size #[.string S, .string T, .int .i64 D, .bool false, .bool true] 82) (fun _ => True) 21 (by kernel_rfl) 22 rfl ?_
                refine wpAnyT_takesA (md := .any) 11 (by kernel_rfl) (by intro d v c a w h; cases d <;> exact h) [0, 1, 2, 3, 8, 9, 10, 13, 16, 17, 18] _ _ _ (by decide) (by kernel_rfl) ⟨hA, fun _ => trivial⟩ ?_
                simp only [pick, List.filterMap_cons, List.filterMap_nil, List.getElem?_cons_zero, List.getElem?_cons_succ]
                refine wpIf_step (.string X) (by kernel_rfl) (fun w hw => by go_simp) ?_
                refine wpIf_step (.pointer (some ⟨wr.heap.size, 0, none⟩)) (by kernel_rfl) (fun w hw => by go_simp) ?_
                refine wpIf_step (.pointer (some ⟨wr.heap.size, 2, none⟩)) (by kernel_rfl) (fun w hw => by go_simp) ?_
                refine wpIf_step (.int .i64 D) (by kernel_rfl) (fun w hw => by have e2 := hw.cell 2 _ rfl; go_simp) ?_
                refine wpIf_step (.pointer (some ⟨wr.heap.size, 0, none⟩)) (by kernel_rfl) (fun w hw => by go_simp) ?_
                refine wpIf_step (.pointer (some ⟨wr.heap.size, 0, none⟩)) (by kernel_rfl) (fun w hw => by go_simp) ?_
                refine wpIf_step (.string S) (by kernel_rfl) (fun w hw => by have e0 := hw.cell 0 _ rfl; go_simp) ?_
                refine wpIf_step (.string ⟨#[115]⟩) (by kernel_rfl) (fun w hw => by go_simp; try rfl) ?_
                refine wpIf_step (.pointer (some ⟨wr.heap.size, 0, none⟩)) (by kernel_rfl) (fun w hw => by go_simp) ?_
                refine wpIf_step (.pointer (some ⟨wr.heap.size, 1, none⟩)) (by kernel_rfl) (fun w hw => by go_simp) ?_
                refine wpIf_step (.string T) (by kernel_rfl) (fun w hw => by have e1 := hw.cell 1 _ rfl; go_simp) ?_
                refine wpIf_nil (fun hS => ?_)
                clear hS
                refine wpAnyT_one 4 10 (by kernel_rfl) rfl (by kernel_rfl) (fun K hK => ?_)
                go_simp
                refine (HLd.out _).mono ?_
                rintro e v1 ⟨y, m, dd, rfl, hid, hb1⟩
                have hA1 := hA.keep hb1 hA.lt
                have hB4 := hB3.trans (hb1.mono hB3.size)
                obtain ⟨yn, mn, dn, rfl, rfl, rfl, hy0, hy1, hmn, hdn, HDt⟩ := isD_nat hid hD0 hD1
                have HTx := Lib.hid (fun w => l7Text_any yn mn dn w hy0 hy1 hmn hdn)
                rw [← HDt, HGe.out] at HTx
                clear hb1 hB3 hA hid HDt hy0 hy1 hmn hdn
                refine hK _ _ ⟨hA1, fun _ => trivial⟩ (fun hS => ?_)
                clear hK K hS
                refine wpAnyT_one 5 9 (by kernel_rfl) rfl (by kernel_rfl) (fun K hK => ?_)
                go_simp
                refine (HTx.out _).mono ?_
                rintro e v2 ⟨rfl, hb2⟩
                have hA2 := hA1.keep hb2 hA1.lt
                have hB5 := hB4.trans (hb2.mono hB4.size)
                clear hb2 hB4 hA1 HTx
                refine hK _ _ ⟨hA2, fun _ => trivial⟩ (fun hS => ?_)
                clear hK K hS
                refine wpAnyT_takesA (md := .any) 1 (by kernel_rfl) (by intro d v c a w h; cases d <;> exact h) [6, 7, 11, 12, 14, 15, 19, 20] _ _ _ (by decide) (by kernel_rfl) ⟨hA2, fun _ => trivial⟩ ?_
                simp only [pick, List.filterMap_cons, List.filterMap_nil, List.getElem?_cons_zero, List.getElem?_cons_succ]
                refine wpIf_step (.string Y1) (by kernel_rfl) (fun w hw => by go_simp; try omega) ?_
                refine wpIf_step (.string Y2) (by kernel_rfl) (fun w hw => by go_simp; try omega) ?_
                refine wpIf_step (.string Y3) (by kernel_rfl) (fun w hw => by go_simp; try omega) ?_
                refine wpIf_step (.string Y4) (by kernel_rfl) (fun w hw => by go_simp; try omega) ?_
                refine wpIf_step (.string Y5) (by kernel_rfl) (fun w hw => by go_simp; try omega) ?_
                refine wpIf_step (.string Y6) (by kernel_rfl) (fun w hw => by go_simp; try omega) ?_
                refine wpIf_step (.string Y7) (by kernel_rfl) (fun w hw => by go_simp; try omega) ?_
                refine wpIf_step (.string Z) (by kernel_rfl) (fun w hw => by go_simp; try omega) ?_
                refine wpIf_nil (fun hS => ?_)
                clear hS
                refine wpAnyT_one 21 0 (by kernel_rfl) rfl (by kernel_rfl) (fun K hK => ?_)
                go_simp
                refine hK _ _ ⟨hA2, fun _ => trivial⟩ (fun hS => ?_)
                clear hK K hS
                refine wpAnyT_over (by kernel_rfl) ?_
                go_wp2
                go_roundw
                case rel => exact ⟨q + 1, Z, by omega, by go_num, rfl, hzs, HZ, hB5⟩
                case measure => simp [intOf]; omega
            | true =>
              cases st with
              | false =>
                have hMK2 : MK = ⟨#[114]⟩ := HMe.out
                subst hMK2
                clear HMe
                go_wp2
                generalize wr.alloc (.cells #[.string S, .string T, .int .i64 D, .bool true, .bool false] 82) = W2 at hA0 hb2' g1 g2 ⊢
                have hA := hA0.drew
                have hB3 := hb2'.drew
                clear hA0 hb2' g1 g2 d0 d1 d2 d3 d4 f0 c2
                refine wp_region_T (fun w' => Box w' wr.heap.size #[.string S, .string T, .int .i64 D, .bool true, .bool false] 82) (fun _ => True) 21 (by kernel_rfl) 22 rfl ?_
                refine wpAnyT_takesA (md := .any) 11 (by kernel_rfl) (by intro d v c a w h; cases d <;> exact h) [0, 1, 2, 3, 8, 9, 10, 13, 16, 17, 18] _ _ _ (by decide) (by kernel_rfl) ⟨hA, fun _ => trivial⟩ ?_
                simp only [pick, List.filterMap_cons, List.filterMap_nil, List.getElem?_cons_zero, List.getElem?_cons_succ]
                refine wpIf_step (.string X) (by kernel_rfl) (fun w hw => by go_simp) ?_
                refine wpIf_step (.pointer (some ⟨wr.heap.size, 0, none⟩)) (by kernel_rfl) (fun w hw => by go_simp) ?_
                refine wpIf_step (.pointer (some ⟨wr.heap.size, 2, none⟩)) (by kernel_rfl) (fun w hw => by go_simp) ?_
                refine wpIf_step (.int .i64 D) (by kernel_rfl) (fun w hw => by have e2 := hw.cell 2 _ rfl; go_simp) ?_
                refine wpIf_step (.pointer (some ⟨wr.heap.size, 0, none⟩)) (by kernel_rfl) (fun w hw => by go_simp) ?_
                refine wpIf_step (.pointer (some ⟨wr.heap.size, 0, none⟩)) (by kernel_rfl) (fun w hw => by go_simp) ?_
                refine wpIf_step (.string S) (by kernel_rfl) (fun w hw => by have e0 := hw.cell 0 _ rfl; go_simp) ?_
                refine wpIf_step (.string ⟨#[114]⟩) (by kernel_rfl) (fun w hw => by go_simp; try rfl) ?_
                refine wpIf_step (.pointer (some ⟨wr.heap.size, 0, none⟩)) (by kernel_rfl) (fun w hw => by go_simp) ?_
                refine wpIf_step (.pointer (some ⟨wr.heap.size, 1, none⟩)) (by kernel_rfl) (fun w hw => by go_simp) ?_
                refine wpIf_step (.string T) (by kernel_rfl) (fun w hw => by have e1 := hw.cell 1 _ rfl; go_simp) ?_
                refine wpIf_nil (fun hS => ?_)
                clear hS
                refine wpAnyT_one 4 10 (by kernel_rfl) rfl (by kernel_rfl) (fun K hK => ?_)
                go_simp
                refine (HLd.out _).mono ?_
                rintro e v1 ⟨y, m, dd, rfl, hid, hb1⟩
                have hA1 := hA.keep hb1 hA.lt
                have hB4 := hB3.trans (hb1.mono hB3.size)
                obtain ⟨yn, mn, dn, rfl, rfl, rfl, hy0, hy1, hmn, hdn, HDt⟩ := isD_nat hid hD0 hD1
                have HTx := Lib.hid (fun w => l7Text_any yn mn dn w hy0 hy1 hmn hdn)
                rw [← HDt, HGe.out] at HTx
                clear hb1 hB3 hA hid HDt hy0 hy1 hmn hdn
                refine hK _ _ ⟨hA1, fun _ => trivial⟩ (fun hS => ?_)
                clear hK K hS
                refine wpAnyT_one 5 9 (by kernel_rfl) rfl (by kernel_rfl) (fun K hK => ?_)
                go_simp
                refine (HTx.out _).mono ?_
                rintro e v2 ⟨rfl, hb2⟩
                have hA2 := hA1.keep hb2 hA1.lt
                have hB5 := hB4.trans (hb2.mono hB4.size)
                clear hb2 hB4 hA1 HTx
                refine hK _ _ ⟨hA2, fun _ => trivial⟩ (fun hS => ?_)
                clear hK K hS
                refine wpAnyT_takesA (md := .any) 1 (by kernel_rfl) (by intro d v c a w h; cases d <;> exact h) [6, 7, 11, 12, 14, 15, 19, 20] _ _ _ (by decide) (by kernel_rfl) ⟨hA2, fun _ => trivial⟩ ?_
                simp only [pick, List.filterMap_cons, List.filterMap_nil, List.getElem?_cons_zero, List.getElem?_cons_succ]
                refine wpIf_step (.string Y1) (by kernel_rfl) (fun w hw => by go_simp; try omega) ?_
                refine wpIf_step (.string Y2) (by kernel_rfl) (fun w hw => by go_simp; try omega) ?_
                refine wpIf_step (.string Y3) (by kernel_rfl) (fun w hw => by go_simp; try omega) ?_
                refine wpIf_step (.string Y4) (by kernel_rfl) (fun w hw => by go_simp; try omega) ?_
                refine wpIf_step (.string Y5) (by kernel_rfl) (fun w hw => by go_simp; try omega) ?_
                refine wpIf_step (.string Y6) (by kernel_rfl) (fun w hw => by go_simp; try omega) ?_
                refine wpIf_step (.string Y7) (by kernel_rfl) (fun w hw => by go_simp; try omega) ?_
                refine wpIf_step (.string Z) (by kernel_rfl) (fun w hw => by go_simp; try omega) ?_
                refine wpIf_nil (fun hS => ?_)
                clear hS
                refine wpAnyT_one 21 0 (by kernel_rfl) rfl (by kernel_rfl) (fun K hK => ?_)
                go_simp
                refine hK _ _ ⟨hA2, fun _ => trivial⟩ (fun hS => ?_)
                clear hK K hS
                refine wpAnyT_over (by kernel_rfl) ?_
                go_wp2
                go_roundw
                case rel => exact ⟨q + 1, Z, by omega, by go_num, rfl, hzs, HZ, hB5⟩
                case measure => simp [intOf]; omega
              | true =>
                have hMK2 : MK = ⟨#[114, 115]⟩ := HMe.out
                subst hMK2
                clear HMe
                go_wp2
                generalize wr.alloc (.cells #[.string S, .string T, .int .i64 D, .bool true, .bool true] 82) = W2 at hA0 hb2' g1 g2 ⊢
                have hA := hA0.drew
                have hB3 := hb2'.drew
                clear hA0 hb2' g1 g2 d0 d1 d2 d3 d4 f0 c2
                refine wp_region_T (fun w' => Box w' wr.heap.size #[.string S, .string T, .int .i64 D, .bool true, .bool true] 82) (fun _ => True) 21 (by kernel_rfl) 22 rfl ?_
                refine wpAnyT_takesA (md := .any) 11 (by kernel_rfl) (by intro d v c a w h; cases d <;> exact h) [0, 1, 2, 3, 8, 9, 10, 13, 16, 17, 18] _ _ _ (by decide) (by kernel_rfl) ⟨hA, fun _ => trivial⟩ ?_
                simp only [pick, List.filterMap_cons, List.filterMap_nil, List.getElem?_cons_zero, List.getElem?_cons_succ]
                refine wpIf_step (.string X) (by kernel_rfl) (fun w hw => by go_simp) ?_
                refine wpIf_step (.pointer (some ⟨wr.heap.size, 0, none⟩)) (by kernel_rfl) (fun w hw => by go_simp) ?_
                refine wpIf_step (.pointer (some ⟨wr.heap.size, 2, none⟩)) (by kernel_rfl) (fun w hw => by go_simp) ?_
                refine wpIf_step (.int .i64 D) (by kernel_rfl) (fun w hw => by have e2 := hw.cell 2 _ rfl; go_simp) ?_
                refine wpIf_step (.pointer (some ⟨wr.heap.size, 0, none⟩)) (by kernel_rfl) (fun w hw => by go_simp) ?_
                refine wpIf_step (.pointer (some ⟨wr.heap.size, 0, none⟩)) (by kernel_rfl) (fun w hw => by go_simp) ?_
                refine wpIf_step (.string S) (by kernel_rfl) (fun w hw => by have e0 := hw.cell 0 _ rfl; go_simp) ?_
                refine wpIf_step (.string ⟨#[114, 115]⟩) (by kernel_rfl) (fun w hw => by go_simp; try rfl) ?_
                refine wpIf_step (.pointer (some ⟨wr.heap.size, 0, none⟩)) (by kernel_rfl) (fun w hw => by go_simp) ?_
                refine wpIf_step (.pointer (some ⟨wr.heap.size, 1, none⟩)) (by kernel_rfl) (fun w hw => by go_simp) ?_
                refine wpIf_step (.string T) (by kernel_rfl) (fun w hw => by have e1 := hw.cell 1 _ rfl; go_simp) ?_
                refine wpIf_nil (fun hS => ?_)
                clear hS
                refine wpAnyT_one 4 10 (by kernel_rfl) rfl (by kernel_rfl) (fun K hK => ?_)
                go_simp
                refine (HLd.out _).mono ?_
                rintro e v1 ⟨y, m, dd, rfl, hid, hb1⟩
                have hA1 := hA.keep hb1 hA.lt
                have hB4 := hB3.trans (hb1.mono hB3.size)
                obtain ⟨yn, mn, dn, rfl, rfl, rfl, hy0, hy1, hmn, hdn, HDt⟩ := isD_nat hid hD0 hD1
                have HTx := Lib.hid (fun w => l7Text_any yn mn dn w hy0 hy1 hmn hdn)
                rw [← HDt, HGe.out] at HTx
                clear hb1 hB3 hA hid HDt hy0 hy1 hmn hdn
                refine hK _ _ ⟨hA1, fun _ => trivial⟩ (fun hS => ?_)
                clear hK K hS
                refine wpAnyT_one 5 9 (by kernel_rfl) rfl (by kernel_rfl) (fun K hK => ?_)
                go_simp
                refine (HTx.out _).mono ?_
                rintro e v2 ⟨rfl, hb2⟩
                have hA2 := hA1.keep hb2 hA1.lt
                have hB5 := hB4.trans (hb2.mono hB4.size)
                clear hb2 hB4 hA1 HTx
                refine hK _ _ ⟨hA2, fun _ => trivial⟩ (fun hS => ?_)
                clear hK K hS
                refine wpAnyT_takesA (md := .any) 1 (by kernel_rfl) (by intro d v c a w h; cases d <;> exact h) [6, 7, 11, 12, 14, 15, 19, 20] _ _ _ (by decide) (by kernel_rfl) ⟨hA2, fun _ => trivial⟩ ?_
                simp only [pick, List.filterMap_cons, List.filterMap_nil, List.getElem?_cons_zero, List.getElem?_cons_succ]
                refine wpIf_step (.string Y1) (by kernel_rfl) (fun w hw => by go_simp; try omega) ?_
                refine wpIf_step (.string Y2) (by kernel_rfl) (fun w hw => by go_simp; try omega) ?_
                refine wpIf_step (.string Y3) (by kernel_rfl) (fun w hw => by go_simp; try omega) ?_
                refine wpIf_step (.string Y4) (by kernel_rfl) (fun w hw => by go_simp; try omega) ?_
                refine wpIf_step (.string Y5) (by kernel_rfl) (fun w hw => by go_simp; try omega) ?_
                refine wpIf_step (.string Y6) (by kernel_rfl) (fun w hw => by go_simp; try omega) ?_
                refine wpIf_step (.string Y7) (by kernel_rfl) (fun w hw => by go_simp; try omega) ?_
                refine wpIf_step (.string Z) (by kernel_rfl) (fun w hw => by go_simp; try omega) ?_
                refine wpIf_nil (fun hS => ?_)
                clear hS
                refine wpAnyT_one 21 0 (by kernel_rfl) rfl (by kernel_rfl) (fun K hK => ?_)
                go_simp
                refine hK _ _ ⟨hA2, fun _ => trivial⟩ (fun hS => ?_)
                clear hK K hS
                refine wpAnyT_over (by kernel_rfl) ?_
                go_wp2
                go_roundw
                case rel => exact ⟨q + 1, Z, by omega, by go_num, rfl, hzs, HZ, hB5⟩
                case measure => simp [intOf]; omega
          · have HFin : Hid (X = sbX ⟨#[]⟩ (ss.take (k + 1))) := Lib.hid (by
              have h1 := HMl.out
              rw [HHe.out, HX2.out, List.take_of_length_le (by omega)])
            have hXf : X.size ≤ 700 * (k + 1) := by omega
            have hBf := hBd.trans (hbr.mono hBd.size)
            clear HX2
            go_wp2
            go_roundw
            case rel => exact ⟨k + 1, X, by omega, by go_num, rfl, hXf, HFin, hBf, hXe⟩
            case measure => simp [intOf]; omega
      · have HF : Hid (X = R) := Lib.hid (by rw [HV.out, HX.out, List.take_of_length_le (by omega)])
        go_wp2
        go_ret
        exact ⟨ret_str8 HF.out, hB⟩
end Go.Proofs.YtfjaincogbdeiaaDoor

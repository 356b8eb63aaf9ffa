/- Joined: W14r. -/
import Derived.Test.YtffkakpbelknaaaS38
import Derived.Test.YtffkakpbelknaaaS44
/- W14r -/
namespace Go.Proofs.Ytffkakpbelknaaa
open Go.ChangeShapes Go.WideShapes Go.ChangeAt Go.RowKit
set_option linter.unusedVariables false

set_option maxRecDepth 100000 in
set_option maxHeartbeats 3000000 in
theorem specDiskOk_any (vl vs vo : Value) (L S : List Fi) (os : List DOp) (w : World) (hL : FiAt w w.heap.size vl L) (hS : FiAt w w.heap.size vs S) (hO : OdAt w w.heap.size vo os) (hsL : fiSum L ≤ 100000000000) (hsS : fiSum S ≤ 100000000000) :
    Calls Try.prog 71 #[dkV vl vs vo] w fun e w' => e = .returned (.bool (dkB L S os)) ∧ Below w.heap.size w w' := by
  have HL := Lib.hid hL
  have HS := Lib.hid hS
  have HO := Lib.hid hO
  obtain ⟨la, lc, rfl, hll, hlm, _⟩ := hL.raw
  obtain ⟨sa, sc, rfl, hsl, hsm, _⟩ := hS.raw
  obtain ⟨oa, oc, rfl, hol, hom, _⟩ := hO.raw
  have HFl := Lib.hid (fun w h => l14Files_any (.slice la L.length lc) L w h (by omega))
  have HFs := Lib.hid (fun w h => l14Files_any (.slice sa S.length sc) S w h (by omega))
  have HD : Hid (dkB L S os = (decide (os.length ≤ 200) && (flsB L && (flsB S && (match runD S os with | some es => fqB es L | none => false))))) := Lib.hid rfl
  generalize dkB L S os = R at HD ⊢
  unfold maxLen at hlm hsm hom
  have hx0 := Box.new w #[.slice la L.length lc, .slice sa S.length sc, .slice oa os.length oc] 64
  have hb0 : Below w.heap.size w (w.alloc (.cells #[.slice la L.length lc, .slice sa S.length sc, .slice oa os.length oc] 64)) := (Below.refl _ _).alloc (Nat.le_refl _) _
  clear hL hS hO
  obtain ⟨FL, hFL⟩ : ∃ F, flsB L = F := ⟨_, rfl⟩
  obtain ⟨FS, hFS⟩ : ∃ F, flsB S = F := ⟨_, rfl⟩
  have HFS := Lib.hid hFS
  rw [hFL] at HFl HD
  rw [hFS] at HFs HD
  have HR0 : Hid (∀ k, runD S (os.take k) = none → R = false) := Lib.hid (fun k h => by rw [HD.out, runD_cut S os k h]; simp)
  have HR1 : Hid (os.length ≤ 200 → FL = true → FS = true → ∀ es, runD S os = some es → R = fqB es L) := Lib.hid (fun h0 h1 h2 es h => by rw [HD.out, h, h1, h2, decide_eq_true h0]; rfl)
  clear hFL hFS
  cases FL with
  | false =>
    have HZ : Hid (R = false) := Lib.hid (by rw [HD.out]; simp)
    go_enter Try.func71, Try.ntmps71
    go_wp2_with fail
    refine (HFl.out _ ((HL.out.below hb0).mono hb0.size)).mono ?_
    rintro e w1 ⟨rfl, hb1⟩
    have hB1 := hb0.trans (hb1.mono hb0.size)
    go_wp2
    go_ret
    exact ⟨ret_bool HZ.out.symm, hB1⟩
  | true =>
    cases FS with
    | false =>
      have HZ : Hid (R = false) := Lib.hid (by rw [HD.out]; simp)
      go_enter Try.func71, Try.ntmps71
      go_wp2_with fail
      refine (HFl.out _ ((HL.out.below hb0).mono hb0.size)).mono ?_
      rintro e w1 ⟨rfl, hb1⟩
      have hB1 := hb0.trans (hb1.mono hb0.size)
      have hx1 := hx0.keep hb1 hx0.lt
      have f1 := hx1.cell 1 _ rfl
      clear hb1 hb0 hx0
      go_wp2_with fail
      refine (HFs.out _ ((HS.out.below hB1).mono hB1.size)).mono ?_
      rintro e w2 ⟨rfl, hb2⟩
      have hB2 := hB1.trans (hb2.mono hB1.size)
      go_wp2
      go_ret
      exact ⟨ret_bool HZ.out.symm, hB2⟩
    | true =>
      by_cases h200 : os.length ≤ 200
      · have h200' : ¬ (200 : Int) < (os.length : Int) := by omega
        have HR2 := Lib.hid (HR1.out h200 rfl rfl)
        clear h200
        go_enter Try.func71, Try.ntmps71
        go_wp2_with fail
        refine (HFl.out _ ((HL.out.below hb0).mono hb0.size)).mono ?_
        rintro e w1 ⟨rfl, hb1⟩
        have hB1 := hb0.trans (hb1.mono hb0.size)
        have hx1 := hx0.keep hb1 hx0.lt
        have f1 := hx1.cell 1 _ rfl
        clear hb1 hb0 hx0
        go_wp2_with fail
        refine (HFs.out _ ((HS.out.below hB1).mono hB1.size)).mono ?_
        rintro e w2 ⟨rfl, hb2⟩
        have hB2 := hB1.trans (hb2.mono hB1.size)
        have hx2 := hx1.keep hb2 hx1.lt
        have g1 := hx2.cell 1 _ rfl
        have g2 := hx2.cell 2 _ rfl
        clear hb2 f1 hx1 hB1
        go_wp2
        clear g1 g2
        go_loopw [3, 4] (fun f i wr => ∃ (k : Nat) (es : List Fi), k ≤ os.length ∧ i = .int .i64 (k : Int) ∧ FiAt wr wr.heap.size f es ∧ Below w.heap.size w wr ∧ Box wr w.heap.size #[.slice la L.length lc, .slice sa S.length sc, .slice oa os.length oc] 64 ∧ Hid (runD S (os.take k) = some es ∧ flsB es = true)) (fun _ i _ => os.length - (intOf i).toNat)
        case atStart => exact ⟨0, S, Nat.zero_le _, rfl, (HS.out.below hB2).mono hB2.size, hB2, hx2, Lib.hid ⟨rfl, HFS.out⟩⟩
        case round =>
          obtain ⟨k, es, hk, rfl, hF, hB, hx, HN⟩ := hrel
          clear hB2 hx2
          have g2 := hx.cell 2 _ rfl
          by_cases hlt : k < os.length
          · have HCC : Hid (∀ w1, Below w.heap.size w w1 → ∃ b off, oa = some ⟨b, off, none⟩ ∧ w1.cell? ⟨b, off + k * 4, none⟩ = some (.int .i64 os[k].k) ∧ w1.cell? ⟨b, off + k * 4 + 1, none⟩ = some (.string os[k].nm) ∧ w1.cell? ⟨b, off + k * 4 + 2, none⟩ = some (.string os[k].tn) ∧ w1.cell? ⟨b, off + k * 4 + 3, none⟩ = some (.string os[k].da)) := Lib.hid (fun w1 hb1 => by
              obtain ⟨a2, cap2, hv2, _, _, hc2⟩ := (HO.out.below hb1).raw
              cases hv2
              obtain ⟨b2, off2, rfl, _, hr2⟩ := hc2 k hlt
              obtain ⟨d0, d1, d2, d3, _⟩ := hr2 k hlt
              exact ⟨b2, off2, rfl, d0, d1, d2, d3⟩)
            have hz := HO.out.2 os[k] (List.getElem_mem hlt)
            have hfo := flsB_out HN.out.2
            have HST : Hid (runD S (os.take (k + 1)) = stD es os[k]) := Lib.hid (by rw [runD_step S os k hlt, HN.out.1]; rfl)
            have HDN := Lib.hid (fun v w h => l14Do_any v es os[k] w h hfo.1 (by omega) (by omega) hz.2)
            have HFM := Lib.hid (fun w => l14Form_any os[k] w hz.1)
            have HFI := Lib.hid (fun u w (h : FiAt w w.heap.size u (chL es os[k])) => l14Files_any u (chL es os[k]) w h (by have := chL_sum es os[k]; have := hz.2; omega))
            have HSZ : Hid ((∀ x ∈ es, FiSz x) → ∀ x ∈ chL es os[k], FiSz x) := Lib.hid (fun h => chL_sz h hz.1 (by omega) hz.2)
            have HFF : Hid (frB1 os[k] = true → flsB (chL es os[k]) = fitB (chL es os[k])) := Lib.hid (fun h => flsB_chL HN.out.2 h)
            have HDK : Hid (stD es os[k] = if (if frB1 os[k] then (if chB es os[k] then (if fitB (chL es os[k]) then 0 else 4) else 3) else 2 : Int) = 0 then some (chL es os[k]) else none) := Lib.hid rfl
            rw [← HST.out] at HDK
            generalize chL es os[k] = CL at HDN HFI HSZ HFF HDK
            generalize chB es os[k] = CB at HDN HDK
            generalize frB1 os[k] = FR at HFM HFF HDK
            generalize fitB CL = CF at HFF HDK
            have hFs := hF.2
            obtain ⟨O, hO⟩ : ∃ O, O = os[k] := ⟨_, rfl⟩
            rw [← hO] at HDN HFM HCC
            obtain ⟨k0, n0, t0, d0⟩ := O
            try simp only at HCC
            obtain ⟨b, off, rfl, c0, c1, c2, c3⟩ := HCC.out wr hB
            have HF1 := Lib.hid hF
            clear hO hz hF hfo HST
            go_wp2_with fail
            refine (HDN.out _ _ HF1.out).mono ?_
            rintro e w3 ⟨v3, rfl, hown, _, hb3⟩
            have hB3 := hB.trans (hb3.mono hB.size)
            have hx3 := hx.keep hb3 hx.lt
            clear hb3 hB hx c0 c1 c2 c3 g2
            cases CB with
            | false =>
              have HZ : Hid (R = false) := Lib.hid (HR0.out (k + 1) (by rw [HDK.out]; cases FR <;> rfl))
              clear hown
              go_wp2
              go_ret
              exact ⟨ret_bool HZ.out.symm, hB3⟩
            | true =>
              have g2 := hx3.cell 2 _ rfl
              obtain ⟨b', off', hbo, c0, c1, c2, c3⟩ := HCC.out w3 hB3
              cases hbo
              have HF3 := Lib.hid (FiAt.of_own (hown rfl) (HSZ.out hFs))
              clear hown
              go_wp2_with fail
              refine (HFM.out _).mono ?_
              rintro e w4 ⟨rfl, hb4⟩
              have hB4 := hB3.trans (hb4.mono hB3.size)
              have hx4 := hx3.keep hb4 hx3.lt
              have HF4 := Lib.hid ((HF3.out.below hb4).mono hb4.size)
              clear hb4 hB3 hx3 c0 c1 c2 c3 g2 HF3
              cases FR with
              | false =>
                have HZ : Hid (R = false) := Lib.hid (HR0.out (k + 1) (by rw [HDK.out]; rfl))
                go_wp2
                go_ret
                exact ⟨ret_bool HZ.out.symm, hB4⟩
              | true =>
                have HCf := Lib.hid (HFF.out rfl)
                rw [HCf.out] at HFI
                go_wp2_with fail
                refine (HFI.out _ _ HF4.out).mono ?_
                rintro e w5 ⟨rfl, hb5⟩
                have hB5 := hB4.trans (hb5.mono hB4.size)
                have hx5 := hx4.keep hb5 hx4.lt
                have hF5 := (HF4.out.below hb5).mono hb5.size
                clear hb5 hB4 hx4 HF4
                cases CF with
                | false =>
                  have HZ : Hid (R = false) := Lib.hid (HR0.out (k + 1) (by rw [HDK.out]; rfl))
                  go_wp2
                  go_ret
                  exact ⟨ret_bool HZ.out.symm, hB5⟩
                | true =>
                  have HN' : Hid (runD S (os.take (k + 1)) = some CL ∧ flsB CL = true) := Lib.hid ⟨by rw [HDK.out]; rfl, HCf.out⟩
                  go_wp2
                  go_roundw
                  case rel => exact ⟨k + 1, CL, by omega, by go_num, hF5, hB5, hx5, HN'⟩
                  case measure => simp [intOf]; omega
          · have HZ : Hid (R = fqB es L) := Lib.hid (HR2.out es (by have := HN.out.1; rwa [List.take_of_length_le (by omega)] at this))
            have HEq := Lib.hid (l14Same_any _ _ es L wr hF ((HL.out.below hB).mono hB.size))
            have g0 := hx.cell 0 _ rfl
            generalize fqB es L = Q at HZ HEq
            go_wp2_with fail
            refine HEq.out.mono ?_
            rintro e w3 ⟨rfl, hb3⟩
            have hB3 := hB.trans (hb3.mono hB.size)
            go_wp2
            go_ret
            exact ⟨ret_bool HZ.out.symm, hB3⟩
      · have HZ : Hid (R = false) := Lib.hid (by rw [HD.out, decide_eq_false h200]; rfl)
        have h200' : (200 : Int) < (os.length : Int) := by omega
        go_enter Try.func71, Try.ntmps71
        go_wp2_with fail
        refine (HFl.out _ ((HL.out.below hb0).mono hb0.size)).mono ?_
        rintro e w1 ⟨rfl, hb1⟩
        have hB1 := hb0.trans (hb1.mono hb0.size)
        have hx1 := hx0.keep hb1 hx0.lt
        have f1 := hx1.cell 1 _ rfl
        clear hb1 hb0 hx0
        go_wp2_with fail
        refine (HFs.out _ ((HS.out.below hB1).mono hB1.size)).mono ?_
        rintro e w2 ⟨rfl, hb2⟩
        have hB2 := hB1.trans (hb2.mono hB1.size)
        have hx2 := hx1.keep hb2 hx1.lt
        have g1 := hx2.cell 1 _ rfl
        have g2 := hx2.cell 2 _ rfl
        clear hb2 f1 hx1 hB1
        go_wp2
        go_ret
        exact ⟨ret_bool HZ.out.symm, hB2⟩
end Go.Proofs.Ytffkakpbelknaaa

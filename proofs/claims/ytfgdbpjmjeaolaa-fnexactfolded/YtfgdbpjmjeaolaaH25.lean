/- Joined: W9zg. -/
import Derived.Test.YtfgdbpjmjeaolaaH24
/- W9zg -/
namespace Go.Proofs.Ytfgdbpjmjeaolaa
open Go.ChangeShapes Go.WideShapes Go.ChangeAt Go.RowKit
set_option linter.unusedVariables false

set_option maxRecDepth 100000 in
set_option maxHeartbeats 1600000 in
theorem fetched_any (s : Sb) (x : Value) (u t : ByteArray) (v : Value) (its : List It) (B : Nat) (w : World) (h : OwnR 109 5 enC w B x s.es) (hz : ∀ z ∈ s.es, EnSz z) (hr : risB (enKs s.es) = true) (hB : B ≤ w.heap.size) (hi : ItAt w w.heap.size v its) (hn : s.es.length ≤ 100) (hni : its.length ≤ 100) :
    Calls Try.prog 130 #[sbV s.u s.t x, .agg #[.string u, .string t, v]] w (FtOut s t its x B w) := by
  have HI := Lib.hid hi
  obtain ⟨a, cap, rfl, hl, hm, hc⟩ := hi.raw
  clear hc hi
  unfold maxLen at hm
  obtain ⟨W, hW⟩ : ∃ W, W = ((w.alloc (.cells #[.string s.u, .string s.t, x] 105)).alloc (.cells #[.string u, .string t, .slice a its.length cap] 43)).alloc (.cells #[.string ⟨#[]⟩, .string ⟨#[]⟩, .slice none 0 0] 105) := ⟨_, rfl⟩
  have hb0 : Below w.heap.size w W := by rw [hW]; exact (((Below.refl _ _).alloc (Nat.le_refl _) _).alloc (by simp) _).alloc (by simp; omega) _
  have HH : Hid (FtH w W B x x s.es) := Lib.hid ⟨h.keep hb0 (Nat.le_refl _), .inl rfl, hz, hr, hb0, fun e => by have := (World.ownsRow.lt h _ e).2; omega⟩
  obtain ⟨xa, xc, rfl⟩ := h.slice
  have hX0 : Box W w.heap.size #[.string s.u, .string s.t, .slice xa s.es.length xc] 105 := by rw [hW]; exact ((Box.new w _ _).alloc _).alloc _
  have hF0 : Box W (w.heap.size + 1) #[.string u, .string t, .slice a its.length cap] 43 := by
    have := (Box.new (w.alloc (.cells #[.string s.u, .string s.t, .slice xa s.es.length xc] 105)) #[.string u, .string t, .slice a its.length cap] 43).alloc (.cells #[.string ⟨#[]⟩, .string ⟨#[]⟩, .slice none 0 0] 105)
    rw [hW]; simpa using this
  have hR0 : Box W (w.heap.size + 2) #[.string ⟨#[]⟩, .string ⟨#[]⟩, .slice none 0 0] 105 := by
    have := Box.new ((w.alloc (.cells #[.string s.u, .string s.t, .slice xa s.es.length xc] 105)).alloc (.cells #[.string u, .string t, .slice a its.length cap] 43)) #[.string ⟨#[]⟩, .string ⟨#[]⟩, .slice none 0 0] 105
    rw [hW]; simpa using this
  have hWs : W.heap.size = w.heap.size + 3 := by rw [hW]; simp
  obtain ⟨n, hnn⟩ : ∃ n, n = its.length := ⟨_, rfl⟩
  have HN := Lib.hid hnn
  have HW := Lib.hid hW
  rw [← hnn] at hl hni HI hF0 HW ⊢
  clear hnn hW h hz hr
  go_enter Try.func130, Try.ntmps130
  go_wp2
  rw [← HW.out]
  go_loopw [5, 16] (fun e i wr => ∃ (k : Nat) (es : List En) (ya : Option Addr) (yc : Nat), k ≤ n ∧ i = .int .i64 (k : Int) ∧ e = .slice ya es.length yc ∧ es.length ≤ 100 + k ∧ Hid (es = ftN s.es (its.take k)) ∧ Hid (FtH w wr B (.slice xa s.es.length xc) (.slice ya es.length yc) es) ∧ Box wr w.heap.size #[.string s.u, .string s.t, .slice xa s.es.length xc] 105 ∧ Box wr (w.heap.size + 1) #[.string u, .string t, .slice a n cap] 43 ∧ Box wr (w.heap.size + 1 + 1) #[.string ⟨#[]⟩, .string ⟨#[]⟩, .slice none 0 0] 105) (fun _ i _ => n - (intOf i).toNat)
  case atStart => exact ⟨0, s.es, xa, xc, Nat.zero_le _, rfl, rfl, by omega, Lib.hid rfl, HH, hX0, hF0, hR0⟩
  case round =>
    clear HH hX0 hF0 hR0 HW hWs
    obtain ⟨k, es, ya, yc, hk, rfl, rfl, hel, HE, HF, hX, hF, hR⟩ := hrel
    by_cases hlt : k < n
    · have hki : k < its.length := by have := HN.out; omega
      obtain ⟨a', cap', hv, _, _, hc⟩ := (HI.out.below HF.out.bel).raw
      have hv2 : a = a' ∧ cap = cap' := by
        simp at hv; exact ⟨hv.1, hv.2.2⟩
      obtain ⟨rfl, rfl⟩ := hv2
      obtain ⟨b, off, rfl, hb, hr⟩ := hc k hki
      obtain ⟨c0, c1, c2, z0, z1⟩ := hr k hki
      clear hr hc hv
      have HSt := Lib.hid (ftN_step s.es its k hki)
      rw [← HE.out] at HSt
      obtain ⟨I0, hI0⟩ : ∃ x, x = its[k].id := ⟨_, rfl⟩
      obtain ⟨I1, hI1⟩ : ∃ x, x = its[k].ti := ⟨_, rfl⟩
      obtain ⟨I2, hI2⟩ : ∃ x, x = its[k].da := ⟨_, rfl⟩
      have HIt : Hid (its[k] = ⟨I0, I1, I2⟩) := Lib.hid (by rw [hI0, hI1, hI2])
      rw [← hI0] at c0 z0
      rw [← hI1] at c1 z1
      rw [← hI2] at c2
      clear hI0 hI1 hI2
      have HPl := Lib.hid (fun w h => placeOfE_any (.slice ya es.length yc) es I0 w h (by omega) (ris_mono HF.out.ris I0))
      obtain ⟨P, hP⟩ : ∃ P, P = plK (enKs es) I0 := ⟨_, rfl⟩
      cases hfn : fnB (enKs es) I0 with
      | false =>
        rw [hfn, ← hP] at HPl
        have HWi := Lib.hid (fun w h => withE_any (.slice ya es.length yc) es ⟨⟨I0, I1, I2⟩, false, false⟩ w h HF.out.ris (by omega))
        have HL : Hid (putP es (plK (enKs es) I0) (fnB (enKs es) I0) ⟨⟨I0, I1, I2⟩, false, false⟩ = ft1 es its[k]) := Lib.hid (by rw [HIt.out]; unfold ft1 neE; rw [hfn]; rfl)
        have HSz : Hid (∀ z ∈ ft1 es its[k], EnSz z) := Lib.hid (by rw [← HL.out]; exact sz_put HF.out.sz _ _ _ ⟨z0, z1⟩)
        have HRi := Lib.hid (ris_ft1 HF.out.ris its[k])
        have hL1 := len_ft1 es its[k]
        simp only at HWi
        rw [HL.out] at HWi
        clear hfn HL
        obtain ⟨L, hL⟩ : ∃ L, L = ft1 es its[k] := ⟨_, rfl⟩
        rw [← hL] at HWi HSz HRi HSt hL1
        have hbA : Below wr.heap.size wr ((wr.alloc (.cells #[.string I0, .string I1, .int .i64 I2] 107)).alloc (.cells #[.string I0, .string I1, .int .i64 I2, .bool false, .bool false] 109)) := ((Below.refl _ _).alloc (Nat.le_refl _) _).alloc (by simp) _
        have hEn : Box ((wr.alloc (.cells #[.string I0, .string I1, .int .i64 I2] 107)).alloc (.cells #[.string I0, .string I1, .int .i64 I2, .bool false, .bool false] 109)) (wr.heap.size + 1) #[.string I0, .string I1, .int .i64 I2, .bool false, .bool false] 109 := by
          have := Box.new (wr.alloc (.cells #[.string I0, .string I1, .int .i64 I2] 107)) #[.string I0, .string I1, .int .i64 I2, .bool false, .bool false] 109
          simpa using this
        have HFA := Lib.hid (HF.out.keep hbA)
        have hXA := hX.keep hbA hX.lt
        have hFA := hF.keep hbA hF.lt
        have hRA := hR.keep hbA hR.lt
        have hsz : w.heap.size + 3 ≤ wr.heap.size := by have := hR.lt; omega
        clear hX hF hR HF HE hL HIt hP
        go_wp2_with fail
        refine (HPl.out _ (EnAt.of_own HFA.out.own HFA.out.sz)).mono ?_
        rintro e w1 ⟨rfl, hb1⟩
        have HFB := Lib.hid (HFA.out.keep hb1)
        have hXB := hXA.keep hb1 hXA.lt
        have hFB := hFA.keep hb1 hFA.lt
        have hRB := hRA.keep hb1 hRA.lt
        have hEB := hEn.keep hb1 hEn.lt
        have hsB : w.heap.size + 3 ≤ w1.heap.size := by have h1 := hb1.size; have h2 := hbA.size; omega
        have f0 := hEB.cell 0 _ rfl
        have f1 := hEB.cell 1 _ rfl
        have f2 := hEB.cell 2 _ rfl
        have f3 := hEB.cell 3 _ rfl
        have f4 := hEB.cell 4 _ rfl
        clear hXA hFA hRA hEn hb1 hbA HFA c0 c1 c2
        go_wp2_with fail
        refine (HWi.out _ (EnAt.of_own HFB.out.own HFB.out.sz)).mono ?_
        rintro e w2 ⟨y2, rfl, ho2, hb2⟩
        have HFC := Lib.hid (HFB.out.next hB hsB ho2 hb2 HSz.out HRi.out)
        have hXC := hXB.keep hb2 hXB.lt
        have hFC := hFB.keep hb2 hFB.lt
        have hRC := hRB.keep hb2 hRB.lt
        obtain ⟨y2a, y2c, rfl⟩ := ho2.slice
        clear f0 f1 f2 f3 f4 hXB hFB hRB hEB HFB ho2 hb2 HPl HWi
        go_wp2
        go_roundw
        case rel => exact ⟨k + 1, L, y2a, y2c, by omega, by go_num, rfl, by omega, Lib.hid HSt.out.symm, HFC, hXC, hFC, hRC⟩
        case measure => simp [intOf]; omega
      | true =>
        have hPl : P < es.length := by
          rw [hP]
          unfold fnB at hfn
          rcases Nat.lt_or_ge (plK (enKs es) I0) (enKs es).length with h | h
          · simpa [enKs] using h
          · rw [List.getElem?_eq_none h] at hfn; cases hfn
        rw [hfn, ← hP] at HPl
        have HWi := Lib.hid (fun w h => withE_any (.slice ya es.length yc) es ⟨⟨I0, I1, I2⟩, es[P].rd, es[P].st⟩ w h HF.out.ris (by omega))
        have HL : Hid (putP es (plK (enKs es) I0) (fnB (enKs es) I0) ⟨⟨I0, I1, I2⟩, es[P].rd, es[P].st⟩ = ft1 es its[k]) := Lib.hid (by rw [HIt.out]; unfold ft1 neE; simp only [hfn, ← hP]; simp [hPl])
        have HSz : Hid (∀ z ∈ ft1 es its[k], EnSz z) := Lib.hid (by rw [← HL.out]; exact sz_put HF.out.sz _ _ _ ⟨z0, z1⟩)
        have HRi := Lib.hid (ris_ft1 HF.out.ris its[k])
        have hL1 := len_ft1 es its[k]
        simp only at HWi
        rw [HL.out] at HWi
        clear hfn HL
        obtain ⟨L, hL⟩ : ∃ L, L = ft1 es its[k] := ⟨_, rfl⟩
        rw [← hL] at HWi HSz HRi HSt hL1
        obtain ⟨g, rfl, hgw⟩ : ∃ g, ya = some ⟨g, 0, none⟩ ∧ g < wr.heap.size := by
          rcases HF.out.own.2 with ⟨h1, h2⟩ | ⟨g, c, cur, h1, _⟩
          · omega
          · obtain ⟨h4, _⟩ : ya = some ⟨g, 0, none⟩ ∧ yc = c := by simpa using h1
            exact ⟨g, h4, (World.ownsRow.lt HF.out.own g (by rw [h4]; rfl)).2⟩
        obtain ⟨S3, hS3⟩ : ∃ z, z = es[P].rd := ⟨_, rfl⟩
        obtain ⟨S4, hS4⟩ : ∃ z, z = es[P].st := ⟨_, rfl⟩
        rw [← hS3, ← hS4] at HWi
        have HCe : Hid (∀ w2, OwnR 109 5 enC w2 B (.slice (some ⟨g, 0, none⟩) es.length yc) es → w2.cell? ⟨g, P * 5 + 3, none⟩ = some (.bool S3) ∧ w2.cell? ⟨g, P * 5 + 4, none⟩ = some (.bool S4)) := Lib.hid (fun w2 h => by
          rw [hS3, hS4]
          exact ⟨h.val enC_len rfl P 3 _ hPl rfl, h.val enC_len rfl P 4 _ hPl rfl⟩)
        have hbA : Below wr.heap.size wr ((wr.alloc (.cells #[.string I0, .string I1, .int .i64 I2] 107)).alloc (.cells #[.string I0, .string I1, .int .i64 I2, .bool false, .bool false] 109)) := ((Below.refl _ _).alloc (Nat.le_refl _) _).alloc (by simp) _
        have hEn : Box ((wr.alloc (.cells #[.string I0, .string I1, .int .i64 I2] 107)).alloc (.cells #[.string I0, .string I1, .int .i64 I2, .bool false, .bool false] 109)) (wr.heap.size + 1) #[.string I0, .string I1, .int .i64 I2, .bool false, .bool false] 109 := by
          have := Box.new (wr.alloc (.cells #[.string I0, .string I1, .int .i64 I2] 107)) #[.string I0, .string I1, .int .i64 I2, .bool false, .bool false] 109
          simpa using this
        have HFA := Lib.hid (HF.out.keep hbA)
        have hXA := hX.keep hbA hX.lt
        have hFA := hF.keep hbA hF.lt
        have hRA := hR.keep hbA hR.lt
        have hsz : w.heap.size + 3 ≤ wr.heap.size := by have := hR.lt; omega
        clear hX hF hR HF HE hL HIt hP hS3 hS4
        go_wp2_with fail
        refine (HPl.out _ (EnAt.of_own HFA.out.own HFA.out.sz)).mono ?_
        rintro e w1 ⟨rfl, hb1⟩
        have HFB := Lib.hid (HFA.out.keep hb1)
        have hXB := hXA.keep hb1 hXA.lt
        have hFB := hFA.keep hb1 hFA.lt
        have hRB := hRA.keep hb1 hRA.lt
        have hEB := hEn.keep hb1 hEn.lt
        have hsB : w.heap.size + 3 ≤ w1.heap.size := by have h1 := hb1.size; have h2 := hbA.size; omega
        obtain ⟨e3, e4⟩ := HCe.out _ HFB.out.own
        have hef := hEB.free
        have f3 := hEB.cell 3 _ rfl
        have f4 := hEB.cell 4 _ rfl
        have hne : ¬ g = wr.heap.size + 1 := by omega
        have hne2 : ¬ wr.heap.size + 1 = g := by omega
        have HEB := Lib.hid hEB
        have HXB := Lib.hid hXB
        have HFeB := Lib.hid hFB
        have HRB := Lib.hid hRB
        clear hXA hFA hRA hEn hb1 hbA HFA c0 c1 c2 hEB hXB hFB hRB HCe
        go_wp2
        go_region
        have hgb : (Value.slice (some ⟨g, 0, none⟩) es.length yc).ownBlock ≠ some (wr.heap.size + 1) := fun h => hne (Option.some.inj h)
        have HF2 := Lib.hid ((HFB.out.off ⟨wr.heap.size + 1, 3, none⟩ (.bool S3) hgb (by simp; omega)).off ⟨wr.heap.size + 1, 4, none⟩ (.bool S4) hgb (by simp; omega)).drew
        have hE2 : Box ((w1.setCell ⟨wr.heap.size + 1, 3, none⟩ (.bool S3)).setCell ⟨wr.heap.size + 1, 4, none⟩ (.bool S4)).drew (wr.heap.size + 1) #[.string I0, .string I1, .int .i64 I2, .bool S3, .bool S4] 109 := ((HEB.out.set 3 (.bool S3)).set 4 (.bool S4)).drew
        have hX2 := ((HXB.out.other ⟨wr.heap.size + 1, 3, none⟩ (.bool S3) (by simp; omega)).other ⟨wr.heap.size + 1, 4, none⟩ (.bool S4) (by simp; omega)).drew
        have hF2 := ((HFeB.out.other ⟨wr.heap.size + 1, 3, none⟩ (.bool S3) (by simp; omega)).other ⟨wr.heap.size + 1, 4, none⟩ (.bool S4) (by simp; omega)).drew
        have hR2 := ((HRB.out.other ⟨wr.heap.size + 1, 3, none⟩ (.bool S3) (by simp; omega)).other ⟨wr.heap.size + 1, 4, none⟩ (.bool S4) (by simp; omega)).drew
        have hs2 : w.heap.size + 3 ≤ ((w1.setCell ⟨wr.heap.size + 1, 3, none⟩ (.bool S3)).setCell ⟨wr.heap.size + 1, 4, none⟩ (.bool S4)).drew.heap.size := by have := hR2.lt; omega
        generalize ((w1.setCell ⟨wr.heap.size + 1, 3, none⟩ (.bool S3)).setCell ⟨wr.heap.size + 1, 4, none⟩ (.bool S4)).drew = W2 at HF2 hE2 hX2 hF2 hR2 hs2 ⊢
        clear e3 e4 hef f3 f4 hne hne2 HEB HXB HFeB HRB HFB hgb
        have q0 := hE2.cell 0 _ rfl
        have q1 := hE2.cell 1 _ rfl
        have q2 := hE2.cell 2 _ rfl
        have q3 := hE2.cell 3 _ rfl
        have q4 := hE2.cell 4 _ rfl
        go_wp2_with fail
        refine (HWi.out _ (EnAt.of_own HF2.out.own HF2.out.sz)).mono ?_
        rintro e w3 ⟨y2, rfl, ho2, hb2⟩
        have HFC := Lib.hid (HF2.out.next hB hs2 ho2 hb2 HSz.out HRi.out)
        have hXC := hX2.keep hb2 hX2.lt
        have hFC := hF2.keep hb2 hF2.lt
        have hRC := hR2.keep hb2 hR2.lt
        obtain ⟨y2a, y2c, rfl⟩ := ho2.slice
        clear q0 q1 q2 q3 q4 hX2 hF2 hR2 hE2 HF2 ho2 hb2 HPl HWi
        go_wp2
        go_roundw
        case rel => exact ⟨k + 1, L, y2a, y2c, by omega, by go_num, rfl, by omega, Lib.hid HSt.out.symm, HFC, hXC, hFC, hRC⟩
        case measure => simp [intOf]; omega
    · have HV : Hid (cutE (s.es.length + its.length) es = ftV s.es its) := Lib.hid (by rw [HE.out, List.take_of_length_le (by have := HN.out; omega)]; rfl)
      have hle2 : es.length ≤ s.es.length + its.length := by
        have := len_ftN s.es (its.take k)
        rw [← HE.out, List.length_take] at this
        omega
      clear HE HI
      obtain ⟨V, hV⟩ : ∃ V, V = ftV s.es its := ⟨_, rfl⟩
      rw [← hV] at HV
      have HVe := Lib.hid hV
      obtain ⟨f0, hf0⟩ : ∃ f, f = s.es.length + its.length := ⟨_, rfl⟩
      rw [← hf0] at HV hle2
      clear hV hf0 hm hl
      go_wp2
      go_loopw [5] (fun e wr => ∃ (f : Nat) (es : List En) (ya : Option Addr) (yc : Nat), e = .slice ya es.length yc ∧ es.length ≤ 300 ∧ es.length ≤ f ∧ Hid (cutE f es = V) ∧ Hid (FtH w wr B (.slice xa s.es.length xc) (.slice ya es.length yc) es) ∧ Box wr w.heap.size #[.string s.u, .string s.t, .slice xa s.es.length xc] 105 ∧ Box wr (w.heap.size + 1) #[.string u, .string t, .slice a n cap] 43 ∧ Box wr (w.heap.size + 1 + 1) #[.string ⟨#[]⟩, .string ⟨#[]⟩, .slice none 0 0] 105) (fun e _ => lenOf e)
      case atStart => exact ⟨f0, es, ya, yc, rfl, by omega, hle2, HV, HF, hX, hF, hR⟩
      case round =>
        clear HF hX hF hR HV hle2
        obtain ⟨f, E, ea, ec, rfl, h300, hlf, HV, HF, hX, hF, hR⟩ := hrel
        by_cases h12 : 12 < E.length
        · obtain ⟨f', rfl⟩ : ∃ f', f = f' + 1 := ⟨f - 1, by omega⟩
          have HV2 : Hid (cutE f' (cut1 E) = V) := Lib.hid (by rw [← HV.out]; conv => rhs; unfold cutE; rw [if_pos h12])
          have hlc := len_cut1 E (by omega)
          have hgo := (goP_lt E E.length).2 (by omega)
          have HGo := Lib.hid (fun w h => placeToGo_any (.slice ea E.length ec) E w h)
          have HWo := Lib.hid (fun w h => withoutE_any (.slice ea E.length ec) E (goP E E.length) w h hgo (by omega))
          have HSz := Lib.hid (sz_cut HF.out.sz)
          have HRi := Lib.hid (ris_cut1 HF.out.ris)
          rw [show E.take (goP E E.length) ++ E.drop (goP E E.length + 1) = cut1 E from rfl] at HWo
          generalize goP E E.length = P at HGo HWo hgo
          obtain ⟨L, hL⟩ : ∃ L, L = cut1 E := ⟨_, rfl⟩
          rw [← hL] at HWo HV2 hlc HSz HRi
          have hsz : w.heap.size + 3 ≤ wr.heap.size := by have := hR.lt; omega
          clear hL HV
          go_wp2_with fail
          refine (HGo.out _ (EnAt.of_own HF.out.own HF.out.sz)).mono ?_
          rintro e w1 ⟨rfl, hb1⟩
          have HFB := Lib.hid (HF.out.keep hb1)
          have hXB := hX.keep hb1 hX.lt
          have hFB := hF.keep hb1 hF.lt
          have hRB := hR.keep hb1 hR.lt
          have hsB : w.heap.size + 3 ≤ w1.heap.size := by have h1 := hb1.size; omega
          clear hX hF hR hb1 HF
          go_wp2_with fail
          refine (HWo.out _ (EnAt.of_own HFB.out.own HFB.out.sz).1).mono ?_
          rintro e w2 ⟨y2, rfl, ho2, hb2⟩
          have HFC := Lib.hid (HFB.out.next hB hsB ho2 hb2 HSz.out HRi.out)
          have hXC := hXB.keep hb2 hXB.lt
          have hFC := hFB.keep hb2 hFB.lt
          have hRC := hRB.keep hb2 hRB.lt
          obtain ⟨y2a, y2c, rfl⟩ := ho2.slice
          clear hXB hFB hRB HFB ho2 hb2 HGo HWo
          go_wp2
          go_roundw
          case rel => exact ⟨f', L, y2a, y2c, rfl, by omega, by omega, HV2, HFC, hXC, hFC, hRC⟩
          case measure => simp [lenOf]; omega
        · have HVe2 : Hid (E = ftV s.es its) := Lib.hid (by rw [← HVe.out, ← HV.out, cutE_end f E h12])
          have x0 := hX.cell 0 _ rfl
          have x1 := hF.cell 1 _ rfl
          have hrf := hR.free
          have r0 := hR.cell 0 _ rfl
          have r1 := hR.cell 1 _ rfl
          have r2 := hR.cell 2 _ rfl
          have HR := Lib.hid hR
          clear hR hX hF HV
          go_wp2
          have hR2 := ((HR.out.set 0 (.string s.u)).set 1 (.string t)).set 2 (.slice ea E.length ec)
          have hF2 := (HF.out.res 0 (.string s.u)).res 1 (.string t)|>.res 2 (.slice ea E.length ec)
          generalize ((wr.setCell ⟨w.heap.size + 1 + 1, 0, none⟩ (.string s.u)).setCell ⟨w.heap.size + 1 + 1, 1, none⟩ (.string t)).setCell ⟨w.heap.size + 1 + 1, 2, none⟩ (.slice ea E.length ec) = W2 at hR2 hF2 ⊢
          have q0 := hR2.cell 0 _ rfl
          have q1 := hR2.cell 1 _ rfl
          have q2 := hR2.cell 2 _ rfl
          exact bodyPost_ret (v := sbV s.u t (.slice ea E.length ec)) (by simp [results, Try.results130, go_sem, q0, q1, q2]) rfl ⟨_, rfl, by rw [← HVe2.out]; exact hF2⟩
end Go.Proofs.Ytfgdbpjmjeaolaa

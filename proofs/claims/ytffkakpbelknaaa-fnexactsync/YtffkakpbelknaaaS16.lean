/- Joined: W9c. -/
import Derived.Test.YtffkakpbelknaaaS12
/- W9c -/
namespace Go.Proofs.Ytffkakpbelknaaa
open Go.ChangeShapes Go.WideShapes Go.ChangeAt Go.RowKit
set_option linter.unusedVariables false

set_option maxRecDepth 100000 in
set_option maxHeartbeats 1600000 in
theorem entriesOk_any (v : Value) (es : List En) (w : World) (h : EnAt w w.heap.size v es) :
    Calls Try.prog 117 #[v] w fun e w' => e = .returned (.bool (ensB es)) ∧ Below w.heap.size w w' := by
  have HI := Lib.hid h
  obtain ⟨a, cap, rfl, hl, hm, hc⟩ := h.raw
  clear hc h
  unfold maxLen at hm
  have HR := Lib.hid (fun w h => risesE_any (.slice a es.length cap) es w h)
  have HE : Hid (ensB es = (allB es.length (enB es) && risB (enKs es))) := Lib.hid rfl
  rw [HE.out]
  clear HE
  have HX : Hid (∀ k, k < es.length → enB es k = false → allB es.length (enB es) = false) := Lib.hid (fun k hk h => allB_out k hk h)
  have HD : Hid (∀ k, ¬ k < es.length → (∀ j, j < k → enB es j = true) → allB es.length (enB es) = true) := Lib.hid (fun k hk h => allB_end k hk h)
  generalize allB es.length (enB es) = R at HX HD ⊢
  generalize risB (enKs es) = R2 at HR ⊢
  go_enter Try.func117, Try.ntmps117
  go_wp2
  go_loopw [7] (fun i wr => ∃ k : Nat, k ≤ es.length ∧ i = .int .i64 (k : Int) ∧ Below w.heap.size w wr ∧ Hid (∀ j, j < k → enB es j = true)) (fun i _ => es.length - (intOf i).toNat)
  case atStart => exact ⟨0, Nat.zero_le _, rfl, Below.refl _ _, Lib.hid (fun j hj => by omega)⟩
  case round =>
    obtain ⟨k, hk, rfl, hB, HO⟩ := hrel
    by_cases hlt : k < es.length
    · obtain ⟨a', cap', hv, _, _, hc⟩ := (HI.out.below hB).raw
      cases hv
      obtain ⟨b, off, rfl, hb, hr⟩ := hc k hlt
      obtain ⟨c0, c1, c2, c3, c4, s0, s1⟩ := hr k hlt
      have HC := Lib.hid (fun w => itemOk_any es[k].it.id es[k].it.ti es[k].it.da w s0 s1)
      have HK := Lib.hid (enB_at es k hlt)
      generalize itB es[k].it.id es[k].it.ti es[k].it.da = Q at HC HK
      obtain ⟨S0, hS0⟩ : ∃ x, x = es[k].it.id := ⟨_, rfl⟩
      obtain ⟨S1, hS1⟩ : ∃ x, x = es[k].it.ti := ⟨_, rfl⟩
      obtain ⟨S2, hS2⟩ : ∃ x, x = es[k].it.da := ⟨_, rfl⟩
      obtain ⟨S3, hS3⟩ : ∃ x, x = es[k].rd := ⟨_, rfl⟩
      obtain ⟨S4, hS4⟩ : ∃ x, x = es[k].st := ⟨_, rfl⟩
      rw [← hS0] at c0 HC
      rw [← hS1] at c1 HC
      rw [← hS2] at c2 HC
      rw [← hS3] at c3
      rw [← hS4] at c4
      have hB1 : Below w.heap.size w (wr.alloc (.cells #[.string S0, .string S1, .int .i64 S2, .bool S3, .bool S4] 47)) := hB.alloc hB.size _
      clear hr hc hS0 hS1 hS2 hS3 hS4 s0 s1
      go_wp2_with fail
      refine (HC.out _).mono ?_
      rintro e w1 ⟨rfl, hb1⟩
      have hB2 := hB1.trans (hb1.mono hB1.size)
      clear hb1 hB1 hB c0 c1 c2 c3 c4
      cases Q with
      | false =>
        have HZ : Hid (R = false) := Lib.hid (HX.out k hlt HK.out)
        go_wp2
        go_ret
        exact ⟨ret_bool (by rw [HZ.out]; rfl), hB2⟩
      | true =>
        have HO' : Hid (∀ j, j < k + 1 → enB es j = true) := Lib.hid (fun j hj => by
          by_cases hjk : j = k
          · subst hjk; exact HK.out
          · exact HO.out j (by omega))
        go_wp2
        go_roundw
        case rel => exact ⟨k + 1, by omega, by go_num, hB2, HO'⟩
        case measure => simp [intOf]; omega
    · have HZ : Hid (R = true) := Lib.hid (HD.out k hlt HO.out)
      go_wp2_with fail
      refine (HR.out _ ((HI.out.below hB).mono hB.size)).mono ?_
      rintro e w1 ⟨rfl, hb1⟩
      have hB2 := hB.trans (hb1.mono hB.size)
      clear hb1 hB
      go_wp2
      go_ret
      exact ⟨ret_bool (by rw [HZ.out]; rfl), hB2⟩

set_option maxRecDepth 100000 in
set_option maxHeartbeats 1600000 in
theorem subOk_any (s : Sb) (x : Value) (w : World) (hx : EnAt w w.heap.size x s.es) (hz : SbSz s) :
    Calls Try.prog 56 #[sbV s.u s.t x] w fun e w' => e = .returned (.bool (sbB s)) ∧ Below w.heap.size w w' := by
  have HI := Lib.hid hx
  obtain ⟨a, cap, rfl, hl, hm, hc⟩ := hx.raw
  clear hc hx
  unfold maxLen at hm
  have HN := Lib.hid (fun w => isName_any s.u 20 w hz.1)
  have HT := Lib.hid (fun w => isTitle_any s.t w hz.2)
  have HC := Lib.hid (fun w h => entriesOk_any (.slice a s.es.length cap) s.es w h)
  have HE : Hid (sbB s = (nmB s.u 20 && ttB s.t && decide (s.es.length ≤ 12) && ensB s.es)) := Lib.hid rfl
  rw [HE.out]
  clear HE
  generalize nmB s.u 20 = A at HN ⊢
  generalize ttB s.t = B at HT ⊢
  generalize ensB s.es = D at HC ⊢
  obtain ⟨U, hU⟩ : ∃ U, U = s.u := ⟨_, rfl⟩
  obtain ⟨T, hT⟩ : ∃ T, T = s.t := ⟨_, rfl⟩
  rw [← hU] at HN ⊢
  rw [← hT] at HT ⊢
  obtain ⟨n, hn⟩ : ∃ n, n = s.es.length := ⟨_, rfl⟩
  rw [← hn] at hl HC HI ⊢
  have hB1 : Below w.heap.size w (w.alloc (.cells #[.string U, .string T, .slice a n cap] 43)) := (Below.refl _ _).alloc (Nat.le_refl _) _
  clear hU hT hn
  go_enter Try.func56, Try.ntmps56
  go_wp2_with fail
  refine (HN.out _).mono ?_
  rintro e w1 ⟨rfl, rfl⟩
  cases A with
  | false =>
    go_wp2
    go_ret
    exact ⟨ret_bool (by simp), hB1⟩
  | true =>
    go_wp2_with fail
    refine (HT.out _).mono ?_
    rintro e w2 ⟨rfl, rfl⟩
    cases B with
    | false =>
      go_wp2
      go_ret
      exact ⟨ret_bool (by simp), hB1⟩
    | true =>
      by_cases h12 : n ≤ 12
      · have h12' : decide ((n : Int) ≤ 12) = true := decide_eq_true (by omega)
        go_wp2_with fail
        refine (HC.out _ ((HI.out.below hB1).mono hB1.size)).mono ?_
        rintro e w3 ⟨rfl, hb3⟩
        have hB3 := hB1.trans (hb3.mono hB1.size)
        clear hB1 hb3
        go_wp2
        go_ret
        exact ⟨ret_bool (by simp [h12]), hB3⟩
      · have h12' : decide ((n : Int) ≤ 12) = false := decide_eq_false (by omega)
        go_wp2
        go_ret
        exact ⟨ret_bool (by simp [h12]), hB1⟩

set_option maxRecDepth 100000 in
set_option maxHeartbeats 1600000 in
theorem implReaderOk_any (v : Value) (ss : List Sb) (w : World) (h : SbAt w w.heap.size v ss) :
    Calls Try.prog 21 #[.agg #[v]] w fun e w' => e = .returned (.bool (rdB ss)) ∧ Below w.heap.size w w' := by
  have HI := Lib.hid h
  obtain ⟨a, cap, rfl, hl, hm, hc⟩ := h.raw
  clear hc h
  unfold maxLen at hm
  have HR := Lib.hid (fun w h => risesS_any (.slice a ss.length cap) ss w h)
  have HE : Hid (rdB ss = (decide (ss.length ≤ 6) && (allB ss.length (sbsB ss) && risB (sbKs ss)))) := Lib.hid rfl
  rw [HE.out]
  clear HE
  have HX : Hid (∀ k, k < ss.length → sbsB ss k = false → allB ss.length (sbsB ss) = false) := Lib.hid (fun k hk h => allB_out k hk h)
  have HD : Hid (∀ k, ¬ k < ss.length → (∀ j, j < k → sbsB ss j = true) → allB ss.length (sbsB ss) = true) := Lib.hid (fun k hk h => allB_end k hk h)
  generalize allB ss.length (sbsB ss) = R at HX HD ⊢
  generalize risB (sbKs ss) = R2 at HR ⊢
  have hB0 : Below w.heap.size w (w.alloc (.cells #[.slice a ss.length cap] 26)) := (Below.refl _ _).alloc (Nat.le_refl _) _
  have hF0 := Box.new w #[.slice a ss.length cap] 26
  by_cases h6 : ss.length ≤ 6
  · have h6' : decide ((6 : Int) < (ss.length : Int)) = false := decide_eq_false (by omega)
    go_enter Try.func21, Try.ntmps21
    go_wp2
    go_loopw [12] (fun i wr => ∃ k : Nat, k ≤ ss.length ∧ i = .int .i64 (k : Int) ∧ Box wr w.heap.size #[.slice a ss.length cap] 26 ∧ Below w.heap.size w wr ∧ Hid (∀ j, j < k → sbsB ss j = true)) (fun i _ => ss.length - (intOf i).toNat)
    case atStart => exact ⟨0, Nat.zero_le _, rfl, hF0, hB0, Lib.hid (fun j hj => by omega)⟩
    case round =>
      obtain ⟨k, hk, rfl, hF, hB, HO⟩ := hrel
      by_cases hlt : k < ss.length
      · obtain ⟨a', cap', hv, _, _, hc⟩ := (HI.out.below hB).raw
        cases hv
        obtain ⟨b, off, rfl, hb, hr⟩ := hc k hlt
        obtain ⟨x, c0, c1, c2, hx, s0, s1⟩ := hr k hlt
        have HC := Lib.hid (fun w (hy : EnAt w w.heap.size x ss[k].es) => subOk_any ss[k] x w hy ⟨s0, s1⟩)
        have HK := Lib.hid (sbsB_at ss k hlt)
        have HXx := Lib.hid hx
        obtain ⟨xa, xc, rfl⟩ := hx.1.slice
        generalize sbB ss[k] = Q at HC HK
        obtain ⟨S0, hS0⟩ : ∃ x, x = ss[k].u := ⟨_, rfl⟩
        obtain ⟨S1, hS1⟩ : ∃ x, x = ss[k].t := ⟨_, rfl⟩
        obtain ⟨S2, hS2⟩ : ∃ x, x = ss[k].es := ⟨_, rfl⟩
        rw [← hS2] at HXx c2 HC
        rw [← hS0] at c0 HC
        rw [← hS1] at c1 HC
        obtain ⟨n, hn⟩ : ∃ n, n = S2.length := ⟨_, rfl⟩
        rw [← hn] at c2 HXx HC
        have hB1 : Below wr.heap.size wr (wr.alloc (.cells #[.string S0, .string S1, .slice xa n xc] 43)) := (Below.refl _ _).alloc (Nat.le_refl _) _
        have hBw := hB.trans (hB1.mono hB.size)
        have HXx2 := Lib.hid ((HXx.out.mono hB.size).below hB1 |>.mono hB1.size)
        have hF1 := hF.keep hB1 hF.lt
        clear hr hc hS0 hS1 hS2 hn s0 s1 hx HXx hB hF
        go_wp2_with fail
        generalize wr.alloc (.cells #[.string S0, .string S1, .slice xa n xc] 43) = W at hB1 hBw HXx2 hF1 ⊢
        refine (HC.out _ HXx2.out).mono ?_
        rintro e w1 ⟨rfl, hb1⟩
        have hB2 := hBw.trans (hb1.mono hBw.size)
        have hF2 := hF1.keep hb1 hF1.lt
        clear hb1 hB1 hBw c0 c1 c2 HXx2 hF1
        cases Q with
        | false =>
          have HZ : Hid (R = false) := Lib.hid (HX.out k hlt HK.out)
          go_wp2
          go_ret
          exact ⟨ret_bool (by rw [HZ.out]; simp), hB2⟩
        | true =>
          have HO' : Hid (∀ j, j < k + 1 → sbsB ss j = true) := Lib.hid (fun j hj => by
            by_cases hjk : j = k
            · subst hjk; exact HK.out
            · exact HO.out j (by omega))
          go_wp2
          go_roundw
          case rel => exact ⟨k + 1, by omega, by go_num, hF2, hB2, HO'⟩
          case measure => simp [intOf]; omega
      · have HZ : Hid (R = true) := Lib.hid (HD.out k hlt HO.out)
        have f0 := hF.cell 0 _ rfl
        go_wp2_with fail
        refine (HR.out _ ((HI.out.below hB).mono hB.size)).mono ?_
        rintro e w1 ⟨rfl, hb1⟩
        have hB2 := hB.trans (hb1.mono hB.size)
        clear hb1 hB
        go_wp2
        go_ret
        exact ⟨ret_bool (by rw [HZ.out]; simp [h6]), hB2⟩
  · have h6' : decide ((6 : Int) < (ss.length : Int)) = true := decide_eq_true (by omega)
    go_enter Try.func21, Try.ntmps21
    go_wp2
    go_ret
    exact ⟨ret_bool (by simp [h6]), hB0⟩
end Go.Proofs.Ytffkakpbelknaaa

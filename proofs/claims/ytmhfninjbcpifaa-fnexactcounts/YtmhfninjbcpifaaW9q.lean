/- Counts of the reference. -/
import Derived.Test.YtmhfninjbcpifaaW9p
namespace Go.Proofs.Ytmhfninjbcpifaa
open Go.ChangeShapes Go.WideShapes Go.ChangeAt Go.RowKit
set_option linter.unusedVariables false

set_option maxRecDepth 100000 in
set_option maxHeartbeats 1600000 in
theorem specCounts_any (v : Value) (ss : List Sb) (x : ByteArray) (w : World) (h : SbAt w w.heap.size v ss) :
    Calls Try.prog 28 #[.agg #[v], .string x] w fun e w' => e = .returned (c3V (ctV ss x)) ∧ Below w.heap.size w w' := by
  have HI := Lib.hid h
  obtain ⟨a, cap, rfl, hl, hm, hc⟩ := h.raw
  clear hc h
  unfold maxLen at hm
  have HC := Lib.hid (fun w h => specReaderOk_any (.slice a ss.length cap) ss w h)
  have HA := Lib.hid (fun w h => l9At_any (.slice a ss.length cap) ss x w h)
  have hB0 : Below w.heap.size w (w.alloc (.cells #[.slice a ss.length cap] 40)) := (Below.refl _ _).alloc (Nat.le_refl _) _
  have hX0 := Box.new w #[.slice a ss.length cap] 40
  cases hrd : rdB ss with
  | false =>
    have HV : Hid (ctV ss x = (0, 0, 0)) := Lib.hid (by unfold ctV; rw [hrd]; rfl)
    rw [hrd] at HC
    rw [HV.out]
    clear hrd HV
    generalize atK (sbKs ss) x = at0 at HA
    go_enter Try.func28, Try.ntmps28
    go_wp2_with fail
    refine (HA.out _ ((HI.out.below hB0).mono hB0.size)).mono ?_
    rintro e w1 ⟨rfl, hb1⟩
    have hB1 := hB0.trans (hb1.mono hB0.size)
    have hX1 := hX0.keep hb1 hX0.lt
    have f0 := hX1.cell 0 _ rfl
    clear hb1 hB0 hX0
    go_wp2_with fail
    refine (HC.out _ ((HI.out.below hB1).mono hB1.size)).mono ?_
    rintro e w2 ⟨rfl, hb2⟩
    have hB2 := hB1.trans (hb2.mono hB1.size)
    clear hb2 hB1 f0 hX1
    go_wp2
    go_ret3
    exact ⟨rfl, hB2⟩
  | true =>
    have HV : Hid (ctV ss x = (match ixK (sbKs ss) x with | some i => (match ss[i]? with | some s => (s.es.length, unN s.es, stN s.es) | none => (0, 0, 0)) | none => (0, 0, 0))) := Lib.hid (by unfold ctV; rw [hrd]; rfl)
    rw [hrd] at HC
    have HAe : Hid (atK (sbKs ss) x = (match ixK (sbKs ss) x with | some i => (i : Int) | none => -1)) := Lib.hid rfl
    clear hrd
    cases hix : ixK (sbKs ss) x with
    | none =>
      have HZ : Hid (ctV ss x = (0, 0, 0)) := Lib.hid (by rw [HV.out, hix])
      have HAz : Hid (atK (sbKs ss) x = -1) := Lib.hid (by rw [HAe.out, hix])
      rw [HAz.out] at HA
      rw [HZ.out]
      clear HV HAe HZ HAz hix
      go_enter Try.func28, Try.ntmps28
      go_wp2_with fail
      refine (HA.out _ ((HI.out.below hB0).mono hB0.size)).mono ?_
      rintro e w1 ⟨rfl, hb1⟩
      have hB1 := hB0.trans (hb1.mono hB0.size)
      have hX1 := hX0.keep hb1 hX0.lt
      have f0 := hX1.cell 0 _ rfl
      clear hb1 hB0 hX0
      go_wp2_with fail
      refine (HC.out _ ((HI.out.below hB1).mono hB1.size)).mono ?_
      rintro e w2 ⟨rfl, hb2⟩
      have hB2 := hB1.trans (hb2.mono hB1.size)
      clear hb2 hB1 f0 hX1
      go_wp2
      go_ret3
      exact ⟨rfl, hB2⟩
    | some p =>
      have hpl : p < ss.length := by
        unfold ixK at hix
        have := (List.findIdx?_eq_some_iff_getElem.1 hix).1
        simpa [sbKs] using this
      have HZ : Hid (ctV ss x = (ss[p].es.length, unN ss[p].es, stN ss[p].es)) := Lib.hid (by rw [HV.out, hix]; simp [hpl])
      have HAz : Hid (atK (sbKs ss) x = (p : Int)) := Lib.hid (by rw [HAe.out, hix])
      rw [HAz.out] at HA
      rw [HZ.out]
      obtain ⟨E, hE⟩ : ∃ E, E = ss[p].es := ⟨_, rfl⟩
      rw [← hE]
      have HEe := Lib.hid hE
      clear HV HAe HZ HAz hix hE
      go_enter Try.func28, Try.ntmps28
      go_wp2_with fail
      refine (HA.out _ ((HI.out.below hB0).mono hB0.size)).mono ?_
      rintro e w1 ⟨rfl, hb1⟩
      have hB1 := hB0.trans (hb1.mono hB0.size)
      have hX1 := hX0.keep hb1 hX0.lt
      have f0 := hX1.cell 0 _ rfl
      clear hb1 hB0 hX0
      go_wp2_with fail
      refine (HC.out _ ((HI.out.below hB1).mono hB1.size)).mono ?_
      rintro e w2 ⟨rfl, hb2⟩
      have hB2 := hB1.trans (hb2.mono hB1.size)
      have hX2 := hX1.keep hb2 hX1.lt
      clear hb2 hB1 f0 hX1
      have f0 := hX2.cell 0 _ rfl
      obtain ⟨a', cap', hv, _, _, hc⟩ := (HI.out.below hB2).raw
      cases hv
      obtain ⟨b, off, rfl, hb, hr⟩ := hc p hpl
      obtain ⟨y, c0, c1, c2, hy, _, _⟩ := hr p hpl
      obtain ⟨ya, yc, rfl⟩ := hy.1.slice
      have HY := Lib.hid (hy.mono hB2.size)
      have hE := HEe.out
      rw [← hE] at c2 HY
      obtain ⟨_, _, hye, hyl, hym, _⟩ := HY.out.raw
      cases hye
      unfold maxLen at hym
      clear hr hc hE hy
      have hp0 : decide ((p : Int) < 0) = false := decide_eq_false (by omega)
      go_wp2
      go_loop [8, 9, 11] (fun n2 n3 i => ∃ k : Nat, k ≤ E.length ∧ i = .int .i64 (k : Int) ∧ n2 = .int .i64 (((E.take k).countP (fun x => !x.rd) : Nat) : Int) ∧ n3 = .int .i64 (((E.take k).countP (fun x => x.st) : Nat) : Int)) (fun _ _ i => E.length - (intOf i).toNat)
      case atStart => exact ⟨0, Nat.zero_le _, rfl, rfl, rfl⟩
      case round =>
        obtain ⟨k, hk, rfl, rfl, rfl⟩ := hrel
        by_cases hlt : k < E.length
        · obtain ⟨a', cap', hv, _, _, hc⟩ := HY.out.raw
          cases hv
          obtain ⟨b2, off2, rfl, hb2, hr⟩ := hc k hlt
          obtain ⟨d0, d1, d2, d3, d4, _, _⟩ := hr k hlt
          have HR := Lib.hid (cnt_take (fun x => !x.rd) E k hlt)
          have HS := Lib.hid (cnt_take (fun x => x.st) E k hlt)
          have hr1 := cnt_le (fun x => !x.rd) E k
          have hr2 := cnt_le (fun x => x.st) E k
          generalize (E.take k).countP (fun x => !x.rd) = n1 at HR hr1
          generalize (E.take k).countP (fun x => x.st) = n2 at HS hr2
          obtain ⟨S3, hS3⟩ : ∃ z, z = E[k].rd := ⟨_, rfl⟩
          obtain ⟨S4, hS4⟩ : ∃ z, z = E[k].st := ⟨_, rfl⟩
          rw [← hS3] at d3 HR
          rw [← hS4] at d4 HS
          clear hr hc hS3 hS4
          cases S3 <;> cases S4
          all_goals
            go_wp2
            go_round
            case rel => exact ⟨k + 1, by omega, by go_num, by rw [HR.out]; go_num, by rw [HS.out]; go_num⟩
            case measure => simp [intOf]; omega
        · have hke : k = E.length := by omega
          have H1 : Hid ((E.take k).countP (fun x => !x.rd) = unN E) := Lib.hid (by rw [List.take_of_length_le (by omega)]; rfl)
          have H2 : Hid ((E.take k).countP (fun x => x.st) = stN E) := Lib.hid (by rw [List.take_of_length_le (by omega)]; rfl)
          rw [H1.out, H2.out]
          clear hke
          go_wp2
          go_ret3
          exact ⟨ret_c3 rfl rfl rfl, hB2⟩
end Go.Proofs.Ytmhfninjbcpifaa

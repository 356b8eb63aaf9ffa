/- Joined: W9p. -/
import Derived.Test.YtffkakpbelknaaaS14
import Derived.Test.YtffkakpbelknaaaS16
import Derived.Test.YtffkakpbelknaaaS21
/- W9p -/
namespace Go.Proofs.Ytffkakpbelknaaa
open Go.ChangeShapes Go.WideShapes Go.ChangeAt Go.RowKit
set_option linter.unusedVariables false

def c3V (x : Nat × Nat × Nat) : Value := .tuple #[.int .i64 (x.1 : Int), .int .i64 (x.2.1 : Int), .int .i64 (x.2.2 : Int)]
theorem ret_c3 {x : Nat × Nat × Nat} {a b c : Int} (h1 : (x.1 : Int) = a) (h2 : (x.2.1 : Int) = b) (h3 : (x.2.2 : Int) = c) : Ending.returned (.tuple #[.int .i64 a, .int .i64 b, .int .i64 c]) = .returned (c3V x) := by
  unfold c3V; rw [h1, h2, h3]
theorem rdB_parts {ss : List Sb} (h : rdB ss = true) : ss.length ≤ 6 ∧ risB (sbKs ss) = true := by
  unfold rdB at h
  simp only [Bool.and_eq_true, decide_eq_true_eq] at h
  exact ⟨h.1, h.2.2⟩
/-- What l9At answers. -/
def atK (ks : List ByteArray) (x : ByteArray) : Int := match ixK ks x with
  | some i => (i : Int)
  | none => -1

set_option maxRecDepth 100000 in
set_option maxHeartbeats 1600000 in
theorem l9At_any (v : Value) (ss : List Sb) (x : ByteArray) (w : World) (h : SbAt w w.heap.size v ss) :
    Calls Try.prog 110 #[.agg #[v], .string x] w fun e w' => e = .returned (.int .i64 (atK (sbKs ss) x)) ∧ Below w.heap.size w w' := by
  have HI := Lib.hid h
  obtain ⟨a, cap, rfl, hl, hm, hc⟩ := h.raw
  clear hc h
  unfold maxLen at hm
  have HL : Hid ((sbKs ss).length = ss.length) := Lib.hid (by simp [sbKs])
  have HX : Hid (∀ k (hk : k < ss.length), (ss[k].u.toList == x.toList) = true → (∀ j (hj : j < ss.length), j < k → (ss[j].u.toList == x.toList) = false) → atK (sbKs ss) x = (k : Int)) := Lib.hid (fun k hk h1 h2 => by
    have : ixK (sbKs ss) x = some k := by
      unfold ixK
      rw [List.findIdx?_eq_some_iff_getElem]
      refine ⟨by rw [HL.out]; exact hk, by simpa [sbKs] using h1, fun j hj => ?_⟩
      have := h2 j (by omega) hj
      simpa [sbKs] using this
    unfold atK
    rw [this])
  have HD : Hid ((∀ j (hj : j < ss.length), (ss[j].u.toList == x.toList) = false) → atK (sbKs ss) x = -1) := Lib.hid (fun h2 => by
    have : ixK (sbKs ss) x = none := by
      unfold ixK
      rw [List.findIdx?_eq_none_iff]
      intro k hk
      obtain ⟨s, hs, rfl⟩ := List.mem_map.1 hk
      obtain ⟨j, hj, rfl⟩ := List.getElem_of_mem hs
      exact h2 j hj
    unfold atK
    rw [this])
  generalize atK (sbKs ss) x = R at HX HD ⊢
  have hB0 : Below w.heap.size w (w.alloc (.cells #[.slice a ss.length cap] 26)) := (Below.refl _ _).alloc (Nat.le_refl _) _
  have f0 : (w.alloc (.cells #[.slice a ss.length cap] 26)).cell? ⟨w.heap.size, 0, none⟩ = some (.slice a ss.length cap) := (Box.new w #[.slice a ss.length cap] 26).cell 0 _ rfl
  have HI2 := Lib.hid (HI.out.below hB0)
  go_enter Try.func110, Try.ntmps110
  go_wp2
  generalize w.alloc (.cells #[.slice a ss.length cap] 26) = W at hB0 f0 HI2 ⊢
  go_loop [5] (fun i => ∃ k : Nat, k ≤ ss.length ∧ i = .int .i64 (k : Int) ∧ Hid (∀ j (hj : j < ss.length), j < k → (ss[j].u.toList == x.toList) = false)) (fun i => ss.length - (intOf i).toNat)
  case atStart => exact ⟨0, Nat.zero_le _, rfl, Lib.hid (fun j hj h => by omega)⟩
  case round =>
    obtain ⟨k, hk, rfl, HO⟩ := hrel
    by_cases hlt : k < ss.length
    · obtain ⟨a', cap', hv, _, _, hc⟩ := HI2.out.raw
      cases hv
      obtain ⟨b, off, rfl, hb, hr⟩ := hc k hlt
      obtain ⟨y, c0, c1, c2, _, _, _⟩ := hr k hlt
      have HK := Lib.hid (HX.out k hlt)
      have HN : Hid ((ss[k].u.toList == x.toList) = false → ∀ j (hj : j < ss.length), j < k + 1 → (ss[j].u.toList == x.toList) = false) := Lib.hid (fun h j hj hjk => by
        by_cases e : j = k
        · subst e; exact h
        · exact HO.out j hj (by omega))
      obtain ⟨U, hU⟩ : ∃ U, U = ss[k].u := ⟨_, rfl⟩
      rw [← hU] at c0 HK HN
      clear hr hc hU
      obtain ⟨e, he⟩ : ∃ e, (U.toList == x.toList) = e := ⟨_, rfl⟩
      rw [he] at HK HN
      cases e with
      | true =>
        have HZ : Hid (R = (k : Int)) := Lib.hid (HK.out rfl HO.out)
        go_wp2
        go_ret
        exact ⟨ret_int HZ.out.symm, hB0⟩
      | false =>
        have HO' := Lib.hid (HN.out rfl)
        go_wp2
        refine ⟨⟨k + 1, by omega, by simp, HO'⟩, ?_⟩
        simp [intOf]; omega
    · have HZ : Hid (R = -1) := Lib.hid (HD.out (fun j hj => HO.out j hj (by omega)))
      go_wp2
      go_ret
      exact ⟨ret_int HZ.out.symm, hB0⟩

set_option maxRecDepth 100000 in
set_option maxHeartbeats 1600000 in
theorem implCounts_any (v : Value) (ss : List Sb) (x : ByteArray) (w : World) (h : SbAt w w.heap.size v ss) :
    Calls Try.prog 26 #[.agg #[v], .string x] w fun e w' => e = .returned (c3V (ctV ss x)) ∧ Below w.heap.size w w' := by
  have HI := Lib.hid h
  obtain ⟨a, cap, rfl, hl, hm, hc⟩ := h.raw
  clear hc h
  unfold maxLen at hm
  have HC := Lib.hid (fun w h => implReaderOk_any (.slice a ss.length cap) ss w h)
  have hB0 : Below w.heap.size w (w.alloc (.cells #[.slice a ss.length cap] 26)) := (Below.refl _ _).alloc (Nat.le_refl _) _
  have hX0 := Box.new w #[.slice a ss.length cap] 26
  cases hrd : rdB ss with
  | false =>
    have HV : Hid (ctV ss x = (0, 0, 0)) := Lib.hid (by unfold ctV; rw [hrd]; rfl)
    rw [hrd] at HC
    rw [HV.out]
    clear hrd HV
    go_enter Try.func26, Try.ntmps26
    go_wp2_with fail
    refine (HC.out _ ((HI.out.below hB0).mono hB0.size)).mono ?_
    rintro e w1 ⟨rfl, hb1⟩
    have hB1 := hB0.trans (hb1.mono hB0.size)
    clear hb1 hB0
    go_wp2
    go_ret3
    exact ⟨rfl, hB1⟩
  | true =>
    obtain ⟨hs6, hris⟩ := rdB_parts hrd
    have HP := Lib.hid (fun w h => placeOfS_any (.slice a ss.length cap) ss x w h (by omega) (ris_mono hris x))
    have HX := Lib.hid (ix_pl hris x)
    have HV : Hid (ctV ss x = (match ixK (sbKs ss) x with | some i => (match ss[i]? with | some s => (s.es.length, unN s.es, stN s.es) | none => (0, 0, 0)) | none => (0, 0, 0))) := Lib.hid (by unfold ctV; rw [hrd]; rfl)
    have HFn : Hid (fnB (sbKs ss) x = true → plK (sbKs ss) x < ss.length) := Lib.hid (fun h => by
      unfold fnB at h
      have hle := plK_le (sbKs ss) x
      have hsl : (sbKs ss).length = ss.length := by simp [sbKs]
      by_cases hp : plK (sbKs ss) x < (sbKs ss).length
      · omega
      · rw [List.getElem?_eq_none (by omega)] at h
        cases h)
    rw [hrd] at HC
    clear hrd hris
    generalize plK (sbKs ss) x = p at HP HX HFn
    cases hfn : fnB (sbKs ss) x with
    | false =>
      have HZ : Hid (ctV ss x = (0, 0, 0)) := Lib.hid (by rw [HV.out, HX.out, hfn]; rfl)
      rw [hfn] at HP
      rw [HZ.out]
      clear hfn HV HX HFn HZ
      go_enter Try.func26, Try.ntmps26
      go_wp2_with fail
      refine (HC.out _ ((HI.out.below hB0).mono hB0.size)).mono ?_
      rintro e w1 ⟨rfl, hb1⟩
      have hB1 := hB0.trans (hb1.mono hB0.size)
      have hX1 := hX0.keep hb1 hX0.lt
      have f0 := hX1.cell 0 _ rfl
      clear hb1 hB0 hX0
      go_wp2_with fail
      refine (HP.out _ ((HI.out.below hB1).mono hB1.size)).mono ?_
      rintro e w2 ⟨rfl, hb2⟩
      have hB2 := hB1.trans (hb2.mono hB1.size)
      clear hb2 hB1 f0 hX1
      go_wp2
      go_ret3
      exact ⟨rfl, hB2⟩
    | true =>
      have hpl := HFn.out hfn
      have HZ : Hid (ctV ss x = (ss[p].es.length, unN ss[p].es, stN ss[p].es)) := Lib.hid (by rw [HV.out, HX.out, hfn]; simp [hpl])
      rw [hfn] at HP
      rw [HZ.out]
      obtain ⟨E, hE⟩ : ∃ E, E = ss[p].es := ⟨_, rfl⟩
      rw [← hE]
      have HEe := Lib.hid hE
      clear hfn HV HX HFn HZ hE
      go_enter Try.func26, Try.ntmps26
      go_wp2_with fail
      refine (HC.out _ ((HI.out.below hB0).mono hB0.size)).mono ?_
      rintro e w1 ⟨rfl, hb1⟩
      have hB1 := hB0.trans (hb1.mono hB0.size)
      have hX1 := hX0.keep hb1 hX0.lt
      have f0 := hX1.cell 0 _ rfl
      clear hb1 hB0 hX0
      go_wp2_with fail
      refine (HP.out _ ((HI.out.below hB1).mono hB1.size)).mono ?_
      rintro e w2 ⟨rfl, hb2⟩
      have hB2 := hB1.trans (hb2.mono hB1.size)
      have hX2 := hX1.keep hb2 hX1.lt
      clear hb2 hB1 f0 hX1
      have f0 := hX2.cell 0 _ rfl
      obtain ⟨a', cap', hv, _, _, hc⟩ := (HI.out.below hB2).raw
      cases hv
      obtain ⟨b, off, rfl, hb, hr⟩ := hc p hpl
      obtain ⟨y, c0, c1, c2, hy, _, _⟩ := hr p hpl
      obtain ⟨ya, yc, rfl⟩ := hy.1.slice
      have HY := Lib.hid (hy.mono hB2.size)
      have hE := HEe.out
      rw [← hE] at c2 HY
      obtain ⟨_, _, hye, hyl, hym, _⟩ := HY.out.raw
      cases hye
      unfold maxLen at hym
      clear hr hc hE hy
      go_wp2
      go_loopw [9, 10, 11, 33] (fun n1 n2 n3 i wr => ∃ k : Nat, k ≤ E.length ∧ i = .int .i64 (k : Int) ∧ n1 = .int .i64 (k : Int) ∧ n2 = .int .i64 (((E.take k).countP (fun x => !x.rd) : Nat) : Int) ∧ n3 = .int .i64 (((E.take k).countP (fun x => x.st) : Nat) : Int) ∧ Below w2.heap.size w2 wr) (fun _ _ _ i _ => E.length - (intOf i).toNat)
      case atStart => exact ⟨0, Nat.zero_le _, rfl, rfl, rfl, rfl, Below.refl _ _⟩
      case round =>
        obtain ⟨k, hk, rfl, rfl, rfl, rfl, hB3⟩ := hrel
        by_cases hlt : k < E.length
        · obtain ⟨a', cap', hv, _, _, hc⟩ := (HY.out.below hB3).raw
          cases hv
          obtain ⟨b2, off2, rfl, hb2, hr⟩ := hc k hlt
          obtain ⟨d0, d1, d2, d3, d4, _, _⟩ := hr k hlt
          have HR := Lib.hid (cnt_take (fun x => !x.rd) E k hlt)
          have HS := Lib.hid (cnt_take (fun x => x.st) E k hlt)
          have hr1 := cnt_le (fun x => !x.rd) E k
          have hr2 := cnt_le (fun x => x.st) E k
          generalize (E.take k).countP (fun x => !x.rd) = n1 at HR hr1
          generalize (E.take k).countP (fun x => x.st) = n2 at HS hr2
          obtain ⟨S0, hS0⟩ : ∃ z, z = E[k].it.id := ⟨_, rfl⟩
          obtain ⟨S1, hS1⟩ : ∃ z, z = E[k].it.ti := ⟨_, rfl⟩
          obtain ⟨S2, hS2⟩ : ∃ z, z = E[k].it.da := ⟨_, rfl⟩
          obtain ⟨S3, hS3⟩ : ∃ z, z = E[k].rd := ⟨_, rfl⟩
          obtain ⟨S4, hS4⟩ : ∃ z, z = E[k].st := ⟨_, rfl⟩
          rw [← hS0] at d0
          rw [← hS1] at d1
          rw [← hS2] at d2
          rw [← hS3] at d3 HR
          rw [← hS4] at d4 HS
          have hB4 : Below w2.heap.size w2 (wr.alloc (.cells #[.string S0, .string S1, .int .i64 S2, .bool S3, .bool S4] 47)) := hB3.alloc hB3.size _
          clear hr hc hS0 hS1 hS2 hS3 hS4
          cases S3 <;> cases S4
          all_goals
            go_wp2
            go_roundw
            case rel => exact ⟨k + 1, by omega, by go_num, by go_num, by rw [HR.out]; go_num, by rw [HS.out]; go_num, hB4⟩
            case measure => simp [intOf]; omega
        · have hke : k = E.length := by omega
          have H1 : Hid ((E.take k).countP (fun x => !x.rd) = unN E) := Lib.hid (by rw [List.take_of_length_le (by omega)]; rfl)
          have H2 : Hid ((E.take k).countP (fun x => x.st) = stN E) := Lib.hid (by rw [List.take_of_length_le (by omega)]; rfl)
          rw [H1.out, H2.out]
          have HKE := Lib.hid hke
          clear hke
          go_wp2
          go_ret3
          exact ⟨ret_c3 (by rw [HKE.out]) rfl rfl, hB2.trans (hB3.mono hB2.size)⟩
end Go.Proofs.Ytffkakpbelknaaa

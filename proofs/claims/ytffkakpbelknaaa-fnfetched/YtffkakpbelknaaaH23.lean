/- Joined: W9o, W9p. -/
import Derived.Test.YtffkakpbelknaaaH15
import Derived.Test.YtffkakpbelknaaaH19
import Derived.Test.YtffkakpbelknaaaH22
/- W9o -/
namespace Go.Proofs.Ytffkakpbelknaaa
open Go.ChangeShapes Go.WideShapes Go.ChangeAt Go.RowKit
set_option linter.unusedVariables false

theorem less_irrefl (x : List UInt8) : Op.bytesLess x x = false := by
  induction x with
  | nil => rfl
  | cons a x ih => unfold Op.bytesLess; simp [ih]
theorem less_trans (x y z : List UInt8) (h1 : Op.bytesLess x y = true) (h2 : Op.bytesLess y z = true) : Op.bytesLess x z = true := by
  induction x generalizing y z with
  | nil =>
    cases z with
    | nil => cases y <;> simp [Op.bytesLess] at h2
    | cons c z => rfl
  | cons a x ih =>
    cases y with
    | nil => simp [Op.bytesLess] at h1
    | cons b y =>
      cases z with
      | nil => simp [Op.bytesLess] at h2
      | cons c z =>
        unfold Op.bytesLess at h1 h2 ⊢
        simp only [Bool.or_eq_true, Bool.and_eq_true, decide_eq_true_eq, beq_iff_eq] at h1 h2 ⊢
        rcases h1 with h1 | ⟨rfl, h1⟩
        · rcases h2 with h2 | ⟨rfl, h2⟩
          · exact .inl (UInt8.lt_trans h1 h2)
          · exact .inl h1
        · rcases h2 with h2 | ⟨rfl, h2⟩
          · exact .inl h2
          · exact .inr ⟨rfl, ih y z h1 h2⟩
def ltK (a b : ByteArray) : Bool := Op.bytesLess a.toList b.toList
theorem ltK_cmp (a b : ByteArray) : ltK a b = decide (cmpB a b < 0) := by
  unfold ltK cmpB
  rw [ByteArray.toList_eq, ByteArray.toList_eq, Bool.eq_iff_iff, decide_eq_true_eq, cmp_less]
theorem ltK_trans {a b c : ByteArray} (h1 : ltK a b = true) (h2 : ltK b c = true) : ltK a c = true := less_trans _ _ _ h1 h2
theorem ltK_irrefl (a : ByteArray) : ltK a a = false := less_irrefl _
theorem cmpB_zero (a b : ByteArray) : cmpB a b = 0 ↔ a = b := by
  unfold cmpB
  rw [cmp_eq0]
  constructor
  · intro h; cases a; cases b; simp_all
  · rintro rfl; rfl
theorem ris_next {ks : List ByteArray} (h : risB ks = true) (q : Nat) (hq : q + 1 < ks.length) : ltK ks[q] ks[q + 1] = true := by
  have h1 := allB_at h (q + 1) hq
  have h2 := ordK_at (fun k : ByteArray => k) ks q hq
  rw [List.map_id'] at h2
  rw [h2] at h1
  exact h1
theorem ris_lt {ks : List ByteArray} (h : risB ks = true) (i : Nat) : ∀ j (hj : j < ks.length) (hij : i < j), ltK (ks[i]'(by omega)) ks[j] = true := by
  intro j
  induction j with
  | zero => intro hj hij; omega
  | succ q ih =>
    intro hj hij
    by_cases hiq : i = q
    · subst hiq; exact ris_next h i hj
    · exact ltK_trans (ih (by omega) (by omega)) (ris_next h q hj)
theorem ris_mono {ks : List ByteArray} (h : risB ks = true) (x : ByteArray) : MonoK ks x := by
  intro a b hb hab hc
  by_cases heq : a = b
  · subst heq; exact hc
  · have h1 := ris_lt h a b hb (by omega)
    have h2 : ltK ks[b] x = true := by rw [ltK_cmp]; exact decide_eq_true hc
    have h3 := ltK_trans h1 h2
    rw [ltK_cmp] at h3
    exact of_decide_eq_true h3
theorem plK_lo (ks : List ByteArray) (x : ByteArray) (t : Nat) (ht : t < plK ks x) : cmpB (ks[t]'(by have := plK_le ks x; omega)) x < 0 := by
  have := List.not_of_lt_findIdx ht
  simpa using this
theorem plK_hi {ks : List ByteArray} {x : ByteArray} (h : plK ks x < ks.length) : ¬ cmpB ks[plK ks x] x < 0 := by
  have h1 := List.findIdx_getElem (w := h)
  simp at h1
  exact Int.not_lt.2 h1
/-- The place of the first key that is x. -/
def ixK (ks : List ByteArray) (x : ByteArray) : Option Nat := ks.findIdx? (fun k => (k.toList == x.toList))
theorem ix_pl {ks : List ByteArray} (hr : risB ks = true) (x : ByteArray) : ixK ks x = if fnB ks x then some (plK ks x) else none := by
  unfold fnB
  by_cases hp : plK ks x < ks.length
  · rw [List.getElem?_eq_getElem hp]
    by_cases hc : cmpB ks[plK ks x] x = 0
    · have e : ks[plK ks x] = x := (cmpB_zero _ _).1 hc
      rw [if_pos (by simpa using hc)]
      unfold ixK
      rw [List.findIdx?_eq_some_iff_getElem]
      refine ⟨hp, by rw [e]; simp, fun j hj => ?_⟩
      have h1 := plK_lo ks x j hj
      rw [str_eq]
      simp only [decide_eq_true_eq]
      intro h2
      rw [h2] at h1
      have : cmpB x x = 0 := (cmpB_zero x x).2 rfl
      omega
    · rw [if_neg (by simpa using hc)]
      unfold ixK
      rw [List.findIdx?_eq_none_iff]
      intro k hk
      obtain ⟨i, hi, rfl⟩ := List.getElem_of_mem hk
      rw [str_eq, decide_eq_false_iff_not]
      intro h2
      have h0 : cmpB ks[i] x = 0 := (cmpB_zero _ _).2 h2
      rcases Nat.lt_trichotomy i (plK ks x) with h | h | h
      · have := plK_lo ks x i h; omega
      · subst h; exact hc h0
      · have h3 := ris_lt hr (plK ks x) i hi h
        rw [h2, ltK_cmp] at h3
        exact plK_hi hp (of_decide_eq_true h3)
  · rw [List.getElem?_eq_none (by omega)]
    rw [if_neg (by simp)]
    unfold ixK
    rw [List.findIdx?_eq_none_iff]
    intro k hk
    obtain ⟨i, hi, rfl⟩ := List.getElem_of_mem hk
    rw [str_eq, decide_eq_false_iff_not]
    intro h2
    have h0 : cmpB ks[i] x = 0 := (cmpB_zero _ _).2 h2
    have := plK_lo ks x i (by omega)
    omega
/-- How many of a feed's entries there are, are not read, have a star. -/
def unN (es : List En) : Nat := es.countP (fun x => !x.rd)
def stN (es : List En) : Nat := es.countP (fun x => x.st)
def ctV (ss : List Sb) (x : ByteArray) : Nat × Nat × Nat := if rdB ss then (match ixK (sbKs ss) x with
  | some i => (match ss[i]? with | some s => (s.es.length, unN s.es, stN s.es) | none => (0, 0, 0))
  | none => (0, 0, 0)) else (0, 0, 0)
theorem cnt_take (p : En → Bool) (es : List En) (k : Nat) (h : k < es.length) : (es.take (k + 1)).countP p = (es.take k).countP p + (if p es[k] then 1 else 0) := by
  rw [List.take_succ_eq_append_getElem h, List.countP_append, List.countP_singleton]
theorem cnt_le (p : En → Bool) (es : List En) (k : Nat) : (es.take k).countP p ≤ k := Nat.le_trans List.countP_le_length (by rw [List.length_take]; omega)
end Go.Proofs.Ytffkakpbelknaaa

/- W9p -/
namespace Go.Proofs.Ytffkakpbelknaaa
open Go.ChangeShapes Go.WideShapes Go.ChangeAt Go.RowKit
set_option linter.unusedVariables false

def c3V (x : Nat × Nat × Nat) : Value := .tuple #[.int .i64 (x.1 : Int), .int .i64 (x.2.1 : Int), .int .i64 (x.2.2 : Int)]
theorem ret_c3 {x : Nat × Nat × Nat} {a b c : Int} (h1 : (x.1 : Int) = a) (h2 : (x.2.1 : Int) = b) (h3 : (x.2.2 : Int) = c) : Ending.returned (.tuple #[.int .i64 a, .int .i64 b, .int .i64 c]) = .returned (c3V x) := by
  unfold c3V; rw [h1, h2, h3]
theorem rdB_parts {ss : List Sb} (h : rdB ss = true) : ss.length ≤ 6 ∧ risB (sbKs ss) = true := by
  unfold rdB at h
  simp only [Bool.and_eq_true, decide_eq_true_eq] at h
  exact ⟨h.1, h.2.2⟩
/-- What l9At answers. -/
def atK (ks : List ByteArray) (x : ByteArray) : Int := match ixK ks x with
  | some i => (i : Int)
  | none => -1

set_option maxRecDepth 100000 in
set_option maxHeartbeats 1600000 in
theorem l9At_any (v : Value) (ss : List Sb) (x : ByteArray) (w : World) (h : SbAt w w.heap.size v ss) :
    Calls Try.prog 110 #[.agg #[v], .string x] w fun e w' => e = .returned (.int .i64 (atK (sbKs ss) x)) ∧ Below w.heap.size w w' := by
  have HI := Lib.hid h
  obtain ⟨a, cap, rfl, hl, hm, hc⟩ := h.raw
  clear hc h
  unfold maxLen at hm
  have HL : Hid ((sbKs ss).length = ss.length) := Lib.hid (by simp [sbKs])
  have HX : Hid (∀ k (hk : k < ss.length), (ss[k].u.toList == x.toList) = true → (∀ j (hj : j < ss.length), j < k → (ss[j].u.toList == x.toList) = false) → atK (sbKs ss) x = (k : Int)) := Lib.hid (fun k hk h1 h2 => by
    have : ixK (sbKs ss) x = some k := by
      unfold ixK
      rw [List.findIdx?_eq_some_iff_getElem]
      refine ⟨by rw [HL.out]; exact hk, by simpa [sbKs] using h1, fun j hj => ?_⟩
      have := h2 j (by omega) hj
      simpa [sbKs] using this
    unfold atK
    rw [this])
  have HD : Hid ((∀ j (hj : j < ss.length), (ss[j].u.toList == x.toList) = false) → atK (sbKs ss) x = -1) := Lib.hid (fun h2 => by
    have : ixK (sbKs ss) x = none := by
      unfold ixK
      rw [List.findIdx?_eq_none_iff]
      intro k hk
      obtain ⟨s, hs, rfl⟩ := List.mem_map.1 hk
      obtain ⟨j, hj, rfl⟩ := List.getElem_of_mem hs
      exact h2 j hj
    unfold atK
    rw [this])
  generalize atK (sbKs ss) x = R at HX HD ⊢
  have hB0 : Below w.heap.size w (w.alloc (.cells #[.slice a ss.length cap] 26)) := (Below.refl _ _).alloc (Nat.le_refl _) _
  have f0 : (w.alloc (.cells #[.slice a ss.length cap] 26)).cell? ⟨w.heap.size, 0, none⟩ = some (.slice a ss.length cap) := (Box.new w #[.slice a ss.length cap] 26).cell 0 _ rfl
  have HI2 := Lib.hid (HI.out.below hB0)
  go_enter Try.func110, Try.ntmps110
  go_wp2
  generalize w.alloc (.cells #[.slice a ss.length cap] 26) = W at hB0 f0 HI2 ⊢
  go_loop [5] (fun i => ∃ k : Nat, k ≤ ss.length ∧ i = .int .i64 (k : Int) ∧ Hid (∀ j (hj : j < ss.length), j < k → (ss[j].u.toList == x.toList) = false)) (fun i => ss.length - (intOf i).toNat)
  case atStart => exact ⟨0, Nat.zero_le _, rfl, Lib.hid (fun j hj h => by omega)⟩
  case round =>
    obtain ⟨k, hk, rfl, HO⟩ := hrel
    by_cases hlt : k < ss.length
    · obtain ⟨a', cap', hv, _, _, hc⟩ := HI2.out.raw
      cases hv
      obtain ⟨b, off, rfl, hb, hr⟩ := hc k hlt
      obtain ⟨y, c0, c1, c2, _, _, _⟩ := hr k hlt
      have HK := Lib.hid (HX.out k hlt)
      have HN : Hid ((ss[k].u.toList == x.toList) = false → ∀ j (hj : j < ss.length), j < k + 1 → (ss[j].u.toList == x.toList) = false) := Lib.hid (fun h j hj hjk => by
        by_cases e : j = k
        · subst e; exact h
        · exact HO.out j hj (by omega))
      obtain ⟨U, hU⟩ : ∃ U, U = ss[k].u := ⟨_, rfl⟩
      rw [← hU] at c0 HK HN
      clear hr hc hU
      obtain ⟨e, he⟩ : ∃ e, (U.toList == x.toList) = e := ⟨_, rfl⟩
      rw [he] at HK HN
      cases e with
      | true =>
        have HZ : Hid (R = (k : Int)) := Lib.hid (HK.out rfl HO.out)
        go_wp2
        go_ret
        exact ⟨ret_int HZ.out.symm, hB0⟩
      | false =>
        have HO' := Lib.hid (HN.out rfl)
        go_wp2
        refine ⟨⟨k + 1, by omega, by simp, HO'⟩, ?_⟩
        simp [intOf]; omega
    · have HZ : Hid (R = -1) := Lib.hid (HD.out (fun j hj => HO.out j hj (by omega)))
      go_wp2
      go_ret
      exact ⟨ret_int HZ.out.symm, hB0⟩

set_option maxRecDepth 100000 in
set_option maxHeartbeats 1600000 in
theorem implCounts_any (v : Value) (ss : List Sb) (x : ByteArray) (w : World) (h : SbAt w w.heap.size v ss) :
    Calls Try.prog 26 #[.agg #[v], .string x] w fun e w' => e = .returned (c3V (ctV ss x)) ∧ Below w.heap.size w w' := by
  have HI := Lib.hid h
  obtain ⟨a, cap, rfl, hl, hm, hc⟩ := h.raw
  clear hc h
  unfold maxLen at hm
  have HC := Lib.hid (fun w h => implReaderOk_any (.slice a ss.length cap) ss w h)
  have hB0 : Below w.heap.size w (w.alloc (.cells #[.slice a ss.length cap] 26)) := (Below.refl _ _).alloc (Nat.le_refl _) _
  have hX0 := Box.new w #[.slice a ss.length cap] 26
  cases hrd : rdB ss with
  | false =>
    have HV : Hid (ctV ss x = (0, 0, 0)) := Lib.hid (by unfold ctV; rw [hrd]; rfl)
    rw [hrd] at HC
    rw [HV.out]
    clear hrd HV
    go_enter Try.func26, Try.ntmps26
    go_wp2_with fail
    refine (HC.out _ ((HI.out.below hB0).mono hB0.size)).mono ?_
    rintro e w1 ⟨rfl, hb1⟩
    have hB1 := hB0.trans (hb1.mono hB0.size)
    clear hb1 hB0
    go_wp2
    go_ret3
    exact ⟨rfl, hB1⟩
  | true =>
    obtain ⟨hs6, hris⟩ := rdB_parts hrd
    have HP := Lib.hid (fun w h => placeOfS_any (.slice a ss.length cap) ss x w h (by omega) (ris_mono hris x))
    have HX := Lib.hid (ix_pl hris x)
    have HV : Hid (ctV ss x = (match ixK (sbKs ss) x with | some i => (match ss[i]? with | some s => (s.es.length, unN s.es, stN s.es) | none => (0, 0, 0)) | none => (0, 0, 0))) := Lib.hid (by unfold ctV; rw [hrd]; rfl)
    have HFn : Hid (fnB (sbKs ss) x = true → plK (sbKs ss) x < ss.length) := Lib.hid (fun h => by
      unfold fnB at h
      have hle := plK_le (sbKs ss) x
      have hsl : (sbKs ss).length = ss.length := by simp [sbKs]
      by_cases hp : plK (sbKs ss) x < (sbKs ss).length
      · omega
      · rw [List.getElem?_eq_none (by omega)] at h
        cases h)
    rw [hrd] at HC
    clear hrd hris
    generalize plK (sbKs ss) x = p at HP HX HFn
    cases hfn : fnB (sbKs ss) x with
    | false =>
      have HZ : Hid (ctV ss x = (0, 0, 0)) := Lib.hid (by rw [HV.out, HX.out, hfn]; rfl)
      rw [hfn] at HP
      rw [HZ.out]
      clear hfn HV HX HFn HZ
      go_enter Try.func26, Try.ntmps26
      go_wp2_with fail
      refine (HC.out _ ((HI.out.below hB0).mono hB0.size)).mono ?_
      rintro e w1 ⟨rfl, hb1⟩
      have hB1 := hB0.trans (hb1.mono hB0.size)
      have hX1 := hX0.keep hb1 hX0.lt
      have f0 := hX1.cell 0 _ rfl
      clear hb1 hB0 hX0
      go_wp2_with fail
      refine (HP.out _ ((HI.out.below hB1).mono hB1.size)).mono ?_
      rintro e w2 ⟨rfl, hb2⟩
      have hB2 := hB1.trans (hb2.mono hB1.size)
      clear hb2 hB1 f0 hX1
      go_wp2
      go_ret3
      exact ⟨rfl, hB2⟩
    | true =>
      have hpl := HFn.out hfn
      have HZ : Hid (ctV ss x = (ss[p].es.length, unN ss[p].es, stN ss[p].es)) := Lib.hid (by rw [HV.out, HX.out, hfn]; simp [hpl])
      rw [hfn] at HP
      rw [HZ.out]
      obtain ⟨E, hE⟩ : ∃ E, E = ss[p].es := ⟨_, rfl⟩
      rw [← hE]
      have HEe := Lib.hid hE
      clear hfn HV HX HFn HZ hE
      go_enter Try.func26, Try.ntmps26
      go_wp2_with fail
      refine (HC.out _ ((HI.out.below hB0).mono hB0.size)).mono ?_
      rintro e w1 ⟨rfl, hb1⟩
      have hB1 := hB0.trans (hb1.mono hB0.size)
      have hX1 := hX0.keep hb1 hX0.lt
      have f0 := hX1.cell 0 _ rfl
      clear hb1 hB0 hX0
      go_wp2_with fail
      refine (HP.out _ ((HI.out.below hB1).mono hB1.size)).mono ?_
      rintro e w2 ⟨rfl, hb2⟩
      have hB2 := hB1.trans (hb2.mono hB1.size)
      have hX2 := hX1.keep hb2 hX1.lt
      clear hb2 hB1 f0 hX1
      have f0 := hX2.cell 0 _ rfl
      obtain ⟨a', cap', hv, _, _, hc⟩ := (HI.out.below hB2).raw
      cases hv
      obtain ⟨b, off, rfl, hb, hr⟩ := hc p hpl
      obtain ⟨y, c0, c1, c2, hy, _, _⟩ := hr p hpl
      obtain ⟨ya, yc, rfl⟩ := hy.1.slice
      have HY := Lib.hid (hy.mono hB2.size)
      have hE := HEe.out
      rw [← hE] at c2 HY
      obtain ⟨_, _, hye, hyl, hym, _⟩ := HY.out.raw
      cases hye
      unfold maxLen at hym
      clear hr hc hE hy
      go_wp2
      go_loopw [9, 10, 11, 33] (fun n1 n2 n3 i wr => ∃ k : Nat, k ≤ E.length ∧ i = .int .i64 (k : Int) ∧ n1 = .int .i64 (k : Int) ∧ n2 = .int .i64 (((E.take k).countP (fun x => !x.rd) : Nat) : Int) ∧ n3 = .int .i64 (((E.take k).countP (fun x => x.st) : Nat) : Int) ∧ Below w2.heap.size w2 wr) (fun _ _ _ i _ => E.length - (intOf i).toNat)
      case atStart => exact ⟨0, Nat.zero_le _, rfl, rfl, rfl, rfl, Below.refl _ _⟩
      case round =>
        obtain ⟨k, hk, rfl, rfl, rfl, rfl, hB3⟩ := hrel
        by_cases hlt : k < E.length
        · obtain ⟨a', cap', hv, _, _, hc⟩ := (HY.out.below hB3).raw
          cases hv
          obtain ⟨b2, off2, rfl, hb2, hr⟩ := hc k hlt
          obtain ⟨d0, d1, d2, d3, d4, _, _⟩ := hr k hlt
          have HR := Lib.hid (cnt_take (fun x => !x.rd) E k hlt)
          have HS := Lib.hid (cnt_take (fun x => x.st) E k hlt)
          have hr1 := cnt_le (fun x => !x.rd) E k
          have hr2 := cnt_le (fun x => x.st) E k
          generalize (E.take k).countP (fun x => !x.rd) = n1 at HR hr1
          generalize (E.take k).countP (fun x => x.st) = n2 at HS hr2
          obtain ⟨S0, hS0⟩ : ∃ z, z = E[k].it.id := ⟨_, rfl⟩
          obtain ⟨S1, hS1⟩ : ∃ z, z = E[k].it.ti := ⟨_, rfl⟩
          obtain ⟨S2, hS2⟩ : ∃ z, z = E[k].it.da := ⟨_, rfl⟩
          obtain ⟨S3, hS3⟩ : ∃ z, z = E[k].rd := ⟨_, rfl⟩
          obtain ⟨S4, hS4⟩ : ∃ z, z = E[k].st := ⟨_, rfl⟩
          rw [← hS0] at d0
          rw [← hS1] at d1
          rw [← hS2] at d2
          rw [← hS3] at d3 HR
          rw [← hS4] at d4 HS
          have hB4 : Below w2.heap.size w2 (wr.alloc (.cells #[.string S0, .string S1, .int .i64 S2, .bool S3, .bool S4] 47)) := hB3.alloc hB3.size _
          clear hr hc hS0 hS1 hS2 hS3 hS4
          cases S3 <;> cases S4
          all_goals
            go_wp2
            go_roundw
            case rel => exact ⟨k + 1, by omega, by go_num, by go_num, by rw [HR.out]; go_num, by rw [HS.out]; go_num, hB4⟩
            case measure => simp [intOf]; omega
        · have hke : k = E.length := by omega
          have H1 : Hid ((E.take k).countP (fun x => !x.rd) = unN E) := Lib.hid (by rw [List.take_of_length_le (by omega)]; rfl)
          have H2 : Hid ((E.take k).countP (fun x => x.st) = stN E) := Lib.hid (by rw [List.take_of_length_le (by omega)]; rfl)
          rw [H1.out, H2.out]
          have HKE := Lib.hid hke
          clear hke
          go_wp2
          go_ret3
          exact ⟨ret_c3 (by rw [HKE.out]) rfl rfl, hB2.trans (hB3.mono hB2.size)⟩
end Go.Proofs.Ytffkakpbelknaaa

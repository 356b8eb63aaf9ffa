/- Joined: W14h, W14m. -/
import Derived.Test.YtffkakpbelknaaaS35
import Derived.Test.YtffkakpbelknaaaS41
/- W14h -/
namespace Go.Proofs.Ytffkakpbelknaaa
open Go.ChangeShapes Go.WideShapes Go.ChangeAt Go.RowKit
set_option linter.unusedVariables false

set_option maxRecDepth 100000 in
set_option maxHeartbeats 3000000 in
theorem l14Cut_any (v : Value) (es : List Fi) (nm : ByteArray) (w : World) (h : FiAt w w.heap.size v es) (hr : risB (fiKs es) = true) (hn : es.length ≤ 1000) (hf : fnB (fiKs es) nm = true) :
    Calls Try.prog 136 #[v, .string nm] w (OutB 167 2 fiC (fiX es nm) w.heap.size w) := by
  have hpl : plK (fiKs es) nm < es.length := fnF_lt hf
  have HLo := Lib.hid (fi_lo es nm)
  have HAt := Lib.hid ((fi_at es nm hpl).2.trans hf)
  have HHi := Lib.hid (fun t ht => fi_hi hr nm t ht)
  have HE : Hid (fiX es nm = es.take (plK (fiKs es) nm) ++ (([] : List Fi) ++ es.drop (plK (fiKs es) nm + 1))) := Lib.hid rfl
  generalize fiX es nm = FP at HE ⊢
  generalize plK (fiKs es) nm = p at hpl HLo HAt HHi HE
  have HI := Lib.hid h
  obtain ⟨a, cap, rfl, hl, hm, hc⟩ := h.raw
  clear hc h hr hf
  unfold maxLen at hm
  have HLn := Lib.hid (lk_len es p (p + 1) [])
  have ho0 := OwnR.lit (k := 2) (C := fiC) 167 w w.heap.size (Nat.le_refl _)
  rw [← lk_zero es p (p + 1) []] at ho0
  have hb0 : Below w.heap.size w (w.alloc (.cells #[] 167)) := (Below.refl _ _).alloc (Nat.le_refl _) _
  go_enter Try.func136, Try.ntmps136
  go_wp2
  go_loopw [5, 6] (fun o i wr => ∃ (k : Nat), k ≤ es.length ∧ i = .int .i64 (k : Int) ∧ OwnR 167 2 fiC wr w.heap.size o (lkP es p (p + 1) [] k) ∧ Below w.heap.size w wr) (fun _ i _ => es.length - (intOf i).toNat)
  case atStart => exact ⟨0, Nat.zero_le _, rfl, ho0, hb0⟩
  case round =>
    obtain ⟨k, hk, rfl, hown, hB⟩ := hrel
    clear ho0 hb0
    have hln := HLn.out k hk
    obtain ⟨LL, hLL⟩ : ∃ LL, LL = lkP es p (p + 1) [] k := ⟨_, rfl⟩
    rw [← hLL] at hown hln
    obtain ⟨oa, oc, rfl⟩ := hown.slice
    rw [List.length_nil] at hln
    by_cases hlt : k < es.length
    · obtain ⟨a', cap', hv, _, _, hc⟩ := (HI.out.below hB).raw
      cases hv
      obtain ⟨b, off, rfl, hb, hr⟩ := hc k hlt
      obtain ⟨c0, c1, _, _⟩ := hr k hlt
      obtain ⟨N, hN⟩ : ∃ N, N = es[k].nm := ⟨_, rfl⟩
      obtain ⟨D, hD⟩ : ∃ D, D = es[k].da := ⟨_, rfl⟩
      have HEk : Hid (es[k] = ⟨N, D⟩) := Lib.hid (by rw [hN, hD])
      rw [← hN] at c0
      rw [← hD] at c1
      have hsz : w.heap.size ≤ wr.heap.size := hB.size
      by_cases hkp : k = p
      · subst hkp
        have hne : (N.toList == nm.toList) = true := by rw [hN]; exact HAt.out
        have hown2 : OwnR 167 2 fiC wr w.heap.size (.slice oa LL.length oc) (lkP es k (k + 1) [] (k + 1)) := by rw [lk_at, ← hLL, List.append_nil]; exact hown
        clear hr hc hN hD hown hLL HEk
        go_wp2
        go_roundw
        case rel => exact ⟨k + 1, by omega, by go_num, hown2, hB⟩
        case measure => simp [intOf]; omega
      · have HOw := Lib.hid hown
        have HO1 := Lib.hid (hown.alloc (.cells #[.string N, .string D] 167))
        have HOn := Lib.hid (one_rec fiC_len wr 167 ⟨N, D⟩ #[.string N, .string D] rfl)
        have HBa := Lib.hid (hB.alloc hB.size (.cells #[.string N, .string D] 167))
        have hne : (N.toList == nm.toList) = false := by
          rw [hN]
          rcases Nat.lt_or_gt_of_ne hkp with h | h
          · exact (HLo.out k hlt h).2
          · exact HHi.out k hlt h
        have HS : Hid (lkP es p (p + 1) [] (k + 1) = LL ++ [⟨N, D⟩]) := Lib.hid (by
          rcases Nat.lt_or_gt_of_ne hkp with h | h
          · rw [lk_lo es p (p + 1) [] k hlt h, HEk.out, hLL]
          · rw [lk_hi es p (p + 1) [] k hlt h (Nat.le_refl _), HEk.out, hLL])
        clear hr hc hN hD hown hB hLL HEk
        go_wp2_with (at_builtin; refine wpList_appR fiC_len (by decide) Try.underlying61 Try.infoFile rfl (by decide) rfl (.tmp 21) (.tmp 26) rfl w.heap.size (wr.heap.size + 1) _ _ _ [⟨N, D⟩] rfl rfl HO1.out HOn.out (fun y _ => fiC_one y) (by simp; omega) (by simp; omega) ?_; intro v1 w1 hown1 hg1)
        have hown2 : OwnR 167 2 fiC w1 w.heap.size v1 (lkP es p (p + 1) [] (k + 1)) := by rw [HS.out]; exact hown1
        have hB2 := HBa.out.trans (gb_BelowF hg1 (by simp; omega) (ownBlock_base HOw.out))
        clear hown1 hg1
        go_wp2
        go_roundw
        case rel => exact ⟨k + 1, by omega, by go_num, hown2, hB2⟩
        case measure => simp [intOf]; omega
    · obtain rfl : k = es.length := by omega
      have HS : Hid (FP = LL) := Lib.hid (by rw [HE.out, hLL, lk_end es p (p + 1) [] hpl])
      have hown2 : OwnR 167 2 fiC wr w.heap.size (.slice oa LL.length oc) FP := by rw [HS.out]; exact hown
      clear hown hLL
      go_wp2
      go_ret
      exact ⟨_, rfl, hown2, hB⟩

end Go.Proofs.Ytffkakpbelknaaa

/- W14m -/
namespace Go.Proofs.Ytffkakpbelknaaa
open Go.ChangeShapes Go.WideShapes Go.ChangeAt Go.RowKit
set_option linter.unusedVariables false

set_option maxRecDepth 100000 in
set_option maxHeartbeats 1600000 in
theorem l14Form_any (o : DOp) (w : World) (hs : DoSz o) :
    Calls Try.prog 125 #[doV o] w fun e w' => e = .returned (.bool (frB1 o)) ∧ Below w.heap.size w w' := by
  have HN := Lib.hid (fun w => l14Name_any o.nm w hs.1)
  have HT := Lib.hid (fun w => l14Name_any o.tn w hs.2.1)
  have HL := Lib.hid (fun w => l1In_any o.k 1 3 w)
  have HF : Hid (frB1 o = if o.k = 1 then nmO o.nm && emB o.tn else if o.k = 2 then nmO o.nm && nmO o.tn && emB o.da else if o.k = 3 then nmO o.nm && emB o.tn && emB o.da else false) := Lib.hid rfl
  generalize frB1 o = FB at HF ⊢
  generalize nmO o.nm = A at HN HF
  generalize nmO o.tn = B at HT HF
  obtain ⟨E1, hE1⟩ : ∃ E, emB o.tn = E := ⟨_, rfl⟩
  obtain ⟨E2, hE2⟩ : ∃ E, emB o.da = E := ⟨_, rfl⟩
  rw [hE1, hE2] at HF
  unfold emB at hE1 hE2
  obtain ⟨k, nm, tn, da⟩ := o
  simp only at HN HT HL HF hE1 hE2 ⊢
  clear hs
  have hB0 : Below w.heap.size w (w.alloc (.cells #[.int .i64 k, .string nm, .string tn, .string da] 68)) := (Below.refl _ _).alloc (Nat.le_refl _) _
  by_cases h1 : k = 1
  · subst h1
    simp only [if_pos] at HF
    cases A with
    | false =>
      go_enter Try.func125, Try.ntmps125
      go_wp2_with fail
      refine (HL.out _).mono ?_
      rintro e w1 ⟨rfl, rfl⟩
      go_wp2_with fail
      refine (HN.out _).mono ?_
      rintro e w1 ⟨rfl, rfl⟩
      go_wp2
      go_ret
      exact ⟨ret_bool HF.out.symm, hB0⟩
    | true =>
      cases E1 with
      | false =>
        go_enter Try.func125, Try.ntmps125
        go_wp2_with fail
        refine (HL.out _).mono ?_
        rintro e w1 ⟨rfl, rfl⟩
        go_wp2_with fail
        refine (HN.out _).mono ?_
        rintro e w1 ⟨rfl, rfl⟩
        go_wp2
        go_ret
        exact ⟨ret_bool HF.out.symm, hB0⟩
      | true =>
        go_enter Try.func125, Try.ntmps125
        go_wp2_with fail
        refine (HL.out _).mono ?_
        rintro e w1 ⟨rfl, rfl⟩
        go_wp2_with fail
        refine (HN.out _).mono ?_
        rintro e w1 ⟨rfl, rfl⟩
        go_wp2
        go_ret
        exact ⟨ret_bool HF.out.symm, hB0⟩
  · by_cases h2 : k = 2
    · subst h2
      simp only [if_neg h1, if_pos] at HF
      clear h1
      cases A with
      | false =>
        go_enter Try.func125, Try.ntmps125
        go_wp2_with fail
        refine (HL.out _).mono ?_
        rintro e w1 ⟨rfl, rfl⟩
        go_wp2_with fail
        refine (HN.out _).mono ?_
        rintro e w1 ⟨rfl, rfl⟩
        go_wp2
        go_ret
        exact ⟨ret_bool HF.out.symm, hB0⟩
      | true =>
        cases B with
        | false =>
          go_enter Try.func125, Try.ntmps125
          go_wp2_with fail
          refine (HL.out _).mono ?_
          rintro e w1 ⟨rfl, rfl⟩
          go_wp2_with fail
          refine (HN.out _).mono ?_
          rintro e w1 ⟨rfl, rfl⟩
          go_wp2_with fail
          refine (HT.out _).mono ?_
          rintro e w1 ⟨rfl, rfl⟩
          go_wp2
          go_ret
          exact ⟨ret_bool HF.out.symm, hB0⟩
        | true =>
          go_enter Try.func125, Try.ntmps125
          go_wp2_with fail
          refine (HL.out _).mono ?_
          rintro e w1 ⟨rfl, rfl⟩
          go_wp2_with fail
          refine (HN.out _).mono ?_
          rintro e w1 ⟨rfl, rfl⟩
          go_wp2_with fail
          refine (HT.out _).mono ?_
          rintro e w1 ⟨rfl, rfl⟩
          go_wp2
          go_ret
          exact ⟨ret_bool HF.out.symm, hB0⟩
    · by_cases h3 : k = 3
      · subst h3
        simp only [if_neg h1, if_neg h2, if_pos] at HF
        clear h1 h2
        cases A with
        | false =>
          go_enter Try.func125, Try.ntmps125
          go_wp2_with fail
          refine (HL.out _).mono ?_
          rintro e w1 ⟨rfl, rfl⟩
          go_wp2_with fail
          refine (HN.out _).mono ?_
          rintro e w1 ⟨rfl, rfl⟩
          go_wp2
          go_ret
          exact ⟨ret_bool HF.out.symm, hB0⟩
        | true =>
          cases E1 with
          | false =>
            go_enter Try.func125, Try.ntmps125
            go_wp2_with fail
            refine (HL.out _).mono ?_
            rintro e w1 ⟨rfl, rfl⟩
            go_wp2_with fail
            refine (HN.out _).mono ?_
            rintro e w1 ⟨rfl, rfl⟩
            go_wp2
            go_ret
            exact ⟨ret_bool HF.out.symm, hB0⟩
          | true =>
            go_enter Try.func125, Try.ntmps125
            go_wp2_with fail
            refine (HL.out _).mono ?_
            rintro e w1 ⟨rfl, rfl⟩
            go_wp2_with fail
            refine (HN.out _).mono ?_
            rintro e w1 ⟨rfl, rfl⟩
            go_wp2
            go_ret
            exact ⟨ret_bool HF.out.symm, hB0⟩
      · simp only [if_neg h1, if_neg h2, if_neg h3] at HF
        have hIn : (decide (1 ≤ k) && decide (k ≤ 3)) = false := by
          rw [Bool.eq_false_iff]
          intro h
          simp at h
          omega
        rw [hIn] at HL
        go_enter Try.func125, Try.ntmps125
        go_wp2_with fail
        refine (HL.out _).mono ?_
        rintro e w1 ⟨rfl, rfl⟩
        go_wp2
        go_ret
        exact ⟨ret_bool HF.out.symm, hB0⟩
end Go.Proofs.Ytffkakpbelknaaa

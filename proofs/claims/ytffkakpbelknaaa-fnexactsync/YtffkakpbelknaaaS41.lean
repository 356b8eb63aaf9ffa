/- Joined: W14g. -/
import Derived.Test.YtffkakpbelknaaaS30
import Derived.Test.YtffkakpbelknaaaS32
import Derived.Test.YtffkakpbelknaaaS37
/- W14g -/
namespace Go.Proofs.Ytffkakpbelknaaa
open Go.ChangeShapes Go.WideShapes Go.ChangeAt Go.RowKit
set_option linter.unusedVariables false

set_option maxRecDepth 100000 in
set_option maxHeartbeats 3000000 in
theorem l14Put_any (v : Value) (es : List Fi) (nm da : ByteArray) (w : World) (h : FiAt w w.heap.size v es) (hr : risB (fiKs es) = true) (hn : es.length ≤ 1000) :
    Calls Try.prog 135 #[v, .string nm, .string da] w (OutB 167 2 fiC (fiP es nm da) w.heap.size w) := by
  have hpl : plK (fiKs es) nm ≤ es.length := by have := plK_le (fiKs es) nm; simpa [fiKs] using this
  have HLo := Lib.hid (fi_lo es nm)
  have HAt := Lib.hid (fi_at es nm)
  have HHi := Lib.hid (fun t ht => fi_hi hr nm t ht)
  have HFl : Hid (¬ plK (fiKs es) nm < es.length → fnB (fiKs es) nm = false) := Lib.hid (fun h => by
    cases hf : fnB (fiKs es) nm with
    | false => rfl
    | true => exact absurd (fnF_lt hf) h)
  have HE : Hid (fiP es nm da = es.take (plK (fiKs es) nm) ++ (([⟨nm, da⟩] : List Fi) ++ es.drop (if fnB (fiKs es) nm then plK (fiKs es) nm + 1 else plK (fiKs es) nm))) := Lib.hid rfl
  generalize fiP es nm da = FP at HE ⊢
  generalize plK (fiKs es) nm = p at hpl HLo HAt HHi HFl HE
  generalize fnB (fiKs es) nm = f at HAt HFl HE
  obtain ⟨q, hq⟩ : ∃ q, (if f then p + 1 else p) = q := ⟨_, rfl⟩
  rw [hq] at HE
  have hqb : q ≤ p + 1 := by subst hq; split <;> omega
  have HI := Lib.hid h
  obtain ⟨a, cap, rfl, hl, hm, hc⟩ := h.raw
  clear hc h hr
  unfold maxLen at hm
  obtain ⟨x, hx⟩ : ∃ x, x = (⟨nm, da⟩ : Fi) := ⟨_, rfl⟩
  rw [← hx] at HE
  have HQ := Lib.hid hq
  have HXx := Lib.hid hx
  have HLn := Lib.hid (lk_len es p q [x])
  have ho0 := OwnR.lit (k := 2) (C := fiC) 167 w w.heap.size (Nat.le_refl _)
  rw [← lk_zero es p q [x]] at ho0
  have hb0 : Below w.heap.size w (w.alloc (.cells #[] 167)) := (Below.refl _ _).alloc (Nat.le_refl _) _
  clear hq hx
  go_enter Try.func135, Try.ntmps135
  go_wp2
  go_loopw [7, 8, 9] (fun o d i wr => ∃ (k : Nat) (b : Bool), k ≤ es.length ∧ d = .bool b ∧ b = decide (p < k) ∧ i = .int .i64 (k : Int) ∧ OwnR 167 2 fiC wr w.heap.size o (lkP es p q [x] k) ∧ Below w.heap.size w wr) (fun _ _ i _ => es.length - (intOf i).toNat)
  case atStart => exact ⟨0, false, Nat.zero_le _, rfl, (decide_eq_false (by omega)).symm, rfl, ho0, hb0⟩
  case round =>
    obtain ⟨k, bb, hk, rfl, hbb, rfl, hown, hB⟩ := hrel
    clear ho0 hb0
    have hln := HLn.out k hk
    have HLK := Lib.hid (rfl : lkP es p q [x] k = lkP es p q [x] k)
    obtain ⟨LL, hLL⟩ : ∃ LL, LL = lkP es p q [x] k := ⟨_, rfl⟩
    rw [← hLL] at hown hln
    obtain ⟨oa, oc, rfl⟩ := hown.slice
    rw [List.length_singleton] at hln
    clear HLK
    by_cases hlt : k < es.length
    · obtain ⟨a', cap', hv, _, _, hc⟩ := (HI.out.below hB).raw
      cases hv
      obtain ⟨b, off, rfl, hb, hr⟩ := hc k hlt
      obtain ⟨c0, c1, _, _⟩ := hr k hlt
      have hbw : b < w.heap.size := hb
      obtain ⟨N, hN⟩ : ∃ N, N = es[k].nm := ⟨_, rfl⟩
      obtain ⟨D, hD⟩ : ∃ D, D = es[k].da := ⟨_, rfl⟩
      have HEk : Hid (es[k] = ⟨N, D⟩) := Lib.hid (by rw [hN, hD])
      rw [← hN] at c0
      rw [← hD] at c1
      have HOw := Lib.hid hown
      have HO1 := Lib.hid (hown.alloc (.cells #[.string N, .string D] 167))
      have HOn := Lib.hid (one_rec fiC_len wr 167 ⟨N, D⟩ #[.string N, .string D] rfl)
      have HBa := Lib.hid (hB.alloc hB.size (.cells #[.string N, .string D] 167))
      have hsz : w.heap.size ≤ wr.heap.size := hB.size
      rcases Nat.lt_trichotomy k p with hkp | hkp | hkp
      · obtain rfl : bb = false := by rw [hbb]; exact decide_eq_false (by omega)
        have hlo : Op.bytesLess N.toList nm.toList = true := by rw [hN]; exact (HLo.out k hlt hkp).1
        have hne : (N.toList == nm.toList) = false := by rw [hN]; exact (HLo.out k hlt hkp).2
        have HS : Hid (lkP es p q [x] (k + 1) = LL ++ [⟨N, D⟩]) := Lib.hid (by rw [lk_lo es p q [x] k hlt hkp, HEk.out, hLL])
        clear hr hc hN hD hown hB hbb hLL HEk
        go_wp2_with (at_builtin; refine wpList_appR fiC_len (by decide) Try.underlying61 Try.infoFile rfl (by decide) rfl (.tmp 41) (.tmp 46) rfl w.heap.size (wr.heap.size + 1) _ _ _ [⟨N, D⟩] rfl rfl HO1.out HOn.out (fun y _ => fiC_one y) (by simp; omega) (by simp; omega) ?_; intro v1 w1 hown1 hg1)
        have hown2 : OwnR 167 2 fiC w1 w.heap.size v1 (lkP es p q [x] (k + 1)) := by rw [HS.out]; exact hown1
        have hB2 := HBa.out.trans (gb_BelowF hg1 (by simp; omega) (ownBlock_base HOw.out))
        clear hown1 hg1
        go_wp2
        go_roundw
        case rel => exact ⟨k + 1, false, by omega, rfl, (decide_eq_false (by omega)).symm, by go_num, hown2, hB2⟩
        case measure => simp [intOf]; omega
      · subst hkp
        obtain rfl : bb = false := by rw [hbb]; exact decide_eq_false (by omega)
        have hlo : Op.bytesLess N.toList nm.toList = false := by rw [hN]; exact (HAt.out hlt).1
        have hne : (N.toList == nm.toList) = f := by rw [hN]; exact (HAt.out hlt).2
        have HN1 := Lib.hid (hown.alloc (.cells #[.string nm, .string da] 167))
        have HN2 := Lib.hid (one_rec fiC_len wr 167 ⟨nm, da⟩ #[.string nm, .string da] rfl)
        have HNa := Lib.hid (hB.alloc hB.size (.cells #[.string nm, .string da] 167))
        cases f with
        | true =>
          obtain rfl : q = k + 1 := HQ.out.symm
          have HS : Hid (lkP es k (k + 1) [x] (k + 1) = LL ++ [⟨nm, da⟩]) := Lib.hid (by rw [lk_at, ← hLL, HXx.out])
          have HCC : Hid (∀ w1, Below w.heap.size w w1 → w1.cell? ⟨b, off + k * 2, none⟩ = some (.string N) ∧ w1.cell? ⟨b, off + k * 2 + 1, none⟩ = some (.string D)) := Lib.hid (fun w1 hb1 => by
            obtain ⟨a2, cap2, hv2, _, _, hc2⟩ := (HI.out.below hb1).raw
            cases hv2
            obtain ⟨b2, off2, hbo, _, hr2⟩ := hc2 k hlt
            cases hbo
            obtain ⟨d0, d1, _, _⟩ := hr2 k hlt
            rw [hN, hD]
            exact ⟨d0, d1⟩)
          clear hr hc hN hD hown hB hbb hLL HEk
          go_wp2_with (
            at_builtin
            refine wpList_appR fiC_len (by decide) Try.underlying61 Try.infoFile rfl (by decide) rfl (.tmp 28) (.tmp 32) rfl w.heap.size (wr.heap.size + 1) _ _ _ [⟨nm, da⟩] rfl rfl HN1.out HN2.out (fun y _ => fiC_one y) (by simp; omega) (by simp; omega) ?_
            intro v1 w1 hown1 hg1
            have hB2 := HNa.out.trans (gb_BelowF hg1 (by simp; omega) (ownBlock_base HOw.out))
            obtain ⟨d0, d1⟩ := HCC.out w1 hB2
            have hown2 : OwnR 167 2 fiC w1 w.heap.size v1 (lkP es k (k + 1) [x] (k + 1)) := by rw [HS.out]; exact hown1
            clear hown1 hg1 c0 c1)
          go_roundw
          case rel => exact ⟨k + 1, true, by omega, rfl, (decide_eq_true (by omega)).symm, by go_num, hown2, hB2⟩
          case measure => simp [intOf]; omega
        | false =>
          obtain rfl : q = k := HQ.out.symm
          have HS : Hid (lkP es q q [x] (q + 1) = (LL ++ [⟨nm, da⟩]) ++ [⟨N, D⟩]) := Lib.hid (by rw [lk_at2 es q [x] hlt, HEk.out, ← hLL, HXx.out])
          have HCC : Hid (∀ w1, Below w.heap.size w w1 → w1.cell? ⟨b, off + q * 2, none⟩ = some (.string N) ∧ w1.cell? ⟨b, off + q * 2 + 1, none⟩ = some (.string D)) := Lib.hid (fun w1 hb1 => by
            obtain ⟨a2, cap2, hv2, _, _, hc2⟩ := (HI.out.below hb1).raw
            cases hv2
            obtain ⟨b2, off2, hbo, _, hr2⟩ := hc2 q hlt
            cases hbo
            obtain ⟨d0, d1, _, _⟩ := hr2 q hlt
            rw [hN, hD]
            exact ⟨d0, d1⟩)
          clear hr hc hN hD hown hB hbb hLL HEk
          go_wp2_with (first
            | (at_builtin
               refine wpList_appR fiC_len (by decide) Try.underlying61 Try.infoFile rfl (by decide) rfl (.tmp 28) (.tmp 32) rfl w.heap.size (wr.heap.size + 1) _ _ _ [⟨nm, da⟩] rfl rfl HN1.out HN2.out (fun y _ => fiC_one y) (by simp; omega) (by simp; omega) ?_
               intro v1 w1 hown1 hg1
               have hB2 := HNa.out.trans (gb_BelowF hg1 (by simp; omega) (ownBlock_base HOw.out))
               obtain ⟨d0, d1⟩ := HCC.out w1 hB2
               have HP1 := Lib.hid (hown1.alloc (.cells #[.string N, .string D] 167))
               have HP2 := Lib.hid (one_rec fiC_len w1 167 ⟨N, D⟩ #[.string N, .string D] rfl)
               have HPa := Lib.hid (hB2.alloc hB2.size (.cells #[.string N, .string D] 167))
               have HPb := Lib.hid (ownBlock_base hown1)
               have hsz2 : w.heap.size ≤ w1.heap.size := hB2.size
               clear hown1 hg1 c0 c1 hB2)
            | (at_builtin
               refine wpList_appR fiC_len (by decide) Try.underlying61 Try.infoFile rfl (by decide) rfl (.tmp 41) (.tmp 46) rfl w.heap.size (w1.heap.size + 1) _ _ _ [⟨N, D⟩] rfl rfl HP1.out HP2.out (fun y _ => fiC_one y) (by simp; omega) (by simp; omega) ?_
               intro v2 w2 hown2 hg2
               have hB3 := HPa.out.trans (gb_BelowF hg2 (by simp; omega) HPb.out)
               have hown3 : OwnR 167 2 fiC w2 w.heap.size v2 (lkP es q q [x] (q + 1)) := by rw [HS.out]; exact hown2
               clear hown2 hg2))
          go_roundw
          case rel => exact ⟨q + 1, true, by omega, rfl, (decide_eq_true (by omega)).symm, by go_num, hown3, hB3⟩
          case measure => simp [intOf]; omega
      · obtain rfl : bb = true := by rw [hbb]; exact decide_eq_true hkp
        have hne : (N.toList == nm.toList) = false := by rw [hN]; exact HHi.out k hlt hkp
        have HS : Hid (lkP es p q [x] (k + 1) = LL ++ [⟨N, D⟩]) := Lib.hid (by rw [lk_hi es p q [x] k hlt hkp hqb, HEk.out, hLL])
        clear hr hc hN hD hown hB hbb hLL HEk
        go_wp2_with (at_builtin; refine wpList_appR fiC_len (by decide) Try.underlying61 Try.infoFile rfl (by decide) rfl (.tmp 41) (.tmp 46) rfl w.heap.size (wr.heap.size + 1) _ _ _ [⟨N, D⟩] rfl rfl HO1.out HOn.out (fun y _ => fiC_one y) (by simp; omega) (by simp; omega) ?_; intro v1 w1 hown1 hg1)
        have hown2 : OwnR 167 2 fiC w1 w.heap.size v1 (lkP es p q [x] (k + 1)) := by rw [HS.out]; exact hown1
        have hB2 := HBa.out.trans (gb_BelowF hg1 (by simp; omega) (ownBlock_base HOw.out))
        clear hown1 hg1
        go_wp2
        go_roundw
        case rel => exact ⟨k + 1, true, by omega, rfl, (decide_eq_true (by omega)).symm, by go_num, hown2, hB2⟩
        case measure => simp [intOf]; omega
    · obtain rfl : k = es.length := by omega
      by_cases hpe : p < es.length
      · obtain rfl : bb = true := by rw [hbb]; exact decide_eq_true hpe
        have HS : Hid (FP = LL) := Lib.hid (by rw [HE.out, hLL, lk_end es p q [x] hpe])
        have hown2 : OwnR 167 2 fiC wr w.heap.size (.slice oa LL.length oc) FP := by rw [HS.out]; exact hown
        clear hown hbb hLL
        go_wp2
        go_ret
        exact ⟨_, rfl, hown2, hB⟩
      · obtain rfl : bb = false := by rw [hbb]; exact decide_eq_false hpe
        have hf := HFl.out hpe
        have hqp : q = p := by rw [← HQ.out, hf]; rfl
        have HS : Hid (FP = LL ++ [⟨nm, da⟩]) := Lib.hid (by rw [HE.out, hLL, lk_end2 es p q [x] hpe, hqp, show p = es.length by omega, List.take_of_length_le (Nat.le_refl _), List.drop_length, List.append_nil, HXx.out])
        have HOw := Lib.hid hown
        have HN1 := Lib.hid (hown.alloc (.cells #[.string nm, .string da] 167))
        have HN2 := Lib.hid (one_rec fiC_len wr 167 ⟨nm, da⟩ #[.string nm, .string da] rfl)
        have HNa := Lib.hid (hB.alloc hB.size (.cells #[.string nm, .string da] 167))
        have hsz : w.heap.size ≤ wr.heap.size := hB.size
        clear hown hbb hLL hB hf hqp
        go_wp2_with (at_builtin; refine wpList_appR fiC_len (by decide) Try.underlying61 Try.infoFile rfl (by decide) rfl (.tmp 50) (.tmp 54) rfl w.heap.size (wr.heap.size + 1) _ _ _ [⟨nm, da⟩] rfl rfl HN1.out HN2.out (fun y _ => fiC_one y) (by simp; omega) (by simp; omega) ?_; intro v1 w1 hown1 hg1)
        have hB2 := HNa.out.trans (gb_BelowF hg1 (by simp; omega) (ownBlock_base HOw.out))
        rw [← HS.out] at hown1
        go_wp2
        go_ret
        exact ⟨_, rfl, hown1, hB2⟩

end Go.Proofs.Ytffkakpbelknaaa

/- Joined: W9zs, W9zt. -/
import Derived.Test.YtgimjfffdnopiaaH39
/- W9zs -/
namespace Go.Proofs.Ytgimjfffdnopiaa
open Go.ChangeShapes Go.WideShapes Go.ChangeAt Go.RowKit
set_option linter.unusedVariables false

set_option maxRecDepth 100000 in
set_option maxHeartbeats 1600000 in
theorem l9Mark_any (x : En) (k : Int) (w : World) (hk : k = 4 ∨ k = 5 ∨ k = 6 ∨ k = 7) :
    Calls Try.prog 168 #[enV x.it.id x.it.ti x.it.da x.rd x.st, .int .i64 k] w fun e w' => e = .returned (enV (mkE x k).it.id (mkE x k).it.ti (mkE x k).it.da (mkE x k).rd (mkE x k).st) ∧ Below w.heap.size w w' := by
  obtain ⟨⟨s, t, d⟩, r, b⟩ := x
  simp only
  have hW : ∀ o1 o2, Below w.heap.size w ((w.alloc o1).alloc o2) := fun o1 o2 => ((Below.refl _ _).alloc (Nat.le_refl _) _).alloc (by simp) _
  rcases hk with rfl | rfl | rfl | rfl
  · go_enter Try.func168, Try.ntmps168
    go_wp2
    refine bodyPost_ret (v := enV s t d true b) (by simp [results, Try.results168, go_sem]) rfl ⟨?_, ?_⟩
    · rfl
    · exact hW _ _
  · go_enter Try.func168, Try.ntmps168
    go_wp2
    refine bodyPost_ret (v := enV s t d false b) (by simp [results, Try.results168, go_sem]) rfl ⟨?_, ?_⟩
    · rfl
    · exact hW _ _
  · go_enter Try.func168, Try.ntmps168
    go_wp2
    refine bodyPost_ret (v := enV s t d r true) (by simp [results, Try.results168, go_sem]) rfl ⟨?_, ?_⟩
    · rfl
    · exact hW _ _
  · go_enter Try.func168, Try.ntmps168
    go_wp2
    refine bodyPost_ret (v := enV s t d r false) (by simp [results, Try.results168, go_sem]) rfl ⟨?_, ?_⟩
    · rfl
    · exact hW _ _

set_option maxRecDepth 100000 in
set_option maxHeartbeats 3000000 in
theorem l9Oldest_any (v : Value) (es : List En) (w : World) (h : EnAt w w.heap.size v es) (h0 : 0 < es.length) :
    Calls Try.prog 188 #[v] w fun e w' => e = .returned (.int .i64 ((goP es es.length : Nat) : Int)) ∧ Below w.heap.size w w' := by
  have HI := Lib.hid h
  obtain ⟨a, cap, rfl, hl, hm, hc⟩ := h.raw
  clear hc h
  unfold maxLen at hm
  go_enter Try.func188, Try.ntmps188
  go_wp2
  go_loopw [3, 4] (fun p i wr => ∃ k : Nat, k ≤ es.length ∧ i = .int .i64 (k : Int) ∧ ((k = 0 ∧ p = .int .i64 (-1)) ∨ (0 < k ∧ p = .int .i64 ((goP es k : Nat) : Int))) ∧ Below w.heap.size w wr) (fun _ i _ => es.length - (intOf i).toNat)
  case atStart => exact ⟨0, Nat.zero_le _, rfl, .inl ⟨rfl, rfl⟩, Below.refl _ _⟩
  case round =>
    obtain ⟨k, hk, rfl, hp, hB⟩ := hrel
    have HB : Hid (∀ n, Below w.heap.size w (wr.drewN n)) := Lib.hid (fun n => below_drewN hB n)
    by_cases hlt : k < es.length
    · obtain ⟨a', cap', hv, _, _, hc⟩ := (HI.out.below hB).raw
      cases hv
      obtain ⟨b, off, rfl, hb, hr⟩ := hc k hlt
      obtain ⟨c0, c1, c2, c3, c4, _, _⟩ := hr k hlt
      rcases hp with ⟨rfl, rfl⟩ | ⟨hk0, rfl⟩
      · have HG : Hid (goP es (0 + 1) = 0) := Lib.hid (by have := goP_step es 0 0 hlt hlt rfl; rw [this]; split <;> rfl)
        clear c0 c1 c2 c3 c4 hr hc hB
        have hk1 : decide ((-1 : Int) < 0) = true := rfl
        go_wp2
        go_quiet (fail)
        go_wp2
        go_roundw
        case rel => exact ⟨0 + 1, by omega, by go_num, .inr ⟨by omega, by rw [HG.out]⟩, HB.out _⟩
        case measure => simp [intOf]; omega
      · obtain ⟨p, hpe⟩ : ∃ p, goP es k = p := ⟨_, rfl⟩
        have hpk : p < k := by rw [← hpe]; exact (goP_lt es k).2 hk0
        have hpl : p < es.length := by omega
        obtain ⟨e0, e1, e2, e3, e4, _, _⟩ := hr p hpl
        have HG0 := Lib.hid (goP_step es k p hlt hpl hpe)
        rw [hpe]
        have HGh : Hid (ghB es[k] es[p] = if es[k].st != es[p].st then es[p].st else decide (es[k].it.da < es[p].it.da)) := Lib.hid rfl
        generalize ghB es[k] es[p] = Q at HG0 HGh
        obtain ⟨s1, hs1⟩ : ∃ x, x = es[k].st := ⟨_, rfl⟩
        obtain ⟨s2, hs2⟩ : ∃ x, x = es[p].st := ⟨_, rfl⟩
        obtain ⟨n1, hn1⟩ : ∃ x, x = es[k].it.da := ⟨_, rfl⟩
        obtain ⟨n2, hn2⟩ : ∃ x, x = es[p].it.da := ⟨_, rfl⟩
        rw [← hs1] at c4 HGh
        rw [← hs2] at e4 HGh
        rw [← hn1] at c2 HGh
        rw [← hn2] at e2 HGh
        have hp0 : decide ((p : Int) < 0) = false := decide_eq_false (by omega)
        clear c0 c1 c3 e0 e1 e3 hr hc hB hs1 hs2 hn1 hn2 hpe
        cases s1 with
        | false =>
          cases s2 with
          | true =>
            have HG : Hid (goP es (k + 1) = k) := Lib.hid (by have := HGh.out; rw [HG0.out, this]; rfl)
            go_wp2
            go_quiet (fail)
            go_wp2
            go_roundw
            case rel => exact ⟨k + 1, by omega, by go_num, .inr ⟨by omega, by rw [HG.out]⟩, HB.out _⟩
            case measure => simp [intOf]; omega
          | false =>
            by_cases hd : n1 < n2
            · have hdd : decide (n1 < n2) = true := decide_eq_true hd
              have HG : Hid (goP es (k + 1) = k) := Lib.hid (by have := HGh.out; rw [HG0.out, this, hdd]; rfl)
              go_wp2
              go_quiet (fail)
              go_wp2
              go_roundw
              case rel => exact ⟨k + 1, by omega, by go_num, .inr ⟨by omega, by rw [HG.out]⟩, HB.out _⟩
              case measure => simp [intOf]; omega
            · have hdd : decide (n1 < n2) = false := decide_eq_false hd
              have HG : Hid (goP es (k + 1) = p) := Lib.hid (by have := HGh.out; rw [HG0.out, this, hdd]; rfl)
              go_wp2
              go_quiet (fail)
              go_wp2
              go_roundw
              case rel => exact ⟨k + 1, by omega, by go_num, .inr ⟨by omega, by rw [HG.out]⟩, HB.out _⟩
              case measure => simp [intOf]; omega
        | true =>
          cases s2 with
          | false =>
            have HG : Hid (goP es (k + 1) = p) := Lib.hid (by have := HGh.out; rw [HG0.out, this]; rfl)
            go_wp2
            go_quiet (fail)
            go_wp2
            go_roundw
            case rel => exact ⟨k + 1, by omega, by go_num, .inr ⟨by omega, by rw [HG.out]⟩, HB.out _⟩
            case measure => simp [intOf]; omega
          | true =>
            by_cases hd : n1 < n2
            · have hdd : decide (n1 < n2) = true := decide_eq_true hd
              have HG : Hid (goP es (k + 1) = k) := Lib.hid (by have := HGh.out; rw [HG0.out, this, hdd]; rfl)
              go_wp2
              go_quiet (fail)
              go_wp2
              go_roundw
              case rel => exact ⟨k + 1, by omega, by go_num, .inr ⟨by omega, by rw [HG.out]⟩, HB.out _⟩
              case measure => simp [intOf]; omega
            · have hdd : decide (n1 < n2) = false := decide_eq_false hd
              have HG : Hid (goP es (k + 1) = p) := Lib.hid (by have := HGh.out; rw [HG0.out, this, hdd]; rfl)
              go_wp2
              go_quiet (fail)
              go_wp2
              go_roundw
              case rel => exact ⟨k + 1, by omega, by go_num, .inr ⟨by omega, by rw [HG.out]⟩, HB.out _⟩
              case measure => simp [intOf]; omega
    · have hke : k = es.length := by omega
      obtain ⟨_, rfl⟩ : 0 < k ∧ _ := by
        rcases hp with ⟨rfl, _⟩ | h
        · omega
        · exact h
      subst hke
      go_wp2
      go_ret
      exact ⟨rfl, hB⟩
end Go.Proofs.Ytgimjfffdnopiaa

/- W9zt -/
namespace Go.Proofs.Ytgimjfffdnopiaa
open Go.ChangeShapes Go.WideShapes Go.ChangeAt Go.RowKit
set_option linter.unusedVariables false

theorem ft1_there {es : List En} {it : It} {p : Nat} (hf : fnB (enKs es) it.id = true) (hpl : plK (enKs es) it.id = p) (hp : p < es.length) : ft1 es it = es.set p ⟨it, es[p].rd, es[p].st⟩ := by
  unfold ft1 neE
  rw [hf, hpl, if_pos rfl, putP_set _ _ _ hp, List.getElem?_eq_getElem hp]
  rfl
theorem ft1_new {es : List En} {it : It} {p : Nat} (hf : fnB (enKs es) it.id = false) (hpl : plK (enKs es) it.id = p) : ft1 es it = (es.take p ++ [⟨it, false, false⟩]) ++ es.drop p := by
  unfold ft1 neE putP
  rw [hf, hpl, if_neg (by simp), if_neg (by simp), List.append_assoc]
  rfl
theorem atK_there {ks : List ByteArray} (hr : risB ks = true) {x : ByteArray} (hf : fnB ks x = true) : atK ks x = ((plK ks x : Nat) : Int) := by
  unfold atK
  rw [ix_pl hr, hf]
  rfl
theorem atK_not {ks : List ByteArray} (hr : risB ks = true) {x : ByteArray} (hf : fnB ks x = false) : atK ks x = -1 := by
  unfold atK
  rw [ix_pl hr, hf]
  rfl
theorem fn_lt {ks : List ByteArray} {x : ByteArray} (hf : fnB ks x = true) : plK ks x < ks.length := by
  unfold fnB at hf
  rcases Nat.lt_or_ge (plK ks x) ks.length with h | h
  · exact h
  · rw [List.getElem?_eq_none h] at hf; cases hf

set_option maxRecDepth 100000 in
set_option maxHeartbeats 1600000 in
theorem l9Put_there (v : Value) (es : List En) (it : It) (w : World) (h : EnAt w w.heap.size v es) (hr : risB (enKs es) = true) (hn : es.length ≤ 1000) (hf : fnB (enKs es) it.id = true) :
    Calls Try.prog 187 #[v, itV it.id it.ti it.da] w (OutB 103 5 enC (ft1 es it) w.heap.size w) := by
  have hP := fn_lt hf
  rw [show (enKs es).length = es.length by simp [enKs]] at hP
  have HF := Lib.hid (fun w h => l9Find_any v es it.id w h)
  rw [atK_there hr hf] at HF
  have HE := Lib.hid (ft1_there hf rfl hP)
  rw [HE.out]
  generalize plK (enKs es) it.id = p at hP HF
  have HI := Lib.hid h
  obtain ⟨a, cap, rfl, hl, hm, hc⟩ := h.raw
  unfold maxLen at hm
  clear hc h hr hf HE
  have hb0 : Below w.heap.size w (w.alloc (.cells #[.string it.id, .string it.ti, .int .i64 it.da] 101)) := (Below.refl _ _).alloc (Nat.le_refl _) _
  have hx0 := Box.new w #[.string it.id, .string it.ti, .int .i64 it.da] 101
  have hge : decide (0 ≤ (p : Int)) = true := decide_eq_true (by omega)
  obtain ⟨R, hR⟩ : ∃ R, es.set p ⟨it, es[p].rd, es[p].st⟩ = R := ⟨_, rfl⟩
  have HR := Lib.hid hR
  rw [hR]
  clear hR
  obtain ⟨I0, I1, I2⟩ := it
  simp only at hx0 hb0 HF HR ⊢
  go_enter Try.func187, Try.ntmps187
  go_wp2_with fail
  refine (HF.out _ ((HI.out.below hb0).mono hb0.size)).mono ?_
  rintro e w1 ⟨rfl, hb1⟩
  have hB1 := hb0.trans (hb1.mono hb0.size)
  have hx1 := hx0.keep hb1 hx0.lt
  have HRc := Lib.hid (((HI.out.below hB1).mono hB1.size).1)
  have hba1 : Below w1.heap.size w1 (w1.alloc (.cells #[] 103)) := (Below.refl _ _).alloc (Nat.le_refl _) _
  have HRc2 := Lib.hid ((HRc.out.below hba1))
  have HL0 := Lib.hid (OwnR.lit (k := 5) (C := enC) 103 w1 w1.heap.size (Nat.le_refl _))
  clear hb0 hb1 hx0 HRc
  go_wp2_with (
    at_builtin
    refine wpList_appR enC_len (by decide) Try.underlying97 Try.infoEntry rfl (by decide) rfl (.tmp 12) (.tmp 13) rfl w1.heap.size w1.heap.size _ _ [] es rfl rfl HL0.out HRc2.out (fun y _ => enC_one y) (by simp; omega) (by simp) ?_
    intro v2 w2 hown2 hg2
    have hb2 : Below w1.heap.size w1 w2 := hba1.trans (gb_Below hg2 (by simp) (ownBlock_base HL0.out))
    have hx2 := hx1.keep hb2 hx1.lt
    rw [List.nil_append] at hown2
    rcases hown2.2 with ⟨_, hz⟩ | ⟨g, c2, cur, rfl, hgb, _, hlc, hcm, _⟩
    · have : es.length = 0 := hz
      omega
    have d0 : w2.cell? ⟨g, p * 5 + 0, none⟩ = some (.string es[p].it.id) := hown2.val enC_len rfl p 0 _ hP rfl
    have d1 : w2.cell? ⟨g, p * 5 + 1, none⟩ = some (.string es[p].it.ti) := hown2.val enC_len rfl p 1 _ hP rfl
    have d2 : w2.cell? ⟨g, p * 5 + 2, none⟩ = some (.int .i64 es[p].it.da) := hown2.val enC_len rfl p 2 _ hP rfl
    have hfr := hown2.free rfl
    have f0 : w2.cell? ⟨w.heap.size, 0, none⟩ = some (.string I0) := hx2.cell 0 _ rfl
    have f1 : w2.cell? ⟨w.heap.size, 1, none⟩ = some (.string I1) := hx2.cell 1 _ rfl
    have f2 : w2.cell? ⟨w.heap.size, 2, none⟩ = some (.int .i64 I2) := hx2.cell 2 _ rfl
    have HO := Lib.hid hown2
    have HB2 := Lib.hid (hB1.trans (hb2.mono hB1.size))
    have hws : w.heap.size ≤ w1.heap.size := hB1.size
    unfold maxLen at hcm
    rw [Nat.add_zero] at d0
    have hgx : w.heap.size ≠ g := by have := hx1.lt; omega
    clear hown2 hg2 hb2 hB1 hx1 hx2 hba1 HRc2 HL0 HI HF)
  have e1 := HO.out.setF enC_len rfl p 0 ⟨⟨I0, es[p].it.ti, es[p].it.da⟩, es[p].rd, es[p].st⟩ (.string I0) hP (by decide) rfl
  have e2 := e1.setF enC_len (by simp) p 1 ⟨⟨I0, I1, es[p].it.da⟩, es[p].rd, es[p].st⟩ (.string I1) (by simp; omega) (by decide) (by rw [List.getElem_set_self]; rfl)
  have e3 := e2.setF enC_len (by simp) p 2 ⟨⟨I0, I1, I2⟩, es[p].rd, es[p].st⟩ (.int .i64 I2) (by simp; omega) (by decide) (by rw [List.getElem_set_self]; rfl)
  rw [List.set_set, List.set_set, HR.out] at e3
  rw [Nat.add_zero] at e3
  have hB3 := ((HB2.out.setCell (p := ⟨g, p * 5, none⟩) (by simp; omega) (.string I0)).setCell (p := ⟨g, p * 5 + 1, none⟩) (by simp; omega) (.string I1)).setCell (p := ⟨g, p * 5 + 2, none⟩) (by simp; omega) (.int .i64 I2)
  go_ret
  exact ⟨_, rfl, e3.base_mono hws, hB3⟩

set_option maxRecDepth 100000 in
set_option maxHeartbeats 1600000 in
theorem l9Put_new (v : Value) (es : List En) (it : It) (w : World) (h : EnAt w w.heap.size v es) (hr : risB (enKs es) = true) (hn : es.length ≤ 1000) (hf : fnB (enKs es) it.id = false) :
    Calls Try.prog 187 #[v, itV it.id it.ti it.da] w (OutB 103 5 enC (ft1 es it) w.heap.size w) := by
  have hpl := plK_le (enKs es) it.id
  rw [show (enKs es).length = es.length by simp [enKs]] at hpl
  have HF := Lib.hid (fun w h => l9Find_any v es it.id w h)
  rw [atK_not hr hf] at HF
  have HE := Lib.hid (ft1_new hf (p := plK (enKs es) it.id) rfl)
  have HLo : Hid (∀ t (ht : t < es.length), t < plK (enKs es) it.id → Op.bytesLess es[t].it.id.toList it.id.toList = true) := Lib.hid (fun t ht htp => by
    have h1 := plK_lo (enKs es) it.id t htp
    have htk : t < (enKs es).length := by simpa [enKs] using ht
    have h2 : ltK (enKs es)[t] it.id = true := by rw [ltK_cmp]; exact decide_eq_true h1
    simpa [enKs, ltK] using h2)
  have HHi : Hid (∀ (ht : plK (enKs es) it.id < es.length), Op.bytesLess es[plK (enKs es) it.id].it.id.toList it.id.toList = false) := Lib.hid (fun ht => by
    have htk : plK (enKs es) it.id < (enKs es).length := by simpa [enKs] using ht
    have h1 := plK_hi (ks := enKs es) (x := it.id) htk
    have h2 : ltK (enKs es)[plK (enKs es) it.id] it.id = false := by rw [ltK_cmp]; exact decide_eq_false h1
    simpa [enKs, ltK] using h2)
  rw [HE.out]
  generalize plK (enKs es) it.id = p at hpl HF HLo HHi ⊢
  have HI := Lib.hid h
  obtain ⟨a, cap, rfl, hl, hm, hc⟩ := h.raw
  unfold maxLen at hm
  clear hc h hr hf HE
  have hb0 : Below w.heap.size w (w.alloc (.cells #[.string it.id, .string it.ti, .int .i64 it.da] 101)) := (Below.refl _ _).alloc (Nat.le_refl _) _
  have hx0 := Box.new w #[.string it.id, .string it.ti, .int .i64 it.da] 101
  go_enter Try.func187, Try.ntmps187
  go_wp2_with fail
  refine (HF.out _ ((HI.out.below hb0).mono hb0.size)).mono ?_
  rintro e w1 ⟨rfl, hb1⟩
  have hB1 := hb0.trans (hb1.mono hb0.size)
  have hx1 := hx0.keep hb1 hx0.lt
  have HRc := Lib.hid (((HI.out.below hB1).mono hB1.size).1)
  have hba1 : Below w1.heap.size w1 (w1.alloc (.cells #[] 103)) := (Below.refl _ _).alloc (Nat.le_refl _) _
  have HRc2 := Lib.hid ((HRc.out.below hba1))
  have HL0 := Lib.hid (OwnR.lit (k := 5) (C := enC) 103 w1 w1.heap.size (Nat.le_refl _))
  clear hb0 hb1 hx0 HRc
  go_wp2_with (
    at_builtin
    refine wpList_appR enC_len (by decide) Try.underlying97 Try.infoEntry rfl (by decide) rfl (.tmp 12) (.tmp 13) rfl w1.heap.size w1.heap.size _ _ [] es rfl rfl HL0.out HRc2.out (fun y _ => enC_one y) (by simp; omega) (by simp) ?_
    intro v2 w2 hown2 hg2
    have hb2 : Below w1.heap.size w1 w2 := hba1.trans (gb_Below hg2 (by simp) (ownBlock_base HL0.out))
    have hx2 := hx1.keep hb2 hx1.lt
    have hB2 := hB1.trans (hb2.mono hB1.size)
    clear hown2 hg2 hb2 hB1 hx1 hba1 HRc2 HL0 HF)
  go_loopw [7] (fun i wr => ∃ k : Nat, k ≤ p ∧ i = .int .i64 (k : Int) ∧ Box wr w.heap.size #[.string it.id, .string it.ti, .int .i64 it.da] 101 ∧ Below w.heap.size w wr) (fun i _ => p - (intOf i).toNat)
  case atStart => exact ⟨0, Nat.zero_le _, rfl, hx2, hB2⟩
  case round =>
    obtain ⟨k, hk, rfl, hx, hB⟩ := hrel
    clear hx2 hB2
    have f0 := hx.cell 0 _ rfl
    have f1 := hx.cell 1 _ rfl
    have f2 := hx.cell 2 _ rfl
    have HBn : Hid (∀ n, Below w.heap.size w (wr.drewN n)) := Lib.hid (fun n => below_drewN hB n)
    have HXn : Hid (∀ n, Box (wr.drewN n) w.heap.size #[.string it.id, .string it.ti, .int .i64 it.da] 101) := Lib.hid (fun n => hx)
    by_cases hkp : k < p
    · have hlt : k < es.length := by omega
      obtain ⟨a', cap', hv, _, _, hc⟩ := (HI.out.below hB).raw
      cases hv
      obtain ⟨b, off, rfl, hb, hr⟩ := hc k hlt
      obtain ⟨c0, _, _, _, _, _, _⟩ := hr k hlt
      have hlo := HLo.out k hlt hkp
      have hkl : decide ((k : Int) < (es.length : Int)) = true := decide_eq_true (by omega)
      clear hr hc hB hx
      go_wp2
      go_quiet (fail)
      go_wp2
      go_roundw
      case rel => exact ⟨k + 1, by omega, by go_num, HXn.out _, HBn.out _⟩
      case measure => simp [intOf]; omega
    · obtain rfl : k = p := by omega
      by_cases hke : k < es.length
      · obtain ⟨a', cap', hv, _, _, hc⟩ := (HI.out.below hB).raw
        cases hv
        obtain ⟨b, off, rfl, hb, hr⟩ := hc k hke
        obtain ⟨c0, _, _, _, _, _, _⟩ := hr k hke
        have HLf := Lib.hid (HHi.out hke)
        have HKl : Hid (decide ((k : Int) < (es.length : Int)) = true) := Lib.hid (decide_eq_true (by omega))
        have hcp : ¬ cap = k := by omega
        clear hr hc f0 f1 f2 HBn HXn
        go_wp2
        refine wp_region_T (fun w' => (Box w' w.heap.size #[.string it.id, .string it.ti, .int .i64 it.da] 101) ∧ w'.cell? ⟨b, off + k * 5, none⟩ = some (.string es[k].it.id)) (fun _ => True) 14 (by kernel_rfl) 15 rfl ?_
        refine wpAnyT_takesA (md := .any) 1 (by kernel_rfl) (by intro d v c a w h; cases d <;> exact h) [0, 1, 2, 3, 4, 5, 6, 7, 8, 9, 10, 11, 12, 13] _ _ _ (by decide) (by kernel_rfl) ⟨⟨hx.drew, c0⟩, fun _ => trivial⟩ ?_
        simp only [pick, List.filterMap_cons, List.filterMap_nil, List.getElem?_cons_zero, List.getElem?_cons_succ]
        refine wpIf_step (.int .i64 (k : Int)) (by kernel_rfl) (fun w hw => by go_simp) ?_
        refine wpIf_step (.slice (some ⟨b, off, none⟩) es.length cap) (by kernel_rfl) (fun w hw => by go_simp) ?_
        refine wpIf_step (.int .i64 (es.length : Int)) (by kernel_rfl) (fun w hw => by go_simp) ?_
        refine wpIf_step (.bool true) (by kernel_rfl) (fun w hw => by have hkl := HKl.out; go_simp) ?_
        refine wpIf_step (.bool true) (by kernel_rfl) (fun w hw => by go_simp) ?_
        refine wpIf_step (.slice (some ⟨b, off, none⟩) es.length cap) (by kernel_rfl) (fun w hw => by go_simp) ?_
        refine wpIf_step (.int .i64 (k : Int)) (by kernel_rfl) (fun w hw => by go_simp) ?_
        refine wpIf_step (.pointer (some ⟨b, off + k * 5, none⟩)) (by kernel_rfl) (fun w hw => by go_simp) ?_
        refine wpIf_step (.pointer (some ⟨b, off + k * 5, none⟩)) (by kernel_rfl) (fun w hw => by go_simp) ?_
        refine wpIf_step (.pointer (some ⟨b, off + k * 5, none⟩)) (by kernel_rfl) (fun w hw => by go_simp) ?_
        refine wpIf_step (.string es[k].it.id) (by kernel_rfl) (fun w hw => by have e0 := hw.2; go_simp) ?_
        refine wpIf_step (.pointer (some ⟨w.heap.size, 0, none⟩)) (by kernel_rfl) (fun w hw => by go_simp) ?_
        refine wpIf_step (.string it.id) (by kernel_rfl) (fun w hw => by have e0 : w.cell? ⟨_, 0, none⟩ = some (.string it.id) := hw.1.cell 0 _ rfl; go_simp) ?_
        refine wpIf_step (.bool false) (by kernel_rfl) (fun w hw => by have hlo := HLf.out; go_simp) ?_
        refine wpIf_nil (fun hS => ?_)
        clear hS
        refine wpAnyT_one 14 0 (by kernel_rfl) rfl (by kernel_rfl) (fun K hK => ?_)
        go_simp
        refine hK _ _ ⟨⟨hx.drew, c0⟩, fun _ => trivial⟩ (fun hS => ?_)
        clear hK K hS
        refine wpAnyT_over (by kernel_rfl) ?_
        clear c0 HLf HKl
        have hWb : Below w.heap.size w wr.drew := hB.drew
        have HRw := Lib.hid (((HI.out.below hWb).mono hWb.size).1)
        have HXw := Lib.hid hx.drew
        have HWb := Lib.hid hWb
        clear hB hx hWb
        generalize wr.drew = W at HRw HXw HWb ⊢
        have hws : w.heap.size ≤ W.heap.size := HWb.out.size
        have HT0 : Hid (RecAt 5 enC (W.alloc (.cells #[] 103)) W.heap.size (.slice (some ⟨b, off, none⟩) k cap) (es.take k)) := Lib.hid ((HRw.out.take k hpl).below ((Below.refl _ _).alloc (Nat.le_refl _) _))
        have HL0 := Lib.hid (OwnR.lit (k := 5) (C := enC) 103 W w.heap.size hws)
        have HA0 := Lib.hid (HWb.out.alloc HWb.out.size (.cells #[] 103))
        have htl : (es.take k).length = k := by rw [List.length_take]; omega
        have hdl : (es.drop k).length = es.length - k := List.length_drop
        go_wp2_with (first
          | (at_builtin
             refine wpList_appR enC_len (by decide) Try.underlying97 Try.infoEntry rfl (by decide) rfl (.tmp 40) (.tmp 43) rfl w.heap.size W.heap.size _ _ [] (es.take k) rfl rfl HL0.out HT0.out (fun y _ => enC_one y) (by simp; omega) (by simp; omega) ?_
             intro v3 w3 hown3 hg3
             have hB3 := HA0.out.trans (gb_Below hg3 (by simp; omega) (ownBlock_base HL0.out))
             have hb3 : Below W.heap.size W w3 := ((Below.refl _ _).alloc (Nat.le_refl _) _).trans (gb_Below hg3 (by simp) (by intro b hb; cases hb; exact Nat.le_refl _))
             rw [List.nil_append] at hown3
             have HX3 := HXw.out.keep hb3 HXw.out.lt
             have f0 : w3.cell? ⟨w.heap.size, 0, none⟩ = some (.string it.id) := HX3.cell 0 _ rfl
             have f1 : w3.cell? ⟨w.heap.size, 1, none⟩ = some (.string it.ti) := HX3.cell 1 _ rfl
             have f2 : w3.cell? ⟨w.heap.size, 2, none⟩ = some (.int .i64 it.da) := HX3.cell 2 _ rfl
             have HO3 := Lib.hid (hown3.alloc (.cells #[.string it.id, .string it.ti, .int .i64 it.da, .bool false, .bool false] 103))
             have HN3 := Lib.hid (one_rec enC_len w3 103 ⟨it, false, false⟩ #[.string it.id, .string it.ti, .int .i64 it.da, .bool false, .bool false] rfl)
             have HB3 := Lib.hid (hB3.alloc hB3.size (.cells #[.string it.id, .string it.ti, .int .i64 it.da, .bool false, .bool false] 103))
             have hs3 : w.heap.size ≤ w3.heap.size := hB3.size
             have Hb3 := Lib.hid hb3
             have HOb := Lib.hid (ownBlock_base hown3)
             clear hown3 hg3 hB3 hb3 HX3)
          | (at_builtin
             refine wpList_appR enC_len (by decide) Try.underlying97 Try.infoEntry rfl (by decide) rfl (.tmp 45) (.tmp 48) rfl w.heap.size (w3.heap.size + 1) _ _ (es.take k) [⟨it, false, false⟩] rfl rfl HO3.out HN3.out (fun y _ => enC_one y) (by simp; omega) (by simp; omega) ?_
             intro v4 w4 hown4 hg4
             have HB4 := Lib.hid (HB3.out.trans (gb_Below hg4 (by simp; omega) HOb.out))
             have HO4 := Lib.hid hown4
             have hs4 : w.heap.size ≤ w4.heap.size := HB4.out.size
             have HR4 : Hid (RecAt 5 enC w4 w.heap.size (.slice (some ⟨b, off + k * 5, none⟩) (es.length - k) (cap - k)) (es.drop k)) := Lib.hid (by
               exact (HI.out.below HB4.out).1.drop k hpl (fun _ b2 off2 hab => by cases hab; rfl))
             have HOb4 := Lib.hid (ownBlock_base hown4)
             clear hown4 hg4)
          | (at_builtin
             refine wpList_appR enC_len (by decide) Try.underlying97 Try.infoEntry rfl (by decide) rfl (.tmp 50) (.tmp 53) rfl w.heap.size w.heap.size _ _ (es.take k ++ ([⟨it, false, false⟩] : List En)) (es.drop k) rfl rfl HO4.out HR4.out (fun y _ => enC_one y) (by simp; omega) hs4 ?_
             intro v5 w5 hown5 hg5
             have hB5 := HB4.out.trans (gb_Below hg5 hs4 HOb4.out)))
        go_ret
        exact ⟨_, rfl, hown5, hB5⟩
      · have hkl : decide ((k : Int) < (es.length : Int)) = false := decide_eq_false (by omega)
        clear f0 f1 f2 HBn HXn
        rcases Nat.eq_or_lt_of_le (show k ≤ cap by omega) with hcp | hcp
        · obtain rfl : cap = k := hcp.symm
          clear hcp
          go_wp2
          refine wp_region_T (fun w' => Box w' w.heap.size #[.string it.id, .string it.ti, .int .i64 it.da] 101) (fun _ => True) 14 (by kernel_rfl) 15 rfl ?_
          refine wpAnyT_takesA (md := .any) 1 (by kernel_rfl) (by intro d v c a w h; cases d <;> exact h) [0, 1, 2, 3, 4, 5, 6, 7, 8, 9, 10, 11, 12, 13] _ _ _ (by decide) (by kernel_rfl) ⟨hx.drew, fun _ => trivial⟩ ?_
          simp only [pick, List.filterMap_cons, List.filterMap_nil, List.getElem?_cons_zero, List.getElem?_cons_succ]
          refine wpIf_step (.int .i64 (cap : Int)) (by kernel_rfl) (fun w hw => by go_simp) ?_
          refine wpIf_step (.slice a es.length cap) (by kernel_rfl) (fun w hw => by go_simp) ?_
          refine wpIf_step (.int .i64 (es.length : Int)) (by kernel_rfl) (fun w hw => by go_simp) ?_
          refine wpIf_step (.bool false) (by kernel_rfl) (fun w hw => by go_simp) ?_
          refine wpIf_step (.bool false) (by kernel_rfl) (fun w hw => by go_simp) ?_
          refine wpIf_skip (by kernel_rfl) ?_
          refine wpIf_skip (by kernel_rfl) ?_
          refine wpIf_skip (by kernel_rfl) ?_
          refine wpIf_skip (by kernel_rfl) ?_
          refine wpIf_skip (by kernel_rfl) ?_
          refine wpIf_skip (by kernel_rfl) ?_
          refine wpIf_skip (by kernel_rfl) ?_
          refine wpIf_skip (by kernel_rfl) ?_
          refine wpIf_skip (by kernel_rfl) ?_
          refine wpIf_nil (fun hS => ?_)
          clear hS
          refine wpAnyT_one 14 0 (by kernel_rfl) rfl (by kernel_rfl) (fun K hK => ?_)
          go_simp
          refine hK _ _ ⟨hx.drew, fun _ => trivial⟩ (fun hS => ?_)
          clear hK K hS
          refine wpAnyT_over (by kernel_rfl) ?_
          have hWb : Below w.heap.size w wr.drew := hB.drew
          have HRw := Lib.hid (((HI.out.below hWb).mono hWb.size).1)
          have HXw := Lib.hid hx.drew
          have HWb := Lib.hid hWb
          clear hB hx hWb
          generalize wr.drew = W at HRw HXw HWb ⊢
          have hws : w.heap.size ≤ W.heap.size := HWb.out.size
          have HT0 : Hid (RecAt 5 enC (W.alloc (.cells #[] 103)) W.heap.size (.slice a cap cap) (es.take cap)) := Lib.hid ((HRw.out.take cap hpl).below ((Below.refl _ _).alloc (Nat.le_refl _) _))
          have HL0 := Lib.hid (OwnR.lit (k := 5) (C := enC) 103 W w.heap.size hws)
          have HA0 := Lib.hid (HWb.out.alloc HWb.out.size (.cells #[] 103))
          have htl : (es.take cap).length = cap := by rw [List.length_take]; omega
          have hdl : (es.drop cap).length = es.length - cap := List.length_drop
          go_wp2_with (first
            | (at_builtin
               refine wpList_appR enC_len (by decide) Try.underlying97 Try.infoEntry rfl (by decide) rfl (.tmp 40) (.tmp 43) rfl w.heap.size W.heap.size _ _ [] (es.take cap) rfl rfl HL0.out HT0.out (fun y _ => enC_one y) (by simp; omega) (by simp; omega) ?_
               intro v3 w3 hown3 hg3
               have hB3 := HA0.out.trans (gb_Below hg3 (by simp; omega) (ownBlock_base HL0.out))
               have hb3 : Below W.heap.size W w3 := ((Below.refl _ _).alloc (Nat.le_refl _) _).trans (gb_Below hg3 (by simp) (by intro b hb; cases hb; exact Nat.le_refl _))
               rw [List.nil_append] at hown3
               have HX3 := HXw.out.keep hb3 HXw.out.lt
               have f0 : w3.cell? ⟨w.heap.size, 0, none⟩ = some (.string it.id) := HX3.cell 0 _ rfl
               have f1 : w3.cell? ⟨w.heap.size, 1, none⟩ = some (.string it.ti) := HX3.cell 1 _ rfl
               have f2 : w3.cell? ⟨w.heap.size, 2, none⟩ = some (.int .i64 it.da) := HX3.cell 2 _ rfl
               have HO3 := Lib.hid (hown3.alloc (.cells #[.string it.id, .string it.ti, .int .i64 it.da, .bool false, .bool false] 103))
               have HN3 := Lib.hid (one_rec enC_len w3 103 ⟨it, false, false⟩ #[.string it.id, .string it.ti, .int .i64 it.da, .bool false, .bool false] rfl)
               have HB3 := Lib.hid (hB3.alloc hB3.size (.cells #[.string it.id, .string it.ti, .int .i64 it.da, .bool false, .bool false] 103))
               have hs3 : w.heap.size ≤ w3.heap.size := hB3.size
               have Hb3 := Lib.hid hb3
               have HOb := Lib.hid (ownBlock_base hown3)
               clear hown3 hg3 hB3 hb3 HX3)
            | (at_builtin
               refine wpList_appR enC_len (by decide) Try.underlying97 Try.infoEntry rfl (by decide) rfl (.tmp 45) (.tmp 48) rfl w.heap.size (w3.heap.size + 1) _ _ (es.take cap) [⟨it, false, false⟩] rfl rfl HO3.out HN3.out (fun y _ => enC_one y) (by simp; omega) (by simp; omega) ?_
               intro v4 w4 hown4 hg4
               have HB4 := Lib.hid (HB3.out.trans (gb_Below hg4 (by simp; omega) HOb.out))
               have HO4 := Lib.hid hown4
               have hs4 : w.heap.size ≤ w4.heap.size := HB4.out.size
               have HR4 : Hid (RecAt 5 enC w4 w.heap.size (.slice a 0 0) (es.drop cap)) := Lib.hid (by
                 exact drop_eq (((HI.out.below HB4.out).1.drop cap hpl (a2 := a) (fun hlt => by omega))) (by omega) (by omega))
               have HOb4 := Lib.hid (ownBlock_base hown4)
               clear hown4 hg4)
            | (at_builtin
               refine wpList_appR enC_len (by decide) Try.underlying97 Try.infoEntry rfl (by decide) rfl (.tmp 50) (.tmp 53) rfl w.heap.size w.heap.size _ _ (es.take cap ++ ([⟨it, false, false⟩] : List En)) (es.drop cap) rfl rfl HO4.out HR4.out (fun y _ => enC_one y) (by simp; omega) hs4 ?_
               intro v5 w5 hown5 hg5
               have hB5 := HB4.out.trans (gb_Below hg5 hs4 HOb4.out)))
          go_ret
          exact ⟨_, rfl, hown5, hB5⟩
        · have hcq : ¬ cap = k := by omega
          go_wp2
          refine wp_region_T (fun w' => Box w' w.heap.size #[.string it.id, .string it.ti, .int .i64 it.da] 101) (fun _ => True) 14 (by kernel_rfl) 15 rfl ?_
          refine wpAnyT_takesA (md := .any) 1 (by kernel_rfl) (by intro d v c a w h; cases d <;> exact h) [0, 1, 2, 3, 4, 5, 6, 7, 8, 9, 10, 11, 12, 13] _ _ _ (by decide) (by kernel_rfl) ⟨hx.drew, fun _ => trivial⟩ ?_
          simp only [pick, List.filterMap_cons, List.filterMap_nil, List.getElem?_cons_zero, List.getElem?_cons_succ]
          refine wpIf_step (.int .i64 (k : Int)) (by kernel_rfl) (fun w hw => by go_simp) ?_
          refine wpIf_step (.slice a es.length cap) (by kernel_rfl) (fun w hw => by go_simp) ?_
          refine wpIf_step (.int .i64 (es.length : Int)) (by kernel_rfl) (fun w hw => by go_simp) ?_
          refine wpIf_step (.bool false) (by kernel_rfl) (fun w hw => by go_simp) ?_
          refine wpIf_step (.bool false) (by kernel_rfl) (fun w hw => by go_simp) ?_
          refine wpIf_skip (by kernel_rfl) ?_
          refine wpIf_skip (by kernel_rfl) ?_
          refine wpIf_skip (by kernel_rfl) ?_
          refine wpIf_skip (by kernel_rfl) ?_
          refine wpIf_skip (by kernel_rfl) ?_
          refine wpIf_skip (by kernel_rfl) ?_
          refine wpIf_skip (by kernel_rfl) ?_
          refine wpIf_skip (by kernel_rfl) ?_
          refine wpIf_skip (by kernel_rfl) ?_
          refine wpIf_nil (fun hS => ?_)
          clear hS
          refine wpAnyT_one 14 0 (by kernel_rfl) rfl (by kernel_rfl) (fun K hK => ?_)
          go_simp
          refine hK _ _ ⟨hx.drew, fun _ => trivial⟩ (fun hS => ?_)
          clear hK K hS
          refine wpAnyT_over (by kernel_rfl) ?_
          have hWb : Below w.heap.size w wr.drew := hB.drew
          have HRw := Lib.hid (((HI.out.below hWb).mono hWb.size).1)
          have HXw := Lib.hid hx.drew
          have HWb := Lib.hid hWb
          clear hB hx hWb
          generalize wr.drew = W at HRw HXw HWb ⊢
          have hws : w.heap.size ≤ W.heap.size := HWb.out.size
          have HT0 : Hid (RecAt 5 enC (W.alloc (.cells #[] 103)) W.heap.size (.slice a k cap) (es.take k)) := Lib.hid ((HRw.out.take k hpl).below ((Below.refl _ _).alloc (Nat.le_refl _) _))
          have HL0 := Lib.hid (OwnR.lit (k := 5) (C := enC) 103 W w.heap.size hws)
          have HA0 := Lib.hid (HWb.out.alloc HWb.out.size (.cells #[] 103))
          have htl : (es.take k).length = k := by rw [List.length_take]; omega
          have hdl : (es.drop k).length = es.length - k := List.length_drop
          go_wp2_with (first
            | (at_builtin
               refine wpList_appR enC_len (by decide) Try.underlying97 Try.infoEntry rfl (by decide) rfl (.tmp 40) (.tmp 43) rfl w.heap.size W.heap.size _ _ [] (es.take k) rfl rfl HL0.out HT0.out (fun y _ => enC_one y) (by simp; omega) (by simp; omega) ?_
               intro v3 w3 hown3 hg3
               have hB3 := HA0.out.trans (gb_Below hg3 (by simp; omega) (ownBlock_base HL0.out))
               have hb3 : Below W.heap.size W w3 := ((Below.refl _ _).alloc (Nat.le_refl _) _).trans (gb_Below hg3 (by simp) (by intro b hb; cases hb; exact Nat.le_refl _))
               rw [List.nil_append] at hown3
               have HX3 := HXw.out.keep hb3 HXw.out.lt
               have f0 : w3.cell? ⟨w.heap.size, 0, none⟩ = some (.string it.id) := HX3.cell 0 _ rfl
               have f1 : w3.cell? ⟨w.heap.size, 1, none⟩ = some (.string it.ti) := HX3.cell 1 _ rfl
               have f2 : w3.cell? ⟨w.heap.size, 2, none⟩ = some (.int .i64 it.da) := HX3.cell 2 _ rfl
               have HO3 := Lib.hid (hown3.alloc (.cells #[.string it.id, .string it.ti, .int .i64 it.da, .bool false, .bool false] 103))
               have HN3 := Lib.hid (one_rec enC_len w3 103 ⟨it, false, false⟩ #[.string it.id, .string it.ti, .int .i64 it.da, .bool false, .bool false] rfl)
               have HB3 := Lib.hid (hB3.alloc hB3.size (.cells #[.string it.id, .string it.ti, .int .i64 it.da, .bool false, .bool false] 103))
               have hs3 : w.heap.size ≤ w3.heap.size := hB3.size
               have Hb3 := Lib.hid hb3
               have HOb := Lib.hid (ownBlock_base hown3)
               clear hown3 hg3 hB3 hb3 HX3)
            | (at_builtin
               refine wpList_appR enC_len (by decide) Try.underlying97 Try.infoEntry rfl (by decide) rfl (.tmp 45) (.tmp 48) rfl w.heap.size (w3.heap.size + 1) _ _ (es.take k) [⟨it, false, false⟩] rfl rfl HO3.out HN3.out (fun y _ => enC_one y) (by simp; omega) (by simp; omega) ?_
               intro v4 w4 hown4 hg4
               have HB4 := Lib.hid (HB3.out.trans (gb_Below hg4 (by simp; omega) HOb.out))
               have HO4 := Lib.hid hown4
               have hs4 : w.heap.size ≤ w4.heap.size := HB4.out.size
               have HR4 : Hid (RecAt 5 enC w4 w.heap.size (.slice (Option.map (fun x => x.add (k * 5)) a) (es.length - k) (cap - k)) (es.drop k)) := Lib.hid (by
                 exact (HI.out.below HB4.out).1.drop k hpl (fun _ b off hab => by rw [hab]; simp [Addr.add_lit]))
               have HOb4 := Lib.hid (ownBlock_base hown4)
               clear hown4 hg4)
            | (at_builtin
               refine wpList_appR enC_len (by decide) Try.underlying97 Try.infoEntry rfl (by decide) rfl (.tmp 50) (.tmp 53) rfl w.heap.size w.heap.size _ _ (es.take k ++ ([⟨it, false, false⟩] : List En)) (es.drop k) rfl rfl HO4.out HR4.out (fun y _ => enC_one y) (by simp; omega) hs4 ?_
               intro v5 w5 hown5 hg5
               have hB5 := HB4.out.trans (gb_Below hg5 hs4 HOb4.out)))
          go_ret
          exact ⟨_, rfl, hown5, hB5⟩
end Go.Proofs.Ytgimjfffdnopiaa

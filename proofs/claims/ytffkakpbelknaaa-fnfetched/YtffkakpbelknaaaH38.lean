/- Joined: W9zs. -/
import Derived.Test.YtffkakpbelknaaaH37
/- W9zs -/
namespace Go.Proofs.Ytffkakpbelknaaa
open Go.ChangeShapes Go.WideShapes Go.ChangeAt Go.RowKit
set_option linter.unusedVariables false

set_option maxRecDepth 100000 in
set_option maxHeartbeats 1600000 in
theorem l9Mark_any (x : En) (k : Int) (w : World) (hk : k = 4 ∨ k = 5 ∨ k = 6 ∨ k = 7) :
    Calls Try.prog 114 #[enV x.it.id x.it.ti x.it.da x.rd x.st, .int .i64 k] w fun e w' => e = .returned (enV (mkE x k).it.id (mkE x k).it.ti (mkE x k).it.da (mkE x k).rd (mkE x k).st) ∧ Below w.heap.size w w' := by
  obtain ⟨⟨s, t, d⟩, r, b⟩ := x
  simp only
  have hW : ∀ o1 o2, Below w.heap.size w ((w.alloc o1).alloc o2) := fun o1 o2 => ((Below.refl _ _).alloc (Nat.le_refl _) _).alloc (by simp) _
  rcases hk with rfl | rfl | rfl | rfl
  · go_enter Try.func114, Try.ntmps114
    go_wp2
    refine bodyPost_ret (v := enV s t d true b) (by simp [results, Try.results114, go_sem]) rfl ⟨?_, ?_⟩
    · rfl
    · exact hW _ _
  · go_enter Try.func114, Try.ntmps114
    go_wp2
    refine bodyPost_ret (v := enV s t d false b) (by simp [results, Try.results114, go_sem]) rfl ⟨?_, ?_⟩
    · rfl
    · exact hW _ _
  · go_enter Try.func114, Try.ntmps114
    go_wp2
    refine bodyPost_ret (v := enV s t d r true) (by simp [results, Try.results114, go_sem]) rfl ⟨?_, ?_⟩
    · rfl
    · exact hW _ _
  · go_enter Try.func114, Try.ntmps114
    go_wp2
    refine bodyPost_ret (v := enV s t d r false) (by simp [results, Try.results114, go_sem]) rfl ⟨?_, ?_⟩
    · rfl
    · exact hW _ _

set_option maxRecDepth 100000 in
set_option maxHeartbeats 3000000 in
theorem l9Oldest_any (v : Value) (es : List En) (w : World) (h : EnAt w w.heap.size v es) (h0 : 0 < es.length) :
    Calls Try.prog 154 #[v] w fun e w' => e = .returned (.int .i64 ((goP es es.length : Nat) : Int)) ∧ Below w.heap.size w w' := by
  have HI := Lib.hid h
  obtain ⟨a, cap, rfl, hl, hm, hc⟩ := h.raw
  clear hc h
  unfold maxLen at hm
  go_enter Try.func154, Try.ntmps154
  go_wp2
  go_loopw [3, 4] (fun p i wr => ∃ k : Nat, k ≤ es.length ∧ i = .int .i64 (k : Int) ∧ ((k = 0 ∧ p = .int .i64 (-1)) ∨ (0 < k ∧ p = .int .i64 ((goP es k : Nat) : Int))) ∧ Below w.heap.size w wr) (fun _ i _ => es.length - (intOf i).toNat)
  case atStart => exact ⟨0, Nat.zero_le _, rfl, .inl ⟨rfl, rfl⟩, Below.refl _ _⟩
  case round =>
    obtain ⟨k, hk, rfl, hp, hB⟩ := hrel
    have HB : Hid (∀ n, Below w.heap.size w (wr.drewN n)) := Lib.hid (fun n => below_drewN hB n)
    by_cases hlt : k < es.length
    · obtain ⟨a', cap', hv, _, _, hc⟩ := (HI.out.below hB).raw
      cases hv
      obtain ⟨b, off, rfl, hb, hr⟩ := hc k hlt
      obtain ⟨c0, c1, c2, c3, c4, _, _⟩ := hr k hlt
      rcases hp with ⟨rfl, rfl⟩ | ⟨hk0, rfl⟩
      · have HG : Hid (goP es (0 + 1) = 0) := Lib.hid (by have := goP_step es 0 0 hlt hlt rfl; rw [this]; split <;> rfl)
        clear c0 c1 c2 c3 c4 hr hc hB
        have hk1 : decide ((-1 : Int) < 0) = true := rfl
        go_wp2
        go_quiet (fail)
        go_wp2
        go_roundw
        case rel => exact ⟨0 + 1, by omega, by go_num, .inr ⟨by omega, by rw [HG.out]⟩, HB.out _⟩
        case measure => simp [intOf]; omega
      · obtain ⟨p, hpe⟩ : ∃ p, goP es k = p := ⟨_, rfl⟩
        have hpk : p < k := by rw [← hpe]; exact (goP_lt es k).2 hk0
        have hpl : p < es.length := by omega
        obtain ⟨e0, e1, e2, e3, e4, _, _⟩ := hr p hpl
        have HG0 := Lib.hid (goP_step es k p hlt hpl hpe)
        rw [hpe]
        have HGh : Hid (ghB es[k] es[p] = if es[k].st != es[p].st then es[p].st else decide (es[k].it.da < es[p].it.da)) := Lib.hid rfl
        generalize ghB es[k] es[p] = Q at HG0 HGh
        obtain ⟨s1, hs1⟩ : ∃ x, x = es[k].st := ⟨_, rfl⟩
        obtain ⟨s2, hs2⟩ : ∃ x, x = es[p].st := ⟨_, rfl⟩
        obtain ⟨n1, hn1⟩ : ∃ x, x = es[k].it.da := ⟨_, rfl⟩
        obtain ⟨n2, hn2⟩ : ∃ x, x = es[p].it.da := ⟨_, rfl⟩
        rw [← hs1] at c4 HGh
        rw [← hs2] at e4 HGh
        rw [← hn1] at c2 HGh
        rw [← hn2] at e2 HGh
        have hp0 : decide ((p : Int) < 0) = false := decide_eq_false (by omega)
        clear c0 c1 c3 e0 e1 e3 hr hc hB hs1 hs2 hn1 hn2 hpe
        cases s1 with
        | false =>
          cases s2 with
          | true =>
            have HG : Hid (goP es (k + 1) = k) := Lib.hid (by have := HGh.out; rw [HG0.out, this]; rfl)
            go_wp2
            go_quiet (fail)
            go_wp2
            go_roundw
            case rel => exact ⟨k + 1, by omega, by go_num, .inr ⟨by omega, by rw [HG.out]⟩, HB.out _⟩
            case measure => simp [intOf]; omega
          | false =>
            by_cases hd : n1 < n2
            · have hdd : decide (n1 < n2) = true := decide_eq_true hd
              have HG : Hid (goP es (k + 1) = k) := Lib.hid (by have := HGh.out; rw [HG0.out, this, hdd]; rfl)
              go_wp2
              go_quiet (fail)
              go_wp2
              go_roundw
              case rel => exact ⟨k + 1, by omega, by go_num, .inr ⟨by omega, by rw [HG.out]⟩, HB.out _⟩
              case measure => simp [intOf]; omega
            · have hdd : decide (n1 < n2) = false := decide_eq_false hd
              have HG : Hid (goP es (k + 1) = p) := Lib.hid (by have := HGh.out; rw [HG0.out, this, hdd]; rfl)
              go_wp2
              go_quiet (fail)
              go_wp2
              go_roundw
              case rel => exact ⟨k + 1, by omega, by go_num, .inr ⟨by omega, by rw [HG.out]⟩, HB.out _⟩
              case measure => simp [intOf]; omega
        | true =>
          cases s2 with
          | false =>
            have HG : Hid (goP es (k + 1) = p) := Lib.hid (by have := HGh.out; rw [HG0.out, this]; rfl)
            go_wp2
            go_quiet (fail)
            go_wp2
            go_roundw
            case rel => exact ⟨k + 1, by omega, by go_num, .inr ⟨by omega, by rw [HG.out]⟩, HB.out _⟩
            case measure => simp [intOf]; omega
          | true =>
            by_cases hd : n1 < n2
            · have hdd : decide (n1 < n2) = true := decide_eq_true hd
              have HG : Hid (goP es (k + 1) = k) := Lib.hid (by have := HGh.out; rw [HG0.out, this, hdd]; rfl)
              go_wp2
              go_quiet (fail)
              go_wp2
              go_roundw
              case rel => exact ⟨k + 1, by omega, by go_num, .inr ⟨by omega, by rw [HG.out]⟩, HB.out _⟩
              case measure => simp [intOf]; omega
            · have hdd : decide (n1 < n2) = false := decide_eq_false hd
              have HG : Hid (goP es (k + 1) = p) := Lib.hid (by have := HGh.out; rw [HG0.out, this, hdd]; rfl)
              go_wp2
              go_quiet (fail)
              go_wp2
              go_roundw
              case rel => exact ⟨k + 1, by omega, by go_num, .inr ⟨by omega, by rw [HG.out]⟩, HB.out _⟩
              case measure => simp [intOf]; omega
    · have hke : k = es.length := by omega
      obtain ⟨_, rfl⟩ : 0 < k ∧ _ := by
        rcases hp with ⟨rfl, _⟩ | h
        · omega
        · exact h
      subst hke
      go_wp2
      go_ret
      exact ⟨rfl, hB⟩
end Go.Proofs.Ytffkakpbelknaaa

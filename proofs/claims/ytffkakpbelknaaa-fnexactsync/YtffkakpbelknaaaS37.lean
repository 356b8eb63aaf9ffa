/- Joined: W14f. -/
import Derived.Test.YtffkakpbelknaaaS22
import Derived.Test.YtffkakpbelknaaaS36
/- W14f -/
namespace Go.Proofs.Ytffkakpbelknaaa
open Go.ChangeShapes Go.WideShapes Go.ChangeAt Go.RowKit
set_option linter.unusedVariables false

set_option maxRecDepth 100000 in
set_option maxHeartbeats 1600000 in
theorem l14At_any (v : Value) (es : List Fi) (x : ByteArray) (w : World) (h : FiAt w w.heap.size v es) :
    Calls Try.prog 92 #[v, .string x] w fun e w' => e = .returned (.int .i64 (atK (fiKs es) x)) ∧ Below w.heap.size w w' := by
  have HI := Lib.hid h
  obtain ⟨a, cap, rfl, hl, hm, hc⟩ := h.raw
  clear hc h
  unfold maxLen at hm
  have HL : Hid ((fiKs es).length = es.length) := Lib.hid (by simp [fiKs])
  have HX : Hid (∀ k (hk : k < es.length), (es[k].nm.toList == x.toList) = true → (∀ j (hj : j < es.length), j < k → (es[j].nm.toList == x.toList) = false) → atK (fiKs es) x = (k : Int)) := Lib.hid (fun k hk h1 h2 => by
    have : ixK (fiKs es) x = some k := by
      unfold ixK
      rw [List.findIdx?_eq_some_iff_getElem]
      refine ⟨by rw [HL.out]; exact hk, by simpa [fiKs] using h1, fun j hj => ?_⟩
      have := h2 j (by omega) hj
      simpa [fiKs] using this
    unfold atK
    rw [this])
  have HD : Hid ((∀ j (hj : j < es.length), (es[j].nm.toList == x.toList) = false) → atK (fiKs es) x = -1) := Lib.hid (fun h2 => by
    have : ixK (fiKs es) x = none := by
      unfold ixK
      rw [List.findIdx?_eq_none_iff]
      intro k hk
      obtain ⟨s, hs, rfl⟩ := List.mem_map.1 hk
      obtain ⟨j, hj, rfl⟩ := List.getElem_of_mem hs
      exact h2 j hj
    unfold atK
    rw [this])
  generalize atK (fiKs es) x = R at HX HD ⊢
  go_enter Try.func92, Try.ntmps92
  go_wp2
  go_loop [5] (fun i => ∃ k : Nat, k ≤ es.length ∧ i = .int .i64 (k : Int) ∧ Hid (∀ j (hj : j < es.length), j < k → (es[j].nm.toList == x.toList) = false)) (fun i => es.length - (intOf i).toNat)
  case atStart => exact ⟨0, Nat.zero_le _, rfl, Lib.hid (fun j hj h => by omega)⟩
  case round =>
    obtain ⟨k, hk, rfl, HO⟩ := hrel
    by_cases hlt : k < es.length
    · obtain ⟨a', cap', hv, _, _, hc⟩ := HI.out.raw
      cases hv
      obtain ⟨b, off, rfl, hb, hr⟩ := hc k hlt
      obtain ⟨c0, c1, _, _⟩ := hr k hlt
      have HK := Lib.hid (HX.out k hlt)
      have HN : Hid ((es[k].nm.toList == x.toList) = false → ∀ j (hj : j < es.length), j < k + 1 → (es[j].nm.toList == x.toList) = false) := Lib.hid (fun h j hj hjk => by
        by_cases e : j = k
        · subst e; exact h
        · exact HO.out j hj (by omega))
      obtain ⟨U, hU⟩ : ∃ U, U = es[k].nm := ⟨_, rfl⟩
      rw [← hU] at c0 HK HN
      clear hr hc hU c1
      obtain ⟨e, he⟩ : ∃ e, (U.toList == x.toList) = e := ⟨_, rfl⟩
      rw [he] at HK HN
      cases e with
      | true =>
        have HZ : Hid (R = (k : Int)) := Lib.hid (HK.out rfl HO.out)
        go_wp2
        go_ret
        exact ⟨ret_int HZ.out.symm, Below.refl _ _⟩
      | false =>
        have HO' := Lib.hid (HN.out rfl)
        go_wp2
        refine ⟨⟨k + 1, by omega, by simp, HO'⟩, ?_⟩
        simp [intOf]; omega
    · have HZ : Hid (R = -1) := Lib.hid (HD.out (fun j hj => HO.out j hj (by omega)))
      go_wp2
      go_ret
      exact ⟨ret_int HZ.out.symm, Below.refl _ _⟩

set_option maxRecDepth 100000 in
set_option maxHeartbeats 1600000 in
theorem l14Same_any (u v : Value) (xs ys : List Fi) (w : World) (h : FiAt w w.heap.size u xs) (h' : FiAt w w.heap.size v ys) :
    Calls Try.prog 126 #[u, v] w fun e w' => e = .returned (.bool (fqB xs ys)) ∧ Below w.heap.size w w' := by
  have HI := Lib.hid h
  have HJ := Lib.hid h'
  obtain ⟨a, cap, rfl, hl, hm, hc⟩ := h.raw
  obtain ⟨a2, cap2, rfl, hl2, hm2, hc2⟩ := h'.raw
  clear hc h hc2 h'
  unfold maxLen at hm hm2
  by_cases hlen : xs.length = ys.length
  · have hd : (xs.length : Int) = (ys.length : Int) := by omega
    have HX : Hid (∀ k, k < xs.length → fqO xs ys k = false → fqB xs ys = false) := Lib.hid (fun k hk h => by unfold fqB; rw [allB_out k hk h, Bool.and_false])
    have HD : Hid (∀ k, ¬ k < xs.length → (∀ j, j < k → fqO xs ys j = true) → fqB xs ys = true) := Lib.hid (fun k hk h => by unfold fqB; rw [allB_end k hk h, decide_eq_true hlen]; rfl)
    generalize fqB xs ys = R at HX HD ⊢
    have HY : Hid (ys.length = xs.length) := Lib.hid hlen.symm
    rw [← hlen] at hl2 ⊢
    clear hlen hd
    go_enter Try.func126, Try.ntmps126
    go_wp2
    go_loopw [5] (fun i wr => ∃ k : Nat, k ≤ xs.length ∧ i = .int .i64 (k : Int) ∧ Below w.heap.size w wr ∧ Hid (∀ j, j < k → fqO xs ys j = true)) (fun i _ => xs.length - (intOf i).toNat)
    case atStart => exact ⟨0, Nat.zero_le _, rfl, Below.refl _ _, Lib.hid (fun j hj => by omega)⟩
    case round =>
      obtain ⟨k, hk, rfl, hB, HO⟩ := hrel
      have HBn : Hid (∀ n, Below w.heap.size w (wr.drewN n)) := Lib.hid (fun n => below_drewN hB n)
      by_cases hlt : k < xs.length
      · obtain ⟨a', cap', hv, _, _, hc⟩ := (HI.out.below hB).raw
        cases hv
        obtain ⟨b, off, rfl, hb, hr⟩ := hc k hlt
        obtain ⟨c0, c1, _, _⟩ := hr k hlt
        obtain ⟨a', cap', hv, _, _, hc'⟩ := (HJ.out.below hB).raw
        rw [HY.out] at hv
        cases hv
        have hlt2 : k < ys.length := by rw [HY.out]; exact hlt
        obtain ⟨b2, off2, rfl, hb2, hr2⟩ := hc' k hlt2
        obtain ⟨e0, e1, _, _⟩ := hr2 k hlt2
        have HK := Lib.hid (fqO_at xs ys k hlt hlt2)
        obtain ⟨S0, hS0⟩ : ∃ x, x = xs[k].nm := ⟨_, rfl⟩
        obtain ⟨S1, hS1⟩ : ∃ x, x = xs[k].da := ⟨_, rfl⟩
        obtain ⟨T0, hT0⟩ : ∃ x, x = ys[k].nm := ⟨_, rfl⟩
        obtain ⟨T1, hT1⟩ : ∃ x, x = ys[k].da := ⟨_, rfl⟩
        unfold fiQ at HK
        rw [← hS0] at c0 HK
        rw [← hS1] at c1 HK
        rw [← hT0] at e0 HK
        rw [← hT1] at e1 HK
        clear hr hc hr2 hc' hS0 hS1 hT0 hT1 hB
        obtain ⟨Q1, hQ1⟩ : ∃ Q, (S0.toList == T0.toList) = Q := ⟨_, rfl⟩
        obtain ⟨Q2, hQ2⟩ : ∃ Q, (S1.toList == T1.toList) = Q := ⟨_, rfl⟩
        rw [hQ1, hQ2] at HK
        have hE : ∀ w, (Op.equalIn 10000 167 (fiV S0 S1) (fiV T0 T1)).run Try.prog w = .ok (Q1 && Q2) w := fun w => by rw [Try.eqFile, hQ1, hQ2]
        have hG := Try.gdFile
        clear hQ1 hQ2
        obtain ⟨Q, hQ⟩ : ∃ Q, (Q1 && Q2) = Q := ⟨_, rfl⟩
        rw [hQ] at HK hE
        clear hQ
        cases Q with
        | false =>
          have HZ : Hid (R = false) := Lib.hid (HX.out k hlt HK.out)
          go_wp2
          go_quiet (fail)
          go_wp2
          go_ret
          exact ⟨ret_bool HZ.out.symm, HBn.out _⟩
        | true =>
          have HO' : Hid (∀ j, j < k + 1 → fqO xs ys j = true) := Lib.hid (fun j hj => by
            by_cases hjk : j = k
            · subst hjk; exact HK.out
            · exact HO.out j (by omega))
          go_wp2
          go_quiet (fail)
          go_wp2
          go_roundw
          case rel => exact ⟨k + 1, by omega, by go_num, HBn.out _, HO'⟩
          case measure => simp [intOf]; omega
      · have HZ : Hid (R = true) := Lib.hid (HD.out k hlt HO.out)
        go_wp2
        go_ret
        exact ⟨ret_bool HZ.out.symm, hB⟩
  · have hd : ¬ (xs.length : Int) = (ys.length : Int) := by omega
    have HZ : Hid (fqB xs ys = false) := Lib.hid (by unfold fqB; rw [decide_eq_false hlen]; rfl)
    rw [HZ.out]
    go_enter Try.func126, Try.ntmps126
    go_wp2
    go_ret
    exact ⟨rfl, Below.refl _ _⟩

end Go.Proofs.Ytffkakpbelknaaa

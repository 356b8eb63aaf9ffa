/- Contracts: what the laws do with lists of whole numbers (hold two against each other, copy, mark, look at the marks). -/
import Derived.Test.YtbjcgcjdlnoejabRows1
namespace Go.Proofs.Ytbjcgcjdlnoejab
open Go.ChangeShapes Go.WideShapes Go.ChangeAt Go.RowKit

theorem take_eq_step {xs ys : List Int} {k : Nat} (h1 : k < xs.length) (h2 : k < ys.length) (h : xs.take k = ys.take k) (hx : xs[k] = ys[k]) : xs.take (k + 1) = ys.take (k + 1) := by
  rw [List.take_succ_eq_append_getElem h1, List.take_succ_eq_append_getElem h2, h, hx]
theorem eq_of_take {xs ys : List Int} (k : Nat) (h1 : xs.length ≤ k) (h2 : ys.length ≤ k) (h : xs.take k = ys.take k) : xs = ys := by
  rwa [List.take_of_length_le h1, List.take_of_length_le h2] at h
theorem ne_of_at {xs ys : List Int} (k : Nat) (h1 : k < xs.length) (h2 : k < ys.length) (h : xs[k] ≠ ys[k]) : xs ≠ ys := by
  intro e; subst e; exact h rfl
theorem RowCell {k : IntKind} {w wr : World} {zs : List Int} {b off i : Nat} (hr : ∀ i, i < zs.length → w.cell? ⟨b, off + i, none⟩ = some (.int k (zs.getD i 0))) (hcell : ∀ p, wr.cell? p = w.cell? p) (hi : i < zs.length) :
    wr.cell? ⟨b, off + i, none⟩ = some (.int k zs[i]) := by rw [hcell, hr i hi]; simp [hi]

set_option maxHeartbeats 800000 in
theorem eqInts_any (v1 v2 : Value) (xs ys : List Int) (B1 B2 : Nat) (w : World) (h1 : RowAt .i64 w B1 v1 xs) (h2 : RowAt .i64 w B2 v2 ys) :
    Calls Try.prog 22 #[v1, v2] w fun e w' => e = .returned (.bool (decide (xs = ys))) ∧ Below w.heap.size w w' := by
  obtain ⟨a1, cap1, rfl, hl1, hm1, hc1⟩ := h1
  obtain ⟨a2, cap2, rfl, hl2, hm2, hc2⟩ := h2
  unfold maxLen at hm1 hm2
  have HC1 := Lib.hid hc1
  have HC2 := Lib.hid hc2
  clear hc1 hc2
  by_cases hne : xs.length = ys.length
  · have hd : ((xs.length : Int) != (ys.length : Int)) = false := by simp [hne]
    have HN := Lib.hid hne
    clear hne
    go_enter Try.func22, Try.ntmps22
    go_wp2
    go_loopw [5] (fun i wr => ∃ k : Nat, k ≤ xs.length ∧ i = .int .i64 k ∧ Hid (xs.take k = ys.take k) ∧ Hid (∀ p, wr.cell? p = w.cell? p) ∧ Below w.heap.size w wr)
      (fun i _ => xs.length - (intOf i).toNat)
    case atStart => exact ⟨0, Nat.zero_le _, rfl, Lib.hid rfl, Lib.hid (fun _ => rfl), Below.refl _ _⟩
    case round =>
      obtain ⟨k, hk, rfl, hso, hcell, hbel⟩ := hrel
      by_cases hlt : k < xs.length
      · have hlt2 : k < ys.length := by have := HN.out; omega
        obtain ⟨b1, o1, rfl, hb1, hr1⟩ := HC1.out k hlt
        obtain ⟨b2, o2, rfl, hb2, hr2⟩ := HC2.out k hlt2
        have c1 := RowCell hr1 hcell.out hlt
        have c2 := RowCell hr2 hcell.out hlt2
        clear hr1 hr2
        by_cases hx : xs[k] = ys[k]
        · have hd2 : (xs[k] != ys[k]) = false := by simp [hx]
          have HX := Lib.hid hx
          clear hx
          go_wp2
          go_quiet (fail)
          go_wp2
          go_roundw
          case rel => exact ⟨k + 1, by omega, by go_num, Lib.hid (take_eq_step hlt hlt2 hso.out HX.out), hcell, below_drewN hbel _⟩
          case measure => simp [intOf]; omega
        · have hd2 : (xs[k] != ys[k]) = true := by simp [hx]
          have HX := Lib.hid (ne_of_at k hlt hlt2 hx)
          clear hx
          go_wp2
          go_quiet (fail)
          go_wp2
          go_ret
          exact ⟨ret_bool (by simp [HX.out]), below_drewN hbel _⟩
      · go_wp2
        go_ret
        have := eq_of_take k (by omega) (by have := HN.out; omega) hso.out
        exact ⟨ret_bool (by simp [this]), hbel⟩
  · have hd : ((xs.length : Int) != (ys.length : Int)) = true := by simp; omega
    have HN : Hid (xs ≠ ys) := Lib.hid (fun e => hne (by rw [e]))
    clear hne
    go_enter Try.func22, Try.ntmps22
    go_wp2
    go_ret
    exact ⟨ret_bool (by simp [HN.out]), Below.refl _ _⟩

set_option maxHeartbeats 800000 in
theorem sameInts_any (v1 v2 : Value) (xs ys : List Int) (B1 B2 : Nat) (w : World) (h1 : RowAt .i64 w B1 v1 xs) (h2 : RowAt .i64 w B2 v2 ys) :
    Calls Try.prog 12 #[v1, v2] w fun e w' => e = .returned (.bool (decide (xs = ys))) ∧ Below w.heap.size w w' := by
  obtain ⟨a1, cap1, rfl, hl1, hm1, hc1⟩ := h1
  obtain ⟨a2, cap2, rfl, hl2, hm2, hc2⟩ := h2
  unfold maxLen at hm1 hm2
  have HC1 := Lib.hid hc1
  have HC2 := Lib.hid hc2
  clear hc1 hc2
  by_cases hne : xs.length = ys.length
  · have hd : ((xs.length : Int) != (ys.length : Int)) = false := by simp [hne]
    have HN := Lib.hid hne
    clear hne
    go_enter Try.func12, Try.ntmps12
    go_wp2
    go_loopw [5] (fun i wr => ∃ k : Nat, k ≤ xs.length ∧ i = .int .i64 k ∧ Hid (xs.take k = ys.take k) ∧ Hid (∀ p, wr.cell? p = w.cell? p) ∧ Below w.heap.size w wr)
      (fun i _ => xs.length - (intOf i).toNat)
    case atStart => exact ⟨0, Nat.zero_le _, rfl, Lib.hid rfl, Lib.hid (fun _ => rfl), Below.refl _ _⟩
    case round =>
      obtain ⟨k, hk, rfl, hso, hcell, hbel⟩ := hrel
      by_cases hlt : k < xs.length
      · have hlt2 : k < ys.length := by have := HN.out; omega
        obtain ⟨b1, o1, rfl, hb1, hr1⟩ := HC1.out k hlt
        obtain ⟨b2, o2, rfl, hb2, hr2⟩ := HC2.out k hlt2
        have c1 := RowCell hr1 hcell.out hlt
        have c2 := RowCell hr2 hcell.out hlt2
        clear hr1 hr2
        by_cases hx : xs[k] = ys[k]
        · have hd2 : (xs[k] != ys[k]) = false := by simp [hx]
          have HX := Lib.hid hx
          clear hx
          go_wp2
          go_quiet (fail)
          go_wp2
          go_roundw
          case rel => exact ⟨k + 1, by omega, by go_num, Lib.hid (take_eq_step hlt hlt2 hso.out HX.out), hcell, below_drewN hbel _⟩
          case measure => simp [intOf]; omega
        · have hd2 : (xs[k] != ys[k]) = true := by simp [hx]
          have HX := Lib.hid (ne_of_at k hlt hlt2 hx)
          clear hx
          go_wp2
          go_quiet (fail)
          go_wp2
          go_ret
          exact ⟨ret_bool (by simp [HX.out]), below_drewN hbel _⟩
      · go_wp2
        go_ret
        have := eq_of_take k (by omega) (by have := HN.out; omega) hso.out
        exact ⟨ret_bool (by simp [this]), hbel⟩
  · have hd : ((xs.length : Int) != (ys.length : Int)) = true := by simp; omega
    have HN : Hid (xs ≠ ys) := Lib.hid (fun e => hne (by rw [e]))
    clear hne
    go_enter Try.func12, Try.ntmps12
    go_wp2
    go_ret
    exact ⟨ret_bool (by simp [HN.out]), Below.refl _ _⟩

set_option maxHeartbeats 800000 in
theorem toInts_any (v : Value) (xs : List Int) (B : Nat) (w : World) (h : RowAt .i64 w B v xs) (hn : xs.length ≤ 100000000) :
    Calls Try.prog 21 #[v] w fun e w' => ∃ v', e = .returned v' ∧ OwnK 2 .i64 w' w.heap.size v' xs ∧ Below w.heap.size w w' := by
  obtain ⟨a, cap, rfl, hl, hm, hc⟩ := h
  unfold maxLen at hm
  have HC := Lib.hid hc
  clear hc
  go_enter Try.func21, Try.ntmps21
  go_wp2_with (at_make; refine wpList_fullK Try.underlying24 Try.infoI64 (by decide) rfl _ _ rfl w.heap.size .i64 .i64 xs.length rfl rfl (by omega) (Nat.le_refl _) ?_; intro w0 hown0 hb0)
  go_loopw [4] (fun i wr => ∃ k : Nat, k ≤ xs.length ∧ i = .int .i64 k ∧ OwnK 2 .i64 wr w.heap.size (.slice (some ⟨w.heap.size, 0, none⟩) xs.length xs.length) (xs.take k ++ List.replicate (xs.length - k) 0) ∧ Below w.heap.size w wr)
    (fun i _ => xs.length - (intOf i).toNat)
  case atStart => exact ⟨0, Nat.zero_le _, rfl, by simpa using hown0, hb0⟩
  case round =>
    obtain ⟨k, hk, rfl, hown, hbel⟩ := hrel
    clear hown0 hb0
    by_cases hlt : k < xs.length
    · obtain ⟨b, o, rfl, hb, hr⟩ := HC.out k hlt
      have hbw : b < w.heap.size := World.block_lt_of_cell? w _ (hr k hlt)
      have c1 : wr.cell? ⟨b, o + k, none⟩ = some (.int .i64 xs[k]) := by rw [hbel.cell (p := ⟨b, o + k, none⟩) hbw, hr k hlt]; simp [hlt]
      have hlen : (xs.take k ++ List.replicate (xs.length - k) 0).length = xs.length := by simp; omega
      have hf := hown.free hlen.symm k
      obtain ⟨u, hcl⟩ := hown.cell hlen.symm k hlt
      have hown2 := hown.set hlen.symm k (xs.getD k 0)
      rw [set_copy xs k hlt] at hown2
      have hg : xs.getD k 0 = xs[k] := by simp [hlt]
      rw [hg] at hown2
      have hb2 := hbel.setCell (p := ⟨w.heap.size, k, none⟩) (Nat.le_refl _) (.int .i64 xs[k])
      clear hown hr hlen hg
      go_wp2
      go_roundw
      case rel => exact ⟨k + 1, by omega, by go_num, hown2, hb2⟩
      case measure => simp [intOf]; omega
    · go_wp2
      go_ret
      have : k = xs.length := by omega
      subst this
      simp only [List.take_length, Nat.sub_self, List.replicate_zero, List.append_nil] at hown
      exact ⟨_, rfl, hown, hbel⟩

set_option maxHeartbeats 800000 in
/-- The marks are laid one by one; nothing below the row's base turns. -/
theorem markInts_any (v : Value) (xs : List Int) (base : Nat) (m : Int) (w : World) (h : OwnK 2 .i64 w base v xs) (hm0 : 0 ≤ m) (hm1 : m ≤ 100000000) (hn : xs.length ≤ 100000000) :
    Calls Try.prog 23 #[v, .int .i64 m] w fun e w' => e = .returned (.int .i64 (m + xs.length)) ∧ OwnK 2 .i64 w' base v (marks m xs.length) ∧ Below base w w' := by
  by_cases hnil : xs = []
  · subst hnil
    obtain ⟨a, cap, rfl, hl, hm, hc⟩ := h.row
    unfold maxLen at hm
    clear hc
    have h' := h
    have H := Lib.hid h'
    clear h h'
    go_enter Try.func23, Try.ntmps23
    go_wp2
    refine wp_loop_rounds 1 ?_
    rw [rounds_succ]
    go_wp2
    go_ret
    exact ⟨ret_int (by simp), H.out, Below.refl _ _⟩
  · obtain ⟨g, cap, rfl, hbg, hlt, hfz⟩ := h.form hnil
    have hmx := h.len
    unfold maxLen at hmx
    clear hfz
    go_enter Try.func23, Try.ntmps23
    go_wp2
    go_loopw [1, 5] (fun c i wr => ∃ k : Nat, k ≤ xs.length ∧ i = .int .i64 k ∧ c = .int .i64 (m + k) ∧ OwnK 2 .i64 wr base (.slice (some ⟨g, 0, none⟩) xs.length cap) (marks m k ++ xs.drop k) ∧ Below base w wr)
      (fun _ i _ => xs.length - (intOf i).toNat)
    case atStart => exact ⟨0, Nat.zero_le _, rfl, by simp, by simpa [marks] using h, Below.refl _ _⟩
    case round =>
      obtain ⟨k, hk, rfl, rfl, hown, hbel⟩ := hrel
      clear h
      by_cases hlt : k < xs.length
      · have hlen : (marks m k ++ xs.drop k).length = xs.length := by simp [marks_len]; omega
        have hf := hown.free hlen.symm k
        obtain ⟨u, hcl⟩ := hown.cell hlen.symm k hlt
        have hown2 := hown.set hlen.symm k (m + k)
        rw [marks_set m xs k hlt] at hown2
        have hb2 := hbel.setCell (p := ⟨g, k, none⟩) hbg (.int .i64 (m + k))
        clear hown hlen
        go_wp2
        go_roundw
        case rel => exact ⟨k + 1, by omega, by go_num, by simp; omega, hown2, hb2⟩
        case measure => simp [intOf]; omega
      · go_wp2
        go_ret
        have : k = xs.length := by omega
        subst this
        simp only [List.drop_length, List.append_nil] at hown
        exact ⟨rfl, hown, hbel⟩

set_option maxHeartbeats 800000 in
theorem heldInts_any (v : Value) (n B : Nat) (m : Int) (w : World) (h : RowAt .i64 w B v (marks m n)) (hm0 : 0 ≤ m) (hm1 : m ≤ 100000000) (hn : n ≤ 100000000) :
    Calls Try.prog 24 #[v, .int .i64 m] w fun e w' => e = .returned (.int .i64 (m + n)) ∧ w = w' := by
  obtain ⟨a, cap, rfl, hl, hmx, hc⟩ := h
  rw [marks_len] at *
  unfold maxLen at hmx
  have HC := Lib.hid hc
  clear hc
  go_enter Try.func24, Try.ntmps24
  go_wp2
  go_loop [1, 5] (fun c i => ∃ k : Nat, k ≤ n ∧ i = .int .i64 k ∧ c = .int .i64 (m + k)) (fun _ i => n - (intOf i).toNat)
  case atStart => exact ⟨0, Nat.zero_le _, rfl, by simp⟩
  case round =>
    obtain ⟨k, hk, rfl, rfl⟩ := hrel
    by_cases hlt : k < n
    · obtain ⟨b, o, rfl, hb, hr⟩ := HC.out k hlt
      have c1 : w.cell? ⟨b, o + k, none⟩ = some (.int .i64 (m + k)) := by rw [hr k hlt, marks_get m n k hlt]
      clear hr
      go_wp2
      go_round
      case rel => exact ⟨k + 1, by omega, by go_num, by simp; omega⟩
      case measure => simp [intOf]; omega
    · go_wp2
      go_ret
      exact ⟨ret_int (by omega), rfl⟩
end Go.Proofs.Ytbjcgcjdlnoejab

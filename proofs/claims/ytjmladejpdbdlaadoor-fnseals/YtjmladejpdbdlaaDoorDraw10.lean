/- What the law on seals draws. -/
import Derived.Test.YtjmladejpdbdlaaDoorDraw4
import Derived.Test.YtjmladejpdbdlaaDoorW4d
namespace Go.Proofs.YtjmladejpdbdlaaDoor
open Go.ChangeShapes Go.WideShapes Go.ChangeAt Go.RowKit
set_option linter.unusedVariables false

theorem small_max10 {n : Nat} (h : n ≤ 1000000) : n ≤ maxLen := by unfold maxLen; omega
theorem slR_size (k n wi t : ByteArray) : (slR k n wi t).size ≤ t.size + 16 := by
  unfold slR
  split
  · unfold sealB
    have := tagR_size (sealKey k n) (sealTx wi (strB k n 1 t))
    rw [ByteArray.size_append, strB_size]
    show t.size + (sealT k n wi (strB k n 1 t)).size ≤ _
    unfold sealT
    omega
  · show 0 ≤ _; omega

set_option maxRecDepth 100000 in
set_option maxHeartbeats 800000 in
theorem drawSealed_any (w : World) (cv : Value) (zs : List Int) (h : Cd w cv zs) :
    Calls Tryd.prog 45 #[cv] w fun e w' => ∃ k n wi t : ByteArray, e = .returned (.tuple #[.string k, .string n, .string wi, .string t]) ∧ k.size ≤ 32 ∧ n.size ≤ 12 ∧ wi.size ≤ 20 ∧ t.size ≤ 40 ∧ Below w.heap.size w w' := by
  obtain ⟨a, len, cap, hcv⟩ := h.form
  have HV := Lib.hid hcv
  clear hcv
  go_enter Tryd.func45, Tryd.ntmps45
  go_wp2_with fail
  refine (open_any cv a len cap HV.out _).mono ?_
  rintro e w1 ⟨rfl, rfl⟩
  go_wp2_with fail
  refine (exact_any 32 _ _ cv zs _ h.rd (by omega)).mono ?_
  rintro e w3 ⟨k, rfl, hk, hr3, hg3⟩
  go_wp2_with fail
  refine (exact_any 12 _ _ cv zs _ hr3 (by omega)).mono ?_
  rintro e w4 ⟨n, rfl, hn, hr4, hg4⟩
  go_wp2_with fail
  refine (bytes_any 20 _ _ cv zs _ hr4 (by omega)).mono ?_
  rintro e w5 ⟨wi, rfl, hwi, hr5, hg5⟩
  go_wp2_with fail
  refine (bytes_any 40 _ _ cv zs _ hr5 (by omega)).mono ?_
  rintro e w6 ⟨t, rfl, ht, hr6, hg6⟩
  go_wp2
  refine bodyPost_ret (v := .tuple #[.string k, .string n, .string wi, .string t]) ?_ rfl ?_
  · simp [results, Tryd.results45, go_sem]
  · exact ⟨k, n, wi, t, rfl, hk, hn, hwi, ht, below_open (grown_trans (grown_trans (grown_trans hg3 hg4) hg5) hg6)⟩

set_option maxRecDepth 100000 in
set_option maxHeartbeats 800000 in
theorem drawOpened_any (w : World) (cv : Value) (zs : List Int) (h : Cd w cv zs) :
    Calls Tryd.prog 47 #[cv] w fun e w' => ∃ k n wi t : ByteArray, e = .returned (.tuple #[.string k, .string n, .string wi, .string t]) ∧ k.size ≤ 32 ∧ n.size ≤ 12 ∧ wi.size ≤ 20 ∧ t.size ≤ 100 ∧ Below w.heap.size w w' := by
  obtain ⟨a, len, cap, hcv⟩ := h.form
  have HV := Lib.hid hcv
  clear hcv
  go_enter Tryd.func47, Tryd.ntmps47
  go_wp2_with fail
  refine (open_any cv a len cap HV.out _).mono ?_
  rintro e w1 ⟨rfl, rfl⟩
  have hb1 : Below w.heap.size w (w.alloc (.cells #[cv, .int .i64 0] 82)) := (Below.refl _ _).alloc (Nat.le_refl _) _
  have hcd1 := h.below hb1
  go_wp2_with fail
  refine (drawSealed_any _ cv zs hcd1).mono ?_
  rintro e w2 ⟨k, n, wi, t, rfl, hk, hn, hwi, ht, hb2⟩
  have hr2 := h.rd.below hb2 h.rd.lt
  have hg2 := grown_below (World.grownBy.refl _ (some w.heap.size)) hb2 (Nat.le_refl _)
  have hss := slR_size k n wi t
  have HS := Lib.hid (fun w => specSealed_any k n wi t w (small_max10 (by omega)) (small_max10 (by omega)) (small_max10 (by omega)) (small_max10 (by omega)))
  obtain ⟨S, hS⟩ : ∃ S, S = slR k n wi t := ⟨_, rfl⟩
  rw [← hS] at hss HS
  clear hS hb1 hcd1 hb2
  go_wp2_with fail
  refine (HS.out _).mono ?_
  rintro e w5 ⟨rfl, hb5⟩
  have hr5 := hr2.below hb5 hr2.lt
  have hg5 := grown_below hg2 hb5 hg2.size
  clear hb5
  go_wp2_with fail
  refine (once_any 2 _ _ cv zs _ hr5 (by omega) (by omega)).mono ?_
  rintro e w6 ⟨b, rfl, hr6, hg6⟩
  cases b with
  | true =>
    go_wp2
    refine bodyPost_ret (v := .tuple #[.string k, .string n, .string wi, .string S]) ?_ rfl ?_
    · simp [results, Tryd.results47, go_sem]
    · exact ⟨k, n, wi, S, rfl, hk, hn, hwi, by omega, below_open (grown_trans hg5 hg6)⟩
  | false =>
    go_wp2_with fail
    refine (hurt_any S _ _ cv zs _ hr6 (by omega)).mono ?_
    rintro e w7 ⟨Q, rfl, hQ, hr7, hg7⟩
    go_wp2
    refine bodyPost_ret (v := .tuple #[.string k, .string n, .string wi, .string Q]) ?_ rfl ?_
    · simp [results, Tryd.results47, go_sem]
    · exact ⟨k, n, wi, Q, rfl, hk, hn, hwi, by omega, below_open (grown_trans (grown_trans hg5 hg6) hg7)⟩
end Go.Proofs.YtjmladejpdbdlaaDoor

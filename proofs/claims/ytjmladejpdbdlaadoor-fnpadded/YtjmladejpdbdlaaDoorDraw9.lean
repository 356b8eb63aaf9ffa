/- What the law on padded texts draws. -/
import Derived.Test.YtjmladejpdbdlaaDoorDraw4
import Derived.Test.YtjmladejpdbdlaaDoorW4a
namespace Go.Proofs.YtjmladejpdbdlaaDoor
open Go.ChangeShapes Go.WideShapes Go.ChangeAt Go.RowKit
set_option linter.unusedVariables false

set_option maxRecDepth 100000 in
set_option maxHeartbeats 800000 in
theorem drawPadded_any (w : World) (cv : Value) (zs : List Int) (h : Cd w cv zs) :
    Calls Tryd.prog 37 #[cv] w fun e w' => ∃ (s : ByteArray) (n : Int), e = .returned (.tuple #[.string s, .int .i64 n]) ∧ s.size ≤ 20 ∧ (Lit.int .i64 n).wf = true ∧ Below w.heap.size w w' := by
  obtain ⟨a, len, cap, hcv⟩ := h.form
  have HV := Lib.hid hcv
  clear hcv
  go_enter Tryd.func37, Tryd.ntmps37
  go_wp2_with fail
  refine (open_any cv a len cap HV.out _).mono ?_
  rintro e w1 ⟨rfl, rfl⟩
  go_wp2_with fail
  refine (bytes_any 20 _ _ cv zs _ h.rd (by omega)).mono ?_
  rintro e w3 ⟨s, rfl, hs, hr3, hg3⟩
  go_wp2_with fail
  refine (off_any 1 40 _ _ cv zs _ hr3 (by omega) (by omega) (by omega)).mono ?_
  rintro e w4 ⟨n, rfl, hn, hr4, hg4⟩
  go_wp2
  go_ret2
  exact ⟨s, n, rfl, hs, hn, below_open (grown_trans hg3 hg4)⟩

theorem padR_size (t : ByteArray) (n : Int) : (padR t n).size ≤ t.size + 257 := by
  unfold padR
  split
  · rename_i h
    rw [padT_size]
    have := room_lt (t.size + 1) n.toNat (by omega)
    omega
  · show 0 ≤ _; omega
theorem small_max9 {n : Nat} (h : n ≤ 1000000) : n ≤ maxLen := by unfold maxLen; omega

set_option maxRecDepth 100000 in
set_option maxHeartbeats 800000 in
theorem drawUnpadded_any (w : World) (cv : Value) (zs : List Int) (h : Cd w cv zs) :
    Calls Tryd.prog 39 #[cv] w fun e w' => ∃ s : ByteArray, e = .returned (.string s) ∧ s.size ≤ 1000 ∧ Below w.heap.size w w' := by
  obtain ⟨a, len, cap, hcv⟩ := h.form
  have HV := Lib.hid hcv
  clear hcv
  go_enter Tryd.func39, Tryd.ntmps39
  go_wp2_with fail
  refine (open_any cv a len cap HV.out _).mono ?_
  rintro e w1 ⟨rfl, rfl⟩
  go_wp2_with fail
  refine (bytes_any 9 _ _ cv zs _ h.rd (by omega)).mono ?_
  rintro e w3 ⟨s, rfl, hs, hr3, hg3⟩
  go_wp2_with fail
  refine (below_any 16 _ _ cv zs _ hr3 (by omega) (by omega)).mono ?_
  rintro e w4 ⟨n, rfl, hn0, hn1, hr4, hg4⟩
  have hps := padR_size s (1 + n)
  have HP := Lib.hid (fun w => specPadded_any s (1 + n) w (small_max9 (by omega)) (by simp [Lit.wf, IntKind.min, IntKind.max, IntKind.signed, IntKind.bits]; omega))
  obtain ⟨P, hP⟩ : ∃ P, P = padR s (1 + n) := ⟨_, rfl⟩
  rw [← hP] at hps HP
  clear hP
  go_wp2_with fail
  refine (HP.out _).mono ?_
  rintro e w5 ⟨rfl, hb5⟩
  have hr5 := hr4.below hb5 hr4.lt
  have hg5 := grown_below (grown_trans hg3 hg4) hb5 (by have := (grown_trans hg3 hg4).size; exact this)
  clear hb5
  go_wp2_with fail
  refine (once_any 2 _ _ cv zs _ hr5 (by omega) (by omega)).mono ?_
  rintro e w6 ⟨b, rfl, hr6, hg6⟩
  cases b with
  | true =>
    go_wp2
    go_ret
    exact ⟨P, rfl, by omega, below_open (grown_trans hg5 hg6)⟩
  | false =>
    go_wp2_with fail
    refine (hurt_any P _ _ cv zs _ hr6 (by omega)).mono ?_
    rintro e w7 ⟨Q, rfl, hQ, hr7, hg7⟩
    go_wp2
    go_ret
    exact ⟨Q, rfl, by omega, below_open (grown_trans (grown_trans hg5 hg6) hg7)⟩
end Go.Proofs.YtjmladejpdbdlaaDoor

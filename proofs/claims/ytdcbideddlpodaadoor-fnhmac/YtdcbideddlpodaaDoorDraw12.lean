/- What the laws on keys draw. -/
import Derived.Test.YtdcbideddlpodaaDoorDraw2
import Derived.WalkLawsBesides
namespace Go.Proofs.YtdcbideddlpodaaDoor
open Go.ChangeShapes Go.WideShapes Go.ChangeAt Go.RowKit
set_option linter.unusedVariables false

theorem drawHmac_any (w : World) (cv : Value) (zs : List Int) (h : Cd w cv zs) :
    Calls Tryd.prog 21 #[cv] w fun e w' => ∃ s t : ByteArray, e = .returned (.tuple #[.string s, .string t]) ∧ s.size ≤ 70 ∧ t.size ≤ 30 ∧ Below w.heap.size w w' := by
  obtain ⟨a, len, cap, hcv⟩ := h.form
  have HV := Lib.hid hcv
  clear hcv
  go_enter Tryd.func21, Tryd.ntmps21
  go_wp2_with fail
  refine (open_any cv a len cap HV.out _).mono ?_
  rintro e w1 ⟨rfl, rfl⟩
  go_wp2_with fail
  refine (bytes_any 20 _ _ cv zs _ h.rd (by omega)).mono ?_
  rintro e w2 ⟨s, rfl, hs, hr2, hg2⟩
  go_wp2_with fail
  refine (once_any 4 _ _ cv zs _ hr2 (by omega) (by omega)).mono ?_
  rintro e w3 ⟨b, rfl, hr3, hg3⟩
  cases b with
  | true =>
    go_wp2_with fail
    refine (below_any 10 _ _ cv zs _ hr3 (by omega) (by omega)).mono ?_
    rintro e w4 ⟨n, rfl, hn0, hn9, hr4, hg4⟩
    obtain ⟨n', rfl⟩ := Int.eq_ofNat_of_zero_le hn0
    go_wp2_with fail
    have hE := exact_any (60 + n') _ _ cv zs _ hr4 (by omega)
    rw [show ((60 + n' : Nat) : Int) = 60 + (n' : Int) by omega] at hE
    refine hE.mono ?_
    rintro e w5 ⟨s2, rfl, hs2, hr5, hg5⟩
    go_wp2_with fail
    refine (bytes_any 30 _ _ cv zs _ hr5 (by omega)).mono ?_
    rintro e w6 ⟨t, rfl, ht, hr6, hg6⟩
    go_wp2
    go_ret2
    exact ⟨s2, t, rfl, by omega, ht, below_open (grown_trans hg2 (grown_trans hg3 (grown_trans hg4 (grown_trans hg5 hg6))))⟩
  | false =>
    go_wp2_with fail
    refine (bytes_any 30 _ _ cv zs _ hr3 (by omega)).mono ?_
    rintro e w6 ⟨t, rfl, ht, hr6, hg6⟩
    go_wp2
    go_ret2
    exact ⟨s, t, rfl, by omega, ht, below_open (grown_trans hg2 (grown_trans hg3 hg6))⟩

theorem drawExpand_any (w : World) (cv : Value) (zs : List Int) (h : Cd w cv zs) :
    Calls Tryd.prog 24 #[cv] w fun e w' => ∃ (s t : ByteArray) (n : Int), e = .returned (.tuple #[.string s, .string t, .int .i64 n]) ∧ s.size ≤ 40 ∧ t.size ≤ 9 ∧ (Lit.int .i64 n).wf = true ∧ Below w.heap.size w w' := by
  obtain ⟨a, len, cap, hcv⟩ := h.form
  have HV := Lib.hid hcv
  clear hcv
  go_enter Tryd.func24, Tryd.ntmps24
  go_wp2_with fail
  refine (open_any cv a len cap HV.out _).mono ?_
  rintro e w1 ⟨rfl, rfl⟩
  go_wp2_with fail
  refine (bytes_any 40 _ _ cv zs _ h.rd (by omega)).mono ?_
  rintro e w2 ⟨s, rfl, hs, hr2, hg2⟩
  go_wp2_with fail
  refine (bytes_any 9 _ _ cv zs _ hr2 (by omega)).mono ?_
  rintro e w3 ⟨t, rfl, ht, hr3, hg3⟩
  go_wp2_with fail
  refine (off_any 0 80 _ _ cv zs _ hr3 (by omega) (by omega) (by omega)).mono ?_
  rintro e w4 ⟨n, rfl, hn, hr4, hg4⟩
  go_wp2
  refine bodyPost_ret (v := .tuple #[.string s, .string t, .int .i64 n]) ?_ rfl ?_
  · simp [results, Tryd.results24, go_sem]
  · exact ⟨s, t, n, rfl, hs, ht, hn, below_open (grown_trans hg2 (grown_trans hg3 hg4))⟩

theorem drawStretched_any (w : World) (cv : Value) (zs : List Int) (h : Cd w cv zs) :
    Calls Tryd.prog 27 #[cv] w fun e w' => ∃ (s t : ByteArray) (n : Int), e = .returned (.tuple #[.string s, .string t, .int .i64 n]) ∧ s.size ≤ 9 ∧ t.size ≤ 9 ∧ (Lit.int .i64 n).wf = true ∧ Below w.heap.size w w' := by
  obtain ⟨a, len, cap, hcv⟩ := h.form
  have HV := Lib.hid hcv
  clear hcv
  go_enter Tryd.func27, Tryd.ntmps27
  go_wp2_with fail
  refine (open_any cv a len cap HV.out _).mono ?_
  rintro e w1 ⟨rfl, rfl⟩
  go_wp2_with fail
  refine (bytes_any 9 _ _ cv zs _ h.rd (by omega)).mono ?_
  rintro e w2 ⟨s, rfl, hs, hr2, hg2⟩
  go_wp2_with fail
  refine (bytes_any 9 _ _ cv zs _ hr2 (by omega)).mono ?_
  rintro e w3 ⟨t, rfl, ht, hr3, hg3⟩
  go_wp2_with fail
  refine (off_any 1 5 _ _ cv zs _ hr3 (by omega) (by omega) (by omega)).mono ?_
  rintro e w4 ⟨n, rfl, hn, hr4, hg4⟩
  go_wp2
  refine bodyPost_ret (v := .tuple #[.string s, .string t, .int .i64 n]) ?_ rfl ?_
  · simp [results, Tryd.results27, go_sem]
  · exact ⟨s, t, n, rfl, hs, ht, hn, below_open (grown_trans hg2 (grown_trans hg3 hg4))⟩
end Go.Proofs.YtdcbideddlpodaaDoor

/- What the law on digests draws. -/
import Derived.Test.YtdcbideddlpodaaDoorDraw2
import Derived.WalkLawsBesides
namespace Go.Proofs.YtdcbideddlpodaaDoor
open Go.ChangeShapes Go.WideShapes Go.ChangeAt Go.RowKit
set_option linter.unusedVariables false

theorem drawShaPad_any (w : World) (cv : Value) (zs : List Int) (h : Cd w cv zs) :
    Calls Tryd.prog 13 #[cv] w fun e w' => ∃ s : ByteArray, e = .returned (.string s) ∧ s.size ≤ 130 ∧ Below w.heap.size w w' := by
  obtain ⟨a, len, cap, hcv⟩ := h.form
  have HV := Lib.hid hcv
  clear hcv
  go_enter Tryd.func13, Tryd.ntmps13
  go_wp2_with fail
  refine (open_any cv a len cap HV.out _).mono ?_
  rintro e w1 ⟨rfl, rfl⟩
  go_wp2_with fail
  refine (once_any 3 _ _ cv zs _ h.rd (by omega) (by omega)).mono ?_
  rintro e w2 ⟨b, rfl, hr2, hg2⟩
  cases b with
  | true =>
    go_wp2_with fail
    refine (below_any 13 _ _ cv zs _ hr2 (by omega) (by omega)).mono ?_
    rintro e w3 ⟨n, rfl, hn0, hn9, hr3, hg3⟩
    obtain ⟨n', rfl⟩ := Int.eq_ofNat_of_zero_le hn0
    go_wp2_with fail
    have hE := exact_any (53 + n') _ _ cv zs _ hr3 (by omega)
    rw [show ((53 + n' : Nat) : Int) = 53 + (n' : Int) by omega] at hE
    refine hE.mono ?_
    rintro e w4 ⟨s, rfl, hs, hr4, hg4⟩
    go_wp2
    go_ret
    exact ⟨s, rfl, by omega, below_open (grown_trans hg2 (grown_trans hg3 hg4))⟩
  | false =>
    go_wp2_with fail
    refine (bytes_any 130 _ _ cv zs _ hr2 (by omega)).mono ?_
    rintro e w3 ⟨s, rfl, hs, hr3, hg3⟩
    go_wp2
    go_ret
    exact ⟨s, rfl, hs, below_open (grown_trans hg2 hg3)⟩

theorem drawSha256_any (w : World) (cv : Value) (zs : List Int) (h : Cd w cv zs) :
    Calls Tryd.prog 11 #[cv] w fun e w' => ∃ s : ByteArray, e = .returned (.string s) ∧ s.size ≤ 130 ∧ Below w.heap.size w w' := by
  go_enter Tryd.func11, Tryd.ntmps11
  go_wp2_with fail
  refine (drawShaPad_any _ cv zs h).mono ?_
  rintro e w1 ⟨s, rfl, hs, hb⟩
  go_wp2
  go_ret
  exact ⟨s, rfl, hs, hb⟩

theorem drawShaStep_any (w : World) (cv : Value) (zs : List Int) (h : Cd w cv zs) :
    Calls Tryd.prog 14 #[cv] w fun e w' => ∃ s t : ByteArray, e = .returned (.tuple #[.string s, .string t]) ∧ s.size ≤ 32 ∧ t.size ≤ 64 ∧ Below w.heap.size w w' := by
  obtain ⟨a, len, cap, hcv⟩ := h.form
  have HV := Lib.hid hcv
  clear hcv
  go_enter Tryd.func14, Tryd.ntmps14
  go_wp2_with fail
  refine (open_any cv a len cap HV.out _).mono ?_
  rintro e w1 ⟨rfl, rfl⟩
  go_wp2_with fail
  refine (exact_any 32 _ _ cv zs _ h.rd (by omega)).mono ?_
  rintro e w3 ⟨s, rfl, hs, hr3, hg3⟩
  go_wp2_with fail
  refine (exact_any 64 _ _ cv zs _ hr3 (by omega)).mono ?_
  rintro e w4 ⟨t, rfl, ht, hr4, hg4⟩
  go_wp2
  go_ret2
  exact ⟨s, t, rfl, by omega, by omega, below_open (grown_trans hg3 hg4)⟩
end Go.Proofs.YtdcbideddlpodaaDoor

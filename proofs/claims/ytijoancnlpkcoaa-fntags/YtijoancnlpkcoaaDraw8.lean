/- What the laws on tags draw. -/
import Derived.Test.YtijoancnlpkcoaaDraw2
import Derived.WalkLawsBesides
import Derived.Laws.DeepStrings4
namespace Go.Proofs.Ytijoancnlpkcoaa
open Go.ChangeShapes Go.WideShapes Go.ChangeAt Go.RowKit
set_option linter.unusedVariables false

theorem drawTagOf_any (w : World) (cv : Value) (zs : List Int) (h : Cd w cv zs) :
    Calls Try.prog 19 #[cv] w fun e w' => ∃ s t : ByteArray, e = .returned (.tuple #[.string s, .string t]) ∧ s.size ≤ 32 ∧ t.size ≤ 40 ∧ Below w.heap.size w w' := by
  obtain ⟨a, len, cap, hcv⟩ := h.form
  have HV := Lib.hid hcv
  clear hcv
  go_enter Try.func19, Try.ntmps19
  go_wp2_with fail
  refine (open_any cv a len cap HV.out _).mono ?_
  rintro e w1 ⟨rfl, rfl⟩
  go_wp2_with fail
  refine (exact_any 32 _ _ cv zs _ h.rd (by omega)).mono ?_
  rintro e w3 ⟨s, rfl, hs, hr3, hg3⟩
  go_wp2_with fail
  refine (bytes_any 40 _ _ cv zs _ hr3 (by omega)).mono ?_
  rintro e w4 ⟨t, rfl, ht, hr4, hg4⟩
  go_wp2
  go_ret2
  exact ⟨s, t, rfl, hs, ht, below_open (grown_trans hg3 hg4)⟩
end Go.Proofs.Ytijoancnlpkcoaa

/- What the laws on streams draw. -/
import Derived.Test.YtijoancnlpkcoaaDraw2
import Derived.WalkLawsBesides
import Derived.Laws.DeepStrings4
namespace Go.Proofs.Ytijoancnlpkcoaa
open Go.ChangeShapes Go.WideShapes Go.ChangeAt Go.RowKit
set_option linter.unusedVariables false

theorem drawChaStream_any (w : World) (cv : Value) (zs : List Int) (h : Cd w cv zs) :
    Calls Try.prog 12 #[cv] w fun e w' => ∃ (k n : ByteArray) (c : Int) (t : ByteArray), e = .returned (.tuple #[.string k, .string n, .int .i64 c, .string t]) ∧ k.size ≤ 32 ∧ n.size ≤ 12 ∧ 0 ≤ c ∧ c < 9 ∧ t.size ≤ 90 ∧ Below w.heap.size w w' := by
  obtain ⟨a, len, cap, hcv⟩ := h.form
  have HV := Lib.hid hcv
  clear hcv
  go_enter Try.func12, Try.ntmps12
  go_wp2_with fail
  refine (open_any cv a len cap HV.out _).mono ?_
  rintro e w1 ⟨rfl, rfl⟩
  go_wp2_with fail
  refine (exact_any 32 _ _ cv zs _ h.rd (by omega)).mono ?_
  rintro e w2 ⟨k, rfl, hk, hr2, hg2⟩
  go_wp2_with fail
  refine (exact_any 12 _ _ cv zs _ hr2 (by omega)).mono ?_
  rintro e w3 ⟨n, rfl, hn, hr3, hg3⟩
  go_wp2_with fail
  refine (below_any 9 _ _ cv zs _ hr3 (by omega) (by omega)).mono ?_
  rintro e w4 ⟨c, rfl, hc0, hc1, hr4, hg4⟩
  go_wp2_with fail
  refine (bytes_any 90 _ _ cv zs _ hr4 (by omega)).mono ?_
  rintro e w5 ⟨t, rfl, ht, hr5, hg5⟩
  go_wp2
  exact bodyPost_ret (v := .tuple #[.string k, .string n, .int .i64 c, .string t]) (by simp [results, Try.results12, go_sem]) rfl ⟨k, n, c, t, rfl, hk, hn, hc0, hc1, ht, below_open (grown_trans hg2 (grown_trans hg3 (grown_trans hg4 hg5)))⟩

theorem drawChaBlock_any (w : World) (cv : Value) (zs : List Int) (h : Cd w cv zs) :
    Calls Try.prog 14 #[cv] w fun e w' => ∃ (k n : ByteArray) (c : Int), e = .returned (.tuple #[.string k, .string n, .int .i64 c]) ∧ k.size ≤ 32 ∧ n.size ≤ 12 ∧ Below w.heap.size w w' := by
  obtain ⟨a, len, cap, hcv⟩ := h.form
  have HV := Lib.hid hcv
  clear hcv
  go_enter Try.func14, Try.ntmps14
  go_wp2_with fail
  refine (open_any cv a len cap HV.out _).mono ?_
  rintro e w1 ⟨rfl, rfl⟩
  go_wp2_with fail
  refine (exact_any 32 _ _ cv zs _ h.rd (by omega)).mono ?_
  rintro e w2 ⟨k, rfl, hk, hr2, hg2⟩
  go_wp2_with fail
  refine (exact_any 12 _ _ cv zs _ hr2 (by omega)).mono ?_
  rintro e w3 ⟨n, rfl, hn, hr3, hg3⟩
  go_wp2_with fail
  refine (num_any _ _ cv zs _ hr3).mono ?_
  rintro e w4 ⟨c, rfl, hc, hr4, hg4⟩
  go_wp2
  exact bodyPost_ret (v := .tuple #[.string k, .string n, .int .i64 c]) (by simp [results, Try.results14, go_sem]) rfl ⟨k, n, c, rfl, hk, hn, below_open (grown_trans hg2 (grown_trans hg3 hg4))⟩
end Go.Proofs.Ytijoancnlpkcoaa

/- What the laws on words, digits and texts draw. -/
import Derived.Test.YtbjcgcjdlnoejaaDraw2
import Derived.Test.YtbjcgcjdlnoejaaW1c
namespace Go.Proofs.Ytbjcgcjdlnoejaa
open Go.ChangeShapes Go.WideShapes Go.ChangeAt Go.RowKit
set_option linter.unusedVariables false

theorem drawHex_any (w : World) (cv : Value) (zs : List Int) (h : Cd w cv zs) :
    Calls Try.prog 36 #[cv] w fun e w' => ∃ s : ByteArray, e = .returned (.string s) ∧ s.size ≤ 9 ∧ Below w.heap.size w w' := by
  obtain ⟨a, len, cap, hcv⟩ := h.form
  have HV := Lib.hid hcv
  clear hcv
  go_enter Try.func36, Try.ntmps36
  go_wp2_with fail
  refine (open_any cv a len cap HV.out _).mono ?_
  rintro e w1 ⟨rfl, rfl⟩
  go_wp2_with fail
  refine (bytes_any 9 _ _ cv zs _ h.rd (by omega)).mono ?_
  rintro e w2 ⟨s, rfl, hs, hr, hg⟩
  go_wp2
  go_ret
  exact ⟨s, rfl, hs, below_open hg⟩

theorem drawXor_any (w : World) (cv : Value) (zs : List Int) (h : Cd w cv zs) :
    Calls Try.prog 38 #[cv] w fun e w' => ∃ s t : ByteArray, e = .returned (.tuple #[.string s, .string t]) ∧ s.size ≤ 9 ∧ t.size ≤ 9 ∧ Below w.heap.size w w' := by
  obtain ⟨a, len, cap, hcv⟩ := h.form
  have HV := Lib.hid hcv
  clear hcv
  go_enter Try.func38, Try.ntmps38
  go_wp2_with fail
  refine (open_any cv a len cap HV.out _).mono ?_
  rintro e w1 ⟨rfl, rfl⟩
  go_wp2_with fail
  refine (below_any 9 _ _ cv zs _ h.rd (by omega) (by omega)).mono ?_
  rintro e w2 ⟨n, rfl, hn0, hn9, hr2, hg2⟩
  obtain ⟨n', rfl⟩ := Int.eq_ofNat_of_zero_le hn0
  go_wp2_with fail
  refine (exact_any n' _ _ cv zs _ hr2 (by omega)).mono ?_
  rintro e w3 ⟨s, rfl, hs, hr3, hg3⟩
  go_wp2_with fail
  refine (exact_any n' _ _ cv zs _ hr3 (by omega)).mono ?_
  rintro e w4 ⟨t, rfl, ht, hr4, hg4⟩
  go_wp2
  go_ret2
  exact ⟨s, t, rfl, by omega, by omega, below_open (grown_trans hg2 (grown_trans hg3 hg4))⟩

theorem drawLoadLe_any (w : World) (cv : Value) (zs : List Int) (h : Cd w cv zs) :
    Calls Try.prog 33 #[cv] w fun e w' => ∃ s : ByteArray, e = .returned (.string s) ∧ s.size ≤ 100 ∧ Below w.heap.size w w' := by
  obtain ⟨a, len, cap, hcv⟩ := h.form
  have HV := Lib.hid hcv
  clear hcv
  go_enter Try.func33, Try.ntmps33
  go_wp2_with fail
  refine (open_any cv a len cap HV.out _).mono ?_
  rintro e w1 ⟨rfl, rfl⟩
  go_wp2_with fail
  refine (below_any 5 _ _ cv zs _ h.rd (by omega) (by omega)).mono ?_
  rintro e w2 ⟨n, rfl, hn0, hn9, hr2, hg2⟩
  obtain ⟨n', rfl⟩ := Int.eq_ofNat_of_zero_le hn0
  go_wp2_with fail
  have hE := exact_any (4 * n') _ _ cv zs _ hr2 (by omega)
  rw [show ((4 * n' : Nat) : Int) = 4 * (n' : Int) by omega] at hE
  refine hE.mono ?_
  rintro e w3 ⟨s, rfl, hs, hr3, hg3⟩
  go_wp2
  go_ret
  exact ⟨s, rfl, by omega, below_open (grown_trans hg2 hg3)⟩

theorem drawRotl_any (w : World) (cv : Value) (zs : List Int) (h : Cd w cv zs) :
    Calls Try.prog 34 #[cv] w fun e w' => ∃ n k : Int, e = .returned (.tuple #[.int .i64 n, .int .i64 k]) ∧ (Lit.int .i64 n).wf = true ∧ (Lit.int .i64 k).wf = true ∧ Below w.heap.size w w' := by
  obtain ⟨a, len, cap, hcv⟩ := h.form
  have HV := Lib.hid hcv
  clear hcv
  go_enter Try.func34, Try.ntmps34
  go_wp2_with fail
  refine (open_any cv a len cap HV.out _).mono ?_
  rintro e w1 ⟨rfl, rfl⟩
  go_wp2_with fail
  refine (num_any _ _ cv zs _ h.rd).mono ?_
  rintro e w2 ⟨n, rfl, hn, hr2, hg2⟩
  have HN := Lib.hid hn
  clear hn
  go_wp2_with fail
  refine (off_any 0 31 _ _ cv zs _ hr2 (by omega) (by omega) (by omega)).mono ?_
  rintro e w3 ⟨k, rfl, hk, hr3, hg3⟩
  have HK := Lib.hid hk
  clear hk
  go_wp2
  go_ret2
  exact ⟨n, k, rfl, HN.out, HK.out, below_open (grown_trans hg2 hg3)⟩

set_option maxHeartbeats 800000 in
theorem drawStoreLe_any (w : World) (cv : Value) (zs : List Int) (h : Cd w cv zs) :
    Calls Try.prog 32 #[cv] w fun e w' => ∃ (v : Value) (l : List Int), e = .returned v ∧ l.length ≤ 5 ∧ OwnK 2 .i64 w' w.heap.size v l ∧ Below w.heap.size w w' := by
  obtain ⟨a, len, cap, hcv⟩ := h.form
  have HV := Lib.hid hcv
  clear hcv
  go_enter Try.func32, Try.ntmps32
  go_wp2_with fail
  refine (open_any cv a len cap HV.out _).mono ?_
  rintro e w1 ⟨rfl, rfl⟩
  have hr0 := h.rd
  obtain ⟨w0, hw0⟩ : ∃ w0, w0 = w.alloc (.cells #[cv, .int .i64 0] 67) := ⟨_, rfl⟩
  have hb0 : Below w.heap.size w w0 := by rw [hw0]; exact (Below.refl _ w).alloc (Nat.le_refl _) _
  have hsz0 : w0.heap.size = w.heap.size + 1 := by rw [hw0]; simp
  rw [← hw0] at hr0 ⊢
  have HS := Lib.hid hsz0
  have hlt0 : w.heap.size < w0.heap.size := by omega
  clear hw0 h hsz0
  go_wp2_with fail
  refine (below_any 5 _ _ cv zs _ (hr0.alloc _) (by omega) (by omega)).mono ?_
  rintro e w2 ⟨x, rfl, hx0, hx1, hr2, hg2⟩
  have ho2 := (hr0.alloc (.cells #[] 2)).ownK (OwnK.lit 2 .i64 w0 w0.heap.size (Nat.le_refl _)) hg2
  have hb2 := (hb0.alloc (by omega) (.cells #[] 2)).trans (below_of_grown hg2 (Nat.le_refl _) (by simp; omega))
  have hsz2 : w0.heap.size ≤ w2.heap.size := by have := hg2.size; simp at this; omega
  clear hr0 hg2
  go_wp2
  go_loopw [4, 5] (fun v i wr => ∃ (k : Nat) (l : List Int), (k : Int) ≤ x ∧ i = .int .i64 k ∧ l.length + k ≤ 5 ∧ OwnK 2 .i64 wr w0.heap.size v l ∧ Rd wr w.heap.size w.heap.size cv zs ∧ Below w.heap.size w wr ∧ w0.heap.size ≤ wr.heap.size)
    (fun _ i _ => (intOf i).toNat)
  case atStart => exact ⟨x.toNat, [], by omega, by rw [Int.toNat_of_nonneg hx0], by simp; omega, ho2, hr2, hb2, hsz2⟩
  case round =>
    obtain ⟨k, l, hk, rfl, hl, hown, hr, hb, hsz⟩ := hrel
    clear ho2 hr2 hb2 hsz2
    by_cases hlt : 0 < k
    · go_wp2_with fail
      refine (num_any _ _ cv zs _ hr).mono ?_
      rintro e w3 ⟨y, rfl, hy, hr3, hg3⟩
      have HY := Lib.hid hy
      have ho3 := hr.ownK hown hg3
      have hb3 := hb.trans (below_of_grown hg3 (Nat.le_refl _) (by omega))
      have hsz3 : w0.heap.size ≤ w3.heap.size := Nat.le_trans hsz hg3.size
      clear hown hr hb hg3 hy
      go_wp2_with (at_builtin; refine wpList_appK Try.underlying24 Try.infoI64 (by decide) rfl (.tmp 15) (.tmp 18) rfl w0.heap.size _ _ rfl (ho3.alloc _) w3.heap.size 1 _ _ [y] rfl (heap_alloc_new w3 _) rfl rfl (by decide) (by omega) (by simp; omega) ?_; intro v1 w4 hown1 hb4)
      have hr4 := (hr3.alloc _).below hb4 hlt0
      have hb5 := (hb3.alloc (by omega) _).trans (hb4.mono (by omega))
      have hsz4 : w0.heap.size ≤ w4.heap.size := by have := hb4.size; simp at this; omega
      clear hr3 hb3 hb4 ho3 hsz3
      go_wp2
      go_roundw
      case rel => exact ⟨k - 1, _, by omega, by go_num, by simp; omega, hown1, hr4, hb5, hsz4⟩
      case measure => simp [intOf]; omega
    · go_wp2
      go_ret
      exact ⟨_, l, rfl, by omega, hown.base_mono (by omega), hb⟩
end Go.Proofs.Ytbjcgcjdlnoejaa

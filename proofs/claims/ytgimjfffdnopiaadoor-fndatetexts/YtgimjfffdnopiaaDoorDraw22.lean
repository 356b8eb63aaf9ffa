/- What the laws on dates draw: arguments. -/
import Derived.Test.YtgimjfffdnopiaaDoorDraw21
namespace Go.Proofs.YtgimjfffdnopiaaDoor
open Go.ChangeShapes Go.WideShapes Go.ChangeAt Go.RowKit
set_option linter.unusedVariables false
set_option linter.unusedSimpArgs false

set_option maxRecDepth 100000 in
set_option maxHeartbeats 1600000 in
theorem drawDateOk_any (w : World) (cv : Value) (zs : List Int) (h : Cd w cv zs) :
    Calls Tryd.prog 36 #[cv] w fun e w' => ∃ y m d : Int, e = .returned (dV y m d) ∧ Below w.heap.size w w' := by
  obtain ⟨a, len, cap, hcv⟩ := h.form
  have HV := Lib.hid hcv
  clear hcv
  have hz0 := Box.new w #[.int .i64 0, .int .i64 0, .int .i64 0] 25
  have hb0 : Below w.heap.size w (w.alloc (dC 0 0 0)) := (Below.refl _ _).alloc (Nat.le_refl _) _
  replace h := h.below hb0
  go_enter Tryd.func36, Tryd.ntmps36
  go_wp2_with fail
  generalize hW : w.alloc (dC 0 0 0) = W0 at hz0 hb0 h ⊢
  clear hW
  refine (open_any cv a len cap HV.out _).mono ?_
  rintro e w1 ⟨rfl, rfl⟩
  have hrd := h.rd
  have HBO : ∀ w', (W0.alloc (.cells #[cv, .int .i64 0] 104)).grownBy w' (some W0.heap.size) → Below W0.heap.size W0 w' := fun w' hg => below_open hg
  have HO := Lib.hid HBO
  clear HBO h
  generalize hWr : W0.alloc (.cells #[cv, .int .i64 0] 104) = W1 at hrd HO ⊢
  generalize hrb : W0.heap.size = rb at hrd HO ⊢
  go_wp2_with fail
  refine (date_any _ _ cv zs _ hrd).mono ?_
  rintro e w2 ⟨y, m, d, rfl, hr2, hg2⟩
  have hbb := HO.out _ hg2
  rw [← hrb] at hbb
  have hz1 := hz0.keep hbb hz0.lt
  have hB := hb0.trans (hbb.mono hb0.size)
  clear hz0 hb0 hbb hg2 hr2 hrd HO hWr hrb
  have z0 := hz1.cell 0 _ rfl
  have z1 := hz1.cell 1 _ rfl
  have z2 := hz1.cell 2 _ rfl
  have f0 := hz1.free 0
  have f1 := hz1.free 1
  have f2 := hz1.free 2
  go_wp2
  refine bodyPost_ret (results_date rfl _ _ _ y m d rfl (put3da _ _ _ _ _ hz1 rfl)) rfl ?_
  exact ⟨y, m, d, rfl, hB.trans (below3da _ w.heap.size _ (Nat.le_refl _) _ _ _)⟩

set_option maxRecDepth 100000 in
set_option maxHeartbeats 1600000 in
theorem drawDayOf_any (w : World) (cv : Value) (zs : List Int) (h : Cd w cv zs) :
    Calls Tryd.prog 9 #[cv] w fun e w' => ∃ y m d : Int, e = .returned (dV y m d) ∧ Below w.heap.size w w' := by
  have hz0 := Box.new w #[.int .i64 0, .int .i64 0, .int .i64 0] 25
  have hb0 : Below w.heap.size w (w.alloc (dC 0 0 0)) := (Below.refl _ _).alloc (Nat.le_refl _) _
  replace h := h.below hb0
  go_enter Tryd.func9, Tryd.ntmps9
  go_wp2_with fail
  generalize hW : w.alloc (dC 0 0 0) = W0 at hz0 hb0 h ⊢
  clear hW
  refine (drawDateOk_any _ cv zs h).mono ?_
  rintro e w2 ⟨y, m, d, rfl, hbb⟩
  have hz1 := hz0.keep hbb hz0.lt
  have hB := hb0.trans (hbb.mono hb0.size)
  clear hz0 hb0 hbb h
  have z0 := hz1.cell 0 _ rfl
  have z1 := hz1.cell 1 _ rfl
  have z2 := hz1.cell 2 _ rfl
  have f0 := hz1.free 0
  have f1 := hz1.free 1
  have f2 := hz1.free 2
  go_wp2
  refine bodyPost_ret (results_date rfl _ _ _ y m d rfl (put3da _ _ _ _ _ hz1 rfl)) rfl ?_
  exact ⟨y, m, d, rfl, hB.trans (below3da _ w.heap.size _ (Nat.le_refl _) _ _ _)⟩

set_option maxRecDepth 100000 in
set_option maxHeartbeats 1600000 in
theorem drawDateText_any (w : World) (cv : Value) (zs : List Int) (h : Cd w cv zs) :
    Calls Tryd.prog 17 #[cv] w fun e w' => ∃ y m d : Int, e = .returned (dV y m d) ∧ Below w.heap.size w w' := by
  have hz0 := Box.new w #[.int .i64 0, .int .i64 0, .int .i64 0] 25
  have hb0 : Below w.heap.size w (w.alloc (dC 0 0 0)) := (Below.refl _ _).alloc (Nat.le_refl _) _
  replace h := h.below hb0
  go_enter Tryd.func17, Tryd.ntmps17
  go_wp2_with fail
  generalize hW : w.alloc (dC 0 0 0) = W0 at hz0 hb0 h ⊢
  clear hW
  refine (drawDateOk_any _ cv zs h).mono ?_
  rintro e w2 ⟨y, m, d, rfl, hbb⟩
  have hz1 := hz0.keep hbb hz0.lt
  have hB := hb0.trans (hbb.mono hb0.size)
  clear hz0 hb0 hbb h
  have z0 := hz1.cell 0 _ rfl
  have z1 := hz1.cell 1 _ rfl
  have z2 := hz1.cell 2 _ rfl
  have f0 := hz1.free 0
  have f1 := hz1.free 1
  have f2 := hz1.free 2
  go_wp2
  refine bodyPost_ret (results_date rfl _ _ _ y m d rfl (put3da _ _ _ _ _ hz1 rfl)) rfl ?_
  exact ⟨y, m, d, rfl, hB.trans (below3da _ w.heap.size _ (Nat.le_refl _) _ _ _)⟩

set_option maxRecDepth 100000 in
set_option maxHeartbeats 1600000 in
theorem drawDateOf_any (w : World) (cv : Value) (zs : List Int) (h : Cd w cv zs) :
    Calls Tryd.prog 11 #[cv] w fun e w' => ∃ x : Int, e = .returned (.int .i64 x) ∧ Below w.heap.size w w' := by
  obtain ⟨a, len, cap, hcv⟩ := h.form
  have HV := Lib.hid hcv
  clear hcv
  go_enter Tryd.func11, Tryd.ntmps11
  go_wp2_with fail
  refine (open_any cv a len cap HV.out _).mono ?_
  rintro e w1 ⟨rfl, rfl⟩
  go_wp2_with fail
  refine (once_any 4 _ _ cv zs _ h.rd (by omega) (by omega)).mono ?_
  rintro e w2 ⟨b, rfl, hr2, hg2⟩
  cases b with
  | true =>
    go_wp2_with fail
    refine (off_any 0 200000 _ _ cv zs _ hr2 (by omega) (by omega) (by omega)).mono ?_
    rintro e w3 ⟨x, rfl, hx, hr3, hg3⟩
    go_wp2
    go_ret
    exact ⟨x, rfl, below_open (grown_trans hg2 hg3)⟩
  | false =>
    go_wp2_with fail
    refine (below_any 60000 _ _ cv zs _ hr2 (by omega) (by omega)).mono ?_
    rintro e w3 ⟨x, rfl, hx0, hx1, hr3, hg3⟩
    go_wp2
    go_ret
    exact ⟨x, rfl, below_open (grown_trans hg2 hg3)⟩

theorem dateT_le (y m d : Int) : (dateT y m d).size ≤ 100000 := by
  cases h : dOk y m d with
  | true =>
    have := ((rdOk_iff _).1 (rd_back y m d h).1).1
    omega
  | false =>
    have e : dateT y m d = ⟨#[]⟩ := by unfold dateT; rw [h]; rfl
    rw [e]
    exact Nat.zero_le _

set_option maxRecDepth 100000 in
set_option maxHeartbeats 1600000 in
theorem drawReadDate_any (w : World) (cv : Value) (zs : List Int) (h : Cd w cv zs) :
    Calls Tryd.prog 20 #[cv] w fun e w' => ∃ t : ByteArray, e = .returned (.string t) ∧ Below w.heap.size w w' := by
  obtain ⟨a, len, cap, hcv⟩ := h.form
  have HV := Lib.hid hcv
  clear hcv
  go_enter Tryd.func20, Tryd.ntmps20
  go_wp2_with fail
  refine (open_any cv a len cap HV.out _).mono ?_
  rintro e w1 ⟨rfl, rfl⟩
  go_wp2_with fail
  refine (date_any _ _ cv zs _ h.rd).mono ?_
  rintro e w2 ⟨y, m, d, rfl, hr2, hg2⟩
  have HT := Lib.hid (fun w => specDateText_any y m d w)
  have hle := dateT_le y m d
  generalize dateT y m d = S at HT hle
  go_wp2_with fail
  refine (HT.out _).mono ?_
  rintro e w3 ⟨rfl, hb3⟩
  replace hr2 := hr2.below hb3 hr2.lt
  have hg3 := grown_below hg2 hb3 hg2.size
  clear hb3 hg2
  go_wp2_with fail
  refine (once_any 2 _ _ cv zs _ hr2 (by omega) (by omega)).mono ?_
  rintro e w4 ⟨b, rfl, hr4, hg4⟩
  cases b with
  | true =>
    go_wp2
    go_ret
    exact ⟨S, rfl, below_open (grown_trans hg3 hg4)⟩
  | false =>
    go_wp2_with fail
    refine (hurt_any S _ _ cv zs _ hr4 hle).mono ?_
    rintro e w5 ⟨Q, rfl, hQ, hr5, hg5⟩
    go_wp2
    go_ret
    exact ⟨Q, rfl, below_open (grown_trans (grown_trans hg3 hg4) hg5)⟩
end Go.Proofs.YtgimjfffdnopiaaDoor

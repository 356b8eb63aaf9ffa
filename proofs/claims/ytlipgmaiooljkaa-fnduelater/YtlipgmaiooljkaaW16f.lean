/- What a poll is behind an answer: the reference. -/
import Derived.Test.YtlipgmaiooljkaaW16e
namespace Go.Proofs.Ytlipgmaiooljkaa
open Go.ChangeShapes Go.WideShapes Go.ChangeAt Go.RowKit
set_option linter.unusedVariables false
set_option linter.unusedSimpArgs false

theorem pk_eq {u m : ByteArray} {n wt f n' wt' f' : Int} {g : Bool} (h1 : n = n') (h2 : wt = wt') (h3 : f = f') : #[.string u, .string m, .int .i64 n, .int .i64 wt, .int .i64 f, .bool g] = pkC ⟨u, m, n', wt', f', g⟩ := by
  subst h1 h2 h3; rfl

set_option maxRecDepth 100000 in
set_option maxHeartbeats 3000000 in
theorem l16After_200 (u m am au : ByteArray) (n wt f af now : Int) (g : Bool) (w : World) (i3 : 10 ≤ wt) (i4 : wt ≤ 1000) (i5 : 0 ≤ f) (i6 : f ≤ 20) (j3 : 0 ≤ af) (j4 : af ≤ 100000) (n0 : 0 ≤ now) (n1 : now ≤ 900000000) :
    Calls Try.prog 50 #[pkV ⟨u, m, n, wt, f, g⟩, .int .i64 now, anV ⟨200, am, au, af⟩] w fun e w' => e = .returned (pkV (paD ⟨u, m, n, wt, f, g⟩ now ⟨200, am, au, af⟩)) ∧ Below w.heap.size w w' := by
  have HPD : Hid (paD ⟨u, m, n, wt, f, g⟩ now ⟨200, am, au, af⟩ = ⟨u, am, now + min (max (wt / 2) 10) 1000, min (max (wt / 2) 10) 1000, 0, g⟩) := Lib.hid (by simp [paD, paT, paW, pkX, flP])
  generalize paD ⟨u, m, n, wt, f, g⟩ now ⟨200, am, au, af⟩ = D at HPD ⊢
  go_enter Try.func50, Try.ntmps50
  go_wp2
  all_goals exact out_pk rfl _ _ _ _ _ _ _ rfl rfl (by first | (rw [HPD.out]; exact pk_eq (by omega) (by omega) (by omega)) | rw [HPD.out])

set_option maxRecDepth 100000 in
set_option maxHeartbeats 3000000 in
theorem l16After_304 (u m am au : ByteArray) (n wt f af now : Int) (g : Bool) (w : World) (i3 : 10 ≤ wt) (i4 : wt ≤ 1000) (i5 : 0 ≤ f) (i6 : f ≤ 20) (j3 : 0 ≤ af) (j4 : af ≤ 100000) (n0 : 0 ≤ now) (n1 : now ≤ 900000000) :
    Calls Try.prog 50 #[pkV ⟨u, m, n, wt, f, g⟩, .int .i64 now, anV ⟨304, am, au, af⟩] w fun e w' => e = .returned (pkV (paD ⟨u, m, n, wt, f, g⟩ now ⟨304, am, au, af⟩)) ∧ Below w.heap.size w w' := by
  have HPD : Hid (paD ⟨u, m, n, wt, f, g⟩ now ⟨304, am, au, af⟩ = ⟨u, m, now + min (wt + 10) 1000, min (wt + 10) 1000, 0, g⟩) := Lib.hid (by simp [paD, paT, paW, pkX, flP])
  generalize paD ⟨u, m, n, wt, f, g⟩ now ⟨304, am, au, af⟩ = D at HPD ⊢
  go_enter Try.func50, Try.ntmps50
  go_wp2
  all_goals exact out_pk rfl _ _ _ _ _ _ _ rfl rfl (by first | (rw [HPD.out]; exact pk_eq (by omega) (by omega) (by omega)) | rw [HPD.out])

set_option maxRecDepth 100000 in
set_option maxHeartbeats 3000000 in
theorem l16After_301 (u m am au : ByteArray) (n wt f af now : Int) (g : Bool) (w : World) (he : au.toList.isEmpty = false) (i3 : 10 ≤ wt) (i4 : wt ≤ 1000) (i5 : 0 ≤ f) (i6 : f ≤ 20) (j3 : 0 ≤ af) (j4 : af ≤ 100000) (n0 : 0 ≤ now) (n1 : now ≤ 900000000) :
    Calls Try.prog 50 #[pkV ⟨u, m, n, wt, f, g⟩, .int .i64 now, anV ⟨301, am, au, af⟩] w fun e w' => e = .returned (pkV (paD ⟨u, m, n, wt, f, g⟩ now ⟨301, am, au, af⟩)) ∧ Below w.heap.size w w' := by
  have HPD : Hid (paD ⟨u, m, n, wt, f, g⟩ now ⟨301, am, au, af⟩ = ⟨au, ⟨#[]⟩, now + wt, wt, 0, g⟩) := Lib.hid (by simp [paD, paT, paW, pkX, flP, he, show min wt 1000 = wt by omega])
  generalize paD ⟨u, m, n, wt, f, g⟩ now ⟨301, am, au, af⟩ = D at HPD ⊢
  go_enter Try.func50, Try.ntmps50
  go_wp2
  all_goals exact out_pk rfl _ _ _ _ _ _ _ rfl rfl (by first | (rw [HPD.out]; exact pk_eq (by omega) (by omega) (by omega)) | rw [HPD.out])

set_option maxRecDepth 100000 in
set_option maxHeartbeats 3000000 in
theorem l16After_301e (u m am au : ByteArray) (n wt f af now : Int) (g : Bool) (w : World) (he : au.toList.isEmpty = true) (i3 : 10 ≤ wt) (i4 : wt ≤ 1000) (i5 : 0 ≤ f) (i6 : f ≤ 20) (j3 : 0 ≤ af) (j4 : af ≤ 100000) (n0 : 0 ≤ now) (n1 : now ≤ 900000000) :
    Calls Try.prog 50 #[pkV ⟨u, m, n, wt, f, g⟩, .int .i64 now, anV ⟨301, am, au, af⟩] w fun e w' => e = .returned (pkV (paD ⟨u, m, n, wt, f, g⟩ now ⟨301, am, au, af⟩)) ∧ Below w.heap.size w w' := by
  have HPD : Hid (paD ⟨u, m, n, wt, f, g⟩ now ⟨301, am, au, af⟩ = ⟨u, m, now + min (wt * 2) 1000, min (wt * 2) 1000, min (f + 1) 20, g⟩) := Lib.hid (by simp [paD, paT, paW, pkX, flP, he])
  generalize paD ⟨u, m, n, wt, f, g⟩ now ⟨301, am, au, af⟩ = D at HPD ⊢
  go_enter Try.func50, Try.ntmps50
  go_wp2
  all_goals exact out_pk rfl _ _ _ _ _ _ _ rfl rfl (by first | (rw [HPD.out]; exact pk_eq (by omega) (by omega) (by omega)) | rw [HPD.out])

set_option maxRecDepth 100000 in
set_option maxHeartbeats 3000000 in
theorem l16After_308 (u m am au : ByteArray) (n wt f af now : Int) (g : Bool) (w : World) (he : au.toList.isEmpty = false) (i3 : 10 ≤ wt) (i4 : wt ≤ 1000) (i5 : 0 ≤ f) (i6 : f ≤ 20) (j3 : 0 ≤ af) (j4 : af ≤ 100000) (n0 : 0 ≤ now) (n1 : now ≤ 900000000) :
    Calls Try.prog 50 #[pkV ⟨u, m, n, wt, f, g⟩, .int .i64 now, anV ⟨308, am, au, af⟩] w fun e w' => e = .returned (pkV (paD ⟨u, m, n, wt, f, g⟩ now ⟨308, am, au, af⟩)) ∧ Below w.heap.size w w' := by
  have HPD : Hid (paD ⟨u, m, n, wt, f, g⟩ now ⟨308, am, au, af⟩ = ⟨au, ⟨#[]⟩, now + wt, wt, 0, g⟩) := Lib.hid (by simp [paD, paT, paW, pkX, flP, he, show min wt 1000 = wt by omega])
  generalize paD ⟨u, m, n, wt, f, g⟩ now ⟨308, am, au, af⟩ = D at HPD ⊢
  go_enter Try.func50, Try.ntmps50
  go_wp2
  all_goals exact out_pk rfl _ _ _ _ _ _ _ rfl rfl (by first | (rw [HPD.out]; exact pk_eq (by omega) (by omega) (by omega)) | rw [HPD.out])

set_option maxRecDepth 100000 in
set_option maxHeartbeats 3000000 in
theorem l16After_308e (u m am au : ByteArray) (n wt f af now : Int) (g : Bool) (w : World) (he : au.toList.isEmpty = true) (i3 : 10 ≤ wt) (i4 : wt ≤ 1000) (i5 : 0 ≤ f) (i6 : f ≤ 20) (j3 : 0 ≤ af) (j4 : af ≤ 100000) (n0 : 0 ≤ now) (n1 : now ≤ 900000000) :
    Calls Try.prog 50 #[pkV ⟨u, m, n, wt, f, g⟩, .int .i64 now, anV ⟨308, am, au, af⟩] w fun e w' => e = .returned (pkV (paD ⟨u, m, n, wt, f, g⟩ now ⟨308, am, au, af⟩)) ∧ Below w.heap.size w w' := by
  have HPD : Hid (paD ⟨u, m, n, wt, f, g⟩ now ⟨308, am, au, af⟩ = ⟨u, m, now + min (wt * 2) 1000, min (wt * 2) 1000, min (f + 1) 20, g⟩) := Lib.hid (by simp [paD, paT, paW, pkX, flP, he])
  generalize paD ⟨u, m, n, wt, f, g⟩ now ⟨308, am, au, af⟩ = D at HPD ⊢
  go_enter Try.func50, Try.ntmps50
  go_wp2
  all_goals exact out_pk rfl _ _ _ _ _ _ _ rfl rfl (by first | (rw [HPD.out]; exact pk_eq (by omega) (by omega) (by omega)) | rw [HPD.out])

set_option maxRecDepth 100000 in
set_option maxHeartbeats 3000000 in
theorem l16After_410 (u m am au : ByteArray) (n wt f af now : Int) (g : Bool) (w : World) (i3 : 10 ≤ wt) (i4 : wt ≤ 1000) (i5 : 0 ≤ f) (i6 : f ≤ 20) (j3 : 0 ≤ af) (j4 : af ≤ 100000) (n0 : 0 ≤ now) (n1 : now ≤ 900000000) :
    Calls Try.prog 50 #[pkV ⟨u, m, n, wt, f, g⟩, .int .i64 now, anV ⟨410, am, au, af⟩] w fun e w' => e = .returned (pkV (paD ⟨u, m, n, wt, f, g⟩ now ⟨410, am, au, af⟩)) ∧ Below w.heap.size w w' := by
  have HPD : Hid (paD ⟨u, m, n, wt, f, g⟩ now ⟨410, am, au, af⟩ = ⟨u, m, now + wt, wt, 0, true⟩) := Lib.hid (by simp [paD, paT, paW, pkX, flP, show min wt 1000 = wt by omega])
  generalize paD ⟨u, m, n, wt, f, g⟩ now ⟨410, am, au, af⟩ = D at HPD ⊢
  go_enter Try.func50, Try.ntmps50
  go_wp2
  all_goals exact out_pk rfl _ _ _ _ _ _ _ rfl rfl (by first | (rw [HPD.out]; exact pk_eq (by omega) (by omega) (by omega)) | rw [HPD.out])

set_option maxRecDepth 100000 in
set_option maxHeartbeats 3000000 in
theorem l16After_429 (u m am au : ByteArray) (n wt f af now : Int) (g : Bool) (w : World) (i3 : 10 ≤ wt) (i4 : wt ≤ 1000) (i5 : 0 ≤ f) (i6 : f ≤ 20) (j3 : 0 ≤ af) (j4 : af ≤ 100000) (n0 : 0 ≤ now) (n1 : now ≤ 900000000) :
    Calls Try.prog 50 #[pkV ⟨u, m, n, wt, f, g⟩, .int .i64 now, anV ⟨429, am, au, af⟩] w fun e w' => e = .returned (pkV (paD ⟨u, m, n, wt, f, g⟩ now ⟨429, am, au, af⟩)) ∧ Below w.heap.size w w' := by
  have HPD : Hid (paD ⟨u, m, n, wt, f, g⟩ now ⟨429, am, au, af⟩ = ⟨u, m, now + max (min (wt * 2) 1000) af, min (wt * 2) 1000, min (f + 1) 20, g⟩) := Lib.hid (by simp [paD, paT, paW, pkX, flP])
  generalize paD ⟨u, m, n, wt, f, g⟩ now ⟨429, am, au, af⟩ = D at HPD ⊢
  go_enter Try.func50, Try.ntmps50
  go_wp2
  all_goals exact out_pk rfl _ _ _ _ _ _ _ rfl rfl (by first | (rw [HPD.out]; exact pk_eq (by omega) (by omega) (by omega)) | rw [HPD.out])

set_option maxRecDepth 100000 in
set_option maxHeartbeats 3000000 in
theorem l16After_503 (u m am au : ByteArray) (n wt f af now : Int) (g : Bool) (w : World) (i3 : 10 ≤ wt) (i4 : wt ≤ 1000) (i5 : 0 ≤ f) (i6 : f ≤ 20) (j3 : 0 ≤ af) (j4 : af ≤ 100000) (n0 : 0 ≤ now) (n1 : now ≤ 900000000) :
    Calls Try.prog 50 #[pkV ⟨u, m, n, wt, f, g⟩, .int .i64 now, anV ⟨503, am, au, af⟩] w fun e w' => e = .returned (pkV (paD ⟨u, m, n, wt, f, g⟩ now ⟨503, am, au, af⟩)) ∧ Below w.heap.size w w' := by
  have HPD : Hid (paD ⟨u, m, n, wt, f, g⟩ now ⟨503, am, au, af⟩ = ⟨u, m, now + max (min (wt * 2) 1000) af, min (wt * 2) 1000, min (f + 1) 20, g⟩) := Lib.hid (by simp [paD, paT, paW, pkX, flP])
  generalize paD ⟨u, m, n, wt, f, g⟩ now ⟨503, am, au, af⟩ = D at HPD ⊢
  go_enter Try.func50, Try.ntmps50
  go_wp2
  all_goals exact out_pk rfl _ _ _ _ _ _ _ rfl rfl (by first | (rw [HPD.out]; exact pk_eq (by omega) (by omega) (by omega)) | rw [HPD.out])

set_option maxRecDepth 100000 in
set_option maxHeartbeats 3000000 in
theorem l16After_els (u m am au : ByteArray) (n wt f c af now : Int) (g : Bool) (w : World) (h200 : c ≠ 200) (h304 : c ≠ 304) (h301 : c ≠ 301) (h308 : c ≠ 308) (h410 : c ≠ 410) (h429 : c ≠ 429) (h503 : c ≠ 503) (i3 : 10 ≤ wt) (i4 : wt ≤ 1000) (i5 : 0 ≤ f) (i6 : f ≤ 20) (j3 : 0 ≤ af) (j4 : af ≤ 100000) (n0 : 0 ≤ now) (n1 : now ≤ 900000000) :
    Calls Try.prog 50 #[pkV ⟨u, m, n, wt, f, g⟩, .int .i64 now, anV ⟨c, am, au, af⟩] w fun e w' => e = .returned (pkV (paD ⟨u, m, n, wt, f, g⟩ now ⟨c, am, au, af⟩)) ∧ Below w.heap.size w w' := by
  have HPD : Hid (paD ⟨u, m, n, wt, f, g⟩ now ⟨c, am, au, af⟩ = ⟨u, m, now + min (wt * 2) 1000, min (wt * 2) 1000, min (f + 1) 20, g⟩) := Lib.hid (by simp [paD, paT, paW, pkX, flP, h200, h304, h301, h308, h410, h429, h503])
  generalize paD ⟨u, m, n, wt, f, g⟩ now ⟨c, am, au, af⟩ = D at HPD ⊢
  have b200 : (c == 200) = false := beq_eq_false_iff_ne.2 h200
  have b304 : (c == 304) = false := beq_eq_false_iff_ne.2 h304
  have b301 : (c == 301) = false := beq_eq_false_iff_ne.2 h301
  have b308 : (c == 308) = false := beq_eq_false_iff_ne.2 h308
  have b410 : (c == 410) = false := beq_eq_false_iff_ne.2 h410
  have b429 : (c == 429) = false := beq_eq_false_iff_ne.2 h429
  have b503 : (c == 503) = false := beq_eq_false_iff_ne.2 h503
  clear h200 h304 h301 h308 h410 h429 h503
  go_enter Try.func50, Try.ntmps50
  go_wp2
  all_goals exact out_pk rfl _ _ _ _ _ _ _ rfl rfl (by first | (rw [HPD.out]; exact pk_eq (by omega) (by omega) (by omega)) | rw [HPD.out])

theorem l16After_any (p : PollD) (now : Int) (a : AnsD) (w : World) (hp : pkB p = true) (ha : anB a = true) (n0 : 0 ≤ now) (n1 : now ≤ 900000000) :
    Calls Try.prog 50 #[pkV p, .int .i64 now, anV a] w fun e w' => e = .returned (pkV (paD p now a)) ∧ Below w.heap.size w w' := by
  obtain ⟨i1, i2, i3, i4, i5, i6⟩ := pkB_inv hp
  obtain ⟨j1, j2, j3, j4⟩ := anB_inv ha
  clear hp ha
  obtain ⟨u, m, n, wt, f, g⟩ := p
  obtain ⟨c, am, au, af⟩ := a
  dsimp only at i1 i2 i3 i4 i5 i6 j1 j2 j3 j4
  by_cases h1 : c = 200
  · subst h1; exact l16After_200 u m am au n wt f af now g w i3 i4 i5 i6 j3 j4 n0 n1
  by_cases h2 : c = 304
  · subst h2; exact l16After_304 u m am au n wt f af now g w i3 i4 i5 i6 j3 j4 n0 n1
  by_cases h3 : c = 301
  · subst h3
    cases he : au.toList.isEmpty with
    | false => exact l16After_301 u m am au n wt f af now g w he i3 i4 i5 i6 j3 j4 n0 n1
    | true => exact l16After_301e u m am au n wt f af now g w he i3 i4 i5 i6 j3 j4 n0 n1
  by_cases h4 : c = 308
  · subst h4
    cases he : au.toList.isEmpty with
    | false => exact l16After_308 u m am au n wt f af now g w he i3 i4 i5 i6 j3 j4 n0 n1
    | true => exact l16After_308e u m am au n wt f af now g w he i3 i4 i5 i6 j3 j4 n0 n1
  by_cases h5 : c = 410
  · subst h5; exact l16After_410 u m am au n wt f af now g w i3 i4 i5 i6 j3 j4 n0 n1
  by_cases h6 : c = 429
  · subst h6; exact l16After_429 u m am au n wt f af now g w i3 i4 i5 i6 j3 j4 n0 n1
  by_cases h7 : c = 503
  · subst h7; exact l16After_503 u m am au n wt f af now g w i3 i4 i5 i6 j3 j4 n0 n1
  exact l16After_els u m am au n wt f c af now g w h1 h2 h3 h4 h5 h6 h7 i3 i4 i5 i6 j3 j4 n0 n1
end Go.Proofs.Ytlipgmaiooljkaa

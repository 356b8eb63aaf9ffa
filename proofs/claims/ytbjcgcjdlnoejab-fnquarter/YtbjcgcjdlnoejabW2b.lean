/- Contracts: Quarter, both sides. -/
import Derived.Test.YtbjcgcjdlnoejabW2a
import Derived.Test.YtbjcgcjdlnoejabW1f
namespace Go.Proofs.Ytbjcgcjdlnoejab
open Go.ChangeShapes Go.WideShapes Go.ChangeAt Go.RowKit
set_option linter.unusedVariables false

def fourOf (zs : List Int) : Four := ⟨zs.getD 0 0, zs.getD 1 0, zs.getD 2 0, zs.getD 3 0⟩
def listOf (q : Four) : List Int := [q.a, q.b, q.c, q.d]
/-- Quarter, as the document says it. -/
def quR (zs : List Int) : List Int := if zs.length = 4 ∧ zs.all isW = true then listOf (fourOf zs).turn else []

theorem four_cases {zs : List Int} (h : zs.length = 4) : ∃ a b c d, zs = [a, b, c, d] := by
  match zs, h with
  | [a, b, c, d], _ => exact ⟨a, b, c, d, rfl⟩

theorem four_u {a b c d : Int} (h : ([a, b, c, d] : List Int).all isW = true) : (Four.mk a b c d).u := by
  have := of_all h
  exact ⟨this a (by simp), this b (by simp), this c (by simp), this d (by simp)⟩

set_option maxRecDepth 100000 in
set_option maxHeartbeats 1600000 in
theorem implQuarter_any (v : Value) (zs : List Int) (B : Nat) (w : World) (h : RowAt .i64 w B v zs) :
    Calls Try.prog 11 #[v] w fun e w' => ∃ v', e = .returned v' ∧ OwnK 2 .i64 w' w.heap.size v' (quR zs) ∧ Below w.heap.size w w' := by
  have H := Lib.hid h
  obtain ⟨a, cap, rfl, hl, hm, hc⟩ := h
  unfold maxLen at hm
  by_cases h4 : zs.length = 4
  · obtain ⟨z0, z1, z2, z3, rfl⟩ := four_cases h4
    obtain ⟨b, off, rfl, hB, hr⟩ := hc 0 (by simp)
    have c0 := hr 0 (by simp)
    have c1 := hr 1 (by simp)
    have c2 := hr 2 (by simp)
    have c3 := hr 3 (by simp)
    simp only [Nat.add_zero, List.getD_cons_zero, List.getD_cons_succ] at c0 c1 c2 c3
    clear hc hr
    by_cases hall : ([z0, z1, z2, z3] : List Int).all isW = true
    · have hu := four_u hall
      have HQ : Hid (quR [z0, z1, z2, z3] = listOf (Four.mk z0 z1 z2 z3).turn) := Lib.hid (by rw [quR, if_pos ⟨rfl, hall⟩]; rfl)
      have htu := Four.turn_u hu
      obtain ⟨⟨a0, a1⟩, ⟨b0, b1⟩, ⟨d0, d1⟩, ⟨e0, e1⟩⟩ := hu
      dsimp only at a0 a1 b0 b1 d0 d1 e0 e1
      have hqc := quarterOf_any ⟨z0, z1, z2, z3⟩
      obtain ⟨q', hq'⟩ : ∃ q', q' = (Four.mk z0 z1 z2 z3).turn := ⟨_, rfl⟩
      rw [← hq'] at hqc htu
      have HC := Lib.hid (fun w => hqc w ⟨⟨a0, a1⟩, ⟨b0, b1⟩, ⟨d0, d1⟩, ⟨e0, e1⟩⟩)
      obtain ⟨⟨p0, p1⟩, ⟨r0, r1⟩, ⟨s0, s1⟩, ⟨t0, t1⟩⟩ := htu
      have HE := Lib.hid hq'
      clear hqc hq'
      have m0 : IntKind.u32.wrap z0 = z0 := by rw [IntKind.wrap_u32']; omega
      have m1 : IntKind.u32.wrap z1 = z1 := by rw [IntKind.wrap_u32']; omega
      have m2 : IntKind.u32.wrap z2 = z2 := by rw [IntKind.wrap_u32']; omega
      have m3 : IntKind.u32.wrap z3 = z3 := by rw [IntKind.wrap_u32']; omega
      have hlen : (([z0, z1, z2, z3] : List Int).length : Int) = 4 := rfl
      go_enter Try.func11, Try.ntmps11
      go_wp2_with (go_at_call 28; refine (areWords_any _ _ _ _ H.out).mono ?_; rintro e w' ⟨rfl, rfl⟩)
      go_quiet ((go_at_call 29; exact quiet_same (HC.out _)))
      go_wp2
      go_ret
      have hown : OwnK 2 .i64 ((w.drewN nq).alloc (Obj.cells #[.int .i64 q'.a, .int .i64 q'.b, .int .i64 q'.c, .int .i64 q'.d] 2)) w.heap.size (.slice (some ⟨w.heap.size, 0, none⟩) 4 4) (listOf q') :=
        World.ownsRow_lit (w.drewN nq) #[.int .i64 q'.a, .int .i64 q'.b, .int .i64 q'.c, .int .i64 q'.d] 4 (Nat.le_refl _) (by decide) rfl
      refine ⟨_, rfl, ?_, (below_drewN (Below.refl _ _) nq).alloc (Nat.le_refl _) _⟩
      rw [HQ.out, ← HE.out]
      exact hown
    · have hall' : ([z0, z1, z2, z3] : List Int).all isW = false := by simpa using hall
      have HQ : Hid (quR [z0, z1, z2, z3] = []) := Lib.hid (by rw [quR, if_neg (by simp [hall'])])
      have hlen : (([z0, z1, z2, z3] : List Int).length : Int) = 4 := rfl
      clear hall
      go_enter Try.func11, Try.ntmps11
      go_wp2_with (go_at_call 28; refine (areWords_any _ _ _ _ H.out).mono ?_; rintro e w' ⟨rfl, rfl⟩)
      go_ret
      refine ⟨_, rfl, ?_, Below.refl _ _⟩
      rw [HQ.out]
      exact OwnK.nil _ _ _ _
  · have HQ : Hid (quR zs = []) := Lib.hid (by rw [quR, if_neg (fun hh => h4 hh.1)])
    clear hc
    go_enter Try.func11, Try.ntmps11
    go_wp2
    go_ret
    refine ⟨_, rfl, ?_, Below.refl _ _⟩
    rw [HQ.out]
    exact OwnK.nil _ _ _ _
end Go.Proofs.Ytbjcgcjdlnoejab

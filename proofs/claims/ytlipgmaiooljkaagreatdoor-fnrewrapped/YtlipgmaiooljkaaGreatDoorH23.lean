/- Joined: W5b, W5c. -/
import Derived.Test.YtlipgmaiooljkaaGreatDoorH11
import Derived.Test.YtlipgmaiooljkaaGreatDoorH18
import Derived.Test.YtlipgmaiooljkaaGreatDoorH22
/- W5b -/
namespace Go.Proofs.YtlipgmaiooljkaaGreatDoor
open Go.ChangeShapes Go.WideShapes Go.ChangeAt Go.RowKit
set_option linter.unusedVariables false

theorem and31neg (k : Nat) (h1 : 1 ≤ k) (h2 : k ≤ 31) : bits BinOp.and IntKind.u64 (IntKind.u64.wrap (-(k : Int))) 31 = ((32 - k : Nat) : Int) := by
  have e : IntKind.u64.wrap (-(k : Int)) = 18446744073709551616 - (k : Int) := by simp [IntKind.wrap, IntKind.signed, IntKind.bits]; omega
  rw [e, u64_and _ _ (by omega) (by omega) (by omega) (by omega)]
  have : (18446744073709551616 - (k : Int)).toNat &&& (31 : Int).toNat = (18446744073709551616 - (k : Int)).toNat % 2 ^ 5 := by
    rw [show (31 : Int).toNat = 2 ^ 5 - 1 from rfl, Nat.and_two_pow_sub_one_eq_mod]
  rw [this]; omega
theorem rot_nat (x : Int) (m : Nat) (h : m ≤ 31) : rot x (m : Int) = bits .or .u32 (x * 2 ^ m % 4294967296) (x / 2 ^ (32 - m)) := by
  unfold rot
  rw [IntKind.wrap_u32', Int.toNat_natCast, show (32 - (m : Int)).toNat = 32 - m by omega]
theorem rotr_any (x : Int) (k : Nat) (w : World) (h1 : 1 ≤ k) (h2 : k ≤ 31) :
    Calls Tryz.prog 185 #[.int .u32 x, .int .i64 (k : Int)] w fun e w' => e = .returned (.int .u32 (rot x ((32 - k : Nat) : Int))) ∧ w = w' := by
  have h := and31neg k h1 h2
  obtain ⟨m, hm⟩ : ∃ m : Nat, m = 32 - k := ⟨_, rfl⟩
  rw [← hm] at h ⊢
  have hm1 : m ≤ 31 := by omega
  clear hm
  go_enter Tryz.func185, Tryz.ntmps185
  go_wp2
  go_ret
  exact ⟨ret_int (rot_nat x m hm1).symm, rfl⟩

end Go.Proofs.YtlipgmaiooljkaaGreatDoor

/- W5c -/
namespace Go.Proofs.YtlipgmaiooljkaaGreatDoor
open Go.ChangeShapes Go.WideShapes Go.ChangeAt Go.RowKit
set_option linter.unusedVariables false

theorem Tryz.infS5 : (Tryz.prog.info? 176).map (·.size) = some 8 := by kernel_rfl
theorem Tryz.undS5 : Tryz.prog.underlying 176 = some (.array 8 104) := by kernel_rfl
def z8 : Obj := Obj.cells #[.int .u32 0, .int .u32 0, .int .u32 0, .int .u32 0, .int .u32 0, .int .u32 0, .int .u32 0, .int .u32 0] 176
/-- The eight cells of a state. -/
structure Eight (w : World) (g : Nat) (a b c d e f g' h : Int) : Prop where
  c0 : w.cell? ⟨g, 0, none⟩ = some (.int .u32 a)
  c1 : w.cell? ⟨g, 1, none⟩ = some (.int .u32 b)
  c2 : w.cell? ⟨g, 2, none⟩ = some (.int .u32 c)
  c3 : w.cell? ⟨g, 3, none⟩ = some (.int .u32 d)
  c4 : w.cell? ⟨g, 4, none⟩ = some (.int .u32 e)
  c5 : w.cell? ⟨g, 5, none⟩ = some (.int .u32 f)
  c6 : w.cell? ⟨g, 6, none⟩ = some (.int .u32 g')
  c7 : w.cell? ⟨g, 7, none⟩ = some (.int .u32 h)
theorem Arr.eight {w : World} {g : Nat} {t : TypeId} {a b c d e f g' h : Int} (H : Arr w g t .u32 [a, b, c, d, e, f, g', h]) : Eight w g a b c d e f g' h :=
  ⟨H.cell 0 (by simp), H.cell 1 (by simp), H.cell 2 (by simp), H.cell 3 (by simp), H.cell 4 (by simp), H.cell 5 (by simp), H.cell 6 (by simp), H.cell 7 (by simp)⟩

theorem shaR_sum (a b c d e f g h wk : Int) : shaR wk [a, b, c, d, e, f, g, h] =
    [(h + bSg1 e + chz e f g + wk + (bSg0 a + maj a b c)) % 4294967296, a, b, c, (d + (h + bSg1 e + chz e f g + wk)) % 4294967296, e, f, g] := by
  show [add32 (oneW e f g h wk) (twoW a b c), a, b, c, add32 d (oneW e f g h wk), e, f, g] = _
  have h1 : add32 (oneW e f g h wk) (twoW a b c) = (h + bSg1 e + chz e f g + wk + (bSg0 a + maj a b c)) % 4294967296 := by
    unfold oneW twoW add32; omega
  have h2 : add32 d (oneW e f g h wk) = (d + (h + bSg1 e + chz e f g + wk)) % 4294967296 := by
    unfold oneW add32; omega
  rw [h1, h2]
theorem Eight.drew {w : World} {g : Nat} {a b c d e f g' h : Int} (H : Eight w g a b c d e f g' h) : Eight w.drew g a b c d e f g' h := ⟨H.c0, H.c1, H.c2, H.c3, H.c4, H.c5, H.c6, H.c7⟩
theorem rotr6 (x : Int) (w : World) : Calls Tryz.prog 185 #[.int .u32 x, .int .i64 6] w fun e w' => e = .returned (.int .u32 (rot x 26)) ∧ w = w' := rotr_any x 6 w (by omega) (by omega)
theorem rotr11 (x : Int) (w : World) : Calls Tryz.prog 185 #[.int .u32 x, .int .i64 11] w fun e w' => e = .returned (.int .u32 (rot x 21)) ∧ w = w' := rotr_any x 11 w (by omega) (by omega)
theorem rotr25 (x : Int) (w : World) : Calls Tryz.prog 185 #[.int .u32 x, .int .i64 25] w fun e w' => e = .returned (.int .u32 (rot x 7)) ∧ w = w' := rotr_any x 25 w (by omega) (by omega)
theorem rotr2 (x : Int) (w : World) : Calls Tryz.prog 185 #[.int .u32 x, .int .i64 2] w fun e w' => e = .returned (.int .u32 (rot x 30)) ∧ w = w' := rotr_any x 2 w (by omega) (by omega)
theorem rotr13 (x : Int) (w : World) : Calls Tryz.prog 185 #[.int .u32 x, .int .i64 13] w fun e w' => e = .returned (.int .u32 (rot x 19)) ∧ w = w' := rotr_any x 13 w (by omega) (by omega)
theorem rotr22 (x : Int) (w : World) : Calls Tryz.prog 185 #[.int .u32 x, .int .i64 22] w fun e w' => e = .returned (.int .u32 (rot x 10)) ∧ w = w' := rotr_any x 22 w (by omega) (by omega)
theorem rotr7 (x : Int) (w : World) : Calls Tryz.prog 185 #[.int .u32 x, .int .i64 7] w fun e w' => e = .returned (.int .u32 (rot x 25)) ∧ w = w' := rotr_any x 7 w (by omega) (by omega)
theorem rotr18 (x : Int) (w : World) : Calls Tryz.prog 185 #[.int .u32 x, .int .i64 18] w fun e w' => e = .returned (.int .u32 (rot x 14)) ∧ w = w' := rotr_any x 18 w (by omega) (by omega)
theorem rotr17 (x : Int) (w : World) : Calls Tryz.prog 185 #[.int .u32 x, .int .i64 17] w fun e w' => e = .returned (.int .u32 (rot x 15)) ∧ w = w' := rotr_any x 17 w (by omega) (by omega)
theorem rotr19 (x : Int) (w : World) : Calls Tryz.prog 185 #[.int .u32 x, .int .i64 19] w fun e w' => e = .returned (.int .u32 (rot x 13)) ∧ w = w' := rotr_any x 19 w (by omega) (by omega)

set_option maxRecDepth 100000 in
set_option maxHeartbeats 2000000 in
theorem shaRound_any (a b c d e f g h wk : Int) (w : World) :
    Calls Tryz.prog 178 #[.agg (stK .u32 [a, b, c, d, e, f, g, h]), .int .u32 wk] w fun en w' => en = .returned (.agg (stK .u32 (shaR wk [a, b, c, d, e, f, g, h]))) ∧ Below w.heap.size w w' := by
  have hA0 := Arr.new w 176 .u32 [a, b, c, d, e, f, g, h]
  have HE := Lib.hid (hA0.alloc z8).eight
  have hB : Below w.heap.size w (w.alloc (.cells (stK .u32 [a, b, c, d, e, f, g, h]) 176)) := (Below.refl _ _).alloc (Nat.le_refl _) _
  have hs1 : (w.alloc (.cells (stK .u32 [a, b, c, d, e, f, g, h]) 176)).heap.size = w.heap.size + 1 := by simp
  have HO := Lib.hid (shaR_sum a b c d e f g h wk)
  clear hA0
  have hsg : ¬ IntKind.u32.signed = true := by decide
  have hmx : IntKind.u32.max = 4294967295 := by decide
  go_enter Tryz.func178, Tryz.ntmps178
  go_wp2
  obtain ⟨w1, hw1⟩ : ∃ w1, w1 = w.alloc (.cells (stK .u32 [a, b, c, d, e, f, g, h]) 176) := ⟨_, rfl⟩
  rw [← hw1] at HE hB hs1 ⊢
  clear hw1
  unfold z8 at HE
  refine wp_region_T (fun w' => Eight w' w.heap.size a b c d e f g h) (fun _ => True) 23 (by kernel_rfl) 24 rfl ?_
  refine wpAnyT_takesA (md := .any) 1 (by kernel_rfl) (by intro d v c a w h; cases d <;> exact h) [0, 1, 2, 3, 4, 5, 6, 7, 8, 9, 10, 11, 12, 13, 14, 15, 16, 17, 18, 19, 20, 21, 22] _ _ _ (by decide) (by kernel_rfl) ⟨HE.out.drew, fun _ => trivial⟩ ?_
  simp only [pick, List.filterMap_cons, List.filterMap_nil, List.getElem?_cons_zero, List.getElem?_cons_succ]
  iterate 23 (refine wpIf_step ?_ (by kernel_rfl) ?_ ?_; rotate_left; (rintro w' ⟨c0, c1, c2, c3, c4, c5, c6, c7⟩; go_simp); try with_reducible rfl)
  refine wpIf_nil (fun hS => ?_)
  refine wpAnyT_one 23 0 (by kernel_rfl) rfl (by kernel_rfl) (fun K hK => ?_)
  go_simp
  refine hK _ _ ⟨HE.out.drew, fun _ => trivial⟩ (fun _ => ?_)
  refine wpAnyT_over (by kernel_rfl) ?_
  clear hK hS
  go_wp2_with fail
  refine (rotr6 _ _).mono ?_
  rintro en w' ⟨rfl, rfl⟩
  go_wp2_with fail
  refine (rotr11 _ _).mono ?_
  rintro en w' ⟨rfl, rfl⟩
  go_wp2_with fail
  refine (rotr25 _ _).mono ?_
  rintro en w' ⟨rfl, rfl⟩
  go_wp2_with fail
  refine (rotr2 _ _).mono ?_
  rintro en w' ⟨rfl, rfl⟩
  go_wp2_with fail
  refine (rotr13 _ _).mono ?_
  rintro en w' ⟨rfl, rfl⟩
  go_wp2_with fail
  refine (rotr22 _ _).mono ?_
  rintro en w' ⟨rfl, rfl⟩
  go_wp2
  have HI : (Tryz.prog.info? 176).map (·.size) = some (stK .u32 (shaR wk [a, b, c, d, e, f, g, h])).size := by rw [stK_size, shaR_len _ _ rfl]; exact Tryz.infS5
  refine bodyPost_ret (results_cell_row rfl _ _ (w.heap.size + 1) _ (stK .u32 (shaR wk [a, b, c, d, e, f, g, h])) _ _ rfl (by rw [HO.out, ← hs1]; exact heap_alloc_new w1 _) Tryz.undS5 rfl HI) rfl ?_
  exact ⟨rfl, (hB.alloc (by omega) _).drew⟩
end Go.Proofs.YtlipgmaiooljkaaGreatDoor

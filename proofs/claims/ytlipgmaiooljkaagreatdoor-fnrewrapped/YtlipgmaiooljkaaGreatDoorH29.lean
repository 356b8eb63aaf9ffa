/- Joined: W2g. -/
import Derived.Test.YtlipgmaiooljkaaGreatDoorH18
import Derived.Test.YtlipgmaiooljkaaGreatDoorH28
/- W2g -/
namespace Go.Proofs.YtlipgmaiooljkaaGreatDoor
open Go.ChangeShapes Go.WideShapes Go.ChangeAt Go.RowKit
set_option linter.unusedVariables false

def zSt : Obj := Obj.cells #[Value.int IntKind.u32 0, Value.int IntKind.u32 0, Value.int IntKind.u32 0, Value.int IntKind.u32 0, Value.int IntKind.u32 0, Value.int IntKind.u32 0, Value.int IntKind.u32 0, Value.int IntKind.u32 0, Value.int IntKind.u32 0, Value.int IntKind.u32 0, Value.int IntKind.u32 0, Value.int IntKind.u32 0, Value.int IntKind.u32 0, Value.int IntKind.u32 0, Value.int IntKind.u32 0, Value.int IntKind.u32 0] 133
def zRs : Obj := Obj.cells #[Value.nilFunc, Value.nilFunc, Value.nilFunc, Value.nilFunc, Value.nilFunc, Value.nilFunc, Value.nilFunc, Value.nilFunc] 165

/-- What stands between two rounds. -/
structure Mx (w : World) (g3 lo : Nat) (f0 f1 f2 f3 f4 f5 f6 f7 : Value) (ys : List Int) (wr : World) : Prop where
  st : wr.heap[w.heap.size]? = some (.cells (stA ys) 133 (0, 0))
  res : wr.heap[w.heap.size + 1]? = some zSt
  rs : wr.heap[g3]? = some (.cells #[f0, f1, f2, f3, f4, f5, f6, f7] 165 (0, 0))
  all : All8 lo f0 f1 f2 f3 f4 f5 f6 f7 wr
  bel : Below w.heap.size w wr
theorem heap_lt {w : World} {g : Nat} {o : Obj} (h : w.heap[g]? = some o) : g < w.heap.size := by
  rcases Nat.lt_or_ge g w.heap.size with h1 | h1
  · exact h1
  · rw [Array.getElem?_eq_none h1] at h; cases h
theorem Mx.keep {w : World} {g3 lo : Nat} {f0 f1 f2 f3 f4 f5 f6 f7 : Value} {ys : List Int} {wr wr' : World} (h : Mx w g3 lo f0 f1 f2 f3 f4 f5 f6 f7 ys wr) (hb : Below wr.heap.size wr wr') : Mx w g3 lo f0 f1 f2 f3 f4 f5 f6 f7 ys wr' :=
  ⟨(hb.block _ (heap_lt h.st)).trans h.st, (hb.block _ (heap_lt h.res)).trans h.res, (hb.block _ (heap_lt h.rs)).trans h.rs, h.all.keep hb, h.bel.trans (hb.mono h.bel.size)⟩
theorem Mx.set {w : World} {g3 lo : Nat} {f0 f1 f2 f3 f4 f5 f6 f7 : Value} {ys : List Int} {wr : World} (h : Mx w g3 lo f0 f1 f2 f3 f4 f5 f6 f7 ys wr) (hg : w.heap.size < g3) (hl : w.heap.size < lo) (zs : List Int) : Mx w g3 lo f0 f1 f2 f3 f4 f5 f6 f7 zs (wr.setRow w.heap.size (stA zs)) :=
  ⟨setRow_heap _ _ _ _ _ _ h.st, (setRow_other _ _ _ _ (by omega)).trans h.res, (setRow_other _ _ _ _ (by omega)).trans h.rs, h.all.setRow hl _, below_setRow h.bel (Nat.le_refl _) _⟩

theorem idx0 (f0 f1 f2 f3 f4 f5 f6 f7 : Value) (w : World) : Sem.run Tryz.prog (Instr.index 165 (.agg #[f0, f1, f2, f3, f4, f5, f6, f7]) (.int .i64 0)) w = .ok f0 w := by kernel_rfl
theorem idx1 (f0 f1 f2 f3 f4 f5 f6 f7 : Value) (w : World) : Sem.run Tryz.prog (Instr.index 165 (.agg #[f0, f1, f2, f3, f4, f5, f6, f7]) (.int .i64 1)) w = .ok f1 w := by kernel_rfl
theorem idx2 (f0 f1 f2 f3 f4 f5 f6 f7 : Value) (w : World) : Sem.run Tryz.prog (Instr.index 165 (.agg #[f0, f1, f2, f3, f4, f5, f6, f7]) (.int .i64 2)) w = .ok f2 w := by kernel_rfl
theorem idx3 (f0 f1 f2 f3 f4 f5 f6 f7 : Value) (w : World) : Sem.run Tryz.prog (Instr.index 165 (.agg #[f0, f1, f2, f3, f4, f5, f6, f7]) (.int .i64 3)) w = .ok f3 w := by kernel_rfl
theorem idx4 (f0 f1 f2 f3 f4 f5 f6 f7 : Value) (w : World) : Sem.run Tryz.prog (Instr.index 165 (.agg #[f0, f1, f2, f3, f4, f5, f6, f7]) (.int .i64 4)) w = .ok f4 w := by kernel_rfl
theorem idx5 (f0 f1 f2 f3 f4 f5 f6 f7 : Value) (w : World) : Sem.run Tryz.prog (Instr.index 165 (.agg #[f0, f1, f2, f3, f4, f5, f6, f7]) (.int .i64 5)) w = .ok f5 w := by kernel_rfl
theorem idx6 (f0 f1 f2 f3 f4 f5 f6 f7 : Value) (w : World) : Sem.run Tryz.prog (Instr.index 165 (.agg #[f0, f1, f2, f3, f4, f5, f6, f7]) (.int .i64 6)) w = .ok f6 w := by kernel_rfl
theorem idx7 (f0 f1 f2 f3 f4 f5 f6 f7 : Value) (w : World) : Sem.run Tryz.prog (Instr.index 165 (.agg #[f0, f1, f2, f3, f4, f5, f6, f7]) (.int .i64 7)) w = .ok f7 w := by kernel_rfl

set_option maxRecDepth 100000 in
set_option maxHeartbeats 1600000 in
theorem mixed_any (xs : List Int) (w : World) (h : isSt xs) :
    Calls Tryz.prog 125 #[.agg (stA xs)] w fun e w' => e = .returned (.agg (stA (tenN 10 xs))) ∧ Below w.heap.size w w' := by
  go_enter Tryz.func125, Tryz.ntmps125
  go_wp2_with fail
  change Calls _ _ _ ((w.alloc (Obj.cells (stA xs) 133)).alloc zSt) _
  obtain ⟨W0, hW0⟩ : ∃ W0, W0 = (w.alloc (Obj.cells (stA xs) 133)).alloc zSt := ⟨_, rfl⟩
  have hb0 : Below w.heap.size w W0 := by rw [hW0]; exact ((Below.refl _ _).alloc (Nat.le_refl _) _).alloc (by simp) _
  have hs0 : W0.heap.size = w.heap.size + 2 := by rw [hW0]; simp
  have hx0 : W0.heap[w.heap.size]? = some (.cells (stA xs) 133 (0, 0)) := by rw [hW0, heap_alloc_old _ _ (by simp)]; exact heap_alloc_new _ _
  have hz0 : W0.heap[w.heap.size + 1]? = some zSt := by
    have := heap_alloc_new (w.alloc (Obj.cells (stA xs) 133)) zSt
    rw [← hW0] at this
    simpa using this
  rw [← hW0]
  clear hW0
  refine (chaRounds_any _).mono ?_
  rintro e w2 ⟨f0, f1, f2, f3, f4, f5, f6, f7, rfl, hA, hb2⟩
  rename_i hK
  refine hK _ _ ?_
  clear hK
  replace hx0 := (hb2.block w.heap.size (by omega)).trans hx0
  replace hz0 := (hb2.block (w.heap.size + 1) (by omega)).trans hz0
  have hb02 := hb0.trans (hb2.mono hb0.size)
  have hs2 : w.heap.size + 2 ≤ w2.heap.size := by have := hb2.size; omega
  rw [hs0] at hA
  clear hb0 hb2
  refine step_to (v := .pointer (some ⟨w2.heap.size, 0, none⟩)) (w' := w2.alloc zRs) rfl (by first | kernel_rfl | rfl | (go_simp; rfl)) ?_
  have hone : (#[f0, f1, f2, f3, f4, f5, f6, f7] : Array Value).all (·.oneCell') = true := by simp [hA.r0.one, hA.r1.one, hA.r2.one, hA.r3.one, hA.r4.one, hA.r5.one, hA.r6.one, hA.r7.one]
  refine wpList_store_row rfl _ (.tmp 3) (.tmp 6) rfl w2.heap.size _ rfl rfl _ _ (heap_alloc_new w2 zRs) (by exact Tryz.infRs) (by rfl) hone ?_
  have hb3 : Below w2.heap.size w2 ((w2.alloc zRs).setRow w2.heap.size #[f0, f1, f2, f3, f4, f5, f6, f7]) := below_setRow ((Below.refl _ _).alloc (Nat.le_refl _) _) (Nat.le_refl _) _
  have hM : Mx w w2.heap.size (w.heap.size + 3) f0 f1 f2 f3 f4 f5 f6 f7 (tenN 0 xs) ((w2.alloc zRs).setRow w2.heap.size #[f0, f1, f2, f3, f4, f5, f6, f7]) :=
    ⟨(hb3.block _ (by omega)).trans hx0, (hb3.block _ (by omega)).trans hz0, setRow_heap _ _ _ _ _ _ (heap_alloc_new w2 zRs), hA.keep hb3, hb02.trans (hb3.mono (by omega))⟩
  obtain ⟨w3, hw3⟩ : ∃ w3, w3 = (w2.alloc zRs).setRow w2.heap.size #[f0, f1, f2, f3, f4, f5, f6, f7] := ⟨_, rfl⟩
  rw [← hw3] at hM ⊢
  obtain ⟨g3, hg3⟩ : ∃ g3, g3 = w2.heap.size := ⟨_, rfl⟩
  rw [← hg3] at hM ⊢
  have hgs : w.heap.size < g3 := by omega
  clear hw3 hb3 hone hx0 hz0 hA hb02 hg3 hs0 hs2
  go_wp2
  have HI : ∀ ys : List Int, isSt ys → (Tryz.prog.info? 133).map (·.size) = some (stA ys).size := fun ys hy => by rw [stA_size, hy.1]; exact Tryz.infSt
  go_loopw [7] (fun i wr => ∃ n : Nat, n ≤ 10 ∧ i = .int .i64 n ∧ Mx w g3 (w.heap.size + 3) f0 f1 f2 f3 f4 f5 f6 f7 (tenN n xs) wr) (fun i _ => 10 - (intOf i).toNat)
  case atStart => exact ⟨0, Nat.zero_le _, rfl, hM⟩
  case round =>
    obtain ⟨n, hn, rfl, hM1⟩ := hrel
    clear hM
    have hst := tenN_st n h
    by_cases hlt : n < 10
    · have hrs := Lib.hid hM1.rs
      go_wp2_with (first | (refine wpList_load_row rfl _ (.tmp 3) rfl g3 rfl _ _ _ _ hrs.out Tryz.undRs rfl (by exact Tryz.infRs) ?_))
      obtain ⟨ts, hts⟩ : ∃ ts, ts = tenN n xs := ⟨_, rfl⟩
      rw [← hts] at hst hM1
      have HTS := Lib.hid hts
      clear hts
      go_loopw [10] (fun i ws => ∃ m : Nat, m ≤ 8 ∧ i = .int .i64 m ∧ Mx w g3 (w.heap.size + 3) f0 f1 f2 f3 f4 f5 f6 f7 (eightN m ts) ws) (fun i _ => 8 - (intOf i).toNat)
      case atStart => exact ⟨0, Nat.zero_le _, rfl, hM1⟩
      case round =>
        obtain ⟨m, hm, rfl, hM2⟩ := hrel
        clear hM1
        have hst2 := eightN_st m hst
        by_cases hm8 : m < 8
        · have hc : m = 0 ∨ m = 1 ∨ m = 2 ∨ m = 3 ∨ m = 4 ∨ m = 5 ∨ m = 6 ∨ m = 7 := by omega
          have hs1 := Lib.hid hM2.st
          rcases hc with rfl | rfl | rfl | rfl | rfl | rfl | rfl | rfl
          · have hcl := hM2.all.r0
            have hix := idx0 f0 f1 f2 f3 f4 f5 f6 f7 wr
            have HM2 := Lib.hid hM2
            clear hM2
            obtain ⟨b1, b2, b3, b4, rfl, hbx, -⟩ := hcl
            go_wp2_with (first | (refine wpList_load_row rfl _ (.tmp 1) rfl w.heap.size rfl _ _ _ _ hs1.out Tryz.undSt rfl (HI _ hst2) ?_))
            refine (round_any _ 0 4 8 12 b1 b2 b3 b4 _ hst2.1 ⟨by decide, by decide, by decide, by decide, by decide, by decide, by decide, by decide, by decide, by decide⟩ hst2.2 hbx).mono ?_
            rintro e w4 ⟨rfl, hb4⟩
            have hM3 := HM2.out.keep hb4
            have hst3 : isSt (eightN (0 + 1) ts) := eightN_st (0 + 1) hst
            have hM4 := hM3.set hgs (by omega) (eightN (0 + 1) ts)
            have hst4 := hM3.st
            rename_i hK
            refine hK _ _ ?_
            refine wpList_store_row rfl _ (.tmp 1) (.tmp 15) rfl w.heap.size (stA (eightN (0 + 1) ts)) rfl rfl _ _ hst4 (HI _ hst3) (by rw [stA_size, stA_size, hst2.1, hst3.1]) (stA_one _) ?_
            clear hM3 hst4 hK HM2 hb4 hbx
            go_wp2
            go_roundw
            case rel => exact ⟨0 + 1, by omega, by go_num, hM4⟩
            case measure => simp [intOf]
          · have hcl := hM2.all.r1
            have hix := idx1 f0 f1 f2 f3 f4 f5 f6 f7 wr
            have HM2 := Lib.hid hM2
            clear hM2
            obtain ⟨b1, b2, b3, b4, rfl, hbx, -⟩ := hcl
            go_wp2_with (first | (refine wpList_load_row rfl _ (.tmp 1) rfl w.heap.size rfl _ _ _ _ hs1.out Tryz.undSt rfl (HI _ hst2) ?_))
            refine (round_any _ 1 5 9 13 b1 b2 b3 b4 _ hst2.1 ⟨by decide, by decide, by decide, by decide, by decide, by decide, by decide, by decide, by decide, by decide⟩ hst2.2 hbx).mono ?_
            rintro e w4 ⟨rfl, hb4⟩
            have hM3 := HM2.out.keep hb4
            have hst3 : isSt (eightN (1 + 1) ts) := eightN_st (1 + 1) hst
            have hM4 := hM3.set hgs (by omega) (eightN (1 + 1) ts)
            have hst4 := hM3.st
            rename_i hK
            refine hK _ _ ?_
            refine wpList_store_row rfl _ (.tmp 1) (.tmp 15) rfl w.heap.size (stA (eightN (1 + 1) ts)) rfl rfl _ _ hst4 (HI _ hst3) (by rw [stA_size, stA_size, hst2.1, hst3.1]) (stA_one _) ?_
            clear hM3 hst4 hK HM2 hb4 hbx
            go_wp2
            go_roundw
            case rel => exact ⟨1 + 1, by omega, by go_num, hM4⟩
            case measure => simp [intOf]
          · have hcl := hM2.all.r2
            have hix := idx2 f0 f1 f2 f3 f4 f5 f6 f7 wr
            have HM2 := Lib.hid hM2
            clear hM2
            obtain ⟨b1, b2, b3, b4, rfl, hbx, -⟩ := hcl
            go_wp2_with (first | (refine wpList_load_row rfl _ (.tmp 1) rfl w.heap.size rfl _ _ _ _ hs1.out Tryz.undSt rfl (HI _ hst2) ?_))
            refine (round_any _ 2 6 10 14 b1 b2 b3 b4 _ hst2.1 ⟨by decide, by decide, by decide, by decide, by decide, by decide, by decide, by decide, by decide, by decide⟩ hst2.2 hbx).mono ?_
            rintro e w4 ⟨rfl, hb4⟩
            have hM3 := HM2.out.keep hb4
            have hst3 : isSt (eightN (2 + 1) ts) := eightN_st (2 + 1) hst
            have hM4 := hM3.set hgs (by omega) (eightN (2 + 1) ts)
            have hst4 := hM3.st
            rename_i hK
            refine hK _ _ ?_
            refine wpList_store_row rfl _ (.tmp 1) (.tmp 15) rfl w.heap.size (stA (eightN (2 + 1) ts)) rfl rfl _ _ hst4 (HI _ hst3) (by rw [stA_size, stA_size, hst2.1, hst3.1]) (stA_one _) ?_
            clear hM3 hst4 hK HM2 hb4 hbx
            go_wp2
            go_roundw
            case rel => exact ⟨2 + 1, by omega, by go_num, hM4⟩
            case measure => simp [intOf]
          · have hcl := hM2.all.r3
            have hix := idx3 f0 f1 f2 f3 f4 f5 f6 f7 wr
            have HM2 := Lib.hid hM2
            clear hM2
            obtain ⟨b1, b2, b3, b4, rfl, hbx, -⟩ := hcl
            go_wp2_with (first | (refine wpList_load_row rfl _ (.tmp 1) rfl w.heap.size rfl _ _ _ _ hs1.out Tryz.undSt rfl (HI _ hst2) ?_))
            refine (round_any _ 3 7 11 15 b1 b2 b3 b4 _ hst2.1 ⟨by decide, by decide, by decide, by decide, by decide, by decide, by decide, by decide, by decide, by decide⟩ hst2.2 hbx).mono ?_
            rintro e w4 ⟨rfl, hb4⟩
            have hM3 := HM2.out.keep hb4
            have hst3 : isSt (eightN (3 + 1) ts) := eightN_st (3 + 1) hst
            have hM4 := hM3.set hgs (by omega) (eightN (3 + 1) ts)
            have hst4 := hM3.st
            rename_i hK
            refine hK _ _ ?_
            refine wpList_store_row rfl _ (.tmp 1) (.tmp 15) rfl w.heap.size (stA (eightN (3 + 1) ts)) rfl rfl _ _ hst4 (HI _ hst3) (by rw [stA_size, stA_size, hst2.1, hst3.1]) (stA_one _) ?_
            clear hM3 hst4 hK HM2 hb4 hbx
            go_wp2
            go_roundw
            case rel => exact ⟨3 + 1, by omega, by go_num, hM4⟩
            case measure => simp [intOf]
          · have hcl := hM2.all.r4
            have hix := idx4 f0 f1 f2 f3 f4 f5 f6 f7 wr
            have HM2 := Lib.hid hM2
            clear hM2
            obtain ⟨b1, b2, b3, b4, rfl, hbx, -⟩ := hcl
            go_wp2_with (first | (refine wpList_load_row rfl _ (.tmp 1) rfl w.heap.size rfl _ _ _ _ hs1.out Tryz.undSt rfl (HI _ hst2) ?_))
            refine (round_any _ 0 5 10 15 b1 b2 b3 b4 _ hst2.1 ⟨by decide, by decide, by decide, by decide, by decide, by decide, by decide, by decide, by decide, by decide⟩ hst2.2 hbx).mono ?_
            rintro e w4 ⟨rfl, hb4⟩
            have hM3 := HM2.out.keep hb4
            have hst3 : isSt (eightN (4 + 1) ts) := eightN_st (4 + 1) hst
            have hM4 := hM3.set hgs (by omega) (eightN (4 + 1) ts)
            have hst4 := hM3.st
            rename_i hK
            refine hK _ _ ?_
            refine wpList_store_row rfl _ (.tmp 1) (.tmp 15) rfl w.heap.size (stA (eightN (4 + 1) ts)) rfl rfl _ _ hst4 (HI _ hst3) (by rw [stA_size, stA_size, hst2.1, hst3.1]) (stA_one _) ?_
            clear hM3 hst4 hK HM2 hb4 hbx
            go_wp2
            go_roundw
            case rel => exact ⟨4 + 1, by omega, by go_num, hM4⟩
            case measure => simp [intOf]
          · have hcl := hM2.all.r5
            have hix := idx5 f0 f1 f2 f3 f4 f5 f6 f7 wr
            have HM2 := Lib.hid hM2
            clear hM2
            obtain ⟨b1, b2, b3, b4, rfl, hbx, -⟩ := hcl
            go_wp2_with (first | (refine wpList_load_row rfl _ (.tmp 1) rfl w.heap.size rfl _ _ _ _ hs1.out Tryz.undSt rfl (HI _ hst2) ?_))
            refine (round_any _ 1 6 11 12 b1 b2 b3 b4 _ hst2.1 ⟨by decide, by decide, by decide, by decide, by decide, by decide, by decide, by decide, by decide, by decide⟩ hst2.2 hbx).mono ?_
            rintro e w4 ⟨rfl, hb4⟩
            have hM3 := HM2.out.keep hb4
            have hst3 : isSt (eightN (5 + 1) ts) := eightN_st (5 + 1) hst
            have hM4 := hM3.set hgs (by omega) (eightN (5 + 1) ts)
            have hst4 := hM3.st
            rename_i hK
            refine hK _ _ ?_
            refine wpList_store_row rfl _ (.tmp 1) (.tmp 15) rfl w.heap.size (stA (eightN (5 + 1) ts)) rfl rfl _ _ hst4 (HI _ hst3) (by rw [stA_size, stA_size, hst2.1, hst3.1]) (stA_one _) ?_
            clear hM3 hst4 hK HM2 hb4 hbx
            go_wp2
            go_roundw
            case rel => exact ⟨5 + 1, by omega, by go_num, hM4⟩
            case measure => simp [intOf]
          · have hcl := hM2.all.r6
            have hix := idx6 f0 f1 f2 f3 f4 f5 f6 f7 wr
            have HM2 := Lib.hid hM2
            clear hM2
            obtain ⟨b1, b2, b3, b4, rfl, hbx, -⟩ := hcl
            go_wp2_with (first | (refine wpList_load_row rfl _ (.tmp 1) rfl w.heap.size rfl _ _ _ _ hs1.out Tryz.undSt rfl (HI _ hst2) ?_))
            refine (round_any _ 2 7 8 13 b1 b2 b3 b4 _ hst2.1 ⟨by decide, by decide, by decide, by decide, by decide, by decide, by decide, by decide, by decide, by decide⟩ hst2.2 hbx).mono ?_
            rintro e w4 ⟨rfl, hb4⟩
            have hM3 := HM2.out.keep hb4
            have hst3 : isSt (eightN (6 + 1) ts) := eightN_st (6 + 1) hst
            have hM4 := hM3.set hgs (by omega) (eightN (6 + 1) ts)
            have hst4 := hM3.st
            rename_i hK
            refine hK _ _ ?_
            refine wpList_store_row rfl _ (.tmp 1) (.tmp 15) rfl w.heap.size (stA (eightN (6 + 1) ts)) rfl rfl _ _ hst4 (HI _ hst3) (by rw [stA_size, stA_size, hst2.1, hst3.1]) (stA_one _) ?_
            clear hM3 hst4 hK HM2 hb4 hbx
            go_wp2
            go_roundw
            case rel => exact ⟨6 + 1, by omega, by go_num, hM4⟩
            case measure => simp [intOf]
          · have hcl := hM2.all.r7
            have hix := idx7 f0 f1 f2 f3 f4 f5 f6 f7 wr
            have HM2 := Lib.hid hM2
            clear hM2
            obtain ⟨b1, b2, b3, b4, rfl, hbx, -⟩ := hcl
            go_wp2_with (first | (refine wpList_load_row rfl _ (.tmp 1) rfl w.heap.size rfl _ _ _ _ hs1.out Tryz.undSt rfl (HI _ hst2) ?_))
            refine (round_any _ 3 4 9 14 b1 b2 b3 b4 _ hst2.1 ⟨by decide, by decide, by decide, by decide, by decide, by decide, by decide, by decide, by decide, by decide⟩ hst2.2 hbx).mono ?_
            rintro e w4 ⟨rfl, hb4⟩
            have hM3 := HM2.out.keep hb4
            have hst3 : isSt (eightN (7 + 1) ts) := eightN_st (7 + 1) hst
            have hM4 := hM3.set hgs (by omega) (eightN (7 + 1) ts)
            have hst4 := hM3.st
            rename_i hK
            refine hK _ _ ?_
            refine wpList_store_row rfl _ (.tmp 1) (.tmp 15) rfl w.heap.size (stA (eightN (7 + 1) ts)) rfl rfl _ _ hst4 (HI _ hst3) (by rw [stA_size, stA_size, hst2.1, hst3.1]) (stA_one _) ?_
            clear hM3 hst4 hK HM2 hb4 hbx
            go_wp2
            go_roundw
            case rel => exact ⟨7 + 1, by omega, by go_num, hM4⟩
            case measure => simp [intOf]
        · have hm9 : m = 8 := by omega
          subst hm9
          have hM3 : Mx w g3 (w.heap.size + 3) f0 f1 f2 f3 f4 f5 f6 f7 (tenN (n + 1) xs) wr := by
            show Mx w g3 (w.heap.size + 3) f0 f1 f2 f3 f4 f5 f6 f7 (eightN 8 (tenN n xs)) wr
            rw [← HTS.out]; exact hM2
          clear hM2
          go_wp2
          go_roundw
          case rel => exact ⟨n + 1, by omega, by go_num, hM3⟩
          case measure => simp [intOf]; omega
    · have hn10 : n = 10 := by omega
      subst hn10
      have hst1 := Lib.hid hM1.st
      have hre1 := Lib.hid hM1.res
      have hbl := hM1.bel
      go_wp2_with (first | (refine wpList_load_row rfl _ (.tmp 1) rfl w.heap.size rfl _ _ _ _ hst1.out Tryz.undSt rfl (HI _ hst) ?_) | (refine wpList_store_row rfl _ (.tmp 2) (.tmp 18) rfl (w.heap.size + 1) _ rfl rfl _ _ hre1.out (HI _ hst) (by rw [stA_size, hst.1]; rfl) (stA_one _) ?_))
      refine bodyPost_ret (results_cell_row rfl _ _ (w.heap.size + 1) _ _ _ _ rfl (setRow_heap _ _ _ _ _ _ hre1.out) Tryz.undSt rfl (HI _ hst)) rfl ?_
      exact ⟨rfl, below_setRow hbl (by omega) _⟩
end Go.Proofs.YtlipgmaiooljkaaGreatDoor

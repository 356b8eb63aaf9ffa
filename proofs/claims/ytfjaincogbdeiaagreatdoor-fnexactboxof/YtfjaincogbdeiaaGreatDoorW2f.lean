/- Contracts: the eight rounds as function values in an array. -/
import Derived.Test.YtfjaincogbdeiaaGreatDoorW2e
namespace Go.Proofs.YtfjaincogbdeiaaGreatDoor
open Go.ChangeShapes Go.WideShapes Go.ChangeAt Go.RowKit
set_option linter.unusedVariables false

theorem mem_set_u {xs : List Int} {i : Nat} {y : Int} (h : ∀ x ∈ xs, isU x) (hy : isU y) : ∀ x ∈ xs.set i y, isU x := fun x hx => by
  rcases List.mem_or_eq_of_mem_set hx with h1 | rfl
  · exact h x h1
  · exact hy
theorem getD_u {xs : List Int} (h : ∀ x ∈ xs, isU x) (i : Nat) : isU (xs.getD i 0) := by
  by_cases hi : i < xs.length
  · have : xs.getD i 0 = xs[i] := by simp [hi]
    rw [this]; exact h _ (List.getElem_mem _)
  · have : xs.getD i 0 = 0 := by simp [hi]
    rw [this]; exact ⟨by decide, by decide⟩
theorem qAt_u (i j k l : Nat) {xs : List Int} (h : ∀ x ∈ xs, isU x) : ∀ x ∈ qAt i j k l xs, isU x := by
  have ht := Four.turn_u (q := ⟨xs.getD i 0, xs.getD j 0, xs.getD k 0, xs.getD l 0⟩) ⟨getD_u h i, getD_u h j, getD_u h k, getD_u h l⟩
  unfold qAt upd
  exact mem_set_u (mem_set_u (mem_set_u (mem_set_u h ht.1) ht.2.1) ht.2.2.1) ht.2.2.2

/-- The first n of the eight rounds. -/
def rnd : Nat → List Int → List Int
  | 0 => qAt 0 4 8 12
  | 1 => qAt 1 5 9 13
  | 2 => qAt 2 6 10 14
  | 3 => qAt 3 7 11 15
  | 4 => qAt 0 5 10 15
  | 5 => qAt 1 6 11 12
  | 6 => qAt 2 7 8 13
  | 7 => qAt 3 4 9 14
  | _ => id
def eightN : Nat → List Int → List Int
  | 0, xs => xs
  | n + 1, xs => rnd n (eightN n xs)
def tenN : Nat → List Int → List Int
  | 0, xs => xs
  | n + 1, xs => eightN 8 (tenN n xs)
/-- A state: sixteen words. -/
def isSt (xs : List Int) : Prop := xs.length = 16 ∧ ∀ x ∈ xs, isU x
theorem rnd_st (n : Nat) {xs : List Int} (h : isSt xs) : isSt (rnd n xs) := by
  unfold rnd
  split <;> first | exact ⟨by rw [qAt_len]; exact h.1, qAt_u _ _ _ _ h.2⟩ | exact h
theorem eightN_st : ∀ (n : Nat) {xs : List Int}, isSt xs → isSt (eightN n xs)
  | 0, _, h => h
  | n + 1, _, h => rnd_st n (eightN_st n h)
theorem tenN_st : ∀ (n : Nat) {xs : List Int}, isSt xs → isSt (tenN n xs)
  | 0, _, h => h
  | n + 1, _, h => eightN_st 8 (tenN_st n h)

/-- A round at four places, as a function value whose boxes lie from 'lo' on. -/
def Clo (lo : Nat) (v : Value) (i j k l : Nat) (w : World) : Prop := ∃ b1 b2 b3 b4, v = .func (.func 168) #[] #[.pointer (some ⟨b1, 0, none⟩), .pointer (some ⟨b2, 0, none⟩), .pointer (some ⟨b3, 0, none⟩), .pointer (some ⟨b4, 0, none⟩)] ∧ Bx b1 b2 b3 b4 i j k l w ∧ lo ≤ b1 ∧ lo ≤ b2 ∧ lo ≤ b3 ∧ lo ≤ b4
theorem Clo.keep {lo : Nat} {v : Value} {i j k l : Nat} {w w' : World} (h : Clo lo v i j k l w) (hb : Below w.heap.size w w') : Clo lo v i j k l w' := by
  obtain ⟨b1, b2, b3, b4, e, hx, r⟩ := h
  obtain ⟨l1, l2, l3, l4⟩ := hx.lt
  exact ⟨b1, b2, b3, b4, e, hx.below hb l1 l2 l3 l4, r⟩
theorem Clo.setRow {lo g : Nat} {v : Value} {i j k l : Nat} {w : World} (h : Clo lo v i j k l w) (hg : g < lo) (cs : Array Value) : Clo lo v i j k l (w.setRow g cs) := by
  obtain ⟨b1, b2, b3, b4, e, hx, r1, r2, r3, r4⟩ := h
  refine ⟨b1, b2, b3, b4, e, ⟨?_, ?_, ?_, ?_⟩, r1, r2, r3, r4⟩
  · rw [cell_setRow_other _ _ _ _ (by simp; omega)]; exact hx.1
  · rw [cell_setRow_other _ _ _ _ (by simp; omega)]; exact hx.2.1
  · rw [cell_setRow_other _ _ _ _ (by simp; omega)]; exact hx.2.2.1
  · rw [cell_setRow_other _ _ _ _ (by simp; omega)]; exact hx.2.2.2
theorem Clo.low {lo lo' : Nat} {v : Value} {i j k l : Nat} {w : World} (h : Clo lo v i j k l w) (hl : lo' ≤ lo) : Clo lo' v i j k l w := by
  obtain ⟨b1, b2, b3, b4, e, hx, r1, r2, r3, r4⟩ := h
  exact ⟨b1, b2, b3, b4, e, hx, by omega, by omega, by omega, by omega⟩

theorem new_at (w : World) (v : Value) (t : TypeId) (g : Nat) (hg : g = w.heap.size) : (w.alloc (.cells #[v] t)).cell? ⟨g, 0, none⟩ = some v := by
  subst hg
  rw [cell_of_row _ _ _ _ _ _ (heap_alloc_new w _)]; rfl
theorem old_at (w : World) (o : Obj) (g : Nat) (hg : g < w.heap.size) : (w.alloc o).cell? ⟨g, 0, none⟩ = w.cell? ⟨g, 0, none⟩ := World.cell?_alloc_lt _ _ _ hg

theorem roundAt_any (i j k l : Nat) (w : World) :
    Calls Tryz.prog 163 #[.int .i64 i, .int .i64 j, .int .i64 k, .int .i64 l] w fun e w' => ∃ v, e = .returned v ∧ Clo w.heap.size v i j k l w' ∧ Below w.heap.size w w' := by
  go_enter Tryz.func163, Tryz.ntmps163
  go_wp2
  go_ret
  refine ⟨_, rfl, ⟨w.heap.size, w.heap.size + 1, w.heap.size + 2, w.heap.size + 3, rfl, ⟨?_, ?_, ?_, ?_⟩, by omega, by omega, by omega, by omega⟩, ?_⟩
  · rw [old_at _ _ _ (by simp; omega), old_at _ _ _ (by simp; omega), old_at _ _ _ (by simp)]; exact new_at _ _ _ _ rfl
  · rw [old_at _ _ _ (by simp), old_at _ _ _ (by simp)]; exact new_at _ _ _ _ (by simp)
  · rw [old_at _ _ _ (by simp)]; exact new_at _ _ _ _ (by simp)
  · exact new_at _ _ _ _ (by simp)
  · exact ((((Below.refl _ _).alloc (Nat.le_refl _) _).alloc (by simp) _).alloc (by simp; omega) _).alloc (by simp; omega) _

/-- The eight rounds. -/
structure All8 (lo : Nat) (f0 f1 f2 f3 f4 f5 f6 f7 : Value) (w : World) : Prop where
  r0 : Clo lo f0 0 4 8 12 w
  r1 : Clo lo f1 1 5 9 13 w
  r2 : Clo lo f2 2 6 10 14 w
  r3 : Clo lo f3 3 7 11 15 w
  r4 : Clo lo f4 0 5 10 15 w
  r5 : Clo lo f5 1 6 11 12 w
  r6 : Clo lo f6 2 7 8 13 w
  r7 : Clo lo f7 3 4 9 14 w
theorem All8.keep {lo : Nat} {f0 f1 f2 f3 f4 f5 f6 f7 : Value} {w w' : World} (h : All8 lo f0 f1 f2 f3 f4 f5 f6 f7 w) (hb : Below w.heap.size w w') : All8 lo f0 f1 f2 f3 f4 f5 f6 f7 w' :=
  ⟨h.r0.keep hb, h.r1.keep hb, h.r2.keep hb, h.r3.keep hb, h.r4.keep hb, h.r5.keep hb, h.r6.keep hb, h.r7.keep hb⟩
theorem All8.setRow {lo g : Nat} {f0 f1 f2 f3 f4 f5 f6 f7 : Value} {w : World} (h : All8 lo f0 f1 f2 f3 f4 f5 f6 f7 w) (hg : g < lo) (cs : Array Value) : All8 lo f0 f1 f2 f3 f4 f5 f6 f7 (w.setRow g cs) :=
  ⟨h.r0.setRow hg cs, h.r1.setRow hg cs, h.r2.setRow hg cs, h.r3.setRow hg cs, h.r4.setRow hg cs, h.r5.setRow hg cs, h.r6.setRow hg cs, h.r7.setRow hg cs⟩

theorem Tryz.undRs : Tryz.prog.underlying 169 = some (.array 8 168) := by kernel_rfl
theorem Tryz.infRs : (Tryz.prog.info? 169).map (·.size) = some 8 := by kernel_rfl
theorem Clo.one {lo : Nat} {v : Value} {i j k l : Nat} {w : World} (h : Clo lo v i j k l w) : v.oneCell' = true := by
  obtain ⟨b1, b2, b3, b4, rfl, _⟩ := h; rfl

set_option maxRecDepth 100000 in
set_option maxHeartbeats 1000000 in
theorem chaRounds_any (w : World) :
    Calls Tryz.prog 147 #[] w fun e w' => ∃ f0 f1 f2 f3 f4 f5 f6 f7, e = .returned (.agg #[f0, f1, f2, f3, f4, f5, f6, f7]) ∧ All8 (w.heap.size + 1) f0 f1 f2 f3 f4 f5 f6 f7 w' ∧ Below w.heap.size w w' := by
  go_enter Tryz.func147, Tryz.ntmps147
  go_wp2_with fail
  obtain ⟨zo, hzo⟩ : ∃ zo, zo = Obj.cells #[Value.nilFunc, Value.nilFunc, Value.nilFunc, Value.nilFunc, Value.nilFunc, Value.nilFunc, Value.nilFunc, Value.nilFunc] 169 := ⟨_, rfl⟩
  obtain ⟨wa, hwa⟩ : ∃ wa, wa = w.alloc zo := ⟨_, rfl⟩
  have hb0 : Below w.heap.size w wa := by rw [hwa]; exact (Below.refl _ _).alloc (Nat.le_refl _) _
  have hz0 : wa.heap[w.heap.size]? = some zo := by rw [hwa]; exact heap_alloc_new _ _
  have hs0 : w.heap.size < wa.heap.size := by rw [hwa]; simp
  rw [← hzo, ← hwa]
  have HZO := Lib.hid hzo
  clear hwa hzo
  refine (roundAt_any 0 4 8 12 _).mono ?_
  rintro e w1 ⟨f0, rfl, g0, hb1⟩
  replace g0 := g0.low (lo' := w.heap.size + 1) (by omega)
  replace hz0 := (hb1.block w.heap.size hs0).trans hz0
  replace hb0 := hb0.trans (hb1.mono (by omega))
  replace hs0 := Nat.lt_of_lt_of_le hs0 hb1.size
  clear hb1
  go_wp2_with fail
  refine (roundAt_any 1 5 9 13 _).mono ?_
  rintro e w2 ⟨f1, rfl, g1, hb2⟩
  replace g0 := g0.keep hb2
  replace g1 := g1.low (lo' := w.heap.size + 1) (by omega)
  replace hz0 := (hb2.block w.heap.size hs0).trans hz0
  replace hb0 := hb0.trans (hb2.mono (by omega))
  replace hs0 := Nat.lt_of_lt_of_le hs0 hb2.size
  clear hb2
  go_wp2_with fail
  refine (roundAt_any 2 6 10 14 _).mono ?_
  rintro e w3 ⟨f2, rfl, g2, hb3⟩
  replace g0 := g0.keep hb3
  replace g1 := g1.keep hb3
  replace g2 := g2.low (lo' := w.heap.size + 1) (by omega)
  replace hz0 := (hb3.block w.heap.size hs0).trans hz0
  replace hb0 := hb0.trans (hb3.mono (by omega))
  replace hs0 := Nat.lt_of_lt_of_le hs0 hb3.size
  clear hb3
  go_wp2_with fail
  refine (roundAt_any 3 7 11 15 _).mono ?_
  rintro e w4 ⟨f3, rfl, g3, hb4⟩
  replace g0 := g0.keep hb4
  replace g1 := g1.keep hb4
  replace g2 := g2.keep hb4
  replace g3 := g3.low (lo' := w.heap.size + 1) (by omega)
  replace hz0 := (hb4.block w.heap.size hs0).trans hz0
  replace hb0 := hb0.trans (hb4.mono (by omega))
  replace hs0 := Nat.lt_of_lt_of_le hs0 hb4.size
  clear hb4
  go_wp2_with fail
  refine (roundAt_any 0 5 10 15 _).mono ?_
  rintro e w5 ⟨f4, rfl, g4, hb5⟩
  replace g0 := g0.keep hb5
  replace g1 := g1.keep hb5
  replace g2 := g2.keep hb5
  replace g3 := g3.keep hb5
  replace g4 := g4.low (lo' := w.heap.size + 1) (by omega)
  replace hz0 := (hb5.block w.heap.size hs0).trans hz0
  replace hb0 := hb0.trans (hb5.mono (by omega))
  replace hs0 := Nat.lt_of_lt_of_le hs0 hb5.size
  clear hb5
  go_wp2_with fail
  refine (roundAt_any 1 6 11 12 _).mono ?_
  rintro e w6 ⟨f5, rfl, g5, hb6⟩
  replace g0 := g0.keep hb6
  replace g1 := g1.keep hb6
  replace g2 := g2.keep hb6
  replace g3 := g3.keep hb6
  replace g4 := g4.keep hb6
  replace g5 := g5.low (lo' := w.heap.size + 1) (by omega)
  replace hz0 := (hb6.block w.heap.size hs0).trans hz0
  replace hb0 := hb0.trans (hb6.mono (by omega))
  replace hs0 := Nat.lt_of_lt_of_le hs0 hb6.size
  clear hb6
  go_wp2_with fail
  refine (roundAt_any 2 7 8 13 _).mono ?_
  rintro e w7 ⟨f6, rfl, g6, hb7⟩
  replace g0 := g0.keep hb7
  replace g1 := g1.keep hb7
  replace g2 := g2.keep hb7
  replace g3 := g3.keep hb7
  replace g4 := g4.keep hb7
  replace g5 := g5.keep hb7
  replace g6 := g6.low (lo' := w.heap.size + 1) (by omega)
  replace hz0 := (hb7.block w.heap.size hs0).trans hz0
  replace hb0 := hb0.trans (hb7.mono (by omega))
  replace hs0 := Nat.lt_of_lt_of_le hs0 hb7.size
  clear hb7
  go_wp2_with fail
  refine (roundAt_any 3 4 9 14 _).mono ?_
  rintro e w8 ⟨f7, rfl, g7, hb8⟩
  replace g0 := g0.keep hb8
  replace g1 := g1.keep hb8
  replace g2 := g2.keep hb8
  replace g3 := g3.keep hb8
  replace g4 := g4.keep hb8
  replace g5 := g5.keep hb8
  replace g6 := g6.keep hb8
  replace g7 := g7.low (lo' := w.heap.size + 1) (by omega)
  replace hz0 := (hb8.block w.heap.size hs0).trans hz0
  replace hb0 := hb0.trans (hb8.mono (by omega))
  replace hs0 := Nat.lt_of_lt_of_le hs0 hb8.size
  clear hb8
  have HA := Lib.hid (All8.mk g0 g1 g2 g3 g4 g5 g6 g7)
  obtain ⟨x01, x02, x03, x04, rfl, -⟩ := g0
  obtain ⟨x11, x12, x13, x14, rfl, -⟩ := g1
  obtain ⟨x21, x22, x23, x24, rfl, -⟩ := g2
  obtain ⟨x31, x32, x33, x34, rfl, -⟩ := g3
  obtain ⟨x41, x42, x43, x44, rfl, -⟩ := g4
  obtain ⟨x51, x52, x53, x54, rfl, -⟩ := g5
  obtain ⟨x61, x62, x63, x64, rfl, -⟩ := g6
  obtain ⟨x71, x72, x73, x74, rfl, -⟩ := g7
  rename_i hK
  refine hK _ _ ?_
  refine wpList_buildTo rfl _ _ rfl (some 9) rfl #[.func (.func 168) #[] #[.pointer (some ⟨x01, 0, none⟩), .pointer (some ⟨x02, 0, none⟩), .pointer (some ⟨x03, 0, none⟩), .pointer (some ⟨x04, 0, none⟩)], .func (.func 168) #[] #[.pointer (some ⟨x11, 0, none⟩), .pointer (some ⟨x12, 0, none⟩), .pointer (some ⟨x13, 0, none⟩), .pointer (some ⟨x14, 0, none⟩)], .func (.func 168) #[] #[.pointer (some ⟨x21, 0, none⟩), .pointer (some ⟨x22, 0, none⟩), .pointer (some ⟨x23, 0, none⟩), .pointer (some ⟨x24, 0, none⟩)], .func (.func 168) #[] #[.pointer (some ⟨x31, 0, none⟩), .pointer (some ⟨x32, 0, none⟩), .pointer (some ⟨x33, 0, none⟩), .pointer (some ⟨x34, 0, none⟩)], .func (.func 168) #[] #[.pointer (some ⟨x41, 0, none⟩), .pointer (some ⟨x42, 0, none⟩), .pointer (some ⟨x43, 0, none⟩), .pointer (some ⟨x44, 0, none⟩)], .func (.func 168) #[] #[.pointer (some ⟨x51, 0, none⟩), .pointer (some ⟨x52, 0, none⟩), .pointer (some ⟨x53, 0, none⟩), .pointer (some ⟨x54, 0, none⟩)], .func (.func 168) #[] #[.pointer (some ⟨x61, 0, none⟩), .pointer (some ⟨x62, 0, none⟩), .pointer (some ⟨x63, 0, none⟩), .pointer (some ⟨x64, 0, none⟩)], .func (.func 168) #[] #[.pointer (some ⟨x71, 0, none⟩), .pointer (some ⟨x72, 0, none⟩), .pointer (some ⟨x73, 0, none⟩), .pointer (some ⟨x74, 0, none⟩)]] (by kernel_rfl) ?_
  refine wpList_store_row rfl _ (.tmp 0) (.tmp 9) rfl w.heap.size _ rfl rfl _ _ (hz0.trans (congrArg some HZO.out)) (by exact Tryz.infRs) (by kernel_rfl) (by kernel_rfl) ?_
  go_wp2
  refine bodyPost_ret (results_cell_row rfl _ _ w.heap.size _ _ _ _ rfl (setRow_heap _ _ _ _ _ _ (hz0.trans (congrArg some HZO.out))) Tryz.undRs rfl (by exact Tryz.infRs)) rfl ?_
  exact ⟨_, _, _, _, _, _, _, _, rfl, HA.out.setRow (Nat.lt_succ_self _) _, below_setRow hb0 (Nat.le_refl _) _⟩
end Go.Proofs.YtfjaincogbdeiaaGreatDoor

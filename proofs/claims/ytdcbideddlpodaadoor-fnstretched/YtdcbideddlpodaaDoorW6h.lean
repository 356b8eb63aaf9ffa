/- Contract: Stretched of the program (chapter 6). -/
import Derived.Test.YtdcbideddlpodaaDoorW6g
namespace Go.Proofs.YtdcbideddlpodaaDoor
open Go.ChangeShapes Go.WideShapes Go.ChangeAt Go.RowKit Go.Shelf
set_option linter.unusedVariables false

attribute [local go_sem] Oper.semAt_some

def ptsX (pre : List Pt) : ByteArray := pre.foldl (fun a x => xorB a x.1) (nghB 32)
theorem ptsX_snoc (pre : List Pt) (x : Pt) : ptsX (pre ++ [x]) = xorB (ptsX pre) x.1 := by unfold ptsX; rw [List.foldl_append]; rfl
theorem ptsX_all (key : ByteArray) (T : Nat → ByteArray → ByteArray) : ∀ k, ptsX (ptL key T k) = ptX key T k
  | 0 => rfl
  | k + 1 => by rw [ptL, ptsX_snoc, ptsX_all key T k]; rfl
theorem fold_size : ∀ (pre : List Pt) (a : ByteArray), a.size = 32 → (pre.foldl (fun a (x : Pt) => xorB a x.1) a).size = 32
  | [], a, h => h
  | x :: pre, a, h => fold_size pre _ (by show (xorB a x.1).size = 32; rw [xorB_size _ _ (by rw [h, x.2]; omega), h])
theorem ptsX_size (pre : List Pt) : (ptsX pre).size = 32 := fold_size pre _ (nghB_size 32)
theorem boxF_own {β : Type} (B : Nat) (t : TypeId) (f : β → Value) : Own (fun s W => Boxed W B t (f s)) := fun s X Y row hs hg hrow =>
  (hg.block B hs.lt (fun e' => by obtain ⟨o, ho, hc⟩ := hrow B e'.symm; rw [show X.heap[B]? = _ from hs] at ho; cases ho; cases hc)).trans hs

set_option maxRecDepth 100000 in
set_option maxHeartbeats 2000000 in
theorem implStretched_any (key info : ByteArray) (n : Int) (w : World) (hk : key.size ≤ maxLen) (hi : info.size ≤ maxLen) (hn : (Lit.int .i64 n).wf = true) (hF : FTab w) (hK : KTab w) :
    Calls Tryd.prog 28 #[.string key, .string info, .int .i64 n] w fun e w' => e = .returned (.string (srR key info n)) ∧ Below w.heap.size w w' := by
  unfold maxLen at hk hi
  have hB1 : Hid (Below w.heap.size w (w.alloc (.cells #[.string info] 9))) := Lib.hid ((Below.refl _ _).alloc (Nat.le_refl _) _)
  by_cases h1 : key.size ≤ 1000
  · by_cases h2 : info.size ≤ 1000
    · by_cases h3 : 1 ≤ n
      · by_cases h4 : n ≤ 50
        · obtain ⟨m, rfl⟩ := Int.eq_ofNat_of_zero_le (show 0 ≤ n by omega)
          have HE : Hid (srR key info (m : Int) = ptX key (stT info) m) := Lib.hid (by unfold srR; rw [if_pos ⟨h1, h2, h3, h4⟩]; rfl)
          have HH1 : Hid (key.size ≤ 4000) := Lib.hid (by omega)
          have HH2 := Lib.hid h2
          have HC : Hid (m ≤ 100) := Lib.hid (by omega)
          generalize srR key info (m : Int) = out at HE ⊢
          have hd1 : ¬ (1000 < (key.size : Int)) := by omega
          have hd2 : ¬ (1000 < (info.size : Int)) := by omega
          have z1 : ¬ ((m : Int) < 1) := by omega
          have z2 : ¬ (50 < (m : Int)) := by omega
          have HF := Lib.hid hF
          have HK := Lib.hid hK
          clear h1 h2 hk hi hF hK
          refine (callsIn_wide (n := 5)).1 ?_
          have hF1 : Fence.wide.fn 50 := trivial
          have hF2 : Fence.wide.fn 73 := trivial
          have hF3 : Fence.wide.fn 53 := trivial
          have hF4 : Fence.wide.fn 30 := trivial
          refine callsIn_of_wp_marks Tryd.func28 rfl trivial ?_ rfl
          simp only [Tryd.ntmps28, List.size_toArray, List.length_cons, List.length_nil, Nat.reduceAdd, Nat.reduceSub, Array.replicate_succ, Array.replicate_zero, List.push_toArray, List.append_toArray, List.nil_append, List.cons_append]
          gi_wp2_with fail
          refine ((callsIn_wide (n := 4)).2 (noughts_any 32 _ (by omega))).mono ?_
          rintro e w0 ⟨rfl, hb0⟩
          have hB00 : Below w.heap.size w w0 := hB1.out.trans (hb0.mono (by simp))
          have bI0 : Boxed w0 w.heap.size 9 (.string info) := blk_below (Boxed.new w 9 (.string info)) hb0 (Nat.le_refl _)
          have hsz0 := hb0.size
          rw [World.size_alloc] at hsz0
          clear hb0
          have HN : Hid (ptsX [] = nghB 32) := Lib.hid rfl
          generalize nghB 32 = Z at HN ⊢
          gi_wp2_with fail
          refine ((callsIn_wide (n := 4)).2 (hmacParts_any key m (.func 52) #[.pointer (some ⟨w.heap.size, 0, none⟩)] _)).mono ?_
          rintro e w' ⟨rfl, rfl⟩
          gi_wp2
          have bO := (((Boxed.new w0 9 (.string Z)).alloc (.cells #[.string key] 9)).alloc (.cells #[.int .i64 (m : Int)] 2)).alloc (.cells #[.func (.func 52) #[] #[.pointer (some ⟨w.heap.size, 0, none⟩)]] 51)
          have bI := (((bI0.alloc (.cells #[.string Z] 9)).alloc (.cells #[.string key] 9)).alloc (.cells #[.int .i64 (m : Int)] 2)).alloc (.cells #[.func (.func 52) #[] #[.pointer (some ⟨w.heap.size, 0, none⟩)]] 51)
          have bK := ((Boxed.new (w0.alloc (.cells #[.string Z] 9)) 9 (.string key)).alloc (.cells #[.int .i64 (m : Int)] 2)).alloc (.cells #[.func (.func 52) #[] #[.pointer (some ⟨w.heap.size, 0, none⟩)]] 51)
          have bC := (Boxed.new ((w0.alloc (.cells #[.string Z] 9)).alloc (.cells #[.string key] 9)) 2 (.int .i64 (m : Int))).alloc (.cells #[.func (.func 52) #[] #[.pointer (some ⟨w.heap.size, 0, none⟩)]] 51)
          have bT := Boxed.new (((w0.alloc (.cells #[.string Z] 9)).alloc (.cells #[.string key] 9)).alloc (.cells #[.int .i64 (m : Int)] 2)) 51 (.func (.func 52) #[] #[.pointer (some ⟨w.heap.size, 0, none⟩)])
          have hB0 : Below w.heap.size w ((((w0.alloc (.cells #[.string Z] 9)).alloc (.cells #[.string key] 9)).alloc (.cells #[.int .i64 (m : Int)] 2)).alloc (.cells #[.func (.func 52) #[] #[.pointer (some ⟨w.heap.size, 0, none⟩)]] 51)) := (((hB00.alloc (by omega) _).alloc (by simp; omega) _).alloc (by simp; omega) _).alloc (by simp; omega) _
          simp only [World.size_alloc] at bK bC bT
          obtain ⟨V0, hVe⟩ : ∃ V0, V0 = ((((w0.alloc (.cells #[.string Z] 9)).alloc (.cells #[.string key] 9)).alloc (.cells #[.int .i64 (m : Int)] 2)).alloc (.cells #[.func (.func 52) #[] #[.pointer (some ⟨w.heap.size, 0, none⟩)]] 51)) := ⟨_, rfl⟩
          have hVs : V0.heap.size = w0.heap.size + 4 := by rw [hVe]; simp
          rw [← hVe] at bO bI bK bC bT hB0
          rw [← hVe]
          clear hVe bI0 hB00
          have hPG : PG (w0.heap.size + 1) (w0.heap.size + 1 + 1) (w0.heap.size + 1 + 2) w.heap.size key info m (.func (.func 52) #[] #[.pointer (some ⟨w.heap.size, 0, none⟩)]) V0 := ⟨bK, bC, bT, bI, HF.out.below hB0 (Nat.le_refl _), HK.out.below hB0 (Nat.le_refl _)⟩
          refine wpIn_rangeFunc_ownG rfl (by decide) (gf := 73) (lb := #[.pointer (some ⟨w0.heap.size + 1 + 1, 0, none⟩), .pointer (some ⟨w0.heap.size + 1, 0, none⟩), .pointer (some ⟨w0.heap.size + 1 + 2, 0, none⟩)]) rfl trivial (enters_of Tryd.func73 (by kernel_rfl) rfl)
            (stParts_stops 4 (by decide) _ _ _ w.heap.size key info m HH1.out HH2.out HC.out V0 hPG) (fun h k g => k (h g)) (fun W l o o' _ ho hn _ g => g.put o' ho hn) (Below.refl _ _) (fun _ => rfl)
            (fun (pre : List Pt) W => (Boxed W w0.heap.size 9 (.string (ptsX pre)) ∧ PG (w0.heap.size + 1) (w0.heap.size + 1 + 1) (w0.heap.size + 1 + 2) w.heap.size key info m (.func (.func 52) #[] #[.pointer (some ⟨w.heap.size, 0, none⟩)]) W) ∧ Below w.heap.size w W)
            (fun _ _ _ => False)
            (OwnFrom.and (OwnFrom.and (Own.from (boxF_own w0.heap.size 9 (fun (pre : List Pt) => .string (ptsX pre))) _) (Own.from (pg_own _ _ _ _ _ _ _ _) _)) (ownFrom_below (Nat.le_refl _) (by omega)))
            (fun _ _ _ _ _ hs _ _ => hs)
            ⟨⟨by rw [HN.out]; exact bO, hPG⟩, hB0⟩
            (fun x => { tmps := #[Value.string key, Value.string info, Value.int IntKind.i64 ↑m, undef,
          Value.pointer (some { block := w.heap.size, off := 0 }), undef, Value.string { data := #[] },
          Value.func (Fn.func 52) #[] #[Value.pointer (some { block := w.heap.size, off := 0 })],
          Value.pointer (some { block := w0.heap.size, off := 0 }), .string x.1, Value.string key,
          Value.int IntKind.i64 ↑key.size, Value.bool false, Value.bool false, Value.string info,
          Value.int IntKind.i64 ↑info.size, Value.bool false, Value.bool false, Value.bool false,
          Value.int IntKind.i64 ↑m, Value.bool false, Value.bool false, Value.bool false, Value.int IntKind.i64 ↑m,
          Value.bool false, Value.bool false,
          Value.func (Fn.func 52) #[] #[Value.pointer (some { block := w.heap.size, off := 0 })], Value.string Z,
          Value.string key, Value.int IntKind.i64 ↑m,
          Value.func (Fn.func 52) #[] #[Value.pointer (some { block := w.heap.size, off := 0 })],
          Value.func (Fn.func 73) #[]
            #[Value.pointer (some { block := w0.heap.size + 1 + 1, off := 0 }),
              Value.pointer (some { block := w0.heap.size + 1, off := 0 }),
              Value.pointer (some { block := w0.heap.size + 1 + 2, off := 0 })],
          .string x.1, undef, undef, undef, undef], defers := [] }) ?assign ?body ?done ?stop
          case assign =>
            intro l x W K hK
            gi_wp2
            exact hK
          case body =>
            rintro l pre x W ⟨⟨hv, hP⟩, hB⟩ hlt
            have HSN := Lib.hid (ptsX_snoc pre x)
            have hs1 := ptsX_size pre
            have hs2 := x.2
            have hX := fun w => implXor_any (ptsX pre) x.1 w (by unfold maxLen; omega) (by unfold maxLen; omega)
            rw [show xorR (ptsX pre) x.1 = ptsX (pre ++ [x]) by rw [HSN.out]; unfold xorR; rw [if_pos ⟨by omega, by omega⟩]] at hX
            have HX := Lib.hid hX
            generalize ptsX pre = A at hv HX HSN hs1
            have hc := hv.cell
            have hBs := hB.size
            clear hX hs1 hs2
            gi_wp2_with (gi_at_call 30; refine (CallsIn.inRound l (callsIn_wide.2 (HX.out _))).mono ?_; rintro e w1 ⟨rfl, hb1⟩; have hv1 : Boxed w1 w0.heap.size 9 (.string A) := blk_below hv hb1 (Nat.le_refl _); have hc1 := hv1.cell; have hf1 := hv1.frozen)
            have hb2 : Below w.heap.size w (w1.setCell ⟨w0.heap.size, 0, none⟩ (.string (ptsX (pre ++ [x])))) := (hB.trans (hb1.mono hBs)).setCell (p := ⟨w0.heap.size, 0, none⟩) (by show w.heap.size ≤ w0.heap.size; omega) _
            have hP1 := hP.below hb1 (Nat.le_refl _)
            have hP2 : PG (w0.heap.size + 1) (w0.heap.size + 1 + 1) (w0.heap.size + 1 + 2) w.heap.size key info m (.func (.func 52) #[] #[.pointer (some ⟨w.heap.size, 0, none⟩)]) (w1.setCell ⟨w0.heap.size, 0, none⟩ (.string (ptsX (pre ++ [x])))) := ⟨blk_cell _ hP1.k (by omega), blk_cell _ hP1.c (by omega), blk_cell _ hP1.t (by omega), blk_cell _ hP1.i (by omega), HF.out.below hb2 (Nat.le_refl _), HK.out.below hb2 (Nat.le_refl _)⟩
            exact ⟨((KeepsOthers.of_grownBy (grownBy_below hb1) (fun j o ej _ => by cases ej)).trans (KeepsOthers.setCell _ _ _)).from _, fun _ => hP2, ⟨hv1.set _, hP2⟩, hb2⟩
          case done =>
            rintro D ys W hD rfl ⟨⟨hv, hP⟩, hB⟩ hK
            rw [ptsX_all, ← HE.out] at hv
            have hc := hv.cell
            clear hv
            gi_wp2
            refine ⟨by simp, .inl ⟨_, _, rfl, run_takeDeferred hK, ?_⟩⟩
            exact ⟨_, results_tmp rfl _ _ _, rfl, hB.trans (belowK_b (w := w) (Nat.le_refl _) W D _ _ (by omega) hK rfl rfl)⟩
          case stop =>
            rintro D c pre W _ _ h _
            exact h.elim
        · have HR : Hid (srR key info n = ⟨#[]⟩) := Lib.hid (by unfold srR; rw [if_neg (by omega)])
          rw [HR.out]
          have hd1 : ¬ (1000 < (key.size : Int)) := by omega
          have hd2 : ¬ (1000 < (info.size : Int)) := by omega
          have z1 : ¬ (n < 1) := by omega
          have z2 : 50 < n := by omega
          clear hF hK
          go_enter Tryd.func28, Tryd.ntmps28
          go_wp2
          go_ret
          exact ⟨rfl, hB1.out⟩
      · have HR : Hid (srR key info n = ⟨#[]⟩) := Lib.hid (by unfold srR; rw [if_neg (by omega)])
        rw [HR.out]
        have hd1 : ¬ (1000 < (key.size : Int)) := by omega
        have hd2 : ¬ (1000 < (info.size : Int)) := by omega
        have z1 : n < 1 := by omega
        clear hF hK
        go_enter Tryd.func28, Tryd.ntmps28
        go_wp2
        go_ret
        exact ⟨rfl, hB1.out⟩
    · have HR : Hid (srR key info n = ⟨#[]⟩) := Lib.hid (by unfold srR; rw [if_neg (by omega)])
      rw [HR.out]
      have hd1 : ¬ (1000 < (key.size : Int)) := by omega
      have hd2 : 1000 < (info.size : Int) := by omega
      clear hF hK
      go_enter Tryd.func28, Tryd.ntmps28
      go_wp2
      go_ret
      exact ⟨rfl, hB1.out⟩
  · have HR : Hid (srR key info n = ⟨#[]⟩) := Lib.hid (by unfold srR; rw [if_neg (by omega)])
    rw [HR.out]
    have hd1 : 1000 < (key.size : Int) := by omega
    clear hF hK
    go_enter Tryd.func28, Tryd.ntmps28
    go_wp2
    go_ret
    exact ⟨rfl, hB1.out⟩
end Go.Proofs.YtdcbideddlpodaaDoor

/- Contracts: the state of a text, the words of a block (chapter 5). -/
import Derived.Test.YtdcbideddlpodaaDoorW5d
import Derived.Test.YtdcbideddlpodaaDoorW5c
namespace Go.Proofs.YtdcbideddlpodaaDoor
open Go.ChangeShapes Go.WideShapes Go.ChangeAt Go.RowKit Go.Shelf
set_option linter.unusedVariables false

attribute [local go_sem] Oper.semAt_some

/-- Words put at their places of a row. -/
def putR {M : Nat} (z : List Int) (pre : List (PW M)) : List Int := pre.foldl (fun zs x => zs.set x.1.1 x.1.2) z
theorem putR_snoc {M : Nat} (z : List Int) (pre : List (PW M)) (x : PW M) : putR z (pre ++ [x]) = (putR z pre).set x.1.1 x.1.2 := by
  unfold putR; rw [List.foldl_append]; rfl
theorem putR_len {M : Nat} (z : List Int) (pre : List (PW M)) : (putR z pre).length = z.length := by
  unfold putR
  induction pre generalizing z with
  | nil => rfl
  | cons x pre ih => rw [List.foldl_cons, ih]; simp
theorem putR_pws (s : ByteArray) (N : Nat) (hN : s.size / 4 ≤ N) : ∀ k, k ≤ s.size / 4 → putR (List.replicate N 0) ((pws s (s.size / 4) k).map rvP) = (beL s.data.toList).take k ++ List.replicate (N - k) 0
  | 0, _ => by simp [pws, putR]
  | k + 1, h => by
    have hl : (beL s.data.toList).length = s.size / 4 := by rw [beL_len]; simp
    have hk : k < (beL s.data.toList).length := by omega
    have ih := putR_pws s N hN k (by omega)
    have hp : 4 * k + 3 < s.data.toList.length := by simp; omega
    have hg := loadL_get s.data.toList k hp
    have hkl : k < (loadL s.data.toList).length := by rw [loadL_len]; simp; omega
    rw [List.getElem?_eq_getElem hkl] at hg
    have hg' := Option.some.inj hg
    have hp' : 4 * k + 3 < s.size := by omega
    have hw0 : (beL s.data.toList)[k]? = some (rev32 (wordAt s k)) := by
      unfold beL
      rw [List.getElem?_map, List.getElem?_eq_getElem hkl, hg']
      simp only [wordAt, dif_pos hp']
      rfl
    rw [List.getElem?_eq_getElem hk] at hw0
    have hw := (Option.some.inj hw0).symm
    rw [pws, dif_pos (by omega), List.map_append, List.map_cons, List.map_nil, putR_snoc, ih]
    have htl : ((beL s.data.toList).take k).length = k := by simp; omega
    show ((beL s.data.toList).take k ++ List.replicate (N - k) 0).set k (rev32 (wordAt s k)) = _
    rw [List.set_append_right _ _ (by omega), htl, Nat.sub_self, show N - k = (N - (k + 1)) + 1 by omega, List.replicate_succ, List.set_cons_zero, hw, List.take_succ_eq_append_getElem hk, List.append_assoc]
    rfl
theorem putR_all (s : ByteArray) (N : Nat) (hN : s.size / 4 ≤ N) : putR (List.replicate N 0) ((pws s (s.size / 4) (s.size / 4)).map rvP) = beL s.data.toList ++ List.replicate (N - s.size / 4) 0 := by
  rw [putR_pws s N hN _ (Nat.le_refl _), List.take_of_length_le (by rw [beL_len]; simp)]
theorem arr_own {β : Type} (B : Nat) (t : TypeId) (f : β → List Int) : Own (fun s W => Arr W B t .u32 (f s)) := fun s X Y row hs hg hrow =>
  (hg.block B hs.lt (fun e' => by obtain ⟨o, ho, hc⟩ := hrow B e'.symm; rw [show X.heap[B]? = _ from hs] at ho; cases ho; cases hc)).trans hs

set_option maxRecDepth 100000 in
set_option maxHeartbeats 2000000 in
theorem stateOf_any (s : ByteArray) (w : World) (hs : s.size = 32) :
    Calls Tryd.prog 42 #[.string s] w fun e w' => e = .returned (.agg (stK .u32 (beL s.data.toList))) ∧ Below w.heap.size w w' := by
  refine (callsIn_wide (n := 7)).1 ?_
  have hF1 : Fence.wide.fn 60 := trivial
  have hF2 : Fence.wide.fn 77 := trivial
  refine callsIn_of_wp_marks Tryd.func42 rfl trivial ?_ rfl
  simp only [Tryd.ntmps42, List.size_toArray, List.length_cons, List.length_nil, Nat.reduceAdd, Nat.reduceSub, Array.replicate_succ, Array.replicate_zero, List.push_toArray, List.append_toArray, List.nil_append, List.cons_append]
  gi_wp2_with fail
  refine ((callsIn_wide (n := 6)).2 (beWords_any s _)).mono ?_
  rintro e w' ⟨rfl, rfl⟩
  gi_wp2
  have bN := Boxed.new ((w.alloc z8).alloc z8) 9 (.string s)
  have hz0 := (Arr.new w 44 .u32 (List.replicate 8 0)).alloc z8
  have hz1 := Arr.new (w.alloc z8) 44 .u32 (List.replicate 8 0)
  have hB : Below w.heap.size w (((w.alloc z8).alloc z8).alloc (.cells #[.string s] 9)) := (((Below.refl _ _).alloc (Nat.le_refl _) _).alloc (by simp) _).alloc (by simp; omega) _
  have hz0' : Arr (((w.alloc z8).alloc z8).alloc (.cells #[.string s] 9)) w.heap.size 44 .u32 (List.replicate 8 0) := hz0.alloc _
  have hz1' : Arr (((w.alloc z8).alloc z8).alloc (.cells #[.string s] 9)) (w.heap.size + 1) 44 .u32 (List.replicate 8 0) := by
    have := Arr.alloc hz1 (.cells #[.string s] 9)
    rw [World.size_alloc] at this
    exact this
  rw [World.size_alloc, World.size_alloc] at bN
  change Code.wpIn _ _ _ _ _ _ (((w.alloc z8).alloc z8).alloc (.cells #[.string s] 9))
  obtain ⟨V0, hV0⟩ : ∃ V0, V0 = ((w.alloc z8).alloc z8).alloc (.cells #[.string s] 9) := ⟨_, rfl⟩
  have hVs : V0.heap.size = w.heap.size + 3 := by rw [hV0]; simp
  rw [← hV0] at bN hB hz0' hz1' ⊢
  clear hV0 hz0 hz1
  have hs4 : s.size / 4 = 8 := by omega
  have HS4 := Lib.hid hs4
  have hbl : (beL s.data.toList).length = 8 := by rw [beL_len]; simp; omega
  have HPA : Hid (putR (List.replicate 8 0) ((pws s (s.size / 4) (s.size / 4)).map rvP) = beL s.data.toList) := Lib.hid (by rw [putR_all s 8 (by omega), hs4]; simp)
  have HI := Lib.hid (show (Tryd.prog.info? 44).map (·.size) = some (stK .u32 (beL s.data.toList)).size by rw [stK_size, hbl]; exact Tryd.infS)
  have HSZ := Lib.hid (show (stK .u32 (List.replicate 8 0)).size = (stK .u32 (beL s.data.toList)).size by rw [stK_size, stK_size, hbl]; rfl)
  have HB0 := Lib.hid hB
  clear hs4 hbl hB
  refine wpIn_rangeFunc_thru rfl (by decide) (gf := 77) (lb := #[.pointer (some ⟨w.heap.size + 1 + 1, 0, none⟩)]) rfl trivial (enters_of Tryd.func77 (by kernel_rfl) rfl)
    (beWords1_thru (w.heap.size + 1 + 1) s (by omega) V0 bN) (Below.refl _ _) (fun _ => rfl)
    (fun (pre : List (PW (s.size / 4))) W => (Arr W (w.heap.size + 1) 44 .u32 (putR (List.replicate 8 0) pre) ∧ Arr W w.heap.size 44 .u32 (List.replicate 8 0)) ∧ Below w.heap.size w W)
    (OwnFrom.and (OwnFrom.and (Own.from (arr_own (w.heap.size + 1) _ (fun (pre : List (PW (s.size / 4))) => putR (List.replicate 8 0) pre)) _) (Own.from (arr_own w.heap.size _ (fun _ => List.replicate 8 0)) _)) (ownFrom_below (Nat.le_refl _) (by omega)))
    ⟨⟨hz1', hz0'⟩, HB0.out⟩
    (fun x => { tmps := #[Value.string s, undef, Value.pointer (some { block := w.heap.size, off := 0 }),
          Value.pointer (some { block := w.heap.size + 1, off := 0 }), .int .i64 (x.1.1 : Int), .int .u32 x.1.2, Value.string s,
          Value.func (Fn.func 77) #[] #[Value.pointer (some { block := w.heap.size + 1 + 1, off := 0 })], .int .i64 (x.1.1 : Int), .int .u32 x.1.2,
          undef, undef, undef, undef], defers := [] }) ?assign ?body ?done
  case assign =>
    intro l x W K hK
    gi_wp2
    exact hK
  case body =>
    rintro pre x W ⟨⟨hA, hZ⟩, hB⟩ hlt
    have hp8 : x.1.1 < 8 := by have := x.2.1; have := HS4.out; omega
    have hlen : (putR (List.replicate 8 0) pre).length = 8 := by rw [putR_len]; rfl
    have hc := hA.cell x.1.1 (by rw [hlen]; exact hp8)
    have hf := hA.frozen x.1.1
    have hA2 := hA.set x.1.1 x.1.2
    rw [← putR_snoc] at hA2
    have HA2 := Lib.hid hA2
    obtain ⟨old, hold⟩ : ∃ old, old = (putR (List.replicate 8 0) pre)[x.1.1]'(by rw [hlen]; exact hp8) := ⟨_, rfl⟩
    rw [← hold] at hc
    clear hA hA2 hold hlen
    gi_wp2
    exact ⟨(KeepsOthers.setCell _ _ _).from _, Above.setCell _ _ _ _ (by omega), ⟨HA2.out, hZ.other _ _ _ (by omega)⟩, hB.setCell (p := ⟨w.heap.size + 1, x.1.1, none⟩) (by simp) _⟩
  case done =>
    rintro D ys W hD rfl ⟨⟨hA, hZ⟩, hB⟩ hK
    rename_i hcont
    refine hcont _ _ ?_
    clear hcont
    rw [HPA.out] at hA
    have HA := Lib.hid hA
    have HZ := Lib.hid hZ
    have hD2 : w.heap.size + 3 ≤ D := by omega
    have hK2 : (W.setRow w.heap.size (stK .u32 (beL s.data.toList))).heap[D]? = some (.deferred (some [])) := by
      rw [setRow_other _ _ _ _ (by omega)]; exact hK
    have hZ2 : Arr (W.setRow w.heap.size (stK .u32 (beL s.data.toList))) w.heap.size 44 .u32 (beL s.data.toList) := setRow_heap _ _ _ _ _ _ hZ
    have hZ3 : ((W.setRow w.heap.size (stK .u32 (beL s.data.toList))).putObj D (.deferred none)).heap[w.heap.size]? = some (.cells (stK .u32 (beL s.data.toList)) 44 (0, 0)) := by
      rw [World.putObj_heap_other (by omega)]; exact hZ2
    have hB2 := below_setRow hB (Nat.le_refl _) (stK .u32 (beL s.data.toList))
    have HK2 := Lib.hid hK2
    have HZ3 := Lib.hid hZ3
    have HB2 := Lib.hid hB2
    clear hA hZ hB hK hK2 hZ2 hZ3 hB2
    refine wpIn_wide.2 ?_
    go_wp2_with (first | (refine wpList_load_row rfl _ (.tmp 3) rfl (w.heap.size + 1) rfl _ _ _ _ HA.out Tryd.undS rfl HI.out ?_) | (refine wpList_store_row rfl _ (.tmp 2) (.tmp 13) rfl w.heap.size _ rfl rfl _ _ HZ.out HI.out HSZ.out (stK_one _ _) ?_))
    refine ⟨by simp, .inl ⟨_, _, rfl, run_takeDeferred HK2.out, ?_⟩⟩
    exact ⟨_, results_cell_row rfl _ _ w.heap.size _ _ _ _ rfl HZ3.out Tryd.undS rfl HI.out, rfl, HB2.out.trans (belowK_b (w := w) (Nat.le_refl _) _ D _ _ (by omega) HK2.out rfl rfl)⟩
end Go.Proofs.YtdcbideddlpodaaDoor

/- Contract: the sixteen words that a block of the program begins with. -/
import Derived.Test.YtfjaincogbdeiaaGreatDoorW2i
import Derived.Test.YtfjaincogbdeiaaGreatDoorW2g
namespace Go.Proofs.YtfjaincogbdeiaaGreatDoor
open Go.ChangeShapes Go.WideShapes Go.ChangeAt Go.RowKit Go.Shelf
set_option linter.unusedVariables false

attribute [local go_sem] Oper.semAt_some

theorem loadL_append : ∀ (a b : List UInt8), a.length % 4 = 0 → loadL (a ++ b) = loadL a ++ loadL b
  | [], b, _ => rfl
  | [_], b, h => by simp at h
  | [_, _], b, h => by simp at h
  | [_, _, _], b, h => by simp at h
  | x :: y :: z :: t :: a, b, h => by
    have ih := loadL_append a b (by simp at h; omega)
    simp only [List.cons_append, loadL, ih]
theorem loadL_le4 (x : Int) (h0 : 0 ≤ x) (h1 : x ≤ 4294967295) : loadL (le4 x) = [x] := by
  unfold le4; simp only [loadL]; rw [le1_le4 x h0 h1]
theorem stR_one (c : Int) (h0 : 0 ≤ c) (h1 : c ≤ 4294967295) : stR [c] = ⟨(le4 c).toArray⟩ := by
  unfold stR
  rw [if_pos ⟨by simp, by simp [isW, h0, h1]⟩]
  simp [storeL]
/-- The text of the first words. -/
def chaText (key nonce : ByteArray) (c : Int) : ByteArray := chaPre ++ key ++ ⟨(le4 c).toArray⟩ ++ nonce
theorem ba_append_list (a b : ByteArray) : (a ++ b).data.toList = a.data.toList ++ b.data.toList := by
  rw [ByteArray.data_append, Array.toList_append]
theorem chaText_size (key nonce : ByteArray) (c : Int) (hk : key.size = 32) (hn : nonce.size = 12) : (chaText key nonce c).size = 64 := by
  unfold chaText
  rw [ByteArray.size_append, ByteArray.size_append, size_pre, hk, hn]; rfl
theorem chaText_words (key nonce : ByteArray) (c : Int) (hk : key.size = 32) (hn : nonce.size = 12) (h0 : 0 ≤ c) (h1 : c ≤ 4294967295) : loadL (chaText key nonce c).data.toList = firstL key nonce c := by
  have h48 : (chaPre ++ key).data.toList.length = 48 := by
    have := size_pre key
    rw [hk] at this
    simpa using this
  unfold chaText firstL
  rw [ba_append_list, ba_append_list, loadL_append _ _ (by rw [List.length_append, h48, show (ByteArray.mk (le4 c).toArray).data.toList = le4 c from rfl, show (le4 c).length = 4 from rfl]), loadL_append _ _ (by rw [h48])]
  rw [show (ByteArray.mk (le4 c).toArray).data.toList = le4 c from rfl, loadL_le4 c h0 h1]

/-- Words put at their places. -/
def putW {M : Nat} (pre : List (PW M)) : List Int := pre.foldl (fun zs x => zs.set x.1.1 x.1.2) (List.replicate 16 0)
theorem putW_snoc {M : Nat} (pre : List (PW M)) (x : PW M) : putW (pre ++ [x]) = (putW pre).set x.1.1 x.1.2 := by
  unfold putW; rw [List.foldl_append]; rfl
theorem putW_len {M : Nat} (pre : List (PW M)) : (putW pre).length = 16 := by
  unfold putW
  suffices h : ∀ (pre : List (PW M)) (zs : List Int), (pre.foldl (fun zs x => zs.set x.1.1 x.1.2) zs).length = zs.length by rw [h]; simp
  intro pre
  induction pre with
  | nil => intro zs; rfl
  | cons x pre ih => intro zs; rw [List.foldl_cons, ih]; simp
theorem putW_pws (s : ByteArray) (hs : s.size = 64) : ∀ k, k ≤ s.size / 4 → putW (pws s (s.size / 4) k) = (loadL s.data.toList).take k ++ List.replicate (16 - k) 0
  | 0, _ => rfl
  | k + 1, h => by
    have hl : (loadL s.data.toList).length = 16 := by rw [loadL_len]; simp [hs]
    have hk : k < (loadL s.data.toList).length := by omega
    have ih := putW_pws s hs k (by omega)
    rw [pws, dif_pos (by omega), putW_snoc, ih]
    have hp : 4 * k + 3 < s.data.toList.length := by simp; omega
    have hg := loadL_get s.data.toList k hp
    rw [List.getElem?_eq_getElem hk] at hg
    have hg' := Option.some.inj hg
    have hp' : 4 * k + 3 < s.size := by omega
    have hw : wordAt s k = (loadL s.data.toList)[k] := by rw [hg']; simp only [wordAt, dif_pos hp']; rfl
    have htl : ((loadL s.data.toList).take k).length = k := by simp; omega
    dsimp only
    rw [List.set_append_right _ _ (by omega), htl, Nat.sub_self, show 16 - k = (16 - (k + 1)) + 1 by omega, List.replicate_succ, List.set_cons_zero, hw, List.take_succ_eq_append_getElem hk, List.append_assoc]
    rfl
theorem putW_all (s : ByteArray) (hs : s.size = 64) : putW (pws s (s.size / 4) (s.size / 4)) = loadL s.data.toList := by
  rw [putW_pws s hs _ (Nat.le_refl _), hs]
  have hl : (loadL s.data.toList).length = 16 := by rw [loadL_len]; simp [hs]
  rw [List.take_of_length_le (by omega)]; simp

/-- The block B holds the words. -/
def ArrW (W : World) (B : Nat) (zs : List Int) : Prop := W.heap[B]? = some (.cells (stA zs) 139 (0, 0))
theorem arrW_own {β : Type} (B : Nat) (f : β → List Int) : Own (fun s W => ArrW W B (f s)) := fun s X Y row hs hg hrow =>
  (hg.block B (heap_lt hs) (fun e' => by obtain ⟨o, ho, hc⟩ := hrow B e'.symm; rw [show X.heap[B]? = _ from hs] at ho; cases ho; cases hc)).trans hs
theorem ArrW.cell {W : World} {B : Nat} {zs : List Int} (h : ArrW W B zs) (j : Nat) (hj : j < zs.length) : W.cell? ⟨B, j, none⟩ = some (.int .u32 zs[j]) := by
  rw [cell_of_row W B j _ _ (0, 0) h]; simp [stA, hj]
theorem ArrW.frozen {W : World} {B : Nat} {zs : List Int} (h : ArrW W B zs) (j : Nat) : W.frozen? ⟨B, j, none⟩ = false := frozen_of_row W B j _ _ h
theorem ArrW.set {W : World} {B : Nat} {zs : List Int} (h : ArrW W B zs) (j : Nat) (x : Int) : ArrW (W.setCell ⟨B, j, none⟩ (.int .u32 x)) B (zs.set j x) := by
  unfold ArrW
  rw [heap_setCell_same W B j _ _ _ h]
  simp [stA, List.map_set]
theorem stA_zero : stA (List.replicate 16 0) = #[Value.int IntKind.u32 0, Value.int IntKind.u32 0, Value.int IntKind.u32 0, Value.int IntKind.u32 0, Value.int IntKind.u32 0, Value.int IntKind.u32 0, Value.int IntKind.u32 0, Value.int IntKind.u32 0, Value.int IntKind.u32 0, Value.int IntKind.u32 0, Value.int IntKind.u32 0, Value.int IntKind.u32 0, Value.int IntKind.u32 0, Value.int IntKind.u32 0, Value.int IntKind.u32 0, Value.int IntKind.u32 0] := rfl
theorem rowAt_new (w : World) (c : Int) : RowAt .i64 (w.alloc (.cells #[.int .i64 c] 2)) (w.heap.size + 1) (.slice (some ⟨w.heap.size, 0, none⟩) 1 1) [c] := by
  refine ⟨some ⟨w.heap.size, 0, none⟩, 1, rfl, by simp, by unfold maxLen; omega, fun j hj => ⟨w.heap.size, 0, rfl, by omega, fun i hi => ?_⟩⟩
  have : i = 0 := by simp at hi; exact hi
  subst this
  rw [cell_of_row _ w.heap.size _ _ _ (0, 0) (heap_alloc_new w _)]; rfl

theorem grownBy_setCell2 (w : World) (b o : Nat) (u : Value) : w.grownBy (w.setCell ⟨b, o, none⟩ u) (some b) :=
  ⟨rfl, rfl, rfl, by simp [World.setCell], fun k _ hk => heap_setCell_other w _ k u (fun e => hk (by rw [e]))⟩

set_option maxRecDepth 100000 in
set_option maxHeartbeats 2000000 in
theorem firstState_any (key nonce : ByteArray) (c : Int) (w : World) (hk : key.size = 32) (hn : nonce.size = 12) (h0 : 0 ≤ c) (h1 : c ≤ 4294967295) :
    Calls Tryz.prog 117 #[.string key, .string nonce, .int .i64 c] w fun e w' => e = .returned (.agg (stA (firstL key nonce c))) ∧ Below w.heap.size w w' := by
  have hts := chaText_size key nonce c hk hn
  have HTW := Lib.hid (chaText_words key nonce c hk hn h0 h1)
  refine (callsIn_wide (n := 5)).1 ?_
  have hF44 : Fence.wide.fn 146 := trivial
  have hF59 : Fence.wide.fn 161 := trivial
  have hF60 : Fence.wide.fn 76 := trivial
  refine callsIn_of_wp_marks Tryz.func117 rfl trivial ?_ rfl
  simp only [Tryz.ntmps117, List.size_toArray, List.length_cons, List.length_nil, Nat.reduceAdd, Nat.reduceSub, Array.replicate_succ, Array.replicate_zero, List.push_toArray, List.append_toArray, List.nil_append, List.cons_append]
  have hrow : RowAt .i64 (((w.alloc zSt).alloc zSt).alloc (.cells #[.int .i64 c] 2)) (w.heap.size + 3) (.slice (some ⟨w.heap.size + 1 + 1, 0, none⟩) 1 1) [c] := by
    have h := rowAt_new ((w.alloc zSt).alloc zSt) c
    rw [World.size_alloc, World.size_alloc] at h
    exact h
  gi_wp2_with fail
  have hS := (callsIn_wide (n := 4)).2 (implStoreLe_any _ [c] _ _ hrow)
  rw [stR_one c h0 h1] at hS
  obtain ⟨q4, hq4⟩ : ∃ q : ByteArray, q = ⟨(le4 c).toArray⟩ := ⟨_, rfl⟩
  have hq4s : q4.size = 4 := by rw [hq4]; rfl
  rw [← hq4] at hS
  obtain ⟨s, hs⟩ : ∃ s, s = chaText key nonce c := ⟨_, rfl⟩
  have hT : (⟨#[101, 120, 112, 97, 110, 100, 32, 51, 50, 45, 98, 121, 116, 101, 32, 107]⟩ : ByteArray) ++ key ++ q4 ++ nonce = s := by rw [hs, hq4]; rfl
  have hsz : s.size = 64 := by rw [hs]; exact hts
  rw [← hs] at HTW
  have HS := Lib.hid hS
  clear hS hrow hq4 hs hts
  refine HS.out.mono ?_
  rintro e w1 ⟨rfl, hb1⟩
  clear HS
  gi_wp2_with fail
  refine ((callsIn_wide (n := 4)).2 (leWords_any s _)).mono ?_
  rintro e w' ⟨rfl, rfl⟩
  gi_wp2
  have bN := Boxed.new w1 9 (.string s)
  have hb3 : Below w.heap.size w (((w.alloc zSt).alloc zSt).alloc (.cells #[.int .i64 c] 2)) := (((Below.refl _ _).alloc (Nat.le_refl _) _).alloc (by simp) _).alloc (by simp; omega) _
  have hsz3 : (((w.alloc zSt).alloc zSt).alloc (.cells #[.int .i64 c] 2)).heap.size = w.heap.size + 3 := by simp
  have hz0 : (((w.alloc zSt).alloc zSt).alloc (.cells #[.int .i64 c] 2)).heap[w.heap.size]? = some zSt := by
    rw [heap_alloc_old _ _ (by simp; omega), heap_alloc_old _ _ (by simp)]; exact heap_alloc_new _ _
  have hz1 : (((w.alloc zSt).alloc zSt).alloc (.cells #[.int .i64 c] 2)).heap[w.heap.size + 1]? = some zSt := by
    rw [heap_alloc_old _ _ (by simp)]
    have h := heap_alloc_new (w.alloc zSt) zSt
    simpa using h
  have hb1' : Below w.heap.size w w1 := hb3.trans (hb1.mono hb3.size)
  have hs1 : w.heap.size + 3 ≤ w1.heap.size := by have := hb1.size; rw [← hsz3]; exact this
  have hA1 : ArrW (w1.alloc (.cells #[.string s] 9)) (w.heap.size + 1) (putW ([] : List (PW (s.size / 4)))) := by
    show (w1.alloc (.cells #[.string s] 9)).heap[w.heap.size + 1]? = some zSt
    rw [heap_alloc_old _ _ (by omega)]
    exact (hb1.block (w.heap.size + 1) (by rw [hsz3]; omega)).trans hz1
  have hZ1 : ArrW (w1.alloc (.cells #[.string s] 9)) w.heap.size (List.replicate 16 0) := by
    show (w1.alloc (.cells #[.string s] 9)).heap[w.heap.size]? = some zSt
    rw [heap_alloc_old _ _ (by omega)]
    exact (hb1.block w.heap.size (by rw [hsz3]; omega)).trans hz0
  have hB1 : Below w.heap.size w (w1.alloc (.cells #[.string s] 9)) := hb1'.alloc (by omega) _
  have hPA := putW_all s hsz
  rw [HTW.out] at hPA
  have HPA := Lib.hid hPA
  have hss : s.size / 4 = 16 := by omega
  have HSS := Lib.hid hss
  have hlc := firstL_st key nonce c hk hn ⟨h0, h1⟩
  have HI := Lib.hid (show (Tryz.prog.info? 139).map (·.size) = some (stA (firstL key nonce c)).size by rw [stA_size, hlc.1]; exact Tryz.infSt)
  have HSZ := Lib.hid (show (stA (List.replicate 16 0)).size = (stA (firstL key nonce c)).size by rw [stA_size, stA_size, hlc.1]; rfl)
  clear hb1 hb3 hz0 hz1 hb1' hsz3 hPA hss hT HTW hlc
  refine wpIn_rangeFunc_ownG rfl (by decide) (gf := 161) (lb := #[.pointer (some ⟨w1.heap.size, 0, none⟩)]) rfl trivial (enters_of Tryz.func161 (by kernel_rfl) rfl)
    (leWords_stops 4 (by decide) w1.heap.size s (by omega) _ bN) keepB_t (keepB_b (by simp)) (Below.refl _ _) (fun _ => rfl)
    (fun (pre : List (PW (s.size / 4))) W => ((ArrW W (w.heap.size + 1) (putW pre) ∧ Boxed W w1.heap.size 9 (.string s)) ∧ ArrW W w.heap.size (List.replicate 16 0)) ∧ Below w.heap.size w W)
    (fun _ _ _ => False)
    (OwnFrom.and (OwnFrom.and (OwnFrom.and (Own.from (arrW_own (w.heap.size + 1) (fun (pre : List (PW (s.size / 4))) => putW pre)) _) (Own.from (boxed_own _ _ _) _)) (Own.from (arrW_own w.heap.size (fun _ => List.replicate 16 0)) _)) (ownFrom_below (Nat.le_refl _) (by simp; omega)))
    (fun _ _ _ _ _ hs _ _ => hs)
    ⟨⟨⟨hA1, bN⟩, hZ1⟩, hB1⟩
    (fun x => { tmps := #[Value.string key, Value.string nonce, Value.int IntKind.i64 c, undef, undef, undef,
          Value.pointer (some { block := w.heap.size, off := 0 }),
          Value.pointer (some { block := w.heap.size + 1, off := 0 }), .int .i64 (x.1.1 : Int), .int .u32 x.1.2, Value.string key,
          Value.string ({ data := #[101, 120, 112, 97, 110, 100, 32, 51, 50, 45, 98, 121, 116, 101, 32, 107] } ++ key),
          Value.int IntKind.i64 c, Value.slice (some { block := w.heap.size + 1 + 1, off := 0 }) 1 1, Value.string q4,
          Value.string
            ({ data := #[101, 120, 112, 97, 110, 100, 32, 51, 50, 45, 98, 121, 116, 101, 32, 107] } ++ key ++ q4),
          Value.string nonce, Value.string s,
          .func (.func 161) #[] #[.pointer (some ⟨w1.heap.size, 0, none⟩)], .int .i64 (x.1.1 : Int), .int .u32 x.1.2, undef, undef, undef, undef], defers := [] }) ?assign ?body ?done ?stop
  case assign =>
    intro l x W K hK
    gi_wp2
    exact hK
  case body =>
    rintro l pre x W ⟨⟨⟨hA, hbN⟩, hZ⟩, hB⟩ hlt
    have hx0 := x.2.1
    have hp16 : x.1.1 < 16 := by have := HSS.out; omega
    have hc := hA.cell x.1.1 (by rw [putW_len]; exact hp16)
    have hf := hA.frozen x.1.1
    have hA2 := hA.set x.1.1 x.1.2
    rw [← putW_snoc] at hA2
    have HA2 := Lib.hid hA2
    obtain ⟨old, hold⟩ : ∃ old, old = (putW pre)[x.1.1]'(by rw [putW_len]; exact hp16) := ⟨_, rfl⟩
    rw [← hold] at hc
    clear hA hA2 hold hx0
    gi_wp2
    have hbN2 := hbN.kept (grownBy_setCell2 W (w.heap.size + 1) x.1.1 (Value.int .u32 x.1.2)) (by simp; omega)
    exact ⟨(KeepsOthers.setCell _ _ _).from _, Eq.trans hbN2 hbN.symm, ⟨⟨HA2.out, hbN2⟩, (heap_setCell_other _ _ _ _ (by simp)).trans hZ⟩, hB.setCell (p := ⟨w.heap.size + 1, x.1.1, none⟩) (by simp) _⟩
  case done =>
    rintro D ys W hD rfl ⟨⟨⟨hA, hbN⟩, hZ⟩, hB⟩ hK
    rename_i hcont
    refine hcont _ _ ?_
    clear hcont
    rw [HPA.out] at hA
    have HA := Lib.hid hA
    have HZ := Lib.hid hZ
    have hD2 : w.heap.size + 3 < D := by
      have : w1.heap.size + 1 ≤ D := by simpa using hD
      omega
    have hK2 : (W.setRow w.heap.size (stA (firstL key nonce c))).heap[D]? = some (.deferred (some [])) := by
      rw [setRow_other _ _ _ _ (by omega)]; exact hK
    have hZ2 : ArrW (W.setRow w.heap.size (stA (firstL key nonce c))) w.heap.size (firstL key nonce c) := setRow_heap _ _ _ _ _ _ hZ
    have hZ3 : ((W.setRow w.heap.size (stA (firstL key nonce c))).putObj D (.deferred none)).heap[w.heap.size]? = some (.cells (stA (firstL key nonce c)) 139 (0, 0)) := by
      rw [World.putObj_heap_other (by omega)]; exact hZ2
    have hB2 := below_setRow hB (Nat.le_refl _) (stA (firstL key nonce c))
    have HK2 := Lib.hid hK2
    have HZ3 := Lib.hid hZ3
    have HB2 := Lib.hid hB2
    clear hA hZ hbN hB hK hK2 hZ2 hZ3 hB2
    refine wpIn_wide.2 ?_
    go_wp2_with (first | (refine wpList_load_row rfl _ (.tmp 7) rfl (w.heap.size + 1) rfl _ _ _ _ HA.out Tryz.undSt rfl HI.out ?_) | (refine wpList_store_row rfl _ (.tmp 6) (.tmp 24) rfl w.heap.size _ rfl rfl _ _ HZ.out HI.out HSZ.out (stA_one _) ?_))
    refine ⟨by simp, .inl ⟨_, _, rfl, run_takeDeferred HK2.out, ?_⟩⟩
    exact ⟨_, results_cell_row rfl _ _ w.heap.size _ _ _ _ rfl HZ3.out Tryz.undSt rfl HI.out, rfl, HB2.out.trans (belowK_b (w := w) (Nat.le_refl _) _ D _ _ (by omega) HK2.out rfl rfl)⟩
  case stop =>
    rintro D c pre W _ _ h _
    exact h.elim
end Go.Proofs.YtfjaincogbdeiaaGreatDoor

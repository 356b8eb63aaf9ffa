/- Joined: W5e, W5f, W5g. -/
import Derived.Test.YtlipgmaiooljkaaGreatDoorH23
import Derived.Test.YtlipgmaiooljkaaGreatDoorH25
/- W5e -/
namespace Go.Proofs.YtlipgmaiooljkaaGreatDoor
open Go.ChangeShapes Go.WideShapes Go.ChangeAt Go.RowKit Go.Shelf
set_option linter.unusedVariables false

attribute [local go_sem] Oper.semAt_some

/-- Words put at their places of a row. -/
def putR {M : Nat} (z : List Int) (pre : List (PW M)) : List Int := pre.foldl (fun zs x => zs.set x.1.1 x.1.2) z
theorem putR_snoc {M : Nat} (z : List Int) (pre : List (PW M)) (x : PW M) : putR z (pre ++ [x]) = (putR z pre).set x.1.1 x.1.2 := by
  unfold putR; rw [List.foldl_append]; rfl
theorem putR_len {M : Nat} (z : List Int) (pre : List (PW M)) : (putR z pre).length = z.length := by
  unfold putR
  induction pre generalizing z with
  | nil => rfl
  | cons x pre ih => rw [List.foldl_cons, ih]; simp
theorem putR_pws (s : ByteArray) (N : Nat) (hN : s.size / 4 ≤ N) : ∀ k, k ≤ s.size / 4 → putR (List.replicate N 0) ((pws s (s.size / 4) k).map rvP) = (beL s.data.toList).take k ++ List.replicate (N - k) 0
  | 0, _ => by simp [pws, putR]
  | k + 1, h => by
    have hl : (beL s.data.toList).length = s.size / 4 := by rw [beL_len]; simp
    have hk : k < (beL s.data.toList).length := by omega
    have ih := putR_pws s N hN k (by omega)
    have hp : 4 * k + 3 < s.data.toList.length := by simp; omega
    have hg := loadL_get s.data.toList k hp
    have hkl : k < (loadL s.data.toList).length := by rw [loadL_len]; simp; omega
    rw [List.getElem?_eq_getElem hkl] at hg
    have hg' := Option.some.inj hg
    have hp' : 4 * k + 3 < s.size := by omega
    have hw0 : (beL s.data.toList)[k]? = some (rev32 (wordAt s k)) := by
      unfold beL
      rw [List.getElem?_map, List.getElem?_eq_getElem hkl, hg']
      simp only [wordAt, dif_pos hp']
      rfl
    rw [List.getElem?_eq_getElem hk] at hw0
    have hw := (Option.some.inj hw0).symm
    rw [pws, dif_pos (by omega), List.map_append, List.map_cons, List.map_nil, putR_snoc, ih]
    have htl : ((beL s.data.toList).take k).length = k := by simp; omega
    show ((beL s.data.toList).take k ++ List.replicate (N - k) 0).set k (rev32 (wordAt s k)) = _
    rw [List.set_append_right _ _ (by omega), htl, Nat.sub_self, show N - k = (N - (k + 1)) + 1 by omega, List.replicate_succ, List.set_cons_zero, hw, List.take_succ_eq_append_getElem hk, List.append_assoc]
    rfl
theorem putR_all (s : ByteArray) (N : Nat) (hN : s.size / 4 ≤ N) : putR (List.replicate N 0) ((pws s (s.size / 4) (s.size / 4)).map rvP) = beL s.data.toList ++ List.replicate (N - s.size / 4) 0 := by
  rw [putR_pws s N hN _ (Nat.le_refl _), List.take_of_length_le (by rw [beL_len]; simp)]
theorem arr_own {β : Type} (B : Nat) (t : TypeId) (f : β → List Int) : Own (fun s W => Arr W B t .u32 (f s)) := fun s X Y row hs hg hrow =>
  (hg.block B hs.lt (fun e' => by obtain ⟨o, ho, hc⟩ := hrow B e'.symm; rw [show X.heap[B]? = _ from hs] at ho; cases ho; cases hc)).trans hs

end Go.Proofs.YtlipgmaiooljkaaGreatDoor

/- W5f -/
namespace Go.Proofs.YtlipgmaiooljkaaGreatDoor
open Go.ChangeShapes Go.WideShapes Go.ChangeAt Go.RowKit Go.Shelf
set_option linter.unusedVariables false

attribute [local go_sem] Oper.semAt_some

theorem Tryz.infW : (Tryz.prog.info? 158).map (·.size) = some 64 := by kernel_rfl
theorem Tryz.undW : Tryz.prog.underlying 158 = some (.array 64 104) := by kernel_rfl
def z64 : Obj := Obj.cells (stK .u32 (List.replicate 64 0)) 158
theorem nxt_sum (zs : List Int) (i : Nat) (a b c d : Int) (ha : zs.getD (i - 16) 0 = a) (hb : zs.getD (i - 15) 0 = b) (hc : zs.getD (i - 7) 0 = c) (hd : zs.getD (i - 2) 0 = d) :
    nxt zs i = (a + sg0 b + c + sg1 d) % 4294967296 := by
  unfold nxt
  rw [ha, hb, hc, hd]
  unfold add32
  omega
theorem getD_get {l : List Int} {k : Nat} (h : k < l.length) : l.getD k 0 = l[k] := by rw [List.getD_eq_getElem?_getD, List.getElem?_eq_getElem h]; rfl

/-- A drawn region that does not panic, whatever is asked behind a panic. -/
def normQ (Q : Exit → Act → World → Prop) : Exit → Act → World → Prop := fun e a w => e = .normal ∧ Q e a w
theorem normQ_no {Q : Exit → Act → World → Prop} (d) (v : Value) (c) (a : Act) (w : World) (h : normQ Q (.panic c) (Act.put a d v) w) : normQ Q (.panic c) a w := by cases h.1
theorem wp_region_T0 {P : Program} {Q : Exit → Act → World → Prop} {id : Nat} {a : Act} {w : World} {l : List Oper} (A B : World → Prop) (t : Nat) (hm : P.follows .mixedOrders = true) (n : Nat) (hn : l.length = n)
    (h : wpAnyT P .any l.toArray (normQ Q) A B t n (Array.replicate n false) a w.drew) : (Code.region id l.toArray true).wp P Q a w :=
  Code.wp_mono (fun e a w h => h.2) (wp_region_T A B t hm n hn h)

theorem Arr.cell_set {w : World} {g : Nat} {t : TypeId} {k : IntKind} {zs : List Int} (h : Arr w g t k zs) (i j : Nat) (x : Int) {v : Value} (hij : i ≠ j) (hc : w.cell? ⟨g, j, none⟩ = some v) : (w.setCell ⟨g, i, none⟩ (.int k x)).cell? ⟨g, j, none⟩ = some v := by
  have h2 := h.set i x
  rw [cell_of_row _ g j _ t (0, 0) h2]
  rw [cell_of_row w g j _ t (0, 0) h] at hc
  rw [← stK_set, Array.getElem?_setIfInBounds_ne hij]
  exact hc
theorem wsum (a b c d : Int) : IntKind.u32.wrap (IntKind.u32.wrap (IntKind.u32.wrap (a + b) + c) + d) = (a + b + c + d) % 4294967296 := by
  rw [IntKind.wrap_u32', IntKind.wrap_u32', IntKind.wrap_u32']; omega

set_option maxRecDepth 100000 in
set_option maxHeartbeats 4000000 in
theorem blockWords_any (s : ByteArray) (w : World) (hs : s.size = 64) :
    Calls Tryz.prog 177 #[.string s] w fun e w' => e = .returned (.agg (stK .u32 (sch (beL s.data.toList) 48))) ∧ Below w.heap.size w w' := by
  have hbl : (beL s.data.toList).length = 16 := by rw [beL_len]; simp; omega
  have HPA : Hid (putR (List.replicate 64 0) ((pws s (s.size / 4) (s.size / 4)).map rvP) = sch (beL s.data.toList) 0) := Lib.hid (by rw [putR_all s 64 (by omega), show s.size / 4 = 16 by omega]; rfl)
  have HLN := Lib.hid (sch_len (beL s.data.toList) hbl)
  clear hbl
  generalize beL s.data.toList = m at HPA HLN ⊢
  obtain ⟨out, hout⟩ : ∃ o, o = sch m 48 := ⟨_, rfl⟩
  rw [← hout]
  have HO := Lib.hid hout
  clear hout
  refine (callsIn_wide (n := 7)).1 ?_
  have hF1 : Fence.wide.fn 184 := trivial
  have hF2 : Fence.wide.fn 187 := trivial
  refine callsIn_of_wp_marks Tryz.func177 rfl trivial ?_ rfl
  simp only [Tryz.ntmps177, List.size_toArray, List.length_cons, List.length_nil, Nat.reduceAdd, Nat.reduceSub, Array.replicate_succ, Array.replicate_zero, List.push_toArray, List.append_toArray, List.nil_append, List.cons_append]
  gi_wp2_with fail
  refine ((callsIn_wide (n := 6)).2 (beWords_any s _)).mono ?_
  rintro e w' ⟨rfl, rfl⟩
  gi_wp2
  have bN := Boxed.new ((w.alloc z64).alloc z64) 9 (.string s)
  have hz0 := (Arr.new w 158 .u32 (List.replicate 64 0)).alloc z64
  have hz1 := Arr.new (w.alloc z64) 158 .u32 (List.replicate 64 0)
  have hB : Below w.heap.size w (((w.alloc z64).alloc z64).alloc (.cells #[.string s] 9)) := (((Below.refl _ _).alloc (Nat.le_refl _) _).alloc (by simp) _).alloc (by simp; omega) _
  have hz0' : Arr (((w.alloc z64).alloc z64).alloc (.cells #[.string s] 9)) w.heap.size 158 .u32 (List.replicate 64 0) := hz0.alloc _
  have hz1' : Arr (((w.alloc z64).alloc z64).alloc (.cells #[.string s] 9)) (w.heap.size + 1) 158 .u32 (List.replicate 64 0) := by
    have := Arr.alloc hz1 (.cells #[.string s] 9)
    rw [World.size_alloc] at this
    exact this
  rw [World.size_alloc, World.size_alloc] at bN
  change Code.wpIn _ _ _ _ _ _ (((w.alloc z64).alloc z64).alloc (.cells #[.string s] 9))
  obtain ⟨V0, hV0⟩ : ∃ V0, V0 = ((w.alloc z64).alloc z64).alloc (.cells #[.string s] 9) := ⟨_, rfl⟩
  have hVs : V0.heap.size = w.heap.size + 3 := by rw [hV0]; simp
  rw [← hV0] at bN hB hz0' hz1' ⊢
  clear hV0 hz0 hz1
  have hs4 : s.size / 4 = 16 := by omega
  have HS4 := Lib.hid hs4
  have HB0 := Lib.hid hB
  clear hs4 hB
  refine wpIn_rangeFunc_thru rfl (by decide) (gf := 187) (lb := #[.pointer (some ⟨w.heap.size + 1 + 1, 0, none⟩)]) rfl trivial (enters_of Tryz.func187 (by kernel_rfl) rfl)
    (beWords1_thru (w.heap.size + 1 + 1) s (by omega) V0 bN) (Below.refl _ _) (fun _ => rfl)
    (fun (pre : List (PW (s.size / 4))) W => (Arr W (w.heap.size + 1) 158 .u32 (putR (List.replicate 64 0) pre) ∧ Arr W w.heap.size 158 .u32 (List.replicate 64 0)) ∧ Below w.heap.size w W)
    (OwnFrom.and (OwnFrom.and (Own.from (arr_own (w.heap.size + 1) _ (fun (pre : List (PW (s.size / 4))) => putR (List.replicate 64 0) pre)) _) (Own.from (arr_own w.heap.size _ (fun _ => List.replicate 64 0)) _)) (ownFrom_below (Nat.le_refl _) (by omega)))
    ⟨⟨hz1', hz0'⟩, HB0.out⟩
    (fun x => { tmps := #[Value.string s, undef, Value.pointer (some { block := w.heap.size, off := 0 }),
          Value.pointer (some { block := w.heap.size + 1, off := 0 }), .int .i64 (x.1.1 : Int), .int .u32 x.1.2, undef, undef, undef, Value.string s,
          Value.func (Fn.func 187) #[] #[Value.pointer (some { block := w.heap.size + 1 + 1, off := 0 })], .int .i64 (x.1.1 : Int), .int .u32 x.1.2,
          undef, undef, undef, undef, undef, undef, undef, undef, undef, undef, undef, undef, undef, undef, undef, undef, undef, undef, undef, undef, undef, undef, undef, undef, undef, undef, undef, undef, undef, undef, undef, undef, undef, undef, undef, undef, undef, undef, undef, undef, undef, undef, undef, undef, undef], defers := [] }) ?assign ?body ?done
  case assign =>
    intro l x W K hK
    gi_wp2
    exact hK
  case body =>
    rintro pre x W ⟨⟨hA, hZ⟩, hB⟩ hlt
    have hp8 : x.1.1 < 64 := by have := x.2.1; have := HS4.out; omega
    have hlen : (putR (List.replicate 64 0) pre).length = 64 := by rw [putR_len]; rfl
    have hc := hA.cell x.1.1 (by rw [hlen]; exact hp8)
    have hf := hA.frozen x.1.1
    have hA2 := hA.set x.1.1 x.1.2
    rw [← putR_snoc] at hA2
    have HA2 := Lib.hid hA2
    obtain ⟨old, hold⟩ : ∃ old, old = (putR (List.replicate 64 0) pre)[x.1.1]'(by rw [hlen]; exact hp8) := ⟨_, rfl⟩
    rw [← hold] at hc
    clear hA hA2 hold hlen
    gi_wp2
    exact ⟨(KeepsOthers.setCell _ _ _).from _, Above.setCell _ _ _ _ (by omega), ⟨HA2.out, hZ.other _ _ _ (by omega)⟩, hB.setCell (p := ⟨w.heap.size + 1, x.1.1, none⟩) (by simp) _⟩
  case done =>
    rintro D ys W hD rfl ⟨⟨hA, hZ⟩, hB⟩ hK
    rename_i hcont
    refine hcont _ _ ?_
    clear hcont
    rw [HPA.out] at hA
    have hD2 : w.heap.size + 3 ≤ D := by omega
    refine wpIn_wide.2 ?_
    go_wp2
    go_loopw [6] (fun i wr => ∃ k n : Nat, k ≤ 48 ∧ n = 16 + k ∧ i = .int .i64 (n : Int) ∧ Arr wr (w.heap.size + 1) 158 .u32 (sch m k) ∧ Arr wr w.heap.size 158 .u32 (List.replicate 64 0) ∧ wr.heap[D]? = some (.deferred (some [])) ∧ Below w.heap.size w wr) (fun i _ => 64 - (intOf i).toNat)
    case atStart => exact ⟨0, 16, Nat.zero_le _, rfl, rfl, hA, hZ, hK, hB⟩
    case round =>
      obtain ⟨k, n, hk, hn, rfl, hA1, hZ1, hK1, hB1⟩ := hrel
      clear hA hZ hK hB
      have hln := HLN.out k
      by_cases hlt : k < 48
      · have hnn : n < 64 := by omega
        obtain ⟨p16, q16⟩ : ∃ p, p = n - 16 := ⟨_, rfl⟩
        obtain ⟨p15, q15⟩ : ∃ p, p = n - 15 := ⟨_, rfl⟩
        obtain ⟨p7, q7⟩ : ∃ p, p = n - 7 := ⟨_, rfl⟩
        obtain ⟨p2, q2⟩ : ∃ p, p = n - 2 := ⟨_, rfl⟩
        have b16 : p16 < 64 := by omega
        have c16 : (p16 : Int) < 64 := by omega
        have b15 : p15 < 64 := by omega
        have c15 : (p15 : Int) < 64 := by omega
        have b7 : p7 < 64 := by omega
        have c7 : (p7 : Int) < 64 := by omega
        have b2 : p2 < 64 := by omega
        have c2 : (p2 : Int) < 64 := by omega
        have v16 : IntKind.i64.wrap ((n : Int) - 16) = (p16 : Int) := by rw [show (n : Int) - 16 = (p16 : Int) by omega]; exact IntWalk.i64_in _ (by omega)
        have v15 : IntKind.i64.wrap ((n : Int) - 15) = (p15 : Int) := by rw [show (n : Int) - 15 = (p15 : Int) by omega]; exact IntWalk.i64_in _ (by omega)
        have v7 : IntKind.i64.wrap ((n : Int) - 7) = (p7 : Int) := by rw [show (n : Int) - 7 = (p7 : Int) by omega]; exact IntWalk.i64_in _ (by omega)
        have v2 : IntKind.i64.wrap ((n : Int) - 2) = (p2 : Int) := by rw [show (n : Int) - 2 = (p2 : Int) by omega]; exact IntWalk.i64_in _ (by omega)
        obtain ⟨xa, ya⟩ : ∃ x, (sch m k).getD p16 0 = x := ⟨_, rfl⟩
        obtain ⟨xb, yb⟩ : ∃ x, (sch m k).getD p15 0 = x := ⟨_, rfl⟩
        obtain ⟨xc, yc⟩ : ∃ x, (sch m k).getD p7 0 = x := ⟨_, rfl⟩
        obtain ⟨xd, yd⟩ : ∃ x, (sch m k).getD p2 0 = x := ⟨_, rfl⟩
        have HNX := Lib.hid (nxt_sum (sch m k) n xa xb xc xd (by rw [← q16]; exact ya) (by rw [← q15]; exact yb) (by rw [← q7]; exact yc) (by rw [← q2]; exact yd))
        have HSC : Hid ((sch m k).set n (nxt (sch m k) n) = sch m (k + 1)) := Lib.hid (by rw [hn]; rfl)
        rw [HNX.out] at HSC
        rw [getD_get (by omega)] at ya yb yc yd
        have HC : Hid (wr.cell? ⟨w.heap.size + 1, p16, none⟩ = some (.int .u32 xa) ∧ wr.cell? ⟨w.heap.size + 1, p15, none⟩ = some (.int .u32 xb) ∧ wr.cell? ⟨w.heap.size + 1, p7, none⟩ = some (.int .u32 xc) ∧ wr.cell? ⟨w.heap.size + 1, p2, none⟩ = some (.int .u32 xd)) :=
          Lib.hid ⟨ya ▸ hA1.cell p16 (by omega), yb ▸ hA1.cell p15 (by omega), yc ▸ hA1.cell p7 (by omega), yd ▸ hA1.cell p2 (by omega)⟩
        obtain ⟨old, HCN⟩ : ∃ old, Hid (wr.cell? ⟨w.heap.size + 1, n, none⟩ = some (.int .u32 old)) := ⟨_, Lib.hid (hA1.cell n (by omega))⟩
        have HFN := Lib.hid (hA1.frozen n)
        have HA1 := Lib.hid hA1
        have HN := Lib.hid hn
        have HNE : Hid (n ≠ p16 ∧ n ≠ p15 ∧ n ≠ p7 ∧ n ≠ p2) := Lib.hid ⟨by omega, by omega, by omega, by omega⟩
        clear q16 q15 q7 q2 ya yb yc yd hA1 hn
        go_wp2
        refine wp_region_T0 (fun w' => w'.cell? ⟨w.heap.size + 1, p16, none⟩ = some (.int .u32 xa) ∧ w'.cell? ⟨w.heap.size + 1, p15, none⟩ = some (.int .u32 xb) ∧ w'.cell? ⟨w.heap.size + 1, p7, none⟩ = some (.int .u32 xc) ∧ w'.cell? ⟨w.heap.size + 1, p2, none⟩ = some (.int .u32 xd)) (fun _ => True) 10 (by kernel_rfl) 10 rfl ?_
        refine wpAnyT_takesA (md := .any) 0 (by kernel_rfl) normQ_no [0, 1, 2, 3, 4, 5, 6, 7, 8, 9] _ _ _ (by decide) (by kernel_rfl) ⟨HC.out, fun _ => trivial⟩ ?_
        simp only [pick, List.filterMap_cons, List.filterMap_nil, List.getElem?_cons_zero, List.getElem?_cons_succ]
        iterate 10 (refine wpIf_step ?_ (by kernel_rfl) ?_ ?_; rotate_left; (rintro w' ⟨e16, e15, e7, e2⟩; go_simp); try with_reducible rfl)
        refine wpIf_nil (fun hS => ?_)
        refine wpAnyT_over (by kernel_rfl) ⟨rfl, ?_⟩
        clear hS
        go_wp2
        refine wp_region_T0 (fun w' => w'.cell? ⟨w.heap.size + 1, p16, none⟩ = some (.int .u32 xa) ∧ w'.cell? ⟨w.heap.size + 1, p15, none⟩ = some (.int .u32 xb) ∧ w'.cell? ⟨w.heap.size + 1, p7, none⟩ = some (.int .u32 xc) ∧ w'.cell? ⟨w.heap.size + 1, p2, none⟩ = some (.int .u32 xd)) (fun _ => True) 29 (by kernel_rfl) 30 rfl ?_
        refine wpAnyT_takesA (md := .any) 13 (by kernel_rfl) normQ_no [0, 1, 2, 3, 4, 5, 7, 10, 11, 14, 15, 16, 17, 19, 21, 24, 25] _ _ _ (by decide) (by kernel_rfl) ⟨HC.out, fun _ => trivial⟩ ?_
        simp only [pick, List.filterMap_cons, List.filterMap_nil, List.getElem?_cons_zero, List.getElem?_cons_succ]
        iterate 17 (refine wpIf_step ?_ (by kernel_rfl) ?_ ?_; rotate_left; (rintro w' ⟨e16, e15, e7, e2⟩; go_simp); try with_reducible rfl)
        refine wpIf_nil (fun hS => ?_)
        refine wpAnyT_one 6 12 (by kernel_rfl) rfl (by kernel_rfl) (fun K hK => ?_)
        go_simp
        refine (rotr7 _ _).mono ?_
        rintro en w' ⟨rfl, rfl⟩
        refine hK _ _ hS (fun hS1 => ?_)
        clear hK K hS
        refine wpAnyT_one 8 11 (by kernel_rfl) rfl (by kernel_rfl) (fun K hK => ?_)
        go_simp
        refine (rotr18 _ _).mono ?_
        rintro en w' ⟨rfl, rfl⟩
        refine hK _ _ hS1 (fun hS => ?_)
        clear hK K hS1
        refine wpAnyT_takesA (md := .any) 7 (by kernel_rfl) normQ_no [9, 12, 13, 18] _ _ _ (by decide) (by kernel_rfl) hS ?_
        simp only [pick, List.filterMap_cons, List.filterMap_nil, List.getElem?_cons_zero, List.getElem?_cons_succ]
        iterate 4 (refine wpIf_step ?_ (by kernel_rfl) ?_ ?_; rotate_left; (rintro w' ⟨e16, e15, e7, e2⟩; go_simp); try with_reducible rfl)
        refine wpIf_nil (fun hS1 => ?_)
        clear hS
        refine wpAnyT_one 20 6 (by kernel_rfl) rfl (by kernel_rfl) (fun K hK => ?_)
        go_simp
        refine (rotr17 _ _).mono ?_
        rintro en w' ⟨rfl, rfl⟩
        refine hK _ _ hS1 (fun hS => ?_)
        clear hK K hS1
        refine wpAnyT_one 22 5 (by kernel_rfl) rfl (by kernel_rfl) (fun K hK => ?_)
        go_simp
        refine (rotr19 _ _).mono ?_
        rintro en w' ⟨rfl, rfl⟩
        refine hK _ _ hS (fun hS1 => ?_)
        clear hK K hS
        refine wpAnyT_takesA (md := .any) 1 (by kernel_rfl) normQ_no [23, 26, 27, 28] _ _ _ (by decide) (by kernel_rfl) hS1 ?_
        simp only [pick, List.filterMap_cons, List.filterMap_nil, List.getElem?_cons_zero, List.getElem?_cons_succ]
        have hni : (n : Int) < 64 := by omega
        iterate 4 (refine wpIf_step ?_ (by kernel_rfl) ?_ ?_; rotate_left; (rintro w' ⟨e16, e15, e7, e2⟩; go_simp); try with_reducible rfl)
        refine wpIf_nil (fun hS => ?_)
        clear hS1
        refine wpAnyT_one 29 0 (by kernel_rfl) rfl (by kernel_rfl) (fun K hK => ?_)
        have hcn := HCN.out
        have hfn := HFN.out
        go_simp
        rw [wsum]
        clear hcn hfn
        show K _ ((wr.setCell ⟨w.heap.size + 1, n, none⟩ (.int .u32 ((xa + sg0 xb + xc + sg1 xd) % 4294967296))).drew.drew)
        have hA2 := HA1.out.set n ((xa + sg0 xb + xc + sg1 xd) % 4294967296)
        rw [HSC.out] at hA2
        obtain ⟨f16, f15, f7, f2⟩ := HC.out
        obtain ⟨d16, d15, d7, d2⟩ := HNE.out
        refine hK _ _ ⟨⟨HA1.out.cell_set n _ _ d16 f16, HA1.out.cell_set n _ _ d15 f15, HA1.out.cell_set n _ _ d7 f7, HA1.out.cell_set n _ _ d2 f2⟩, fun _ => trivial⟩ (fun hS1 => ?_)
        clear hK K hS f16 f15 f7 f2 d16 d15 d7 d2 hS1
        refine wpAnyT_over (by kernel_rfl) ⟨rfl, ?_⟩
        have hZ2 := hZ1.other (w.heap.size + 1) n (.int .u32 ((xa + sg0 xb + xc + sg1 xd) % 4294967296)) (by omega)
        have hK2 : (wr.setCell ⟨w.heap.size + 1, n, none⟩ (.int .u32 ((xa + sg0 xb + xc + sg1 xd) % 4294967296))).heap[D]? = some (.deferred (some [])) := by
          rw [heap_setCell_other _ _ D _ (by show D ≠ w.heap.size + 1; omega)]; exact hK1
        have hB2 := (hB1.setCell (p := ⟨w.heap.size + 1, n, none⟩) (by simp) (.int .u32 ((xa + sg0 xb + xc + sg1 xd) % 4294967296))).drew.drew
        clear HSC HNX
        generalize (xa + sg0 xb + xc + sg1 xd) % 4294967296 = nx at hA2 hZ2 hK2 hB2 ⊢
        clear hZ1 hK1 hB1
        go_wp2
        go_roundw
        case rel => exact ⟨k + 1, n + 1, by omega, by rw [HN.out]; omega, by go_num, hA2, hZ2, hK2, hB2⟩
        case measure => simp [intOf]; omega
      · have hke : k = 48 := by omega
        have hn64 : ¬ n < 64 := by omega
        rw [hke, ← HO.out] at hA1
        have hl48 := HLN.out 48
        rw [← HO.out] at hl48
        have HI := Lib.hid (show (Tryz.prog.info? 158).map (·.size) = some (stK .u32 out).size by rw [stK_size, hl48]; exact Tryz.infW)
        have HSZ := Lib.hid (show (stK .u32 (List.replicate 64 0)).size = (stK .u32 out).size by rw [stK_size, stK_size, hl48]; rfl)
        have hK2 : (wr.setRow w.heap.size (stK .u32 out)).heap[D]? = some (.deferred (some [])) := by
          rw [setRow_other _ _ _ _ (by omega)]; exact hK1
        have hZ2 : Arr (wr.setRow w.heap.size (stK .u32 out)) w.heap.size 158 .u32 out := setRow_heap _ _ _ _ _ _ hZ1
        have hZ3 : ((wr.setRow w.heap.size (stK .u32 out)).putObj D (.deferred none)).heap[w.heap.size]? = some (.cells (stK .u32 out) 158 (0, 0)) := by
          rw [World.putObj_heap_other (by omega)]; exact hZ2
        have hB2 := below_setRow hB1 (Nat.le_refl _) (stK .u32 out)
        have HK2 := Lib.hid hK2
        have HZ3 := Lib.hid hZ3
        have HB2 := Lib.hid hB2
        have HA := Lib.hid hA1
        have HZ := Lib.hid hZ1
        clear hA1 hZ1 hB1 hK1 hK2 hZ2 hZ3 hB2 hke hn hl48 hln
        go_wp2_with (first | (refine wpList_load_row rfl _ (.tmp 3) rfl (w.heap.size + 1) rfl _ _ _ _ HA.out Tryz.undW rfl HI.out ?_) | (refine wpList_store_row rfl _ (.tmp 2) (.tmp 57) rfl w.heap.size _ rfl rfl _ _ HZ.out HI.out HSZ.out (stK_one _ _) ?_))
        refine ⟨by simp, .inl ⟨_, _, rfl, run_takeDeferred HK2.out, ?_⟩⟩
        exact ⟨_, results_cell_row rfl _ _ w.heap.size _ _ _ _ rfl HZ3.out Tryz.undW rfl HI.out, rfl, HB2.out.trans (belowK_b (w := w) (Nat.le_refl _) _ D _ _ (by omega) HK2.out rfl rfl)⟩
end Go.Proofs.YtlipgmaiooljkaaGreatDoor

/- W5g -/
namespace Go.Proofs.YtlipgmaiooljkaaGreatDoor
open Go.ChangeShapes Go.WideShapes Go.ChangeAt Go.RowKit Go.Shelf
set_option linter.unusedVariables false

theorem szU4 (w : World) : (sizeOf 104).run Tryz.prog w = .ok 1 w := by kernel_rfl
theorem agU4 (w : World) : (isAgg 104).run Tryz.prog w = .ok false w := by kernel_rfl
theorem idxArr {t : TypeId} {n : Nat} (zs : List Int) (hz : zs.length = n) (hu : Tryz.prog.underlying t = some (.array n 104)) (j : Nat) (hj : j < n) (w : World) :
    Sem.run Tryz.prog (Instr.index t (.agg (stK .u32 zs)) (.int .i64 (j : Int))) w = .ok (.int .u32 (zs.getD j 0)) w := by
  have hc : (0 : Int) ≤ (j : Int) ∧ (j : Int) < (n : Int) := by omega
  have hg : (stK .u32 zs)[j]? = some (.int .u32 (zs.getD j 0)) := by rw [getD_get (by omega)]; exact stK_get _ _ _ (by omega)
  simp [Instr.index, run_underlying hu, asIntOf, hc, Go.part, hg, hj]

set_option maxRecDepth 100000 in
set_option maxHeartbeats 2000000 in
theorem stateText_any (st : List Int) (w : World) (hst : st.length = 8) (hw : ∀ n ∈ st, 0 ≤ n ∧ n ≤ 4294967295) :
    Calls Tryz.prog 163 #[.agg (stK .u32 st)] w fun e w' => e = .returned (.string ⟨(stoB st).toArray⟩) ∧ Below w.heap.size w w' := by
  have HI := Lib.hid (show (Tryz.prog.info? 176).map (·.size) = some (stK .u32 st).size by rw [stK_size, hst]; exact Tryz.infS5)
  have HX := Lib.hid (fun j hj w => idxArr st hst Tryz.undS5 j hj w)
  have hA1 := Arr.new w 176 .u32 st
  have hB1 : Below w.heap.size w (w.alloc (.cells (stK .u32 st) 176)) := (Below.refl _ _).alloc (Nat.le_refl _) _
  have hs1 : (w.alloc (.cells (stK .u32 st) 176)).heap.size = w.heap.size + 1 := by simp
  have HA1 := Lib.hid hA1
  have HW := Lib.hid hw
  have HL := Lib.hid hst
  clear hw hst hA1
  go_enter Tryz.func163, Tryz.ntmps163
  go_wp2_with (first | (at_make; refine wpList_makeB rfl _ _ rfl (w.heap.size + 1) .i64 .i64 _ rfl rfl (by omega) (by omega) (by simp) ?_; intro v0 w3 hown0 hb3; have hA3 := HA1.out.below hb3 (by omega); have HA3 := Lib.hid hA3; clear hA3 HA1) | (refine wpList_load_row rfl _ (.tmp 1) rfl w.heap.size rfl _ _ _ _ HA3.out Tryz.undS5 rfl HI.out ?_))
  have hB3 := hB1.trans (hb3.mono (by omega))
  have hs3 : w.heap.size + 1 ≤ w3.heap.size := by have := hb3.size; rw [hs1] at this; exact this
  have hO0 : OwnB w3 (w.heap.size + 1) v0 (stoB (st.take 0)) := hown0
  clear HA3 hown0 hb3 hB1 hs1 HI
  go_loopw [3, 8] (fun v i wr => ∃ n : Nat, n ≤ 8 ∧ i = .int .i64 n ∧ OwnB wr (w.heap.size + 1) v (stoB (st.take n)) ∧ w.heap.size + 1 ≤ wr.heap.size ∧ Below w.heap.size w wr) (fun _ i _ => 8 - (intOf i).toNat)
  case atStart => exact ⟨0, Nat.zero_le _, rfl, hO0, hs3, hB3⟩
  case round =>
    obtain ⟨n, hn, rfl, hO, hs, hB⟩ := hrel
    clear hO0 hs3 hB3
    by_cases hlt : n < 8
    · have hix := HX.out n hlt wr
      have hnl : n < st.length := by rw [HL.out]; exact hlt
      have hsn := stoB_snoc st n hnl
      have hab := HW.out st[n] (List.getElem_mem hnl)
      rw [getD_get hnl] at hix
      obtain ⟨a, ha⟩ : ∃ a, a = st[n] := ⟨_, rfl⟩
      rw [← ha] at hix hsn hab
      have hll : (stoB (st.take n)).length ≤ 100000000 := by rw [stoB_len]; simp; omega
      have HSN := Lib.hid hsn
      have HO := Lib.hid hO
      have HLL := Lib.hid hll
      clear hsn ha hO hll hnl
      go_wp2_with fail
      refine (appendBe_any _ _ a (w.heap.size + 1) _ HO.out hab.1 hab.2 HLL.out hs).mono ?_
      rintro e w5 ⟨v5, rfl, hO5, hb5⟩
      rw [← HSN.out] at hO5
      have hB5 := hB.trans (hb5.mono (by omega))
      have hs5 : w.heap.size + 1 ≤ w5.heap.size := Nat.le_trans hs hb5.size
      clear hB hb5 HO hs hix
      go_wp2
      go_roundw
      case rel => exact ⟨n + 1, by omega, by go_num, hO5, hs5, hB5⟩
      case measure => simp [intOf]; omega
    · have hn8 : n = 8 := by omega
      rw [hn8, List.take_of_length_le (by rw [HL.out]; exact Nat.le_refl _)] at hO
      have hcv := conv_ownB hO
      clear hn8
      go_wp2
      go_ret
      exact ⟨rfl, hB⟩
end Go.Proofs.YtlipgmaiooljkaaGreatDoor

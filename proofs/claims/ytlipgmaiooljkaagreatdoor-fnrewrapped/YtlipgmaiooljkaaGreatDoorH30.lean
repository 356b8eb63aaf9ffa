/- Joined: W5l. -/
import Derived.Test.YtlipgmaiooljkaaGreatDoorH8
import Derived.Test.YtlipgmaiooljkaaGreatDoorH19
import Derived.Test.YtlipgmaiooljkaaGreatDoorH20
import Derived.Test.YtlipgmaiooljkaaGreatDoorH27
import Derived.Test.YtlipgmaiooljkaaGreatDoorH28
/- W5l -/
namespace Go.Proofs.YtlipgmaiooljkaaGreatDoor
open Go.ChangeShapes Go.WideShapes Go.ChangeAt Go.RowKit Go.Shelf
set_option linter.unusedVariables false

theorem ownK_cell5 {e : TypeId} {k : IntKind} {w : World} {base g cap n : Nat} {zs : List Int} (h : OwnK e k w base (.slice (some ⟨g, 0, none⟩) n cap) zs) (hn : n = zs.length) (j : Nat) (hj : j < zs.length) : w.cell? ⟨g, j, none⟩ = some (.int k zs[j]) := by
  subst hn
  have := World.ownsRow.cellAt h j (by omega)
  rw [this]
  have hk' : j < (zs.map (Value.int k)).length := by rw [List.length_map]; exact hj
  rw [List.getElem?_eq_getElem hk', List.getElem_map]

/-- The words of a block, so many of them laid. -/
def sch1 (m : List Int) (n : Nat) : List Int := if n ≤ 16 then m.take n ++ List.replicate (64 - n) 0 else sch m (n - 16)
theorem sch1_16 (m : List Int) (h : m.length = 16) : sch1 m 16 = sch m 0 := by
  unfold sch1 sch
  rw [if_pos (Nat.le_refl _), List.take_of_length_le (by omega)]
theorem sch1_hi (m : List Int) (h : m.length = 16) (n : Nat) (hn : 16 ≤ n) : sch1 m n = sch m (n - 16) := by
  rcases Nat.lt_or_ge 16 n with g | g
  · unfold sch1; rw [if_neg (by omega)]
  · have : n = 16 := by omega
    subst this; exact sch1_16 m h
theorem sch1_len (m : List Int) (h : m.length = 16) (n : Nat) : (sch1 m n).length = 64 := by
  rcases Nat.lt_or_ge n 16 with g | g
  · unfold sch1; rw [if_pos (by omega)]; simp; omega
  · rw [sch1_hi m h n g]; exact sch_len m h _
theorem sch1_lo (m : List Int) (h : m.length = 16) (n : Nat) (hn : n < 16) : (sch1 m n).set n (m.getD n 0) = sch1 m (n + 1) := by
  unfold sch1
  rw [if_pos (by omega), if_pos (by omega), getD_get (by omega)]
  have htl : (m.take n).length = n := by simp; omega
  rw [List.set_append_right _ _ (by omega), htl, Nat.sub_self, show 64 - n = (64 - (n + 1)) + 1 by omega, List.replicate_succ, List.set_cons_zero, List.take_succ_eq_append_getElem (by omega), List.append_assoc]
  rfl
theorem sch1_next (m : List Int) (h : m.length = 16) (n : Nat) (hn : 16 ≤ n) : (sch1 m n).set n (nxt (sch1 m n) n) = sch1 m (n + 1) := by
  rw [sch1_hi m h n hn, sch1_hi m h (n + 1) (by omega), show n + 1 - 16 = (n - 16) + 1 by omega, sch, show 16 + (n - 16) = n by omega]
/-- The state, the words above k moved up by one. -/
def shL (l : List Int) (k : Nat) : List Int := l.take (k + 1) ++ (l.drop k).take (7 - k)
theorem shL_7 (l : List Int) (h : l.length = 8) : shL l 7 = l := by
  match l, h with | [_, _, _, _, _, _, _, _], _ => rfl
theorem shL_len (l : List Int) (h : l.length = 8) (k : Nat) (hk : k ≤ 7) : (shL l k).length = 8 := by unfold shL; simp; omega
theorem shL_step (l : List Int) (h : l.length = 8) (k : Nat) (hk : k < 7) : (shL l (k + 1)).getD k 0 = l.getD k 0 ∧ (shL l (k + 1)).set (k + 1) (l.getD k 0) = shL l k := by
  match l, h, k, hk with
  | [_, _, _, _, _, _, _, _], _, 0, _ => exact ⟨rfl, rfl⟩
  | [_, _, _, _, _, _, _, _], _, 1, _ => exact ⟨rfl, rfl⟩
  | [_, _, _, _, _, _, _, _], _, 2, _ => exact ⟨rfl, rfl⟩
  | [_, _, _, _, _, _, _, _], _, 3, _ => exact ⟨rfl, rfl⟩
  | [_, _, _, _, _, _, _, _], _, 4, _ => exact ⟨rfl, rfl⟩
  | [_, _, _, _, _, _, _, _], _, 5, _ => exact ⟨rfl, rfl⟩
  | [_, _, _, _, _, _, _, _], _, 6, _ => exact ⟨rfl, rfl⟩
/-- The first words of a row, the rest nought. -/
def tk8 (l : List Int) (n : Nat) : List Int := l.take n ++ List.replicate (8 - n) 0
theorem tk8_step (l : List Int) (h : l.length = 8) (n : Nat) (hn : n < 8) : (tk8 l n).set n (l.getD n 0) = tk8 l (n + 1) := by
  unfold tk8
  have htl : (l.take n).length = n := by simp; omega
  rw [getD_get (by omega), List.set_append_right _ _ (by omega), htl, Nat.sub_self, show 8 - n = (8 - (n + 1)) + 1 by omega, List.replicate_succ, List.set_cons_zero, List.take_succ_eq_append_getElem (by omega), List.append_assoc]
  rfl
theorem tk8_len (l : List Int) (h : l.length = 8) (n : Nat) (hn : n ≤ 8) : (tk8 l n).length = 8 := by unfold tk8; simp; omega
theorem tk8_all (l : List Int) (h : l.length = 8) : tk8 l 8 = l := by unfold tk8; rw [List.take_of_length_le (by omega)]; simp
theorem cell_same {w w' : World} {g : Nat} (h : w'.heap[g]? = w.heap[g]?) (j : Nat) : w'.cell? ⟨g, j, none⟩ = w.cell? ⟨g, j, none⟩ := by
  unfold World.cell?; rw [h]
theorem eight_of {l : List Int} (h : l.length = 8) : ∃ a b c d e f g i, l = [a, b, c, d, e, f, g, i] := by
  match l, h with | [a, b, c, d, e, f, g, i], _ => exact ⟨a, b, c, d, e, f, g, i, rfl⟩
theorem wsum4 (a b c d e : Int) : IntKind.u32.wrap (IntKind.u32.wrap (IntKind.u32.wrap (IntKind.u32.wrap (a + b) + c) + d) + e) = add32 (add32 (add32 a b) c) (add32 e d) := by
  rw [IntKind.wrap_u32', IntKind.wrap_u32', IntKind.wrap_u32', IntKind.wrap_u32']; unfold add32; omega
theorem be4_cut (x : Int) (h0 : 0 ≤ x) (h1 : x ≤ 4294967295) : [Value.int .u8 (x / 16777216), .int .u8 (x / 65536 % 256), .int .u8 (x / 256 % 256), .int .u8 (x % 256)] = (be4 x).map bc := by
  have := be4_cells x
  simp only [IntKind.wrap_u8'] at this
  rw [show x / 16777216 % 256 = x / 16777216 by omega] at this
  exact this
def y8 : Obj := Obj.cells (stK .u32 (List.replicate 8 0)) 159

set_option maxRecDepth 100000 in
set_option maxHeartbeats 4000000 in
theorem l5Step_any (s b : ByteArray) (w : World) (hs : s.size = 32) (hb : b.size = 64) :
    Calls Tryz.prog 122 #[.string s, .string b] w fun e w' => e = .returned (.string (stpB s b)) ∧ Below w.heap.size w w' := by
  have HB1 := Lib.hid (l5Be_any s · (by omega))
  have HB2 := Lib.hid (l5Be_any b · (by omega))
  have hl1 : (beL s.data.toList).length = 8 := by rw [beL_len]; simp; omega
  have hl2 : (beL b.data.toList).length = 16 := by rw [beL_len]; simp; omega
  have HE : Hid (stpB s b = ⟨(stoB (List.zipWith add32 (rndN (sch (beL b.data.toList) 48) (beL s.data.toList) 64) (beL s.data.toList))).toArray⟩) := Lib.hid rfl
  generalize stpB s b = out at HE ⊢
  generalize beL s.data.toList = st at HB1 hl1 HE
  generalize beL b.data.toList = m at HB2 hl2 HE
  go_enter Tryz.func122, Tryz.ntmps122
  go_wp2_with fail
  refine (HB1.out _).mono ?_
  rintro e w1 ⟨v1, rfl, ho1, hb1⟩
  obtain ⟨g5, cap5, rfl, hg5, hg51, -⟩ := ho1.form (fun e => by rw [e] at hl1; cases hl1)
  rw [hl1] at ho1 ⊢
  go_wp2_with fail
  refine (HB2.out _).mono ?_
  rintro e w2 ⟨v2, rfl, ho2, hb2⟩
  obtain ⟨g6, cap6, rfl, hg6, hg6', -⟩ := ho2.form (fun e => by rw [e] at hl2; cases hl2)
  rw [hl2] at ho2 ⊢
  have ho1' := ho1.keep hb2 (Nat.le_refl _)
  have HC5 : Hid (∀ j, j < 8 → w2.cell? ⟨g5, j, none⟩ = some (.int .u32 (st.getD j 0))) := Lib.hid (fun j hj => by rw [getD_get (by omega)]; exact ownK_cell5 ho1' hl1.symm j (by omega))
  have HC6 : Hid (∀ j, j < 16 → w2.cell? ⟨g6, j, none⟩ = some (.int .u32 (m.getD j 0))) := Lib.hid (fun j hj => by rw [getD_get (by omega)]; exact ownK_cell5 ho2 hl2.symm j (by omega))
  have hB2 := hb1.trans (hb2.mono hb1.size)
  have hs2 := hB2.size
  have hg5' : g5 < w2.heap.size := Nat.lt_of_lt_of_le hg51 hb2.size
  have hZ := heap_alloc_new w2 z64
  have HZ := Lib.hid hZ
  have hA0 : Arr ((w2.alloc z64).setRow w2.heap.size (stK .u32 (List.replicate 64 0))) w2.heap.size 158 .u32 (sch1 m 0) := setRow_heap _ _ _ _ _ _ hZ
  have hB0 : Below w.heap.size w ((w2.alloc z64).setRow w2.heap.size (stK .u32 (List.replicate 64 0))) := below_setRow (hB2.alloc hs2 z64) hs2 _
  have h5 : ((w2.alloc z64).setRow w2.heap.size (stK .u32 (List.replicate 64 0))).heap[g5]? = w2.heap[g5]? := by
    rw [setRow_other _ _ _ _ (by omega), Below.heap_alloc _ _ _ hg5']
  have h6 : ((w2.alloc z64).setRow w2.heap.size (stK .u32 (List.replicate 64 0))).heap[g6]? = w2.heap[g6]? := by
    rw [setRow_other _ _ _ _ (by omega), Below.heap_alloc _ _ _ hg6']
  have hs0 : ((w2.alloc z64).setRow w2.heap.size (stK .u32 (List.replicate 64 0))).heap.size = w2.heap.size + 1 := by rw [size_setRow, World.size_alloc]
  have HIW : Hid ((Tryz.prog.info? 158).map (·.size) = some (stK .u32 (List.replicate 64 0)).size) := Lib.hid Tryz.infW
  have HL1 := Lib.hid hl1
  have HL2 := Lib.hid hl2
  clear HB1 HB2 ho1 ho1' ho2 hb1 hb2 hB2 hZ hl1 hl2 hs hb
  go_wp2_with (refine wpList_store_row rfl _ (.tmp 7) (.tmp 30) rfl w2.heap.size (stK .u32 (List.replicate 64 0)) rfl rfl _ _ HZ.out HIW.out rfl (stK_one _ _) ?_)
  change Code.wp _ _ _ _ ((w2.alloc z64).setRow w2.heap.size (stK .u32 (List.replicate 64 0)))
  generalize (w2.alloc z64).setRow w2.heap.size (stK .u32 (List.replicate 64 0)) = w3 at hA0 hB0 h5 h6 hs0 ⊢
  clear HZ HIW
  go_loopw [8] (fun i wr => ∃ n : Nat, n ≤ 64 ∧ i = .int .i64 n ∧ Arr wr w2.heap.size 158 .u32 (sch1 m n) ∧ wr.heap[g5]? = w2.heap[g5]? ∧ wr.heap[g6]? = w2.heap[g6]? ∧ wr.heap.size = w2.heap.size + 1 ∧ Below w.heap.size w wr) (fun i _ => 64 - (intOf i).toNat)
  case atStart => exact ⟨0, Nat.zero_le _, rfl, hA0, h5, h6, hs0, hB0⟩
  case round =>
    clear hA0 h5 h6 hs0 hB0
    obtain ⟨n, hn, rfl, hA, h5, h6, hsz, hB⟩ := hrel
    have hln := sch1_len m HL2.out n
    by_cases hlt : n < 64
    · have hni : (n : Int) < 64 := by omega
      obtain ⟨old, hcn⟩ : ∃ old, wr.cell? ⟨w2.heap.size, n, none⟩ = some (.int .u32 old) := ⟨_, hA.cell n (by omega)⟩
      have hfn := hA.frozen n
      by_cases h16 : n < 16
      · have hn16 : (n : Int) < 16 := by omega
        have hx := (cell_same h6 n).trans (HC6.out n h16)
        have hA2 := hA.set n (m.getD n 0)
        rw [sch1_lo m HL2.out n h16] at hA2
        generalize m.getD n 0 = x at hx hA2
        have HA2 := Lib.hid hA2
        have h52 : (wr.setCell ⟨w2.heap.size, n, none⟩ (.int .u32 x)).heap[g5]? = w2.heap[g5]? := by rw [heap_setCell_other _ _ _ _ (by show g5 ≠ w2.heap.size; omega)]; exact h5
        have h62 : (wr.setCell ⟨w2.heap.size, n, none⟩ (.int .u32 x)).heap[g6]? = w2.heap[g6]? := by rw [heap_setCell_other _ _ _ _ (by show g6 ≠ w2.heap.size; omega)]; exact h6
        have H52 := Lib.hid h52
        have H62 := Lib.hid h62
        have HS2 := Lib.hid (show (wr.setCell ⟨w2.heap.size, n, none⟩ (.int .u32 x)).heap.size = w2.heap.size + 1 by rw [World.size_setCell]; exact hsz)
        have HB2 := Lib.hid (hB.setCell (p := ⟨w2.heap.size, n, none⟩) hs2 (.int .u32 x))
        clear hA hA2 h5 h6 hsz hB h52 h62 hln
        go_wp2
        go_roundw
        case rel => exact ⟨n + 1, by omega, by go_num, HA2.out, H52.out, H62.out, HS2.out, HB2.out⟩
        case measure => simp [intOf]; omega
      · have hn16 : ¬ (n : Int) < 16 := by omega
        obtain ⟨p16, q16⟩ : ∃ p, p = n - 16 := ⟨_, rfl⟩
        obtain ⟨p15, q15⟩ : ∃ p, p = n - 15 := ⟨_, rfl⟩
        obtain ⟨p7, q7⟩ : ∃ p, p = n - 7 := ⟨_, rfl⟩
        obtain ⟨p2, q2⟩ : ∃ p, p = n - 2 := ⟨_, rfl⟩
        have b16 : (p16 : Int) < 64 := by omega
        have b15 : (p15 : Int) < 64 := by omega
        have b7 : (p7 : Int) < 64 := by omega
        have b2 : (p2 : Int) < 64 := by omega
        have v16 : IntKind.i64.wrap ((n : Int) - 16) = (p16 : Int) := by rw [show (n : Int) - 16 = (p16 : Int) by omega]; exact IntWalk.i64_in _ (by omega)
        have v15 : IntKind.i64.wrap ((n : Int) - 15) = (p15 : Int) := by rw [show (n : Int) - 15 = (p15 : Int) by omega]; exact IntWalk.i64_in _ (by omega)
        have v7 : IntKind.i64.wrap ((n : Int) - 7) = (p7 : Int) := by rw [show (n : Int) - 7 = (p7 : Int) by omega]; exact IntWalk.i64_in _ (by omega)
        have v2 : IntKind.i64.wrap ((n : Int) - 2) = (p2 : Int) := by rw [show (n : Int) - 2 = (p2 : Int) by omega]; exact IntWalk.i64_in _ (by omega)
        have u15 : (n : Int) - 15 = (p15 : Int) := by omega
        have u2 : (n : Int) - 2 = (p2 : Int) := by omega
        obtain ⟨xa, ya⟩ : ∃ x, (sch1 m n).getD p16 0 = x := ⟨_, rfl⟩
        obtain ⟨xb, yb⟩ : ∃ x, (sch1 m n).getD p15 0 = x := ⟨_, rfl⟩
        obtain ⟨xc, yc⟩ : ∃ x, (sch1 m n).getD p7 0 = x := ⟨_, rfl⟩
        obtain ⟨xd, yd⟩ : ∃ x, (sch1 m n).getD p2 0 = x := ⟨_, rfl⟩
        have HNX := Lib.hid (nxt_sum (sch1 m n) n xa xb xc xd (by rw [← q16]; exact ya) (by rw [← q15]; exact yb) (by rw [← q7]; exact yc) (by rw [← q2]; exact yd))
        have HSC : Hid ((sch1 m n).set n (nxt (sch1 m n) n) = sch1 m (n + 1)) := Lib.hid (sch1_next m HL2.out n (by omega))
        rw [HNX.out] at HSC
        rw [getD_get (by omega)] at ya yb yc yd
        have e16 : wr.cell? ⟨w2.heap.size, p16, none⟩ = some (.int .u32 xa) := ya ▸ hA.cell p16 (by omega)
        have e15 : wr.cell? ⟨w2.heap.size, p15, none⟩ = some (.int .u32 xb) := yb ▸ hA.cell p15 (by omega)
        have e7 : wr.cell? ⟨w2.heap.size, p7, none⟩ = some (.int .u32 xc) := yc ▸ hA.cell p7 (by omega)
        have e2 : wr.cell? ⟨w2.heap.size, p2, none⟩ = some (.int .u32 xd) := yd ▸ hA.cell p2 (by omega)
        have HC : Hid (wr.cell? ⟨w2.heap.size, p16, none⟩ = some (.int .u32 xa) ∧ wr.cell? ⟨w2.heap.size, p7, none⟩ = some (.int .u32 xc)) := Lib.hid ⟨e16, e7⟩
        have HNE : Hid (n ≠ p16 ∧ n ≠ p7) := Lib.hid ⟨by omega, by omega⟩
        have HCN := Lib.hid hcn
        have HFN := Lib.hid hfn
        have HA := Lib.hid hA
        clear q16 q15 q7 q2 ya yb yc yd hA hcn hfn e16 e7
        go_wp2_with fail
        refine (l2Rot_any _ 25 (by omega) (by omega) _).mono ?_
        rintro en w' ⟨rfl, rfl⟩
        go_wp2_with fail
        refine (l2Rot_any _ 14 (by omega) (by omega) _).mono ?_
        rintro en w' ⟨rfl, rfl⟩
        go_wp2_with fail
        refine (l2Rot_any _ 15 (by omega) (by omega) _).mono ?_
        rintro en w' ⟨rfl, rfl⟩
        go_wp2_with fail
        refine (l2Rot_any _ 13 (by omega) (by omega) _).mono ?_
        rintro en w' ⟨rfl, rfl⟩
        clear e15 e2
        go_wp2
        refine wp_region_T (fun w' => w'.cell? ⟨w2.heap.size, p16, none⟩ = some (.int .u32 xa) ∧ w'.cell? ⟨w2.heap.size, p7, none⟩ = some (.int .u32 xc)) (fun _ => True) 15 (by kernel_rfl) 16 rfl ?_
        refine wpAnyT_takesA (md := .any) 1 (by kernel_rfl) (by intro d v c a w h; cases d <;> exact h) [0, 1, 2, 3, 4, 5, 6, 7, 8, 9, 10, 11, 12, 13, 14] _ _ _ (by decide) (by kernel_rfl) ⟨HC.out, fun _ => trivial⟩ ?_
        simp only [pick, List.filterMap_cons, List.filterMap_nil, List.getElem?_cons_zero, List.getElem?_cons_succ]
        iterate 15 (refine wpIf_step ?_ (by kernel_rfl) ?_ ?_; rotate_left; (rintro w' ⟨e16, e7⟩; go_simp); try with_reducible rfl)
        refine wpIf_nil (fun hS => ?_)
        refine wpAnyT_one 15 0 (by kernel_rfl) rfl (by kernel_rfl) (fun K hK => ?_)
        have hcn := HCN.out
        have hfn := HFN.out
        go_simp
        rw [wsum]
        show K _ ((wr.setCell ⟨w2.heap.size, n, none⟩ (.int .u32 ((xa + sg0 xb + xc + sg1 xd) % 4294967296))).drew)
        have hA2 := HA.out.set n ((xa + sg0 xb + xc + sg1 xd) % 4294967296)
        rw [HSC.out] at hA2
        obtain ⟨f16, f7⟩ := HC.out
        obtain ⟨d16, d7⟩ := HNE.out
        refine hK _ _ ⟨⟨HA.out.cell_set n _ _ d16 f16, HA.out.cell_set n _ _ d7 f7⟩, fun _ => trivial⟩ (fun hS1 => ?_)
        clear hK K hS f16 f7 d16 d7 hS1 hcn hfn HSC HNX
        refine wpAnyT_over (by kernel_rfl) ?_
        generalize (xa + sg0 xb + xc + sg1 xd) % 4294967296 = x at hA2 ⊢
        have HA2 := Lib.hid hA2
        have h52 : (wr.setCell ⟨w2.heap.size, n, none⟩ (.int .u32 x)).heap[g5]? = w2.heap[g5]? := by rw [heap_setCell_other _ _ _ _ (by show g5 ≠ w2.heap.size; omega)]; exact h5
        have h62 : (wr.setCell ⟨w2.heap.size, n, none⟩ (.int .u32 x)).heap[g6]? = w2.heap[g6]? := by rw [heap_setCell_other _ _ _ _ (by show g6 ≠ w2.heap.size; omega)]; exact h6
        have H52 := Lib.hid h52
        have H62 := Lib.hid h62
        have HS2 := Lib.hid (show (wr.setCell ⟨w2.heap.size, n, none⟩ (.int .u32 x)).heap.size = w2.heap.size + 1 by rw [World.size_setCell]; exact hsz)
        have HB2 := Lib.hid (hB.setCell (p := ⟨w2.heap.size, n, none⟩) hs2 (.int .u32 x)).drew
        clear hA2 h5 h6 hsz hB h52 h62 hln HC HCN HFN HA HNE
        go_wp2
        go_roundw
        case rel => exact ⟨n + 1, by omega, by go_num, HA2.out, H52.out, H62.out, HS2.out, HB2.out⟩
        case measure => simp [intOf]; omega
    · have hne : n = 64 := by omega
      have hni : ¬ (n : Int) < 64 := by omega
      rw [hne, sch1_hi m HL2.out 64 (by omega), show 64 - 16 = 48 from rfl] at hA
      have HWL := Lib.hid (sch_len m HL2.out 48)
      generalize sch m 48 = ws at hA HE HWL
      have HRL := Lib.hid (fun k => rndN_len ws st HL1.out k)
      have hZ : Arr (wr.alloc y8) (w2.heap.size + 1) 159 .u32 (List.replicate 8 0) := by
        have := heap_alloc_new wr y8
        rw [hsz] at this; exact this
      have HZ := Lib.hid hZ
      have hN0 : Arr ((wr.alloc y8).setRow (w2.heap.size + 1) (stK .u32 (List.replicate 8 0))) (w2.heap.size + 1) 159 .u32 (tk8 st 0) := setRow_heap _ _ _ _ _ _ hZ
      have hA0 := (hA.alloc y8).otherRow (w2.heap.size + 1) (stK .u32 (List.replicate 8 0)) (by omega)
      have h50 : ((wr.alloc y8).setRow (w2.heap.size + 1) (stK .u32 (List.replicate 8 0))).heap[g5]? = w2.heap[g5]? := by
        rw [setRow_other _ _ _ _ (by omega), Below.heap_alloc _ _ _ (by omega)]; exact h5
      have hB0 := below_setRow (hB.alloc (by omega) y8) (g := w2.heap.size + 1) (by omega) (stK .u32 (List.replicate 8 0))
      have hs0 : ((wr.alloc y8).setRow (w2.heap.size + 1) (stK .u32 (List.replicate 8 0))).heap.size = w2.heap.size + 2 := by rw [size_setRow, World.size_alloc, hsz]
      have HI8 : Hid ((Tryz.prog.info? 159).map (·.size) = some (stK .u32 (List.replicate 8 0)).size) := Lib.hid (by kernel_rfl)
      clear hA h5 h6 hB hln hne hZ HC6 HL2
      go_wp2_with (refine wpList_store_row rfl _ (.tmp 13) (.tmp 82) rfl (w2.heap.size + 1) (stK .u32 (List.replicate 8 0)) rfl rfl _ _ HZ.out HI8.out rfl (stK_one _ _) ?_)
      change Code.wp _ _ _ _ ((wr.alloc y8).setRow (w2.heap.size + 1) (stK .u32 (List.replicate 8 0)))
      generalize (wr.alloc y8).setRow (w2.heap.size + 1) (stK .u32 (List.replicate 8 0)) = w4 at hN0 hA0 h50 hB0 hs0 ⊢
      clear HZ HI8 hsz
      go_loopw [14] (fun i wr => ∃ j : Nat, j ≤ 8 ∧ i = .int .i64 j ∧ Arr wr (w2.heap.size + 1) 159 .u32 (tk8 st j) ∧ Arr wr w2.heap.size 158 .u32 ws ∧ wr.heap[g5]? = w2.heap[g5]? ∧ wr.heap.size = w2.heap.size + 2 ∧ Below w.heap.size w wr) (fun i _ => 8 - (intOf i).toNat)
      case atStart => exact ⟨0, Nat.zero_le _, rfl, hN0, hA0, h50, hs0, hB0⟩
      case round =>
        clear hN0 hA0 h50 hs0 hB0
        obtain ⟨j, hj, rfl, hN, hA, h5, hsz, hB⟩ := hrel
        have hln := tk8_len st HL1.out j hj
        by_cases hjl : j < 8
        · have hji : (j : Int) < 8 := by omega
          obtain ⟨old2, hcn⟩ : ∃ o, o = (tk8 st j).getD j 0 := ⟨_, rfl⟩
          have hc := hN.cell j (by omega)
          rw [← getD_get (by omega), ← hcn] at hc
          have hf := hN.frozen j
          have hx := (cell_same h5 j).trans (HC5.out j hjl)
          have hN2 := hN.set j (st.getD j 0)
          rw [tk8_step st HL1.out j hjl] at hN2
          generalize st.getD j 0 = x at hx hN2
          have HN2 := Lib.hid hN2
          have HA2 := Lib.hid (hA.other (w2.heap.size + 1) j (.int .u32 x) (by omega))
          have h52 : (wr.setCell ⟨w2.heap.size + 1, j, none⟩ (.int .u32 x)).heap[g5]? = w2.heap[g5]? := by rw [heap_setCell_other _ _ _ _ (by show g5 ≠ w2.heap.size + 1; omega)]; exact h5
          have H52 := Lib.hid h52
          have HS2 := Lib.hid (show (wr.setCell ⟨w2.heap.size + 1, j, none⟩ (.int .u32 x)).heap.size = w2.heap.size + 2 by rw [World.size_setCell]; exact hsz)
          have HB2 := Lib.hid (hB.setCell (p := ⟨w2.heap.size + 1, j, none⟩) (by show w.heap.size ≤ w2.heap.size + 1; omega) (.int .u32 x))
          clear hN hA hN2 h5 hsz hB h52 hln hcn
          go_wp2
          go_roundw
          case rel => exact ⟨j + 1, by omega, by go_num, HN2.out, HA2.out, H52.out, HS2.out, HB2.out⟩
          case measure => simp [intOf]; omega
        · have hje : j = 8 := by omega
          have hji : ¬ (j : Int) < 8 := by omega
          rw [hje, tk8_all st HL1.out] at hN
          have hN0 : Arr wr (w2.heap.size + 1) 159 .u32 (rndN ws st 0) := hN
          clear hN hje hln
          go_wp2
          go_loopw [15] (fun i wr => ∃ k : Nat, k ≤ 64 ∧ i = .int .i64 k ∧ Arr wr (w2.heap.size + 1) 159 .u32 (rndN ws st k) ∧ Arr wr w2.heap.size 158 .u32 ws ∧ wr.heap[g5]? = w2.heap[g5]? ∧ wr.heap.size = w2.heap.size + 2 ∧ Below w.heap.size w wr) (fun i _ => 64 - (intOf i).toNat)
          case atStart => exact ⟨0, Nat.zero_le _, rfl, hN0, hA, h5, hsz, hB⟩
          case round =>
            clear hN0 hA h5 hsz hB
            obtain ⟨k, hk, rfl, hN, hA, h5, hsz, hB⟩ := hrel
            by_cases hkl : k < 64
            · have hki : (k : Int) < 64 := by omega
              obtain ⟨a, b', c, d, e, f, g, h, hl8⟩ := eight_of (HRL.out k)
              have hrn : rndN ws st (k + 1) = shaR (add32 (ws.getD k 0) (kTab.getD k 0)) (rndN ws st k) := rfl
              have hwc := hA.cell k (by rw [HWL.out]; exact hkl)
              rw [← getD_get (by rw [HWL.out]; exact hkl)] at hwc
              have HK := Lib.hid (fun w => l5K_any k w hkl)
              rw [hl8] at hN hrn
              generalize ws.getD k 0 = wk at hwc hrn
              generalize kTab.getD k 0 = kk at HK hrn
              have HRN : Hid (rndN ws st (k + 1) = [add32 (oneW e f g h (add32 wk kk)) (twoW a b' c), a, b', c, add32 d (oneW e f g h (add32 wk kk)), e, f, g]) := Lib.hid hrn
              have hE := hN.eight
              have HE8 := Lib.hid hE
              have HN := Lib.hid hN
              have HA := Lib.hid hA
              have HWC := Lib.hid hwc
              obtain ⟨c0, c1, c2, c3, c4, c5, c6, c7⟩ := hE
              have hsg : ¬ IntKind.u32.signed = true := by decide
              have hmx : IntKind.u32.max = 4294967295 := by decide
              clear hrn hl8 hN hA hwc c1 c2 c3 c5 c6 c7
              go_wp2_with fail
              refine (l2Rot_any _ 26 (by omega) (by omega) _).mono ?_
              rintro en w' ⟨rfl, rfl⟩
              go_wp2_with fail
              refine (l2Rot_any _ 21 (by omega) (by omega) _).mono ?_
              rintro en w' ⟨rfl, rfl⟩
              go_wp2_with fail
              refine (l2Rot_any _ 7 (by omega) (by omega) _).mono ?_
              rintro en w' ⟨rfl, rfl⟩
              go_wp2
              clear c0 c4
              refine wp_region_T (fun w' => Eight w' (w2.heap.size + 1) a b' c d e f g h ∧ w'.cell? ⟨w2.heap.size, k, none⟩ = some (.int .u32 wk)) (fun _ => True) 23 (by kernel_rfl) 23 rfl ?_
              refine wpAnyT_takesA (md := .any) 4 (by kernel_rfl) (by intro d v c a w h; cases d <;> exact h) [0, 1, 2, 3, 4, 5, 6, 7, 8, 9, 10, 11, 12, 13, 14, 15, 18, 19, 20] _ _ _ (by decide) (by kernel_rfl) ⟨⟨HE8.out.drew, HWC.out⟩, fun _ => trivial⟩ ?_
              simp only [pick, List.filterMap_cons, List.filterMap_nil, List.getElem?_cons_zero, List.getElem?_cons_succ]
              iterate 19 (refine wpIf_step ?_ (by kernel_rfl) ?_ ?_; rotate_left; (rintro w' ⟨⟨c0, c1, c2, c3, c4, c5, c6, c7⟩, cw⟩; go_simp); try with_reducible rfl)
              refine wpIf_nil (fun hS => ?_)
              refine wpAnyT_one 16 3 (by kernel_rfl) rfl (by kernel_rfl) (fun K hK => ?_)
              go_simp
              refine (HK.out _).mono ?_
              rintro en w' ⟨rfl, rfl⟩
              refine hK _ _ ⟨⟨HE8.out.drew.drew, HWC.out⟩, fun _ => trivial⟩ (fun hS1 => ?_)
              clear hK K hS HK
              refine wpAnyT_takesA (md := .any) 0 (by kernel_rfl) (by intro d v c a w h; cases d <;> exact h) [17, 21, 22] _ _ _ (by decide) (by kernel_rfl) hS1 ?_
              simp only [pick, List.filterMap_cons, List.filterMap_nil, List.getElem?_cons_zero, List.getElem?_cons_succ]
              iterate 3 (refine wpIf_step ?_ (by kernel_rfl) ?_ ?_; rotate_left; (rintro w' ⟨⟨c0, c1, c2, c3, c4, c5, c6, c7⟩, cw⟩; go_simp); try with_reducible rfl)
              refine wpIf_nil (fun hS => ?_)
              refine wpAnyT_over (by kernel_rfl) ?_
              clear hS hS1
              have ho1 : add32 (add32 (add32 h (bits .xor .u32 (bits .xor .u32 (rot e 26) (rot e 21)) (rot e 7))) (bits .xor .u32 (bits .and .u32 e f) (bits .and .u32 (bits .xor .u32 4294967295 e) g))) (add32 wk kk) = oneW e f g h (add32 wk kk) := rfl
              rw [wsum4, ho1]
              clear ho1
              generalize oneW e f g h (add32 wk kk) = one at HRN ⊢
              obtain ⟨c0, c1, c2, c3, c4, c5, c6, c7⟩ := HE8.out
              clear c0 c3 c4 c5 c6 c7
              go_wp2_with fail
              refine (l2Rot_any _ 30 (by omega) (by omega) _).mono ?_
              rintro en w' ⟨rfl, rfl⟩
              go_wp2_with fail
              refine (l2Rot_any _ 19 (by omega) (by omega) _).mono ?_
              rintro en w' ⟨rfl, rfl⟩
              go_wp2_with fail
              refine (l2Rot_any _ 10 (by omega) (by omega) _).mono ?_
              rintro en w' ⟨rfl, rfl⟩
              go_wp2
              clear c1 c2
              have ho2 : (bits .xor .u32 (bits .xor .u32 (rot a 30) (rot a 19)) (rot a 10) + bits .xor .u32 (bits .xor .u32 (bits .and .u32 a b') (bits .and .u32 a c)) (bits .and .u32 b' c)) % 4294967296 = twoW a b' c := rfl
              rw [ho2]
              clear ho2
              generalize twoW a b' c = two at HRN ⊢
              have hN3 : Arr wr.drew.drew (w2.heap.size + 1) 159 .u32 (shL [a, b', c, d, e, f, g, h] 7) := HN.out
              have hA3 : Arr wr.drew.drew w2.heap.size 158 .u32 ws := HA.out
              have h53 : wr.drew.drew.heap[g5]? = w2.heap[g5]? := h5
              have hs3 : wr.drew.drew.heap.size = w2.heap.size + 2 := hsz
              have hB3 : Below w.heap.size w wr.drew.drew := hB.drew.drew
              generalize wr.drew.drew = w5 at hN3 hA3 h53 hs3 hB3 ⊢
              clear HE8 HN HA HWC h5 hsz hB
              go_loopw [22] (fun i wr => ∃ q : Nat, q ≤ 7 ∧ i = .int .i64 q ∧ Arr wr (w2.heap.size + 1) 159 .u32 (shL [a, b', c, d, e, f, g, h] q) ∧ Arr wr w2.heap.size 158 .u32 ws ∧ wr.heap[g5]? = w2.heap[g5]? ∧ wr.heap.size = w2.heap.size + 2 ∧ Below w.heap.size w wr) (fun i _ => (intOf i).toNat)
              case atStart => exact ⟨7, Nat.le_refl _, rfl, hN3, hA3, h53, hs3, hB3⟩
              case round =>
                clear hN3 hA3 h53 hs3 hB3
                obtain ⟨q, hq, rfl, hN, hA, h5, hsz, hB⟩ := hrel
                have hql := shL_len [a, b', c, d, e, f, g, h] rfl q hq
                by_cases hq0 : 0 < q
                · obtain ⟨r, hr⟩ : ∃ r, r = q - 1 := ⟨_, rfl⟩
                  have hqr : q = r + 1 := by omega
                  obtain ⟨st1, st2⟩ := shL_step [a, b', c, d, e, f, g, h] rfl r (by omega)
                  rw [← hqr] at st1 st2
                  have hcr := hN.cell r (by omega)
                  rw [← getD_get (by omega), st1] at hcr
                  obtain ⟨old, hcq⟩ : ∃ o, wr.cell? ⟨w2.heap.size + 1, q, none⟩ = some (.int .u32 o) := ⟨_, hN.cell q (by omega)⟩
                  have hfq := hN.frozen q
                  have hN2 := hN.set q ([a, b', c, d, e, f, g, h].getD r 0)
                  rw [st2] at hN2
                  generalize [a, b', c, d, e, f, g, h].getD r 0 = x at hcr hN2
                  have v1 : IntKind.i64.wrap ((q : Int) - 1) = (r : Int) := by rw [show (q : Int) - 1 = (r : Int) by omega]; exact IntWalk.i64_in _ (by omega)
                  have u1 : (q : Int) - 1 = (r : Int) := by omega
                  have b1 : (r : Int) < 8 := by omega
                  have b2 : (q : Int) < 8 := by omega
                  have b3 : (0 : Int) < (q : Int) := by omega
                  have HN2 := Lib.hid hN2
                  have HA2 := Lib.hid (hA.other (w2.heap.size + 1) q (.int .u32 x) (by omega))
                  have h52 : (wr.setCell ⟨w2.heap.size + 1, q, none⟩ (.int .u32 x)).heap[g5]? = w2.heap[g5]? := by rw [heap_setCell_other _ _ _ _ (by show g5 ≠ w2.heap.size + 1; omega)]; exact h5
                  have H52 := Lib.hid h52
                  have HS2 := Lib.hid (show (wr.setCell ⟨w2.heap.size + 1, q, none⟩ (.int .u32 x)).heap.size = w2.heap.size + 2 by rw [World.size_setCell]; exact hsz)
                  have HB2 := Lib.hid (hB.setCell (p := ⟨w2.heap.size + 1, q, none⟩) (by show w.heap.size ≤ w2.heap.size + 1; omega) (.int .u32 x))
                  have HR := Lib.hid (show r ≤ 7 by omega)
                  have HRQ := Lib.hid (show r < q by omega)
                  clear hN hA hN2 h5 hsz hB h52 hql st1 st2 hqr hr
                  go_wp2
                  go_roundw
                  case rel => exact ⟨r, HR.out, rfl, HN2.out, HA2.out, H52.out, HS2.out, HB2.out⟩
                  case measure => simp [intOf]; exact HRQ.out
                · have hq1 : q = 0 := by omega
                  have b3 : ¬ (0 : Int) < (q : Int) := by omega
                  rw [hq1] at hN
                  have hN' : Arr wr (w2.heap.size + 1) 159 .u32 [a, a, b', c, d, e, f, g] := hN
                  have hc4 := hN'.cell 4 (by simp)
                  have hc0 := hN'.cell 0 (by simp)
                  have hf4 := hN'.frozen 4
                  have hf0 := hN'.frozen 0
                  simp only [List.getElem_cons_zero, List.getElem_cons_succ] at hc4 hc0
                  have HN2 : Hid (Arr ((wr.setCell ⟨w2.heap.size + 1, 4, none⟩ (.int .u32 (add32 d one))).setCell ⟨w2.heap.size + 1, 0, none⟩ (.int .u32 (add32 one two))) (w2.heap.size + 1) 159 .u32 (rndN ws st (k + 1))) := Lib.hid (by rw [HRN.out]; exact (hN'.set 4 _).set 0 _)
                  have HA2 := Lib.hid ((hA.other (w2.heap.size + 1) 4 (.int .u32 (add32 d one)) (by omega)).other (w2.heap.size + 1) 0 (.int .u32 (add32 one two)) (by omega))
                  have h52 : ((wr.setCell ⟨w2.heap.size + 1, 4, none⟩ (.int .u32 (add32 d one))).setCell ⟨w2.heap.size + 1, 0, none⟩ (.int .u32 (add32 one two))).heap[g5]? = w2.heap[g5]? := by
                    rw [heap_setCell_other _ _ _ _ (by show g5 ≠ w2.heap.size + 1; omega), heap_setCell_other _ _ _ _ (by show g5 ≠ w2.heap.size + 1; omega)]; exact h5
                  have H52 := Lib.hid h52
                  have HS2 := Lib.hid (show ((wr.setCell ⟨w2.heap.size + 1, 4, none⟩ (.int .u32 (add32 d one))).setCell ⟨w2.heap.size + 1, 0, none⟩ (.int .u32 (add32 one two))).heap.size = w2.heap.size + 2 by rw [World.size_setCell, World.size_setCell]; exact hsz)
                  have HB2 := Lib.hid ((hB.setCell (p := ⟨w2.heap.size + 1, 4, none⟩) (by show w.heap.size ≤ w2.heap.size + 1; omega) (.int .u32 (add32 d one))).setCell (p := ⟨w2.heap.size + 1, 0, none⟩) (by show w.heap.size ≤ w2.heap.size + 1; omega) (.int .u32 (add32 one two)))
                  clear hN hN' hA h5 hsz hB h52 hql hq1
                  go_wp2
                  go_roundw
                  case rel => exact ⟨k + 1, by omega, by go_num, HN2.out, HA2.out, H52.out, HS2.out, HB2.out⟩
                  case measure => simp [intOf]; omega
            · have hke : k = 64 := by omega
              have hki : ¬ (k : Int) < 64 := by omega
              rw [hke] at hN
              have hfl := HRL.out 64
              generalize rndN ws st 64 = fin at hN hfl HE
              have hzl : (List.zipWith add32 fin st).length = 8 := by rw [List.length_zipWith, hfl, HL1.out]; rfl
              have HZW : Hid (∀ (j : Nat) (h : j < (List.zipWith add32 fin st).length), (List.zipWith add32 fin st)[j] = (st.getD j 0 + fin.getD j 0) % 4294967296) := Lib.hid (fun j h => by
                rw [List.getElem_zipWith, getD_get (l := st) (by rw [HL1.out]; omega), getD_get (l := fin) (by omega)]
                show (_ + _) % _ = _
                rw [Int.add_comm])
              generalize List.zipWith add32 fin st = zs at HE hzl HZW
              have HFL := Lib.hid hfl
              have HZL := Lib.hid hzl
              have hO0 : OwnB (wr.alloc (.cells #[] 5)) (w2.heap.size + 2) (.slice (some ⟨w2.heap.size + 2, 0, none⟩) 0 0) (stoB (zs.take 0)) := by
                have := OwnB.lit wr (w2.heap.size + 2) (by omega)
                rw [hsz] at this; exact this
              have hN0 := hN.alloc (.cells #[] 5)
              have h50 : (wr.alloc (.cells #[] 5)).heap[g5]? = w2.heap[g5]? := by rw [Below.heap_alloc _ _ _ (by omega)]; exact h5
              have hs0 : w2.heap.size + 2 ≤ (wr.alloc (.cells #[] 5)).heap.size := by rw [World.size_alloc]; omega
              have hB0 := hB.alloc (by omega) (.cells #[] 5)
              clear hN hA h5 hB hke hfl hzl HRL HWL
              go_wp2
              go_loopw [23, 24] (fun v i wr => ∃ q : Nat, q ≤ 8 ∧ i = .int .i64 q ∧ OwnB wr (w2.heap.size + 2) v (stoB (zs.take q)) ∧ Arr wr (w2.heap.size + 1) 159 .u32 fin ∧ wr.heap[g5]? = w2.heap[g5]? ∧ w2.heap.size + 2 ≤ wr.heap.size ∧ Below w.heap.size w wr) (fun _ i _ => 8 - (intOf i).toNat)
              case atStart => exact ⟨0, Nat.zero_le _, rfl, hO0, hN0, h50, hs0, hB0⟩
              case round =>
                clear hO0 hN0 h50 hs0 hB0
                obtain ⟨q, hq, rfl, hO, hN, h5, hsz, hB⟩ := hrel
                by_cases hql : q < 8
                · have hqi : (q : Int) < 8 := by omega
                  have hx := (cell_same h5 q).trans (HC5.out q hql)
                  have hy := hN.cell q (by rw [HFL.out]; exact hql)
                  rw [← getD_get (by rw [HFL.out]; exact hql)] at hy
                  have hz := HZW.out q (by rw [HZL.out]; exact hql)
                  have hsn := stoB_snoc zs q (by rw [HZL.out]; exact hql)
                  rw [hz] at hsn
                  generalize st.getD q 0 = x at hx hsn
                  generalize fin.getD q 0 = y at hy hsn
                  have HCL : Hid (wr.cell? ⟨g5, q, none⟩ = some (.int .u32 x) ∧ wr.cell? ⟨w2.heap.size + 1, q, none⟩ = some (.int .u32 y)) := Lib.hid ⟨hx, hy⟩
                  have hwx : IntKind.u32.wrap (x + y) = (x + y) % 4294967296 := IntKind.wrap_u32' _
                  have hz0 : 0 ≤ (x + y) % 4294967296 := by omega
                  have hz1 : (x + y) % 4294967296 ≤ 4294967295 := by omega
                  generalize (x + y) % 4294967296 = z at hwx hz0 hz1 hsn
                  have HSN := Lib.hid hsn
                  have HO := Lib.hid hO
                  have HLL : Hid ((stoB (zs.take q)).length + 4 ≤ 1000000000) := Lib.hid (by rw [stoB_len]; simp; omega)
                  have HCT := Lib.hid (be4_cut z hz0 hz1)
                  clear hx hy hz hsn hO
                  go_wp2
                  refine wp_region_T (fun w' => w'.cell? ⟨g5, q, none⟩ = some (.int .u32 x) ∧ w'.cell? ⟨w2.heap.size + 1, q, none⟩ = some (.int .u32 y)) (fun _ => True) 9 (by kernel_rfl) 9 rfl ?_
                  refine wpAnyT_takesA (md := .any) 0 (by kernel_rfl) (by intro d v c a w h; cases d <;> exact h) [0, 1, 2, 3, 4, 5, 6, 7, 8] _ _ _ (by decide) (by kernel_rfl) ⟨HCL.out, fun _ => trivial⟩ ?_
                  simp only [pick, List.filterMap_cons, List.filterMap_nil, List.getElem?_cons_zero, List.getElem?_cons_succ]
                  iterate 9 (refine wpIf_step ?_ (by kernel_rfl) ?_ ?_; rotate_left; (rintro w' ⟨ex, ey⟩; go_simp); try with_reducible rfl)
                  refine wpIf_nil (fun hS => ?_)
                  refine wpAnyT_over (by kernel_rfl) ?_
                  clear hS
                  go_wp2_with (at_builtin; refine wpList_appB rfl (.tmp 188) (.tmp 200) rfl (w2.heap.size + 2) _ _ rfl (HO.out.drew.alloc _) wr.heap.size 4 _ _ (be4 z) rfl (heap_alloc_new wr.drew _) (by first | exact HCT.out | (simp only [IntKind.wrap_u8']; exact HCT.out) | exact be4_cells z) rfl (by decide) HLL.out (by simp; omega) ?_; intro v1 w6 hown1 hb1)
                  rw [← HSN.out] at hown1
                  have hN1 := (hN.drew.alloc _).below hb1 (by omega)
                  have h51 : w6.heap[g5]? = w2.heap[g5]? := by
                    refine (hb1.block g5 (by omega)).trans ?_
                    show (wr.alloc _).heap[g5]? = _
                    rw [Below.heap_alloc _ _ _ (by omega)]; exact h5
                  have hs1 : w2.heap.size + 2 ≤ w6.heap.size := by
                    have h3 := hb1.size
                    change (wr.alloc _).heap.size ≤ _ at h3
                    rw [World.size_alloc] at h3; omega
                  have hB1 := (hB.drew.alloc (by show w.heap.size ≤ wr.heap.size; omega) _).trans (hb1.mono (by omega))
                  clear hb1 HO hN h5 hsz hB HCL HSN HCT HLL
                  go_wp2
                  go_roundw
                  case rel => exact ⟨q + 1, by omega, by go_num, hown1, hN1, h51, hs1, hB1⟩
                  case measure => simp [intOf]; omega
                · have hqe : q = 8 := by omega
                  have hqi : ¬ (q : Int) < 8 := by omega
                  rw [hqe, List.take_of_length_le (by rw [HZL.out]; exact Nat.le_refl _)] at hO
                  have hcv := conv_ownB hO
                  rw [← HE.out] at hcv
                  clear hqe
                  go_wp2
                  go_ret
                  exact ⟨rfl, hB⟩
end Go.Proofs.YtlipgmaiooljkaaGreatDoor

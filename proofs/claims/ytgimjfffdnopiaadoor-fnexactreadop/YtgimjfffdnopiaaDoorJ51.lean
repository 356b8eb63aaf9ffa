/- Joined: W11f. -/
import Derived.Test.YtgimjfffdnopiaaDoorJ35
import Derived.Test.YtgimjfffdnopiaaDoorJ47
import Derived.Test.YtgimjfffdnopiaaDoorJ50
/- W11f -/
namespace Go.Proofs.YtgimjfffdnopiaaDoor
open Go.ChangeShapes Go.WideShapes Go.ChangeAt Go.RowKit Go.Shelf
set_option linter.unusedVariables false
set_option linter.unusedSimpArgs false

theorem occ1 (l : List UInt8) (c : UInt8) (j : Nat) : Lib.occAt l [c] j = true ↔ l[j]? = some c := by
  unfold Lib.occAt
  constructor
  · intro h
    obtain ⟨r, hr⟩ := (pre_iff (l.drop j) [c]).1 h
    have : (l.drop j)[0]? = some c := by rw [hr]; rfl
    simpa using this
  · intro h
    have hj : j < l.length := (List.getElem?_eq_some_iff.1 h).1
    refine (pre_iff (l.drop j) [c]).2 ⟨l.drop (j + 1), ?_⟩
    rw [List.drop_eq_getElem_cons hj]
    have := (List.getElem?_eq_some_iff.1 h).2
    rw [this]
    rfl
theorem byte_32 (s : ByteArray) (k : Nat) (h : k < s.size) : (((s[k].toNat : Nat) : Int) == 32) = Lib.occAt s.data.toList [32] k := by
  have hl : k < s.data.toList.length := by simpa using h
  have e : s.data.toList[k] = s[k] := by simp; rfl
  rw [Bool.eq_iff_iff, beq_iff_eq, occ1, List.getElem?_eq_getElem hl, e]
  constructor
  · intro h
    have h2 : s[k].toNat = 32 := by omega
    rw [UInt8.toNat_inj.1 (show s[k].toNat = (32 : UInt8).toNat by rw [h2]; rfl)]
  · intro h
    rw [Option.some.inj h]
    rfl
theorem cut1_none (s : ByteArray) (h : ∀ j, j < s.size → Lib.occAt s.data.toList [32] j = false) : Lib.cut s.data.toList [32] = (s.data.toList, [], false) := by
  refine cut_nosp _ (fun hm => ?_)
  obtain ⟨j, hj, he⟩ := List.mem_iff_getElem.1 hm
  have hs : j < s.size := by simpa using hj
  have h2 := (occ1 s.data.toList 32 j).2 (by rw [List.getElem?_eq_getElem hj, he])
  rw [h j hs] at h2
  cases h2
theorem cut1_at (s : ByteArray) (k : Nat) (hk : k < s.size) (hn : ∀ j, j < k → Lib.occAt s.data.toList [32] j = false) (ho : Lib.occAt s.data.toList [32] k = true) : Lib.cut s.data.toList [32] = ((s.extract 0 k).data.toList, (s.extract (k + 1) s.size).data.toList, true) := by
  have hi : Lib.index s.data.toList [32] = (k : Int) := Lib.index_first (by rw [len_list]; omega) ho hn
  have hk0 : (0 : Int) ≤ (k : Int) := by omega
  unfold Lib.cut
  rw [hi, if_pos hk0, Int.toNat_natCast, ext_list, ext_list, List.drop_zero, List.take_of_length_le (Nat.le_of_eq (len_list s))]
  rfl

set_option maxRecDepth 100000 in
set_option maxHeartbeats 1600000 in
theorem l1Cut_any (s : ByteArray) (w : World) (hs : s.size ≤ 4000000) :
    Calls Tryd.prog 65 #[.string s, .int .u8 32] w fun e w' => e = .returned (.tuple #[.string (bl (Lib.cut s.data.toList [32]).1), .string (bl (Lib.cut s.data.toList [32]).2.1), .bool (Lib.cut s.data.toList [32]).2.2]) ∧ Below w.heap.size w w' := by
  obtain ⟨o, ho⟩ : ∃ o, o = Lib.cut s.data.toList [32] := ⟨_, rfl⟩
  rw [← ho]
  have HN : Hid ((∀ j, j < s.size → Lib.occAt s.data.toList [32] j = false) → Ending.returned (.tuple #[.string s, .string ⟨#[]⟩, .bool false]) = Ending.returned (.tuple #[.string (bl o.1), .string (bl o.2.1), .bool o.2.2])) := Lib.hid (fun h => by rw [ho, cut1_none s h])
  have HY : Hid (∀ k, k < s.size → (∀ j, j < k → Lib.occAt s.data.toList [32] j = false) → Lib.occAt s.data.toList [32] k = true → Ending.returned (.tuple #[.string (s.extract 0 k), .string (s.extract (k + 1) s.size), .bool true]) = Ending.returned (.tuple #[.string (bl o.1), .string (bl o.2.1), .bool o.2.2])) := Lib.hid (fun k hk hn h1 => by
    rw [ho, cut1_at s k hk hn h1, bl_back, bl_back])
  have HC := Lib.hid (byte_32 s)
  clear ho
  go_enter Tryd.func65, Tryd.ntmps65
  go_wp2
  go_loopw [7] (fun i wr => ∃ k : Nat, k ≤ s.size ∧ i = .int .i64 (k : Int) ∧ Hid (∀ j, j < k → Lib.occAt s.data.toList [32] j = false) ∧ wr = w) (fun i _ => s.size + 1 - (intOf i).toNat)
  case atStart => exact ⟨0, Nat.zero_le _, rfl, Lib.hid (fun j hj => by omega), rfl⟩
  case round =>
    obtain ⟨k, hk, rfl, HJ, rfl⟩ := hrel
    by_cases hlt : k < s.size
    case neg =>
      have hke : k = s.size := by omega
      have hO := HN.out (by rw [← hke]; exact HJ.out)
      clear HN HY HC HJ hke
      go_wp2
      go_ret3
      exact ⟨hO, Below.refl _ _⟩
    have hc := HC.out k hlt
    cases hoc : Lib.occAt s.data.toList [32] k with
    | false =>
      rw [hoc] at hc
      have HJ2 : Hid (∀ j, j < k + 1 → Lib.occAt s.data.toList [32] j = false) := Lib.hid (fun j hj => by
        by_cases h : j < k
        · exact HJ.out j h
        · rw [show j = k by omega]; exact hoc)
      clear HN HY HC HJ hoc
      go_wp2
      go_roundw
      case rel => exact ⟨k + 1, by omega, by go_num, HJ2, by first | rfl | trivial⟩
      case measure => simp [intOf]; omega
    | true =>
      rw [hoc] at hc
      have hO := HY.out k hlt HJ.out hoc
      clear HN HY HC HJ hoc
      go_wp2
      have k1 : IntKind.i64.wrap ((k : Int) + 1) = (k : Int) + 1 := IntWalk.i64_in _ (by omega)
      have k2 : (0 : Int) ≤ (k : Int) + 1 := by omega
      have k3 : (k : Int) + 1 ≤ (s.size : Int) := by omega
      have k4 : ((k : Int) + 1).toNat = k + 1 := by omega
      have k5 : (k : Int) ≤ (s.size : Int) := by omega
      refine wp_region_T (fun _ => True) (fun _ => True) 9 (by kernel_rfl) 10 rfl ?_
      refine wpAnyT_takesA (md := .any) 3 (by kernel_rfl) (by intro d v c a w h; cases d <;> exact h) [0, 1, 2, 3, 4, 5, 6] _ _ _ (by decide) (by kernel_rfl) ⟨trivial, fun _ => trivial⟩ ?_
      simp only [pick, List.filterMap_cons, List.filterMap_nil, List.getElem?_cons_zero, List.getElem?_cons_succ]
      refine wpIf_step (.string s) (by kernel_rfl) (fun w _ => by go_simp) ?_
      refine wpIf_step (.int .i64 (k : Int)) (by kernel_rfl) (fun w _ => by go_simp) ?_
      refine wpIf_step (.string (s.extract 0 k)) (by kernel_rfl) (fun w _ => by go_simp) ?_
      refine wpIf_step (.string s) (by kernel_rfl) (fun w _ => by go_simp) ?_
      refine wpIf_step (.int .i64 (k : Int)) (by kernel_rfl) (fun w _ => by go_simp) ?_
      refine wpIf_step (.int .i64 ((k : Int) + 1)) (by kernel_rfl) (fun w _ => by go_simp) ?_
      refine wpIf_step (.string (s.extract (k + 1) s.size)) (by kernel_rfl) (fun w _ => by go_simp) ?_
      refine wpIf_nil (fun hSx => ?_)
      clear hSx
      refine wpAnyT_one 7 2 (by kernel_rfl) rfl (by kernel_rfl) (fun K hK => ?_)
      go_simp
      refine hK _ _ ⟨trivial, fun _ => trivial⟩ (fun hSx => ?_)
      clear hK K hSx
      refine wpAnyT_one 8 1 (by kernel_rfl) rfl (by kernel_rfl) (fun K hK => ?_)
      go_simp
      refine hK _ _ ⟨trivial, fun _ => trivial⟩ (fun hSx => ?_)
      clear hK K hSx
      refine wpAnyT_one 9 0 (by kernel_rfl) rfl (by kernel_rfl) (fun K hK => ?_)
      go_simp
      refine hK _ _ ⟨trivial, fun _ => trivial⟩ (fun hSx => ?_)
      clear hK K hSx
      refine wpAnyT_over (by kernel_rfl) ?_
      go_wp2
      go_ret3
      exact ⟨hO, (Below.refl _ _).drew⟩

theorem kd_eq (wd : List UInt8) (k : Int) (h : k = 1 ∨ k = 2 ∨ k = 3 ∨ k = 4 ∨ k = 5 ∨ k = 6 ∨ k = 7 ∨ k = 8 ∨ k = 9) : ((wdB k).toList == (bl wd).toList) = decide (kdN wd = k) := by
  rw [ByteArray.toList_eq, ByteArray.toList_eq, bl_list, Bool.eq_iff_iff, beq_iff_eq, decide_eq_true_eq]
  constructor
  · intro e
    have h1 := (kdN_word h).1
    rw [e] at h1
    exact h1
  · intro e
    rcases kdN_cases wd with h0 | ⟨_, h1⟩
    · omega
    · rw [e] at h1
      exact h1

set_option maxRecDepth 100000 in
set_option maxHeartbeats 8000000 in
theorem specReadOp_any (s : ByteArray) (w : World) (hs : s.size ≤ 2000000) :
    Calls Tryd.prog 28 #[.string s] w fun e w' => RoOut w.heap.size (rdO s) e w' ∧ Below w.heap.size w w' := by
  obtain ⟨o, ho⟩ : ∃ o, o = rdO s := ⟨_, rfl⟩
  rw [← ho]
  have hz := Box.new w #[.int .i64 0, .string ⟨#[]⟩, .string ⟨#[]⟩, .int .i64 0, .string ⟨#[]⟩, .string ⟨#[]⟩, .slice none 0 0] 44
  have hB : Below w.heap.size w (w.alloc (.cells #[.int .i64 0, .string ⟨#[]⟩, .string ⟨#[]⟩, .int .i64 0, .string ⟨#[]⟩, .string ⟨#[]⟩, .slice none 0 0] 44)) := (Below.refl _ _).alloc (Nat.le_refl _) _
  have HT := Lib.hid (fun w => l1Cut_any s w (by omega))
  have hcl : (Lib.cut s.data.toList [32]).2.1.length ≤ 2000000 := by
    cases h : (Lib.cut s.data.toList [32]).2.2 with
    | true =>
      have e := congrArg List.length (cut_yes h)
      simp only [List.length_append] at e
      have k0 : s.data.toList.length = s.size := by simp
      omega
    | false =>
      unfold Lib.cut at h ⊢
      split at h
      · cases h
      · rename_i h0
        rw [if_neg h0]
        exact Nat.zero_le _
  have HC : Hid (o = (dQ (kdN (Lib.cut s.data.toList [32]).1) (Lib.cut s.data.toList [32]).2.1).bind fun q => if opX q = s then some q else none) := Lib.hid (by rw [ho, rdO_ref]; rfl)
  generalize Lib.cut s.data.toList [32] = c at HT HC hcl
  clear ho hs
  obtain ⟨wd, r, fd⟩ := c
  dsimp only at HT HC hcl
  go_enter Tryd.func28, Tryd.ntmps28
  go_wp2_with fail
  generalize w.alloc (.cells #[.int .i64 0, .string ⟨#[]⟩, .string ⟨#[]⟩, .int .i64 0, .string ⟨#[]⟩, .string ⟨#[]⟩, .slice none 0 0] 44) = W0 at hz hB ⊢
  refine (HT.out _).mono ?_
  rintro e w1 ⟨rfl, hb⟩
  replace hz := hz.keep hb hz.lt
  replace hB := hB.trans (hb.mono hB.size)
  clear hb HT
  have hwl : w.heap.size < w1.heap.size := hz.lt
  have hx := Box.new w1 #[.int .i64 0, .string ⟨#[]⟩, .string ⟨#[]⟩, .int .i64 0, .string ⟨#[]⟩, .string ⟨#[]⟩, .slice none 0 0] 44
  have hia : Below w1.heap.size w1 (w1.alloc (.cells #[.int .i64 0, .string ⟨#[]⟩, .string ⟨#[]⟩, .int .i64 0, .string ⟨#[]⟩, .string ⟨#[]⟩, .slice none 0 0] 44)) := (Below.refl _ _).alloc (Nat.le_refl _) _
  replace hz := hz.keep hia hz.lt
  replace hB := hB.trans (hia.mono hB.size)
  clear hia
  have HKE := Lib.hid (kd_eq wd)
  have hkc : kdN wd = 0 ∨ kdN wd = 1 ∨ kdN wd = 2 ∨ kdN wd = 3 ∨ kdN wd = 4 ∨ kdN wd = 5 ∨ kdN wd = 6 ∨ kdN wd = 7 ∨ kdN wd = 8 ∨ kdN wd = 9 := by
    rcases kdN_cases wd with h | h
    · exact .inl h
    · exact .inr h.1
  have hrs : (bl r).size ≤ 2000000 := by rw [bl_size]; exact hcl
  generalize kdN wd = k at HC HKE hkc
  generalize bl wd = WD at HKE ⊢
  go_wp2
  generalize w1.alloc (.cells #[.int .i64 0, .string ⟨#[]⟩, .string ⟨#[]⟩, .int .i64 0, .string ⟨#[]⟩, .string ⟨#[]⟩, .slice none 0 0] 44) = W1 at hx hz hB ⊢
  generalize w1.heap.size = GX at hx hwl ⊢
  go_loopw [8] (fun i wr => ∃ (q : Nat) (z : Int), 1 ≤ q ∧ q ≤ 10 ∧ i = .int .i64 (q : Int) ∧ Box wr GX #[.int .i64 z, .string ⟨#[]⟩, .string ⟨#[]⟩, .int .i64 0, .string ⟨#[]⟩, .string ⟨#[]⟩, .slice none 0 0] 44 ∧ Hid (z = if k < (q : Int) then k else 0) ∧ Box wr w.heap.size #[.int .i64 0, .string ⟨#[]⟩, .string ⟨#[]⟩, .int .i64 0, .string ⟨#[]⟩, .string ⟨#[]⟩, .slice none 0 0] 44 ∧ Below w.heap.size w wr) (fun i _ => 10 - (intOf i).toNat)
  case atStart => exact ⟨1, 0, by omega, by omega, rfl, hx, Lib.hid (by split <;> omega), hz, hB⟩
  case round =>
    clear hx hz hB
    obtain ⟨q, z, hq1, hq2, rfl, hx, HZ, hz, hB⟩ := hrel
    by_cases hlt : q < 10
    case pos =>
      have hqc : (q : Int) = 1 ∨ (q : Int) = 2 ∨ (q : Int) = 3 ∨ (q : Int) = 4 ∨ (q : Int) = 5 ∨ (q : Int) = 6 ∨ (q : Int) = 7 ∨ (q : Int) = 8 ∨ (q : Int) = 9 := by omega
      have HW := Lib.hid (fun w => l11Word_any (q : Int) w hqc)
      have he := HKE.out (q : Int) hqc
      clear hqc
      generalize wdB (q : Int) = Wq at HW he
      go_wp2_with fail
      refine (HW.out _).mono ?_
      rintro e w2 ⟨rfl, hb⟩
      replace hz := hz.keep hb hz.lt
      replace hx := hx.keep hb hx.lt
      replace hB := hB.trans (hb.mono hB.size)
      clear hb HW
      by_cases hkq : k = (q : Int)
      case neg =>
        rw [decide_eq_false hkq] at he
        have HZ2 : Hid (z = if k < ((q + 1 : Nat) : Int) then k else 0) := Lib.hid (by rw [HZ.out]; split <;> split <;> omega)
        clear HZ
        go_wp2
        go_roundw
        case rel => exact ⟨q + 1, z, by omega, by omega, by go_num, hx, HZ2, hz, hB⟩
        case measure => simp [intOf]; omega
      rw [decide_eq_true hkq] at he
      have HZ2 : Hid ((q : Int) = if k < ((q + 1 : Nat) : Int) then k else 0) := Lib.hid (by rw [hkq]; split <;> omega)
      have y0 := hx.cell 0 _ rfl
      have g0 := hx.free 0
      have hx2 : Box (w2.setCell ⟨GX, 0, none⟩ (.int .i64 (q : Int))) GX #[.int .i64 (q : Int), .string ⟨#[]⟩, .string ⟨#[]⟩, .int .i64 0, .string ⟨#[]⟩, .string ⟨#[]⟩, .slice none 0 0] 44 := hx.set 0 (.int .i64 (q : Int))
      have hbe : Below GX w2 (w2.setCell ⟨GX, 0, none⟩ (.int .i64 (q : Int))) := (Below.refl _ _).setCell (p := ⟨GX, 0, none⟩) (Nat.le_refl _) _
      have hz2 := hz.keep hbe hwl
      have hB2 := hB.trans (hbe.mono (Nat.le_of_lt hwl))
      have HQ := Lib.hid hkq
      clear HZ hz hB hbe hkq hx
      go_wp2
      go_roundw
      case rel => exact ⟨q + 1, (q : Int), by omega, by omega, by go_num, hx2, HZ2, hz2, hB2⟩
      case measure => simp [intOf]; omega
    have hz10 : z = k := by
      rw [HZ.out]
      split <;> omega
    subst hz10
    clear HZ HKE
    have hhc := hlt
    rcases (show z = 0 ∨ z = 3 ∨ z = 9 ∨ (¬ z = 0 ∧ ¬ z = 3 ∧ ¬ z = 9) by omega) with rfl | rfl | rfl | ⟨n0, n3, n9⟩
    ·
      have hO : o = none := HC.out
      clear HC hkc
      have x0 := hx.cell 0 _ rfl
      have x1 := hx.cell 1 _ rfl
      have x2 := hx.cell 2 _ rfl
      have x3 := hx.cell 3 _ rfl
      have x4 := hx.cell 4 _ rfl
      have x5 := hx.cell 5 _ rfl
      have x6 := hx.cell 6 _ rfl
      have z0 := hz.cell 0 _ rfl
      have z1 := hz.cell 1 _ rfl
      have z2 := hz.cell 2 _ rfl
      have z3 := hz.cell 3 _ rfl
      have z4 := hz.cell 4 _ rfl
      have z5 := hz.cell 5 _ rfl
      have z6 := hz.cell 6 _ rfl
      have f0 := hz.free 0
      have f1 := hz.free 1
      have f2 := hz.free 2
      have f3 := hz.free 3
      have f4 := hz.free 4
      have f5 := hz.free 5
      have f6 := hz.free 6
      go_wp2
      refine bodyPost_ret (results_op2 rfl _ _ _ 0 ⟨#[]⟩ ⟨#[]⟩ 0 ⟨#[]⟩ ⟨#[]⟩ (.slice none 0 0) _ rfl rfl (put7o _ _ _ _ _ _ _ _ _ hz rfl)) rfl ?_
      exact ⟨ro_zero hO, hB.trans (below7o _ w.heap.size _ (Nat.le_refl _) _ _ _ _ _ _ _)⟩
    ·
      have HRr := Lib.hid (fun w => specReadFeed_any (bl r) w)
      have x0 := hx.cell 0 _ rfl
      have x1 := hx.cell 1 _ rfl
      have x2 := hx.cell 2 _ rfl
      have x3 := hx.cell 3 _ rfl
      have x4 := hx.cell 4 _ rfl
      have x5 := hx.cell 5 _ rfl
      have x6 := hx.cell 6 _ rfl
      go_wp2_with fail
      clear x0 x1 x2 x3 x4 x5 x6
      have hGl : GX + 1 ≤ wr.heap.size := hx.lt
      refine (HRr.out _).mono ?_
      rintro e w3 ⟨hrf, hb⟩
      replace hz := hz.keep hb hz.lt
      replace hx := hx.keep hb hx.lt
      replace hB := Below.trans hB (hb.mono hB.size)
      clear hb
      clear HRr
      cases hf : rdF (bl r) with
      | none =>
        rw [hf] at hrf
        obtain rfl : e = .returned (.tuple #[fV ⟨#[]⟩ ⟨#[]⟩ (.slice none 0 0), .bool false]) := hrf
        have hO : o = none := by
          have h := HC.out
          unfold dQ at h
          rw [if_pos rfl, hf] at h
          exact h
        clear HC hf hkc
        have hia : Below w3.heap.size w3 (w3.alloc (fC ⟨#[]⟩ ⟨#[]⟩ (.slice none 0 0))) := (Below.refl _ _).alloc (Nat.le_refl _) _
        replace hz := hz.keep hia hz.lt
        replace hB := hB.trans (hia.mono hB.size)
        clear hia hx
        have z0 := hz.cell 0 _ rfl
        have z1 := hz.cell 1 _ rfl
        have z2 := hz.cell 2 _ rfl
        have z3 := hz.cell 3 _ rfl
        have z4 := hz.cell 4 _ rfl
        have z5 := hz.cell 5 _ rfl
        have z6 := hz.cell 6 _ rfl
        have f0 := hz.free 0
        have f1 := hz.free 1
        have f2 := hz.free 2
        have f3 := hz.free 3
        have f4 := hz.free 4
        have f5 := hz.free 5
        have f6 := hz.free 6
        go_wp2
        refine bodyPost_ret (results_op2 rfl _ _ _ 0 ⟨#[]⟩ ⟨#[]⟩ 0 ⟨#[]⟩ ⟨#[]⟩ (.slice none 0 0) _ rfl rfl (put7o _ _ _ _ _ _ _ _ _ hz rfl)) rfl ?_
        exact ⟨ro_zero hO, hB.trans (below7o _ w.heap.size _ (Nat.le_refl _) _ _ _ _ _ _ _)⟩
      | some f =>
        obtain ⟨fu, ft, its⟩ := f
        rw [hf] at hrf
        obtain ⟨v, rfl, hown⟩ := hrf
        dsimp only at hown
        have HOe : Hid (o = if opX (⟨3, ⟨#[]⟩, ⟨#[]⟩, 0, fu, ft, its⟩ : OpD) = s then some (⟨3, ⟨#[]⟩, ⟨#[]⟩, 0, fu, ft, its⟩ : OpD) else none) := Lib.hid (by
          have h := HC.out
          unfold dQ at h
          rw [if_pos rfl, hf, Option.map_some, Option.bind_some] at h
          exact h)
        have HZs : Hid (fu.size ≤ maxLen ∧ ft.size ≤ maxLen ∧ ∀ x ∈ its, x.id.size ≤ maxLen ∧ x.ti.size ≤ maxLen) := Lib.hid (by
          obtain ⟨h1, h2, h3⟩ := fdB_parts8 (rdF_some hf).1
          dsimp only at h1 h2 h3
          refine ⟨by unfold maxLen; omega, by unfold maxLen; omega, fun x hx => ?_⟩
          obtain ⟨a, b, _⟩ := h3 x hx
          unfold maxLen
          exact ⟨by omega, by omega⟩)
        clear HC hf hkc
        replace hown := hown.base_mono hGl
        obtain ⟨va, vc, rfl⟩ := hown.slice
        have hia : Below w3.heap.size w3 (w3.alloc (fC fu ft (.slice va its.length vc))) := (Below.refl _ _).alloc (Nat.le_refl _) _
        replace hz := hz.keep hia hz.lt
        replace hx := hx.keep hia hx.lt
        replace hB := hB.trans (hia.mono hB.size)
        replace hown := hown.keep hia (Nat.le_refl _)
        clear hia
        have hgl : w.heap.size < GX + 1 := by omega
        have fb := FAt.new w3 fu ft (.slice va its.length vc)
        have p0 := fb.c0
        have p1 := fb.c1
        have p2 := fb.c2
        have x0 := hx.cell 0 _ rfl
        have x1 := hx.cell 1 _ rfl
        have x2 := hx.cell 2 _ rfl
        have x3 := hx.cell 3 _ rfl
        have x4 := hx.cell 4 _ rfl
        have x5 := hx.cell 5 _ rfl
        have x6 := hx.cell 6 _ rfl
        have g0 := hx.free 0
        have g1 := hx.free 1
        have g2 := hx.free 2
        have g3 := hx.free 3
        have g4 := hx.free 4
        have g5 := hx.free 5
        have g6 := hx.free 6
        have hx2 := (((hx.set 4 (.string fu)).set 5 (.string ft)).set 6 (.slice va its.length vc))
        change Box _ GX #[.int .i64 3, .string ⟨#[]⟩, .string ⟨#[]⟩, .int .i64 0, .string fu, .string ft, .slice va its.length vc] _ at hx2
        have hbe : Below GX (w3.alloc (fC fu ft (.slice va its.length vc))) ((((w3.alloc (fC fu ft (.slice va its.length vc))).setCell ⟨GX, 4, none⟩ (.string fu)).setCell ⟨GX, 5, none⟩ (.string ft)).setCell ⟨GX, 6, none⟩ (.slice va its.length vc)) := (((Below.refl _ _).setCell (p := ⟨GX, 4, none⟩) (Nat.le_refl _) _).setCell (p := ⟨GX, 5, none⟩) (Nat.le_refl _) _).setCell (p := ⟨GX, 6, none⟩) (Nat.le_refl _) _
        have hown3 := ((hown.other ⟨GX, 4, none⟩ (.string fu) (Nat.lt_succ_self GX)).other ⟨GX, 5, none⟩ (.string ft) (Nat.lt_succ_self GX)).other ⟨GX, 6, none⟩ (.slice va its.length vc) (Nat.lt_succ_self GX)
        replace hz := hz.keep hbe hwl
        replace hB := hB.trans (hbe.mono (Nat.le_of_lt hwl))
        clear hown hx hbe
        have hown := hown3
        have hx := hx2
        clear hown3 hx2
        have HPX := Lib.hid (fun w hI => specOpText_any (⟨3, ⟨#[]⟩, ⟨#[]⟩, 0, fu, ft, its⟩ : OpD) (.slice va its.length vc) w hI ⟨Nat.zero_le _, Nat.zero_le _, HZs.out.1, HZs.out.2.1⟩)
        generalize hpx : opX (⟨3, ⟨#[]⟩, ⟨#[]⟩, 0, fu, ft, its⟩ : OpD) = PX at HPX HOe
        clear hpx
        have x0 := hx.cell 0 _ rfl
        have x1 := hx.cell 1 _ rfl
        have x2 := hx.cell 2 _ rfl
        have x3 := hx.cell 3 _ rfl
        have x4 := hx.cell 4 _ rfl
        have x5 := hx.cell 5 _ rfl
        have x6 := hx.cell 6 _ rfl
        go_wp2_with fail
        clear x0 x1 x2 x3 x4 x5 x6
        refine (HPX.out _ ⟨hown.at itC_len, HZs.out.2.2⟩).mono ?_
        rintro e w9 ⟨rfl, hb⟩
        replace hz := hz.keep hb hz.lt
        replace hx := hx.keep hb hx.lt
        replace hB := Below.trans hB (hb.mono hB.size)
        replace hown := hown.keep hb (Nat.le_refl _)
        clear hb HPX
        by_cases hps : PX = s
        case neg =>
          have hO : o = none := by have h := HOe.out; rw [if_neg hps] at h; exact h
          have hne : (PX.toList == s.toList) = false := str_neF (fun h => hps (by rw [← bl_back PX, h, bl_back]))
          clear HOe hps
          have z0 := hz.cell 0 _ rfl
          have z1 := hz.cell 1 _ rfl
          have z2 := hz.cell 2 _ rfl
          have z3 := hz.cell 3 _ rfl
          have z4 := hz.cell 4 _ rfl
          have z5 := hz.cell 5 _ rfl
          have z6 := hz.cell 6 _ rfl
          have f0 := hz.free 0
          have f1 := hz.free 1
          have f2 := hz.free 2
          have f3 := hz.free 3
          have f4 := hz.free 4
          have f5 := hz.free 5
          have f6 := hz.free 6
          go_wp2
          refine bodyPost_ret (results_op2 rfl _ _ _ 0 ⟨#[]⟩ ⟨#[]⟩ 0 ⟨#[]⟩ ⟨#[]⟩ (.slice none 0 0) _ rfl rfl (put7o _ _ _ _ _ _ _ _ _ hz rfl)) rfl ?_
          exact ⟨ro_zero hO, hB.trans (below7o _ w.heap.size _ (Nat.le_refl _) _ _ _ _ _ _ _)⟩
        have hO : o = some (⟨3, ⟨#[]⟩, ⟨#[]⟩, 0, fu, ft, its⟩ : OpD) := by have h := HOe.out; rw [if_pos hps] at h; exact h
        clear HOe
        subst hps
        have x0 := hx.cell 0 _ rfl
        have x1 := hx.cell 1 _ rfl
        have x2 := hx.cell 2 _ rfl
        have x3 := hx.cell 3 _ rfl
        have x4 := hx.cell 4 _ rfl
        have x5 := hx.cell 5 _ rfl
        have x6 := hx.cell 6 _ rfl
        have z0 := hz.cell 0 _ rfl
        have z1 := hz.cell 1 _ rfl
        have z2 := hz.cell 2 _ rfl
        have z3 := hz.cell 3 _ rfl
        have z4 := hz.cell 4 _ rfl
        have z5 := hz.cell 5 _ rfl
        have z6 := hz.cell 6 _ rfl
        have f0 := hz.free 0
        have f1 := hz.free 1
        have f2 := hz.free 2
        have f3 := hz.free 3
        have f4 := hz.free 4
        have f5 := hz.free 5
        have f6 := hz.free 6
        have hown2 := ((((((hown.other ⟨w.heap.size, 0, none⟩ (.int .i64 3) hgl).other ⟨w.heap.size, 1, none⟩ (.string ⟨#[]⟩) hgl).other ⟨w.heap.size, 2, none⟩ (.string ⟨#[]⟩) hgl).other ⟨w.heap.size, 3, none⟩ (.int .i64 0) hgl).other ⟨w.heap.size, 4, none⟩ (.string fu) hgl).other ⟨w.heap.size, 5, none⟩ (.string ft) hgl).other ⟨w.heap.size, 6, none⟩ (.slice va its.length vc) hgl
        replace hown2 := hown2.base_mono (Nat.le_of_lt hgl)
        go_wp2
        refine bodyPost_ret (results_op2 rfl _ _ _ 3 ⟨#[]⟩ ⟨#[]⟩ 0 fu ft (.slice va its.length vc) _ rfl rfl (put7o _ _ _ _ _ _ _ _ _ hz rfl)) rfl ?_
        exact ⟨ro_some (q := (⟨3, ⟨#[]⟩, ⟨#[]⟩, 0, fu, ft, its⟩ : OpD)) hO (hown2), hB.trans (below7o _ w.heap.size _ (Nat.le_refl _) _ _ _ _ _ _ _)⟩
    ·
      have RD := Lib.hid (fun w => specReadDate_any (bl r) w)
      obtain ⟨dy, dm, dd, hdv, hdr⟩ := rdV_date (bl r)
      rw [hdv] at RD
      have HDN : Hid (rdOk (bl r) = true → dN (rY (bl r)) (rM (bl r)) (rD (bl r)) = dN dy dm dd ∧ 1970 ≤ dy ∧ dy ≤ 2517 ∧ 1 ≤ dm ∧ dm ≤ 12 ∧ 1 ≤ dd ∧ dd ≤ 31) := Lib.hid (fun h => by
        obtain ⟨e1, e2, e3⟩ := hdr h
        have hk := ((rdOk_iff _).1 h).2.2.2
        rw [← e1, ← e2, ← e3] at hk ⊢
        obtain ⟨q1, q2, q3, q4, q5, q6, q7⟩ := (dOk_iff _ _ _).1 hk
        have := dIM_bd dy dm
        exact ⟨rfl, q1, q2, q3, q4, q5, by omega⟩)
      clear hdv hdr
      have HC4 : Hid (o = (if rdOk (bl r) = true then some (⟨9, ⟨#[]⟩, ⟨#[]⟩, dN (rY (bl r)) (rM (bl r)) (rD (bl r)), ⟨#[]⟩, ⟨#[]⟩, []⟩ : OpD) else none).bind fun q => if opX q = s then some q else none) := Lib.hid (by have h := HC.out; unfold dQ at h; rw [if_neg (by omega), if_pos rfl] at h; exact h)
      clear HC hkc
      generalize dN (rY (bl r)) (rM (bl r)) (rD (bl r)) = dn at HDN HC4
      generalize rdOk (bl r) = F9 at RD HDN HC4
      have x0 := hx.cell 0 _ rfl
      have x1 := hx.cell 1 _ rfl
      have x2 := hx.cell 2 _ rfl
      have x3 := hx.cell 3 _ rfl
      have x4 := hx.cell 4 _ rfl
      have x5 := hx.cell 5 _ rfl
      have x6 := hx.cell 6 _ rfl
      go_wp2_with fail
      clear x0 x1 x2 x3 x4 x5 x6
      refine (RD.out _).mono ?_
      rintro e w3 ⟨rfl, hb⟩
      replace hz := hz.keep hb hz.lt
      replace hx := hx.keep hb hx.lt
      replace hB := Below.trans hB (hb.mono hB.size)
      clear hb
      clear RD
      have hia : Below w3.heap.size w3 (w3.alloc (dC dy dm dd)) := (Below.refl _ _).alloc (Nat.le_refl _) _
      have hdt := DAt.new w3 dy dm dd
      replace hz := hz.keep hia hz.lt
      replace hx := hx.keep hia hx.lt
      replace hB := hB.trans (hia.mono hB.size)
      clear hia
      cases F9 with
      | false =>
        have hO : o = none := HC4.out
        clear HC4 HDN
        have z0 := hz.cell 0 _ rfl
        have z1 := hz.cell 1 _ rfl
        have z2 := hz.cell 2 _ rfl
        have z3 := hz.cell 3 _ rfl
        have z4 := hz.cell 4 _ rfl
        have z5 := hz.cell 5 _ rfl
        have z6 := hz.cell 6 _ rfl
        have f0 := hz.free 0
        have f1 := hz.free 1
        have f2 := hz.free 2
        have f3 := hz.free 3
        have f4 := hz.free 4
        have f5 := hz.free 5
        have f6 := hz.free 6
        go_wp2
        refine bodyPost_ret (results_op2 rfl _ _ _ 0 ⟨#[]⟩ ⟨#[]⟩ 0 ⟨#[]⟩ ⟨#[]⟩ (.slice none 0 0) _ rfl rfl (put7o _ _ _ _ _ _ _ _ _ hz rfl)) rfl ?_
        exact ⟨ro_zero hO, hB.trans (below7o _ w.heap.size _ (Nat.le_refl _) _ _ _ _ _ _ _)⟩
      | true =>
        obtain ⟨hdn, q1, q2, q3, q4, q5, q6⟩ := HDN.out (by first | rfl | trivial)
        have HOe : Hid (o = if opX (⟨9, ⟨#[]⟩, ⟨#[]⟩, dn, ⟨#[]⟩, ⟨#[]⟩, []⟩ : OpD) = s then some (⟨9, ⟨#[]⟩, ⟨#[]⟩, dn, ⟨#[]⟩, ⟨#[]⟩, []⟩ : OpD) else none) := Lib.hid HC4.out
        clear HC4 HDN
        have HL7 := Lib.hid (fun w => l7Day_any dy dm dd w q1 q2 q3 q4 q5 q6)
        rw [← hdn] at HL7
        clear hdn q1 q2 q3 q4 q5 q6
        have p0 := hdt.c0
        have p1 := hdt.c1
        have p2 := hdt.c2
        go_wp2_with fail
        clear p0 p1 p2
        generalize w3.alloc (dC dy dm dd) = W3 at hdt hz hx hB ⊢
        refine (HL7.out _).mono ?_
        rintro e w4 ⟨rfl, hb⟩
        replace hz := hz.keep hb hz.lt
        replace hx := hx.keep hb hx.lt
        replace hB := Below.trans hB (hb.mono hB.size)
        clear hb
        clear HL7 hdt
        have x0 := hx.cell 0 _ rfl
        have x1 := hx.cell 1 _ rfl
        have x2 := hx.cell 2 _ rfl
        have x3 := hx.cell 3 _ rfl
        have x4 := hx.cell 4 _ rfl
        have x5 := hx.cell 5 _ rfl
        have x6 := hx.cell 6 _ rfl
        have g0 := hx.free 0
        have g1 := hx.free 1
        have g2 := hx.free 2
        have g3 := hx.free 3
        have g4 := hx.free 4
        have g5 := hx.free 5
        have g6 := hx.free 6
        have hx2 := hx.set 3 (.int .i64 dn)
        change Box _ GX #[.int .i64 9, .string ⟨#[]⟩, .string ⟨#[]⟩, .int .i64 dn, .string ⟨#[]⟩, .string ⟨#[]⟩, .slice none 0 0] _ at hx2
        have hbe : Below GX w4 (w4.setCell ⟨GX, 3, none⟩ (.int .i64 dn)) := (Below.refl _ _).setCell (p := ⟨GX, 3, none⟩) (Nat.le_refl _) _
        replace hz := hz.keep hbe hwl
        replace hB := hB.trans (hbe.mono (Nat.le_of_lt hwl))
        clear hx hbe
        have hx := hx2
        clear hx2
        have HPX := Lib.hid (fun w hI => specOpText_any (⟨9, ⟨#[]⟩, ⟨#[]⟩, dn, ⟨#[]⟩, ⟨#[]⟩, []⟩ : OpD) (.slice none 0 0) w hI ⟨Nat.zero_le _, Nat.zero_le _, Nat.zero_le _, Nat.zero_le _⟩)
        generalize hpx : opX (⟨9, ⟨#[]⟩, ⟨#[]⟩, dn, ⟨#[]⟩, ⟨#[]⟩, []⟩ : OpD) = PX at HPX HOe
        clear hpx
        have x0 := hx.cell 0 _ rfl
        have x1 := hx.cell 1 _ rfl
        have x2 := hx.cell 2 _ rfl
        have x3 := hx.cell 3 _ rfl
        have x4 := hx.cell 4 _ rfl
        have x5 := hx.cell 5 _ rfl
        have x6 := hx.cell 6 _ rfl
        go_wp2_with fail
        clear x0 x1 x2 x3 x4 x5 x6
        refine (HPX.out _ ⟨⟨none, 0, rfl, Nat.le_refl _, Nat.zero_le _, fun h => absurd h (by simp)⟩, fun x hx => by cases hx⟩).mono ?_
        rintro e w9 ⟨rfl, hb⟩
        replace hz := hz.keep hb hz.lt
        replace hx := hx.keep hb hx.lt
        replace hB := Below.trans hB (hb.mono hB.size)
        clear hb HPX
        by_cases hps : PX = s
        case neg =>
          have hO : o = none := by have h := HOe.out; rw [if_neg hps] at h; exact h
          have hne : (PX.toList == s.toList) = false := str_neF (fun h => hps (by rw [← bl_back PX, h, bl_back]))
          clear HOe hps
          have z0 := hz.cell 0 _ rfl
          have z1 := hz.cell 1 _ rfl
          have z2 := hz.cell 2 _ rfl
          have z3 := hz.cell 3 _ rfl
          have z4 := hz.cell 4 _ rfl
          have z5 := hz.cell 5 _ rfl
          have z6 := hz.cell 6 _ rfl
          have f0 := hz.free 0
          have f1 := hz.free 1
          have f2 := hz.free 2
          have f3 := hz.free 3
          have f4 := hz.free 4
          have f5 := hz.free 5
          have f6 := hz.free 6
          go_wp2
          refine bodyPost_ret (results_op2 rfl _ _ _ 0 ⟨#[]⟩ ⟨#[]⟩ 0 ⟨#[]⟩ ⟨#[]⟩ (.slice none 0 0) _ rfl rfl (put7o _ _ _ _ _ _ _ _ _ hz rfl)) rfl ?_
          exact ⟨ro_zero hO, hB.trans (below7o _ w.heap.size _ (Nat.le_refl _) _ _ _ _ _ _ _)⟩
        have hO : o = some (⟨9, ⟨#[]⟩, ⟨#[]⟩, dn, ⟨#[]⟩, ⟨#[]⟩, []⟩ : OpD) := by have h := HOe.out; rw [if_pos hps] at h; exact h
        clear HOe
        subst hps
        have x0 := hx.cell 0 _ rfl
        have x1 := hx.cell 1 _ rfl
        have x2 := hx.cell 2 _ rfl
        have x3 := hx.cell 3 _ rfl
        have x4 := hx.cell 4 _ rfl
        have x5 := hx.cell 5 _ rfl
        have x6 := hx.cell 6 _ rfl
        have z0 := hz.cell 0 _ rfl
        have z1 := hz.cell 1 _ rfl
        have z2 := hz.cell 2 _ rfl
        have z3 := hz.cell 3 _ rfl
        have z4 := hz.cell 4 _ rfl
        have z5 := hz.cell 5 _ rfl
        have z6 := hz.cell 6 _ rfl
        have f0 := hz.free 0
        have f1 := hz.free 1
        have f2 := hz.free 2
        have f3 := hz.free 3
        have f4 := hz.free 4
        have f5 := hz.free 5
        have f6 := hz.free 6
        go_wp2
        refine bodyPost_ret (results_op2 rfl _ _ _ 9 ⟨#[]⟩ ⟨#[]⟩ dn ⟨#[]⟩ ⟨#[]⟩ (.slice none 0 0) _ rfl rfl (put7o _ _ _ _ _ _ _ _ _ hz rfl)) rfl ?_
        exact ⟨ro_some (q := (⟨9, ⟨#[]⟩, ⟨#[]⟩, dn, ⟨#[]⟩, ⟨#[]⟩, []⟩ : OpD)) hO (OwnR.nil _ _ _), hB.trans (below7o _ w.heap.size _ (Nat.le_refl _) _ _ _ _ _ _ _)⟩
    ·
      have HC2 := Lib.hid (fun w => l1Cut_any (bl r) w (by omega))
      have hcr : Lib.cut (bl r).data.toList [32] = Lib.cut r [32] := rfl
      rw [hcr] at HC2
      have HOe0 : Hid (o = if opX (⟨z, bl (Lib.cut r [32]).1, bl (Lib.cut r [32]).2.1, 0, ⟨#[]⟩, ⟨#[]⟩, []⟩ : OpD) = s then some (⟨z, bl (Lib.cut r [32]).1, bl (Lib.cut r [32]).2.1, 0, ⟨#[]⟩, ⟨#[]⟩, []⟩ : OpD) else none) := Lib.hid (by have h := HC.out; unfold dQ at h; rw [if_neg n3, if_neg n9, if_neg n0, Option.bind_some] at h; exact h)
      have HZ4 : Hid ((bl (Lib.cut r [32]).1).size ≤ maxLen ∧ (bl (Lib.cut r [32]).2.1).size ≤ maxLen) := Lib.hid (by
        rw [bl_size, bl_size]
        unfold maxLen
        cases h : (Lib.cut r [32]).2.2 with
        | true =>
          have e := congrArg List.length (cut_yes h)
          simp only [List.length_append] at e
          exact ⟨by omega, by omega⟩
        | false =>
          unfold Lib.cut at h ⊢
          split at h
          · cases h
          · rename_i h0
            rw [if_neg h0]
            exact ⟨by dsimp only; omega, Nat.zero_le _⟩)
      generalize Lib.cut r [32] = c2 at HC2 HOe0 HZ4
      obtain ⟨cu, ci, cf⟩ := c2
      dsimp only at HC2 HOe0 HZ4
      have HOe := HOe0
      clear hcr HC HOe0 hkc
      have m0 : (z == 0) = false := by simpa using n0
      have m3 : (z == 3) = false := by simpa using n3
      have m9 : (z == 9) = false := by simpa using n9
      clear n0 n3 n9
      have x0 := hx.cell 0 _ rfl
      have x1 := hx.cell 1 _ rfl
      have x2 := hx.cell 2 _ rfl
      have x3 := hx.cell 3 _ rfl
      have x4 := hx.cell 4 _ rfl
      have x5 := hx.cell 5 _ rfl
      have x6 := hx.cell 6 _ rfl
      go_wp2_with fail
      clear x0 x1 x2 x3 x4 x5 x6
      refine (HC2.out _).mono ?_
      rintro e w3 ⟨rfl, hb⟩
      replace hz := hz.keep hb hz.lt
      replace hx := hx.keep hb hx.lt
      replace hB := Below.trans hB (hb.mono hB.size)
      clear hb
      clear HC2
      generalize bl cu = CU at HZ4 HOe ⊢
      generalize bl ci = CI at HZ4 HOe ⊢
      have x0 := hx.cell 0 _ rfl
      have x1 := hx.cell 1 _ rfl
      have x2 := hx.cell 2 _ rfl
      have x3 := hx.cell 3 _ rfl
      have x4 := hx.cell 4 _ rfl
      have x5 := hx.cell 5 _ rfl
      have x6 := hx.cell 6 _ rfl
      have g0 := hx.free 0
      have g1 := hx.free 1
      have g2 := hx.free 2
      have g3 := hx.free 3
      have g4 := hx.free 4
      have g5 := hx.free 5
      have g6 := hx.free 6
      have hx2 := (hx.set 1 (.string CU)).set 2 (.string CI)
      change Box _ GX #[.int .i64 z, .string CU, .string CI, .int .i64 0, .string ⟨#[]⟩, .string ⟨#[]⟩, .slice none 0 0] _ at hx2
      have hbe : Below GX w3 ((w3.setCell ⟨GX, 1, none⟩ (.string CU)).setCell ⟨GX, 2, none⟩ (.string CI)) := ((Below.refl _ _).setCell (p := ⟨GX, 1, none⟩) (Nat.le_refl _) _).setCell (p := ⟨GX, 2, none⟩) (Nat.le_refl _) _
      replace hz := hz.keep hbe hwl
      replace hB := hB.trans (hbe.mono (Nat.le_of_lt hwl))
      clear hx hbe
      have hx := hx2
      clear hx2
      have HPX := Lib.hid (fun w hI => specOpText_any (⟨z, CU, CI, 0, ⟨#[]⟩, ⟨#[]⟩, []⟩ : OpD) (.slice none 0 0) w hI ⟨HZ4.out.1, HZ4.out.2, Nat.zero_le _, Nat.zero_le _⟩)
      generalize hpx : opX (⟨z, CU, CI, 0, ⟨#[]⟩, ⟨#[]⟩, []⟩ : OpD) = PX at HPX HOe
      clear hpx
      have x0 := hx.cell 0 _ rfl
      have x1 := hx.cell 1 _ rfl
      have x2 := hx.cell 2 _ rfl
      have x3 := hx.cell 3 _ rfl
      have x4 := hx.cell 4 _ rfl
      have x5 := hx.cell 5 _ rfl
      have x6 := hx.cell 6 _ rfl
      go_wp2_with fail
      clear x0 x1 x2 x3 x4 x5 x6
      refine (HPX.out _ ⟨⟨none, 0, rfl, Nat.le_refl _, Nat.zero_le _, fun h => absurd h (by simp)⟩, fun x hx => by cases hx⟩).mono ?_
      rintro e w9 ⟨rfl, hb⟩
      replace hz := hz.keep hb hz.lt
      replace hx := hx.keep hb hx.lt
      replace hB := Below.trans hB (hb.mono hB.size)
      clear hb HPX
      by_cases hps : PX = s
      case neg =>
        have hO : o = none := by have h := HOe.out; rw [if_neg hps] at h; exact h
        have hne : (PX.toList == s.toList) = false := str_neF (fun h => hps (by rw [← bl_back PX, h, bl_back]))
        clear HOe hps
        have z0 := hz.cell 0 _ rfl
        have z1 := hz.cell 1 _ rfl
        have z2 := hz.cell 2 _ rfl
        have z3 := hz.cell 3 _ rfl
        have z4 := hz.cell 4 _ rfl
        have z5 := hz.cell 5 _ rfl
        have z6 := hz.cell 6 _ rfl
        have f0 := hz.free 0
        have f1 := hz.free 1
        have f2 := hz.free 2
        have f3 := hz.free 3
        have f4 := hz.free 4
        have f5 := hz.free 5
        have f6 := hz.free 6
        go_wp2
        refine bodyPost_ret (results_op2 rfl _ _ _ 0 ⟨#[]⟩ ⟨#[]⟩ 0 ⟨#[]⟩ ⟨#[]⟩ (.slice none 0 0) _ rfl rfl (put7o _ _ _ _ _ _ _ _ _ hz rfl)) rfl ?_
        exact ⟨ro_zero hO, hB.trans (below7o _ w.heap.size _ (Nat.le_refl _) _ _ _ _ _ _ _)⟩
      have hO : o = some (⟨z, CU, CI, 0, ⟨#[]⟩, ⟨#[]⟩, []⟩ : OpD) := by have h := HOe.out; rw [if_pos hps] at h; exact h
      clear HOe
      subst hps
      have x0 := hx.cell 0 _ rfl
      have x1 := hx.cell 1 _ rfl
      have x2 := hx.cell 2 _ rfl
      have x3 := hx.cell 3 _ rfl
      have x4 := hx.cell 4 _ rfl
      have x5 := hx.cell 5 _ rfl
      have x6 := hx.cell 6 _ rfl
      have z0 := hz.cell 0 _ rfl
      have z1 := hz.cell 1 _ rfl
      have z2 := hz.cell 2 _ rfl
      have z3 := hz.cell 3 _ rfl
      have z4 := hz.cell 4 _ rfl
      have z5 := hz.cell 5 _ rfl
      have z6 := hz.cell 6 _ rfl
      have f0 := hz.free 0
      have f1 := hz.free 1
      have f2 := hz.free 2
      have f3 := hz.free 3
      have f4 := hz.free 4
      have f5 := hz.free 5
      have f6 := hz.free 6
      go_wp2
      refine bodyPost_ret (results_op2 rfl _ _ _ z CU CI 0 ⟨#[]⟩ ⟨#[]⟩ (.slice none 0 0) _ rfl rfl (put7o _ _ _ _ _ _ _ _ _ hz rfl)) rfl ?_
      exact ⟨ro_some (q := (⟨z, CU, CI, 0, ⟨#[]⟩, ⟨#[]⟩, []⟩ : OpD)) hO (OwnR.nil _ _ _), hB.trans (below7o _ w.heap.size _ (Nat.le_refl _) _ _ _ _ _ _ _)⟩
end Go.Proofs.YtgimjfffdnopiaaDoor

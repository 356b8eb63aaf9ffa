/- Joined: W8s. -/
import Derived.Test.YtgimjfffdnopiaaDoorH11
import Derived.Test.YtgimjfffdnopiaaDoorH43
/- W8s -/
namespace Go.Proofs.YtgimjfffdnopiaaDoor
open Go.ChangeShapes Go.WideShapes Go.ChangeAt Go.RowKit
set_option linter.unusedVariables false
set_option linter.unusedSimpArgs false

theorem ext_list (s : ByteArray) (a b : Nat) : (s.extract a b).data.toList = (s.data.toList.take b).drop a := ext_part s _ a b rfl
theorem str_beq (a b : ByteArray) : (a.toList == b.toList) = (a.data.toList == b.data.toList) := by rw [ByteArray.toList_eq, ByteArray.toList_eq]
theorem len_list (s : ByteArray) : s.data.toList.length = s.size := by simp
theorem pre_cmp (s w : ByteArray) (h : w.size ≤ s.size) : ((s.extract 0 w.size).toList == w.toList) = Lib.hasPrefix s.data.toList w.data.toList := by
  rw [str_beq, ext_list, List.drop_zero]
  have e := Lib.occAt_iff_take s.data.toList w.data.toList 0 (by rw [len_list, len_list]; omega)
  rw [List.drop_zero, len_list] at e
  rw [← e]
  unfold Lib.occAt Lib.hasPrefix
  rw [List.drop_zero]
theorem pre_short (s w : ByteArray) (h : s.size < w.size) : Lib.hasPrefix s.data.toList w.data.toList = false := by
  cases hp : Lib.hasPrefix s.data.toList w.data.toList with
  | false => rfl
  | true =>
    obtain ⟨r, hr⟩ := (pre_iff _ _).1 hp
    have := congrArg List.length hr
    rw [List.length_append, len_list, len_list] at this
    omega
theorem occ_cmp (s m : ByteArray) (k : Nat) (h : k + m.size ≤ s.size) : ((s.extract k (k + m.size)).toList == m.toList) = Lib.occAt s.data.toList m.data.toList k := by
  rw [str_beq, ext_list, Lib.occAt_iff_take _ _ _ (by rw [len_list, len_list]; omega), len_list, List.drop_take]
  rw [show k + m.size - k = m.size by omega]
theorem tk_no (l word mark : List UInt8) (h : Lib.hasPrefix l word = false) : tk l word mark = ([], [], false) := by
  unfold tk; rw [if_neg (fun x => by rw [h] at x; cases x.1)]
theorem tk_none (s word mark : ByteArray) (S : ByteArray) (h : Lib.hasPrefix s.data.toList word.data.toList = true) (hS : S.data.toList = s.data.toList.drop word.data.toList.length) (k : Nat) (hm : 1 ≤ mark.size) (hk : S.size < k + mark.size) (hn : ∀ j, j < k → Lib.occAt S.data.toList mark.data.toList j = false) :
    tk s.data.toList word.data.toList mark.data.toList = ([], [], false) := by
  have hi : Lib.index S.data.toList mark.data.toList = -1 := Lib.index_none (fun j hj => by
    by_cases hjk : j < k
    · exact hn j hjk
    · cases ho : Lib.occAt S.data.toList mark.data.toList j with
      | false => rfl
      | true =>
        exfalso
        rcases Lib.occAt_room ho with h1 | h1
        · rw [len_list, len_list] at h1; omega
        · have := len_list mark
          rw [h1] at this
          simp at this
          omega)
  unfold tk
  rw [← hS]
  rw [if_neg]
  intro hx
  have := hx.2
  unfold Lib.cut at this
  rw [hi, if_neg (by omega)] at this
  cases this
theorem tk_at (s word mark : ByteArray) (S : ByteArray) (h : Lib.hasPrefix s.data.toList word.data.toList = true) (hS : S.data.toList = s.data.toList.drop word.data.toList.length) (k : Nat) (hk : k + mark.size ≤ S.size) (hn : ∀ j, j < k → Lib.occAt S.data.toList mark.data.toList j = false) (ho : Lib.occAt S.data.toList mark.data.toList k = true) :
    tk s.data.toList word.data.toList mark.data.toList = ((S.extract 0 k).data.toList, (S.extract (k + mark.size) S.size).data.toList, true) := by
  have hi : Lib.index S.data.toList mark.data.toList = (k : Int) := Lib.index_first (by rw [len_list]; omega) ho hn
  have hc : Lib.cut S.data.toList mark.data.toList = (S.data.toList.take k, S.data.toList.drop (k + mark.data.toList.length), true) := by
    unfold Lib.cut
    have hk0 : (0 : Int) ≤ (k : Int) := by omega
    rw [hi, if_pos hk0, Int.toNat_natCast]
  have e1 : (S.extract 0 k).data.toList = S.data.toList.take k := by rw [ext_list, List.drop_zero]
  have e2 : (S.extract (k + mark.size) S.size).data.toList = S.data.toList.drop (k + mark.data.toList.length) := by
    rw [ext_list, len_list mark, List.take_of_length_le (Nat.le_of_eq (len_list S))]
  unfold tk
  rw [← hS, hc, if_pos ⟨h, rfl⟩, e1, e2]

set_option maxRecDepth 100000 in
set_option maxHeartbeats 1600000 in
theorem l8Take_any (s word mark : ByteArray) (w : World) (hs : s.size ≤ 4000) (hw : word.size ≤ 100) (hm : mark.size ≤ 100) (hm1 : 1 ≤ mark.size) :
    Calls Tryd.prog 56 #[.string s, .string word, .string mark] w fun e w' => e = .returned (.tuple #[.string (bl (tk s.data.toList word.data.toList mark.data.toList).1), .string (bl (tk s.data.toList word.data.toList mark.data.toList).2.1), .bool (tk s.data.toList word.data.toList mark.data.toList).2.2]) ∧ Below w.heap.size w w' := by
  obtain ⟨o, ho⟩ : ∃ o, o = tk s.data.toList word.data.toList mark.data.toList := ⟨_, rfl⟩
  rw [← ho]
  have HO := Lib.hid ho
  have HZ : Hid (∀ b : Bool, o = ([], [], false) → Ending.returned (.tuple #[.string ⟨#[]⟩, .string ⟨#[]⟩, .bool false]) = Ending.returned (.tuple #[.string (bl o.1), .string (bl o.2.1), .bool o.2.2])) := Lib.hid (fun _ h => by rw [h])
  by_cases c1 : s.size < word.size
  case pos =>
    have hO := HZ.out true (ho.trans (tk_no _ _ _ (pre_short _ _ c1)))
    clear HO HZ ho
    go_enter Tryd.func56, Tryd.ntmps56
    go_wp2
    go_ret3
    exact ⟨hO, Below.refl _ _⟩
  have hcmp := pre_cmp s word (by omega)
  cases hp : Lib.hasPrefix s.data.toList word.data.toList with
  | false =>
    rw [hp] at hcmp
    have hO := HZ.out true (ho.trans (tk_no _ _ _ hp))
    clear HO HZ ho hp
    go_enter Tryd.func56, Tryd.ntmps56
    go_wp2
    go_ret3
    exact ⟨hO, Below.refl _ _⟩
  | true =>
    rw [hp] at hcmp
    obtain ⟨S, hSe⟩ : ∃ S, s.extract word.size s.size = S := ⟨_, rfl⟩
    have hSl : S.data.toList = s.data.toList.drop word.data.toList.length := by rw [← hSe, ext_list, List.take_of_length_le (by rw [len_list]; omega), len_list]
    have hSz : S.size ≤ 4000 := by rw [← hSe, ByteArray.size_extract]; omega
    have HN : Hid (∀ k, S.size < k + mark.size → (∀ j, j < k → Lib.occAt S.data.toList mark.data.toList j = false) → Ending.returned (.tuple #[.string ⟨#[]⟩, .string ⟨#[]⟩, .bool false]) = Ending.returned (.tuple #[.string (bl o.1), .string (bl o.2.1), .bool o.2.2])) := Lib.hid (fun k hk hn => HZ.out true (ho.trans (tk_none s word mark S hp hSl k hm1 hk hn)))
    have HY : Hid (∀ k, k + mark.size ≤ S.size → (∀ j, j < k → Lib.occAt S.data.toList mark.data.toList j = false) → Lib.occAt S.data.toList mark.data.toList k = true → Ending.returned (.tuple #[.string (S.extract 0 k), .string (S.extract (k + mark.size) S.size), .bool true]) = Ending.returned (.tuple #[.string (bl o.1), .string (bl o.2.1), .bool o.2.2])) := Lib.hid (fun k hk hn h1 => by
      rw [ho, tk_at s word mark S hp hSl k hk hn h1, bl_back, bl_back])
    have HC := Lib.hid (occ_cmp S mark)
    clear HO HZ ho hp hSl
    go_enter Tryd.func56, Tryd.ntmps56
    go_wp2
    clear hSe hcmp
    go_loopw [9] (fun i wr => ∃ k : Nat, k ≤ S.size ∧ i = .int .i64 (k : Int) ∧ Hid (∀ j, j < k → Lib.occAt S.data.toList mark.data.toList j = false) ∧ wr = w) (fun i _ => S.size + 1 - (intOf i).toNat)
    case atStart => exact ⟨0, Nat.zero_le _, rfl, Lib.hid (fun j hj => by omega), rfl⟩
    case round =>
      obtain ⟨k, hk, rfl, HJ, rfl⟩ := hrel
      by_cases hlt : k + mark.size ≤ S.size
      case neg =>
        have hO := HN.out k (by omega) HJ.out
        clear HN HY HC HJ
        go_wp2
        go_ret3
        exact ⟨hO, Below.refl _ _⟩
      have hc := HC.out k hlt
      cases hoc : Lib.occAt S.data.toList mark.data.toList k with
      | false =>
        rw [hoc] at hc
        have HJ2 : Hid (∀ j, j < k + 1 → Lib.occAt S.data.toList mark.data.toList j = false) := Lib.hid (fun j hj => by
          by_cases h : j < k
          · exact HJ.out j h
          · rw [show j = k by omega]; exact hoc)
        clear HN HY HC HJ hoc
        go_wp2
        go_roundw
        case rel => exact ⟨k + 1, by omega, by go_num, HJ2, by first | rfl | trivial⟩
        case measure => simp [intOf]; omega
      | true =>
        rw [hoc] at hc
        have hO := HY.out k hlt HJ.out hoc
        clear HN HY HC HJ hoc
        go_wp2
        have k1 : IntKind.i64.wrap ((k : Int) + (mark.size : Int)) = (k : Int) + (mark.size : Int) := IntWalk.i64_in _ (by omega)
        have k2 : (0 : Int) ≤ (k : Int) + (mark.size : Int) := by omega
        have k3 : (k : Int) + (mark.size : Int) ≤ (S.size : Int) := by omega
        have k4 : ((k : Int) + (mark.size : Int)).toNat = k + mark.size := by omega
        have k5 : (k : Int) ≤ (S.size : Int) := by omega
        refine wp_region_T (fun _ => True) (fun _ => True) 11 (by kernel_rfl) 12 rfl ?_
        refine wpAnyT_takesA (md := .any) 3 (by kernel_rfl) (by intro d v c a w h; cases d <;> exact h) [0, 1, 2, 3, 4, 5, 6, 7, 8] _ _ _ (by decide) (by kernel_rfl) ⟨trivial, fun _ => trivial⟩ ?_
        simp only [pick, List.filterMap_cons, List.filterMap_nil, List.getElem?_cons_zero, List.getElem?_cons_succ]
        refine wpIf_step (.string S) (by kernel_rfl) (fun w _ => by go_simp) ?_
        refine wpIf_step (.int .i64 (k : Int)) (by kernel_rfl) (fun w _ => by go_simp) ?_
        refine wpIf_step (.string (S.extract 0 k)) (by kernel_rfl) (fun w _ => by go_simp) ?_
        refine wpIf_step (.string S) (by kernel_rfl) (fun w _ => by go_simp) ?_
        refine wpIf_step (.int .i64 (k : Int)) (by kernel_rfl) (fun w _ => by go_simp) ?_
        refine wpIf_step (.string mark) (by kernel_rfl) (fun w _ => by go_simp) ?_
        refine wpIf_step (.int .i64 (mark.size : Int)) (by kernel_rfl) (fun w _ => by go_simp) ?_
        refine wpIf_step (.int .i64 ((k : Int) + (mark.size : Int))) (by kernel_rfl) (fun w _ => by go_simp) ?_
        refine wpIf_step (.string (S.extract (k + mark.size) S.size)) (by kernel_rfl) (fun w _ => by go_simp) ?_
        refine wpIf_nil (fun hSx => ?_)
        clear hSx
        refine wpAnyT_one 9 2 (by kernel_rfl) rfl (by kernel_rfl) (fun K hK => ?_)
        go_simp
        refine hK _ _ ⟨trivial, fun _ => trivial⟩ (fun hSx => ?_)
        clear hK K hSx
        refine wpAnyT_one 10 1 (by kernel_rfl) rfl (by kernel_rfl) (fun K hK => ?_)
        go_simp
        refine hK _ _ ⟨trivial, fun _ => trivial⟩ (fun hSx => ?_)
        clear hK K hSx
        refine wpAnyT_one 11 0 (by kernel_rfl) rfl (by kernel_rfl) (fun K hK => ?_)
        go_simp
        refine hK _ _ ⟨trivial, fun _ => trivial⟩ (fun hSx => ?_)
        clear hK K hSx
        refine wpAnyT_over (by kernel_rfl) ?_
        go_wp2
        go_ret3
        exact ⟨hO, (Below.refl _ _).drew⟩
end Go.Proofs.YtgimjfffdnopiaaDoor

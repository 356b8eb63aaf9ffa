/- The walk of FnDue. -/
import Derived.Test.YtlipgmaiooljkaaW16r
namespace Go.Proofs.Ytlipgmaiooljkaa
open Go.ChangeShapes Go.WideShapes Go.ChangeAt Go.RowKit
set_option linter.unusedVariables false
set_option linter.unusedSimpArgs false

theorem due_next (ps : List PollD) (now : Int) (j : Nat) (h : j < ps.length) (hd : dueB now ps[j] = true) : (duT ps now ps.length)[(duT ps now j).length]? = some ps[j].u := by
  have e : ps = ps.take j ++ (ps[j] :: ps.drop (j + 1)) := by rw [← List.drop_eq_getElem_cons h, List.take_append_drop]
  have key : duT ps now ps.length = duT ps now j ++ (ps[j].u :: ((ps.drop (j + 1)).filter (dueB now)).map (·.u)) := by
    unfold duT
    rw [List.take_length]
    have e2 : ps.filter (dueB now) = (ps.take j ++ (ps[j] :: ps.drop (j + 1))).filter (dueB now) := congrArg _ e
    rw [e2, List.filter_append, List.map_append, List.filter_cons_of_pos hd]
    rfl
  rw [key, List.getElem?_append_right (Nat.le_refl _), Nat.sub_self]
  rfl
theorem due_len (ps : List PollD) (now : Int) (j : Nat) (h : j < ps.length) : (duT ps now (j + 1)).length = (duT ps now j).length + (if dueB now ps[j] = true then 1 else 0) := by
  rw [duT_step ps now j h, List.length_append]
  split <;> rfl

set_option maxRecDepth 100000 in
set_option maxHeartbeats 4000000 in
theorem walk_FnDue (a : Option Addr) (len cap : Nat) (z : List Int) (w : World) (h : IsRow .u8 w a len cap z) :
    Calls Try.prog 9 #[.slice a len cap] w fun e w' => e = .returned (.bool true) ∧ Below w.heap.size w w' := by
  have hcd := Cd.of_row h
  obtain ⟨cv, hcv⟩ : ∃ cv : Value, cv = .slice a len cap := ⟨_, rfl⟩
  rw [← hcv] at hcd ⊢
  clear h hcv
  go_enter Try.func9, Try.ntmps9
  go_wp2_with fail
  refine (big_any _ cv _ hcd).mono ?_
  rintro e w1 ⟨⟨b, rfl⟩, rfl⟩
  cases b with
  | true =>
    go_wp2
    go_ret
    exact ⟨rfl, Below.refl _ _⟩
  | false =>
    go_wp2_with fail
    refine (drawDue_any _ cv _ hcd).mono ?_
    rintro e w2 ⟨lv, ps, now, rfl, hO, hpl, hps, hnow, hB⟩
    clear hcd
    have HSz : Hid (∀ p ∈ ps, PkSz p) := Lib.hid (fun p hp => (hps p hp).sz)
    have HP : Hid (PksAt w2 w2.heap.size lv ps) := Lib.hid ⟨hO.at pkL_len, HSz.out⟩
    clear hO hps hnow
    have HL : Hid (duL ps now = duT ps now ps.length) := Lib.hid (duL_few (by omega))
    have HD1 := Lib.hid (fun w h => specDue_any lv ps now w h)
    have HD2 := Lib.hid (fun w h => implDue_any lv ps now w h)
    rw [HL.out] at HD1 HD2
    have HNx := Lib.hid (fun j h hd => due_next ps now j h hd)
    have HTl : Hid (∃ t, t = duT ps now ps.length) := Lib.hid ⟨_, rfl⟩
    obtain ⟨T, hT⟩ : ∃ T, T = duT ps now ps.length := ⟨_, rfl⟩
    rw [← hT] at HD1 HD2 HNx
    have HLen : Hid ((duT ps now ps.length).length = T.length) := Lib.hid (by rw [hT])
    have htl : T.length ≤ 4 := by rw [hT]; have := duT_len ps now ps.length; omega
    clear hT HTl HL
    go_wp2_with fail
    refine (HD2.out _ HP.out).mono ?_
    rintro e w3 ⟨gv, rfl, hG, hb⟩
    have HG : Hid (StAt w3 w3.heap.size gv T) := Lib.hid (OwnR.at stC_len hG)
    replace HP : Hid (PksAt w3 w3.heap.size lv ps) := Lib.hid ⟨(HP.out.1.below hb).mono hb.size, HSz.out⟩
    replace hB := hB.trans (hb.mono hB.size)
    clear hG hb
    go_wp2_with fail
    refine (HD1.out _ HP.out).mono ?_
    rintro e w4 ⟨sv, rfl, hS, hb⟩
    have HS : Hid (StAt w4 w4.heap.size sv T) := Lib.hid (OwnR.at stC_len hS)
    replace HG : Hid (StAt w4 w4.heap.size gv T) := Lib.hid ((HG.out.below hb).mono hb.size)
    replace HP : Hid (PksAt w4 w4.heap.size lv ps) := Lib.hid ⟨(HP.out.1.below hb).mono hb.size, HSz.out⟩
    replace hB := hB.trans (hb.mono hB.size)
    clear hS hb
    go_wp2_with fail
    refine (sameTexts_same _ _ T _ HG.out HS.out).mono ?_
    rintro e w5 ⟨rfl, hb⟩
    replace HG : Hid (StAt w5 w5.heap.size gv T) := Lib.hid ((HG.out.below hb).mono hb.size)
    replace HP : Hid (PksAt w5 w5.heap.size lv ps) := Lib.hid ⟨(HP.out.1.below hb).mono hb.size, HSz.out⟩
    replace hB := hB.trans (hb.mono hB.size)
    clear HS hb HD1 HD2
    obtain ⟨ga, gc, rfl⟩ := RecAt.slice HG.out
    obtain ⟨la, lc, rfl⟩ := RecAt.slice HP.out.1
    go_wp2
    go_loopw [6, 7] (fun x i wr => ∃ j : Nat, j ≤ ps.length ∧ i = .int .i64 (j : Int) ∧ x = .int .i64 ((duT ps now j).length : Int) ∧ Below w5.heap.size w5 wr) (fun _ i _ => ps.length - (intOf i).toNat)
    case atStart => exact ⟨0, Nat.zero_le _, rfl, by rw [duT_zero]; rfl, Below.refl _ _⟩
    case round =>
      obtain ⟨j, hj, rfl, rfl, hbr⟩ := hrel
      by_cases hlt : j < ps.length
      case neg =>
        have hje : j = ps.length := by omega
        have HE : Hid ((duT ps now j).length = T.length) := Lib.hid (by rw [hje]; exact HLen.out)
        rw [HE.out]
        go_wp2
        go_ret
        exact ⟨rfl, hB.trans (hbr.mono hB.size)⟩
      obtain ⟨b, off, cap2, hv, hb, c0, c1, c2, c3, c4, c5⟩ := (HP.out.below hbr).at j hlt
      cases hv
      have HN := Lib.hid (due_len ps now j hlt)
      have HX := Lib.hid (HNx.out j hlt)
      have HK := Lib.hid (fun w => specPollOk_any ps[j] w (HSz.out _ (List.getElem_mem hlt)))
      obtain ⟨q, hq⟩ : ∃ q, q = ps[j] := ⟨_, rfl⟩
      rw [← hq] at c0 c1 c2 c3 c4 c5 HN HX HK
      have HD : Hid (dueB now q = (pkB q && !q.g && decide (q.n ≤ now))) := Lib.hid rfl
      generalize dueB now q = DD at HN HX HD
      have hKl := duT_len ps now j
      generalize (duT ps now j).length = K at HN HX hKl ⊢
      generalize pkB q = C at HK HD
      obtain ⟨u, m, n, wt, f, g⟩ := q
      dsimp only at c0 c1 c2 c3 c4 c5 HX HD
      have hbw : b < wr.heap.size := by have := hbr.size; omega
      clear hq
      go_wp2_with fail
      refine (HK.out _).mono ?_
      rintro e w6 ⟨rfl, hb6⟩
      have d0 : w6.cell? ⟨b, off + j * 6, none⟩ = _ := (hb6.cell (p := ⟨b, off + j * 6, none⟩) hbw).trans c0
      have d2 : w6.cell? ⟨b, off + j * 6 + 2, none⟩ = _ := (hb6.cell (p := ⟨b, off + j * 6 + 2, none⟩) hbw).trans c2
      have d5 : w6.cell? ⟨b, off + j * 6 + 5, none⟩ = _ := (hb6.cell (p := ⟨b, off + j * 6 + 5, none⟩) hbw).trans c5
      replace hbr := hbr.trans (hb6.mono hbr.size)
      clear hb6 HK c0 c1 c2 c3 c4 c5
      cases C with
      | false =>
        have HM : Hid ((duT ps now (j + 1)).length = K) := Lib.hid (by rw [HN.out, if_neg (by rw [HD.out]; simp), Nat.add_zero])
        clear HN HX HD
        go_wp2
        go_roundw
        case rel => exact ⟨j + 1, by omega, by go_num, by rw [HM.out], hbr⟩
        case measure => simp [intOf]; omega
      | true =>
        cases g with
        | true =>
          have HM : Hid ((duT ps now (j + 1)).length = K) := Lib.hid (by rw [HN.out, if_neg (by rw [HD.out]; simp), Nat.add_zero])
          clear HN HX HD
          go_wp2
          go_roundw
          case rel => exact ⟨j + 1, by omega, by go_num, by rw [HM.out], hbr⟩
          case measure => simp [intOf]; omega
        | false =>
          by_cases hn : n ≤ now
          case neg =>
            have hd : decide (now < n) = true := decide_eq_true (by omega)
            have HM : Hid ((duT ps now (j + 1)).length = K) := Lib.hid (by rw [HN.out, if_neg (by rw [HD.out]; simp; omega), Nat.add_zero])
            clear HN HX HD
            go_wp2
            go_roundw
            case rel => exact ⟨j + 1, by omega, by go_num, by rw [HM.out], hbr⟩
            case measure => simp [intOf]; omega
          case pos =>
            have hd : decide (now < n) = false := decide_eq_false (by omega)
            have hDD : DD = true := by rw [HD.out, show decide (n ≤ now) = true from decide_eq_true hn]; rfl
            have HM : Hid ((duT ps now (j + 1)).length = K + 1) := Lib.hid (by rw [HN.out, if_pos hDD])
            obtain ⟨hKT, hTK⟩ := List.getElem?_eq_some_iff.1 (HX.out hDD)
            clear HN HX HD
            obtain ⟨bg, offg, capg, hvg, hbg, cg⟩ := (HG.out.below hbr).at K hKT
            cases hvg
            rw [hTK] at cg
            clear hTK hDD
            have hq : ((K : Int) == (T.length : Int)) = false := by simp; omega
            go_wp2
            refine wp_region_T (fun w' => w'.cell? ⟨bg, offg + K, none⟩ = some (.string u) ∧ w'.cell? ⟨b, off + j * 6, none⟩ = some (.string u)) (fun _ => True) 15 (by kernel_rfl) 16 rfl ?_
            refine wpAnyT_takesA (md := .any) 1 (by kernel_rfl) (by intro d v c a w h; cases d <;> exact h) [0, 1, 2, 3, 4, 5, 6, 7, 8, 9, 10, 11, 12, 13, 14] _ _ _ (by decide) (by kernel_rfl) ⟨⟨cg, d0⟩, fun _ => trivial⟩ ?_
            simp only [pick, List.filterMap_cons, List.filterMap_nil, List.getElem?_cons_zero, List.getElem?_cons_succ]
            refine wpIf_step (.int .i64 (K : Int)) (by kernel_rfl) (fun w hw => by go_simp) ?_
            refine wpIf_step (.slice (some ⟨bg, offg, none⟩) T.length gc) (by kernel_rfl) (fun w hw => by go_simp) ?_
            refine wpIf_step (.int .i64 (T.length : Int)) (by kernel_rfl) (fun w hw => by go_simp) ?_
            refine wpIf_step (.bool false) (by kernel_rfl) (fun w hw => by go_simp) ?_
            refine wpIf_step (.bool false) (by kernel_rfl) (fun w hw => by go_simp) ?_
            refine wpIf_step (.slice (some ⟨bg, offg, none⟩) T.length gc) (by kernel_rfl) (fun w hw => by go_simp) ?_
            refine wpIf_step (.int .i64 (K : Int)) (by kernel_rfl) (fun w hw => by go_simp) ?_
            refine wpIf_step (.pointer (some ⟨bg, offg + K, none⟩)) (by kernel_rfl) (fun w hw => by go_simp) ?_
            refine wpIf_step (.string u) (by kernel_rfl) (fun w hw => by have e0 := hw.1; go_simp) ?_
            refine wpIf_step (.slice (some ⟨b, off, none⟩) ps.length lc) (by kernel_rfl) (fun w hw => by go_simp) ?_
            refine wpIf_step (.int .i64 (j : Int)) (by kernel_rfl) (fun w hw => by go_simp) ?_
            refine wpIf_step (.pointer (some ⟨b, off + j * 6, none⟩)) (by kernel_rfl) (fun w hw => by go_simp) ?_
            refine wpIf_step (.pointer (some ⟨b, off + j * 6, none⟩)) (by kernel_rfl) (fun w hw => by go_simp) ?_
            refine wpIf_step (.string u) (by kernel_rfl) (fun w hw => by have e0 := hw.2; go_simp) ?_
            refine wpIf_step (.bool false) (by kernel_rfl) (fun w hw => by go_simp) ?_
            refine wpIf_nil (fun hS => ?_)
            clear hS
            refine wpAnyT_one 15 0 (by kernel_rfl) rfl (by kernel_rfl) (fun K hK => ?_)
            go_simp
            refine hK _ _ ⟨⟨cg, d0⟩, fun _ => trivial⟩ (fun hS4 => ?_)
            clear hK hS4
            replace hbr := hbr.drew
            refine wpAnyT_over (by kernel_rfl) ?_
            go_wp2
            go_roundw
            case rel => exact ⟨j + 1, by omega, by go_num, by rw [HM.out]; simp, hbr⟩
            case measure => simp [intOf]; omega
end Go.Proofs.Ytlipgmaiooljkaa

/- Contract: Quarter of the reference. -/
import Derived.Test.YtbjcgcjdlnoejabW2b
namespace Go.Proofs.Ytbjcgcjdlnoejab
open Go.ChangeShapes Go.WideShapes Go.ChangeAt Go.RowKit
set_option linter.unusedVariables false

theorem l1Word_any (x : Int) (w : World) : Calls Try.prog 30 #[.int .i64 x] w fun e w' => e = .returned (.bool (isW x)) ∧ w = w' := by
  by_cases h0 : 0 ≤ x
  · by_cases h1 : x ≤ 4294967295
    · have HW := Lib.hid (isW_true h0 h1)
      go_enter Try.func30, Try.ntmps30
      go_wp2
      go_ret
      exact ⟨ret_bool HW.out.symm, rfl⟩
    · have HW : Hid (isW x = false) := Lib.hid (isW_false (by omega))
      go_enter Try.func30, Try.ntmps30
      go_wp2
      go_ret
      exact ⟨ret_bool HW.out.symm, rfl⟩
  · have HW : Hid (isW x = false) := Lib.hid (isW_false (by omega))
    go_enter Try.func30, Try.ntmps30
    go_wp2
    go_ret
    exact ⟨ret_bool HW.out.symm, rfl⟩

theorem below_grown {B : Nat} {a w w' : World} {e : TypeId} {k : IntKind} {v : Value} {zs : List Int} (h : Below B a w) (ho : OwnK e k w B v zs) (hB : B ≤ w.heap.size) (hg : w.grownBy w' v.ownBlock) : Below B a w' :=
  h.trans ((Below.refl _ _).grown hg hB (ownBlock_base ho))

theorem ownK_cell {e : TypeId} {k : IntKind} {w : World} {base g cap n : Nat} {zs : List Int} (h : OwnK e k w base (.slice (some ⟨g, 0, none⟩) n cap) zs) (hn : n = zs.length) (j : Nat) (hj : j < zs.length) : w.cell? ⟨g, j, none⟩ = some (.int k zs[j]) := by
  subst hn
  have := World.ownsRow.cellAt h j (by omega)
  rw [this]
  have hk' : j < (zs.map (Value.int k)).length := by rw [List.length_map]; exact hj
  rw [List.getElem?_eq_getElem hk', List.getElem_map]

theorem upd_four (z0 z1 z2 z3 : Int) (q : Four) : upd [z0, z1, z2, z3] 0 1 2 3 q = listOf q := rfl
theorem apart_four : Apart 4 0 1 2 3 := ⟨by decide, by decide, by decide, by decide, by decide, by decide, by decide, by decide, by decide, by decide⟩

set_option maxRecDepth 100000 in
set_option maxHeartbeats 1600000 in
theorem specQuarter_any (v : Value) (zs : List Int) (B : Nat) (w : World) (h : RowAt .i64 w B v zs) (hn : zs.length ≤ 100000000) :
    Calls Try.prog 13 #[v] w fun e w' => ∃ v', e = .returned v' ∧ OwnK 2 .i64 w' w.heap.size v' (quR zs) ∧ Below w.heap.size w w' := by
  obtain ⟨a, cap, rfl, hl, hm, hc⟩ := h
  unfold maxLen at hm
  have HC := Lib.hid hc
  clear hc
  go_enter Try.func13, Try.ntmps13
  go_wp2
  have ho0 : OwnK 2 .i64 ((w.alloc (.cells #[] 2)).alloc (.cells #[] 43)) w.heap.size (.slice (some ⟨w.heap.size, 0, none⟩) 0 0) [] := (OwnK.lit 2 .i64 w w.heap.size (Nat.le_refl _)).alloc _
  have hu0 : OwnK 43 .u32 ((w.alloc (.cells #[] 2)).alloc (.cells #[] 43)) w.heap.size (.slice (some ⟨w.heap.size + 1, 0, none⟩) 0 0) [] := by
    have e1 : (w.alloc (.cells #[] 2)).heap.size = w.heap.size + 1 := by simp
    have := OwnK.lit 43 .u32 (w.alloc (.cells #[] 2)) w.heap.size (by omega)
    rw [e1] at this
    exact this
  have hb0 : Below w.heap.size w ((w.alloc (.cells #[] 2)).alloc (.cells #[] 43)) := ((Below.refl _ _).alloc (Nat.le_refl _) _).alloc (by simp) _
  have HO := Lib.hid ho0
  have HU := Lib.hid hu0
  have HB := Lib.hid hb0
  clear ho0 hu0 hb0
  go_loopw [4, 5] (fun u i wr => ∃ k : Nat, k ≤ zs.length ∧ i = .int .i64 k ∧ Hid ((zs.take k).all isW = true) ∧ OwnK 43 .u32 wr w.heap.size u (zs.take k) ∧ OwnK 2 .i64 wr w.heap.size (.slice (some ⟨w.heap.size, 0, none⟩) 0 0) [] ∧ Below w.heap.size w wr)
    (fun _ i _ => zs.length - (intOf i).toNat)
  case atStart => exact ⟨0, Nat.zero_le _, rfl, Lib.hid rfl, HU.out, HO.out, HB.out⟩
  case round =>
    obtain ⟨k, hk, rfl, hso, hown, hout, hbel⟩ := hrel
    clear HO HU HB
    have hsz := hbel.size
    by_cases hlt : k < zs.length
    · obtain ⟨b, o, rfl, hb, hr⟩ := HC.out k hlt
      have hbw : b < w.heap.size := World.block_lt_of_cell? w _ (hr k hlt)
      obtain ⟨x, hx⟩ : ∃ x, x = zs[k] := ⟨_, rfl⟩
      have c1 : wr.cell? ⟨b, o + k, none⟩ = some (.int .i64 x) := by rw [hbel.cell (p := ⟨b, o + k, none⟩) hbw, hr k hlt]; simp [hlt, hx]
      have HX := Lib.hid hx
      have HL : Hid ((zs.take k).length ≤ 100000000) := Lib.hid (by simp; omega)
      clear hx hr
      by_cases h2 : 0 ≤ x ∧ x ≤ 4294967295
      · have h0 := h2.1
        have h1 := h2.2
        have HW := Lib.hid (isW_true h0 h1)
        have m0 : IntKind.u32.wrap x = x := by rw [IntKind.wrap_u32']; omega
        go_wp2_with (first | (go_at_call 30; refine (l1Word_any _ _).mono ?_; rintro e w' ⟨rfl, rfl⟩; rw [HW.out]) | (at_builtin; refine wpList_appKg Try.underlying46 Try.infoU32 (by decide) rfl (.tmp 22) (.tmp 28) rfl w.heap.size _ _ rfl (hown.alloc _) wr.heap.size 1 _ _ [x] rfl (heap_alloc_new wr _) rfl rfl (by decide) (by have := HL.out; omega) (by simp; omega) ?_; intro v1 w1 hown1 hg1) | go_in)
        rw [HX.out, ← List.take_succ_eq_append_getElem hlt] at hown1
        have hout1 := OwnK.apart (hout.alloc _) (hown.alloc _) (by decide) hg1
        have hb1 := below_grown (hbel.alloc hsz _) (hown.alloc _) (by simp; omega) hg1
        clear hg1 hown hout
        go_wp2
        go_roundw
        case rel => exact ⟨k + 1, by omega, by go_num, Lib.hid (by rw [all_take_step zs k hlt, hso.out, ← HX.out, isW_true h0 h1]; rfl), hown1, hout1, hb1⟩
        case measure => simp [intOf]; omega
      · have hbad := isW_false (n := x) (by omega)
        have HW := Lib.hid hbad
        have HS : Hid (quR zs = []) := Lib.hid (by rw [quR, if_neg (by rw [all_of_bad zs k hlt (by rw [← HX.out]; exact hbad)]; simp)])
        clear hbad
        go_wp2_with (go_at_call 30; refine (l1Word_any _ _).mono ?_; rintro e w' ⟨rfl, rfl⟩; rw [HW.out])
        go_wp2
        go_ret
        exact ⟨_, rfl, by rw [HS.out]; exact hout, hbel⟩
    · have hall := hso.out
      have e : zs.take k = zs := List.take_of_length_le (by omega)
      rw [e] at hown hall
      clear e
      by_cases h4 : zs.length = 4
      · obtain ⟨z0, z1, z2, z3, rfl⟩ := four_cases h4
        have hk4 : k = 4 := by have : ([z0, z1, z2, z3] : List Int).length = 4 := rfl; omega
        subst hk4
        have hu := four_u hall
        have HQ : Hid (quR [z0, z1, z2, z3] = listOf (Four.mk z0 z1 z2 z3).turn) := Lib.hid (by rw [quR, if_pos ⟨rfl, hall⟩]; rfl)
        have htu := Four.turn_u hu
        obtain ⟨q', hq'⟩ : ∃ q', q' = (Four.mk z0 z1 z2 z3).turn := ⟨_, rfl⟩
        have HU := Lib.hid hu
        obtain ⟨g, cap1, rfl, hgb, hgl, hgf⟩ := hown.form (by simp)
        rw [← hq'] at htu HQ
        have hq4 := fun w1 (h1 : OwnK 43 .u32 w1 w.heap.size (.slice (some ⟨g, 0, none⟩) 4 cap1) [z0, z1, z2, z3]) => l2Quarter_any w.heap.size g 4 cap1 [z0, z1, z2, z3] 0 1 2 3 ⟨z0, z1, z2, z3⟩ w1 rfl (by decide) apart_four h1 hu
        rw [← hq', upd_four] at hq4
        have HQ4 := Lib.hid hq4
        have HT := Lib.hid htu
        clear hq4 hq' htu hu hall hso
        have hlen : (([z0, z1, z2, z3] : List Int).length : Int) = 4 := rfl
        go_wp2_with (go_at_call 31; refine (HQ4.out _ hown).mono ?_; rintro e w1 ⟨rfl, hown1, hg1⟩)
        have hout1 := OwnK.apart hout hown (by decide) hg1
        have hb1 := below_grown hbel hown hsz hg1
        clear hg1 hown hout hgf hgl HC hbel hsz
        have hlq : (listOf q').length = 4 := rfl
        go_loopw [3, 6] (fun u i ws => ∃ k : Nat, k ≤ 4 ∧ i = .int .i64 k ∧ OwnK 2 .i64 ws w.heap.size u ((listOf q').take k) ∧ OwnK 43 .u32 ws w.heap.size (.slice (some ⟨g, 0, none⟩) 4 cap1) (listOf q') ∧ Below w.heap.size w ws)
          (fun _ i _ => 4 - (intOf i).toNat)
        case atStart => exact ⟨0, Nat.zero_le _, rfl, hout1, hown1, hb1⟩
        case round =>
          obtain ⟨k, hk, rfl, hown, hrow, hbel⟩ := hrel
          clear hout1 hown1 hb1
          have hsz := hbel.size
          by_cases hlt : k < 4
          · obtain ⟨x, hx⟩ : ∃ x, x = (listOf q')[k]'(by rw [hlq]; exact hlt) := ⟨_, rfl⟩
            have c1 := ownK_cell hrow hlq.symm k (by rw [hlq]; exact hlt)
            rw [← hx] at c1
            have hxu : isU x := by
              have hm : x ∈ listOf q' := by rw [hx]; exact List.getElem_mem _
              obtain ⟨u0, u1, u2, u3⟩ := HT.out
              simp [listOf] at hm
              rcases hm with rfl | rfl | rfl | rfl <;> assumption
            obtain ⟨h0, h1⟩ := hxu
            have HX := Lib.hid hx
            clear hx
            have HL : Hid (((listOf q').take k).length ≤ 4) := Lib.hid (by simp; omega)
            go_wp2_with (first | (at_builtin; refine wpList_appKg Try.underlying24 Try.infoI64 (by decide) rfl (.tmp 40) (.tmp 46) rfl w.heap.size _ _ rfl (hown.alloc _) _ 1 _ _ [x] rfl (heap_alloc_new _ _) rfl rfl (by decide) (by have := HL.out; omega) (by simp; omega) ?_; intro v1 w2 hown2 hg2) | go_in)
            rw [HX.out, ← List.take_succ_eq_append_getElem (by rw [hlq]; exact hlt)] at hown2
            have hrow2 := OwnK.apart (hrow.alloc _) (hown.alloc _) (by decide) hg2
            have hb2 := below_grown (hbel.alloc hsz _) (hown.alloc _) (by simp; omega) hg2
            clear hg2 hown hrow
            go_wp2
            go_roundw
            case rel => exact ⟨k + 1, by omega, by go_num, hown2, hrow2, hb2⟩
            case measure => simp [intOf]; omega
          · have hk4 : k = 4 := by omega
            subst hk4
            go_wp2
            go_ret
            exact ⟨_, rfl, by rw [HQ.out]; exact hown, hbel⟩
      · have HS : Hid (quR zs = []) := Lib.hid (by rw [quR, if_neg (fun hh => h4 hh.1)])
        obtain ⟨a1, cap1, rfl, hl1, hm1, _⟩ := hown.row
        go_wp2
        go_ret
        exact ⟨_, rfl, by rw [HS.out]; exact hout, hbel⟩
end Go.Proofs.Ytbjcgcjdlnoejab

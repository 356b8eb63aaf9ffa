/- Contracts: words as bytes (l01 StoreLe, both sides). -/
import Derived.Test.YtfjaincogbdeiaaGreatDoorRows1
import Derived.Test.YtfjaincogbdeiaaGreatDoorPlainA
namespace Go.Proofs.YtfjaincogbdeiaaGreatDoor
open Go.ChangeShapes Go.WideShapes Go.ChangeAt Go.RowKit
set_option linter.unusedVariables false

set_option maxHeartbeats 800000 in
theorem appendLe_any (v : Value) (l : List UInt8) (x : Int) (base : Nat) (w : World) (h : OwnB w base v l) (hx0 : 0 ≤ x) (hx : x ≤ 4294967295) (hn : l.length ≤ 100000000) (hbase : base ≤ w.heap.size) :
    Calls Tryz.prog 107 #[v, .int .u32 x] w fun e w' => ∃ v', e = .returned v' ∧ OwnB w' base v' (l ++ le4 x) ∧ Below base w w' := by
  go_enter Tryz.func107, Tryz.ntmps107
  go_wp2
  go_loopw [0, 6] (fun u i wr => ∃ k : Nat, k ≤ 4 ∧ i = .int .i64 k ∧ OwnB wr base u (l ++ (le4 x).take k) ∧ Below base w wr)
    (fun _ i _ => 4 - (intOf i).toNat)
  case atStart => exact ⟨0, Nat.zero_le _, rfl, by simpa using h, Below.refl _ _⟩
  case round =>
    obtain ⟨k, hk, rfl, hown, hbel⟩ := hrel
    clear h
    by_cases hlt : k < 4
    · have hsz := hbel.size
      have HL : Hid ((l ++ (le4 x).take k).length ≤ l.length + 4) := Lib.hid (by simp; omega)
      go_wp2_with (at_builtin; (refine wpList_appB rfl (.tmp 9) (.tmp 15) rfl base _ _ rfl (hown.alloc _) wr.heap.size 1 _ _ [lowB (x / 2 ^ (8 * k))] rfl (heap_alloc_new wr _) (by simp only [List.map_cons, List.map_nil, bc_lowB]) rfl (by decide) (by have := HL.out; omega) (by simp; omega) ?_); intro v1 w1 hown1 hb1)
      rw [List.append_assoc, ← le4_snoc x k hlt] at hown1
      have hb2 := (hbel.alloc (by omega) _).trans hb1
      clear hb1 hown
      go_wp2
      go_roundw
      case rel => exact ⟨k + 1, by omega, by go_num, hown1, hb2⟩
      case measure => simp [intOf]; omega
    · go_wp2
      go_ret
      have : k = 4 := by omega
      subst this
      exact ⟨_, rfl, hown, hbel⟩

set_option maxHeartbeats 800000 in
theorem l1Store_any (v : Value) (zs : List Int) (B : Nat) (w : World) (h : RowAt .u32 w B v zs) (hw : ∀ n ∈ zs, 0 ≤ n ∧ n ≤ 4294967295) (hn : zs.length ≤ 10000000) :
    Calls Tryz.prog 66 #[v] w fun e w' => e = .returned (.string ⟨(storeL zs).toArray⟩) ∧ Below w.heap.size w w' := by
  obtain ⟨a, cap, rfl, hl, hm, hc⟩ := h
  unfold maxLen at hm
  have HC := Lib.hid hc
  have HW := Lib.hid hw
  clear hc hw
  go_enter Tryz.func66, Tryz.ntmps66
  go_wp2
  go_loopw [3, 4] (fun u i wr => ∃ k : Nat, k ≤ zs.length ∧ i = .int .i64 k ∧ OwnB wr w.heap.size u (storeL (zs.take k)) ∧ Below w.heap.size w wr)
    (fun _ i _ => zs.length - (intOf i).toNat)
  case atStart => exact ⟨0, Nat.zero_le _, rfl, OwnB.lit w _ (Nat.le_refl _), (Below.refl _ _).alloc (Nat.le_refl _) _⟩
  case round =>
    obtain ⟨k, hk, rfl, hown, hbel⟩ := hrel
    by_cases hlt : k < zs.length
    · obtain ⟨b, o, rfl, hb, hr⟩ := HC.out k hlt
      have hbw : b < w.heap.size := World.block_lt_of_cell? w _ (hr k hlt)
      have hsz := hbel.size
      obtain ⟨x, hx⟩ : ∃ x, x = zs[k] := ⟨_, rfl⟩
      have hxb := HW.out zs[k] (List.getElem_mem hlt)
      rw [← hx] at hxb
      obtain ⟨hx0, hx1⟩ := hxb
      have c1 : wr.cell? ⟨b, o + k, none⟩ = some (.int .u32 x) := by rw [hbel.cell (p := ⟨b, o + k, none⟩) hbw, hr k hlt]; simp [hlt, hx]
      have HX := Lib.hid hx
      have HL : Hid ((storeL (zs.take k)).length ≤ 4 * zs.length) := Lib.hid (by rw [storeL_len]; simp; omega)
      clear hx hr
      go_wp2
      go_region_held3 (fun w' => w'.cell? ⟨b, o + k, none⟩ = some (.int .u32 x))
        (first | go_keep | (rw [hb1.cell (p := ⟨b, o + k, none⟩) hbw]; assumption))
        ((refine step_appB rfl (.tmp 12) (.tmp 36) rfl w.heap.size _ _ rfl ((hown.alloc _).drew) wr.heap.size 4 _ _ (le4 x) rfl (heap_alloc_new wr _) (le4_cells x) rfl (by decide) (by have := HL.out; omega) (by simp; omega) ?_; intro v1 w1 hown1 hb1))
      rw [HX.out, ← storeL_snoc zs k hlt] at hown1
      have hb2 := (hbel.alloc hsz _).drew.trans hb1
      clear hb1 hown
      go_wp2
      go_roundw
      case rel => exact ⟨k + 1, by omega, by go_num, hown1, hb2⟩
      case measure => simp [intOf]; omega
    · have hc := conv_ownB hown
      go_wp2
      go_ret
      exact ⟨ret_str (by rw [List.take_of_length_le (by omega)]), hbel⟩

theorem areWords_any (v : Value) (zs : List Int) (B : Nat) (w : World) (h : RowAt .i64 w B v zs) :
    Calls Tryz.prog 106 #[v] w fun e w' => e = .returned (.bool (zs.all isW)) ∧ w = w' := by
  obtain ⟨a, cap, rfl, hl, hm, hc⟩ := h
  unfold maxLen at hm
  have HC := Lib.hid hc
  clear hc
  go_enter Tryz.func106, Tryz.ntmps106
  go_wp2
  go_loop [7] (fun i => ∃ k : Nat, k ≤ zs.length ∧ i = .int .i64 k ∧ Hid ((zs.take k).all isW = true)) (fun i => zs.length - (intOf i).toNat)
  case atStart => exact ⟨0, Nat.zero_le _, rfl, Lib.hid rfl⟩
  case round =>
    obtain ⟨k, hk, rfl, hso⟩ := hrel
    by_cases hlt : k < zs.length
    · obtain ⟨b, o, rfl, hb, hr⟩ := HC.out k hlt
      obtain ⟨x, hx⟩ : ∃ x, x = zs[k] := ⟨_, rfl⟩
      have c1 : w.cell? ⟨b, o + k, none⟩ = some (.int .i64 x) := by rw [hr k hlt]; simp [hlt, hx]
      have HX := Lib.hid hx
      clear hx hr
      by_cases h0 : 0 ≤ x
      · by_cases h1 : x ≤ 4294967295
        · go_wp2
          go_round
          case rel => exact ⟨k + 1, by omega, by go_num, Lib.hid (by rw [all_take_step zs k hlt, hso.out, ← HX.out, isW_true h0 h1]; rfl)⟩
          case measure => simp [intOf]; omega
        · go_wp2
          go_ret
          exact ⟨ret_bool (all_of_bad zs k hlt (by rw [← HX.out]; exact isW_false (by omega))).symm, rfl⟩
      · go_wp2
        go_ret
        exact ⟨ret_bool (all_of_bad zs k hlt (by rw [← HX.out]; exact isW_false (by omega))).symm, rfl⟩
    · go_wp2
      go_ret
      have := hso.out
      rw [List.take_of_length_le (by omega)] at this
      exact ⟨ret_bool this.symm, rfl⟩

set_option maxHeartbeats 1600000 in
theorem implStoreLe_any (v : Value) (zs : List Int) (B : Nat) (w : World) (h : RowAt .i64 w B v zs) :
    Calls Tryz.prog 76 #[v] w fun e w' => e = .returned (.string (stR zs)) ∧ Below w.heap.size w w' := by
  have h' := h
  obtain ⟨a, cap, rfl, hl, hm, hc⟩ := h'
  unfold maxLen at hm
  have HC := Lib.hid hc
  have H := Lib.hid h
  clear hc h
  by_cases hn : zs.length ≤ 1000
  · by_cases hall : zs.all isW = true
    · have HS : Hid (stR zs = ⟨(storeL zs).toArray⟩) := Lib.hid (by rw [stR, if_pos ⟨hn, hall⟩])
      have HW := Lib.hid (of_all hall)
      go_enter Tryz.func76, Tryz.ntmps76
      go_wp2_with (first | (go_at_call 106; refine (areWords_any _ _ _ _ H.out).mono ?_; rintro e w' ⟨rfl, rfl⟩) | (at_make; refine wpList_makeB rfl _ _ rfl w.heap.size .i64 .i64 _ rfl rfl (by omega) (by omega) (Nat.le_refl _) ?_; intro v0 w0 hown0 hb0))
      clear hall
      go_loopw [3, 20] (fun u i wr => ∃ k : Nat, k ≤ zs.length ∧ i = .int .i64 k ∧ OwnB wr w.heap.size u (storeL (zs.take k)) ∧ Below w.heap.size w wr)
        (fun _ i _ => zs.length - (intOf i).toNat)
      case atStart => exact ⟨0, Nat.zero_le _, rfl, hown0, hb0⟩
      case round =>
        obtain ⟨k, hk, rfl, hown, hbel⟩ := hrel
        clear hown0 hb0
        by_cases hlt : k < zs.length
        · obtain ⟨b, o, rfl, hb, hr⟩ := HC.out k hlt
          have hbw : b < w.heap.size := World.block_lt_of_cell? w _ (hr k hlt)
          have hsz := hbel.size
          obtain ⟨x, hx⟩ : ∃ x, x = zs[k] := ⟨_, rfl⟩
          have hxb := HW.out zs[k] (List.getElem_mem hlt)
          rw [← hx] at hxb
          obtain ⟨hx0, hx1⟩ := hxb
          have c1 : wr.cell? ⟨b, o + k, none⟩ = some (.int .i64 x) := by rw [hbel.cell (p := ⟨b, o + k, none⟩) hbw, hr k hlt]; simp [hlt, hx]
          have HX := Lib.hid hx
          have HL : Hid ((storeL (zs.take k)).length ≤ 4 * zs.length) := Lib.hid (by rw [storeL_len]; simp; omega)
          clear hx hr
          go_wp2_with (go_at_call 107; refine (appendLe_any _ _ _ w.heap.size _ hown hx0 hx1 (by have := HL.out; omega) hsz).mono ?_; rintro e w1 ⟨v1, rfl, hown1, hb1⟩)
          rw [HX.out, ← storeL_snoc zs k hlt] at hown1
          have hb2 := hbel.trans hb1
          clear hb1 hown
          go_wp2
          go_roundw
          case rel => exact ⟨k + 1, by omega, by go_num, hown1, hb2⟩
          case measure => simp [intOf]; omega
        · have hc := conv_ownB hown
          go_wp2
          go_ret
          exact ⟨ret_str (by rw [List.take_of_length_le (by omega), HS.out]), hbel⟩
    · have hall' : zs.all isW = false := by simpa using hall
      have HS : Hid (stR zs = ⟨#[]⟩) := Lib.hid (by rw [stR, if_neg (by simp [hall'])])
      clear hall
      go_enter Tryz.func76, Tryz.ntmps76
      go_wp2_with (go_at_call 106; refine (areWords_any _ _ _ _ H.out).mono ?_; rintro e w' ⟨rfl, rfl⟩)
      go_ret
      exact ⟨ret_str HS.out.symm, Below.refl _ _⟩
  · have HS : Hid (stR zs = ⟨#[]⟩) := Lib.hid (by rw [stR, if_neg (by omega)])
    go_enter Tryz.func76, Tryz.ntmps76
    go_wp2
    go_ret
    exact ⟨ret_str HS.out.symm, Below.refl _ _⟩

end Go.Proofs.YtfjaincogbdeiaaGreatDoor

/- Joined: W9b. -/
import Derived.Test.YtffkakpbelknaaaS11
/- W9b -/
namespace Go.Proofs.Ytffkakpbelknaaa
open Go.ChangeShapes Go.WideShapes Go.ChangeAt Go.RowKit
set_option linter.unusedVariables false

theorem Try.methodE (v : Value) (w : World) : (method 332 47 v "loop.example/g00569/impl.key").run Try.prog w = .ok (186, v) w := by kernel_rfl
theorem keyE_any (s t : ByteArray) (d : Int) (r b : Bool) (w : World) :
    Calls Try.prog 186 #[enV s t d r b] w fun e w' => e = .returned (.string s) ∧ Below w.heap.size w w' := by
  go_enter Try.func186, Try.ntmps186
  go_wp2
  go_ret
  exact ⟨rfl, (Below.refl _ _).alloc (Nat.le_refl _) _⟩

set_option maxRecDepth 100000 in
set_option maxHeartbeats 1600000 in
theorem risesE_any (v : Value) (es : List En) (w : World) (h : EnAt w w.heap.size v es) :
    Calls Try.prog 156 #[v] w fun e w' => e = .returned (.bool (risB (enKs es))) ∧ Below w.heap.size w w' := by
  have HI := Lib.hid h
  obtain ⟨a, cap, rfl, hl, hm, hc⟩ := h.raw
  clear hc h
  unfold maxLen at hm
  have HX : Hid (∀ k, k < es.length → ordK (enKs es) k = false → risB (enKs es) = false) := Lib.hid (fun k hk h => allB_out k (by simpa [enKs] using hk) h)
  have HD : Hid (∀ k, ¬ k < es.length → (∀ j, j < k → ordK (enKs es) j = true) → risB (enKs es) = true) := Lib.hid (fun k hk h => allB_end k (by simpa [enKs] using hk) h)
  generalize risB (enKs es) = R at HX HD ⊢
  go_enter Try.func156, Try.ntmps156
  go_wp2
  go_loopw [3] (fun i wr => ∃ k : Nat, 1 ≤ k ∧ k ≤ es.length + 1 ∧ i = .int .i64 (k : Int) ∧ Below w.heap.size w wr ∧ Hid (∀ j, j < k → ordK (enKs es) j = true)) (fun i _ => es.length - (intOf i).toNat)
  case atStart => exact ⟨1, by omega, by omega, rfl, Below.refl _ _, Lib.hid (fun j hj => by
    obtain rfl : j = 0 := by omega
    rfl)⟩
  case round =>
    obtain ⟨k, hk1, hk, rfl, hB, HO⟩ := hrel
    by_cases hlt : k < es.length
    · obtain ⟨q, hq⟩ : ∃ q, k = q + 1 := ⟨k - 1, by omega⟩
      have hql : q < es.length := by omega
      obtain ⟨a', cap', hv, _, _, hc⟩ := (HI.out.below hB).raw
      cases hv
      obtain ⟨b, off, rfl, hb, hr⟩ := hc k hlt
      obtain ⟨p0, p1, p2, p3, p4, _, _⟩ := hr q hql
      obtain ⟨c0, c1, c2, c3, c4, _, _⟩ := hr k hlt
      have HK : Hid (ordK (enKs es) k = Op.bytesLess es[q].it.id.toList es[k].it.id.toList) := Lib.hid (by subst hq; exact ordK_at _ es q hlt)
      obtain ⟨S0, hS0⟩ : ∃ x, x = es[k].it.id := ⟨_, rfl⟩
      rw [← hS0] at c0 HK
      obtain ⟨S1, hS1⟩ : ∃ x, x = es[k].it.ti := ⟨_, rfl⟩
      rw [← hS1] at c1
      obtain ⟨S2, hS2⟩ : ∃ x, x = es[k].it.da := ⟨_, rfl⟩
      rw [← hS2] at c2
      obtain ⟨S3, hS3⟩ : ∃ x, x = es[k].rd := ⟨_, rfl⟩
      rw [← hS3] at c3
      obtain ⟨S4, hS4⟩ : ∃ x, x = es[k].st := ⟨_, rfl⟩
      rw [← hS4] at c4
      obtain ⟨P0, hP0⟩ : ∃ x, x = es[q].it.id := ⟨_, rfl⟩
      rw [← hP0] at p0 HK
      obtain ⟨P1, hP1⟩ : ∃ x, x = es[q].it.ti := ⟨_, rfl⟩
      rw [← hP1] at p1
      obtain ⟨P2, hP2⟩ : ∃ x, x = es[q].it.da := ⟨_, rfl⟩
      rw [← hP2] at p2
      obtain ⟨P3, hP3⟩ : ∃ x, x = es[q].rd := ⟨_, rfl⟩
      rw [← hP3] at p3
      obtain ⟨P4, hP4⟩ : ∃ x, x = es[q].st := ⟨_, rfl⟩
      rw [← hP4] at p4
      clear hr hc hS0 hS1 hS2 hS3 hS4 hP0 hP1 hP2 hP3 hP4
      obtain ⟨L, hL⟩ : ∃ L, Op.bytesLess P0.toList S0.toList = L := ⟨_, rfl⟩
      rw [hL] at HK
      have HL := Lib.hid hL
      have Hk2 : Hid (IntKind.i64.wrap ((k : Int) - 1) = (q : Int)) := Lib.hid (by rw [hq]; simp; exact IntWalk.i64_in _ (by omega))
      clear hq hL
      go_wp2
      have hA2 : (wr.drew.cell? ⟨b, off + q * 5, none⟩ = some (.string P0) ∧ wr.drew.cell? ⟨b, off + q * 5 + 1, none⟩ = some (.string P1) ∧ wr.drew.cell? ⟨b, off + q * 5 + 2, none⟩ = some (.int .i64 P2) ∧ wr.drew.cell? ⟨b, off + q * 5 + 3, none⟩ = some (.bool P3) ∧ wr.drew.cell? ⟨b, off + q * 5 + 4, none⟩ = some (.bool P4)) ∧ (wr.drew.cell? ⟨b, off + k * 5, none⟩ = some (.string S0) ∧ wr.drew.cell? ⟨b, off + k * 5 + 1, none⟩ = some (.string S1) ∧ wr.drew.cell? ⟨b, off + k * 5 + 2, none⟩ = some (.int .i64 S2) ∧ wr.drew.cell? ⟨b, off + k * 5 + 3, none⟩ = some (.bool S3) ∧ wr.drew.cell? ⟨b, off + k * 5 + 4, none⟩ = some (.bool S4)) := ⟨⟨p0, p1, p2, p3, p4⟩, c0, c1, c2, c3, c4⟩
      have hB2 := hB.drew
      clear p0 c0 p1 c1 p2 c2 p3 c3 p4 c4
      refine wp_region_T (fun w' => (w'.cell? ⟨b, off + q * 5, none⟩ = some (.string P0) ∧ w'.cell? ⟨b, off + q * 5 + 1, none⟩ = some (.string P1) ∧ w'.cell? ⟨b, off + q * 5 + 2, none⟩ = some (.int .i64 P2) ∧ w'.cell? ⟨b, off + q * 5 + 3, none⟩ = some (.bool P3) ∧ w'.cell? ⟨b, off + q * 5 + 4, none⟩ = some (.bool P4)) ∧ (w'.cell? ⟨b, off + k * 5, none⟩ = some (.string S0) ∧ w'.cell? ⟨b, off + k * 5 + 1, none⟩ = some (.string S1) ∧ w'.cell? ⟨b, off + k * 5 + 2, none⟩ = some (.int .i64 S2) ∧ w'.cell? ⟨b, off + k * 5 + 3, none⟩ = some (.bool S3) ∧ w'.cell? ⟨b, off + k * 5 + 4, none⟩ = some (.bool S4))) (fun _ => True) 13 (by kernel_rfl) 14 rfl ?_
      refine wpAnyT_takesA (md := .any) 3 (by kernel_rfl) (by intro d v c a w h; cases d <;> exact h) [0, 1, 2, 3, 4, 5, 7, 8, 9, 10, 11] _ _ _ (by decide) (by kernel_rfl) ⟨hA2, fun _ => trivial⟩ ?_
      simp only [pick, List.filterMap_cons, List.filterMap_nil, List.getElem?_cons_zero, List.getElem?_cons_succ]
      refine wpIf_step (.slice (some ⟨b, off, none⟩) es.length cap) (by kernel_rfl) (fun w hw => by go_simp) ?_
      refine wpIf_step (.int .i64 (k : Int)) (by kernel_rfl) (fun w hw => by go_simp) ?_
      refine wpIf_step (.int .i64 (q : Int)) (by kernel_rfl) (fun w hw => by have hk2 := Hk2.out; go_simp) ?_
      refine wpIf_step (.pointer (some ⟨b, off + q * 5, none⟩)) (by kernel_rfl) (fun w hw => by go_simp) ?_
      refine wpIf_step (enV P0 P1 P2 P3 P4) (by kernel_rfl) (fun w hw => by obtain ⟨⟨d0, d1, d2, d3, d4⟩, e0, e1, e2, e3, e4⟩ := hw; go_simp) ?_
      refine wpIf_step (.iface 47 (enV P0 P1 P2 P3 P4)) (by kernel_rfl) (fun w hw => by go_simp) ?_
      refine wpIf_step (.slice (some ⟨b, off, none⟩) es.length cap) (by kernel_rfl) (fun w hw => by go_simp) ?_
      refine wpIf_step (.int .i64 (k : Int)) (by kernel_rfl) (fun w hw => by go_simp) ?_
      refine wpIf_step (.pointer (some ⟨b, off + k * 5, none⟩)) (by kernel_rfl) (fun w hw => by go_simp) ?_
      refine wpIf_step (enV S0 S1 S2 S3 S4) (by kernel_rfl) (fun w hw => by obtain ⟨⟨d0, d1, d2, d3, d4⟩, e0, e1, e2, e3, e4⟩ := hw; go_simp) ?_
      refine wpIf_step (.iface 47 (enV S0 S1 S2 S3 S4)) (by kernel_rfl) (fun w hw => by go_simp) ?_
      refine wpIf_nil (fun hS => ?_)
      have hM := fun v w => Try.methodE v w
      have hbl : b < wr.drew.heap.size := by have := hB2.size; omega
      refine wpAnyT_one 6 2 (by kernel_rfl) rfl (by kernel_rfl) (fun K hK => ?_)
      go_simp
      refine (keyE_any P0 P1 P2 P3 P4 _).mono ?_
      rintro e v1 ⟨rfl, hb1⟩
      have hkc : ∀ o x, wr.drew.cell? ⟨b, o, none⟩ = some x → v1.cell? ⟨b, o, none⟩ = some x := fun o x hx => by rw [hb1.cell (p := ⟨b, o, none⟩) hbl]; exact hx
      have hA3 : (v1.cell? ⟨b, off + q * 5, none⟩ = some (.string P0) ∧ v1.cell? ⟨b, off + q * 5 + 1, none⟩ = some (.string P1) ∧ v1.cell? ⟨b, off + q * 5 + 2, none⟩ = some (.int .i64 P2) ∧ v1.cell? ⟨b, off + q * 5 + 3, none⟩ = some (.bool P3) ∧ v1.cell? ⟨b, off + q * 5 + 4, none⟩ = some (.bool P4)) ∧ (v1.cell? ⟨b, off + k * 5, none⟩ = some (.string S0) ∧ v1.cell? ⟨b, off + k * 5 + 1, none⟩ = some (.string S1) ∧ v1.cell? ⟨b, off + k * 5 + 2, none⟩ = some (.int .i64 S2) ∧ v1.cell? ⟨b, off + k * 5 + 3, none⟩ = some (.bool S3) ∧ v1.cell? ⟨b, off + k * 5 + 4, none⟩ = some (.bool S4)) := ⟨⟨hkc _ _ hA2.1.1, hkc _ _ hA2.1.2.1, hkc _ _ hA2.1.2.2.1, hkc _ _ hA2.1.2.2.2.1, hkc _ _ hA2.1.2.2.2.2⟩, hkc _ _ hA2.2.1, hkc _ _ hA2.2.2.1, hkc _ _ hA2.2.2.2.1, hkc _ _ hA2.2.2.2.2.1, hkc _ _ hA2.2.2.2.2.2⟩
      have hB3 := hB2.trans (hb1.mono hB2.size)
      have hbl3 : b < v1.heap.size := by have := hB3.size; omega
      refine hK _ _ ⟨hA3, fun _ => trivial⟩ (fun hS3 => ?_)
      clear hK K hS hb1 hA2 hB2 hkc hbl hS3
      refine wpAnyT_one 12 1 (by kernel_rfl) rfl (by kernel_rfl) (fun K hK => ?_)
      go_simp
      refine (keyE_any S0 S1 S2 S3 S4 _).mono ?_
      rintro e v2 ⟨rfl, hb2⟩
      have hkc : ∀ o x, v1.cell? ⟨b, o, none⟩ = some x → v2.cell? ⟨b, o, none⟩ = some x := fun o x hx => by rw [hb2.cell (p := ⟨b, o, none⟩) hbl3]; exact hx
      have hA4 : (v2.cell? ⟨b, off + q * 5, none⟩ = some (.string P0) ∧ v2.cell? ⟨b, off + q * 5 + 1, none⟩ = some (.string P1) ∧ v2.cell? ⟨b, off + q * 5 + 2, none⟩ = some (.int .i64 P2) ∧ v2.cell? ⟨b, off + q * 5 + 3, none⟩ = some (.bool P3) ∧ v2.cell? ⟨b, off + q * 5 + 4, none⟩ = some (.bool P4)) ∧ (v2.cell? ⟨b, off + k * 5, none⟩ = some (.string S0) ∧ v2.cell? ⟨b, off + k * 5 + 1, none⟩ = some (.string S1) ∧ v2.cell? ⟨b, off + k * 5 + 2, none⟩ = some (.int .i64 S2) ∧ v2.cell? ⟨b, off + k * 5 + 3, none⟩ = some (.bool S3) ∧ v2.cell? ⟨b, off + k * 5 + 4, none⟩ = some (.bool S4)) := ⟨⟨hkc _ _ hA3.1.1, hkc _ _ hA3.1.2.1, hkc _ _ hA3.1.2.2.1, hkc _ _ hA3.1.2.2.2.1, hkc _ _ hA3.1.2.2.2.2⟩, hkc _ _ hA3.2.1, hkc _ _ hA3.2.2.1, hkc _ _ hA3.2.2.2.1, hkc _ _ hA3.2.2.2.2.1, hkc _ _ hA3.2.2.2.2.2⟩
      have hB4 := hB3.trans (hb2.mono hB3.size)
      refine hK _ _ ⟨hA4, fun _ => trivial⟩ (fun hS3 => ?_)
      clear hK K hb2 hA3 hB3 hkc hbl3 hS3 hM
      have hL := HL.out
      refine wpAnyT_one 13 0 (by kernel_rfl) rfl (by kernel_rfl) (fun K hK => ?_)
      go_simp
      refine hK _ _ ⟨hA4, fun _ => trivial⟩ (fun hS4 => ?_)
      clear hK K hS4 hA4
      refine wpAnyT_over (by kernel_rfl) ?_
      clear hL
      cases L with
      | false =>
        have HZ : Hid (R = false) := Lib.hid (HX.out k hlt HK.out)
        go_wp2
        go_ret
        exact ⟨ret_bool HZ.out.symm, hB4⟩
      | true =>
        have HO' : Hid (∀ j, j < k + 1 → ordK (enKs es) j = true) := Lib.hid (fun j hj => by
          by_cases hjk : j = k
          · subst hjk; exact HK.out
          · exact HO.out j (by omega))
        go_wp2
        go_roundw
        case rel => exact ⟨k + 1, by omega, by omega, by go_num, hB4, HO'⟩
        case measure => simp [intOf]; omega
    · have HZ : Hid (R = true) := Lib.hid (HD.out k hlt HO.out)
      go_wp2
      go_ret
      exact ⟨ret_bool HZ.out.symm, hB⟩

theorem Try.methodS (v : Value) (w : World) : (method 332 43 v "loop.example/g00569/impl.key").run Try.prog w = .ok (185, v) w := by kernel_rfl
theorem keyS_any (s t : ByteArray) (x : Value) (w : World) :
    Calls Try.prog 185 #[sbV s t x] w fun e w' => e = .returned (.string s) ∧ Below w.heap.size w w' := by
  go_enter Try.func185, Try.ntmps185
  go_wp2
  go_ret
  exact ⟨rfl, (Below.refl _ _).alloc (Nat.le_refl _) _⟩

set_option maxRecDepth 100000 in
set_option maxHeartbeats 1600000 in
theorem risesS_any (v : Value) (ss : List Sb) (w : World) (h : SbAt w w.heap.size v ss) :
    Calls Try.prog 57 #[v] w fun e w' => e = .returned (.bool (risB (sbKs ss))) ∧ Below w.heap.size w w' := by
  have HI := Lib.hid h
  obtain ⟨a, cap, rfl, hl, hm, hc⟩ := h.raw
  clear hc h
  unfold maxLen at hm
  have HX : Hid (∀ k, k < ss.length → ordK (sbKs ss) k = false → risB (sbKs ss) = false) := Lib.hid (fun k hk h => allB_out k (by simpa [sbKs] using hk) h)
  have HD : Hid (∀ k, ¬ k < ss.length → (∀ j, j < k → ordK (sbKs ss) j = true) → risB (sbKs ss) = true) := Lib.hid (fun k hk h => allB_end k (by simpa [sbKs] using hk) h)
  generalize risB (sbKs ss) = R at HX HD ⊢
  go_enter Try.func57, Try.ntmps57
  go_wp2
  go_loopw [3] (fun i wr => ∃ k : Nat, 1 ≤ k ∧ k ≤ ss.length + 1 ∧ i = .int .i64 (k : Int) ∧ Below w.heap.size w wr ∧ Hid (∀ j, j < k → ordK (sbKs ss) j = true)) (fun i _ => ss.length - (intOf i).toNat)
  case atStart => exact ⟨1, by omega, by omega, rfl, Below.refl _ _, Lib.hid (fun j hj => by
    obtain rfl : j = 0 := by omega
    rfl)⟩
  case round =>
    obtain ⟨k, hk1, hk, rfl, hB, HO⟩ := hrel
    by_cases hlt : k < ss.length
    · obtain ⟨q, hq⟩ : ∃ q, k = q + 1 := ⟨k - 1, by omega⟩
      have hql : q < ss.length := by omega
      obtain ⟨a', cap', hv, _, _, hc⟩ := (HI.out.below hB).raw
      cases hv
      obtain ⟨b, off, rfl, hb, hr⟩ := hc k hlt
      obtain ⟨P2, p0, p1, p2, _, _, _⟩ := hr q hql
      obtain ⟨S2, c0, c1, c2, _, _, _⟩ := hr k hlt
      have HK : Hid (ordK (sbKs ss) k = Op.bytesLess ss[q].u.toList ss[k].u.toList) := Lib.hid (by subst hq; exact ordK_at _ ss q hlt)
      obtain ⟨S0, hS0⟩ : ∃ x, x = ss[k].u := ⟨_, rfl⟩
      rw [← hS0] at c0 HK
      obtain ⟨S1, hS1⟩ : ∃ x, x = ss[k].t := ⟨_, rfl⟩
      rw [← hS1] at c1
      obtain ⟨P0, hP0⟩ : ∃ x, x = ss[q].u := ⟨_, rfl⟩
      rw [← hP0] at p0 HK
      obtain ⟨P1, hP1⟩ : ∃ x, x = ss[q].t := ⟨_, rfl⟩
      rw [← hP1] at p1
      clear hr hc hS0 hS1 hP0 hP1
      obtain ⟨L, hL⟩ : ∃ L, Op.bytesLess P0.toList S0.toList = L := ⟨_, rfl⟩
      rw [hL] at HK
      have HL := Lib.hid hL
      have Hk2 : Hid (IntKind.i64.wrap ((k : Int) - 1) = (q : Int)) := Lib.hid (by rw [hq]; simp; exact IntWalk.i64_in _ (by omega))
      clear hq hL
      go_wp2
      have hA2 : (wr.drew.cell? ⟨b, off + q * 3, none⟩ = some (.string P0) ∧ wr.drew.cell? ⟨b, off + q * 3 + 1, none⟩ = some (.string P1) ∧ wr.drew.cell? ⟨b, off + q * 3 + 2, none⟩ = some (P2)) ∧ (wr.drew.cell? ⟨b, off + k * 3, none⟩ = some (.string S0) ∧ wr.drew.cell? ⟨b, off + k * 3 + 1, none⟩ = some (.string S1) ∧ wr.drew.cell? ⟨b, off + k * 3 + 2, none⟩ = some (S2)) := ⟨⟨p0, p1, p2⟩, c0, c1, c2⟩
      have hB2 := hB.drew
      clear p0 c0 p1 c1 p2 c2
      refine wp_region_T (fun w' => (w'.cell? ⟨b, off + q * 3, none⟩ = some (.string P0) ∧ w'.cell? ⟨b, off + q * 3 + 1, none⟩ = some (.string P1) ∧ w'.cell? ⟨b, off + q * 3 + 2, none⟩ = some (P2)) ∧ (w'.cell? ⟨b, off + k * 3, none⟩ = some (.string S0) ∧ w'.cell? ⟨b, off + k * 3 + 1, none⟩ = some (.string S1) ∧ w'.cell? ⟨b, off + k * 3 + 2, none⟩ = some (S2))) (fun _ => True) 13 (by kernel_rfl) 14 rfl ?_
      refine wpAnyT_takesA (md := .any) 3 (by kernel_rfl) (by intro d v c a w h; cases d <;> exact h) [0, 1, 2, 3, 4, 5, 7, 8, 9, 10, 11] _ _ _ (by decide) (by kernel_rfl) ⟨hA2, fun _ => trivial⟩ ?_
      simp only [pick, List.filterMap_cons, List.filterMap_nil, List.getElem?_cons_zero, List.getElem?_cons_succ]
      refine wpIf_step (.slice (some ⟨b, off, none⟩) ss.length cap) (by kernel_rfl) (fun w hw => by go_simp) ?_
      refine wpIf_step (.int .i64 (k : Int)) (by kernel_rfl) (fun w hw => by go_simp) ?_
      refine wpIf_step (.int .i64 (q : Int)) (by kernel_rfl) (fun w hw => by have hk2 := Hk2.out; go_simp) ?_
      refine wpIf_step (.pointer (some ⟨b, off + q * 3, none⟩)) (by kernel_rfl) (fun w hw => by go_simp) ?_
      refine wpIf_step (sbV P0 P1 P2) (by kernel_rfl) (fun w hw => by obtain ⟨⟨d0, d1, d2⟩, e0, e1, e2⟩ := hw; go_simp) ?_
      refine wpIf_step (.iface 43 (sbV P0 P1 P2)) (by kernel_rfl) (fun w hw => by go_simp) ?_
      refine wpIf_step (.slice (some ⟨b, off, none⟩) ss.length cap) (by kernel_rfl) (fun w hw => by go_simp) ?_
      refine wpIf_step (.int .i64 (k : Int)) (by kernel_rfl) (fun w hw => by go_simp) ?_
      refine wpIf_step (.pointer (some ⟨b, off + k * 3, none⟩)) (by kernel_rfl) (fun w hw => by go_simp) ?_
      refine wpIf_step (sbV S0 S1 S2) (by kernel_rfl) (fun w hw => by obtain ⟨⟨d0, d1, d2⟩, e0, e1, e2⟩ := hw; go_simp) ?_
      refine wpIf_step (.iface 43 (sbV S0 S1 S2)) (by kernel_rfl) (fun w hw => by go_simp) ?_
      refine wpIf_nil (fun hS => ?_)
      have hM := fun v w => Try.methodS v w
      have hbl : b < wr.drew.heap.size := by have := hB2.size; omega
      refine wpAnyT_one 6 2 (by kernel_rfl) rfl (by kernel_rfl) (fun K hK => ?_)
      go_simp
      refine (keyS_any P0 P1 P2 _).mono ?_
      rintro e v1 ⟨rfl, hb1⟩
      have hkc : ∀ o x, wr.drew.cell? ⟨b, o, none⟩ = some x → v1.cell? ⟨b, o, none⟩ = some x := fun o x hx => by rw [hb1.cell (p := ⟨b, o, none⟩) hbl]; exact hx
      have hA3 : (v1.cell? ⟨b, off + q * 3, none⟩ = some (.string P0) ∧ v1.cell? ⟨b, off + q * 3 + 1, none⟩ = some (.string P1) ∧ v1.cell? ⟨b, off + q * 3 + 2, none⟩ = some (P2)) ∧ (v1.cell? ⟨b, off + k * 3, none⟩ = some (.string S0) ∧ v1.cell? ⟨b, off + k * 3 + 1, none⟩ = some (.string S1) ∧ v1.cell? ⟨b, off + k * 3 + 2, none⟩ = some (S2)) := ⟨⟨hkc _ _ hA2.1.1, hkc _ _ hA2.1.2.1, hkc _ _ hA2.1.2.2⟩, hkc _ _ hA2.2.1, hkc _ _ hA2.2.2.1, hkc _ _ hA2.2.2.2⟩
      have hB3 := hB2.trans (hb1.mono hB2.size)
      have hbl3 : b < v1.heap.size := by have := hB3.size; omega
      refine hK _ _ ⟨hA3, fun _ => trivial⟩ (fun hS3 => ?_)
      clear hK K hS hb1 hA2 hB2 hkc hbl hS3
      refine wpAnyT_one 12 1 (by kernel_rfl) rfl (by kernel_rfl) (fun K hK => ?_)
      go_simp
      refine (keyS_any S0 S1 S2 _).mono ?_
      rintro e v2 ⟨rfl, hb2⟩
      have hkc : ∀ o x, v1.cell? ⟨b, o, none⟩ = some x → v2.cell? ⟨b, o, none⟩ = some x := fun o x hx => by rw [hb2.cell (p := ⟨b, o, none⟩) hbl3]; exact hx
      have hA4 : (v2.cell? ⟨b, off + q * 3, none⟩ = some (.string P0) ∧ v2.cell? ⟨b, off + q * 3 + 1, none⟩ = some (.string P1) ∧ v2.cell? ⟨b, off + q * 3 + 2, none⟩ = some (P2)) ∧ (v2.cell? ⟨b, off + k * 3, none⟩ = some (.string S0) ∧ v2.cell? ⟨b, off + k * 3 + 1, none⟩ = some (.string S1) ∧ v2.cell? ⟨b, off + k * 3 + 2, none⟩ = some (S2)) := ⟨⟨hkc _ _ hA3.1.1, hkc _ _ hA3.1.2.1, hkc _ _ hA3.1.2.2⟩, hkc _ _ hA3.2.1, hkc _ _ hA3.2.2.1, hkc _ _ hA3.2.2.2⟩
      have hB4 := hB3.trans (hb2.mono hB3.size)
      refine hK _ _ ⟨hA4, fun _ => trivial⟩ (fun hS3 => ?_)
      clear hK K hb2 hA3 hB3 hkc hbl3 hS3 hM
      have hL := HL.out
      refine wpAnyT_one 13 0 (by kernel_rfl) rfl (by kernel_rfl) (fun K hK => ?_)
      go_simp
      refine hK _ _ ⟨hA4, fun _ => trivial⟩ (fun hS4 => ?_)
      clear hK K hS4 hA4
      refine wpAnyT_over (by kernel_rfl) ?_
      clear hL
      cases L with
      | false =>
        have HZ : Hid (R = false) := Lib.hid (HX.out k hlt HK.out)
        go_wp2
        go_ret
        exact ⟨ret_bool HZ.out.symm, hB4⟩
      | true =>
        have HO' : Hid (∀ j, j < k + 1 → ordK (sbKs ss) j = true) := Lib.hid (fun j hj => by
          by_cases hjk : j = k
          · subst hjk; exact HK.out
          · exact HO.out j (by omega))
        go_wp2
        go_roundw
        case rel => exact ⟨k + 1, by omega, by omega, by go_num, hB4, HO'⟩
        case measure => simp [intOf]; omega
    · have HZ : Hid (R = true) := Lib.hid (HD.out k hlt HO.out)
      go_wp2
      go_ret
      exact ⟨ret_bool HZ.out.symm, hB⟩

end Go.Proofs.Ytffkakpbelknaaa

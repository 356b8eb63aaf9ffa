/- Joined: W9e. -/
import Derived.Test.YtffkakpbelknaaaS13
/- W9e -/
namespace Go.Proofs.Ytffkakpbelknaaa
open Go.ChangeShapes Go.WideShapes Go.ChangeAt Go.RowKit
set_option linter.unusedVariables false

theorem wpAnyT_skip {P : Program} {md : Region.Mode} {Q : Exit → Act → World → Prop} {A B : World → Prop} {t : Nat} {l : List Oper} {L : Array Bool} {a : Act} {w : World} (i g : Nat) {o : Oper} (hr : Region.ready md l.toArray L = [i]) (ho : l[i]? = some o) (hw : Region.wanted o (yielded l.toArray a.tmps) = false)
    (hS : Sx A B t (L.setIfInBounds i true) w) (h : wpAnyT P md l.toArray Q A B t g (L.setIfInBounds i true) (a.put o.dst undef) w) : wpAnyT P md l.toArray Q A B t (g + 1) L a w := by
  refine ⟨fun h0 => (by rw [hr] at h0; cases h0), fun j hj => ?_⟩
  rw [hr] at hj
  have : j = i := by simpa using hj
  subst this
  unfold wpOp
  have ho' : l.toArray[j]? = some o := by simpa using ho
  simp only [ho']
  rw [if_neg (by rw [hw]; simp)]
  exact ⟨hS, h⟩
def sbO (ss : List Sb) (k : Nat) : Bool := sbsB ss k && ordK (sbKs ss) k
theorem rdB_sbO (ss : List Sb) : rdB ss = (allB ss.length (sbO ss) && decide (ss.length ≤ 6)) := by
  unfold rdB sbO risB
  rw [allB_and]
  have : (sbKs ss).length = ss.length := by simp [sbKs]
  rw [this]
  cases decide (ss.length ≤ 6) <;> cases allB ss.length (sbsB ss) <;> cases allB ss.length (ordK (sbKs ss)) <;> rfl
theorem sbB_three (s : Sb) : sbB s = (nmB s.u 20 && ttB s.t && (ensB s.es && decide (s.es.length ≤ 12))) := by
  unfold sbB
  cases nmB s.u 20 <;> cases ttB s.t <;> cases ensB s.es <;> cases decide (s.es.length ≤ 12) <;> rfl

set_option maxRecDepth 100000 in
set_option maxHeartbeats 3000000 in
theorem specReaderOk_any (v : Value) (ss : List Sb) (w : World) (h : SbAt w w.heap.size v ss) :
    Calls Try.prog 22 #[.agg #[v]] w fun e w' => e = .returned (.bool (rdB ss)) ∧ Below w.heap.size w w' := by
  have HI := Lib.hid h
  obtain ⟨a, cap, rfl, hl, hm, hc⟩ := h.raw
  clear hc h
  unfold maxLen at hm
  have HX : Hid (∀ k, k < ss.length → sbO ss k = false → allB ss.length (sbO ss) = false) := Lib.hid (fun k hk h => allB_out k hk h)
  have HD : Hid (∀ k, ¬ k < ss.length → (∀ j, j < k → sbO ss j = true) → allB ss.length (sbO ss) = true) := Lib.hid (fun k hk h => allB_end k hk h)
  rw [rdB_sbO]
  generalize allB ss.length (sbO ss) = R0 at HX HD ⊢
  have hB0 : Below w.heap.size w (w.alloc (.cells #[.slice a ss.length cap] 26)) := (Below.refl _ _).alloc (Nat.le_refl _) _
  have hF0 := Box.new w #[.slice a ss.length cap] 26
  go_enter Try.func22, Try.ntmps22
  go_wp2
  go_loopw [3] (fun i wr => ∃ k : Nat, k ≤ ss.length ∧ i = .int .i64 (k : Int) ∧ Box wr w.heap.size #[.slice a ss.length cap] 26 ∧ Below w.heap.size w wr ∧ Hid (∀ j, j < k → sbO ss j = true)) (fun i _ => ss.length - (intOf i).toNat)
  case atStart => exact ⟨0, Nat.zero_le _, rfl, hF0, hB0, Lib.hid (fun j hj => by omega)⟩
  case round =>
    obtain ⟨k, hk, rfl, hF, hB, HO⟩ := hrel
    have f0 := hF.cell 0 _ rfl
    clear hF0 hB0
    by_cases hlt : k < ss.length
    · obtain ⟨a', cap', hv, _, _, hc⟩ := (HI.out.below hB).raw
      cases hv
      obtain ⟨b, off, rfl, hb, hr⟩ := hc k hlt
      obtain ⟨x, c0, c1, c2, hx, s0, s1⟩ := hr k hlt
      have HN := Lib.hid (fun w => l8Name_any ss[k].u 20 w s0)
      have HT := Lib.hid (fun w => l8Title_any ss[k].t w s1)
      have HC := Lib.hid (fun w (hy : EnAt w w.heap.size x ss[k].es) => l9Entries_any x ss[k].es w hy)
      have HK : Hid (sbO ss k = (nmB ss[k].u 20 && ttB ss[k].t && (ensB ss[k].es && decide (ss[k].es.length ≤ 12)) && ordK (sbKs ss) k)) := Lib.hid (by unfold sbO; rw [sbsB_at ss k hlt, sbB_three])
      have HP : Hid (∀ q (hq : k = q + 1), wr.cell? ⟨b, off + q * 3, none⟩ = some (.string (ss[q]'(by omega)).u) ∧ ordK (sbKs ss) k = Op.bytesLess (ss[q]'(by omega)).u.toList ss[k].u.toList) := Lib.hid (fun q hq => by
        subst hq
        obtain ⟨_, hc0, _⟩ := hr q (by omega)
        exact ⟨hc0, ordK_at _ ss q hlt⟩)
      generalize nmB ss[k].u 20 = A at HN HK
      generalize ttB ss[k].t = B at HT HK
      generalize (ensB ss[k].es && decide (ss[k].es.length ≤ 12)) = D at HC HK
      obtain ⟨xa, xc, rfl⟩ := hx.1.slice
      obtain ⟨U, hU⟩ : ∃ x, x = ss[k].u := ⟨_, rfl⟩
      obtain ⟨T, hT⟩ : ∃ x, x = ss[k].t := ⟨_, rfl⟩
      obtain ⟨E, hE⟩ : ∃ x, x = ss[k].es := ⟨_, rfl⟩
      rw [← hE] at hx c2 HC
      rw [← hU] at c0 HN HP
      rw [← hT] at c1 HT
      obtain ⟨n, hn⟩ : ∃ n, n = E.length := ⟨_, rfl⟩
      rw [← hn] at c2 hx HC
      have hbl : b < wr.heap.size := by have := hB.size; omega
      have hba : Below wr.heap.size wr (wr.alloc (.cells #[.string U, .string T, .slice xa n xc] 43)) := (Below.refl _ _).alloc (Nat.le_refl _) _
      have hB1 := hB.trans (hba.mono hB.size)
      have hx1 := ((hx.mono hB.size).below hba).mono hba.size
      have hF1 := hF.keep hba hF.lt
      have hG1 := Box.new wr #[.string U, .string T, .slice xa n xc] 43
      have Hkc : Hid (∀ o x, wr.cell? ⟨b, o, none⟩ = some x → (wr.alloc (.cells #[.string U, .string T, .slice xa n xc] 43)).cell? ⟨b, o, none⟩ = some x) := Lib.hid (fun o x hx => by
        rw [hba.cell (p := ⟨b, o, none⟩) hbl]; exact hx)
      clear hr hc hU hT hE hn s0 s1 hx hB hF hba
      cases A with
      | false =>
        have HZ : Hid (R0 = false) := Lib.hid (HX.out k hlt (by rw [HK.out]; rfl))
        go_wp2
        generalize wr.alloc (.cells #[.string U, .string T, .slice xa n xc] 43) = W at hB1 hx1 hF1 hG1 ⊢
        have hA2 : (fun w' => Box w' w.heap.size #[.slice (some ⟨b, off, none⟩) ss.length cap] 26 ∧ Box w' wr.heap.size #[.string U, .string T, .slice xa n xc] 43) W.drew := ⟨hF1, hG1⟩
        have hB2 := hB1.drew
        have hx2 := hx1.drew
        clear hB1 hx1 hF1 hG1 c0 c1 c2 f0
        refine wp_region_T (fun w' => Box w' w.heap.size #[.slice (some ⟨b, off, none⟩) ss.length cap] 26 ∧ Box w' wr.heap.size #[.string U, .string T, .slice xa n xc] 43) (fun _ => True) 31 (by kernel_rfl) 32 rfl ?_
        refine wpAnyT_takesA (md := .any) 30 (by kernel_rfl) (by intro d v c a w h; cases d <;> exact h) [0, 1] _ _ _ (by decide) (by kernel_rfl) ⟨hA2, fun _ => trivial⟩ ?_
        simp only [pick, List.filterMap_cons, List.filterMap_nil, List.getElem?_cons_zero, List.getElem?_cons_succ]
        refine wpIf_step (.pointer (some ⟨wr.heap.size, 0, none⟩)) (by kernel_rfl) (fun w hw => by go_simp) ?_
        refine wpIf_step (.string U) (by kernel_rfl) (fun w hw => by have e0 := hw.2.cell 0 _ rfl; have e1 := hw.2.cell 1 _ rfl; have e2 := hw.2.cell 2 _ rfl; go_simp) ?_
        refine wpIf_nil (fun hS => ?_)
        clear hS
        refine wpAnyT_one 2 29 (by kernel_rfl) rfl (by kernel_rfl) (fun K hK => ?_)
        go_simp
        refine (HN.out _).mono ?_
        rintro e v1 ⟨rfl, rfl⟩
        refine hK _ _ ⟨hA2, fun _ => trivial⟩ (fun hS => ?_)
        clear hK K hS
        refine wpAnyT_takesA (md := .any) 25 (by kernel_rfl) (by intro d v c a w h; cases d <;> exact h) [3, 4, 5, 6] _ _ _ (by decide) (by kernel_rfl) ⟨hA2, fun _ => trivial⟩ ?_
        simp only [pick, List.filterMap_cons, List.filterMap_nil, List.getElem?_cons_zero, List.getElem?_cons_succ]
        refine wpIf_step (.bool true) (by kernel_rfl) (fun w hw => by go_simp) ?_
        refine wpIf_step (.bool true) (by kernel_rfl) (fun w hw => by go_simp) ?_
        refine wpIf_skip (by kernel_rfl) ?_
        refine wpIf_skip (by kernel_rfl) ?_
        refine wpIf_nil (fun hS => ?_)
        clear hS
        refine wpAnyT_skip 7 24 (by kernel_rfl) rfl (by kernel_rfl) ⟨hA2, fun _ => trivial⟩ ?_
        refine wpAnyT_takesA (md := .any) 19 (by kernel_rfl) (by intro d v c a w h; cases d <;> exact h) [8, 9, 10, 11, 12] _ _ _ (by decide) (by kernel_rfl) ⟨hA2, fun _ => trivial⟩ ?_
        simp only [pick, List.filterMap_cons, List.filterMap_nil, List.getElem?_cons_zero, List.getElem?_cons_succ]
        refine wpIf_skip (by kernel_rfl) ?_
        refine wpIf_step (.bool true) (by kernel_rfl) (fun w hw => by go_simp) ?_
        refine wpIf_step (.bool true) (by kernel_rfl) (fun w hw => by go_simp) ?_
        refine wpIf_skip (by kernel_rfl) ?_
        refine wpIf_skip (by kernel_rfl) ?_
        refine wpIf_nil (fun hS => ?_)
        clear hS
        refine wpAnyT_skip 13 18 (by kernel_rfl) rfl (by kernel_rfl) ⟨hA2, fun _ => trivial⟩ ?_
        refine wpAnyT_takesA (md := .any) 1 (by kernel_rfl) (by intro d v c a w h; cases d <;> exact h) [14, 15, 16, 17, 18, 19, 20, 21, 22, 23, 24, 25, 26, 27, 28, 29, 30] _ _ _ (by decide) (by kernel_rfl) ⟨hA2, fun _ => trivial⟩ ?_
        simp only [pick, List.filterMap_cons, List.filterMap_nil, List.getElem?_cons_zero, List.getElem?_cons_succ]
        refine wpIf_skip (by kernel_rfl) ?_
        refine wpIf_step (.bool true) (by kernel_rfl) (fun w hw => by go_simp) ?_
        refine wpIf_step (.bool true) (by kernel_rfl) (fun w hw => by go_simp) ?_
        refine wpIf_skip (by kernel_rfl) ?_
        refine wpIf_skip (by kernel_rfl) ?_
        refine wpIf_skip (by kernel_rfl) ?_
        refine wpIf_skip (by kernel_rfl) ?_
        refine wpIf_skip (by kernel_rfl) ?_
        refine wpIf_skip (by kernel_rfl) ?_
        refine wpIf_skip (by kernel_rfl) ?_
        refine wpIf_skip (by kernel_rfl) ?_
        refine wpIf_skip (by kernel_rfl) ?_
        refine wpIf_skip (by kernel_rfl) ?_
        refine wpIf_skip (by kernel_rfl) ?_
        refine wpIf_skip (by kernel_rfl) ?_
        refine wpIf_skip (by kernel_rfl) ?_
        refine wpIf_skip (by kernel_rfl) ?_
        refine wpIf_nil (fun hS => ?_)
        clear hS
        refine wpAnyT_one 31 0 (by kernel_rfl) rfl (by kernel_rfl) (fun K hK => ?_)
        go_simp
        refine hK _ _ ⟨hA2, fun _ => trivial⟩ (fun hS => ?_)
        clear hK K hS
        refine wpAnyT_over (by kernel_rfl) ?_
        go_wp2
        go_ret
        exact ⟨ret_bool (by rw [HZ.out]; simp), hB2⟩
      | true =>
        cases B with
        | false =>
          have HZ : Hid (R0 = false) := Lib.hid (HX.out k hlt (by rw [HK.out]; rfl))
          go_wp2
          generalize wr.alloc (.cells #[.string U, .string T, .slice xa n xc] 43) = W at hB1 hx1 hF1 hG1 ⊢
          have hA2 : (fun w' => Box w' w.heap.size #[.slice (some ⟨b, off, none⟩) ss.length cap] 26 ∧ Box w' wr.heap.size #[.string U, .string T, .slice xa n xc] 43) W.drew := ⟨hF1, hG1⟩
          have hB2 := hB1.drew
          have hx2 := hx1.drew
          clear hB1 hx1 hF1 hG1 c0 c1 c2 f0
          refine wp_region_T (fun w' => Box w' w.heap.size #[.slice (some ⟨b, off, none⟩) ss.length cap] 26 ∧ Box w' wr.heap.size #[.string U, .string T, .slice xa n xc] 43) (fun _ => True) 31 (by kernel_rfl) 32 rfl ?_
          refine wpAnyT_takesA (md := .any) 30 (by kernel_rfl) (by intro d v c a w h; cases d <;> exact h) [0, 1] _ _ _ (by decide) (by kernel_rfl) ⟨hA2, fun _ => trivial⟩ ?_
          simp only [pick, List.filterMap_cons, List.filterMap_nil, List.getElem?_cons_zero, List.getElem?_cons_succ]
          refine wpIf_step (.pointer (some ⟨wr.heap.size, 0, none⟩)) (by kernel_rfl) (fun w hw => by go_simp) ?_
          refine wpIf_step (.string U) (by kernel_rfl) (fun w hw => by have e0 := hw.2.cell 0 _ rfl; have e1 := hw.2.cell 1 _ rfl; have e2 := hw.2.cell 2 _ rfl; go_simp) ?_
          refine wpIf_nil (fun hS => ?_)
          clear hS
          refine wpAnyT_one 2 29 (by kernel_rfl) rfl (by kernel_rfl) (fun K hK => ?_)
          go_simp
          refine (HN.out _).mono ?_
          rintro e v1 ⟨rfl, rfl⟩
          refine hK _ _ ⟨hA2, fun _ => trivial⟩ (fun hS => ?_)
          clear hK K hS
          refine wpAnyT_takesA (md := .any) 25 (by kernel_rfl) (by intro d v c a w h; cases d <;> exact h) [3, 4, 5, 6] _ _ _ (by decide) (by kernel_rfl) ⟨hA2, fun _ => trivial⟩ ?_
          simp only [pick, List.filterMap_cons, List.filterMap_nil, List.getElem?_cons_zero, List.getElem?_cons_succ]
          refine wpIf_step (.bool false) (by kernel_rfl) (fun w hw => by go_simp) ?_
          refine wpIf_step (.bool false) (by kernel_rfl) (fun w hw => by go_simp) ?_
          refine wpIf_step (.pointer (some ⟨wr.heap.size, 1, none⟩)) (by kernel_rfl) (fun w hw => by go_simp) ?_
          refine wpIf_step (.string T) (by kernel_rfl) (fun w hw => by have e0 := hw.2.cell 0 _ rfl; have e1 := hw.2.cell 1 _ rfl; have e2 := hw.2.cell 2 _ rfl; go_simp) ?_
          refine wpIf_nil (fun hS => ?_)
          clear hS
          refine wpAnyT_one 7 24 (by kernel_rfl) rfl (by kernel_rfl) (fun K hK => ?_)
          go_simp
          refine (HT.out _).mono ?_
          rintro e v1 ⟨rfl, rfl⟩
          refine hK _ _ ⟨hA2, fun _ => trivial⟩ (fun hS => ?_)
          clear hK K hS
          refine wpAnyT_takesA (md := .any) 19 (by kernel_rfl) (by intro d v c a w h; cases d <;> exact h) [8, 9, 10, 11, 12] _ _ _ (by decide) (by kernel_rfl) ⟨hA2, fun _ => trivial⟩ ?_
          simp only [pick, List.filterMap_cons, List.filterMap_nil, List.getElem?_cons_zero, List.getElem?_cons_succ]
          refine wpIf_step (.bool true) (by kernel_rfl) (fun w hw => by go_simp) ?_
          refine wpIf_step (.bool true) (by kernel_rfl) (fun w hw => by go_simp) ?_
          refine wpIf_step (.bool true) (by kernel_rfl) (fun w hw => by go_simp) ?_
          refine wpIf_skip (by kernel_rfl) ?_
          refine wpIf_skip (by kernel_rfl) ?_
          refine wpIf_nil (fun hS => ?_)
          clear hS
          refine wpAnyT_skip 13 18 (by kernel_rfl) rfl (by kernel_rfl) ⟨hA2, fun _ => trivial⟩ ?_
          refine wpAnyT_takesA (md := .any) 1 (by kernel_rfl) (by intro d v c a w h; cases d <;> exact h) [14, 15, 16, 17, 18, 19, 20, 21, 22, 23, 24, 25, 26, 27, 28, 29, 30] _ _ _ (by decide) (by kernel_rfl) ⟨hA2, fun _ => trivial⟩ ?_
          simp only [pick, List.filterMap_cons, List.filterMap_nil, List.getElem?_cons_zero, List.getElem?_cons_succ]
          refine wpIf_skip (by kernel_rfl) ?_
          refine wpIf_step (.bool true) (by kernel_rfl) (fun w hw => by go_simp) ?_
          refine wpIf_step (.bool true) (by kernel_rfl) (fun w hw => by go_simp) ?_
          refine wpIf_skip (by kernel_rfl) ?_
          refine wpIf_skip (by kernel_rfl) ?_
          refine wpIf_skip (by kernel_rfl) ?_
          refine wpIf_skip (by kernel_rfl) ?_
          refine wpIf_skip (by kernel_rfl) ?_
          refine wpIf_skip (by kernel_rfl) ?_
          refine wpIf_skip (by kernel_rfl) ?_
          refine wpIf_skip (by kernel_rfl) ?_
          refine wpIf_skip (by kernel_rfl) ?_
          refine wpIf_skip (by kernel_rfl) ?_
          refine wpIf_skip (by kernel_rfl) ?_
          refine wpIf_skip (by kernel_rfl) ?_
          refine wpIf_skip (by kernel_rfl) ?_
          refine wpIf_skip (by kernel_rfl) ?_
          refine wpIf_nil (fun hS => ?_)
          clear hS
          refine wpAnyT_one 31 0 (by kernel_rfl) rfl (by kernel_rfl) (fun K hK => ?_)
          go_simp
          refine hK _ _ ⟨hA2, fun _ => trivial⟩ (fun hS => ?_)
          clear hK K hS
          refine wpAnyT_over (by kernel_rfl) ?_
          go_wp2
          go_ret
          exact ⟨ret_bool (by rw [HZ.out]; simp), hB2⟩
        | true =>
          cases D with
          | false =>
            have HZ : Hid (R0 = false) := Lib.hid (HX.out k hlt (by rw [HK.out]; rfl))
            go_wp2
            generalize wr.alloc (.cells #[.string U, .string T, .slice xa n xc] 43) = W at hB1 hx1 hF1 hG1 ⊢
            have hA2 : (fun w' => Box w' w.heap.size #[.slice (some ⟨b, off, none⟩) ss.length cap] 26 ∧ Box w' wr.heap.size #[.string U, .string T, .slice xa n xc] 43) W.drew := ⟨hF1, hG1⟩
            have hB2 := hB1.drew
            have hx2 := hx1.drew
            clear hB1 hx1 hF1 hG1 c0 c1 c2 f0
            refine wp_region_T (fun w' => Box w' w.heap.size #[.slice (some ⟨b, off, none⟩) ss.length cap] 26 ∧ Box w' wr.heap.size #[.string U, .string T, .slice xa n xc] 43) (fun _ => True) 31 (by kernel_rfl) 32 rfl ?_
            refine wpAnyT_takesA (md := .any) 30 (by kernel_rfl) (by intro d v c a w h; cases d <;> exact h) [0, 1] _ _ _ (by decide) (by kernel_rfl) ⟨hA2, fun _ => trivial⟩ ?_
            simp only [pick, List.filterMap_cons, List.filterMap_nil, List.getElem?_cons_zero, List.getElem?_cons_succ]
            refine wpIf_step (.pointer (some ⟨wr.heap.size, 0, none⟩)) (by kernel_rfl) (fun w hw => by go_simp) ?_
            refine wpIf_step (.string U) (by kernel_rfl) (fun w hw => by have e0 := hw.2.cell 0 _ rfl; have e1 := hw.2.cell 1 _ rfl; have e2 := hw.2.cell 2 _ rfl; go_simp) ?_
            refine wpIf_nil (fun hS => ?_)
            clear hS
            refine wpAnyT_one 2 29 (by kernel_rfl) rfl (by kernel_rfl) (fun K hK => ?_)
            go_simp
            refine (HN.out _).mono ?_
            rintro e v1 ⟨rfl, rfl⟩
            refine hK _ _ ⟨hA2, fun _ => trivial⟩ (fun hS => ?_)
            clear hK K hS
            refine wpAnyT_takesA (md := .any) 25 (by kernel_rfl) (by intro d v c a w h; cases d <;> exact h) [3, 4, 5, 6] _ _ _ (by decide) (by kernel_rfl) ⟨hA2, fun _ => trivial⟩ ?_
            simp only [pick, List.filterMap_cons, List.filterMap_nil, List.getElem?_cons_zero, List.getElem?_cons_succ]
            refine wpIf_step (.bool false) (by kernel_rfl) (fun w hw => by go_simp) ?_
            refine wpIf_step (.bool false) (by kernel_rfl) (fun w hw => by go_simp) ?_
            refine wpIf_step (.pointer (some ⟨wr.heap.size, 1, none⟩)) (by kernel_rfl) (fun w hw => by go_simp) ?_
            refine wpIf_step (.string T) (by kernel_rfl) (fun w hw => by have e0 := hw.2.cell 0 _ rfl; have e1 := hw.2.cell 1 _ rfl; have e2 := hw.2.cell 2 _ rfl; go_simp) ?_
            refine wpIf_nil (fun hS => ?_)
            clear hS
            refine wpAnyT_one 7 24 (by kernel_rfl) rfl (by kernel_rfl) (fun K hK => ?_)
            go_simp
            refine (HT.out _).mono ?_
            rintro e v1 ⟨rfl, rfl⟩
            refine hK _ _ ⟨hA2, fun _ => trivial⟩ (fun hS => ?_)
            clear hK K hS
            refine wpAnyT_takesA (md := .any) 19 (by kernel_rfl) (by intro d v c a w h; cases d <;> exact h) [8, 9, 10, 11, 12] _ _ _ (by decide) (by kernel_rfl) ⟨hA2, fun _ => trivial⟩ ?_
            simp only [pick, List.filterMap_cons, List.filterMap_nil, List.getElem?_cons_zero, List.getElem?_cons_succ]
            refine wpIf_step (.bool false) (by kernel_rfl) (fun w hw => by go_simp) ?_
            refine wpIf_step (.bool false) (by kernel_rfl) (fun w hw => by go_simp) ?_
            refine wpIf_step (.bool false) (by kernel_rfl) (fun w hw => by go_simp) ?_
            refine wpIf_step (.pointer (some ⟨wr.heap.size, 2, none⟩)) (by kernel_rfl) (fun w hw => by go_simp) ?_
            refine wpIf_step (.slice xa n xc) (by kernel_rfl) (fun w hw => by have e0 := hw.2.cell 0 _ rfl; have e1 := hw.2.cell 1 _ rfl; have e2 := hw.2.cell 2 _ rfl; go_simp) ?_
            refine wpIf_nil (fun hS => ?_)
            clear hS
            refine wpAnyT_one 13 18 (by kernel_rfl) rfl (by kernel_rfl) (fun K hK => ?_)
            go_simp
            refine (HC.out _ hx2).mono ?_
            rintro e v1 ⟨rfl, hb1⟩
            have hF3 := hA2.1.keep hb1 hA2.1.lt
            have hG3 := hA2.2.keep hb1 hA2.2.lt
            have hA3 : (fun w' => Box w' w.heap.size #[.slice (some ⟨b, off, none⟩) ss.length cap] 26 ∧ Box w' wr.heap.size #[.string U, .string T, .slice xa n xc] 43) v1 := ⟨hF3, hG3⟩
            have hB3 := hB2.trans (hb1.mono hB2.size)
            clear hb1 hB2 hA2 hx2
            refine hK _ _ ⟨hA3, fun _ => trivial⟩ (fun hS => ?_)
            clear hK K hS
            refine wpAnyT_takesA (md := .any) 1 (by kernel_rfl) (by intro d v c a w h; cases d <;> exact h) [14, 15, 16, 17, 18, 19, 20, 21, 22, 23, 24, 25, 26, 27, 28, 29, 30] _ _ _ (by decide) (by kernel_rfl) ⟨hA3, fun _ => trivial⟩ ?_
            simp only [pick, List.filterMap_cons, List.filterMap_nil, List.getElem?_cons_zero, List.getElem?_cons_succ]
            refine wpIf_step (.bool true) (by kernel_rfl) (fun w hw => by go_simp) ?_
            refine wpIf_step (.bool true) (by kernel_rfl) (fun w hw => by go_simp) ?_
            refine wpIf_step (.bool true) (by kernel_rfl) (fun w hw => by go_simp) ?_
            refine wpIf_skip (by kernel_rfl) ?_
            refine wpIf_skip (by kernel_rfl) ?_
            refine wpIf_skip (by kernel_rfl) ?_
            refine wpIf_skip (by kernel_rfl) ?_
            refine wpIf_skip (by kernel_rfl) ?_
            refine wpIf_skip (by kernel_rfl) ?_
            refine wpIf_skip (by kernel_rfl) ?_
            refine wpIf_skip (by kernel_rfl) ?_
            refine wpIf_skip (by kernel_rfl) ?_
            refine wpIf_skip (by kernel_rfl) ?_
            refine wpIf_skip (by kernel_rfl) ?_
            refine wpIf_skip (by kernel_rfl) ?_
            refine wpIf_skip (by kernel_rfl) ?_
            refine wpIf_skip (by kernel_rfl) ?_
            refine wpIf_nil (fun hS => ?_)
            clear hS
            refine wpAnyT_one 31 0 (by kernel_rfl) rfl (by kernel_rfl) (fun K hK => ?_)
            go_simp
            refine hK _ _ ⟨hA3, fun _ => trivial⟩ (fun hS => ?_)
            clear hK K hS
            refine wpAnyT_over (by kernel_rfl) ?_
            go_wp2
            go_ret
            exact ⟨ret_bool (by rw [HZ.out]; simp), hB3⟩
          | true =>
            rcases Nat.eq_zero_or_pos k with hk0 | hk0
            · have Hk0 : Hid (¬ (0 : Int) < (k : Int)) := Lib.hid (by omega)
              have HO' : Hid (∀ j, j < k + 1 → sbO ss j = true) := Lib.hid (fun j hj => by
                have : j = k := by omega
                subst this; rw [HK.out]; subst hk0; rfl)
              clear hk0
              go_wp2
              generalize wr.alloc (.cells #[.string U, .string T, .slice xa n xc] 43) = W at hB1 hx1 hF1 hG1 ⊢
              have hA2 : (fun w' => Box w' w.heap.size #[.slice (some ⟨b, off, none⟩) ss.length cap] 26 ∧ Box w' wr.heap.size #[.string U, .string T, .slice xa n xc] 43) W.drew := ⟨hF1, hG1⟩
              have hB2 := hB1.drew
              have hx2 := hx1.drew
              clear hB1 hx1 hF1 hG1 c0 c1 c2 f0
              refine wp_region_T (fun w' => Box w' w.heap.size #[.slice (some ⟨b, off, none⟩) ss.length cap] 26 ∧ Box w' wr.heap.size #[.string U, .string T, .slice xa n xc] 43) (fun _ => True) 31 (by kernel_rfl) 32 rfl ?_
              refine wpAnyT_takesA (md := .any) 30 (by kernel_rfl) (by intro d v c a w h; cases d <;> exact h) [0, 1] _ _ _ (by decide) (by kernel_rfl) ⟨hA2, fun _ => trivial⟩ ?_
              simp only [pick, List.filterMap_cons, List.filterMap_nil, List.getElem?_cons_zero, List.getElem?_cons_succ]
              refine wpIf_step (.pointer (some ⟨wr.heap.size, 0, none⟩)) (by kernel_rfl) (fun w hw => by go_simp) ?_
              refine wpIf_step (.string U) (by kernel_rfl) (fun w hw => by have e0 := hw.2.cell 0 _ rfl; have e1 := hw.2.cell 1 _ rfl; have e2 := hw.2.cell 2 _ rfl; go_simp) ?_
              refine wpIf_nil (fun hS => ?_)
              clear hS
              refine wpAnyT_one 2 29 (by kernel_rfl) rfl (by kernel_rfl) (fun K hK => ?_)
              go_simp
              refine (HN.out _).mono ?_
              rintro e v1 ⟨rfl, rfl⟩
              refine hK _ _ ⟨hA2, fun _ => trivial⟩ (fun hS => ?_)
              clear hK K hS
              refine wpAnyT_takesA (md := .any) 25 (by kernel_rfl) (by intro d v c a w h; cases d <;> exact h) [3, 4, 5, 6] _ _ _ (by decide) (by kernel_rfl) ⟨hA2, fun _ => trivial⟩ ?_
              simp only [pick, List.filterMap_cons, List.filterMap_nil, List.getElem?_cons_zero, List.getElem?_cons_succ]
              refine wpIf_step (.bool false) (by kernel_rfl) (fun w hw => by go_simp) ?_
              refine wpIf_step (.bool false) (by kernel_rfl) (fun w hw => by go_simp) ?_
              refine wpIf_step (.pointer (some ⟨wr.heap.size, 1, none⟩)) (by kernel_rfl) (fun w hw => by go_simp) ?_
              refine wpIf_step (.string T) (by kernel_rfl) (fun w hw => by have e0 := hw.2.cell 0 _ rfl; have e1 := hw.2.cell 1 _ rfl; have e2 := hw.2.cell 2 _ rfl; go_simp) ?_
              refine wpIf_nil (fun hS => ?_)
              clear hS
              refine wpAnyT_one 7 24 (by kernel_rfl) rfl (by kernel_rfl) (fun K hK => ?_)
              go_simp
              refine (HT.out _).mono ?_
              rintro e v1 ⟨rfl, rfl⟩
              refine hK _ _ ⟨hA2, fun _ => trivial⟩ (fun hS => ?_)
              clear hK K hS
              refine wpAnyT_takesA (md := .any) 19 (by kernel_rfl) (by intro d v c a w h; cases d <;> exact h) [8, 9, 10, 11, 12] _ _ _ (by decide) (by kernel_rfl) ⟨hA2, fun _ => trivial⟩ ?_
              simp only [pick, List.filterMap_cons, List.filterMap_nil, List.getElem?_cons_zero, List.getElem?_cons_succ]
              refine wpIf_step (.bool false) (by kernel_rfl) (fun w hw => by go_simp) ?_
              refine wpIf_step (.bool false) (by kernel_rfl) (fun w hw => by go_simp) ?_
              refine wpIf_step (.bool false) (by kernel_rfl) (fun w hw => by go_simp) ?_
              refine wpIf_step (.pointer (some ⟨wr.heap.size, 2, none⟩)) (by kernel_rfl) (fun w hw => by go_simp) ?_
              refine wpIf_step (.slice xa n xc) (by kernel_rfl) (fun w hw => by have e0 := hw.2.cell 0 _ rfl; have e1 := hw.2.cell 1 _ rfl; have e2 := hw.2.cell 2 _ rfl; go_simp) ?_
              refine wpIf_nil (fun hS => ?_)
              clear hS
              refine wpAnyT_one 13 18 (by kernel_rfl) rfl (by kernel_rfl) (fun K hK => ?_)
              go_simp
              refine (HC.out _ hx2).mono ?_
              rintro e v1 ⟨rfl, hb1⟩
              have hF3 := hA2.1.keep hb1 hA2.1.lt
              have hG3 := hA2.2.keep hb1 hA2.2.lt
              have hA3 : (fun w' => Box w' w.heap.size #[.slice (some ⟨b, off, none⟩) ss.length cap] 26 ∧ Box w' wr.heap.size #[.string U, .string T, .slice xa n xc] 43) v1 := ⟨hF3, hG3⟩
              have hB3 := hB2.trans (hb1.mono hB2.size)
              clear hb1 hB2 hA2 hx2
              refine hK _ _ ⟨hA3, fun _ => trivial⟩ (fun hS => ?_)
              clear hK K hS
              refine wpAnyT_takesA (md := .any) 1 (by kernel_rfl) (by intro d v c a w h; cases d <;> exact h) [14, 15, 16, 17, 18, 19, 20, 21, 22, 23, 24, 25, 26, 27, 28, 29, 30] _ _ _ (by decide) (by kernel_rfl) ⟨hA3, fun _ => trivial⟩ ?_
              simp only [pick, List.filterMap_cons, List.filterMap_nil, List.getElem?_cons_zero, List.getElem?_cons_succ]
              refine wpIf_step (.bool false) (by kernel_rfl) (fun w hw => by go_simp) ?_
              refine wpIf_step (.bool false) (by kernel_rfl) (fun w hw => by go_simp) ?_
              refine wpIf_step (.bool false) (by kernel_rfl) (fun w hw => by go_simp) ?_
              refine wpIf_step (.int .i64 (k : Int)) (by kernel_rfl) (fun w hw => by go_simp) ?_
              refine wpIf_step (.bool false) (by kernel_rfl) (fun w hw => by have hk0 := Hk0.out; go_simp; try omega) ?_
              refine wpIf_step (.bool false) (by kernel_rfl) (fun w hw => by go_simp) ?_
              refine wpIf_skip (by kernel_rfl) ?_
              refine wpIf_skip (by kernel_rfl) ?_
              refine wpIf_skip (by kernel_rfl) ?_
              refine wpIf_skip (by kernel_rfl) ?_
              refine wpIf_skip (by kernel_rfl) ?_
              refine wpIf_skip (by kernel_rfl) ?_
              refine wpIf_skip (by kernel_rfl) ?_
              refine wpIf_skip (by kernel_rfl) ?_
              refine wpIf_skip (by kernel_rfl) ?_
              refine wpIf_skip (by kernel_rfl) ?_
              refine wpIf_step (.bool false) (by kernel_rfl) (fun w hw => by go_simp) ?_
              refine wpIf_nil (fun hS => ?_)
              clear hS
              refine wpAnyT_one 31 0 (by kernel_rfl) rfl (by kernel_rfl) (fun K hK => ?_)
              go_simp
              refine hK _ _ ⟨hA3, fun _ => trivial⟩ (fun hS => ?_)
              clear hK K hS
              refine wpAnyT_over (by kernel_rfl) ?_
              go_wp2
              go_roundw
              case rel => exact ⟨k + 1, by omega, by go_num, hA3.1, hB3, HO'⟩
              case measure => simp [intOf]; omega
            · obtain ⟨q, hq⟩ : ∃ q, k = q + 1 := ⟨k - 1, by omega⟩
              obtain ⟨c4', hord⟩ := HP.out q hq
              have hql : q < ss.length := by omega
              obtain ⟨P, hP⟩ : ∃ P, P = ss[q].u := ⟨_, rfl⟩
              rw [← hP] at c4' hord
              have c4 := Hkc.out _ _ c4'
              obtain ⟨L, hL⟩ : ∃ L, L = Op.bytesLess P.toList U.toList := ⟨_, rfl⟩
              rw [← hL] at hord
              have HLO := Lib.hid hord
              have HL := Lib.hid hL.symm
              have Hk1 : Hid ((0 : Int) < (k : Int)) := Lib.hid (by omega)
              have Hk2 : Hid (IntKind.i64.wrap ((k : Int) - 1) = (q : Int)) := Lib.hid (by rw [hq]; simp; exact IntWalk.i64_in _ (by omega))
              clear hq hord hL hP hk0 c4'
              go_wp2
              generalize wr.alloc (.cells #[.string U, .string T, .slice xa n xc] 43) = W at hB1 hx1 hF1 hG1 c4 ⊢
              have hA2 : (fun w' => Box w' w.heap.size #[.slice (some ⟨b, off, none⟩) ss.length cap] 26 ∧ Box w' wr.heap.size #[.string U, .string T, .slice xa n xc] 43 ∧ w'.cell? ⟨b, off + q * 3, none⟩ = some (.string P)) W.drew := ⟨hF1, hG1, c4⟩
              have hB2 := hB1.drew
              have hx2 := hx1.drew
              clear hB1 hx1 hF1 hG1 c0 c1 c2 f0 c4
              refine wp_region_T (fun w' => Box w' w.heap.size #[.slice (some ⟨b, off, none⟩) ss.length cap] 26 ∧ Box w' wr.heap.size #[.string U, .string T, .slice xa n xc] 43 ∧ w'.cell? ⟨b, off + q * 3, none⟩ = some (.string P)) (fun _ => True) 31 (by kernel_rfl) 32 rfl ?_
              refine wpAnyT_takesA (md := .any) 30 (by kernel_rfl) (by intro d v c a w h; cases d <;> exact h) [0, 1] _ _ _ (by decide) (by kernel_rfl) ⟨hA2, fun _ => trivial⟩ ?_
              simp only [pick, List.filterMap_cons, List.filterMap_nil, List.getElem?_cons_zero, List.getElem?_cons_succ]
              refine wpIf_step (.pointer (some ⟨wr.heap.size, 0, none⟩)) (by kernel_rfl) (fun w hw => by go_simp) ?_
              refine wpIf_step (.string U) (by kernel_rfl) (fun w hw => by have e0 := hw.2.1.cell 0 _ rfl; have e1 := hw.2.1.cell 1 _ rfl; have e2 := hw.2.1.cell 2 _ rfl; go_simp) ?_
              refine wpIf_nil (fun hS => ?_)
              clear hS
              refine wpAnyT_one 2 29 (by kernel_rfl) rfl (by kernel_rfl) (fun K hK => ?_)
              go_simp
              refine (HN.out _).mono ?_
              rintro e v1 ⟨rfl, rfl⟩
              refine hK _ _ ⟨hA2, fun _ => trivial⟩ (fun hS => ?_)
              clear hK K hS
              refine wpAnyT_takesA (md := .any) 25 (by kernel_rfl) (by intro d v c a w h; cases d <;> exact h) [3, 4, 5, 6] _ _ _ (by decide) (by kernel_rfl) ⟨hA2, fun _ => trivial⟩ ?_
              simp only [pick, List.filterMap_cons, List.filterMap_nil, List.getElem?_cons_zero, List.getElem?_cons_succ]
              refine wpIf_step (.bool false) (by kernel_rfl) (fun w hw => by go_simp) ?_
              refine wpIf_step (.bool false) (by kernel_rfl) (fun w hw => by go_simp) ?_
              refine wpIf_step (.pointer (some ⟨wr.heap.size, 1, none⟩)) (by kernel_rfl) (fun w hw => by go_simp) ?_
              refine wpIf_step (.string T) (by kernel_rfl) (fun w hw => by have e0 := hw.2.1.cell 0 _ rfl; have e1 := hw.2.1.cell 1 _ rfl; have e2 := hw.2.1.cell 2 _ rfl; go_simp) ?_
              refine wpIf_nil (fun hS => ?_)
              clear hS
              refine wpAnyT_one 7 24 (by kernel_rfl) rfl (by kernel_rfl) (fun K hK => ?_)
              go_simp
              refine (HT.out _).mono ?_
              rintro e v1 ⟨rfl, rfl⟩
              refine hK _ _ ⟨hA2, fun _ => trivial⟩ (fun hS => ?_)
              clear hK K hS
              refine wpAnyT_takesA (md := .any) 19 (by kernel_rfl) (by intro d v c a w h; cases d <;> exact h) [8, 9, 10, 11, 12] _ _ _ (by decide) (by kernel_rfl) ⟨hA2, fun _ => trivial⟩ ?_
              simp only [pick, List.filterMap_cons, List.filterMap_nil, List.getElem?_cons_zero, List.getElem?_cons_succ]
              refine wpIf_step (.bool false) (by kernel_rfl) (fun w hw => by go_simp) ?_
              refine wpIf_step (.bool false) (by kernel_rfl) (fun w hw => by go_simp) ?_
              refine wpIf_step (.bool false) (by kernel_rfl) (fun w hw => by go_simp) ?_
              refine wpIf_step (.pointer (some ⟨wr.heap.size, 2, none⟩)) (by kernel_rfl) (fun w hw => by go_simp) ?_
              refine wpIf_step (.slice xa n xc) (by kernel_rfl) (fun w hw => by have e0 := hw.2.1.cell 0 _ rfl; have e1 := hw.2.1.cell 1 _ rfl; have e2 := hw.2.1.cell 2 _ rfl; go_simp) ?_
              refine wpIf_nil (fun hS => ?_)
              clear hS
              refine wpAnyT_one 13 18 (by kernel_rfl) rfl (by kernel_rfl) (fun K hK => ?_)
              go_simp
              refine (HC.out _ hx2).mono ?_
              rintro e v1 ⟨rfl, hb1⟩
              have hF3 := hA2.1.keep hb1 hA2.1.lt
              have hG3 := hA2.2.1.keep hb1 hA2.2.1.lt
              have c5 : v1.cell? ⟨b, off + q * 3, none⟩ = some (.string P) := by rw [hb1.cell (p := ⟨b, off + q * 3, none⟩) (show b < W.drew.heap.size by have := hB2.size; omega)]; exact hA2.2.2
              have hA3 : (fun w' => Box w' w.heap.size #[.slice (some ⟨b, off, none⟩) ss.length cap] 26 ∧ Box w' wr.heap.size #[.string U, .string T, .slice xa n xc] 43 ∧ w'.cell? ⟨b, off + q * 3, none⟩ = some (.string P)) v1 := ⟨hF3, hG3, c5⟩
              have hB3 := hB2.trans (hb1.mono hB2.size)
              clear hb1 hB2 hA2 hx2
              refine hK _ _ ⟨hA3, fun _ => trivial⟩ (fun hS => ?_)
              clear hK K hS
              refine wpAnyT_takesA (md := .any) 1 (by kernel_rfl) (by intro d v c a w h; cases d <;> exact h) [14, 15, 16, 17, 18, 19, 20, 21, 22, 23, 24, 25, 26, 27, 28, 29, 30] _ _ _ (by decide) (by kernel_rfl) ⟨hA3, fun _ => trivial⟩ ?_
              simp only [pick, List.filterMap_cons, List.filterMap_nil, List.getElem?_cons_zero, List.getElem?_cons_succ]
              refine wpIf_step (.bool false) (by kernel_rfl) (fun w hw => by go_simp) ?_
              refine wpIf_step (.bool false) (by kernel_rfl) (fun w hw => by go_simp) ?_
              refine wpIf_step (.bool false) (by kernel_rfl) (fun w hw => by go_simp) ?_
              refine wpIf_step (.int .i64 (k : Int)) (by kernel_rfl) (fun w hw => by go_simp) ?_
              refine wpIf_step (.bool true) (by kernel_rfl) (fun w hw => by have hk0 := Hk1.out; go_simp; try omega) ?_
              refine wpIf_step (.bool true) (by kernel_rfl) (fun w hw => by go_simp) ?_
              refine wpIf_step (.pointer (some ⟨w.heap.size, 0, none⟩)) (by kernel_rfl) (fun w hw => by go_simp) ?_
              refine wpIf_step (.slice (some ⟨b, off, none⟩) ss.length cap) (by kernel_rfl) (fun w hw => by have e0 := hw.1.cell 0 _ rfl; go_simp) ?_
              refine wpIf_step (.int .i64 (k : Int)) (by kernel_rfl) (fun w hw => by go_simp) ?_
              refine wpIf_step (.int .i64 (q : Int)) (by kernel_rfl) (fun w hw => by have hk2 := Hk2.out; go_simp) ?_
              refine wpIf_step (.pointer (some ⟨b, off + q * 3, none⟩)) (by kernel_rfl) (fun w hw => by go_simp) ?_
              refine wpIf_step (.pointer (some ⟨b, off + q * 3, none⟩)) (by kernel_rfl) (fun w hw => by go_simp) ?_
              refine wpIf_step (.string P) (by kernel_rfl) (fun w hw => by have e4 := hw.2.2; go_simp) ?_
              refine wpIf_step (.pointer (some ⟨wr.heap.size, 0, none⟩)) (by kernel_rfl) (fun w hw => by go_simp) ?_
              refine wpIf_step (.string U) (by kernel_rfl) (fun w hw => by have e0 := hw.2.1.cell 0 _ rfl; have e1 := hw.2.1.cell 1 _ rfl; have e2 := hw.2.1.cell 2 _ rfl; go_simp) ?_
              refine wpIf_step (.bool (!L)) (by kernel_rfl) (fun w hw => by have hL := HL.out; go_simp) ?_
              refine wpIf_step (.bool (!L)) (by kernel_rfl) (fun w hw => by go_simp) ?_
              refine wpIf_nil (fun hS => ?_)
              clear hS
              refine wpAnyT_one 31 0 (by kernel_rfl) rfl (by kernel_rfl) (fun K hK => ?_)
              go_simp
              refine hK _ _ ⟨hA3, fun _ => trivial⟩ (fun hS => ?_)
              clear hK K hS
              refine wpAnyT_over (by kernel_rfl) ?_
              cases L with
              | false =>
                have HZ : Hid (R0 = false) := Lib.hid (HX.out k hlt (by rw [HK.out, HLO.out]; rfl))
                go_wp2
                go_ret
                exact ⟨ret_bool (by rw [HZ.out]; simp), hB3⟩
              | true =>
                have HO' : Hid (∀ j, j < k + 1 → sbO ss j = true) := Lib.hid (fun j hj => by
                  by_cases hjk : j = k
                  · subst hjk; rw [HK.out, HLO.out]; rfl
                  · exact HO.out j (by omega))
                go_wp2
                go_roundw
                case rel => exact ⟨k + 1, by omega, by go_num, hA3.1, hB3, HO'⟩
                case measure => simp [intOf]; omega
    · have HZ : Hid (R0 = true) := Lib.hid (HD.out k hlt HO.out)
      by_cases h6 : ss.length ≤ 6
      · have h6' : decide ((ss.length : Int) ≤ 6) = true := decide_eq_true (by omega)
        go_wp2
        go_ret
        exact ⟨ret_bool (by rw [HZ.out]; simp [h6]), hB⟩
      · have h6' : decide ((ss.length : Int) ≤ 6) = false := decide_eq_false (by omega)
        go_wp2
        go_ret
        exact ⟨ret_bool (by rw [HZ.out]; simp [h6]), hB⟩
end Go.Proofs.Ytffkakpbelknaaa

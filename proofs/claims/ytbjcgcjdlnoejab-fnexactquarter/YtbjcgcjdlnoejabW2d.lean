/- Marks laid into a row, and what else is kept. -/
import Derived.Test.YtbjcgcjdlnoejabW1e
namespace Go.Proofs.Ytbjcgcjdlnoejab
open Go.ChangeShapes Go.WideShapes Go.ChangeAt Go.RowKit
set_option linter.unusedVariables false

theorem OwnK.blockLt {e : TypeId} {k : IntKind} {w : World} {base : Nat} {v : Value} {zs : List Int} (h : OwnK e k w base v zs) : ∀ b, v.ownBlock = some b → b < w.heap.size := by
  intro b hb
  rcases h.2 with ⟨rfl, _⟩ | ⟨g, cap, cur, rfl, _, hh, _⟩
  · cases hb
  · have : g = b := by simpa [Value.ownBlock] using hb
    subst this
    rcases Nat.lt_or_ge g w.heap.size with hlt | hge
    · exact hlt
    · rw [Array.getElem?_eq_none hge] at hh; cases hh

/-- A row from 'base' on is kept where only a block below 'base' was written. -/
theorem OwnK.keepBy {e : TypeId} {k : IntKind} {w w' : World} {base : Nat} {v : Value} {zs : List Int} {o : Option Nat} (h : OwnK e k w base v zs) (hg : w.grownBy w' o) (ho : ∀ b, o = some b → b < base) : OwnK e k w' base v zs := by
  refine ⟨h.1, ?_⟩
  rcases h.2 with h2 | ⟨g, cap, cur, hv, hgb, hh, r⟩
  · exact .inl h2
  · have hlt : g < w.heap.size := by
      rcases Nat.lt_or_ge g w.heap.size with hlt | hge
      · exact hlt
      · rw [Array.getElem?_eq_none hge] at hh; cases hh
    refine .inr ⟨g, cap, cur, hv, hgb, ?_, r⟩
    rw [hg.block g hlt ?_]
    · exact hh
    · intro e1
      have := ho g e1.symm
      omega

theorem grown_set1 (w w1 : World) (b o : Nat) (u : Value) (h : w.grownBy w1 (some b)) : w.grownBy (w1.setCell ⟨b, o, none⟩ u) (some b) :=
  ⟨h.os, h.tape, h.output, by simpa [World.setCell] using h.size, fun k hk hn => (Below.heap_setCell _ _ _ _ (fun e => hn (by rw [e]))).trans (h.block k hk hn)⟩

set_option maxHeartbeats 800000 in
theorem markInts_by (v : Value) (xs : List Int) (base : Nat) (m : Int) (w : World) (h : OwnK 2 .i64 w base v xs) (hm0 : 0 ≤ m) (hm1 : m ≤ 100000000) (hn : xs.length ≤ 100000000) :
    Calls Try.prog 23 #[v, .int .i64 m] w fun e w' => e = .returned (.int .i64 (m + xs.length)) ∧ OwnK 2 .i64 w' base v (marks m xs.length) ∧ Below base w w' ∧ w.grownBy w' v.ownBlock := by
  by_cases hnil : xs = []
  · subst hnil
    obtain ⟨a, cap, rfl, hl, hm, hc⟩ := h.row
    unfold maxLen at hm
    clear hc
    have h' := h
    have H := Lib.hid h'
    clear h h'
    go_enter Try.func23, Try.ntmps23
    go_wp2
    refine wp_loop_rounds 1 ?_
    rw [rounds_succ]
    go_wp2
    go_ret
    exact ⟨ret_int (by simp), H.out, Below.refl _ _, World.grownBy.refl _ _⟩
  · obtain ⟨g, cap, rfl, hbg, hlt, hfz⟩ := h.form hnil
    have hmx := h.len
    unfold maxLen at hmx
    clear hfz
    have HG : Hid (w.grownBy w (some g)) := Lib.hid (World.grownBy.refl _ _)
    go_enter Try.func23, Try.ntmps23
    go_wp2
    go_loopw [1, 5] (fun c i wr => ∃ k : Nat, k ≤ xs.length ∧ i = .int .i64 k ∧ c = .int .i64 (m + k) ∧ OwnK 2 .i64 wr base (.slice (some ⟨g, 0, none⟩) xs.length cap) (marks m k ++ xs.drop k) ∧ Below base w wr ∧ Hid (w.grownBy wr (some g)))
      (fun _ i _ => xs.length - (intOf i).toNat)
    case atStart => exact ⟨0, Nat.zero_le _, rfl, by simp, by simpa [marks] using h, Below.refl _ _, HG⟩
    case round =>
      obtain ⟨k, hk, rfl, rfl, hown, hbel, hgr⟩ := hrel
      clear h
      by_cases hlt : k < xs.length
      · have hlen : (marks m k ++ xs.drop k).length = xs.length := by simp [marks_len]; omega
        have hf := hown.free hlen.symm k
        obtain ⟨u, hcl⟩ := hown.cell hlen.symm k hlt
        have hown2 := hown.set hlen.symm k (m + k)
        rw [marks_set m xs k hlt] at hown2
        have hb2 := hbel.setCell (p := ⟨g, k, none⟩) hbg (.int .i64 (m + k))
        have hg2 := Lib.hid (grown_set1 _ _ g k (.int .i64 (m + k)) hgr.out)
        clear hown hlen
        go_wp2
        go_roundw
        case rel => exact ⟨k + 1, by omega, by go_num, by simp; omega, hown2, hb2, hg2⟩
        case measure => simp [intOf]; omega
      · go_wp2
        go_ret
        have : k = xs.length := by omega
        subst this
        simp only [List.drop_length, List.append_nil] at hown
        exact ⟨rfl, hown, hbel, hgr.out⟩
end Go.Proofs.Ytbjcgcjdlnoejab

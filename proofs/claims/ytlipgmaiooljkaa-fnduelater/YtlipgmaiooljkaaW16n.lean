/- Rows of polls and of texts: what the laws make of them. -/
import Derived.Test.YtlipgmaiooljkaaW16m
import Derived.Test.YtlipgmaiooljkaaW16g
import Derived.Test.YtlipgmaiooljkaaMarkP
namespace Go.Proofs.Ytlipgmaiooljkaa
open Go.ChangeShapes Go.WideShapes Go.ChangeAt Go.RowKit
set_option linter.unusedVariables false
set_option linter.unusedSimpArgs false

abbrev pkZ : PollD := ⟨ByteArray.empty, ByteArray.empty, 0, 0, 0, false⟩
theorem pkL_len (p : PollD) : (pkL p).length = 6 := rfl
theorem Try.infoPoll : (Try.prog.info? 23).map (fun i => (i.zero, i.size, i.bytes)) = some (some (.agg #[.string ByteArray.empty, .string ByteArray.empty, .int .i64 0, .int .i64 0, .int .i64 0, .bool false]), 6, 64) := by kernel_rfl

set_option maxRecDepth 100000 in
set_option maxHeartbeats 1600000 in
theorem szPollS_any (v : Value) (ps : List PollD) (n : Int) (w : World) (h : PksAt w w.heap.size v ps) (h0 : 0 ≤ n) (h1 : n ≤ 1048576) :
    Calls Try.prog 23 #[v, .int .i64 n] w fun e w' => ∃ r : Int, e = .returned (.int .i64 r) ∧ -1 ≤ r ∧ (0 ≤ r → (ps.length : Int) ≤ n) ∧ Below w.heap.size w w' := by
  have HI := Lib.hid h
  obtain ⟨a, cap, rfl, hl, hm, _⟩ := h.1
  unfold maxLen at hm
  clear h
  by_cases h2 : n - ps.length < 0
  · go_enter Try.func23, Try.ntmps23
    go_wp2
    go_ret
    exact ⟨-1, rfl, by omega, by omega, Below.refl _ _⟩
  · go_enter Try.func23, Try.ntmps23
    go_wp2
    go_loopw [1, 5] (fun r i wr => ∃ (k : Nat) (x : Int), k ≤ ps.length ∧ i = .int .i64 (k : Int) ∧ r = .int .i64 x ∧ 0 ≤ x ∧ x ≤ n ∧ Below w.heap.size w wr) (fun _ i _ => ps.length - (intOf i).toNat)
    case atStart => exact ⟨0, n - ps.length, Nat.zero_le _, rfl, rfl, by omega, by omega, Below.refl _ _⟩
    case round =>
      obtain ⟨k, x, hk, rfl, rfl, hx0, hx1, hB⟩ := hrel
      by_cases hlt : k < ps.length
      · obtain ⟨b, off, cap2, hv, hb, c0, c1, c2, c3, c4, c5⟩ := (HI.out.below hB).at k hlt
        cases hv
        have HC := Lib.hid (fun w => szPoll_any ps[k] x w (HI.out.2 _ (List.getElem_mem hlt)) hx0 (by omega))
        obtain ⟨q, hq⟩ : ∃ q, q = ps[k] := ⟨_, rfl⟩
        rw [← hq] at c0 c1 c2 c3 c4 c5 HC
        obtain ⟨u, m, nn, wt, f, g⟩ := q
        dsimp only at c0 c1 c2 c3 c4 c5
        clear hq
        go_wp2_with fail
        refine (HC.out _).mono ?_
        rintro e w1 ⟨y, rfl, hy0, hy1, hb1⟩
        have hB1 := hB.trans (hb1.mono hB.size)
        clear hb1 hB HC c0 c1 c2 c3 c4 c5
        by_cases hy : y < 0
        · go_wp2
          go_ret
          exact ⟨-1, rfl, by omega, by omega, hB1⟩
        · go_wp2
          go_roundw
          case rel => exact ⟨k + 1, y, by omega, by go_num, rfl, by omega, by omega, hB1⟩
          case measure => simp [intOf]; omega
      · go_wp2
        go_ret
        exact ⟨x, rfl, by omega, by omega, hB⟩

set_option maxRecDepth 100000 in
set_option maxHeartbeats 1600000 in
theorem toPollS_any (v : Value) (ps : List PollD) (w : World) (h : PksAt w w.heap.size v ps) (hn : ps.length ≤ 1048576) :
    Calls Try.prog 25 #[v] w (OutR 23 6 pkL ps w) := by
  have HI := Lib.hid h
  obtain ⟨a, cap, rfl, hl, hm, _⟩ := h.1
  unfold maxLen at hm
  clear h
  go_enter Try.func25, Try.ntmps25
  go_wp2_with (at_make; refine wpList_fullR (z := pkZ) pkL_len (by decide) Try.underlying44 Try.infoPoll rfl (by decide) rfl _ _ rfl w.heap.size .i64 .i64 ps.length rfl rfl (by omega) (Nat.le_refl _) ?_; intro w0 hown0 hb0)
  go_loopw [4] (fun i wr => ∃ k : Nat, k ≤ ps.length ∧ i = .int .i64 k ∧ OwnR 23 6 pkL wr w.heap.size (.slice (some ⟨w.heap.size, 0, none⟩) ps.length ps.length) (ps.take k ++ List.replicate (ps.length - k) pkZ) ∧ Below w.heap.size w wr)
    (fun i _ => ps.length - (intOf i).toNat)
  case atStart => exact ⟨0, Nat.zero_le _, rfl, by simpa using hown0, hb0⟩
  case round =>
    obtain ⟨k, hk, rfl, hown, hbel⟩ := hrel
    clear hown0 hb0
    by_cases hlt : k < ps.length
    · obtain ⟨b, off, cap2, hv, hb, c0, c1, c2, c3, c4, c5⟩ := (HI.out.below hbel).at k hlt
      cases hv
      have HC := Lib.hid (fun w => toPoll_any ps[k] w)
      have HP : Hid (∀ w', OwnR 23 6 pkL w' w.heap.size (.slice (some ⟨w.heap.size, 0, none⟩) ps.length ps.length) (ps.take k ++ List.replicate (ps.length - k) pkZ) → OwnR 23 6 pkL (putRow w.heap.size (k * 6) (pkL ps[k]) w') w.heap.size (.slice (some ⟨w.heap.size, 0, none⟩) ps.length ps.length) (ps.take (k + 1) ++ List.replicate (ps.length - (k + 1)) pkZ)) := Lib.hid (fun w' h => by
        rw [← set_copyR ps pkZ k hlt]
        exact h.put pkL_len (by simp; omega) k ps[k] (by simp; omega))
      have HQ : Hid (∀ w', Below w.heap.size w w' → Below w.heap.size w (putRow w.heap.size (k * 6) (pkL ps[k]) w')) := Lib.hid (fun w' h => putRow_below (Nat.le_refl _) _ _ _ _ h)
      unfold pkL at HP HQ
      simp only [putRow] at HP HQ
      obtain ⟨q, hq⟩ : ∃ q, q = ps[k] := ⟨_, rfl⟩
      rw [← hq] at c0 c1 c2 c3 c4 c5 HC HP HQ
      obtain ⟨u, m, nn, wt, f, g⟩ := q
      dsimp only at c0 c1 c2 c3 c4 c5 HP HQ
      have HOw := Lib.hid hown
      clear hq hown
      go_wp2_with fail
      refine (HC.out _).mono ?_
      rintro e w1 ⟨rfl, hb1⟩
      have hown1 := HOw.out.keep hb1 (Nat.le_refl _)
      have hbel1 := hbel.trans (hb1.mono hbel.size)
      have hfr : ∀ j, w1.frozen? ⟨w.heap.size, j, none⟩ = false := fun j => hown1.free (by simp; omega) j
      obtain ⟨x0, d0⟩ := hown1.cell pkL_len (by simp; omega) k 0 hlt (by decide)
      obtain ⟨x1, d1⟩ := hown1.cell pkL_len (by simp; omega) k 1 hlt (by decide)
      obtain ⟨x2, d2⟩ := hown1.cell pkL_len (by simp; omega) k 2 hlt (by decide)
      obtain ⟨x3, d3⟩ := hown1.cell pkL_len (by simp; omega) k 3 hlt (by decide)
      obtain ⟨x4, d4⟩ := hown1.cell pkL_len (by simp; omega) k 4 hlt (by decide)
      obtain ⟨x5, d5⟩ := hown1.cell pkL_len (by simp; omega) k 5 hlt (by decide)
      rw [Nat.add_zero] at d0
      have HO1 := Lib.hid hown1
      clear hown1 HOw hb1 hbel c0 c1 c2 c3 c4 c5
      go_wp2
      refine ⟨⟨k + 1, by omega, by simp, HP.out _ HO1.out, HQ.out _ hbel1⟩, ?_⟩
      simp [intOf]; omega
    · go_wp2
      go_ret
      have : k = ps.length := by omega
      subst this
      simp only [List.take_length, Nat.sub_self, List.replicate_zero, List.append_nil] at hown
      exact ⟨_, rfl, hown, hbel⟩

set_option maxRecDepth 100000 in
set_option maxHeartbeats 1600000 in
theorem eqPollS_same (v v' : Value) (ps : List PollD) (w : World) (h : PksAt w w.heap.size v ps) (h' : PksAt w w.heap.size v' ps) :
    Calls Try.prog 28 #[v, v'] w fun e w' => e = .returned (.bool true) ∧ Below w.heap.size w w' := by
  have HI := Lib.hid h
  have HJ := Lib.hid h'
  obtain ⟨a, cap, rfl, hl, hm, _⟩ := h.1
  obtain ⟨a2, cap2, rfl, hl2, hm2, _⟩ := h'.1
  unfold maxLen at hm hm2
  clear h h'
  go_enter Try.func28, Try.ntmps28
  go_wp2
  go_loopw [5] (fun i wr => ∃ k : Nat, k ≤ ps.length ∧ i = .int .i64 k ∧ Below w.heap.size w wr) (fun i _ => ps.length - (intOf i).toNat)
  case atStart => exact ⟨0, Nat.zero_le _, rfl, Below.refl _ _⟩
  case round =>
    obtain ⟨k, hk, rfl, hbel⟩ := hrel
    by_cases hlt : k < ps.length
    · obtain ⟨b, off, cap3, hv, hb, c0, c1, c2, c3, c4, c5⟩ := (HI.out.below hbel).at k hlt
      cases hv
      obtain ⟨b2, off2, cap4, hv2, hb2, g0, g1, g2, g3, g4, g5⟩ := (HJ.out.below hbel).at k hlt
      cases hv2
      have HC := Lib.hid (fun w => eqPoll_same ps[k] w)
      obtain ⟨q, hq⟩ : ∃ q, q = ps[k] := ⟨_, rfl⟩
      rw [← hq] at c0 c1 c2 c3 c4 c5 g0 g1 g2 g3 g4 g5 HC
      obtain ⟨u, m, nn, wt, f, g⟩ := q
      dsimp only at c0 c1 c2 c3 c4 c5 g0 g1 g2 g3 g4 g5
      clear hq
      go_wp2
      refine wp_region_T (fun w' => (w'.cell? ⟨b, off + k * 6, none⟩ = some (.string u) ∧ w'.cell? ⟨b, off + k * 6 + 1, none⟩ = some (.string m) ∧ w'.cell? ⟨b, off + k * 6 + 2, none⟩ = some (.int .i64 nn) ∧ w'.cell? ⟨b, off + k * 6 + 3, none⟩ = some (.int .i64 wt) ∧ w'.cell? ⟨b, off + k * 6 + 4, none⟩ = some (.int .i64 f) ∧ w'.cell? ⟨b, off + k * 6 + 5, none⟩ = some (.bool g)) ∧ w'.cell? ⟨b2, off2 + k * 6, none⟩ = some (.string u) ∧ w'.cell? ⟨b2, off2 + k * 6 + 1, none⟩ = some (.string m) ∧ w'.cell? ⟨b2, off2 + k * 6 + 2, none⟩ = some (.int .i64 nn) ∧ w'.cell? ⟨b2, off2 + k * 6 + 3, none⟩ = some (.int .i64 wt) ∧ w'.cell? ⟨b2, off2 + k * 6 + 4, none⟩ = some (.int .i64 f) ∧ w'.cell? ⟨b2, off2 + k * 6 + 5, none⟩ = some (.bool g)) (fun _ => True) 9 (by kernel_rfl) 10 rfl ?_
      refine wpAnyT_takesA (md := .any) 2 (by kernel_rfl) (by intro d v c a w h; cases d <;> exact h) [0, 1, 2, 3, 4, 5, 6, 7] _ _ _ (by decide) (by kernel_rfl) ⟨⟨⟨c0, c1, c2, c3, c4, c5⟩, g0, g1, g2, g3, g4, g5⟩, fun _ => trivial⟩ ?_
      simp only [pick, List.filterMap_cons, List.filterMap_nil, List.getElem?_cons_zero, List.getElem?_cons_succ]
      refine wpIf_step (.slice (some ⟨b, off, none⟩) ps.length cap) (by kernel_rfl) (fun w hw => by go_simp) ?_
      refine wpIf_step (.int .i64 (k : Int)) (by kernel_rfl) (fun w hw => by go_simp) ?_
      refine wpIf_step (.pointer (some ⟨b, off + k * 6, none⟩)) (by kernel_rfl) (fun w hw => by go_simp) ?_
      refine wpIf_step (.agg #[.string u, .string m, .int .i64 nn, .int .i64 wt, .int .i64 f, .bool g]) (by kernel_rfl) (fun w hw => by obtain ⟨⟨e0, e1, e2, e3, e4, e5⟩, _⟩ := hw; go_simp) ?_
      refine wpIf_step (.slice (some ⟨b2, off2, none⟩) ps.length cap2) (by kernel_rfl) (fun w hw => by go_simp) ?_
      refine wpIf_step (.int .i64 (k : Int)) (by kernel_rfl) (fun w hw => by go_simp) ?_
      refine wpIf_step (.pointer (some ⟨b2, off2 + k * 6, none⟩)) (by kernel_rfl) (fun w hw => by go_simp) ?_
      refine wpIf_step (.agg #[.string u, .string m, .int .i64 nn, .int .i64 wt, .int .i64 f, .bool g]) (by kernel_rfl) (fun w hw => by obtain ⟨_, e0, e1, e2, e3, e4, e5⟩ := hw; go_simp) ?_
      refine wpIf_nil (fun hS => ?_)
      refine wpAnyT_one 8 1 (by kernel_rfl) rfl (by kernel_rfl) (fun K hK => ?_)
      go_simp
      refine (HC.out _).mono ?_
      rintro e w1 ⟨rfl, hb1⟩
      have hbel1 := hbel.drew.trans (hb1.mono hbel.size)
      have hbl : b < wr.drew.heap.size := by have := hbel.size; show b < wr.heap.size; omega
      have hbl2 : b2 < wr.drew.heap.size := by have := hbel.size; show b2 < wr.heap.size; omega
      have hkc : ∀ b o x, b < wr.drew.heap.size → wr.drew.cell? ⟨b, o, none⟩ = some x → w1.cell? ⟨b, o, none⟩ = some x := fun b o x hb hx => by rw [hb1.cell (p := ⟨b, o, none⟩) hb]; exact hx
      refine hK _ _ ⟨⟨⟨hkc _ _ _ hbl c0, hkc _ _ _ hbl c1, hkc _ _ _ hbl c2, hkc _ _ _ hbl c3, hkc _ _ _ hbl c4, hkc _ _ _ hbl c5⟩, hkc _ _ _ hbl2 g0, hkc _ _ _ hbl2 g1, hkc _ _ _ hbl2 g2, hkc _ _ _ hbl2 g3, hkc _ _ _ hbl2 g4, hkc _ _ _ hbl2 g5⟩, fun _ => trivial⟩ (fun hS3 => ?_)
      clear hK K hS hb1 hbel c0 c1 c2 c3 c4 c5 g0 g1 g2 g3 g4 g5 hkc hbl hbl2
      refine wpAnyT_one 9 0 (by kernel_rfl) rfl (by kernel_rfl) (fun K hK => ?_)
      go_simp
      refine hK _ _ ⟨hS3.1, fun _ => trivial⟩ (fun hS4 => ?_)
      clear hK K hS3
      refine wpAnyT_over (by kernel_rfl) ?_
      go_wp2
      go_roundw
      case rel => exact ⟨k + 1, by omega, by go_num, hbel1⟩
      case measure => simp [intOf]; omega
    · go_wp2
      go_ret
      exact ⟨rfl, hbel⟩
end Go.Proofs.Ytlipgmaiooljkaa

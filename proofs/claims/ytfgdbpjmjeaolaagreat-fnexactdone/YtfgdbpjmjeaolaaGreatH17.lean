/- Joined: W8m. -/
import Derived.Laws.ResultCell
import Derived.Test.YtfgdbpjmjeaolaaGreatH13
/- W8m -/
namespace Go.Proofs.YtfgdbpjmjeaolaaGreat
open Go.ChangeShapes Go.WideShapes Go.ChangeAt Go.RowKit
set_option linter.unusedVariables false

theorem Tryz.infoItem : (Tryz.prog.info? 83).map (fun i => (i.zero, i.size, i.bytes)) = some (some (.agg #[.string ByteArray.empty, .string ByteArray.empty, .int .i64 0]), 3, 40) := by kernel_rfl

abbrev it0 : It := ⟨ByteArray.empty, ByteArray.empty, 0⟩
theorem ItAt.of_own {e : TypeId} {w : World} {base : Nat} {v : Value} {its : List It} (h : OwnR e 3 itC w base v its) (hs : ∀ x ∈ its, x.id.size ≤ maxLen ∧ x.ti.size ≤ maxLen) : ItAt w w.heap.size v its := ⟨h.at itC_len, hs⟩

set_option maxHeartbeats 1600000 in
theorem toItem_any (s t : ByteArray) (d : Int) (w : World) :
    Calls Tryz.prog 77 #[itV s t d] w fun e w' => e = .returned (itV s t d) ∧ Below w.heap.size w w' := by
  go_enter Tryz.func77, Tryz.ntmps77
  go_wp2
  exact bodyPost_ret (v := itV s t d) (by simp [results, Tryz.results77, go_sem]) rfl ⟨rfl, (((Below.refl _ _).alloc (Nat.le_refl _) _).alloc (by simp) _).alloc (by simp; omega) _⟩

set_option maxHeartbeats 1600000 in
theorem eqItem_same (s t : ByteArray) (d : Int) (w : World) :
    Calls Tryz.prog 92 #[itV s t d, itV s t d] w fun e w' => e = .returned (.bool true) ∧ Below w.heap.size w w' := by
  go_enter Tryz.func92, Tryz.ntmps92
  go_wp2
  go_ret
  exact ⟨rfl, ((Below.refl _ _).alloc (Nat.le_refl _) _).alloc (by simp) _⟩

set_option maxRecDepth 100000 in
set_option maxHeartbeats 1600000 in
theorem toItemS_any (v : Value) (its : List It) (w : World) (h : ItAt w w.heap.size v its) (hn : its.length ≤ 1048576) :
    Calls Tryz.prog 48 #[v] w (OutR 83 3 itC its w) := by
  have HI := Lib.hid h
  obtain ⟨a, cap, rfl, hl, hm, hc⟩ := h.raw
  unfold maxLen at hm
  clear hc h
  go_enter Tryz.func48, Tryz.ntmps48
  go_wp2_with (at_make; refine wpList_fullR (z := it0) itC_len (by decide) Tryz.underlying38 Tryz.infoItem rfl (by decide) rfl _ _ rfl w.heap.size .i64 .i64 its.length rfl rfl (by omega) (Nat.le_refl _) ?_; intro w0 hown0 hb0)
  go_loopw [4] (fun i wr => ∃ k : Nat, k ≤ its.length ∧ i = .int .i64 k ∧ OwnR 83 3 itC wr w.heap.size (.slice (some ⟨w.heap.size, 0, none⟩) its.length its.length) (its.take k ++ List.replicate (its.length - k) it0) ∧ Below w.heap.size w wr)
    (fun i _ => its.length - (intOf i).toNat)
  case atStart => exact ⟨0, Nat.zero_le _, rfl, by simpa using hown0, hb0⟩
  case round =>
    obtain ⟨k, hk, rfl, hown, hbel⟩ := hrel
    clear hown0 hb0
    by_cases hlt : k < its.length
    · obtain ⟨a', cap', hv, _, _, hc⟩ := (HI.out.below hbel).raw
      cases hv
      obtain ⟨b, off, rfl, hb, hr⟩ := hc k hlt
      obtain ⟨c0, c1, c2, s0, s1⟩ := hr k hlt
      have HC := Lib.hid (fun w => toItem_any its[k].id its[k].ti its[k].da w)
      have HP : Hid (∀ w', OwnR 83 3 itC w' w.heap.size (.slice (some ⟨w.heap.size, 0, none⟩) its.length its.length) (its.take k ++ List.replicate (its.length - k) it0) → OwnR 83 3 itC (putRow w.heap.size (k * 3) (itC its[k]) w') w.heap.size (.slice (some ⟨w.heap.size, 0, none⟩) its.length its.length) (its.take (k + 1) ++ List.replicate (its.length - (k + 1)) it0)) := Lib.hid (fun w' h => by
        rw [← set_copyR its it0 k hlt]
        exact h.put itC_len (by simp; omega) k its[k] (by simp; omega))
      have HQ : Hid (∀ w', Below w.heap.size w w' → Below w.heap.size w (putRow w.heap.size (k * 3) (itC its[k]) w')) := Lib.hid (fun w' h => putRow_below (Nat.le_refl _) _ _ _ _ h)
      unfold itC at HP HQ
      simp only [putRow] at HP HQ
      obtain ⟨S, hS⟩ : ∃ S, S = its[k].id := ⟨_, rfl⟩
      obtain ⟨T, hT⟩ : ∃ T, T = its[k].ti := ⟨_, rfl⟩
      obtain ⟨D, hD⟩ : ∃ D, D = its[k].da := ⟨_, rfl⟩
      rw [← hS] at c0 HC HP HQ
      rw [← hT] at c1 HC HP HQ
      rw [← hD] at c2 HC HP HQ
      have HOw := Lib.hid hown
      clear hr hc hS hT hD s0 s1 hown
      go_wp2_with fail
      refine (HC.out _).mono ?_
      rintro e w1 ⟨rfl, hb1⟩
      have hown1 := HOw.out.keep hb1 (Nat.le_refl _)
      have hbel1 := hbel.trans (hb1.mono hbel.size)
      have hfr : ∀ j, w1.frozen? ⟨w.heap.size, j, none⟩ = false := fun j => hown1.free (by simp; omega) j
      obtain ⟨x0, d0⟩ := hown1.cell itC_len (by simp; omega) k 0 hlt (by decide)
      obtain ⟨x1, d1⟩ := hown1.cell itC_len (by simp; omega) k 1 hlt (by decide)
      obtain ⟨x2, d2⟩ := hown1.cell itC_len (by simp; omega) k 2 hlt (by decide)
      rw [Nat.add_zero] at d0
      have HO1 := Lib.hid hown1
      clear hown1 HOw hb1 hbel c0 c1 c2
      go_wp2
      refine ⟨⟨k + 1, by omega, by simp, HP.out _ HO1.out, HQ.out _ hbel1⟩, ?_⟩
      simp [intOf]; omega
    · go_wp2
      go_ret
      have : k = its.length := by omega
      subst this
      simp only [List.take_length, Nat.sub_self, List.replicate_zero, List.append_nil] at hown
      exact ⟨_, rfl, hown, hbel⟩

set_option maxRecDepth 100000 in
set_option maxHeartbeats 1600000 in
theorem eqItemS_same (v v' : Value) (its : List It) (w : World) (h : ItAt w w.heap.size v its) (h' : ItAt w w.heap.size v' its) :
    Calls Tryz.prog 66 #[v, v'] w fun e w' => e = .returned (.bool true) ∧ Below w.heap.size w w' := by
  have HI := Lib.hid h
  have HJ := Lib.hid h'
  obtain ⟨a, cap, rfl, hl, hm, hc⟩ := h.raw
  obtain ⟨a2, cap2, rfl, hl2, hm2, hc2⟩ := h'.raw
  unfold maxLen at hm hm2
  clear hc h hc2 h'
  go_enter Tryz.func66, Tryz.ntmps66
  go_wp2
  go_loopw [5] (fun i wr => ∃ k : Nat, k ≤ its.length ∧ i = .int .i64 k ∧ Below w.heap.size w wr) (fun i _ => its.length - (intOf i).toNat)
  case atStart => exact ⟨0, Nat.zero_le _, rfl, Below.refl _ _⟩
  case round =>
    obtain ⟨k, hk, rfl, hbel⟩ := hrel
    by_cases hlt : k < its.length
    · obtain ⟨a', cap', hv, _, _, hc⟩ := (HI.out.below hbel).raw
      cases hv
      obtain ⟨b, off, rfl, hb, hr⟩ := hc k hlt
      obtain ⟨c0, c1, c2, s0, s1⟩ := hr k hlt
      obtain ⟨a'2, cap'2, hv2, _, _, hc2⟩ := (HJ.out.below hbel).raw
      cases hv2
      obtain ⟨b2, off2, rfl, hb2, hr2⟩ := hc2 k hlt
      obtain ⟨g0, g1, g2, _, _⟩ := hr2 k hlt
      have HC := Lib.hid (fun w => eqItem_same its[k].id its[k].ti its[k].da w)
      obtain ⟨S, hS⟩ : ∃ S, S = its[k].id := ⟨_, rfl⟩
      obtain ⟨T, hT⟩ : ∃ T, T = its[k].ti := ⟨_, rfl⟩
      obtain ⟨D, hD⟩ : ∃ D, D = its[k].da := ⟨_, rfl⟩
      rw [← hS] at c0 HC g0
      rw [← hT] at c1 HC g1
      rw [← hD] at c2 HC g2
      clear hr hc hr2 hc2 hS hT hD s0 s1
      go_wp2
      refine wp_region_T (fun w' => (w'.cell? ⟨b, off + k * 3, none⟩ = some (.string S) ∧ w'.cell? ⟨b, off + k * 3 + 1, none⟩ = some (.string T) ∧ w'.cell? ⟨b, off + k * 3 + 2, none⟩ = some (.int .i64 D)) ∧ w'.cell? ⟨b2, off2 + k * 3, none⟩ = some (.string S) ∧ w'.cell? ⟨b2, off2 + k * 3 + 1, none⟩ = some (.string T) ∧ w'.cell? ⟨b2, off2 + k * 3 + 2, none⟩ = some (.int .i64 D)) (fun _ => True) 8 (by kernel_rfl) 10 rfl ?_
      refine wpAnyT_takesA (md := .any) 2 (by kernel_rfl) (by intro d v c a w h; cases d <;> exact h) [0, 1, 2, 3, 4, 5, 6, 7] _ _ _ (by decide) (by kernel_rfl) ⟨⟨⟨c0, c1, c2⟩, g0, g1, g2⟩, fun _ => trivial⟩ ?_
      simp only [pick, List.filterMap_cons, List.filterMap_nil, List.getElem?_cons_zero, List.getElem?_cons_succ]
      refine wpIf_step (.slice (some ⟨b, off, none⟩) its.length cap) (by kernel_rfl) (fun w hw => by go_simp) ?_
      refine wpIf_step (.int .i64 (k : Int)) (by kernel_rfl) (fun w hw => by go_simp) ?_
      refine wpIf_step (.pointer (some ⟨b, off + k * 3, none⟩)) (by kernel_rfl) (fun w hw => by go_simp) ?_
      refine wpIf_step (itV S T D) (by kernel_rfl) (fun w hw => by obtain ⟨⟨e0, e1, e2⟩, _⟩ := hw; go_simp) ?_
      refine wpIf_step (.slice (some ⟨b2, off2, none⟩) its.length cap2) (by kernel_rfl) (fun w hw => by go_simp) ?_
      refine wpIf_step (.int .i64 (k : Int)) (by kernel_rfl) (fun w hw => by go_simp) ?_
      refine wpIf_step (.pointer (some ⟨b2, off2 + k * 3, none⟩)) (by kernel_rfl) (fun w hw => by go_simp) ?_
      refine wpIf_step (itV S T D) (by kernel_rfl) (fun w hw => by obtain ⟨_, e0, e1, e2⟩ := hw; go_simp) ?_
      refine wpIf_nil (fun hS => ?_)
      refine wpAnyT_one 8 1 (by kernel_rfl) rfl (by kernel_rfl) (fun K hK => ?_)
      go_simp
      refine (HC.out _).mono ?_
      rintro e w1 ⟨rfl, hb1⟩
      have hbel1 := hbel.drew.trans (hb1.mono hbel.size)
      have hbl : b < wr.drew.heap.size := by have := hbel.size; show b < wr.heap.size; omega
      have hbl2 : b2 < wr.drew.heap.size := by have := hbel.size; show b2 < wr.heap.size; omega
      have hkc : ∀ b o x, b < wr.drew.heap.size → wr.drew.cell? ⟨b, o, none⟩ = some x → w1.cell? ⟨b, o, none⟩ = some x := fun b o x hb hx => by rw [hb1.cell (p := ⟨b, o, none⟩) hb]; exact hx
      refine hK _ _ ⟨⟨⟨hkc _ _ _ hbl c0, hkc _ _ _ hbl c1, hkc _ _ _ hbl c2⟩, hkc _ _ _ hbl2 g0, hkc _ _ _ hbl2 g1, hkc _ _ _ hbl2 g2⟩, fun _ => trivial⟩ (fun hS3 => ?_)
      clear hK K hS hb1 hbel c0 c1 c2 g0 g1 g2 hkc hbl hbl2
      refine wpAnyT_one 9 0 (by kernel_rfl) rfl (by kernel_rfl) (fun K hK => ?_)
      go_simp
      refine hK _ _ ⟨hS3.1, fun _ => trivial⟩ (fun hS4 => ?_)
      clear hK K hS3
      refine wpAnyT_over (by kernel_rfl) ?_
      go_wp2
      go_roundw
      case rel => exact ⟨k + 1, by omega, by go_num, hbel1⟩
      case measure => simp [intOf]; omega
    · go_wp2
      go_ret
      exact ⟨rfl, hbel⟩

/-- A feed in memory: its value, what it holds. -/
def FeedAt (w : World) (v : Value) (u t : ByteArray) (its : List It) : Prop := ∃ x, v = fV u t x ∧ ItAt w w.heap.size x its ∧ u.size ≤ maxLen ∧ t.size ≤ maxLen
theorem FeedAt.below {w w' : World} {v : Value} {u t : ByteArray} {its : List It} (h : FeedAt w v u t its) (hb : Below w.heap.size w w') : FeedAt w' v u t its := by
  obtain ⟨x, hv, hi, r⟩ := h
  exact ⟨x, hv, (hi.below hb).mono hb.size, r⟩
/-- What szFeed answers: less than nothing, or what the lengths are at most. -/
def SzF (u t : ByteArray) (its : List It) (n : Int) (w : World) (e : Ending) (w' : World) : Prop := ∃ r : Int, e = .returned (.int .i64 r) ∧ -1 ≤ r ∧ r ≤ n ∧ (0 ≤ r → (its.length : Int) ≤ n ∧ (u.size : Int) ≤ n ∧ (t.size : Int) ≤ n) ∧ Below w.heap.size w w'

set_option maxRecDepth 100000 in
set_option maxHeartbeats 1600000 in
theorem szFeed_any (v : Value) (u t : ByteArray) (its : List It) (n : Int) (w : World) (h : FeedAt w v u t its) (h0 : 0 ≤ n) (h1 : n ≤ 1048576) :
    Calls Tryz.prog 16 #[v, .int .i64 n] w (SzF u t its n w) := by
  obtain ⟨x, rfl, hi, hu, ht⟩ := h
  have HI := Lib.hid hi
  clear hi
  have hb0 : Below w.heap.size w (w.alloc (.cells #[.string u, .string t, x] 27)) := (Below.refl _ _).alloc (Nat.le_refl _) _
  unfold maxLen at hu ht
  by_cases h2 : n - u.size < 0
  · go_enter Tryz.func16, Tryz.ntmps16
    go_wp2
    go_ret
    exact ⟨-1, rfl, by omega, by omega, by omega, hb0⟩
  · by_cases h3 : n - u.size - t.size < 0
    · go_enter Tryz.func16, Tryz.ntmps16
      go_wp2
      go_ret
      exact ⟨-1, rfl, by omega, by omega, by omega, hb0⟩
    · have HC := Lib.hid (fun w h => szItemS_any x its (n - u.size - t.size) w h (by omega) (by omega))
      have HS := Lib.hid hb0
      go_enter Tryz.func16, Tryz.ntmps16
      go_wp2_with fail
      refine (HC.out _ ((HI.out.below hb0).mono hb0.size)).mono ?_
      rintro e w1 ⟨r, rfl, hr0, hr1, hr2, hb1⟩
      have hb2 := hb0.trans (hb1.mono hb0.size)
      clear hb1 hb0
      by_cases h4 : r < 0
      · go_wp2
        go_ret
        exact ⟨-1, rfl, by omega, by omega, by omega, hb2⟩
      · go_wp2
        go_ret
        exact ⟨r, rfl, by omega, by omega, by omega, hb2⟩

/-- What toFeed answers: a feed in memory of its own. -/
def OutF (u t : ByteArray) (its : List It) (w : World) (e : Ending) (w' : World) : Prop := ∃ x, e = .returned (fV u t x) ∧ OwnR 83 3 itC w' w.heap.size x its ∧ Below w.heap.size w w'

set_option maxRecDepth 100000 in
set_option maxHeartbeats 1600000 in
theorem toFeed_any (v : Value) (u t : ByteArray) (its : List It) (w : World) (h : FeedAt w v u t its) (hn : its.length ≤ 1048576) :
    Calls Tryz.prog 21 #[v] w (OutF u t its w) := by
  obtain ⟨x, rfl, hi, hu, ht⟩ := h
  have HI := Lib.hid hi
  clear hi
  have HC := Lib.hid (fun w h => toItemS_any x its w h hn)
  go_enter Tryz.func21, Tryz.ntmps21
  have hb0 : Below w.heap.size w (((w.alloc (.cells #[.string u, .string t, x] 27)).alloc (.cells #[.string ⟨#[]⟩, .string ⟨#[]⟩, .slice none 0 0] 40)).alloc (.cells #[.string u, .string t, .slice none 0 0] 40)) := (((Below.refl _ _).alloc (Nat.le_refl _) _).alloc (by simp) _).alloc (by simp; omega) _
  have hF1 : FAt (((w.alloc (.cells #[.string u, .string t, x] 27)).alloc (.cells #[.string ⟨#[]⟩, .string ⟨#[]⟩, .slice none 0 0] 40)).alloc (.cells #[.string u, .string t, .slice none 0 0] 40)) (w.heap.size + 1) ⟨#[]⟩ ⟨#[]⟩ (.slice none 0 0) := by
    have := heap_alloc_new (w.alloc (.cells #[.string u, .string t, x] 27)) (.cells #[.string ⟨#[]⟩, .string ⟨#[]⟩, .slice none 0 0] 40)
    unfold FAt
    rw [heap_alloc_old _ _ (by simp)]
    simpa using this
  have hF2 : FAt (((w.alloc (.cells #[.string u, .string t, x] 27)).alloc (.cells #[.string ⟨#[]⟩, .string ⟨#[]⟩, .slice none 0 0] 40)).alloc (.cells #[.string u, .string t, .slice none 0 0] 40)) (w.heap.size + 1 + 1) u t (.slice none 0 0) := by
    have := FAt.new ((w.alloc (.cells #[.string u, .string t, x] 27)).alloc (.cells #[.string ⟨#[]⟩, .string ⟨#[]⟩, .slice none 0 0] 40)) u t (.slice none 0 0)
    simpa using this
  go_wp2_with fail
  generalize ((w.alloc (.cells #[.string u, .string t, x] 27)).alloc (.cells #[.string ⟨#[]⟩, .string ⟨#[]⟩, .slice none 0 0] 40)).alloc (.cells #[.string u, .string t, .slice none 0 0] 40) = W at hb0 hF1 hF2 ⊢
  refine (HC.out _ ((HI.out.below hb0).mono hb0.size)).mono ?_
  rintro e w1 ⟨y, rfl, hown, hb1⟩
  have hG1 := hF1.keep hb1 (Nat.le_refl _)
  have hG2 := hF2.keep hb1 (Nat.le_refl _)
  have f0 := hG1.c0
  have f1 := hG1.c1
  have f2 := hG1.c2
  have fr1 := hG1.free
  have g0 := hG2.c0
  have g1 := hG2.c1
  have g2 := hG2.c2
  have fr2 := hG2.free
  obtain ⟨ya, yc, rfl⟩ := hown.slice
  have hgs : w.heap.size + 1 + 1 < W.heap.size := (Array.getElem?_eq_some_iff.1 hF2).1
  have HOw := Lib.hid hown
  have HB := Lib.hid (hb0.trans (hb1.mono hb0.size))
  have HG1 := Lib.hid hG1
  clear hown hb1 hb0 hF1 hF2 hG1 hG2
  go_wp2
  have hR := (HG1.out.other ⟨w.heap.size + 1 + 1, 2, none⟩ (.slice ya its.length yc) (by simp)).set3 u t (.slice ya its.length yc)
  have hO := ((((HOw.out.other ⟨w.heap.size + 1 + 1, 2, none⟩ (.slice ya its.length yc) (by simp; omega)).other ⟨w.heap.size + 1, 0, none⟩ (.string u) (by simp; omega)).other ⟨w.heap.size + 1, 1, none⟩ (.string t) (by simp; omega)).other ⟨w.heap.size + 1, 2, none⟩ (.slice ya its.length yc) (by simp; omega)).base_mono (show w.heap.size ≤ W.heap.size by omega)
  have hB := (((HB.out.setCell (p := ⟨w.heap.size + 1 + 1, 2, none⟩) (by simp; omega) (.slice ya its.length yc)).setCell (p := ⟨w.heap.size + 1, 0, none⟩) (by simp) (.string u)).setCell (p := ⟨w.heap.size + 1, 1, none⟩) (by simp) (.string t)).setCell (p := ⟨w.heap.size + 1, 2, none⟩) (by simp) (.slice ya its.length yc)
  generalize (((w1.setCell ⟨w.heap.size + 1 + 1, 2, none⟩ (.slice ya its.length yc)).setCell ⟨w.heap.size + 1, 0, none⟩ (.string u)).setCell ⟨w.heap.size + 1, 1, none⟩ (.string t)).setCell ⟨w.heap.size + 1, 2, none⟩ (.slice ya its.length yc) = W2 at hR hO hB ⊢
  have r0 := hR.c0
  have r1 := hR.c1
  have r2 := hR.c2
  exact bodyPost_ret (v := fV u t (.slice ya its.length yc)) (by simp [results, Tryz.results21, go_sem, r0, r1, r2]) rfl ⟨_, rfl, hO, hB⟩

set_option maxRecDepth 100000 in
set_option maxHeartbeats 1600000 in
theorem eqFeed_same (v v' : Value) (u t : ByteArray) (its : List It) (w : World) (h : FeedAt w v u t its) (h' : FeedAt w v' u t its) :
    Calls Tryz.prog 29 #[v, v'] w fun e w' => e = .returned (.bool true) ∧ Below w.heap.size w w' := by
  obtain ⟨x, rfl, hi, hu, ht⟩ := h
  obtain ⟨x', rfl, hi', _, _⟩ := h'
  have HI := Lib.hid hi
  have HI' := Lib.hid hi'
  have HC := Lib.hid (fun w h h' => eqItemS_same x x' its w h h')
  clear hi hi'
  have hb0 : Below w.heap.size w ((w.alloc (fC u t x)).alloc (fC u t x')) := ((Below.refl _ _).alloc (Nat.le_refl _) _).alloc (by simp) _
  go_enter Tryz.func29, Tryz.ntmps29
  go_wp2_with fail
  refine (HC.out _ ((HI.out.below hb0).mono hb0.size) ((HI'.out.below hb0).mono hb0.size)).mono ?_
  rintro e w1 ⟨rfl, hb1⟩
  have hb2 := hb0.trans (hb1.mono hb0.size)
  clear hb1 hb0
  go_wp2
  go_ret
  exact ⟨rfl, hb2⟩

end Go.Proofs.YtfgdbpjmjeaolaaGreat

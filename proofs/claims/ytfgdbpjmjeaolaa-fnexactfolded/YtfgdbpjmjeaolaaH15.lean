/- Joined: W8m, W9f, W9g, W9h. -/
import Derived.Laws.ResultCell
import Derived.Test.YtfgdbpjmjeaolaaH11
import Derived.Test.YtfgdbpjmjeaolaaH12
/- W8m -/
namespace Go.Proofs.Ytfgdbpjmjeaolaa
open Go.ChangeShapes Go.WideShapes Go.ChangeAt Go.RowKit
set_option linter.unusedVariables false

theorem Try.infoItem : (Try.prog.info? 107).map (fun i => (i.zero, i.size, i.bytes)) = some (some (.agg #[.string ByteArray.empty, .string ByteArray.empty, .int .i64 0]), 3, 40) := by kernel_rfl

abbrev it0 : It := ⟨ByteArray.empty, ByteArray.empty, 0⟩
theorem ItAt.of_own {e : TypeId} {w : World} {base : Nat} {v : Value} {its : List It} (h : OwnR e 3 itC w base v its) (hs : ∀ x ∈ its, x.id.size ≤ maxLen ∧ x.ti.size ≤ maxLen) : ItAt w w.heap.size v its := ⟨h.at itC_len, hs⟩

set_option maxHeartbeats 1600000 in
theorem toItem_any (s t : ByteArray) (d : Int) (w : World) :
    Calls Try.prog 187 #[itV s t d] w fun e w' => e = .returned (itV s t d) ∧ Below w.heap.size w w' := by
  go_enter Try.func187, Try.ntmps187
  go_wp2
  exact bodyPost_ret (v := itV s t d) (by simp [results, Try.results187, go_sem]) rfl ⟨rfl, (((Below.refl _ _).alloc (Nat.le_refl _) _).alloc (by simp) _).alloc (by simp; omega) _⟩

set_option maxHeartbeats 1600000 in
theorem eqItem_same (s t : ByteArray) (d : Int) (w : World) :
    Calls Try.prog 189 #[itV s t d, itV s t d] w fun e w' => e = .returned (.bool true) ∧ Below w.heap.size w w' := by
  go_enter Try.func189, Try.ntmps189
  go_wp2
  go_ret
  exact ⟨rfl, ((Below.refl _ _).alloc (Nat.le_refl _) _).alloc (by simp) _⟩

set_option maxRecDepth 100000 in
set_option maxHeartbeats 1600000 in
theorem toItemS_any (v : Value) (its : List It) (w : World) (h : ItAt w w.heap.size v its) (hn : its.length ≤ 1048576) :
    Calls Try.prog 163 #[v] w (OutR 107 3 itC its w) := by
  have HI := Lib.hid h
  obtain ⟨a, cap, rfl, hl, hm, hc⟩ := h.raw
  unfold maxLen at hm
  clear hc h
  go_enter Try.func163, Try.ntmps163
  go_wp2_with (at_make; refine wpList_fullR (z := it0) itC_len (by decide) Try.underlying41 Try.infoItem rfl (by decide) rfl _ _ rfl w.heap.size .i64 .i64 its.length rfl rfl (by omega) (Nat.le_refl _) ?_; intro w0 hown0 hb0)
  go_loopw [4] (fun i wr => ∃ k : Nat, k ≤ its.length ∧ i = .int .i64 k ∧ OwnR 107 3 itC wr w.heap.size (.slice (some ⟨w.heap.size, 0, none⟩) its.length its.length) (its.take k ++ List.replicate (its.length - k) it0) ∧ Below w.heap.size w wr)
    (fun i _ => its.length - (intOf i).toNat)
  case atStart => exact ⟨0, Nat.zero_le _, rfl, by simpa using hown0, hb0⟩
  case round =>
    obtain ⟨k, hk, rfl, hown, hbel⟩ := hrel
    clear hown0 hb0
    by_cases hlt : k < its.length
    · obtain ⟨a', cap', hv, _, _, hc⟩ := (HI.out.below hbel).raw
      cases hv
      obtain ⟨b, off, rfl, hb, hr⟩ := hc k hlt
      obtain ⟨c0, c1, c2, s0, s1⟩ := hr k hlt
      have HC := Lib.hid (fun w => toItem_any its[k].id its[k].ti its[k].da w)
      have HP : Hid (∀ w', OwnR 107 3 itC w' w.heap.size (.slice (some ⟨w.heap.size, 0, none⟩) its.length its.length) (its.take k ++ List.replicate (its.length - k) it0) → OwnR 107 3 itC (putRow w.heap.size (k * 3) (itC its[k]) w') w.heap.size (.slice (some ⟨w.heap.size, 0, none⟩) its.length its.length) (its.take (k + 1) ++ List.replicate (its.length - (k + 1)) it0)) := Lib.hid (fun w' h => by
        rw [← set_copyR its it0 k hlt]
        exact h.put itC_len (by simp; omega) k its[k] (by simp; omega))
      have HQ : Hid (∀ w', Below w.heap.size w w' → Below w.heap.size w (putRow w.heap.size (k * 3) (itC its[k]) w')) := Lib.hid (fun w' h => putRow_below (Nat.le_refl _) _ _ _ _ h)
      unfold itC at HP HQ
      simp only [putRow] at HP HQ
      obtain ⟨S, hS⟩ : ∃ S, S = its[k].id := ⟨_, rfl⟩
      obtain ⟨T, hT⟩ : ∃ T, T = its[k].ti := ⟨_, rfl⟩
      obtain ⟨D, hD⟩ : ∃ D, D = its[k].da := ⟨_, rfl⟩
      rw [← hS] at c0 HC HP HQ
      rw [← hT] at c1 HC HP HQ
      rw [← hD] at c2 HC HP HQ
      have HOw := Lib.hid hown
      clear hr hc hS hT hD s0 s1 hown
      go_wp2_with fail
      refine (HC.out _).mono ?_
      rintro e w1 ⟨rfl, hb1⟩
      have hown1 := HOw.out.keep hb1 (Nat.le_refl _)
      have hbel1 := hbel.trans (hb1.mono hbel.size)
      have hfr : ∀ j, w1.frozen? ⟨w.heap.size, j, none⟩ = false := fun j => hown1.free (by simp; omega) j
      obtain ⟨x0, d0⟩ := hown1.cell itC_len (by simp; omega) k 0 hlt (by decide)
      obtain ⟨x1, d1⟩ := hown1.cell itC_len (by simp; omega) k 1 hlt (by decide)
      obtain ⟨x2, d2⟩ := hown1.cell itC_len (by simp; omega) k 2 hlt (by decide)
      rw [Nat.add_zero] at d0
      have HO1 := Lib.hid hown1
      clear hown1 HOw hb1 hbel c0 c1 c2
      go_wp2
      refine ⟨⟨k + 1, by omega, by simp, HP.out _ HO1.out, HQ.out _ hbel1⟩, ?_⟩
      simp [intOf]; omega
    · go_wp2
      go_ret
      have : k = its.length := by omega
      subst this
      simp only [List.take_length, Nat.sub_self, List.replicate_zero, List.append_nil] at hown
      exact ⟨_, rfl, hown, hbel⟩

set_option maxRecDepth 100000 in
set_option maxHeartbeats 1600000 in
theorem eqItemS_same (v v' : Value) (its : List It) (w : World) (h : ItAt w w.heap.size v its) (h' : ItAt w w.heap.size v' its) :
    Calls Try.prog 165 #[v, v'] w fun e w' => e = .returned (.bool true) ∧ Below w.heap.size w w' := by
  have HI := Lib.hid h
  have HJ := Lib.hid h'
  obtain ⟨a, cap, rfl, hl, hm, hc⟩ := h.raw
  obtain ⟨a2, cap2, rfl, hl2, hm2, hc2⟩ := h'.raw
  unfold maxLen at hm hm2
  clear hc h hc2 h'
  go_enter Try.func165, Try.ntmps165
  go_wp2
  go_loopw [5] (fun i wr => ∃ k : Nat, k ≤ its.length ∧ i = .int .i64 k ∧ Below w.heap.size w wr) (fun i _ => its.length - (intOf i).toNat)
  case atStart => exact ⟨0, Nat.zero_le _, rfl, Below.refl _ _⟩
  case round =>
    obtain ⟨k, hk, rfl, hbel⟩ := hrel
    by_cases hlt : k < its.length
    · obtain ⟨a', cap', hv, _, _, hc⟩ := (HI.out.below hbel).raw
      cases hv
      obtain ⟨b, off, rfl, hb, hr⟩ := hc k hlt
      obtain ⟨c0, c1, c2, s0, s1⟩ := hr k hlt
      obtain ⟨a'2, cap'2, hv2, _, _, hc2⟩ := (HJ.out.below hbel).raw
      cases hv2
      obtain ⟨b2, off2, rfl, hb2, hr2⟩ := hc2 k hlt
      obtain ⟨g0, g1, g2, _, _⟩ := hr2 k hlt
      have HC := Lib.hid (fun w => eqItem_same its[k].id its[k].ti its[k].da w)
      obtain ⟨S, hS⟩ : ∃ S, S = its[k].id := ⟨_, rfl⟩
      obtain ⟨T, hT⟩ : ∃ T, T = its[k].ti := ⟨_, rfl⟩
      obtain ⟨D, hD⟩ : ∃ D, D = its[k].da := ⟨_, rfl⟩
      rw [← hS] at c0 HC g0
      rw [← hT] at c1 HC g1
      rw [← hD] at c2 HC g2
      clear hr hc hr2 hc2 hS hT hD s0 s1
      go_wp2
      refine wp_region_T (fun w' => (w'.cell? ⟨b, off + k * 3, none⟩ = some (.string S) ∧ w'.cell? ⟨b, off + k * 3 + 1, none⟩ = some (.string T) ∧ w'.cell? ⟨b, off + k * 3 + 2, none⟩ = some (.int .i64 D)) ∧ w'.cell? ⟨b2, off2 + k * 3, none⟩ = some (.string S) ∧ w'.cell? ⟨b2, off2 + k * 3 + 1, none⟩ = some (.string T) ∧ w'.cell? ⟨b2, off2 + k * 3 + 2, none⟩ = some (.int .i64 D)) (fun _ => True) 8 (by kernel_rfl) 10 rfl ?_
      refine wpAnyT_takesA (md := .any) 2 (by kernel_rfl) (by intro d v c a w h; cases d <;> exact h) [0, 1, 2, 3, 4, 5, 6, 7] _ _ _ (by decide) (by kernel_rfl) ⟨⟨⟨c0, c1, c2⟩, g0, g1, g2⟩, fun _ => trivial⟩ ?_
      simp only [pick, List.filterMap_cons, List.filterMap_nil, List.getElem?_cons_zero, List.getElem?_cons_succ]
      refine wpIf_step (.slice (some ⟨b, off, none⟩) its.length cap) (by kernel_rfl) (fun w hw => by go_simp) ?_
      refine wpIf_step (.int .i64 (k : Int)) (by kernel_rfl) (fun w hw => by go_simp) ?_
      refine wpIf_step (.pointer (some ⟨b, off + k * 3, none⟩)) (by kernel_rfl) (fun w hw => by go_simp) ?_
      refine wpIf_step (itV S T D) (by kernel_rfl) (fun w hw => by obtain ⟨⟨e0, e1, e2⟩, _⟩ := hw; go_simp) ?_
      refine wpIf_step (.slice (some ⟨b2, off2, none⟩) its.length cap2) (by kernel_rfl) (fun w hw => by go_simp) ?_
      refine wpIf_step (.int .i64 (k : Int)) (by kernel_rfl) (fun w hw => by go_simp) ?_
      refine wpIf_step (.pointer (some ⟨b2, off2 + k * 3, none⟩)) (by kernel_rfl) (fun w hw => by go_simp) ?_
      refine wpIf_step (itV S T D) (by kernel_rfl) (fun w hw => by obtain ⟨_, e0, e1, e2⟩ := hw; go_simp) ?_
      refine wpIf_nil (fun hS => ?_)
      refine wpAnyT_one 8 1 (by kernel_rfl) rfl (by kernel_rfl) (fun K hK => ?_)
      go_simp
      refine (HC.out _).mono ?_
      rintro e w1 ⟨rfl, hb1⟩
      have hbel1 := hbel.drew.trans (hb1.mono hbel.size)
      have hbl : b < wr.drew.heap.size := by have := hbel.size; show b < wr.heap.size; omega
      have hbl2 : b2 < wr.drew.heap.size := by have := hbel.size; show b2 < wr.heap.size; omega
      have hkc : ∀ b o x, b < wr.drew.heap.size → wr.drew.cell? ⟨b, o, none⟩ = some x → w1.cell? ⟨b, o, none⟩ = some x := fun b o x hb hx => by rw [hb1.cell (p := ⟨b, o, none⟩) hb]; exact hx
      refine hK _ _ ⟨⟨⟨hkc _ _ _ hbl c0, hkc _ _ _ hbl c1, hkc _ _ _ hbl c2⟩, hkc _ _ _ hbl2 g0, hkc _ _ _ hbl2 g1, hkc _ _ _ hbl2 g2⟩, fun _ => trivial⟩ (fun hS3 => ?_)
      clear hK K hS hb1 hbel c0 c1 c2 g0 g1 g2 hkc hbl hbl2
      refine wpAnyT_one 9 0 (by kernel_rfl) rfl (by kernel_rfl) (fun K hK => ?_)
      go_simp
      refine hK _ _ ⟨hS3.1, fun _ => trivial⟩ (fun hS4 => ?_)
      clear hK K hS3
      refine wpAnyT_over (by kernel_rfl) ?_
      go_wp2
      go_roundw
      case rel => exact ⟨k + 1, by omega, by go_num, hbel1⟩
      case measure => simp [intOf]; omega
    · go_wp2
      go_ret
      exact ⟨rfl, hbel⟩

/-- A feed in memory: its value, what it holds. -/
def FeedAt (w : World) (v : Value) (u t : ByteArray) (its : List It) : Prop := ∃ x, v = fV u t x ∧ ItAt w w.heap.size x its ∧ u.size ≤ maxLen ∧ t.size ≤ maxLen
theorem FeedAt.below {w w' : World} {v : Value} {u t : ByteArray} {its : List It} (h : FeedAt w v u t its) (hb : Below w.heap.size w w') : FeedAt w' v u t its := by
  obtain ⟨x, hv, hi, r⟩ := h
  exact ⟨x, hv, (hi.below hb).mono hb.size, r⟩
/-- What szFeed answers: less than nothing, or what the lengths are at most. -/
def SzF (u t : ByteArray) (its : List It) (n : Int) (w : World) (e : Ending) (w' : World) : Prop := ∃ r : Int, e = .returned (.int .i64 r) ∧ -1 ≤ r ∧ r ≤ n ∧ (0 ≤ r → (its.length : Int) ≤ n ∧ (u.size : Int) ≤ n ∧ (t.size : Int) ≤ n) ∧ Below w.heap.size w w'

set_option maxRecDepth 100000 in
set_option maxHeartbeats 1600000 in
theorem szFeed_any (v : Value) (u t : ByteArray) (its : List It) (n : Int) (w : World) (h : FeedAt w v u t its) (h0 : 0 ≤ n) (h1 : n ≤ 1048576) :
    Calls Try.prog 106 #[v, .int .i64 n] w (SzF u t its n w) := by
  obtain ⟨x, rfl, hi, hu, ht⟩ := h
  have HI := Lib.hid hi
  clear hi
  have hb0 : Below w.heap.size w (w.alloc (.cells #[.string u, .string t, x] 91)) := (Below.refl _ _).alloc (Nat.le_refl _) _
  unfold maxLen at hu ht
  by_cases h2 : n - u.size < 0
  · go_enter Try.func106, Try.ntmps106
    go_wp2
    go_ret
    exact ⟨-1, rfl, by omega, by omega, by omega, hb0⟩
  · by_cases h3 : n - u.size - t.size < 0
    · go_enter Try.func106, Try.ntmps106
      go_wp2
      go_ret
      exact ⟨-1, rfl, by omega, by omega, by omega, hb0⟩
    · have HC := Lib.hid (fun w h => szItemS_any x its (n - u.size - t.size) w h (by omega) (by omega))
      have HS := Lib.hid hb0
      go_enter Try.func106, Try.ntmps106
      go_wp2_with fail
      refine (HC.out _ ((HI.out.below hb0).mono hb0.size)).mono ?_
      rintro e w1 ⟨r, rfl, hr0, hr1, hr2, hb1⟩
      have hb2 := hb0.trans (hb1.mono hb0.size)
      clear hb1 hb0
      by_cases h4 : r < 0
      · go_wp2
        go_ret
        exact ⟨-1, rfl, by omega, by omega, by omega, hb2⟩
      · go_wp2
        go_ret
        exact ⟨r, rfl, by omega, by omega, by omega, hb2⟩

/-- What toFeed answers: a feed in memory of its own. -/
def OutF (u t : ByteArray) (its : List It) (w : World) (e : Ending) (w' : World) : Prop := ∃ x, e = .returned (fV u t x) ∧ OwnR 107 3 itC w' w.heap.size x its ∧ Below w.heap.size w w'

set_option maxRecDepth 100000 in
set_option maxHeartbeats 1600000 in
theorem toFeed_any (v : Value) (u t : ByteArray) (its : List It) (w : World) (h : FeedAt w v u t its) (hn : its.length ≤ 1048576) :
    Calls Try.prog 110 #[v] w (OutF u t its w) := by
  obtain ⟨x, rfl, hi, hu, ht⟩ := h
  have HI := Lib.hid hi
  clear hi
  have HC := Lib.hid (fun w h => toItemS_any x its w h hn)
  go_enter Try.func110, Try.ntmps110
  have hb0 : Below w.heap.size w (((w.alloc (.cells #[.string u, .string t, x] 91)).alloc (.cells #[.string ⟨#[]⟩, .string ⟨#[]⟩, .slice none 0 0] 43)).alloc (.cells #[.string u, .string t, .slice none 0 0] 43)) := (((Below.refl _ _).alloc (Nat.le_refl _) _).alloc (by simp) _).alloc (by simp; omega) _
  have hF1 : FAt (((w.alloc (.cells #[.string u, .string t, x] 91)).alloc (.cells #[.string ⟨#[]⟩, .string ⟨#[]⟩, .slice none 0 0] 43)).alloc (.cells #[.string u, .string t, .slice none 0 0] 43)) (w.heap.size + 1) ⟨#[]⟩ ⟨#[]⟩ (.slice none 0 0) := by
    have := heap_alloc_new (w.alloc (.cells #[.string u, .string t, x] 91)) (.cells #[.string ⟨#[]⟩, .string ⟨#[]⟩, .slice none 0 0] 43)
    unfold FAt
    rw [heap_alloc_old _ _ (by simp)]
    simpa using this
  have hF2 : FAt (((w.alloc (.cells #[.string u, .string t, x] 91)).alloc (.cells #[.string ⟨#[]⟩, .string ⟨#[]⟩, .slice none 0 0] 43)).alloc (.cells #[.string u, .string t, .slice none 0 0] 43)) (w.heap.size + 1 + 1) u t (.slice none 0 0) := by
    have := FAt.new ((w.alloc (.cells #[.string u, .string t, x] 91)).alloc (.cells #[.string ⟨#[]⟩, .string ⟨#[]⟩, .slice none 0 0] 43)) u t (.slice none 0 0)
    simpa using this
  go_wp2_with fail
  generalize ((w.alloc (.cells #[.string u, .string t, x] 91)).alloc (.cells #[.string ⟨#[]⟩, .string ⟨#[]⟩, .slice none 0 0] 43)).alloc (.cells #[.string u, .string t, .slice none 0 0] 43) = W at hb0 hF1 hF2 ⊢
  refine (HC.out _ ((HI.out.below hb0).mono hb0.size)).mono ?_
  rintro e w1 ⟨y, rfl, hown, hb1⟩
  have hG1 := hF1.keep hb1 (Nat.le_refl _)
  have hG2 := hF2.keep hb1 (Nat.le_refl _)
  have f0 := hG1.c0
  have f1 := hG1.c1
  have f2 := hG1.c2
  have fr1 := hG1.free
  have g0 := hG2.c0
  have g1 := hG2.c1
  have g2 := hG2.c2
  have fr2 := hG2.free
  obtain ⟨ya, yc, rfl⟩ := hown.slice
  have hgs : w.heap.size + 1 + 1 < W.heap.size := (Array.getElem?_eq_some_iff.1 hF2).1
  have HOw := Lib.hid hown
  have HB := Lib.hid (hb0.trans (hb1.mono hb0.size))
  have HG1 := Lib.hid hG1
  clear hown hb1 hb0 hF1 hF2 hG1 hG2
  go_wp2
  have hR := (HG1.out.other ⟨w.heap.size + 1 + 1, 2, none⟩ (.slice ya its.length yc) (by simp)).set3 u t (.slice ya its.length yc)
  have hO := ((((HOw.out.other ⟨w.heap.size + 1 + 1, 2, none⟩ (.slice ya its.length yc) (by simp; omega)).other ⟨w.heap.size + 1, 0, none⟩ (.string u) (by simp; omega)).other ⟨w.heap.size + 1, 1, none⟩ (.string t) (by simp; omega)).other ⟨w.heap.size + 1, 2, none⟩ (.slice ya its.length yc) (by simp; omega)).base_mono (show w.heap.size ≤ W.heap.size by omega)
  have hB := (((HB.out.setCell (p := ⟨w.heap.size + 1 + 1, 2, none⟩) (by simp; omega) (.slice ya its.length yc)).setCell (p := ⟨w.heap.size + 1, 0, none⟩) (by simp) (.string u)).setCell (p := ⟨w.heap.size + 1, 1, none⟩) (by simp) (.string t)).setCell (p := ⟨w.heap.size + 1, 2, none⟩) (by simp) (.slice ya its.length yc)
  generalize (((w1.setCell ⟨w.heap.size + 1 + 1, 2, none⟩ (.slice ya its.length yc)).setCell ⟨w.heap.size + 1, 0, none⟩ (.string u)).setCell ⟨w.heap.size + 1, 1, none⟩ (.string t)).setCell ⟨w.heap.size + 1, 2, none⟩ (.slice ya its.length yc) = W2 at hR hO hB ⊢
  have r0 := hR.c0
  have r1 := hR.c1
  have r2 := hR.c2
  exact bodyPost_ret (v := fV u t (.slice ya its.length yc)) (by simp [results, Try.results110, go_sem, r0, r1, r2]) rfl ⟨_, rfl, hO, hB⟩

set_option maxRecDepth 100000 in
set_option maxHeartbeats 1600000 in
theorem eqFeed_same (v v' : Value) (u t : ByteArray) (its : List It) (w : World) (h : FeedAt w v u t its) (h' : FeedAt w v' u t its) :
    Calls Try.prog 112 #[v, v'] w fun e w' => e = .returned (.bool true) ∧ Below w.heap.size w w' := by
  obtain ⟨x, rfl, hi, hu, ht⟩ := h
  obtain ⟨x', rfl, hi', _, _⟩ := h'
  have HI := Lib.hid hi
  have HI' := Lib.hid hi'
  have HC := Lib.hid (fun w h h' => eqItemS_same x x' its w h h')
  clear hi hi'
  have hb0 : Below w.heap.size w ((w.alloc (fC u t x)).alloc (fC u t x')) := ((Below.refl _ _).alloc (Nat.le_refl _) _).alloc (by simp) _
  go_enter Try.func112, Try.ntmps112
  go_wp2_with fail
  refine (HC.out _ ((HI.out.below hb0).mono hb0.size) ((HI'.out.below hb0).mono hb0.size)).mono ?_
  rintro e w1 ⟨rfl, hb1⟩
  have hb2 := hb0.trans (hb1.mono hb0.size)
  clear hb1 hb0
  go_wp2
  go_ret
  exact ⟨rfl, hb2⟩

end Go.Proofs.Ytfgdbpjmjeaolaa

/- W9f -/
namespace Go.Proofs.Ytfgdbpjmjeaolaa
open Go.ChangeShapes Go.WideShapes Go.ChangeAt Go.RowKit
set_option linter.unusedVariables false

theorem Try.infoEntry : (Try.prog.info? 109).map (fun i => (i.zero, i.size, i.bytes)) = some (some (.agg #[.string ByteArray.empty, .string ByteArray.empty, .int .i64 0, .bool false, .bool false]), 5, 48) := by kernel_rfl

set_option maxRecDepth 100000 in
set_option maxHeartbeats 1600000 in
theorem eqEntry_same (s t : ByteArray) (d : Int) (r b : Bool) (w : World) :
    Calls Try.prog 188 #[enV s t d r b, enV s t d r b] w fun e w' => e = .returned (.bool true) ∧ Below w.heap.size w w' := by
  have HC := Lib.hid (fun w => eqItem_same s t d w)
  have hB0 : Below w.heap.size w ((w.alloc (.cells #[.string s, .string t, .int .i64 d, .bool r, .bool b] 109)).alloc (.cells #[.string s, .string t, .int .i64 d, .bool r, .bool b] 109)) := ((Below.refl _ _).alloc (Nat.le_refl _) _).alloc (by simp) _
  have hX := (Box.new w #[.string s, .string t, .int .i64 d, .bool r, .bool b] 109).alloc (.cells #[.string s, .string t, .int .i64 d, .bool r, .bool b] 109)
  have hY := Box.new (w.alloc (.cells #[.string s, .string t, .int .i64 d, .bool r, .bool b] 109)) #[.string s, .string t, .int .i64 d, .bool r, .bool b] 109
  have hs : (w.alloc (.cells #[.string s, .string t, .int .i64 d, .bool r, .bool b] 109)).heap.size = w.heap.size + 1 := by simp
  rw [hs] at hY
  clear hs
  have hr : (r != r) = false := by cases r <;> rfl
  have hb : (b != b) = false := by cases b <;> rfl
  go_enter Try.func188, Try.ntmps188
  go_wp2_with fail
  generalize (w.alloc (.cells #[.string s, .string t, .int .i64 d, .bool r, .bool b] 109)).alloc (.cells #[.string s, .string t, .int .i64 d, .bool r, .bool b] 109) = W at hB0 hX hY ⊢
  refine (HC.out _).mono ?_
  rintro e w1 ⟨rfl, hb1⟩
  have hB1 := hB0.trans (hb1.mono hB0.size)
  have hX1 := hX.keep hb1 hX.lt
  have hY1 := hY.keep hb1 hY.lt
  have x3 := hX1.cell 3 _ rfl
  have x4 := hX1.cell 4 _ rfl
  have y3 := hY1.cell 3 _ rfl
  have y4 := hY1.cell 4 _ rfl
  clear hb1 hB0 hX hY hX1 hY1
  go_wp2
  go_ret
  exact ⟨rfl, hB1⟩
end Go.Proofs.Ytfgdbpjmjeaolaa

/- W9g -/
namespace Go.Proofs.Ytfgdbpjmjeaolaa
open Go.ChangeShapes Go.WideShapes Go.ChangeAt Go.RowKit
set_option linter.unusedVariables false

set_option maxRecDepth 100000 in
set_option maxHeartbeats 1600000 in
theorem eqEntryS_same (v v' : Value) (es : List En) (w : World) (h : EnAt w w.heap.size v es) (h' : EnAt w w.heap.size v' es) :
    Calls Try.prog 164 #[v, v'] w fun e w' => e = .returned (.bool true) ∧ Below w.heap.size w w' := by
  have HI := Lib.hid h
  have HJ := Lib.hid h'
  obtain ⟨a, cap, rfl, hl, hm, hc⟩ := h.raw
  obtain ⟨a2, cap2, rfl, hl2, hm2, hc2⟩ := h'.raw
  unfold maxLen at hm hm2
  clear hc h hc2 h'
  go_enter Try.func164, Try.ntmps164
  go_wp2
  go_loopw [5] (fun i wr => ∃ k : Nat, k ≤ es.length ∧ i = .int .i64 k ∧ Below w.heap.size w wr) (fun i _ => es.length - (intOf i).toNat)
  case atStart => exact ⟨0, Nat.zero_le _, rfl, Below.refl _ _⟩
  case round =>
    obtain ⟨k, hk, rfl, hbel⟩ := hrel
    by_cases hlt : k < es.length
    · obtain ⟨a', cap', hv, _, _, hc⟩ := (HI.out.below hbel).raw
      cases hv
      obtain ⟨b, off, rfl, hb, hr⟩ := hc k hlt
      obtain ⟨c0, c1, c2, c3, c4, _, _⟩ := hr k hlt
      obtain ⟨a'2, cap'2, hv2, _, _, hc2⟩ := (HJ.out.below hbel).raw
      cases hv2
      obtain ⟨b2, off2, rfl, hb2, hr2⟩ := hc2 k hlt
      obtain ⟨g0, g1, g2, g3, g4, _, _⟩ := hr2 k hlt
      have HC := Lib.hid (fun w => eqEntry_same es[k].it.id es[k].it.ti es[k].it.da es[k].rd es[k].st w)
      obtain ⟨S0, hS0⟩ : ∃ x, x = es[k].it.id := ⟨_, rfl⟩
      rw [← hS0] at c0 g0 HC
      obtain ⟨S1, hS1⟩ : ∃ x, x = es[k].it.ti := ⟨_, rfl⟩
      rw [← hS1] at c1 g1 HC
      obtain ⟨S2, hS2⟩ : ∃ x, x = es[k].it.da := ⟨_, rfl⟩
      rw [← hS2] at c2 g2 HC
      obtain ⟨S3, hS3⟩ : ∃ x, x = es[k].rd := ⟨_, rfl⟩
      rw [← hS3] at c3 g3 HC
      obtain ⟨S4, hS4⟩ : ∃ x, x = es[k].st := ⟨_, rfl⟩
      rw [← hS4] at c4 g4 HC
      clear hr hc hr2 hc2 hS0 hS1 hS2 hS3 hS4
      go_wp2
      refine wp_region_T (fun w' => (w'.cell? ⟨b, off + k * 5, none⟩ = some (.string S0) ∧ w'.cell? ⟨b, off + k * 5 + 1, none⟩ = some (.string S1) ∧ w'.cell? ⟨b, off + k * 5 + 2, none⟩ = some (.int .i64 S2) ∧ w'.cell? ⟨b, off + k * 5 + 3, none⟩ = some (.bool S3) ∧ w'.cell? ⟨b, off + k * 5 + 4, none⟩ = some (.bool S4)) ∧ (w'.cell? ⟨b2, off2 + k * 5, none⟩ = some (.string S0) ∧ w'.cell? ⟨b2, off2 + k * 5 + 1, none⟩ = some (.string S1) ∧ w'.cell? ⟨b2, off2 + k * 5 + 2, none⟩ = some (.int .i64 S2) ∧ w'.cell? ⟨b2, off2 + k * 5 + 3, none⟩ = some (.bool S3) ∧ w'.cell? ⟨b2, off2 + k * 5 + 4, none⟩ = some (.bool S4))) (fun _ => True) 9 (by kernel_rfl) 10 rfl ?_
      refine wpAnyT_takesA (md := .any) 2 (by kernel_rfl) (by intro d v c a w h; cases d <;> exact h) [0, 1, 2, 3, 4, 5, 6, 7] _ _ _ (by decide) (by kernel_rfl) ⟨⟨⟨c0, c1, c2, c3, c4⟩, g0, g1, g2, g3, g4⟩, fun _ => trivial⟩ ?_
      simp only [pick, List.filterMap_cons, List.filterMap_nil, List.getElem?_cons_zero, List.getElem?_cons_succ]
      refine wpIf_step (.slice (some ⟨b, off, none⟩) es.length cap) (by kernel_rfl) (fun w hw => by go_simp) ?_
      refine wpIf_step (.int .i64 (k : Int)) (by kernel_rfl) (fun w hw => by go_simp) ?_
      refine wpIf_step (.pointer (some ⟨b, off + k * 5, none⟩)) (by kernel_rfl) (fun w hw => by go_simp) ?_
      refine wpIf_step (enV S0 S1 S2 S3 S4) (by kernel_rfl) (fun w hw => by obtain ⟨⟨e0, e1, e2, e3, e4⟩, _⟩ := hw; go_simp) ?_
      refine wpIf_step (.slice (some ⟨b2, off2, none⟩) es.length cap2) (by kernel_rfl) (fun w hw => by go_simp) ?_
      refine wpIf_step (.int .i64 (k : Int)) (by kernel_rfl) (fun w hw => by go_simp) ?_
      refine wpIf_step (.pointer (some ⟨b2, off2 + k * 5, none⟩)) (by kernel_rfl) (fun w hw => by go_simp) ?_
      refine wpIf_step (enV S0 S1 S2 S3 S4) (by kernel_rfl) (fun w hw => by obtain ⟨_, e0, e1, e2, e3, e4⟩ := hw; go_simp) ?_
      refine wpIf_nil (fun hS => ?_)
      clear hS
      refine wpAnyT_one 8 1 (by kernel_rfl) rfl (by kernel_rfl) (fun K hK => ?_)
      go_simp
      refine (HC.out _).mono ?_
      rintro e w1 ⟨rfl, hb1⟩
      have hbel1 := hbel.drew.trans (hb1.mono hbel.size)
      have hbl : b < wr.drew.heap.size := by have := hbel.size; show b < wr.heap.size; omega
      have hbl2 : b2 < wr.drew.heap.size := by have := hbel.size; show b2 < wr.heap.size; omega
      have hkc : ∀ b o x, b < wr.drew.heap.size → wr.drew.cell? ⟨b, o, none⟩ = some x → w1.cell? ⟨b, o, none⟩ = some x := fun b o x hb hx => by rw [hb1.cell (p := ⟨b, o, none⟩) hb]; exact hx
      have hA3 : (fun w' => (w'.cell? ⟨b, off + k * 5, none⟩ = some (.string S0) ∧ w'.cell? ⟨b, off + k * 5 + 1, none⟩ = some (.string S1) ∧ w'.cell? ⟨b, off + k * 5 + 2, none⟩ = some (.int .i64 S2) ∧ w'.cell? ⟨b, off + k * 5 + 3, none⟩ = some (.bool S3) ∧ w'.cell? ⟨b, off + k * 5 + 4, none⟩ = some (.bool S4)) ∧ (w'.cell? ⟨b2, off2 + k * 5, none⟩ = some (.string S0) ∧ w'.cell? ⟨b2, off2 + k * 5 + 1, none⟩ = some (.string S1) ∧ w'.cell? ⟨b2, off2 + k * 5 + 2, none⟩ = some (.int .i64 S2) ∧ w'.cell? ⟨b2, off2 + k * 5 + 3, none⟩ = some (.bool S3) ∧ w'.cell? ⟨b2, off2 + k * 5 + 4, none⟩ = some (.bool S4))) w1 := ⟨⟨hkc _ _ _ hbl c0, hkc _ _ _ hbl c1, hkc _ _ _ hbl c2, hkc _ _ _ hbl c3, hkc _ _ _ hbl c4⟩, hkc _ _ _ hbl2 g0, hkc _ _ _ hbl2 g1, hkc _ _ _ hbl2 g2, hkc _ _ _ hbl2 g3, hkc _ _ _ hbl2 g4⟩
      clear hb1 hbel c0 c1 c2 c3 c4 g0 g1 g2 g3 g4 hkc hbl hbl2
      refine hK _ _ ⟨hA3, fun _ => trivial⟩ (fun hS => ?_)
      clear hK K hS
      refine wpAnyT_one 9 0 (by kernel_rfl) rfl (by kernel_rfl) (fun K hK => ?_)
      go_simp
      refine hK _ _ ⟨hA3, fun _ => trivial⟩ (fun hS => ?_)
      clear hK K hS
      refine wpAnyT_over (by kernel_rfl) ?_
      go_wp2
      go_roundw
      case rel => exact ⟨k + 1, by omega, by go_num, hbel1⟩
      case measure => simp [intOf]; omega
    · go_wp2
      go_ret
      exact ⟨rfl, hbel⟩
end Go.Proofs.Ytfgdbpjmjeaolaa

/- W9h -/
namespace Go.Proofs.Ytfgdbpjmjeaolaa
open Go.ChangeShapes Go.WideShapes Go.ChangeAt Go.RowKit
set_option linter.unusedVariables false

theorem Try.infoSub : (Try.prog.info? 105).map (fun i => (i.zero, i.size, i.bytes)) = some (some (.agg #[.string ByteArray.empty, .string ByteArray.empty, .slice none 0 0]), 3, 56) := by kernel_rfl

/-- What szSub answers. -/
def SzS (P : Int → Prop) (n : Int) (w : World) (e : Ending) (w' : World) : Prop := ∃ r : Int, e = .returned (.int .i64 r) ∧ -1 ≤ r ∧ r ≤ n ∧ (0 ≤ r → P n) ∧ Below w.heap.size w w'

/-- What toSub answers. -/
def OutSb (s : Sb) (w : World) (e : Ending) (w' : World) : Prop := ∃ y, e = .returned (sbV s.u s.t y) ∧ OwnR 109 5 enC w' w.heap.size y s.es ∧ Below w.heap.size w w'

theorem putRow_own {α : Type} {k : Nat} {C : α → List Value} {e : TypeId} {base g : Nat} {v : Value} {l : List α} (hg : g < base) (us : List Value) : ∀ (o : Nat) (w : World), OwnR e k C w base v l → OwnR e k C (putRow g o us w) base v l := by
  induction us with
  | nil => intro o w h; exact h
  | cons u us ih => intro o w h; exact ih (o + 1) _ (h.other ⟨g, o, none⟩ u hg)
abbrev sb0 : Sb × Value := (⟨ByteArray.empty, ByteArray.empty, []⟩, .slice none 0 0)
/-- Feeds of a reader that a call has made. -/
def OwnS (w : World) (B : Nat) (v : Value) (ss : List Sb) : Prop := ∃ ps : List (Sb × Value), ps.map Prod.fst = ss ∧ OwnR 105 3 sbC w B v ps ∧ ∀ p ∈ ps, OwnR 109 5 enC w B p.2 p.1.es
theorem OwnR.lift {α : Type} {k : Nat} {C : α → List Value} {e : TypeId} {w : World} {B : Nat} {v : Value} {l : List α} (hk : ∀ x, (C x).length = k) (h : OwnR e k C w B v l) : RecAt k C w w.heap.size v l := h.at hk
theorem OwnS.at {w : World} {B : Nat} {v : Value} {ss : List Sb} (h : OwnS w B v ss) (hs : ∀ s ∈ ss, SbSz s ∧ ∀ x ∈ s.es, EnSz x) : SbAt w w.heap.size v ss := by
  obtain ⟨ps, rfl, h2, h3⟩ := h
  refine ⟨ps, rfl, h2.at sbC_len, fun p hp => ?_⟩
  have hm := hs p.1 (List.mem_map.2 ⟨p, hp, rfl⟩)
  exact ⟨⟨(h3 p hp).at enC_len, hm.2⟩, hm.1⟩
/-- What toSubS answers. -/
def OutS (ss : List Sb) (w : World) (e : Ending) (w' : World) : Prop := ∃ v, e = .returned v ∧ OwnS w' w.heap.size v ss ∧ Below w.heap.size w w'

end Go.Proofs.Ytfgdbpjmjeaolaa

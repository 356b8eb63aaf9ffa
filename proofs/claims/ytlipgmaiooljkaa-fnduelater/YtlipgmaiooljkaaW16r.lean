/- Rows of polls that the laws draw; the walk of FnDue. -/
import Derived.Test.YtlipgmaiooljkaaW16k
import Derived.Test.YtlipgmaiooljkaaW16p
namespace Go.Proofs.Ytlipgmaiooljkaa
open Go.ChangeShapes Go.WideShapes Go.ChangeAt Go.RowKit
set_option linter.unusedVariables false
set_option linter.unusedSimpArgs false

set_option maxRecDepth 100000 in
set_option maxHeartbeats 1600000 in
theorem sameTexts_same (v v' : Value) (l : List ByteArray) (w : World) (h : StAt w w.heap.size v l) (h' : StAt w w.heap.size v' l) :
    Calls Try.prog 37 #[v, v'] w fun e w' => e = .returned (.bool true) ∧ Below w.heap.size w w' := by
  have HI := Lib.hid h
  have HJ := Lib.hid h'
  obtain ⟨a, cap, rfl, hl, hm, _⟩ := h
  obtain ⟨a2, cap2, rfl, hl2, hm2, _⟩ := h'
  unfold maxLen at hm hm2
  go_enter Try.func37, Try.ntmps37
  go_wp2
  go_loopw [5] (fun i wr => ∃ k : Nat, k ≤ l.length ∧ i = .int .i64 k ∧ Below w.heap.size w wr) (fun i _ => l.length - (intOf i).toNat)
  case atStart => exact ⟨0, Nat.zero_le _, rfl, Below.refl _ _⟩
  case round =>
    obtain ⟨k, hk, rfl, hbel⟩ := hrel
    by_cases hlt : k < l.length
    · obtain ⟨b, off, cap3, hv, hb, c0⟩ := (HI.out.below hbel).at k hlt
      cases hv
      obtain ⟨b2, off2, cap4, hv2, hb2, g0⟩ := (HJ.out.below hbel).at k hlt
      cases hv2
      obtain ⟨q, hq⟩ : ∃ q, q = l[k] := ⟨_, rfl⟩
      rw [← hq] at c0 g0
      clear hq
      go_wp2
      refine wp_region_T (fun w' => w'.cell? ⟨b, off + k, none⟩ = some (.string q) ∧ w'.cell? ⟨b2, off2 + k, none⟩ = some (.string q)) (fun _ => True) 8 (by kernel_rfl) 9 rfl ?_
      refine wpAnyT_takesA (md := .any) 1 (by kernel_rfl) (by intro d v c a w h; cases d <;> exact h) [0, 1, 2, 3, 4, 5, 6, 7] _ _ _ (by decide) (by kernel_rfl) ⟨⟨c0, g0⟩, fun _ => trivial⟩ ?_
      simp only [pick, List.filterMap_cons, List.filterMap_nil, List.getElem?_cons_zero, List.getElem?_cons_succ]
      refine wpIf_step (.slice (some ⟨b, off, none⟩) l.length cap) (by kernel_rfl) (fun w hw => by go_simp) ?_
      refine wpIf_step (.int .i64 (k : Int)) (by kernel_rfl) (fun w hw => by go_simp) ?_
      refine wpIf_step (.pointer (some ⟨b, off + k, none⟩)) (by kernel_rfl) (fun w hw => by go_simp) ?_
      refine wpIf_step (.string q) (by kernel_rfl) (fun w hw => by obtain ⟨e0, _⟩ := hw; go_simp) ?_
      refine wpIf_step (.slice (some ⟨b2, off2, none⟩) l.length cap2) (by kernel_rfl) (fun w hw => by go_simp) ?_
      refine wpIf_step (.int .i64 (k : Int)) (by kernel_rfl) (fun w hw => by go_simp) ?_
      refine wpIf_step (.pointer (some ⟨b2, off2 + k, none⟩)) (by kernel_rfl) (fun w hw => by go_simp) ?_
      refine wpIf_step (.string q) (by kernel_rfl) (fun w hw => by obtain ⟨_, e0⟩ := hw; go_simp) ?_
      refine wpIf_nil (fun hS => ?_)
      refine wpAnyT_one 8 0 (by kernel_rfl) rfl (by kernel_rfl) (fun K hK => ?_)
      go_simp
      refine hK _ _ ⟨⟨c0, g0⟩, fun _ => trivial⟩ (fun hS4 => ?_)
      clear hK K hS hS4
      replace hbel := hbel.drew
      refine wpAnyT_over (by kernel_rfl) ?_
      go_wp2
      go_roundw
      case rel => exact ⟨k + 1, by omega, by go_num, hbel⟩
      case measure => simp [intOf]; omega
    · go_wp2
      go_ret
      exact ⟨rfl, hbel⟩


theorem OwnR.keepG16 {α : Type} {k : Nat} {C : α → List Value} {e : TypeId} {w w' : World} {base rb : Nat} {v : Value} {l : List α} (h : OwnR e k C w base v l) (hg : w.grownBy w' (some rb)) (hb : rb < base) : OwnR e k C w' base v l := by
  refine ⟨h.1, ?_⟩
  rcases h.2 with h2 | ⟨g, cap, cur, hv, hbg, hblk, rest⟩
  · exact .inl h2
  · exact .inr ⟨g, cap, cur, hv, hbg, (hg.block g (Array.getElem?_eq_some_iff.1 hblk).1 (fun e => by have := Option.some.inj e; omega)).trans hblk, rest⟩
/-- What is drawn as a feed. -/
theorem pkL_one (p : PollD) : ∀ x ∈ pkL p, x.oneCell' = true := by
  intro x hx
  simp only [pkL, List.mem_cons, List.not_mem_nil, or_false] at hx
  rcases hx with rfl | rfl | rfl | rfl | rfl | rfl <;> rfl

set_option maxRecDepth 100000 in
set_option maxHeartbeats 2000000 in
theorem drawDue_any (w : World) (cv : Value) (zs : List Int) (h : Cd w cv zs) :
    Calls Try.prog 36 #[cv] w fun e w' => ∃ (v : Value) (ps : List PollD) (now : Int), e = .returned (.tuple #[v, .int .i64 now]) ∧ OwnR 23 6 pkL w' w.heap.size v ps ∧ ps.length ≤ 4 ∧ (∀ p ∈ ps, PlD p) ∧ (Lit.int .i64 now).wf = true ∧ Below w.heap.size w w' := by
  obtain ⟨a, len, cap, hcv⟩ := h.form
  have HV := Lib.hid hcv
  clear hcv
  go_enter Try.func36, Try.ntmps36
  go_wp2_with fail
  refine (open_any cv a len cap HV.out _).mono ?_
  rintro e w1 ⟨rfl, rfl⟩
  have hrd := h.rd
  have hB : Below w.heap.size w (w.alloc (.cells #[cv, .int .i64 0] 114)) := (Below.refl _ _).alloc (Nat.le_refl _) _
  have hz : w.heap.size + 1 ≤ (w.alloc (.cells #[cv, .int .i64 0] 114)).heap.size := by simp
  generalize w.alloc (.cells #[cv, .int .i64 0] 114) = W1 at hrd hB hz ⊢
  have hO := OwnR.lit (k := 6) (C := pkL) 23 W1 (w.heap.size + 1) hz
  replace hrd := hrd.alloc (.cells #[] 23)
  replace hB := hB.alloc hB.size (.cells #[] 23)
  replace hz : w.heap.size + 1 ≤ (W1.alloc (.cells #[] 23)).heap.size := by simp; omega
  clear h
  go_wp2_with fail
  generalize W1.alloc (.cells #[] 23) = W2 at hrd hB hz hO ⊢
  refine (below_any 5 _ _ cv zs _ hrd (by omega) (by omega)).mono ?_
  rintro e w3 ⟨r, rfl, r0, r1, hr3, hg3⟩
  replace hO := OwnR.keepG16 hO hg3 (Nat.lt_succ_self _)
  replace hB := hB.trans (below_of_grown hg3 (Nat.le_refl _) hB.size)
  replace hz : w.heap.size + 1 ≤ w3.heap.size := Nat.le_trans hz hg3.size
  clear hg3 hrd
  generalize hG : Value.slice (some ⟨W1.heap.size, 0, none⟩) 0 0 = v0 at hO ⊢
  clear hG
  go_wp2
  go_loopw [5, 6] (fun x i wr => ∃ (k : Int) (ps : List PollD), i = .int .i64 k ∧ 0 ≤ k ∧ k + (ps.length : Int) ≤ 4 ∧ Hid (∀ p ∈ ps, PlD p) ∧ Hid (OwnR 23 6 pkL wr (w.heap.size + 1) x ps) ∧ Rd wr w.heap.size w.heap.size cv zs ∧ Below w.heap.size w wr ∧ w.heap.size + 1 ≤ wr.heap.size) (fun _ i _ => (intOf i).toNat)
  case atStart => exact ⟨r, [], rfl, r0, by simp; omega, Lib.hid (fun p hp => by cases hp), Lib.hid hO, hr3, hB, hz⟩
  case round =>
    clear hO hr3 hB hz
    obtain ⟨k, ps, rfl, k0, k1, HS, HO, hrd, hB, hz⟩ := hrel
    by_cases hk : 0 < k
    case neg =>
      have hk0 : k = 0 := by omega
      go_wp2_with fail
      refine (off_any 0 150 _ _ cv zs _ hrd (by omega) (by omega) (by omega)).mono ?_
      rintro e w4 ⟨now, rfl, hnow, hr4, hg4⟩
      have hO4 := OwnR.keepG16 HO.out hg4 (Nat.lt_succ_self _)
      have hB4 := hB.trans (below_of_grown hg4 (Nat.le_refl _) hB.size)
      go_wp2
      go_ret2
      exact ⟨_, ps, now, rfl, hO4.base_mono (by omega), by omega, HS.out, hnow, hB4⟩
    case pos =>
      obtain ⟨xa, xc, rfl⟩ := HO.out.slice
      go_wp2_with fail
      refine (poll_any _ _ cv zs _ hrd).mono ?_
      rintro e w4 ⟨q, rfl, hq, hr4, hg4⟩
      have HSn : Hid (∀ p ∈ ps ++ [q], PlD p) := Lib.hid (fun p hp => by
        rcases List.mem_append.1 hp with h1 | h1
        · exact HS.out p h1
        · obtain rfl := List.mem_singleton.1 h1; exact hq)
      obtain ⟨u, m, n, wt, f, g⟩ := q
      have hO4 := OwnR.keepG16 HO.out hg4 (Nat.lt_succ_self _)
      have hB4 := hB.trans (below_of_grown hg4 (Nat.le_refl _) hB.size)
      have hz4 : w.heap.size + 1 ≤ w4.heap.size := Nat.le_trans hz hg4.size
      have HOw := Lib.hid hO4
      have HO2 := Lib.hid (hO4.alloc (.cells #[.string u, .string m, .int .i64 n, .int .i64 wt, .int .i64 f, .bool g] 23))
      have HOn := Lib.hid (one_rec16 pkL_len w4 23 ⟨u, m, n, wt, f, g⟩ #[.string u, .string m, .int .i64 n, .int .i64 wt, .int .i64 f, .bool g] rfl)
      have HB2 := Lib.hid (hB4.alloc hB4.size (.cells #[.string u, .string m, .int .i64 n, .int .i64 wt, .int .i64 f, .bool g] 23))
      have HR2 := Lib.hid (hr4.alloc (.cells #[.string u, .string m, .int .i64 n, .int .i64 wt, .int .i64 f, .bool g] 23))
      clear hq hg4 hO4 hB4 hr4 HO HS hrd hB
      go_wp2_with (at_builtin; refine wpList_appR pkL_len (by decide) Try.underlying44 Try.infoPoll rfl (by decide) rfl (.tmp 16) (.tmp 19) rfl (w.heap.size + 1) (w4.heap.size + 1) _ _ _ [⟨u, m, n, wt, f, g⟩] rfl rfl HO2.out HOn.out (fun y _ => pkL_one y) (by simp; omega) (by simp; omega) ?_; intro v1 w5 hown1 hg1)
      have hb5 : Below (w.heap.size + 1) (w4.alloc (.cells #[.string u, .string m, .int .i64 n, .int .i64 wt, .int .i64 f, .bool g] 23)) w5 := gb_Below16 hg1 (by simp; omega) (ownBlock_base HOw.out)
      have hB5 := HB2.out.trans (hb5.mono (Nat.le_succ _))
      have hr5 := HR2.out.below hb5 (Nat.lt_succ_self _)
      have hz5 : w.heap.size + 1 ≤ w5.heap.size := Nat.le_trans (by simp; omega) hb5.size
      have HO5 := Lib.hid hown1
      clear hg1 hb5 hown1 HB2 HR2 HO2 HOn HOw
      go_wp2
      go_roundw
      case rel => exact ⟨k - 1, ps ++ [⟨u, m, n, wt, f, g⟩], by go_num, by omega, by simp; omega, HSn, HO5, hr5, hB5, hz5⟩
      case measure => simp [intOf]; omega
end Go.Proofs.Ytlipgmaiooljkaa

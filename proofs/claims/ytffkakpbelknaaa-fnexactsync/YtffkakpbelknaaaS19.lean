/- Joined: W14a. -/
import Derived.Test.YtffkakpbelknaaaS18
/- W14a -/
namespace Go.Proofs.Ytffkakpbelknaaa
open Go.ChangeShapes Go.WideShapes Go.ChangeAt Go.RowKit
set_option linter.unusedVariables false

/-- A file of a disk. -/
structure Fi where
  nm : ByteArray
  da : ByteArray
abbrev fiV (s t : ByteArray) : Value := .agg #[.string s, .string t]
def fiC (x : Fi) : List Value := [.string x.nm, .string x.da]
theorem fiC_len (x : Fi) : (fiC x).length = 2 := rfl
theorem fiC_one (x : Fi) : ∀ u ∈ fiC x, u.oneCell' = true := by
  intro u hu
  simp only [fiC, List.mem_cons, List.not_mem_nil, or_false] at hu
  rcases hu with rfl | rfl <;> rfl
def FiSz (x : Fi) : Prop := x.nm.size ≤ maxLen ∧ x.da.size ≤ maxLen
def FiAt (w : World) (B : Nat) (v : Value) (es : List Fi) : Prop := RecAt 2 fiC w B v es ∧ ∀ x ∈ es, FiSz x
theorem FiAt.raw {w : World} {B : Nat} {v : Value} {es : List Fi} (h : FiAt w B v es) : ∃ a cap, v = .slice a es.length cap ∧ es.length ≤ cap ∧ cap ≤ maxLen ∧
    ∀ j, j < es.length → ∃ b off, a = some ⟨b, off, none⟩ ∧ b < B ∧ ∀ i (h : i < es.length), w.cell? ⟨b, off + i * 2, none⟩ = some (.string es[i].nm) ∧ w.cell? ⟨b, off + i * 2 + 1, none⟩ = some (.string es[i].da) ∧ es[i].nm.size ≤ maxLen ∧ es[i].da.size ≤ maxLen := by
  obtain ⟨⟨a, cap, hv, h1, h2, hc⟩, hs⟩ := h
  refine ⟨a, cap, hv, h1, h2, fun j hj => ?_⟩
  obtain ⟨b, off, ha, hB, hr⟩ := hc (by omega)
  exact ⟨b, off, ha, hB, fun i hi => ⟨hr i hi 0 _ rfl, hr i hi 1 _ rfl, (hs _ (List.getElem_mem hi)).1, (hs _ (List.getElem_mem hi)).2⟩⟩
theorem FiAt.below {w w' : World} {B : Nat} {v : Value} {es : List Fi} (h : FiAt w B v es) (hb : Below B w w') : FiAt w' B v es := ⟨h.1.below hb, h.2⟩
theorem FiAt.mono {w : World} {B B' : Nat} {v : Value} {es : List Fi} (h : FiAt w B v es) (hb : B ≤ B') : FiAt w B' v es := ⟨h.1.mono hb, h.2⟩
theorem FiAt.drew {w : World} {B : Nat} {v : Value} {es : List Fi} (h : FiAt w B v es) : FiAt w.drew B v es := h
theorem FiAt.of_own {e : TypeId} {w : World} {base : Nat} {v : Value} {es : List Fi} (h : OwnR e 2 fiC w base v es) (hs : ∀ x ∈ es, FiSz x) : FiAt w w.heap.size v es := ⟨h.at fiC_len, hs⟩
def fiKs (es : List Fi) : List ByteArray := es.map fun x => x.nm

theorem Try.methodF (v : Value) (w : World) : (method 332 167 v "loop.example/g00569/impl.key").run Try.prog w = .ok (188, v) w := by kernel_rfl
theorem keyF_any (s t : ByteArray) (w : World) :
    Calls Try.prog 188 #[fiV s t] w fun e w' => e = .returned (.string s) ∧ Below w.heap.size w w' := by
  go_enter Try.func188, Try.ntmps188
  go_wp2
  go_ret
  exact ⟨rfl, (Below.refl _ _).alloc (Nat.le_refl _) _⟩

set_option maxRecDepth 100000 in
set_option maxHeartbeats 1600000 in
theorem risesF_any (v : Value) (es : List Fi) (w : World) (h : FiAt w w.heap.size v es) :
    Calls Try.prog 158 #[v] w fun e w' => e = .returned (.bool (risB (fiKs es))) ∧ Below w.heap.size w w' := by
  have HI := Lib.hid h
  obtain ⟨a, cap, rfl, hl, hm, hc⟩ := h.raw
  clear hc h
  unfold maxLen at hm
  have HX : Hid (∀ k, k < es.length → ordK (fiKs es) k = false → risB (fiKs es) = false) := Lib.hid (fun k hk h => allB_out k (by simpa [fiKs] using hk) h)
  have HD : Hid (∀ k, ¬ k < es.length → (∀ j, j < k → ordK (fiKs es) j = true) → risB (fiKs es) = true) := Lib.hid (fun k hk h => allB_end k (by simpa [fiKs] using hk) h)
  generalize risB (fiKs es) = R at HX HD ⊢
  go_enter Try.func158, Try.ntmps158
  go_wp2
  go_loopw [3] (fun i wr => ∃ k : Nat, 1 ≤ k ∧ k ≤ es.length + 1 ∧ i = .int .i64 (k : Int) ∧ Below w.heap.size w wr ∧ Hid (∀ j, j < k → ordK (fiKs es) j = true)) (fun i _ => es.length - (intOf i).toNat)
  case atStart => exact ⟨1, by omega, by omega, rfl, Below.refl _ _, Lib.hid (fun j hj => by
    obtain rfl : j = 0 := by omega
    rfl)⟩
  case round =>
    obtain ⟨k, hk1, hk, rfl, hB, HO⟩ := hrel
    by_cases hlt : k < es.length
    · obtain ⟨q, hq⟩ : ∃ q, k = q + 1 := ⟨k - 1, by omega⟩
      have hql : q < es.length := by omega
      obtain ⟨a', cap', hv, _, _, hc⟩ := (HI.out.below hB).raw
      cases hv
      obtain ⟨b, off, rfl, hb, hr⟩ := hc k hlt
      obtain ⟨p0, p1, _, _⟩ := hr q hql
      obtain ⟨c0, c1, _, _⟩ := hr k hlt
      have HK : Hid (ordK (fiKs es) k = Op.bytesLess es[q].nm.toList es[k].nm.toList) := Lib.hid (by subst hq; exact ordK_at _ es q hlt)
      obtain ⟨S0, hS0⟩ : ∃ x, x = es[k].nm := ⟨_, rfl⟩
      rw [← hS0] at c0 HK
      obtain ⟨S1, hS1⟩ : ∃ x, x = es[k].da := ⟨_, rfl⟩
      rw [← hS1] at c1
      obtain ⟨P0, hP0⟩ : ∃ x, x = es[q].nm := ⟨_, rfl⟩
      rw [← hP0] at p0 HK
      obtain ⟨P1, hP1⟩ : ∃ x, x = es[q].da := ⟨_, rfl⟩
      rw [← hP1] at p1
      clear hr hc hS0 hS1 hP0 hP1
      obtain ⟨L, hL⟩ : ∃ L, Op.bytesLess P0.toList S0.toList = L := ⟨_, rfl⟩
      rw [hL] at HK
      have HL := Lib.hid hL
      have Hk2 : Hid (IntKind.i64.wrap ((k : Int) - 1) = (q : Int)) := Lib.hid (by rw [hq]; simp; exact IntWalk.i64_in _ (by omega))
      clear hq hL
      go_wp2
      have hA2 : (wr.drew.cell? ⟨b, off + q * 2, none⟩ = some (.string P0) ∧ wr.drew.cell? ⟨b, off + q * 2 + 1, none⟩ = some (.string P1)) ∧ (wr.drew.cell? ⟨b, off + k * 2, none⟩ = some (.string S0) ∧ wr.drew.cell? ⟨b, off + k * 2 + 1, none⟩ = some (.string S1)) := ⟨⟨p0, p1⟩, c0, c1⟩
      have hB2 := hB.drew
      clear p0 c0 p1 c1
      refine wp_region_T (fun w' => (w'.cell? ⟨b, off + q * 2, none⟩ = some (.string P0) ∧ w'.cell? ⟨b, off + q * 2 + 1, none⟩ = some (.string P1)) ∧ (w'.cell? ⟨b, off + k * 2, none⟩ = some (.string S0) ∧ w'.cell? ⟨b, off + k * 2 + 1, none⟩ = some (.string S1))) (fun _ => True) 13 (by kernel_rfl) 14 rfl ?_
      refine wpAnyT_takesA (md := .any) 3 (by kernel_rfl) (by intro d v c a w h; cases d <;> exact h) [0, 1, 2, 3, 4, 5, 7, 8, 9, 10, 11] _ _ _ (by decide) (by kernel_rfl) ⟨hA2, fun _ => trivial⟩ ?_
      simp only [pick, List.filterMap_cons, List.filterMap_nil, List.getElem?_cons_zero, List.getElem?_cons_succ]
      refine wpIf_step (.slice (some ⟨b, off, none⟩) es.length cap) (by kernel_rfl) (fun w hw => by go_simp) ?_
      refine wpIf_step (.int .i64 (k : Int)) (by kernel_rfl) (fun w hw => by go_simp) ?_
      refine wpIf_step (.int .i64 (q : Int)) (by kernel_rfl) (fun w hw => by have hk2 := Hk2.out; go_simp) ?_
      refine wpIf_step (.pointer (some ⟨b, off + q * 2, none⟩)) (by kernel_rfl) (fun w hw => by go_simp) ?_
      refine wpIf_step (fiV P0 P1) (by kernel_rfl) (fun w hw => by obtain ⟨⟨d0, d1⟩, e0, e1⟩ := hw; go_simp) ?_
      refine wpIf_step (.iface 167 (fiV P0 P1)) (by kernel_rfl) (fun w hw => by go_simp) ?_
      refine wpIf_step (.slice (some ⟨b, off, none⟩) es.length cap) (by kernel_rfl) (fun w hw => by go_simp) ?_
      refine wpIf_step (.int .i64 (k : Int)) (by kernel_rfl) (fun w hw => by go_simp) ?_
      refine wpIf_step (.pointer (some ⟨b, off + k * 2, none⟩)) (by kernel_rfl) (fun w hw => by go_simp) ?_
      refine wpIf_step (fiV S0 S1) (by kernel_rfl) (fun w hw => by obtain ⟨⟨d0, d1⟩, e0, e1⟩ := hw; go_simp) ?_
      refine wpIf_step (.iface 167 (fiV S0 S1)) (by kernel_rfl) (fun w hw => by go_simp) ?_
      refine wpIf_nil (fun hS => ?_)
      have hM := fun v w => Try.methodF v w
      have hbl : b < wr.drew.heap.size := by have := hB2.size; omega
      refine wpAnyT_one 6 2 (by kernel_rfl) rfl (by kernel_rfl) (fun K hK => ?_)
      go_simp
      refine (keyF_any P0 P1 _).mono ?_
      rintro e v1 ⟨rfl, hb1⟩
      have hkc : ∀ o x, wr.drew.cell? ⟨b, o, none⟩ = some x → v1.cell? ⟨b, o, none⟩ = some x := fun o x hx => by rw [hb1.cell (p := ⟨b, o, none⟩) hbl]; exact hx
      have hA3 : (v1.cell? ⟨b, off + q * 2, none⟩ = some (.string P0) ∧ v1.cell? ⟨b, off + q * 2 + 1, none⟩ = some (.string P1)) ∧ (v1.cell? ⟨b, off + k * 2, none⟩ = some (.string S0) ∧ v1.cell? ⟨b, off + k * 2 + 1, none⟩ = some (.string S1)) := ⟨⟨hkc _ _ hA2.1.1, hkc _ _ hA2.1.2⟩, hkc _ _ hA2.2.1, hkc _ _ hA2.2.2⟩
      have hB3 := hB2.trans (hb1.mono hB2.size)
      have hbl3 : b < v1.heap.size := by have := hB3.size; omega
      refine hK _ _ ⟨hA3, fun _ => trivial⟩ (fun hS3 => ?_)
      clear hK K hS hb1 hA2 hB2 hkc hbl
      refine wpAnyT_one 12 1 (by kernel_rfl) rfl (by kernel_rfl) (fun K hK => ?_)
      go_simp
      refine (keyF_any S0 S1 _).mono ?_
      rintro e v2 ⟨rfl, hb2⟩
      have hkc : ∀ o x, v1.cell? ⟨b, o, none⟩ = some x → v2.cell? ⟨b, o, none⟩ = some x := fun o x hx => by rw [hb2.cell (p := ⟨b, o, none⟩) hbl3]; exact hx
      have hA4 : (v2.cell? ⟨b, off + q * 2, none⟩ = some (.string P0) ∧ v2.cell? ⟨b, off + q * 2 + 1, none⟩ = some (.string P1)) ∧ (v2.cell? ⟨b, off + k * 2, none⟩ = some (.string S0) ∧ v2.cell? ⟨b, off + k * 2 + 1, none⟩ = some (.string S1)) := ⟨⟨hkc _ _ hA3.1.1, hkc _ _ hA3.1.2⟩, hkc _ _ hA3.2.1, hkc _ _ hA3.2.2⟩
      have hB4 := hB3.trans (hb2.mono hB3.size)
      refine hK _ _ ⟨hA4, fun _ => trivial⟩ (fun hS3 => ?_)
      clear hK K hb2 hA3 hB3 hkc hbl3 hM
      have hL := HL.out
      refine wpAnyT_one 13 0 (by kernel_rfl) rfl (by kernel_rfl) (fun K hK => ?_)
      go_simp
      refine hK _ _ ⟨hA4, fun _ => trivial⟩ (fun hS4 => ?_)
      clear hK K hA4
      refine wpAnyT_over (by kernel_rfl) ?_
      clear hL
      cases L with
      | false =>
        have HZ : Hid (R = false) := Lib.hid (HX.out k hlt HK.out)
        go_wp2
        go_ret
        exact ⟨ret_bool HZ.out.symm, hB4⟩
      | true =>
        have HO' : Hid (∀ j, j < k + 1 → ordK (fiKs es) j = true) := Lib.hid (fun j hj => by
          by_cases hjk : j = k
          · subst hjk; exact HK.out
          · exact HO.out j (by omega))
        go_wp2
        go_roundw
        case rel => exact ⟨k + 1, by omega, by omega, by go_num, hB4, HO'⟩
        case measure => simp [intOf]; omega
    · have HZ : Hid (R = true) := Lib.hid (HD.out k hlt HO.out)
      go_wp2
      go_ret
      exact ⟨ret_bool HZ.out.symm, hB⟩

set_option maxHeartbeats 1000000 in
set_option maxRecDepth 100000 in
theorem placeF1_any (s t x : ByteArray) (w : World) :
    Calls Try.prog 160 #[fiV s t, .string x] w fun e w' => e = .returned (.int .i64 (cmpB s x)) ∧ Below w.heap.size w w' := by
  have HC := Lib.hid (fun w => compare_any s x w)
  have HK := Lib.hid (fun w => keyF_any s t w)
  generalize cmpB s x = c at HC ⊢
  have hM := fun v w => Try.methodF v w
  have hb0 : Below w.heap.size w (w.alloc (.cells #[.string s, .string t] 167)) := (Below.refl _ _).alloc (Nat.le_refl _) _
  go_enter Try.func160, Try.ntmps160
  go_wp2_with fail
  refine (HK.out _).mono ?_
  rintro e w1 ⟨rfl, hb1⟩
  have hb2 := hb0.trans (hb1.mono hb0.size)
  clear hb0 hb1 hM
  go_wp2_with fail
  refine (HC.out _).mono ?_
  rintro e w2 ⟨rfl, rfl⟩
  go_wp2
  go_ret
  exact ⟨rfl, hb2⟩

set_option maxRecDepth 100000 in
set_option maxHeartbeats 1600000 in
theorem searchF_any (v : Value) (es : List Fi) (x : ByteArray) (w : World) (h : FiAt w w.heap.size v es) (hn : es.length ≤ 1000000000) (hmo : MonoK (fiKs es) x) :
    Calls Try.prog 159 #[v, .string x, .func (.func 160) #[] #[]] w fun e w' => e = .returned (.tuple #[.int .i64 (plK (fiKs es) x : Nat), .bool (fnB (fiKs es) x)]) ∧ Below w.heap.size w w' := by
  have HI := Lib.hid h
  obtain ⟨a, cap, rfl, hl, hm, hc⟩ := h.raw
  clear hc h
  have HM := Lib.hid hmo
  clear hmo
  unfold maxLen at hm
  have HL : Hid ((fiKs es).length = es.length) := Lib.hid (by simp [fiKs])
  go_enter Try.func159, Try.ntmps159
  go_wp2
  go_loopw [9, 10] (fun i j wr => ∃ p q : Nat, p ≤ q ∧ q ≤ es.length ∧ i = .int .i64 (p : Int) ∧ j = .int .i64 (q : Int) ∧ Below w.heap.size w wr ∧ Hid (LoK (fiKs es) x (p) ∧ HiK (fiKs es) x (q))) (fun i j _ => (intOf j).toNat - (intOf i).toNat)
  case atStart => exact ⟨0, es.length, Nat.zero_le _, Nat.le_refl _, rfl, rfl, Below.refl _ _, Lib.hid ⟨fun t ht h => by omega, fun t ht h => by have := HL.out; omega⟩⟩
  case round =>
    obtain ⟨p, q, hpq, hq, rfl, rfl, hB, HO⟩ := hrel
    by_cases hlt : p < q
    · obtain ⟨m, hmE⟩ : ∃ m : Nat, ((p : Int) + (q : Int)) / 2 = (m : Int) := ⟨(p + q) / 2, by omega⟩
      have hpm : p ≤ m := by omega
      have hmq : m < q := by omega
      have hml : m < es.length := by omega
      obtain ⟨a', cap', hv, _, _, hc⟩ := (HI.out.below hB).raw
      cases hv
      obtain ⟨b, off, rfl, hb, hr⟩ := hc m hml
      obtain ⟨c0, c1, _, _⟩ := hr m hml
      have HK : Hid ((fiKs es)[m]'(by simpa [fiKs] using hml) = es[m].nm) := Lib.hid (by simp [fiKs])
      obtain ⟨S0, hS0⟩ : ∃ z, z = es[m].nm := ⟨_, rfl⟩
      rw [← hS0] at c0 HK
      obtain ⟨S1, hS1⟩ : ∃ z, z = es[m].da := ⟨_, rfl⟩
      rw [← hS1] at c1
      clear hr hc hS0 hS1
      have HC := Lib.hid (fun w => placeF1_any S0 S1 x w)
      have hcb := cmpB_bd S0 x
      have HU : Hid (cmpB S0 x < 0 → LoK (fiKs es) x (m + 1)) := Lib.hid (fun h t ht htm => HM.out t m (by rw [HL.out]; exact hml) (by omega) (by rw [HK.out]; exact h))
      have HV : Hid (0 ≤ cmpB S0 x → HiK (fiKs es) x (m)) := Lib.hid (fun h t ht htm h2 => by have := HM.out m t ht htm h2; rw [HK.out] at this; omega)
      generalize cmpB S0 x = c at HC hcb HU HV
      go_wp2_with fail
      refine (HC.out _).mono ?_
      rintro e w1 ⟨rfl, hb1⟩
      have hB1 := hB.trans (hb1.mono hB.size)
      clear hb1 hB c0 c1
      by_cases hc0 : c < 0
      · have HO' : Hid (LoK (fiKs es) x (m + 1) ∧ HiK (fiKs es) x (q)) := Lib.hid ⟨HU.out hc0, HO.out.2⟩
        go_wp2
        go_roundw
        case rel => exact ⟨m + 1, q, by omega, by omega, by go_num, rfl, hB1, HO'⟩
        case measure => simp [intOf]; omega
      · have HO' : Hid (LoK (fiKs es) x (p) ∧ HiK (fiKs es) x (m)) := Lib.hid ⟨HO.out.1, HV.out (by omega)⟩
        go_wp2
        go_roundw
        case rel => exact ⟨p, m, by omega, by omega, rfl, rfl, hB1, HO'⟩
        case measure => simp [intOf]; omega
    · have HP : Hid (plK (fiKs es) x = p) := Lib.hid (plK_of _ _ _ (by have := HL.out; omega) HO.out.1 (fun t ht h => HO.out.2 t ht (by omega)))
      by_cases hpl : p < es.length
      · have hpd : decide ((p : Int) < (es.length : Int)) = true := decide_eq_true (by omega)
        obtain ⟨a', cap', hv, _, _, hc⟩ := (HI.out.below hB).raw
        cases hv
        obtain ⟨b, off, rfl, hb, hr⟩ := hc p hpl
        obtain ⟨c0, c1, _, _⟩ := hr p hpl
        have HK : Hid ((fiKs es)[p]'(by simpa [fiKs] using hpl) = es[p].nm) := Lib.hid (by simp [fiKs])
        obtain ⟨S0, hS0⟩ : ∃ z, z = es[p].nm := ⟨_, rfl⟩
        rw [← hS0] at c0 HK
        obtain ⟨S1, hS1⟩ : ∃ z, z = es[p].da := ⟨_, rfl⟩
        rw [← hS1] at c1
        clear hr hc hS0 hS1
        have HC := Lib.hid (fun w => placeF1_any S0 S1 x w)
        have HF : Hid (fnB (fiKs es) x = (cmpB S0 x == 0)) := Lib.hid (by unfold fnB; rw [HP.out, List.getElem?_eq_getElem (by rw [HL.out]; exact hpl), HK.out])
        generalize cmpB S0 x = c at HC HF
        go_wp2_with fail
        refine (HC.out _).mono ?_
        rintro e w1 ⟨rfl, hb1⟩
        have hB1 := hB.trans (hb1.mono hB.size)
        clear hb1 hB c0 c1
        obtain ⟨d, hd⟩ : ∃ d, (c == 0) = d := ⟨_, rfl⟩
        rw [hd] at HF
        go_wp2
        go_ret2
        exact ⟨ret_twoK (by rw [HP.out]) HF.out, hB1⟩
      · have hpd : decide ((p : Int) < (es.length : Int)) = false := decide_eq_false (by omega)
        have HF : Hid (fnB (fiKs es) x = false) := Lib.hid (by unfold fnB; rw [HP.out, List.getElem?_eq_none (by have := HL.out; omega)])
        go_wp2
        go_ret2
        exact ⟨ret_twoK (by rw [HP.out]) HF.out, hB⟩

set_option maxRecDepth 100000 in
set_option maxHeartbeats 1600000 in
theorem placeOfF_any (v : Value) (es : List Fi) (x : ByteArray) (w : World) (h : FiAt w w.heap.size v es) (hn : es.length ≤ 1000000000) (hmo : MonoK (fiKs es) x) :
    Calls Try.prog 139 #[v, .string x] w fun e w' => e = .returned (.tuple #[.int .i64 (plK (fiKs es) x : Nat), .bool (fnB (fiKs es) x)]) ∧ Below w.heap.size w w' := by
  have HC := Lib.hid (searchF_any v es x w h hn hmo)
  generalize plK (fiKs es) x = p at HC ⊢
  generalize fnB (fiKs es) x = f at HC ⊢
  clear hmo h
  go_enter Try.func139, Try.ntmps139
  go_wp2_with fail
  refine HC.out.mono ?_
  rintro e w1 ⟨rfl, hb1⟩
  go_wp2
  go_ret2
  exact ⟨rfl, hb1⟩

end Go.Proofs.Ytffkakpbelknaaa

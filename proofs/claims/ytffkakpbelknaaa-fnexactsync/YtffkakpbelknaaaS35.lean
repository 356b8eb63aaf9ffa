/- Joined: W14l. -/
import Derived.Test.YtffkakpbelknaaaS34
/- W14l -/
namespace Go.Proofs.Ytffkakpbelknaaa
open Go.ChangeShapes Go.WideShapes Go.ChangeAt Go.RowKit
set_option linter.unusedVariables false

theorem fiSz_P {es : List Fi} (h : ∀ x ∈ es, FiSz x) (nm da : ByteArray) (h1 : nm.size ≤ maxLen) (h2 : da.size ≤ maxLen) : ∀ x ∈ fiP es nm da, FiSz x := by
  intro x hx
  unfold fiP putP at hx
  rcases List.mem_append.1 hx with hx | hx
  · exact h x (List.mem_of_mem_take hx)
  · rcases List.mem_cons.1 hx with rfl | hx
    · exact ⟨h1, h2⟩
    · exact h x (List.mem_of_mem_drop hx)
theorem chL_sz {es : List Fi} {o : DOp} (h : ∀ x ∈ es, FiSz x) (ho : DoSz o) (hs : fiSum es ≤ 100000000000) (hd : o.da.size ≤ 100000000000) : ∀ x ∈ chL es o, FiSz x := by
  have hg := fiG_sum es o.nm
  unfold chL
  split
  · refine fiSz_P h _ _ ho.1 ?_
    rw [ByteArray.size_append]
    unfold maxLen
    omega
  · split
    · refine fiSz_P (fiSz_X h _) _ _ ho.2.1 ?_
      unfold maxLen
      omega
    · exact fiSz_X h _
theorem chL_sum (es : List Fi) (o : DOp) : fiSum (chL es o) ≤ fiSum es + fiSum es + o.da.size := by
  have hg := fiG_sum es o.nm
  unfold chL
  split
  · have := sum_fiP es o.nm (fiG es o.nm ++ o.da)
    rw [ByteArray.size_append] at this
    omega
  · split
    · have := sum_fiP (fiX es o.nm) o.tn (fiG es o.nm)
      have := sum_fiX es o.nm
      omega
    · have := sum_fiX es o.nm
      omega
theorem chL_len (es : List Fi) (o : DOp) : (chL es o).length ≤ es.length + 1 := by
  unfold chL
  split
  · exact len_fiP _ _ _
  · split
    · have := len_fiP (fiX es o.nm) o.tn (fiG es o.nm)
      have := len_fiX es o.nm
      omega
    · have := len_fiX es o.nm
      omega
theorem chL_ris {es : List Fi} (h : risB (fiKs es) = true) (o : DOp) : risB (fiKs (chL es o)) = true := by
  unfold chL
  split
  · exact ris_fiP h _ _
  · split
    · exact ris_fiP (ris_fiX h _) _ _
    · exact ris_fiX h _
theorem frB1_k {o : DOp} (h : frB1 o = true) : o.k = 1 ∨ o.k = 2 ∨ o.k = 3 := by
  unfold frB1 at h
  by_cases h1 : o.k = 1
  · exact Or.inl h1
  · by_cases h2 : o.k = 2
    · exact Or.inr (Or.inl h2)
    · by_cases h3 : o.k = 3
      · exact Or.inr (Or.inr h3)
      · rw [if_neg h1, if_neg h2, if_neg h3] at h
        cases h

theorem changed_any (v : Value) (es : List Fi) (o : DOp) (w : World) (h : FiAt w w.heap.size v es) (hr : risB (fiKs es) = true) (hn : es.length ≤ 800) (hs : fiSum es ≤ 100000000000) (hd : o.da.size ≤ 100000000000) (hk : o.k = 1 ∨ o.k = 2 ∨ o.k = 3) :
    Calls Try.prog 90 #[v, chgV o] w (OutCh v es o w) := by
  obtain ⟨k, nm, tn, da⟩ := o
  simp only at hd hk
  rcases hk with rfl | rfl | rfl
  · refine (changed_ap v es nm da w h hr hn (by omega) (by omega)).mono ?_
    rintro e w' ⟨v', rfl, h1, h2⟩
    exact ⟨v', rfl, fun _ => h1, fun h => (by cases h), h2⟩
  · refine (changed_rn v es nm tn w h hr hn).mono ?_
    rintro e w' ⟨v', rfl, h1, h2, h3⟩
    exact ⟨v', rfl, h1, h2, h3⟩
  · refine (changed_rm v es nm w h hr hn).mono ?_
    rintro e w' ⟨v', rfl, h1, h2, h3⟩
    exact ⟨v', rfl, h1, h2, h3⟩

/-- The code with which an operation ends, but for how many there are. -/
def dnK (es : List Fi) (o : DOp) : Int := if frB1 o then (if chB es o then (if fitB (chL es o) then 0 else 4) else 3) else 2
def OutDo (es : List Fi) (o : DOp) (w : World) (e : Ending) (w' : World) : Prop := ∃ v', e = .returned (.tuple #[v', .int .i64 (dnK es o)]) ∧ (dnK es o = 0 → OwnR 167 2 fiC w' w.heap.size v' (chL es o)) ∧ (dnK es o ≠ 0 → v' = .slice none 0 0) ∧ Below w.heap.size w w'

set_option maxRecDepth 100000 in
set_option maxHeartbeats 1600000 in
theorem doneOn_any (v : Value) (es : List Fi) (o : DOp) (w : World) (h : FiAt w w.heap.size v es) (hr : risB (fiKs es) = true) (hn : es.length ≤ 800) (hs : fiSum es ≤ 100000000000) (hd : o.da.size ≤ 100000000000) (hz : DoSz o) :
    Calls Try.prog 76 #[v, doV o] w (OutDo es o w) := by
  unfold OutDo
  have HC := Lib.hid (fun w => changeOf_any o w hz)
  have HH := Lib.hid (fun hk w h => changed_any v es o w h hr hn hs hd hk)
  have HG := Lib.hid (fun u w h => filesFit_any u (chL es o) w h (by have := chL_sum es o; omega))
  have HZ := Lib.hid (chL_sz h.2 hz hs hd)
  have HK := Lib.hid (fun h => frB1_k (o := o) h)
  have HD : Hid (dnK es o = if frB1 o then (if chB es o then (if fitB (chL es o) then 0 else 4) else 3) else 2) := Lib.hid rfl
  have HI := Lib.hid h
  obtain ⟨a, cap, rfl, hl, hm, hc⟩ := h.raw
  unfold maxLen at hm
  clear h hc hs hd hz hr
  unfold OutCh at HH
  generalize dnK es o = DK at HD ⊢
  generalize frB1 o = F at HC HD HK
  generalize chB es o = B at HH HD
  generalize chgV o = CV at HC HH
  generalize chL es o = LL at HH HG HD HZ ⊢
  obtain ⟨k, nm, tn, da⟩ := o
  try simp only at HC
  try simp only at HH
  try simp only at HK
  try simp only
  have hB0 : Below w.heap.size w (w.alloc (.cells #[.int .i64 k, .string nm, .string tn, .string da] 68)) := (Below.refl _ _).alloc (Nat.le_refl _) _
  cases F with
  | false =>
    obtain rfl : DK = 2 := HD.out
    go_enter Try.func76, Try.ntmps76
    go_wp2_with fail
    refine (HC.out _).mono ?_
    rintro e w1 ⟨rfl, hb1⟩
    have hB1 := hB0.trans (hb1.mono hB0.size)
    go_wp2
    go_ret2
    exact ⟨_, rfl, fun h => (by cases h), fun _ => rfl, hB1⟩
  | true =>
    have HH2 := Lib.hid (HH.out (HK.out rfl))
    go_enter Try.func76, Try.ntmps76
    go_wp2_with fail
    refine (HC.out _).mono ?_
    rintro e w1 ⟨rfl, hb1⟩
    have hB1 := hB0.trans (hb1.mono hB0.size)
    clear hb1
    go_wp2_with fail
    refine (HH2.out _ ((HI.out.below hB1).mono hB1.size)).mono ?_
    rintro e w2 ⟨v2, rfl, hown, _, hb2⟩
    have hB2 := hB1.trans (hb2.mono hB1.size)
    cases B with
    | false =>
      obtain rfl : DK = 3 := HD.out
      clear hown
      go_wp2
      go_ret2
      exact ⟨_, rfl, fun h => (by cases h), fun _ => rfl, hB2⟩
    | true =>
      have HO := Lib.hid ((hown rfl).base_mono hB1.size)
      have HF := Lib.hid (FiAt.of_own (hown rfl) HZ.out)
      clear hown
      go_wp2_with fail
      refine (HG.out _ _ HF.out).mono ?_
      rintro e w3 ⟨rfl, hb3⟩
      have hB3 := hB2.trans (hb3.mono hB2.size)
      have HO3 := Lib.hid (HO.out.keep hb3 (Nat.le_refl _))
      clear hb3
      generalize fitB LL = C at HD ⊢
      cases C with
      | false =>
        obtain rfl : DK = 4 := HD.out
        go_wp2
        go_ret2
        exact ⟨_, rfl, fun h => (by cases h), fun _ => rfl, hB3⟩
      | true =>
        obtain rfl : DK = 0 := HD.out
        go_wp2
        go_ret2
        exact ⟨_, rfl, HO3.out, hB3⟩
end Go.Proofs.Ytffkakpbelknaaa

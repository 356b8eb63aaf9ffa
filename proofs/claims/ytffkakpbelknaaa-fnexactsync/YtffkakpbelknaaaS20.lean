/- Joined: W14d. -/
import Derived.Test.YtffkakpbelknaaaS19
/- W14d -/
namespace Go.Proofs.Ytffkakpbelknaaa
open Go.ChangeShapes Go.WideShapes Go.ChangeAt Go.RowKit
set_option linter.unusedVariables false

def nmO (s : ByteArray) : Bool := decide (1 ≤ s.size) && decide (s.size ≤ 100)
def fiSum (es : List Fi) : Nat := (es.map fun x => x.da.size).sum
theorem fiSum_take (es : List Fi) (k : Nat) (h : k < es.length) : fiSum (es.take (k + 1)) = fiSum (es.take k) + es[k].da.size := by
  unfold fiSum
  rw [List.take_succ_eq_append_getElem h, List.map_append, List.sum_append]
  simp
theorem fiSum_le (es : List Fi) (k : Nat) : fiSum (es.take k) ≤ fiSum es := by
  have h : fiSum es = fiSum (es.take k) + fiSum (es.drop k) := by
    unfold fiSum
    rw [← List.sum_append, ← List.map_append, List.take_append_drop]
  omega
def fitB (es : List Fi) : Bool := decide (es.length ≤ 60) && decide (fiSum es ≤ 200000)
def fnO (es : List Fi) (k : Nat) : Bool := match es[k]? with
  | some x => nmO x.nm
  | none => true
theorem fnO_at (es : List Fi) (k : Nat) (h : k < es.length) : fnO es k = nmO es[k].nm := by
  unfold fnO; rw [List.getElem?_eq_getElem h]
def flsB (es : List Fi) : Bool := allB es.length (fnO es) && (risB (fiKs es) && fitB es)

theorem isFileName_any (s : ByteArray) (w : World) (hs : s.size ≤ maxLen) :
    Calls Try.prog 138 #[.string s] w fun e w' => e = .returned (.bool (nmO s)) ∧ w = w' := by
  unfold maxLen at hs
  by_cases h1 : 1 ≤ s.size
  · have h1' : (1 : Int) ≤ (s.size : Int) := by omega
    by_cases h2 : s.size ≤ 100
    · have HV : Hid (nmO s = true) := Lib.hid (by unfold nmO; simp [h1, h2])
      have h2' : (s.size : Int) ≤ 100 := by omega
      rw [HV.out]
      go_enter Try.func138, Try.ntmps138
      go_wp2
      go_ret
      exact ⟨rfl, rfl⟩
    · have HV : Hid (nmO s = false) := Lib.hid (by unfold nmO; simp [h2])
      have h2' : ¬ (s.size : Int) ≤ 100 := by omega
      rw [HV.out]
      go_enter Try.func138, Try.ntmps138
      go_wp2
      go_ret
      exact ⟨rfl, rfl⟩
  · have HV : Hid (nmO s = false) := Lib.hid (by unfold nmO; simp [h1])
    have h1' : ¬ (1 : Int) ≤ (s.size : Int) := by omega
    rw [HV.out]
    go_enter Try.func138, Try.ntmps138
    go_wp2
    go_ret
    exact ⟨rfl, rfl⟩

theorem l14Name_any (s : ByteArray) (w : World) (hs : s.size ≤ maxLen) :
    Calls Try.prog 137 #[.string s] w fun e w' => e = .returned (.bool (nmO s)) ∧ w = w' := by
  unfold maxLen at hs
  by_cases h1 : 1 ≤ s.size
  · have h1' : (1 : Int) ≤ (s.size : Int) := by omega
    by_cases h2 : s.size ≤ 100
    · have HV : Hid (nmO s = true) := Lib.hid (by unfold nmO; simp [h1, h2])
      have h2' : (s.size : Int) ≤ 100 := by omega
      rw [HV.out]
      go_enter Try.func137, Try.ntmps137
      go_wp2
      go_ret
      exact ⟨rfl, rfl⟩
    · have HV : Hid (nmO s = false) := Lib.hid (by unfold nmO; simp [h2])
      have h2' : ¬ (s.size : Int) ≤ 100 := by omega
      rw [HV.out]
      go_enter Try.func137, Try.ntmps137
      go_wp2
      go_ret
      exact ⟨rfl, rfl⟩
  · have HV : Hid (nmO s = false) := Lib.hid (by unfold nmO; simp [h1])
    have h1' : ¬ (1 : Int) ≤ (s.size : Int) := by omega
    rw [HV.out]
    go_enter Try.func137, Try.ntmps137
    go_wp2
    go_ret
    exact ⟨rfl, rfl⟩

set_option maxRecDepth 100000 in
set_option maxHeartbeats 1600000 in
theorem filesFit_any (v : Value) (es : List Fi) (w : World) (h : FiAt w w.heap.size v es) (hs : fiSum es ≤ 1000000000000) :
    Calls Try.prog 91 #[v] w fun e w' => e = .returned (.bool (fitB es)) ∧ Below w.heap.size w w' := by
  have HI := Lib.hid h
  obtain ⟨a, cap, rfl, hl, hm, hc⟩ := h.raw
  clear hc h
  unfold maxLen at hm
  have HT := Lib.hid (fiSum_take es)
  have HL : Hid (∀ k, fiSum (es.take k) ≤ 1000000000000) := Lib.hid (fun k => Nat.le_trans (fiSum_le es k) hs)
  have HV : Hid (∀ k, ¬ k < es.length → fiSum (es.take k) = fiSum es) := Lib.hid (fun k hk => by rw [List.take_of_length_le (by omega)])
  have HF : Hid (fitB es = (decide (es.length ≤ 60) && decide (fiSum es ≤ 200000))) := Lib.hid rfl
  generalize fitB es = R at HF ⊢
  clear hs
  go_enter Try.func91, Try.ntmps91
  go_wp2
  go_loopw [3, 8] (fun s i wr => ∃ k n : Nat, k ≤ es.length ∧ i = .int .i64 (k : Int) ∧ s = .int .i64 (n : Int) ∧ n ≤ 1000000000000 ∧ Below w.heap.size w wr ∧ Hid (n = fiSum (es.take k))) (fun _ i _ => es.length - (intOf i).toNat)
  case atStart => exact ⟨0, 0, Nat.zero_le _, rfl, rfl, by omega, Below.refl _ _, Lib.hid rfl⟩
  case round =>
    obtain ⟨k, n, hk, rfl, rfl, hn, hB, HN⟩ := hrel
    by_cases hlt : k < es.length
    · obtain ⟨a', cap', hv, _, _, hc⟩ := (HI.out.below hB).raw
      cases hv
      obtain ⟨b, off, rfl, hb, hr⟩ := hc k hlt
      obtain ⟨c0, c1, s0, s1⟩ := hr k hlt
      have HS := Lib.hid (HT.out k hlt)
      obtain ⟨S0, hS0⟩ : ∃ x, x = es[k].nm := ⟨_, rfl⟩
      obtain ⟨S1, hS1⟩ : ∃ x, x = es[k].da := ⟨_, rfl⟩
      rw [← hS0] at c0
      rw [← hS1] at c1 s1 HS
      unfold maxLen at s1
      obtain ⟨m, hmE⟩ : ∃ m, m = S1.size := ⟨_, rfl⟩
      have HS' : Hid (n + m = fiSum (es.take (k + 1))) := Lib.hid (by rw [HS.out, hmE, HN.out])
      have hn2 : n + m ≤ 1000000000000 := by rw [HS'.out]; exact HL.out (k + 1)
      have hB1 : Below w.heap.size w (wr.alloc (.cells #[.string S0, .string S1] 167)) := hB.alloc hB.size _
      rw [hmE] at hn2 HS'
      clear hr hc hS0 hS1 s0 hmE m HS
      go_wp2
      go_roundw
      case rel => exact ⟨k + 1, n + S1.size, by omega, by go_num, by go_num, hn2, hB1, HS'⟩
      case measure => simp [intOf]; omega
    · have HZ : Hid (n = fiSum es) := Lib.hid (by rw [HN.out, HV.out k hlt])
      by_cases h1 : es.length ≤ 60
      · have h1' : (es.length : Int) ≤ 60 := by omega
        by_cases h2 : n ≤ 200000
        · have h2' : (n : Int) ≤ 200000 := by omega
          have HW : Hid (R = true) := Lib.hid (by rw [HF.out, ← HZ.out]; simp [h1, h2])
          clear h1 h2
          go_wp2
          go_ret
          exact ⟨ret_bool HW.out.symm, hB⟩
        · have h2' : ¬ (n : Int) ≤ 200000 := by omega
          have HW : Hid (R = false) := Lib.hid (by rw [HF.out, ← HZ.out]; simp [h2])
          clear h1 h2
          go_wp2
          go_ret
          exact ⟨ret_bool HW.out.symm, hB⟩
      · have h1' : ¬ (es.length : Int) ≤ 60 := by omega
        have HW : Hid (R = false) := Lib.hid (by rw [HF.out]; simp [h1])
        clear h1
        go_wp2
        go_ret
        exact ⟨ret_bool HW.out.symm, hB⟩

set_option maxRecDepth 100000 in
set_option maxHeartbeats 1600000 in
theorem filesOk_any (v : Value) (es : List Fi) (w : World) (h : FiAt w w.heap.size v es) (hs : fiSum es ≤ 1000000000000) :
    Calls Try.prog 128 #[v] w fun e w' => e = .returned (.bool (flsB es)) ∧ Below w.heap.size w w' := by
  have HI := Lib.hid h
  obtain ⟨a, cap, rfl, hl, hm, hc⟩ := h.raw
  clear hc h
  unfold maxLen at hm
  have HR := Lib.hid (fun w h => risesF_any (.slice a es.length cap) es w h)
  have HG := Lib.hid (fun w h => filesFit_any (.slice a es.length cap) es w h hs)
  have HE : Hid (flsB es = (allB es.length (fnO es) && (risB (fiKs es) && fitB es))) := Lib.hid rfl
  rw [HE.out]
  clear HE hs
  have HX : Hid (∀ k, k < es.length → fnO es k = false → allB es.length (fnO es) = false) := Lib.hid (fun k hk h => allB_out k hk h)
  have HD : Hid (∀ k, ¬ k < es.length → (∀ j, j < k → fnO es j = true) → allB es.length (fnO es) = true) := Lib.hid (fun k hk h => allB_end k hk h)
  generalize allB es.length (fnO es) = R at HX HD ⊢
  generalize risB (fiKs es) = R2 at HR ⊢
  generalize fitB es = R3 at HG ⊢
  go_enter Try.func128, Try.ntmps128
  go_wp2
  go_loopw [7] (fun i wr => ∃ k : Nat, k ≤ es.length ∧ i = .int .i64 (k : Int) ∧ Below w.heap.size w wr ∧ Hid (∀ j, j < k → fnO es j = true)) (fun i _ => es.length - (intOf i).toNat)
  case atStart => exact ⟨0, Nat.zero_le _, rfl, Below.refl _ _, Lib.hid (fun j hj => by omega)⟩
  case round =>
    obtain ⟨k, hk, rfl, hB, HO⟩ := hrel
    by_cases hlt : k < es.length
    · obtain ⟨a', cap', hv, _, _, hc⟩ := (HI.out.below hB).raw
      cases hv
      obtain ⟨b, off, rfl, hb, hr⟩ := hc k hlt
      obtain ⟨c0, c1, s0, s1⟩ := hr k hlt
      have HC := Lib.hid (fun w => isFileName_any es[k].nm w s0)
      have HK := Lib.hid (fnO_at es k hlt)
      generalize nmO es[k].nm = Q at HC HK
      obtain ⟨S0, hS0⟩ : ∃ x, x = es[k].nm := ⟨_, rfl⟩
      obtain ⟨S1, hS1⟩ : ∃ x, x = es[k].da := ⟨_, rfl⟩
      rw [← hS0] at c0 HC
      rw [← hS1] at c1
      have hB1 : Below w.heap.size w (wr.alloc (.cells #[.string S0, .string S1] 167)) := hB.alloc hB.size _
      clear hr hc hS0 hS1 s0 s1
      go_wp2_with fail
      refine (HC.out _).mono ?_
      rintro e w1 ⟨rfl, rfl⟩
      clear hB c0 c1
      cases Q with
      | false =>
        have HZ : Hid (R = false) := Lib.hid (HX.out k hlt HK.out)
        go_wp2
        go_ret
        exact ⟨ret_bool (by rw [HZ.out]; rfl), hB1⟩
      | true =>
        have HO' : Hid (∀ j, j < k + 1 → fnO es j = true) := Lib.hid (fun j hj => by
          by_cases hjk : j = k
          · subst hjk; exact HK.out
          · exact HO.out j (by omega))
        go_wp2
        go_roundw
        case rel => exact ⟨k + 1, by omega, by go_num, hB1, HO'⟩
        case measure => simp [intOf]; omega
    · have HZ : Hid (R = true) := Lib.hid (HD.out k hlt HO.out)
      go_wp2_with fail
      refine (HR.out _ ((HI.out.below hB).mono hB.size)).mono ?_
      rintro e w1 ⟨rfl, hb1⟩
      have hB2 := hB.trans (hb1.mono hB.size)
      clear hb1 hB
      cases R2 with
      | false =>
        go_wp2
        go_ret
        exact ⟨ret_bool (by rw [HZ.out]; rfl), hB2⟩
      | true =>
        go_wp2_with fail
        refine (HG.out _ ((HI.out.below hB2).mono hB2.size)).mono ?_
        rintro e w2 ⟨rfl, hb2⟩
        have hB3 := hB2.trans (hb2.mono hB2.size)
        clear hb2 hB2
        go_wp2
        go_ret
        exact ⟨ret_bool (by rw [HZ.out]; rfl), hB3⟩
end Go.Proofs.Ytffkakpbelknaaa

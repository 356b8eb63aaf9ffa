/- Counts, of both sides. -/
import Derived.Test.YtgimjfffdnopiaaW9o
import Derived.Test.YtgimjfffdnopiaaW9c
import Derived.Test.YtgimjfffdnopiaaW9e
namespace Go.Proofs.Ytgimjfffdnopiaa
open Go.ChangeShapes Go.WideShapes Go.ChangeAt Go.RowKit
set_option linter.unusedVariables false

def c3V (x : Nat × Nat × Nat) : Value := .tuple #[.int .i64 (x.1 : Int), .int .i64 (x.2.1 : Int), .int .i64 (x.2.2 : Int)]
theorem ret_c3 {x : Nat × Nat × Nat} {a b c : Int} (h1 : (x.1 : Int) = a) (h2 : (x.2.1 : Int) = b) (h3 : (x.2.2 : Int) = c) : Ending.returned (.tuple #[.int .i64 a, .int .i64 b, .int .i64 c]) = .returned (c3V x) := by
  unfold c3V; rw [h1, h2, h3]
theorem rdB_parts {ss : List Sb} (h : rdB ss = true) : ss.length ≤ 6 ∧ risB (sbKs ss) = true := by
  unfold rdB at h
  simp only [Bool.and_eq_true, decide_eq_true_eq] at h
  exact ⟨h.1, h.2.2⟩
/-- What l9At answers. -/
def atK (ks : List ByteArray) (x : ByteArray) : Int := match ixK ks x with
  | some i => (i : Int)
  | none => -1

set_option maxRecDepth 100000 in
set_option maxHeartbeats 1600000 in
theorem l9At_any (v : Value) (ss : List Sb) (x : ByteArray) (w : World) (h : SbAt w w.heap.size v ss) :
    Calls Try.prog 164 #[.agg #[v], .string x] w fun e w' => e = .returned (.int .i64 (atK (sbKs ss) x)) ∧ Below w.heap.size w w' := by
  have HI := Lib.hid h
  obtain ⟨a, cap, rfl, hl, hm, hc⟩ := h.raw
  clear hc h
  unfold maxLen at hm
  have HL : Hid ((sbKs ss).length = ss.length) := Lib.hid (by simp [sbKs])
  have HX : Hid (∀ k (hk : k < ss.length), (ss[k].u.toList == x.toList) = true → (∀ j (hj : j < ss.length), j < k → (ss[j].u.toList == x.toList) = false) → atK (sbKs ss) x = (k : Int)) := Lib.hid (fun k hk h1 h2 => by
    have : ixK (sbKs ss) x = some k := by
      unfold ixK
      rw [List.findIdx?_eq_some_iff_getElem]
      refine ⟨by rw [HL.out]; exact hk, by simpa [sbKs] using h1, fun j hj => ?_⟩
      have := h2 j (by omega) hj
      simpa [sbKs] using this
    unfold atK
    rw [this])
  have HD : Hid ((∀ j (hj : j < ss.length), (ss[j].u.toList == x.toList) = false) → atK (sbKs ss) x = -1) := Lib.hid (fun h2 => by
    have : ixK (sbKs ss) x = none := by
      unfold ixK
      rw [List.findIdx?_eq_none_iff]
      intro k hk
      obtain ⟨s, hs, rfl⟩ := List.mem_map.1 hk
      obtain ⟨j, hj, rfl⟩ := List.getElem_of_mem hs
      exact h2 j hj
    unfold atK
    rw [this])
  generalize atK (sbKs ss) x = R at HX HD ⊢
  have hB0 : Below w.heap.size w (w.alloc (.cells #[.slice a ss.length cap] 28)) := (Below.refl _ _).alloc (Nat.le_refl _) _
  have f0 : (w.alloc (.cells #[.slice a ss.length cap] 28)).cell? ⟨w.heap.size, 0, none⟩ = some (.slice a ss.length cap) := (Box.new w #[.slice a ss.length cap] 28).cell 0 _ rfl
  have HI2 := Lib.hid (HI.out.below hB0)
  go_enter Try.func164, Try.ntmps164
  go_wp2
  generalize w.alloc (.cells #[.slice a ss.length cap] 28) = W at hB0 f0 HI2 ⊢
  go_loop [5] (fun i => ∃ k : Nat, k ≤ ss.length ∧ i = .int .i64 (k : Int) ∧ Hid (∀ j (hj : j < ss.length), j < k → (ss[j].u.toList == x.toList) = false)) (fun i => ss.length - (intOf i).toNat)
  case atStart => exact ⟨0, Nat.zero_le _, rfl, Lib.hid (fun j hj h => by omega)⟩
  case round =>
    obtain ⟨k, hk, rfl, HO⟩ := hrel
    by_cases hlt : k < ss.length
    · obtain ⟨a', cap', hv, _, _, hc⟩ := HI2.out.raw
      cases hv
      obtain ⟨b, off, rfl, hb, hr⟩ := hc k hlt
      obtain ⟨y, c0, c1, c2, _, _, _⟩ := hr k hlt
      have HK := Lib.hid (HX.out k hlt)
      have HN : Hid ((ss[k].u.toList == x.toList) = false → ∀ j (hj : j < ss.length), j < k + 1 → (ss[j].u.toList == x.toList) = false) := Lib.hid (fun h j hj hjk => by
        by_cases e : j = k
        · subst e; exact h
        · exact HO.out j hj (by omega))
      obtain ⟨U, hU⟩ : ∃ U, U = ss[k].u := ⟨_, rfl⟩
      rw [← hU] at c0 HK HN
      clear hr hc hU
      obtain ⟨e, he⟩ : ∃ e, (U.toList == x.toList) = e := ⟨_, rfl⟩
      rw [he] at HK HN
      cases e with
      | true =>
        have HZ : Hid (R = (k : Int)) := Lib.hid (HK.out rfl HO.out)
        go_wp2
        go_ret
        exact ⟨ret_int HZ.out.symm, hB0⟩
      | false =>
        have HO' := Lib.hid (HN.out rfl)
        go_wp2
        refine ⟨⟨k + 1, by omega, by simp, HO'⟩, ?_⟩
        simp [intOf]; omega
    · have HZ : Hid (R = -1) := Lib.hid (HD.out (fun j hj => HO.out j hj (by omega)))
      go_wp2
      go_ret
      exact ⟨ret_int HZ.out.symm, hB0⟩

end Go.Proofs.Ytgimjfffdnopiaa

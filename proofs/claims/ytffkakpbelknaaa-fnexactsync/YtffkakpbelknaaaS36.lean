/- Joined: W14e. -/
import Derived.BigQuiet
import Derived.Laws.StructEq
import Derived.Test.YtffkakpbelknaaaS20
/- W14e -/
namespace Go.Proofs.Ytffkakpbelknaaa
open Go.ChangeShapes Go.WideShapes Go.ChangeAt Go.RowKit
set_option linter.unusedVariables false

def fiQ (x y : Fi) : Bool := (x.nm.toList == y.nm.toList) && (x.da.toList == y.da.toList)
def fqO (xs ys : List Fi) (k : Nat) : Bool := match xs[k]?, ys[k]? with
  | some x, some y => fiQ x y
  | _, _ => true
theorem fqO_at (xs ys : List Fi) (k : Nat) (h1 : k < xs.length) (h2 : k < ys.length) : fqO xs ys k = fiQ xs[k] ys[k] := by
  unfold fqO; rw [List.getElem?_eq_getElem h1, List.getElem?_eq_getElem h2]
def fqB (xs ys : List Fi) : Bool := decide (xs.length = ys.length) && allB xs.length (fqO xs ys)

theorem Try.eqFile (w : World) (a b c d : ByteArray) : (Op.equalIn 10000 167 (fiV a b) (fiV c d)).run Try.prog w = .ok ((a.toList == c.toList) && (b.toList == d.toList)) w := by
  have u3 := Try.underlying9
  have a3 := Try.isAgg9
  have z3 := Try.sizeOf9
  have hS : Try.prog.underlying 167 = some (.struct (Try.prog.fieldsOf 167)) := by kernel_rfl
  have hp : Try.prog.stoodInHeld 167 = false := by kernel_rfl
  rw [show (10000 : Nat) = 9999 + 1 from rfl, run_equalIn_agg w 9999 167 _ _ hS hp]
  simp only [Program.fieldsOf, Try.underlying167]
  go_simp
  obtain ⟨Q1, hQ1⟩ : ∃ Q, (a.toList == c.toList) = Q := ⟨_, rfl⟩
  obtain ⟨Q2, hQ2⟩ : ∃ Q, (b.toList == d.toList) = Q := ⟨_, rfl⟩
  cases Q1 <;> cases Q2 <;> simp_all
theorem Try.gdFile : Try.prog.eqGuardType Try.prog.depth 167 = false := by kernel_rfl

set_option maxRecDepth 100000 in
set_option maxHeartbeats 1600000 in
theorem filesEqual_any (u v : Value) (xs ys : List Fi) (w : World) (h : FiAt w w.heap.size u xs) (h' : FiAt w w.heap.size v ys) :
    Calls Try.prog 129 #[u, v] w fun e w' => e = .returned (.bool (fqB xs ys)) ∧ Below w.heap.size w w' := by
  have HI := Lib.hid h
  have HJ := Lib.hid h'
  obtain ⟨a, cap, rfl, hl, hm, hc⟩ := h.raw
  obtain ⟨a2, cap2, rfl, hl2, hm2, hc2⟩ := h'.raw
  clear hc h hc2 h'
  unfold maxLen at hm hm2
  by_cases hlen : xs.length = ys.length
  · have hd : (xs.length : Int) = (ys.length : Int) := by omega
    have HX : Hid (∀ k, k < xs.length → fqO xs ys k = false → fqB xs ys = false) := Lib.hid (fun k hk h => by unfold fqB; rw [allB_out k hk h, Bool.and_false])
    have HD : Hid (∀ k, ¬ k < xs.length → (∀ j, j < k → fqO xs ys j = true) → fqB xs ys = true) := Lib.hid (fun k hk h => by unfold fqB; rw [allB_end k hk h, decide_eq_true hlen]; rfl)
    generalize fqB xs ys = R at HX HD ⊢
    have HY : Hid (ys.length = xs.length) := Lib.hid hlen.symm
    rw [← hlen] at hl2 ⊢
    clear hlen hd
    go_enter Try.func129, Try.ntmps129
    go_wp2
    go_loopw [13] (fun i wr => ∃ k : Nat, k ≤ xs.length ∧ i = .int .i64 (k : Int) ∧ Below w.heap.size w wr ∧ Hid (∀ j, j < k → fqO xs ys j = true)) (fun i _ => xs.length - (intOf i).toNat)
    case atStart => exact ⟨0, Nat.zero_le _, rfl, Below.refl _ _, Lib.hid (fun j hj => by omega)⟩
    case round =>
      obtain ⟨k, hk, rfl, hB, HO⟩ := hrel
      have HBn : Hid (∀ n, Below w.heap.size w (wr.drewN n)) := Lib.hid (fun n => below_drewN hB n)
      by_cases hlt : k < xs.length
      · obtain ⟨a', cap', hv, _, _, hc⟩ := (HI.out.below hB).raw
        cases hv
        obtain ⟨b, off, rfl, hb, hr⟩ := hc k hlt
        obtain ⟨c0, c1, _, _⟩ := hr k hlt
        obtain ⟨a', cap', hv, _, _, hc'⟩ := (HJ.out.below hB).raw
        rw [HY.out] at hv
        cases hv
        have hlt2 : k < ys.length := by rw [HY.out]; exact hlt
        obtain ⟨b2, off2, rfl, hb2, hr2⟩ := hc' k hlt2
        obtain ⟨e0, e1, _, _⟩ := hr2 k hlt2
        have HK := Lib.hid (fqO_at xs ys k hlt hlt2)
        obtain ⟨S0, hS0⟩ : ∃ x, x = xs[k].nm := ⟨_, rfl⟩
        obtain ⟨S1, hS1⟩ : ∃ x, x = xs[k].da := ⟨_, rfl⟩
        obtain ⟨T0, hT0⟩ : ∃ x, x = ys[k].nm := ⟨_, rfl⟩
        obtain ⟨T1, hT1⟩ : ∃ x, x = ys[k].da := ⟨_, rfl⟩
        unfold fiQ at HK
        rw [← hS0] at c0 HK
        rw [← hS1] at c1 HK
        rw [← hT0] at e0 HK
        rw [← hT1] at e1 HK
        clear hr hc hr2 hc' hS0 hS1 hT0 hT1 hB
        obtain ⟨Q1, hQ1⟩ : ∃ Q, (S0.toList == T0.toList) = Q := ⟨_, rfl⟩
        obtain ⟨Q2, hQ2⟩ : ∃ Q, (S1.toList == T1.toList) = Q := ⟨_, rfl⟩
        rw [hQ1, hQ2] at HK
        have hE : ∀ w, (Op.equalIn 10000 167 (fiV S0 S1) (fiV T0 T1)).run Try.prog w = .ok (Q1 && Q2) w := fun w => by rw [Try.eqFile, hQ1, hQ2]
        have hG := Try.gdFile
        clear hQ1 hQ2
        obtain ⟨Q, hQ⟩ : ∃ Q, (Q1 && Q2) = Q := ⟨_, rfl⟩
        rw [hQ] at HK hE
        clear hQ
        cases Q with
        | false =>
          have HZ : Hid (R = false) := Lib.hid (HX.out k hlt HK.out)
          go_wp2
          go_quiet (fail)
          go_wp2
          go_ret
          exact ⟨ret_bool HZ.out.symm, HBn.out _⟩
        | true =>
          have HO' : Hid (∀ j, j < k + 1 → fqO xs ys j = true) := Lib.hid (fun j hj => by
            by_cases hjk : j = k
            · subst hjk; exact HK.out
            · exact HO.out j (by omega))
          go_wp2
          go_quiet (fail)
          go_wp2
          go_roundw
          case rel => exact ⟨k + 1, by omega, by go_num, HBn.out _, HO'⟩
          case measure => simp [intOf]; omega
      · have HZ : Hid (R = true) := Lib.hid (HD.out k hlt HO.out)
        go_wp2
        go_ret
        exact ⟨ret_bool HZ.out.symm, hB⟩
  · have hd : ¬ (xs.length : Int) = (ys.length : Int) := by omega
    have HZ : Hid (fqB xs ys = false) := Lib.hid (by unfold fqB; rw [decide_eq_false hlen]; rfl)
    rw [HZ.out]
    go_enter Try.func129, Try.ntmps129
    go_wp2
    go_ret
    exact ⟨rfl, Below.refl _ _⟩
end Go.Proofs.Ytffkakpbelknaaa

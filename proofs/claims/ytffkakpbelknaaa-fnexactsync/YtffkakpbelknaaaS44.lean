/- Joined: W14o. -/
import Derived.BigQuiet
import Derived.Laws.Cover1
import Derived.Test.YtffkakpbelknaaaS43
/- W14o -/
namespace Go.Proofs.Ytffkakpbelknaaa
open Go.ChangeShapes Go.WideShapes Go.ChangeAt Go.RowKit
set_option linter.unusedVariables false

theorem l14Do_any (v : Value) (es : List Fi) (o : DOp) (w : World) (h : FiAt w w.heap.size v es) (hr : risB (fiKs es) = true) (hn : es.length ≤ 800) (hs : fiSum es ≤ 100000000000) (hd : o.da.size ≤ 100000000000) :
    Calls Try.prog 85 #[v, doV o] w fun e w' => ∃ v', e = .returned (.tuple #[v', .bool (chB es o)]) ∧ (chB es o = true → OwnR 167 2 fiC w' w.heap.size v' (chL es o)) ∧ (chB es o = false → OwnR 167 2 fiC w' w.heap.size v' es) ∧ Below w.heap.size w w' := by
  obtain ⟨k, nm, tn, da⟩ := o
  simp only at hd
  by_cases h1 : k = 1
  · subst h1
    exact l14Do_ap v es nm tn da w h hr hn hs hd
  · by_cases h2 : k = 2
    · subst h2
      exact l14Do_rn v es nm tn da w h hr hn hs hd
    · have := l14Do_rm v es k h1 h2 nm tn da w h hr hn hs hd
      unfold chB chL
      simp only [if_neg h1, if_neg h2]
      exact this

def flO (es : List Fi) (k : Nat) : Bool := fnO es k && ordK (fiKs es) k
theorem flO_all (es : List Fi) : allB es.length (flO es) = (allB es.length (fnO es) && risB (fiKs es)) := by
  unfold flO risB
  rw [allB_and]
  congr 2
  simp [fiKs]

set_option maxRecDepth 100000 in
set_option maxHeartbeats 3000000 in
theorem l14Files_any (v : Value) (es : List Fi) (w : World) (h : FiAt w w.heap.size v es) (hs : fiSum es ≤ 1000000000000) :
    Calls Try.prog 86 #[v] w fun e w' => e = .returned (.bool (flsB es)) ∧ Below w.heap.size w w' := by
  have HI := Lib.hid h
  obtain ⟨a, cap, rfl, hl, hm, hc⟩ := h.raw
  clear hc h
  unfold maxLen at hm
  have HT := Lib.hid (fiSum_take es)
  have HL : Hid (∀ k, fiSum (es.take k) ≤ 1000000000000) := Lib.hid (fun k => Nat.le_trans (fiSum_le es k) hs)
  have HV : Hid (∀ k, ¬ k < es.length → fiSum (es.take k) = fiSum es) := Lib.hid (fun k hk => by rw [List.take_of_length_le (by omega)])
  have HF : Hid (flsB es = (allB es.length (flO es) && (decide (es.length ≤ 60) && decide (fiSum es ≤ 200000)))) := Lib.hid (by rw [flO_all]; unfold flsB fitB; rw [Bool.and_assoc])
  have HX : Hid (∀ k, k < es.length → flO es k = false → allB es.length (flO es) = false) := Lib.hid (fun k hk h => allB_out k hk h)
  have HD : Hid (∀ k, ¬ k < es.length → (∀ j, j < k → flO es j = true) → allB es.length (flO es) = true) := Lib.hid (fun k hk h => allB_end k hk h)
  generalize flsB es = R at HF ⊢
  generalize allB es.length (flO es) = R1 at HF HX HD
  clear hs
  by_cases h60 : 60 < es.length
  · have HZ : Hid (R = false) := Lib.hid (by rw [HF.out, decide_eq_false (show ¬ es.length ≤ 60 by omega)]; simp)
    have h60' : (60 : Int) < (es.length : Int) := by omega
    go_enter Try.func86, Try.ntmps86
    go_wp2
    go_ret
    exact ⟨ret_bool HZ.out.symm, Below.refl _ _⟩
  · have h60' : ¬ (60 : Int) < (es.length : Int) := by omega
    have HZ : Hid (R = (R1 && decide (fiSum es ≤ 200000))) := Lib.hid (by rw [HF.out, decide_eq_true (show es.length ≤ 60 by omega)]; simp)
    clear h60 HF
    go_enter Try.func86, Try.ntmps86
    go_wp2
    go_loopw [3, 4] (fun s i wr => ∃ k n : Nat, k ≤ es.length ∧ i = .int .i64 (k : Int) ∧ s = .int .i64 (n : Int) ∧ n ≤ 1000000000000 ∧ Below w.heap.size w wr ∧ Hid (n = fiSum (es.take k)) ∧ Hid (∀ j, j < k → flO es j = true)) (fun _ i _ => es.length - (intOf i).toNat)
    case atStart => exact ⟨0, 0, Nat.zero_le _, rfl, rfl, by omega, Below.refl _ _, Lib.hid rfl, Lib.hid (fun j hj => by omega)⟩
    case round =>
      obtain ⟨k, n, hk, rfl, rfl, hn, hB, HN, HO⟩ := hrel
      by_cases hlt : k < es.length
      · obtain ⟨a', cap', hv, _, _, hc⟩ := (HI.out.below hB).raw
        cases hv
        obtain ⟨b, off, rfl, hb, hr⟩ := hc k hlt
        obtain ⟨c0, c1, s0, s1⟩ := hr k hlt
        have HC := Lib.hid (fun w => l14Name_any es[k].nm w s0)
        have HK : Hid (flO es k = (nmO es[k].nm && ordK (fiKs es) k)) := Lib.hid (by unfold flO; rw [fnO_at es k hlt])
        have HP : Hid (∀ q (hq : k = q + 1), wr.cell? ⟨b, off + q * 2, none⟩ = some (.string (es[q]'(by omega)).nm) ∧ ordK (fiKs es) k = Op.bytesLess (es[q]'(by omega)).nm.toList es[k].nm.toList) := Lib.hid (fun q hq => by subst hq; exact ⟨(hr q (by omega)).1, ordK_at _ es q hlt⟩)
        have HS := Lib.hid (HT.out k hlt)
        generalize nmO es[k].nm = A at HC HK
        obtain ⟨S0, hS0⟩ : ∃ x, x = es[k].nm := ⟨_, rfl⟩
        obtain ⟨S1, hS1⟩ : ∃ x, x = es[k].da := ⟨_, rfl⟩
        rw [← hS0] at c0 HC HP
        rw [← hS1] at c1 s1 HS
        unfold maxLen at s1
        have HS' : Hid (n + S1.size = fiSum (es.take (k + 1))) := Lib.hid (by rw [HS.out, HN.out])
        have hn2 : n + S1.size ≤ 1000000000000 := by rw [HS'.out]; exact HL.out (k + 1)
        have HBn : Hid (∀ n, Below w.heap.size w (wr.drewN n)) := Lib.hid (fun n => below_drewN hB n)
        clear hr hc hS0 hS1 s0 HS hB
        cases A with
        | false =>
          have HZ2 : Hid (R = false) := Lib.hid (by rw [HZ.out, HX.out k hlt (by rw [HK.out]; rfl)]; rfl)
          go_wp2
          go_quiet ((go_at_call 137; exact quiet_same (HC.out _)))
          go_wp2
          go_ret
          exact ⟨ret_bool HZ2.out.symm, HBn.out _⟩
        | true =>
          by_cases hk0 : k = 0
          · subst hk0
            have HO' : Hid (∀ j, j < 0 + 1 → flO es j = true) := Lib.hid (fun j hj => by
              obtain rfl : j = 0 := by omega
              rw [HK.out]
              rfl)
            rw [Nat.zero_mul, Nat.add_zero] at c0 c1
            go_wp2
            go_quiet ((go_at_call 137; exact quiet_same (HC.out _)))
            go_wp2
            go_roundw
            case rel => exact ⟨0 + 1, n + S1.size, by omega, by go_num, by go_num, hn2, HBn.out _, HS', HO'⟩
            case measure => simp [intOf]; omega
          · obtain ⟨q, hq⟩ : ∃ q, k = q + 1 := ⟨k - 1, by omega⟩
            obtain ⟨p0, hord⟩ := HP.out q hq
            obtain ⟨P0, hP0⟩ : ∃ x, x = (es[q]'(by omega)).nm := ⟨_, rfl⟩
            rw [← hP0] at p0 hord
            obtain ⟨L, hL⟩ : ∃ L, Op.bytesLess P0.toList S0.toList = L := ⟨_, rfl⟩
            rw [hL] at hord
            have HOr := Lib.hid hord
            have hk2 : IntKind.i64.wrap ((k : Int) - 1) = (q : Int) := by rw [hq]; simp; exact IntWalk.i64_in _ (by omega)
            have hkp : decide (0 < k) = true := decide_eq_true (by omega)
            have hql : q < es.length := by omega
            clear hP0 hord HP hq hk0
            cases L with
            | false =>
              have HZ2 : Hid (R = false) := Lib.hid (by rw [HZ.out, HX.out k hlt (by rw [HK.out, HOr.out]; rfl)]; rfl)
              by_cases hpe : P0.toList = S0.toList
              · have hX : (S0.toList == P0.toList) = true := by rw [hpe]; simp
                obtain ⟨X, hX2⟩ : ∃ X, Op.bytesLess S0.toList P0.toList = X := ⟨_, rfl⟩
                clear hpe hL
                cases X with
                | false =>
                  go_wp2
                  go_quiet ((go_at_call 137; exact quiet_same (HC.out _)))
                  go_wp2
                  go_ret
                  exact ⟨ret_bool HZ2.out.symm, HBn.out _⟩
                | true =>
                  go_wp2
                  go_quiet ((go_at_call 137; exact quiet_same (HC.out _)))
                  go_wp2
                  go_ret
                  exact ⟨ret_bool HZ2.out.symm, HBn.out _⟩
              · have hX2 := less_triF _ _ hL hpe
                clear hpe hL
                go_wp2
                go_quiet ((go_at_call 137; exact quiet_same (HC.out _)))
                go_wp2
                go_ret
                exact ⟨ret_bool HZ2.out.symm, HBn.out _⟩
            | true =>
              have HO' : Hid (∀ j, j < k + 1 → flO es j = true) := Lib.hid (fun j hj => by
                by_cases hjk : j = k
                · subst hjk; rw [HK.out, HOr.out]; rfl
                · exact HO.out j (by omega))
              have hX2 : Op.bytesLess S0.toList P0.toList = false := by
                cases hh : Op.bytesLess S0.toList P0.toList with
                | false => rfl
                | true =>
                  have := less_trans _ _ _ hL hh
                  rw [less_irrefl] at this
                  cases this
              have hX : (S0.toList == P0.toList) = false := by
                cases hh : (S0.toList == P0.toList) with
                | false => rfl
                | true =>
                  have e : S0.toList = P0.toList := by simpa using hh
                  rw [e, less_irrefl] at hL
                  cases hL
              clear hL
              go_wp2
              go_quiet ((go_at_call 137; exact quiet_same (HC.out _)))
              go_wp2
              go_roundw
              case rel => exact ⟨k + 1, n + S1.size, by omega, by go_num, by go_num, hn2, HBn.out _, HS', HO'⟩
              case measure => simp [intOf]; omega
      · have HZ2 : Hid (R = decide ((n : Int) ≤ 200000)) := Lib.hid (by
          have e : n = fiSum es := by rw [HN.out, HV.out k hlt]
          rw [HZ.out, HD.out k hlt HO.out, ← e, Bool.true_and]
          congr 1
          exact propext (by omega))
        go_wp2
        go_ret
        exact ⟨ret_bool HZ2.out.symm, hB⟩
end Go.Proofs.Ytffkakpbelknaaa

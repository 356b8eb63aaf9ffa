/- Contract: Unpadded of the reference (chapter 4). Contract: need (chapter 4): it gives up by a panic with what the package variable holds. Contracts: the reader that gives up (take), what its panic is turned into, Unpadded of the program. -/
import Derived.Test.YtjmladejpdbdlaaDoorW4a
import Derived.Defers
import Derived.Recover
import Derived.RangeFuncBox
namespace Go.Proofs.YtjmladejpdbdlaaDoor
open Go.ChangeShapes Go.WideShapes Go.ChangeAt Go.RowKit
set_option linter.unusedVariables false

/-- How many of the first n bytes stand when the noughts behind them are gone. -/
def topN (s : ByteArray) : Nat → Nat
  | 0 => 0
  | n + 1 => if s.data.toList.getD n 0 = 0 then topN s n else n + 1
theorem topN_le (s : ByteArray) : ∀ n, topN s n ≤ n
  | 0 => Nat.le_refl _
  | n + 1 => by
    unfold topN
    have := topN_le s n
    split <;> omega
/-- Whether a text is padded, and what it pads. -/
def unpOk (s : ByteArray) : Bool := decide (s.size ≤ 8000 ∧ 1 ≤ topN s s.size ∧ s.data.toList.getD (topN s s.size - 1) 0 = 128)
def unpT (s : ByteArray) : ByteArray := if unpOk s = true then s.extract 0 (topN s s.size - 1) else ⟨#[]⟩
theorem byte_at (s : ByteArray) (n : Nat) (h : n < s.size) : s.data.toList.getD n 0 = s[n] := by
  have h2 : n < s.data.toList.length := by simpa using h
  rw [List.getD_eq_getElem?_getD, List.getElem?_eq_getElem h2]; rfl
theorem ret_two {a b : ByteArray} {x y : Bool} (h : a = b) (h2 : x = y) : Ending.returned (.tuple #[.string a, .bool x]) = .returned (.tuple #[.string b, .bool y]) := by rw [h, h2]

set_option maxRecDepth 100000 in
set_option maxHeartbeats 2000000 in
theorem specUnpadded_any (s : ByteArray) (w : World) (hs : s.size ≤ maxLen) :
    Calls Tryd.prog 41 #[.string s] w fun e w' => e = .returned (.tuple #[.string (unpT s), .bool (unpOk s)]) ∧ Below w.heap.size w w' := by
  unfold maxLen at hs
  go_enter Tryd.func41, Tryd.ntmps41
  go_wp2
  go_loopw [4] (fun i wr => ∃ n : Nat, n ≤ s.size ∧ i = .int .i64 ((n : Int) - 1) ∧ Hid (topN s n = topN s s.size) ∧ Below w.heap.size w wr) (fun i _ => (intOf i + 1).toNat)
  case atStart => exact ⟨s.size, Nat.le_refl _, rfl, Lib.hid rfl, Below.refl _ _⟩
  case round =>
    obtain ⟨n, hn, rfl, HT, hB⟩ := hrel
    by_cases h0 : n = 0
    · have HT0 : Hid (topN s s.size = 0) := Lib.hid (by rw [← HT.out, h0]; rfl)
      have HR : Hid (unpOk s = false) := Lib.hid (by unfold unpOk; rw [HT0.out]; simp)
      have HR2 : Hid (unpT s = ⟨#[]⟩) := Lib.hid (by unfold unpT; rw [HR.out]; rfl)
      have hneg : (n : Int) - 1 < 0 := by omega
      clear HT h0
      go_wp2
      go_ret2
      exact ⟨ret_two HR2.out.symm HR.out.symm, hB⟩
    · obtain ⟨m, rfl⟩ : ∃ m, n = m + 1 := ⟨n - 1, by omega⟩
      have hm : m < s.size := by omega
      have hmi : (m : Int) < (s.size : Int) := by omega
      have hmm : ((m + 1 : Nat) : Int) - 1 = (m : Int) := by omega
      have hst : topN s (m + 1) = if s[m] = 0 then topN s m else m + 1 := by rw [← byte_at s m hm]; rfl
      have hbl := s[m].toNat_lt
      rw [hmm]
      by_cases hz : s[m] = 0
      · rw [if_pos hz] at hst
        have hzn : s[m].toNat = 0 := by rw [hz]; rfl
        have HT2 : Hid (topN s m = topN s s.size) := Lib.hid (by rw [← hst]; exact HT.out)
        clear hst HT hz hmm h0
        go_wp2
        go_roundw
        case rel => exact ⟨m, by omega, by go_num, HT2, hB⟩
        case measure => simp [intOf]
      · rw [if_neg hz] at hst
        have HT2 : Hid (topN s s.size = m + 1) := Lib.hid (by rw [← hst]; exact HT.out.symm)
        have hzn : ¬ s[m].toNat = 0 := fun h => hz (UInt8.toNat_inj.1 h)
        have hm0 : 0 ≤ (m : Int) := by omega
        have hnz : ((s[m].toNat : Int) == 0) = false := beq_eq_false_iff_ne.2 (by omega)
        have HU : Hid (unpOk s = decide (s.size ≤ 8000 ∧ s[m] = 128)) := Lib.hid (by
          unfold unpOk; rw [HT2.out, Nat.add_sub_cancel, byte_at s m hm]; congr 1; simp)
        have HV : Hid (unpT s = if unpOk s = true then s.extract 0 m else ⟨#[]⟩) := Lib.hid (by unfold unpT; rw [HT2.out, Nat.add_sub_cancel])
        clear hst HT HT2 hz hmm h0
        by_cases h128 : s[m] = 128
        · have hn1 : s[m].toNat = 128 := by rw [h128]; rfl
          by_cases hsz : s.size ≤ 8000
          · have HR : Hid (unpOk s = true) := Lib.hid (by rw [HU.out]; exact decide_eq_true ⟨hsz, h128⟩)
            have HR2 : Hid (unpT s = s.extract 0 m) := Lib.hid (by rw [HV.out, if_pos HR.out])
            have hms : m ≤ s.size := by omega
            clear HU HV h128 hzn hnz
            go_wp2
            go_ret2
            exact ⟨ret_two HR2.out.symm HR.out.symm, hB⟩
          · have HR : Hid (unpOk s = false) := Lib.hid (by rw [HU.out]; exact decide_eq_false (fun h => hsz h.1))
            have HR2 : Hid (unpT s = ⟨#[]⟩) := Lib.hid (by rw [HV.out, HR.out]; rfl)
            clear HU HV h128 hzn hnz
            go_wp2
            go_ret2
            exact ⟨ret_two HR2.out.symm HR.out.symm, hB⟩
        · have hn1 : ((s[m].toNat : Int) != 128) = true := by
            have : ¬ s[m].toNat = 128 := fun h => h128 (UInt8.toNat_inj.1 h)
            exact bne_iff_ne.2 (by omega)
          have HR : Hid (unpOk s = false) := Lib.hid (by rw [HU.out]; exact decide_eq_false (fun h => h128 h.2))
          have HR2 : Hid (unpT s = ⟨#[]⟩) := Lib.hid (by rw [HV.out, HR.out]; rfl)
          clear HU HV h128 hzn
          go_wp2
          go_ret2
          exact ⟨ret_two HR2.out.symm HR.out.symm, hB⟩
end Go.Proofs.YtjmladejpdbdlaaDoor

namespace Go.Proofs.YtjmladejpdbdlaaDoor
open Go.ChangeShapes Go.WideShapes Go.ChangeAt Go.RowKit
set_option linter.unusedVariables false

theorem need_true (w : World) : Calls Tryd.prog 77 #[.bool true] w fun e w' => e = .returned (.tuple #[]) ∧ w = w' := by
  go_enter Tryd.func77, Tryd.ntmps77
  go_wp2
  go_end0
  exact ⟨rfl, rfl⟩

theorem need_false (t : TypeId) (x : Value) (w : World) (hv : w.cell? ⟨2, 0, none⟩ = some (.iface t x)) : Calls Tryd.prog 77 #[.bool false] w fun e w' => e = .panicked [{ v := .iface t x, recovered := false }] ∧ w = w' := by
  go_enter Tryd.func77, Tryd.ntmps77
  have hp : (Instr.panic (.iface t x)).run Tryd.prog w = .halt (.panic (.iface t x)) w := rfl
  go_wp2
  exact ⟨rfl, rfl, rfl⟩
end Go.Proofs.YtjmladejpdbdlaaDoor

namespace Go.Proofs.YtjmladejpdbdlaaDoor
open Go.ChangeShapes Go.WideShapes Go.ChangeAt Go.RowKit
set_option linter.unusedVariables false

/-- What the program gives up with. -/
def Gives (w : World) (t : TypeId) (x : Value) : Prop := w.cell? ⟨2, 0, none⟩ = some (.iface t x)
theorem Gives.lt {w : World} {t : TypeId} {x : Value} (h : Gives w t x) : 2 < w.heap.size := World.block_lt_of_cell? w _ h
theorem Gives.below {w w' : World} {B : Nat} {t : TypeId} {x : Value} (h : Gives w t x) (hb : Below B w w') (hB : w.heap.size ≤ B) : Gives w' t x := by
  have := h.lt
  unfold Gives
  rw [hb.cell (p := ⟨2, 0, none⟩) (by show 2 < B; omega)]; exact h

set_option maxRecDepth 100000 in
set_option maxHeartbeats 1600000 in
theorem take_ok (g n : Nat) (s : ByteArray) (w : World) (hg : Boxed w g 69 (.string s)) (hs : s.size ≤ 1000000000) (hn : n ≤ s.size) :
    Calls Tryd.prog 78 #[.pointer (some ⟨g, 0, none⟩), .int .i64 (n : Int)] w fun e w' =>
      e = .returned (.string (s.extract (s.size - n) s.size)) ∧ w' = w.setCell ⟨g, 0, none⟩ (.string (s.extract 0 (s.size - n))) := by
  have hc := hg.cell
  have hf := hg.frozen
  have hsub : (s.size : Int) - (n : Int) = ((s.size - n : Nat) : Int) := by omega
  have hd : decide ((n : Int) ≤ (s.size : Int)) = true := by simp; omega
  obtain ⟨m, hm⟩ : ∃ m, m = s.size - n := ⟨_, rfl⟩
  rw [← hm] at hsub ⊢
  have hml : m ≤ s.size := by omega
  clear hm
  go_enter Tryd.func78, Tryd.ntmps78
  go_wp2_with (first | (go_at_call 77; refine (need_true _).mono ?_; rintro e w' ⟨rfl, rfl⟩))
  go_ret
  exact ⟨rfl, rfl⟩

set_option maxRecDepth 100000 in
set_option maxHeartbeats 1600000 in
theorem take_bad (g n : Nat) (s : ByteArray) (w : World) (t : TypeId) (x : Value) (hv : Gives w t x) (hg : Boxed w g 69 (.string s)) (hs : s.size ≤ 1000000000) (hn : s.size < n) :
    Calls Tryd.prog 78 #[.pointer (some ⟨g, 0, none⟩), .int .i64 (n : Int)] w fun e w' =>
      e = .panicked [{ v := .iface t x, recovered := false }] ∧ w = w' := by
  have hc := hg.cell
  have hf := hg.frozen
  have hd : decide (n ≤ s.size) = false := by simp; omega
  have HV := Lib.hid hv
  clear hv
  go_enter Tryd.func78, Tryd.ntmps78
  go_wp2_with (first | (go_at_call 77; refine (need_false t x _ HV.out).mono ?_; rintro e w' ⟨rfl, rfl⟩))
  exact ⟨rfl, rfl, rfl⟩

theorem catchU_panicking (p q : Addr) (y : ByteArray) (z : Bool) (u : TypeId) (pv : Value) (older : List PanicEntry) (w : World) (hpq : p.block ≠ q.block) (hc : w.cell? p = some (.string y)) (hz : w.frozen? p = false) (hc2 : w.cell? q = some (.bool z)) (hz2 : w.frozen? q = false) :
    CallsD Tryd.prog 76 #[.pointer (some p), .pointer (some q)] (.panicking ({ v := .iface u pv, recovered := false } :: older)) w fun e u' w' =>
      e = .returned (.tuple #[]) ∧ u' = .panicking ({ v := .iface u pv, recovered := true } :: older) ∧ w' = (w.setCell p (.string ⟨#[]⟩)).setCell q (.bool false) := by
  have hc3 : (w.setCell p (.string ⟨#[]⟩)).cell? q = some (.bool z) := by rw [World.cell?_setCell_other]; exact hc2; exact fun e => hpq (by rw [e])
  have hz3 : (w.setCell p (.string ⟨#[]⟩)).frozen? q = false := by rw [World.frozen?_setCell]; exact hz2
  refine callsD_of_wpS Tryd.func76 rfl fun c₀ cs hu => ?_
  apply wpS_seq
  apply wpS_region
  simp [wpOpsS, go_sem, recoverD, hu, Tryd.ntmps76, Exit.thenS]
  refine wpS_cond (t := true) (by simp [Act.eval, Array.replicate]) ?_
  simp only [if_true]
  apply wpS_region
  simp [wpOpsS, go_sem, hc, hz, hc3, hz3, bodyPostS, results, Tryd.results76]

theorem catchU_idle (p q : Addr) (w : World) :
    CallsD Tryd.prog 76 #[.pointer (some p), .pointer (some q)] .returning w fun e u' w' => e = .returned (.tuple #[]) ∧ u' = .returning ∧ w' = w := by
  refine callsD_of_wpS Tryd.func76 rfl fun c₀ cs hu => ?_
  apply wpS_seq
  apply wpS_region
  simp [wpOpsS, go_sem, recoverD, hu, Tryd.ntmps76, Exit.thenS]
  refine wpS_cond (t := false) (by simp [Act.eval, Array.replicate]) ?_
  simp only [Bool.false_eq_true, if_false]
  refine wpS_of_wp (wp_skip ?_)
  cases c₀
  simp_all [bodyPostS, results, Tryd.results76]
end Go.Proofs.YtjmladejpdbdlaaDoor

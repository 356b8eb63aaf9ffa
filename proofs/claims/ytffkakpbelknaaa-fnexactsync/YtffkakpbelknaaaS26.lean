/- Joined: W9r, W9s. -/
import Derived.Lib.LazyBuf
import Derived.Test.YtffkakpbelknaaaS8
import Derived.Test.YtffkakpbelknaaaS23
import Derived.Test.YtffkakpbelknaaaS25
/- W9r -/
namespace Go.Proofs.Ytffkakpbelknaaa
open Go.ChangeShapes Go.WideShapes Go.ChangeAt Go.RowKit
set_option linter.unusedVariables false

theorem enC_one (x : En) : ∀ u ∈ enC x, u.oneCell' = true := by
  intro u hu
  simp only [enC, List.mem_cons, List.not_mem_nil, or_false] at hu
  rcases hu with rfl | rfl | rfl | rfl | rfl <;> rfl
theorem sbC_one (x : Sb × Value) (hx : x.2.oneCell' = true) : ∀ u ∈ sbC x, u.oneCell' = true := by
  intro u hu
  simp only [sbC, List.mem_cons, List.not_mem_nil, or_false] at hu
  rcases hu with rfl | rfl | rfl
  · rfl
  · rfl
  · exact hx

set_option maxRecDepth 100000 in
set_option maxHeartbeats 1600000 in
theorem cloneE_any (v : Value) (l : List (En)) (w : World) (h : RecAt 5 enC w w.heap.size v l) (hn : l.length ≤ 10000000) :
    Calls Try.prog 101 #[v] w (OutR 47 5 enC l w) := by
  have HI := Lib.hid h
  have hone' : ∀ y ∈ l, ∀ u ∈ enC y, u.oneCell' = true := (fun y _ => enC_one y)
  have HOn := Lib.hid hone'
  obtain ⟨a, cap, rfl, hl, hm, hc⟩ := h
  have hq := fun w (a : Option Addr) n c => Go.run_eql_slice_nil (P := Try.prog) w 41 47 a n c Try.underlying41
  cases a with
  | none =>
    have hl0 : l = [] := by
      rcases Nat.eq_zero_or_pos l.length with h0 | h0
      · exact List.eq_nil_of_length_eq_zero h0
      · obtain ⟨b, off, h1, _⟩ := hc h0
        cases h1
    subst hl0
    clear hc hone'
    go_enter Try.func101, Try.ntmps101
    go_wp2
    go_ret
    exact ⟨_, rfl, OwnR.nil _ _ _, Below.refl _ _⟩
  | some ad =>
    clear hc hone'
    have hba : Below w.heap.size w (w.alloc (.cells #[] 47)) := (Below.refl _ _).alloc (Nat.le_refl _) _
    have HW := Lib.hid (HI.out.below hba)
    have HL := Lib.hid (OwnR.lit (k := 5) (C := enC) 47 w w.heap.size (Nat.le_refl _))
    go_enter Try.func101, Try.ntmps101
    go_wp2_with (at_builtin; refine wpList_appR enC_len (by decide) Try.underlying41 Try.infoEntry rfl (by decide) rfl _ _ rfl w.heap.size w.heap.size _ _ [] l rfl rfl HL.out HW.out HOn.out (by simpa using Nat.le_trans hn (by decide)) (by simp) ?_; intro v' w' hown hgr; have hB := hba.grown hgr (by simp) (fun k hk => by cases hk; simp))
    go_ret
    rw [List.nil_append] at hown
    exact ⟨_, rfl, hown, hB⟩

set_option maxRecDepth 100000 in
set_option maxHeartbeats 1600000 in
theorem cloneS_any (v : Value) (l : List (Sb × Value)) (w : World) (h : RecAt 3 sbC w w.heap.size v l) (hone : ∀ y ∈ l, y.2.oneCell' = true) (hn : l.length ≤ 10000000) :
    Calls Try.prog 100 #[v] w (OutR 43 3 sbC l w) := by
  have HI := Lib.hid h
  have hone' : ∀ y ∈ l, ∀ u ∈ sbC y, u.oneCell' = true := (fun y hy => sbC_one y (hone y hy))
  have HOn := Lib.hid hone'
  obtain ⟨a, cap, rfl, hl, hm, hc⟩ := h
  have hq := fun w (a : Option Addr) n c => Go.run_eql_slice_nil (P := Try.prog) w 24 43 a n c Try.underlying24
  cases a with
  | none =>
    have hl0 : l = [] := by
      rcases Nat.eq_zero_or_pos l.length with h0 | h0
      · exact List.eq_nil_of_length_eq_zero h0
      · obtain ⟨b, off, h1, _⟩ := hc h0
        cases h1
    subst hl0
    clear hc hone'
    go_enter Try.func100, Try.ntmps100
    go_wp2
    go_ret
    exact ⟨_, rfl, OwnR.nil _ _ _, Below.refl _ _⟩
  | some ad =>
    clear hc hone'
    have hba : Below w.heap.size w (w.alloc (.cells #[] 43)) := (Below.refl _ _).alloc (Nat.le_refl _) _
    have HW := Lib.hid (HI.out.below hba)
    have HL := Lib.hid (OwnR.lit (k := 3) (C := sbC) 43 w w.heap.size (Nat.le_refl _))
    go_enter Try.func100, Try.ntmps100
    go_wp2_with (at_builtin; refine wpList_appR sbC_len (by decide) Try.underlying24 Try.infoSub rfl (by decide) rfl _ _ rfl w.heap.size w.heap.size _ _ [] l rfl rfl HL.out HW.out HOn.out (by simpa using Nat.le_trans hn (by decide)) (by simp) ?_; intro v' w' hown hgr; have hB := hba.grown hgr (by simp) (fun k hk => by cases hk; simp))
    go_ret
    rw [List.nil_append] at hown
    exact ⟨_, rfl, hown, hB⟩

end Go.Proofs.Ytffkakpbelknaaa

/- W9s -/
namespace Go.Proofs.Ytffkakpbelknaaa
open Go.ChangeShapes Go.WideShapes Go.ChangeAt Go.RowKit
set_option linter.unusedVariables false

def vlC (x : Value) : List Value := [x]
theorem vlC_len (x : Value) : (vlC x).length = 1 := rfl
theorem flat_take_le {α : Type} (ls : List (List α)) (k : Nat) : (ls.take k).flatten.length ≤ ls.flatten.length := by
  have h : ls.flatten = (ls.take k).flatten ++ (ls.drop k).flatten := by rw [← List.flatten_append, List.take_append_drop]
  rw [h, List.length_append]
  omega
theorem next_small (n : Nat) (hn : n ≤ 1000000) : Builtin.nextslicecap n 0 ≤ 1000000 := by
  unfold Builtin.nextslicecap
  simp
  split <;> omega

theorem app_zeros_nil {P : Program} {α : Type} {k : Nat} {C : α → List Value} (w : World) (t tn ty e : TypeId) (i : TypeInfo) (z : Value) (ht : P.underlying t = some (.slice e)) (htn : P.underlying tn = some (.int .i64)) (hi : P.info? e = some i) (hz : i.zero = some z) (hk : i.size = k) (h0 : 0 < k) (hzs : z.cells.size = k) (hb : i.bytes ≤ 1000)
    (n : Nat) (hn0 : 0 < n) (hn : n ≤ 1000000) :
    ∃ cap w', (Builtin.append_ #[t, tn] ty #[.slice none 0 0, .int .i64 n]).run P w = .ok (.slice (some ⟨w.heap.size, 0, none⟩) n cap) w' ∧ OwnR e k C w' w.heap.size (.slice (some ⟨w.heap.size, 0, none⟩) 0 cap) ([] : List α) ∧ n ≤ cap ∧ cap ≤ maxLen ∧ Below w.heap.size w w' := by
  have hc := next_small n hn
  have hb1 : n * i.bytes ≤ 1000000 * 1000 := Nat.mul_le_mul hn hb
  have hb2 : Builtin.nextslicecap (0 + n) 0 * i.bytes ≤ 1000000 * 1000 := Nat.mul_le_mul (by rw [Nat.zero_add]; exact hc) hb
  have hr := Lib.run_append_grow_zeros (P := P) w t tn ty e i z .i64 .i64 ht htn hi hz none 0 0 [] (by simp [Builtin.firstCells]) n hn0 (by omega) (by omega) (by omega) (by omega) (by omega)
  rw [Nat.zero_add] at hr
  have hge := grownCap_ge w n 0 e
  have hle := grownCap_le_maxLen w n 0 e (by unfold maxLen; omega)
  refine ⟨_, _, hr, ?_, hge, hle, ?_⟩
  · refine World.ownsRow_made w.drew _ _ (Nat.le_refl _) hle ?_
    have e1 : ([] : List Value).toArray.size = 0 := rfl
    rw [Array.size_append, Array.size_append, e1]
    simp only [Builtin.zeroCells, Array.size_map, Array.size_range, hzs]
    rw [Nat.zero_add, ← Nat.add_mul]
    congr 1
    omega
  · exact ((Below.refl _ _).drew).alloc (Nat.le_refl _) _

set_option maxRecDepth 100000 in
set_option maxHeartbeats 1600000 in
theorem growS_any (n : Nat) (w : World) (hn : n ≤ 1000000) :
    Calls Try.prog 162 #[.slice none 0 0, .int .i64 (n : Int)] w (OutR 43 3 sbC [] w) := by
  obtain ⟨i0, hi, hz0, hz1, hz2⟩ := info_parts Try.infoSub
  rcases Nat.eq_zero_or_pos n with h0 | h0
  · subst h0
    go_enter Try.func162, Try.ntmps162
    go_wp2
    go_ret
    exact ⟨_, rfl, OwnR.nil _ _ _, Below.refl _ _⟩
  · obtain ⟨cap, w', hr, hown, hcn, hcm, hB⟩ := app_zeros_nil (C := sbC) w 88 3 88 43 i0 _ Try.underlying88 Try.underlying3 hi hz0 hz1 (by decide) rfl (by rw [hz2]; decide) n h0 hn
    unfold maxLen at hcm
    have HR := Lib.hid hr
    have HO := Lib.hid hown
    clear hi hz0 hz1 hz2 hr hown
    go_enter Try.func162, Try.ntmps162
    go_wp2_with (at_builtin; refine step_to (v := .slice (some ⟨w.heap.size, 0, none⟩) n cap) (w' := w') rfl (by have hr := HR.out; simp [execOp, resolve, invoke, builtin, hr, Result.andThen, Act.eval]) ?_)
    go_ret
    exact ⟨_, rfl, HO.out, hB⟩

set_option maxRecDepth 100000 in
set_option maxHeartbeats 1600000 in
theorem concatS_any (v : Value) (xs : List Value) (ls : List (List (Sb × Value))) (w : World) (h : RecAt 1 vlC w w.heap.size v xs) (hle : xs.length = ls.length) (hr : ∀ i (h1 : i < xs.length) (h2 : i < ls.length), RecAt 3 sbC w w.heap.size xs[i] ls[i]) (hone : ∀ l ∈ ls, ∀ y ∈ l, y.2.oneCell' = true) (hn : ls.flatten.length ≤ 1000000) :
    Calls Try.prog 147 #[v] w (OutR 43 3 sbC ls.flatten w) := by
  have HI := Lib.hid h
  have HR := Lib.hid hr
  have HOn : Hid (∀ l ∈ ls, ∀ y ∈ l, ∀ u ∈ sbC y, u.oneCell' = true) := Lib.hid (fun l hl y hy => sbC_one y (hone l hl y hy))
  have HN : Hid (∀ k, (ls.take k).flatten.length ≤ 1000000) := Lib.hid (fun k => Nat.le_trans (flat_take_le ls k) hn)
  have HL := Lib.hid hle
  obtain ⟨a, cap, rfl, hl, hm, hc⟩ := h
  unfold maxLen at hm
  clear hc hr hle
  have HG := Lib.hid (fun n w hn => growS_any n w hn)
  go_enter Try.func147, Try.ntmps147
  go_wp2
  go_loop [3, 11] (fun s i => ∃ k n : Nat, k ≤ xs.length ∧ i = .int .i64 (k : Int) ∧ s = .int .i64 (n : Int) ∧ n ≤ 1000000 ∧ Hid (n = (ls.take k).flatten.length)) (fun _ i => xs.length - (intOf i).toNat)
  case atStart => exact ⟨0, 0, Nat.zero_le _, rfl, rfl, by omega, Lib.hid rfl⟩
  case round =>
    obtain ⟨k, n, hk, rfl, rfl, hn1, HS⟩ := hrel
    by_cases hlt : k < xs.length
    · have hlt2 : k < ls.length := by have := HL.out; omega
      obtain ⟨a', cap', hv, _, _, hc⟩ := HI.out
      cases hv
      obtain ⟨b, off, rfl, hb, hr⟩ := hc (by omega)
      have c0 := hr k hlt 0 _ rfl
      rw [Nat.mul_one, Nat.add_zero] at c0
      obtain ⟨xa, xc, hxe⟩ := (HR.out k hlt hlt2).slice
      rw [hxe] at c0
      obtain ⟨m, hmE⟩ : ∃ m, m = ls[k].length := ⟨_, rfl⟩
      rw [← hmE] at c0
      have HS' : Hid (n + m = (ls.take (k + 1)).flatten.length) := Lib.hid (by rw [List.take_succ_eq_append_getElem hlt2, List.flatten_append, List.length_append, ← HS.out]; simp [hmE])
      have hn2 : n + m ≤ 1000000 := by rw [HS'.out]; exact HN.out (k + 1)
      clear hr hc hxe hmE hb
      go_wp2
      refine ⟨⟨k + 1, n + m, by omega, by simp, by simp, hn2, HS'⟩, ?_⟩
      simp [intOf]; omega
    · have HZ : Hid ((n : Int) = (ls.flatten.length : Nat)) := Lib.hid (by rw [HS.out, List.take_of_length_le (by have := HL.out; omega)])
      go_wp2_with fail
      refine (HG.out n _ hn1).mono ?_
      rintro e w1 ⟨v1, rfl, hown1, hb1⟩
      go_wp2
      go_loopw [6, 27] (fun s i wr => ∃ (k : Nat), k ≤ xs.length ∧ i = .int .i64 (k : Int) ∧ OwnR 43 3 sbC wr w.heap.size s (ls.take k).flatten ∧ Below w.heap.size w wr) (fun _ i _ => xs.length - (intOf i).toNat)
      case atStart => exact ⟨0, Nat.zero_le _, rfl, hown1, hb1⟩
      case round =>
        obtain ⟨j, hj, rfl, hown, hB⟩ := hrel
        clear hown1 hb1
        by_cases hjl : j < xs.length
        · have hlt2 : j < ls.length := by have := HL.out; omega
          obtain ⟨a', cap', hv, _, _, hc⟩ := (HI.out.below hB)
          cases hv
          obtain ⟨b, off, rfl, hb, hr⟩ := hc (by omega)
          have c0 := hr j hjl 0 _ rfl
          rw [Nat.mul_one, Nat.add_zero] at c0
          have HX := Lib.hid ((HR.out j hjl hlt2).below hB)
          obtain ⟨X, hX⟩ : ∃ X, X = xs[j] := ⟨_, rfl⟩
          rw [← hX] at c0 HX
          have HO1 := Lib.hid (HOn.out ls[j] (List.getElem_mem hlt2))
          have HT : Hid ((ls.take (j + 1)).flatten = (ls.take j).flatten ++ ls[j]) := Lib.hid (by rw [List.take_succ_eq_append_getElem hlt2, List.flatten_append]; simp)
          have HNN : Hid ((ls.take j).flatten.length + ls[j].length ≤ 100000000) := Lib.hid (by have h1 := HN.out (j + 1); rw [HT.out, List.length_append] at h1; omega)
          have HOw := Lib.hid hown
          clear hr hc hX hb hown
          go_wp2_with (at_builtin; refine wpList_appR sbC_len (by decide) Try.underlying88 Try.infoSub rfl (by decide) rfl _ _ rfl w.heap.size w.heap.size _ X (ls.take j).flatten ls[j] rfl rfl HOw.out HX.out HO1.out HNN.out hB.size ?_; intro v2 w2 hown2 hgr2; have hB2 := hB.grown hgr2 hB.size (ownBlock_base HOw.out); rw [← HT.out] at hown2)
          go_roundw
          case rel => exact ⟨j + 1, by omega, by go_num, hown2, hB2⟩
          case measure => simp [intOf]; omega
        · have HF : Hid ((ls.take j).flatten = ls.flatten) := Lib.hid (by rw [List.take_of_length_le (by have := HL.out; omega)])
          rw [HF.out] at hown
          go_wp2
          go_ret
          exact ⟨_, rfl, hown, hB⟩


set_option maxRecDepth 100000 in
set_option maxHeartbeats 1600000 in
theorem growE_any (n : Nat) (w : World) (hn : n ≤ 1000000) :
    Calls Try.prog 169 #[.slice none 0 0, .int .i64 (n : Int)] w (OutR 47 5 enC [] w) := by
  obtain ⟨i0, hi, hz0, hz1, hz2⟩ := info_parts Try.infoEntry
  rcases Nat.eq_zero_or_pos n with h0 | h0
  · subst h0
    go_enter Try.func169, Try.ntmps169
    go_wp2
    go_ret
    exact ⟨_, rfl, OwnR.nil _ _ _, Below.refl _ _⟩
  · obtain ⟨cap, w', hr, hown, hcn, hcm, hB⟩ := app_zeros_nil (C := enC) w 194 3 194 47 i0 _ Try.underlying194 Try.underlying3 hi hz0 hz1 (by decide) rfl (by rw [hz2]; decide) n h0 hn
    unfold maxLen at hcm
    have HR := Lib.hid hr
    have HO := Lib.hid hown
    clear hi hz0 hz1 hz2 hr hown
    go_enter Try.func169, Try.ntmps169
    go_wp2_with (at_builtin; refine step_to (v := .slice (some ⟨w.heap.size, 0, none⟩) n cap) (w' := w') rfl (by have hr := HR.out; simp [execOp, resolve, invoke, builtin, hr, Result.andThen, Act.eval]) ?_)
    go_ret
    exact ⟨_, rfl, HO.out, hB⟩

set_option maxRecDepth 100000 in
set_option maxHeartbeats 1600000 in
theorem concatE_any (v : Value) (xs : List Value) (ls : List (List (En))) (w : World) (h : RecAt 1 vlC w w.heap.size v xs) (hle : xs.length = ls.length) (hr : ∀ i (h1 : i < xs.length) (h2 : i < ls.length), RecAt 5 enC w w.heap.size xs[i] ls[i]) (hn : ls.flatten.length ≤ 1000000) :
    Calls Try.prog 165 #[v] w (OutR 47 5 enC ls.flatten w) := by
  have HI := Lib.hid h
  have HR := Lib.hid hr
  have HOn : Hid (∀ l ∈ ls, ∀ y ∈ l, ∀ u ∈ enC y, u.oneCell' = true) := Lib.hid (fun l (_ : l ∈ ls) y (_ : y ∈ l) => enC_one y)
  have HN : Hid (∀ k, (ls.take k).flatten.length ≤ 1000000) := Lib.hid (fun k => Nat.le_trans (flat_take_le ls k) hn)
  have HL := Lib.hid hle
  obtain ⟨a, cap, rfl, hl, hm, hc⟩ := h
  unfold maxLen at hm
  clear hc hr hle
  have HG := Lib.hid (fun n w hn => growE_any n w hn)
  go_enter Try.func165, Try.ntmps165
  go_wp2
  go_loop [3, 11] (fun s i => ∃ k n : Nat, k ≤ xs.length ∧ i = .int .i64 (k : Int) ∧ s = .int .i64 (n : Int) ∧ n ≤ 1000000 ∧ Hid (n = (ls.take k).flatten.length)) (fun _ i => xs.length - (intOf i).toNat)
  case atStart => exact ⟨0, 0, Nat.zero_le _, rfl, rfl, by omega, Lib.hid rfl⟩
  case round =>
    obtain ⟨k, n, hk, rfl, rfl, hn1, HS⟩ := hrel
    by_cases hlt : k < xs.length
    · have hlt2 : k < ls.length := by have := HL.out; omega
      obtain ⟨a', cap', hv, _, _, hc⟩ := HI.out
      cases hv
      obtain ⟨b, off, rfl, hb, hr⟩ := hc (by omega)
      have c0 := hr k hlt 0 _ rfl
      rw [Nat.mul_one, Nat.add_zero] at c0
      obtain ⟨xa, xc, hxe⟩ := (HR.out k hlt hlt2).slice
      rw [hxe] at c0
      obtain ⟨m, hmE⟩ : ∃ m, m = ls[k].length := ⟨_, rfl⟩
      rw [← hmE] at c0
      have HS' : Hid (n + m = (ls.take (k + 1)).flatten.length) := Lib.hid (by rw [List.take_succ_eq_append_getElem hlt2, List.flatten_append, List.length_append, ← HS.out]; simp [hmE])
      have hn2 : n + m ≤ 1000000 := by rw [HS'.out]; exact HN.out (k + 1)
      clear hr hc hxe hmE hb
      go_wp2
      refine ⟨⟨k + 1, n + m, by omega, by simp, by simp, hn2, HS'⟩, ?_⟩
      simp [intOf]; omega
    · have HZ : Hid ((n : Int) = (ls.flatten.length : Nat)) := Lib.hid (by rw [HS.out, List.take_of_length_le (by have := HL.out; omega)])
      go_wp2_with fail
      refine (HG.out n _ hn1).mono ?_
      rintro e w1 ⟨v1, rfl, hown1, hb1⟩
      go_wp2
      go_loopw [6, 27] (fun s i wr => ∃ (k : Nat), k ≤ xs.length ∧ i = .int .i64 (k : Int) ∧ OwnR 47 5 enC wr w.heap.size s (ls.take k).flatten ∧ Below w.heap.size w wr) (fun _ i _ => xs.length - (intOf i).toNat)
      case atStart => exact ⟨0, Nat.zero_le _, rfl, hown1, hb1⟩
      case round =>
        obtain ⟨j, hj, rfl, hown, hB⟩ := hrel
        clear hown1 hb1
        by_cases hjl : j < xs.length
        · have hlt2 : j < ls.length := by have := HL.out; omega
          obtain ⟨a', cap', hv, _, _, hc⟩ := (HI.out.below hB)
          cases hv
          obtain ⟨b, off, rfl, hb, hr⟩ := hc (by omega)
          have c0 := hr j hjl 0 _ rfl
          rw [Nat.mul_one, Nat.add_zero] at c0
          have HX := Lib.hid ((HR.out j hjl hlt2).below hB)
          obtain ⟨X, hX⟩ : ∃ X, X = xs[j] := ⟨_, rfl⟩
          rw [← hX] at c0 HX
          have HO1 := Lib.hid (HOn.out ls[j] (List.getElem_mem hlt2))
          have HT : Hid ((ls.take (j + 1)).flatten = (ls.take j).flatten ++ ls[j]) := Lib.hid (by rw [List.take_succ_eq_append_getElem hlt2, List.flatten_append]; simp)
          have HNN : Hid ((ls.take j).flatten.length + ls[j].length ≤ 100000000) := Lib.hid (by have h1 := HN.out (j + 1); rw [HT.out, List.length_append] at h1; omega)
          have HOw := Lib.hid hown
          clear hr hc hX hb hown
          go_wp2_with (at_builtin; refine wpList_appR enC_len (by decide) Try.underlying194 Try.infoEntry rfl (by decide) rfl _ _ rfl w.heap.size w.heap.size _ X (ls.take j).flatten ls[j] rfl rfl HOw.out HX.out HO1.out HNN.out hB.size ?_; intro v2 w2 hown2 hgr2; have hB2 := hB.grown hgr2 hB.size (ownBlock_base HOw.out); rw [← HT.out] at hown2)
          go_roundw
          case rel => exact ⟨j + 1, by omega, by go_num, hown2, hB2⟩
          case measure => simp [intOf]; omega
        · have HF : Hid ((ls.take j).flatten = ls.flatten) := Lib.hid (by rw [List.take_of_length_le (by have := HL.out; omega)])
          rw [HF.out] at hown
          go_wp2
          go_ret
          exact ⟨_, rfl, hown, hB⟩

end Go.Proofs.Ytffkakpbelknaaa

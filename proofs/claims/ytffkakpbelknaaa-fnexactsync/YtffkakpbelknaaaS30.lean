/- Joined: W14b. -/
import Derived.Test.YtffkakpbelknaaaS19
import Derived.Test.YtffkakpbelknaaaS27
/- W14b -/
namespace Go.Proofs.Ytffkakpbelknaaa
open Go.ChangeShapes Go.WideShapes Go.ChangeAt Go.RowKit
set_option linter.unusedVariables false

theorem Try.infoFile : (Try.prog.info? 167).map (fun i => (i.zero, i.size, i.bytes)) = some (some (.agg #[.string ByteArray.empty, .string ByteArray.empty]), 2, 32) := by kernel_rfl

set_option maxRecDepth 100000 in
set_option maxHeartbeats 1600000 in
theorem growF_any (n : Nat) (w : World) (hn : n ≤ 1000000) :
    Calls Try.prog 168 #[.slice none 0 0, .int .i64 (n : Int)] w (OutR 167 2 fiC [] w) := by
  obtain ⟨i0, hi, hz0, hz1, hz2⟩ := info_parts Try.infoFile
  rcases Nat.eq_zero_or_pos n with h0 | h0
  · subst h0
    go_enter Try.func168, Try.ntmps168
    go_wp2
    go_ret
    exact ⟨_, rfl, OwnR.nil _ _ _, Below.refl _ _⟩
  · obtain ⟨cap, w', hr, hown, hcn, hcm, hB⟩ := app_zeros_nil (C := fiC) w 111 3 111 167 i0 _ Try.underlying111 Try.underlying3 hi hz0 hz1 (by decide) rfl (by rw [hz2]; decide) n h0 hn
    unfold maxLen at hcm
    have HR := Lib.hid hr
    have HO := Lib.hid hown
    clear hi hz0 hz1 hz2 hr hown
    go_enter Try.func168, Try.ntmps168
    go_wp2_with (at_builtin; refine step_to (v := .slice (some ⟨w.heap.size, 0, none⟩) n cap) (w' := w') rfl (by have hr := HR.out; simp [execOp, resolve, invoke, builtin, hr, Result.andThen, Act.eval]) ?_)
    go_ret
    exact ⟨_, rfl, HO.out, hB⟩

set_option maxRecDepth 100000 in
set_option maxHeartbeats 1600000 in
theorem concatF_any (v : Value) (xs : List Value) (ls : List (List (Fi))) (w : World) (h : RecAt 1 vlC w w.heap.size v xs) (hle : xs.length = ls.length) (hr : ∀ i (h1 : i < xs.length) (h2 : i < ls.length), RecAt 2 fiC w w.heap.size xs[i] ls[i]) (hn : ls.flatten.length ≤ 1000000) :
    Calls Try.prog 161 #[v] w (OutR 167 2 fiC ls.flatten w) := by
  have HI := Lib.hid h
  have HR := Lib.hid hr
  have HOn : Hid (∀ l ∈ ls, ∀ y ∈ l, ∀ u ∈ fiC y, u.oneCell' = true) := Lib.hid (fun l (_ : l ∈ ls) y (_ : y ∈ l) => fiC_one y)
  have HN : Hid (∀ k, (ls.take k).flatten.length ≤ 1000000) := Lib.hid (fun k => Nat.le_trans (flat_take_le ls k) hn)
  have HL := Lib.hid hle
  obtain ⟨a, cap, rfl, hl, hm, hc⟩ := h
  unfold maxLen at hm
  clear hc hr hle
  have HG := Lib.hid (fun n w hn => growF_any n w hn)
  go_enter Try.func161, Try.ntmps161
  go_wp2
  go_loop [3, 11] (fun s i => ∃ k n : Nat, k ≤ xs.length ∧ i = .int .i64 (k : Int) ∧ s = .int .i64 (n : Int) ∧ n ≤ 1000000 ∧ Hid (n = (ls.take k).flatten.length)) (fun _ i => xs.length - (intOf i).toNat)
  case atStart => exact ⟨0, 0, Nat.zero_le _, rfl, rfl, by omega, Lib.hid rfl⟩
  case round =>
    obtain ⟨k, n, hk, rfl, rfl, hn1, HS⟩ := hrel
    by_cases hlt : k < xs.length
    · have hlt2 : k < ls.length := by have := HL.out; omega
      obtain ⟨a', cap', hv, _, _, hc⟩ := HI.out
      cases hv
      obtain ⟨b, off, rfl, hb, hr⟩ := hc (by omega)
      have c0 := hr k hlt 0 _ rfl
      rw [Nat.mul_one, Nat.add_zero] at c0
      obtain ⟨xa, xc, hxe⟩ := (HR.out k hlt hlt2).slice
      rw [hxe] at c0
      obtain ⟨m, hmE⟩ : ∃ m, m = ls[k].length := ⟨_, rfl⟩
      rw [← hmE] at c0
      have HS' : Hid (n + m = (ls.take (k + 1)).flatten.length) := Lib.hid (by rw [List.take_succ_eq_append_getElem hlt2, List.flatten_append, List.length_append, ← HS.out]; simp [hmE])
      have hn2 : n + m ≤ 1000000 := by rw [HS'.out]; exact HN.out (k + 1)
      clear hr hc hxe hmE hb
      go_wp2
      refine ⟨⟨k + 1, n + m, by omega, by simp, by simp, hn2, HS'⟩, ?_⟩
      simp [intOf]; omega
    · have HZ : Hid ((n : Int) = (ls.flatten.length : Nat)) := Lib.hid (by rw [HS.out, List.take_of_length_le (by have := HL.out; omega)])
      go_wp2_with fail
      refine (HG.out n _ hn1).mono ?_
      rintro e w1 ⟨v1, rfl, hown1, hb1⟩
      go_wp2
      go_loopw [6, 27] (fun s i wr => ∃ (k : Nat), k ≤ xs.length ∧ i = .int .i64 (k : Int) ∧ OwnR 167 2 fiC wr w.heap.size s (ls.take k).flatten ∧ Below w.heap.size w wr) (fun _ i _ => xs.length - (intOf i).toNat)
      case atStart => exact ⟨0, Nat.zero_le _, rfl, hown1, hb1⟩
      case round =>
        obtain ⟨j, hj, rfl, hown, hB⟩ := hrel
        clear hown1 hb1
        by_cases hjl : j < xs.length
        · have hlt2 : j < ls.length := by have := HL.out; omega
          obtain ⟨a', cap', hv, _, _, hc⟩ := (HI.out.below hB)
          cases hv
          obtain ⟨b, off, rfl, hb, hr⟩ := hc (by omega)
          have c0 := hr j hjl 0 _ rfl
          rw [Nat.mul_one, Nat.add_zero] at c0
          have HX := Lib.hid ((HR.out j hjl hlt2).below hB)
          obtain ⟨X, hX⟩ : ∃ X, X = xs[j] := ⟨_, rfl⟩
          rw [← hX] at c0 HX
          have HO1 := Lib.hid (HOn.out ls[j] (List.getElem_mem hlt2))
          have HT : Hid ((ls.take (j + 1)).flatten = (ls.take j).flatten ++ ls[j]) := Lib.hid (by rw [List.take_succ_eq_append_getElem hlt2, List.flatten_append]; simp)
          have HNN : Hid ((ls.take j).flatten.length + ls[j].length ≤ 100000000) := Lib.hid (by have h1 := HN.out (j + 1); rw [HT.out, List.length_append] at h1; omega)
          have HOw := Lib.hid hown
          clear hr hc hX hb hown
          go_wp2_with (at_builtin; refine wpList_appR fiC_len (by decide) Try.underlying111 Try.infoFile rfl (by decide) rfl _ _ rfl w.heap.size w.heap.size _ X (ls.take j).flatten ls[j] rfl rfl HOw.out HX.out HO1.out HNN.out hB.size ?_; intro v2 w2 hown2 hgr2; have hB2 := hB.grown hgr2 hB.size (ownBlock_base HOw.out); rw [← HT.out] at hown2)
          go_roundw
          case rel => exact ⟨j + 1, by omega, by go_num, hown2, hB2⟩
          case measure => simp [intOf]; omega
        · have HF : Hid ((ls.take j).flatten = ls.flatten) := Lib.hid (by rw [List.take_of_length_le (by have := HL.out; omega)])
          rw [HF.out] at hown
          go_wp2
          go_ret
          exact ⟨_, rfl, hown, hB⟩

theorem cat3F (w : World) (a1 : Option Addr) (p c1 : Nat) (V3 : Value) (l1 l3 : List (Fi)) (x : Fi) (h1 : RecAt 2 fiC w w.heap.size (.slice a1 p c1) l1) (h3 : RecAt 2 fiC w w.heap.size V3 l3) (hn : l1.length + l3.length ≤ 1000) :
    Calls Try.prog 161 #[.slice (some ⟨w.heap.size + 1, 0, none⟩) 3 3] ((w.alloc (.cells #[.string x.nm, .string x.da] 167)).alloc (.cells #[.slice a1 p c1, .slice (some ⟨w.heap.size, 0, none⟩) 1 1, V3] 111)) (OutB 167 2 fiC (l1 ++ (x :: l3)) w.heap.size w) := by
  have hs1 : (w.alloc (.cells #[.string x.nm, .string x.da] 167)).heap.size = w.heap.size + 1 := by simp
  have hv := vals_rec (w.alloc (.cells #[.string x.nm, .string x.da] 167)) 111 [.slice a1 p c1, .slice (some ⟨w.heap.size, 0, none⟩) 1 1, V3] 3 rfl (by decide)
  have ho := one_rec fiC_len w 167 x #[.string x.nm, .string x.da] rfl
  have hb1 : Below w.heap.size w (w.alloc (.cells #[.string x.nm, .string x.da] 167)) := (Below.refl _ _).alloc (Nat.le_refl _) _
  have hb2 : Below (w.heap.size + 1) (w.alloc (.cells #[.string x.nm, .string x.da] 167)) ((w.alloc (.cells #[.string x.nm, .string x.da] 167)).alloc (.cells [.slice a1 p c1, .slice (some ⟨w.heap.size, 0, none⟩) 1 1, V3].toArray 111)) := (Below.refl _ _).alloc (by rw [hs1]; exact Nat.le_refl _) _
  have hs2 : ((w.alloc (.cells #[.string x.nm, .string x.da] 167)).alloc (.cells [.slice a1 p c1, .slice (some ⟨w.heap.size, 0, none⟩) 1 1, V3].toArray 111)).heap.size = w.heap.size + 2 := by simp
  rw [hs1] at hv
  have hB : Below w.heap.size w ((w.alloc (.cells #[.string x.nm, .string x.da] 167)).alloc (.cells [.slice a1 p c1, .slice (some ⟨w.heap.size, 0, none⟩) 1 1, V3].toArray 111)) := hb1.trans (hb2.mono (by omega))
  have r1 := (h1.below hB).mono (show w.heap.size ≤ w.heap.size + 2 by omega)
  have r3 := (h3.below hB).mono (show w.heap.size ≤ w.heap.size + 2 by omega)
  have r2 := (ho.below hb2).mono (show w.heap.size + 1 ≤ w.heap.size + 2 by omega)
  have hv2 := hv.mono (show w.heap.size + 1 + 1 ≤ w.heap.size + 2 by omega)
  show Calls Try.prog 161 #[.slice (some ⟨w.heap.size + 1, 0, none⟩) 3 3] ((w.alloc (.cells #[.string x.nm, .string x.da] 167)).alloc (.cells [.slice a1 p c1, .slice (some ⟨w.heap.size, 0, none⟩) 1 1, V3].toArray 111)) _
  generalize (w.alloc (.cells #[.string x.nm, .string x.da] 167)).alloc (.cells [.slice a1 p c1, .slice (some ⟨w.heap.size, 0, none⟩) 1 1, V3].toArray 111) = W at hs2 hB r1 r2 r3 hv2 ⊢
  rw [← hs2] at r1 r2 r3 hv2
  refine (concatF_any _ [.slice a1 p c1, .slice (some ⟨w.heap.size, 0, none⟩) 1 1, V3] [l1, [x], l3] W hv2 rfl (fun i h h' => ?_) (by simp; omega)).mono ?_
  · match i, h, h' with
    | 0, _, _ => exact r1
    | 1, _, _ => exact r2
    | 2, _, _ => exact r3
  · rintro e w' ⟨v, rfl, hown, hb⟩
    have e1 : [l1, [x], l3].flatten = l1 ++ (x :: l3) := by simp
    rw [e1] at hown
    exact ⟨v, rfl, hown.base_mono (by omega), hB.trans (hb.mono (by omega))⟩

theorem cat2F (w : World) (a1 : Option Addr) (p c1 : Nat) (V3 : Value) (l1 l3 : List (Fi)) (h1 : RecAt 2 fiC w w.heap.size (.slice a1 p c1) l1) (h3 : RecAt 2 fiC w w.heap.size V3 l3) (hn : l1.length + l3.length ≤ 1000) :
    Calls Try.prog 161 #[.slice (some ⟨w.heap.size, 0, none⟩) 2 2] (w.alloc (.cells #[.slice a1 p c1, V3] 111)) (OutB 167 2 fiC (l1 ++ l3) w.heap.size w) := by
  have hv := vals_rec w 111 [.slice a1 p c1, V3] 2 rfl (by decide)
  have hB : Below w.heap.size w (w.alloc (.cells [.slice a1 p c1, V3].toArray 111)) := (Below.refl _ _).alloc (Nat.le_refl _) _
  have hs2 : (w.alloc (.cells [.slice a1 p c1, V3].toArray 111)).heap.size = w.heap.size + 1 := by simp
  have r1 := (h1.below hB).mono (show w.heap.size ≤ w.heap.size + 1 by omega)
  have r3 := (h3.below hB).mono (show w.heap.size ≤ w.heap.size + 1 by omega)
  show Calls Try.prog 161 #[.slice (some ⟨w.heap.size, 0, none⟩) 2 2] (w.alloc (.cells [.slice a1 p c1, V3].toArray 111)) _
  generalize w.alloc (.cells [.slice a1 p c1, V3].toArray 111) = W at hs2 hB r1 r3 hv ⊢
  rw [← hs2] at r1 r3 hv
  refine (concatF_any _ [.slice a1 p c1, V3] [l1, l3] W hv rfl (fun i h h' => ?_) (by simp; omega)).mono ?_
  · match i, h, h' with
    | 0, _, _ => exact r1
    | 1, _, _ => exact r3
  · rintro e w' ⟨v, rfl, hown, hb⟩
    have e1 : [l1, l3].flatten = l1 ++ l3 := by simp
    rw [e1] at hown
    exact ⟨v, rfl, hown.base_mono (by omega), hB.trans (hb.mono (by omega))⟩

end Go.Proofs.Ytffkakpbelknaaa

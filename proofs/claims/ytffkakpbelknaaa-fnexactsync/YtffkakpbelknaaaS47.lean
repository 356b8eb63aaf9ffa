/- Joined: W14y, W14v. -/
import Derived.Test.YtffkakpbelknaaaS40
import Derived.Test.YtffkakpbelknaaaS46
/- W14y -/
namespace Go.Proofs.Ytffkakpbelknaaa
open Go.ChangeShapes Go.WideShapes Go.ChangeAt Go.RowKit
set_option linter.unusedVariables false

section
variable {α β : Type} {k k' : Nat} {C : α → List Value} {C' : β → List Value}
theorem OwnR.lo {e : TypeId} {w w' : World} {base A : Nat} {v : Value} {l : List α} (h : OwnR e k C w base v l) (hb : Below A w w') (hv : ∀ b, v.ownBlock = some b → b < A) : OwnR e k C w' base v l := by
  refine ⟨h.1, ?_⟩
  rcases h.2 with hn | ⟨g, cap, cur, rfl, hb', hgg, rest⟩
  · exact .inl hn
  · refine .inr ⟨g, cap, cur, rfl, hb', ?_, rest⟩
    rw [hb.block g (hv g rfl)]
    exact hgg
theorem OwnR.grown {e : TypeId} {w w' : World} {base : Nat} {v : Value} {l : List α} {row : Option Nat} (h : OwnR e k C w base v l) (hg : w.grownBy w' row) (hne : ∀ b, row = some b → v.ownBlock ≠ some b) : OwnR e k C w' base v l := by
  refine ⟨h.1, ?_⟩
  rcases h.2 with hn | ⟨g, cap, cur, rfl, hb', hgg, rest⟩
  · exact .inl hn
  · refine .inr ⟨g, cap, cur, rfl, hb', ?_, rest⟩
    rw [hg.block g (Array.getElem?_eq_some_iff.1 hgg).1 (fun e => hne g e.symm rfl)]
    exact hgg
end

set_option maxRecDepth 100000 in
set_option maxHeartbeats 1600000 in
theorem markDisk_any (vl vs vo : Value) (L S : List Fi) (os : List DOp) (B T : Nat) (m : Int) (w : World) (hL : OwnR 167 2 fiC w B vl L) (hS : OwnR 167 2 fiC w B vs S) (hO : OwnR 68 4 doC w B vo os) (hB : B ≤ w.heap.size) (t1 : ∀ b, vl.ownBlock = some b → b < T) (t2 : ∀ b, vs.ownBlock = some b → b < T) (t3 : ∀ b, vo.ownBlock = some b → b < T) (a1 : ApartV vl vs) (a2 : ApartV vl vo) (a3 : ApartV vs vo) (nL : L.length ≤ 1048576) (nS : S.length ≤ 1048576) (nO : os.length ≤ 1048576) (hm0 : 0 < m) (hm1 : m ≤ 10000000) :
    Calls Try.prog 35 #[dkV vl vs vo, .int .i64 m] w fun e w' => e = .returned (.int .i64 (m + 2 * (L.length : Int) + 2 * (S.length : Int) + 4 * (os.length : Int))) ∧ OwnR 167 2 fiC w' B vl (maFs L.length m) ∧ OwnR 167 2 fiC w' B vs (maFs S.length (m + 2 * (L.length : Int))) ∧ OwnR 68 4 doC w' B vo (maDs os.length (m + 2 * (L.length : Int) + 2 * (S.length : Int))) ∧ Mid B T w w' := by
  have HA := Lib.hid (⟨a1, a2, a3⟩ : ApartV vl vs ∧ ApartV vl vo ∧ ApartV vs vo)
  have hx0 := Box.new w #[vl, vs, vo] 64
  have hM0 : Mid B T w (w.alloc (.cells #[vl, vs, vo] 64)) := Mid.below ((Below.refl _ _).alloc (Nat.le_refl _) _) hB
  have HL := Lib.hid (hL.keep ((Below.refl w.heap.size w).alloc (Nat.le_refl _) (.cells #[vl, vs, vo] 64)) (Nat.le_refl _))
  have HS := Lib.hid (hS.keep ((Below.refl w.heap.size w).alloc (Nat.le_refl _) (.cells #[vl, vs, vo] 64)) (Nat.le_refl _))
  have HO := Lib.hid (hO.keep ((Below.refl w.heap.size w).alloc (Nat.le_refl _) (.cells #[vl, vs, vo] 64)) (Nat.le_refl _))
  have bL := Lib.hid (fun b hb => (⟨(hL.blk b hb).1, (hL.blk b hb).2, t1 b hb⟩ : B ≤ b ∧ b < w.heap.size ∧ b < T))
  have bS := Lib.hid (fun b hb => (⟨(hS.blk b hb).1, (hS.blk b hb).2, t2 b hb⟩ : B ≤ b ∧ b < w.heap.size ∧ b < T))
  have bO := Lib.hid (fun b hb => (⟨(hO.blk b hb).1, (hO.blk b hb).2, t3 b hb⟩ : B ≤ b ∧ b < w.heap.size ∧ b < T))
  clear hL hS hO a1 a2 a3 t1 t2 t3
  go_enter Try.func35, Try.ntmps35
  go_wp2_with fail
  generalize w.alloc (.cells #[vl, vs, vo] 64) = W at hx0 hM0 HL HS HO ⊢
  have hW : w.heap.size ≤ W.heap.size := hM0.1.size
  refine (markFileS_any vl L B m W HL.out hm0 (by omega) nL).mono ?_
  rintro e w1 ⟨rfl, o1, g1⟩
  have HL1 := Lib.hid o1
  have HS1 := Lib.hid (HS.out.grown g1 (fun b hb => HA.out.1 b hb))
  have HO1 := Lib.hid (HO.out.grown g1 (fun b hb => HA.out.2.1 b hb))
  have hM1 := hM0.trans (Mid.gb g1 (by omega) (fun b hb => ⟨(bL.out b hb).1, (bL.out b hb).2.2⟩))
  have hx1 : Box w1 w.heap.size #[vl, vs, vo] 64 := by
    show w1.heap[w.heap.size]? = _
    rw [g1.block _ hx0.lt (fun e => by have := (bL.out _ e.symm).2.1; omega)]
    exact hx0
  have f1 := hx1.cell 1 _ rfl
  have f2 := hx1.cell 2 _ rfl
  have hW1 : w.heap.size ≤ w1.heap.size := hM1.1.size
  clear o1 g1 hM0 hx0 HL HS HO
  go_wp2_with fail
  refine (markFileS_any vs S B _ w1 HS1.out (by omega) (by omega) nS).mono ?_
  rintro e w2 ⟨rfl, o2, g2⟩
  have HL2 := Lib.hid (HL1.out.grown g2 (fun b hb e => HA.out.1 b e hb))
  have HS2 := Lib.hid o2
  have HO2 := Lib.hid (HO1.out.grown g2 (fun b hb => HA.out.2.2 b hb))
  have hM2 := hM1.trans (Mid.gb g2 (by omega) (fun b hb => ⟨(bS.out b hb).1, (bS.out b hb).2.2⟩))
  have hx2 : Box w2 w.heap.size #[vl, vs, vo] 64 := by
    show w2.heap[w.heap.size]? = _
    rw [g2.block _ hx1.lt (fun e => by have := (bS.out _ e.symm).2.1; omega)]
    exact hx1
  have f2 := hx2.cell 2 _ rfl
  have hW2 : w.heap.size ≤ w2.heap.size := hM2.1.size
  clear o2 g2 hM1 hx1 HL1 HS1 HO1 f1
  go_wp2_with fail
  refine (markDOpS_any vo os B _ w2 HO2.out (by omega) (by omega) nO).mono ?_
  rintro e w3 ⟨rfl, o3, g3⟩
  have HL3 := Lib.hid (HL2.out.grown g3 (fun b hb e => HA.out.2.1 b e hb))
  have HS3 := Lib.hid (HS2.out.grown g3 (fun b hb e => HA.out.2.2 b e hb))
  have HO3 := Lib.hid o3
  have HM3 := Lib.hid (hM2.trans (Mid.gb g3 (by omega) (fun b hb => ⟨(bO.out b hb).1, (bO.out b hb).2.2⟩)))
  clear o3 g3 hM2 hx2 HL2 HS2 HO2 f2
  go_wp2
  go_ret
  exact ⟨rfl, HL3.out, HS3.out, HO3.out, HM3.out⟩

set_option maxRecDepth 100000 in
set_option maxHeartbeats 1600000 in
theorem heldDisk_any (vl vs vo : Value) (a b c : Nat) (m : Int) (w : World) (hL : FiAt w w.heap.size vl (maFs a m)) (hS : FiAt w w.heap.size vs (maFs b (m + 2 * (a : Int)))) (hO : OaAt w w.heap.size vo (maDs c (m + 2 * (a : Int) + 2 * (b : Int)))) (nL : a ≤ 1048576) (nS : b ≤ 1048576) (nO : c ≤ 1048576) (hm0 : 0 < m) (hm1 : m ≤ 10000000) :
    Calls Try.prog 36 #[dkV vl vs vo, .int .i64 m] w fun e w' => e = .returned (.int .i64 (m + 2 * (a : Int) + 2 * (b : Int) + 4 * (c : Int))) ∧ Below w.heap.size w w' := by
  have HL := Lib.hid hL
  have HS := Lib.hid hS
  have HO := Lib.hid hO
  have hx0 := Box.new w #[vl, vs, vo] 64
  have hb0 : Below w.heap.size w (w.alloc (.cells #[vl, vs, vo] 64)) := (Below.refl _ _).alloc (Nat.le_refl _) _
  clear hL hS hO
  go_enter Try.func36, Try.ntmps36
  go_wp2_with fail
  generalize w.alloc (.cells #[vl, vs, vo] 64) = W at hx0 hb0 ⊢
  refine (heldFileS_any vl a m W ((HL.out.below hb0).mono hb0.size) hm0 (by omega) nL).mono ?_
  rintro e w1 ⟨rfl, hb1⟩
  have hB1 := hb0.trans (hb1.mono hb0.size)
  have hx1 := hx0.keep hb1 hx0.lt
  have f1 := hx1.cell 1 _ rfl
  have f2 := hx1.cell 2 _ rfl
  clear hb0 hb1 hx0
  go_wp2_with fail
  go_wp2_with fail
  refine (heldFileS_any vs b _ w1 ((HS.out.below hB1).mono hB1.size) (by omega) (by omega) nS).mono ?_
  rintro e w2 ⟨rfl, hb2⟩
  have hB2 := hB1.trans (hb2.mono hB1.size)
  have hx2 := hx1.keep hb2 hx1.lt
  have f2 := hx2.cell 2 _ rfl
  clear hB1 hb2 hx1 f1
  go_wp2_with fail
  go_wp2_with fail
  refine (heldDOpS_any vo c _ w2 ((HO.out.below hB2).mono hB2.size) (by omega) (by omega) nO).mono ?_
  rintro e w3 ⟨rfl, hb3⟩
  have hB3 := hB2.trans (hb3.mono hB2.size)
  clear hB2 hb3 hx2 f2
  go_wp2_with fail
  go_wp2
  go_ret
  exact ⟨rfl, hB3⟩
end Go.Proofs.Ytffkakpbelknaaa

/- W14v -/
namespace Go.Proofs.Ytffkakpbelknaaa
open Go.ChangeShapes Go.WideShapes Go.ChangeAt Go.RowKit
set_option linter.unusedVariables false

set_option maxRecDepth 100000 in
set_option maxHeartbeats 1600000 in
theorem cloneF_any (v : Value) (l : List (Fi)) (w : World) (h : RecAt 2 fiC w w.heap.size v l) (hn : l.length ≤ 10000000) :
    Calls Try.prog 130 #[v] w (OutR 167 2 fiC l w) := by
  have HI := Lib.hid h
  have hone' : ∀ y ∈ l, ∀ u ∈ fiC y, u.oneCell' = true := (fun y _ => fiC_one y)
  have HOn := Lib.hid hone'
  obtain ⟨a, cap, rfl, hl, hm, hc⟩ := h
  have hq := fun w (a : Option Addr) n c => Go.run_eql_slice_nil (P := Try.prog) w 61 167 a n c Try.underlying61
  cases a with
  | none =>
    have hl0 : l = [] := by
      rcases Nat.eq_zero_or_pos l.length with h0 | h0
      · exact List.eq_nil_of_length_eq_zero h0
      · obtain ⟨b, off, h1, _⟩ := hc h0
        cases h1
    subst hl0
    clear hc hone'
    go_enter Try.func130, Try.ntmps130
    go_wp2
    go_ret
    exact ⟨_, rfl, OwnR.nil _ _ _, Below.refl _ _⟩
  | some ad =>
    clear hc hone'
    have hba : Below w.heap.size w (w.alloc (.cells #[] 167)) := (Below.refl _ _).alloc (Nat.le_refl _) _
    have HW := Lib.hid (HI.out.below hba)
    have HL := Lib.hid (OwnR.lit (k := 2) (C := fiC) 167 w w.heap.size (Nat.le_refl _))
    go_enter Try.func130, Try.ntmps130
    go_wp2_with (at_builtin; refine wpList_appR fiC_len (by decide) Try.underlying61 Try.infoFile rfl (by decide) rfl _ _ rfl w.heap.size w.heap.size _ _ [] l rfl rfl HL.out HW.out HOn.out (by simpa using Nat.le_trans hn (by decide)) (by simp) ?_; intro v' w' hown hgr; have hB := hba.grown hgr (by simp) (fun k hk => by cases hk; simp))
    go_ret
    rw [List.nil_append] at hown
    exact ⟨_, rfl, hown, hB⟩

set_option maxRecDepth 100000 in
set_option maxHeartbeats 1600000 in
theorem cloneO_any (v : Value) (l : List (DOp)) (w : World) (h : RecAt 4 doC w w.heap.size v l) (hn : l.length ≤ 10000000) :
    Calls Try.prog 131 #[v] w (OutR 68 4 doC l w) := by
  have HI := Lib.hid h
  have hone' : ∀ y ∈ l, ∀ u ∈ doC y, u.oneCell' = true := (fun y _ => doC_one y)
  have HOn := Lib.hid hone'
  obtain ⟨a, cap, rfl, hl, hm, hc⟩ := h
  have hq := fun w (a : Option Addr) n c => Go.run_eql_slice_nil (P := Try.prog) w 62 68 a n c Try.underlying62
  cases a with
  | none =>
    have hl0 : l = [] := by
      rcases Nat.eq_zero_or_pos l.length with h0 | h0
      · exact List.eq_nil_of_length_eq_zero h0
      · obtain ⟨b, off, h1, _⟩ := hc h0
        cases h1
    subst hl0
    clear hc hone'
    go_enter Try.func131, Try.ntmps131
    go_wp2
    go_ret
    exact ⟨_, rfl, OwnR.nil _ _ _, Below.refl _ _⟩
  | some ad =>
    clear hc hone'
    have hba : Below w.heap.size w (w.alloc (.cells #[] 68)) := (Below.refl _ _).alloc (Nat.le_refl _) _
    have HW := Lib.hid (HI.out.below hba)
    have HL := Lib.hid (OwnR.lit (k := 4) (C := doC) 68 w w.heap.size (Nat.le_refl _))
    go_enter Try.func131, Try.ntmps131
    go_wp2_with (at_builtin; refine wpList_appR doC_len (by decide) Try.underlying62 Try.infoDOp rfl (by decide) rfl _ _ rfl w.heap.size w.heap.size _ _ [] l rfl rfl HL.out HW.out HOn.out (by simpa using Nat.le_trans hn (by decide)) (by simp) ?_; intro v' w' hown hgr; have hB := hba.grown hgr (by simp) (fun k hk => by cases hk; simp))
    go_ret
    rw [List.nil_append] at hown
    exact ⟨_, rfl, hown, hB⟩

end Go.Proofs.Ytffkakpbelknaaa

/- Parts of the proof. -/
import Derived.WalkMore
import Derived.ScopeJumps
import Derived.Test.YtffkakpbelknaaaGreatDoorO8
import Derived.Test.YtffkakpbelknaaaGreatDoorO13
namespace Go.Proofs.YtffkakpbelknaaaGreatDoor
set_option maxHeartbeats 4000000
set_option maxRecDepth 100000
open Go.ChangeShapes Go.WideShapes Go.ChangeAt Go.RowKit Go.Shelf
set_option linter.unusedVariables false
theorem cut_any (R : ByteArray) (k : Nat) (w : World) : Calls Tryz.prog 82 #[.string R, .string (eB k)] w fun e w' => e = .returned (.tuple #[.string ⟨(Lib.trimPrefix R.data.toList (eL k)).toArray⟩, .bool (Lib.hasPrefix R.data.toList (eL k))]) /\ w = w' :=
 (Tryz.strings_CutPrefix R (eB k) w).mono (fun e w' h => ⟨h.1, h.2.symm⟩)
theorem ETab.cells {w : World} (h : ETab w) : w.cell? ⟨1, 0, none⟩ = some (.string (eB 0)) /\ w.cell? ⟨1, 1, none⟩ = some (.string (eB 1)) /\ w.cell? ⟨1, 2, none⟩ = some (.string (eB 2)) /\ w.cell? ⟨1, 3, none⟩ = some (.string (eB 3)) := by
 obtain ⟨t, h⟩ := h
 refine ⟨?_, ?_, ?_, ?_⟩ <;> simp [World.cell?, h] <;> rfl
theorem idx_esc (e0 e1 e2 e3 : ByteArray) (w : World) : Sem.run Tryz.prog (Instr.index 109 (.agg #[.string e0, .string e1, .string e2, .string e3]) (.int .i64 0)) w = .ok (.string e0) w /\ Sem.run Tryz.prog (Instr.index 109 (.agg #[.string e0, .string e1, .string e2, .string e3]) (.int .i64 1)) w = .ok (.string e1) w /\ Sem.run Tryz.prog (Instr.index 109 (.agg #[.string e0, .string e1, .string e2, .string e3]) (.int .i64 2)) w = .ok (.string e2) w /\ Sem.run Tryz.prog (Instr.index 109 (.agg #[.string e0, .string e1, .string e2, .string e3]) (.int .i64 3)) w = .ok (.string e3) w := by
 refine ⟨?_, ?_, ?_, ?_⟩
 all_goals simp [Instr.index, run_underlying Tryz.underlying109, asIntOf, part]
theorem oper_appB {w : World} {o : Oper} {a : Act} {K : Act -> World -> Prop} {Q : Exit -> Act -> World -> Prop} (hgd : o.guard = none) (s x : Operand)
  (ho : o.op = .call { callee := .builtin .append, args := #[s, x], argTypes := #[22, 22] })
  (base : Nat) (v : Value) (l : List UInt8) (hs : a.eval s = v) (hown : OwnB w base v l)
  (B m : Nat) (cs : Array Value) (fr : Nat × Nat) (news : List UInt8) (hx : a.eval x = .slice (some ⟨B, 0, none⟩) m m) (hb : w.heap[B]? = some (.cells cs 5 fr)) (hcs : cs.toList = news.map bc) (hm : news.length = m) (hm0 : 0 < m)
  (hl : l.length + m <= 1000000000) (hbase : base <= w.heap.size)
  (h : ∀ v' w', OwnB w' base v' (l ++ news) -> Below base w w' -> K (a.put o.dst v') w') : Oper.wp Tryz.prog o a w K Q := by
 have := step_appB (ops := #[]) (Q := Q) (E := True) hgd s x ho base v l hs hown B m cs fr news hx hb hcs hm hm0 hl hbase h
 have hw : Region.wanted o (yielded #[] a.tmps) = true := by simp [Region.wanted, hgd]
 rw [if_pos hw] at this
 exact this
theorem list_ne {R : ByteArray} (h : 0 < R.size) : R.data.toList ≠ [] := fun e => by
 have : R.data.toList.length = 0 := by rw [e]; rfl
 have h2 : R.data.toList.length = R.size := by simp
 omega
theorem implPlain_any (s : ByteArray) (w : World) (hE : ETab w) :
  Calls Tryz.prog 83 #[.string s] w fun e w' => e = .returned (plV s) /\ Below w.heap.size w w' := by
 by_cases h : s.size <= 1200
 ·have HY : Hid (∀ r, plL s.data.toList = some r -> plV s = .tuple #[.string ⟨r.toArray⟩, .bool true]) := Lib.hid (fun r hr => plV_some h hr)
  have HN : Hid (plL s.data.toList = none -> plV s = .tuple #[.string ⟨#[]⟩, .bool false]) := Lib.hid (fun hr => plV_none h hr)
  have HT := Lib.hid hE
  have H0 : Hid (plL s.data.toList = (plL s.data.toList).map (fun r => [] ++ r)) := Lib.hid (by simp)
  generalize plV s = out at HY HN ⊢
  have hd : ¬ (1200 < (s.size : Int)) := by omega
  clear hE
  generalize hS : s.data.toList = S at HY HN H0
  go_enter Tryz.func83, Tryz.ntmps83
  go_wp2
  refine wp_scope_jumps 0 (fun a' w' => (out = .tuple #[.string ⟨#[]⟩, .bool false] /\ Below w.heap.size w w') /\ ∃ u0 u1 u2 u3 u4 u5 u6 u7 u8 u9 u10 u11 u12 u13 u14 u15 u16 u17 u18 u19 u20 u21 u22 u23 u24 u25 u26 u27 u28 u29 u30 u31 u32 u33 u34 u35 u36 u37 u38 u39 u40 u41 u42 u43 u44 u45 u46 : Value, a' = { tmps := #[u0, u1, u2, u3, u4, u5, u6, u7, u8, u9, u10, u11, u12, u13, u14, u15, u16, u17, u18, u19, u20, u21, u22, u23, u24, u25, u26, u27, u28, u29, u30, u31, u32, u33, u34, u35, u36, u37, u38, u39, u40, u41, u42, u43, u44, u45, u46], defers := [] }) (fun _ _ => 0) rfl ?first ?pass
  case pass =>
   rintro a' w' ⟨⟨ho, hb⟩, u0, u1, u2, u3, u4, u5, u6, u7, u8, u9, u10, u11, u12, u13, u14, u15, u16, u17, u18, u19, u20, u21, u22, u23, u24, u25, u26, u27, u28, u29, u30, u31, u32, u33, u34, u35, u36, u37, u38, u39, u40, u41, u42, u43, u44, u45, u46, rfl⟩
   go_wp2
   simp only [Exit.jump]
   go_ret2
   exact ⟨by rw [ho]; rfl, hb⟩
  go_wp2
  go_step3
  go_wp2
  go_loopw [0, 4] (fun r v wr => ∃ (R : ByteArray) (acc : List UInt8), r = .string R /\ acc.length + R.size <= 1200 /\ OwnB wr w.heap.size v acc /\ Hid (plL S = (plL R.data.toList).map (fun r => acc ++ r)) /\ Below w.heap.size w wr) (fun r _ _ => match r with | .string b => b.size | _ => 0)
  case atStart => exact ⟨s, [], rfl, by simpa using h, ⟨rfl, .inl ⟨rfl, rfl⟩⟩, by rw [hS]; exact H0, Below.refl _ _⟩
  case round =>
   obtain ⟨R, acc, rfl, hlen, hown, HR, hB⟩ := hrel
   have hsz := hB.size
   by_cases hpos : 0 < R.size
   ·have hpI : 0 < (R.size : Int) := by omega
    obtain ⟨c0, c1, c2, c3⟩ := (HT.out.below hB (Nat.le_refl _)).cells
    obtain ⟨E0, hE0⟩ : ∃ E, E = eB 0 := ⟨_, rfl⟩
    obtain ⟨E1, hE1⟩ : ∃ E, E = eB 1 := ⟨_, rfl⟩
    obtain ⟨E2, hE2⟩ : ∃ E, E = eB 2 := ⟨_, rfl⟩
    obtain ⟨E3, hE3⟩ : ∃ E, E = eB 3 := ⟨_, rfl⟩
    rw [<- hE0] at c0
    rw [<- hE1] at c1
    rw [<- hE2] at c2
    rw [<- hE3] at c3
    have HE0 := Lib.hid hE0
    have HE1 := Lib.hid hE1
    have HE2 := Lib.hid hE2
    have HE3 := Lib.hid hE3
    clear hE0 hE1 hE2 hE3
    have HNE := Lib.hid (list_ne hpos)
    obtain ⟨W0, rfl⟩ : ∃ W0, W0 = wr := ⟨_, rfl⟩
    go_wp2
    go_loopw [0, 4, 16] (fun r v i wr' => ∃ (k : Nat) (z : Int), k <= 4 /\ r = .string R /\ OwnB wr' w.heap.size v acc /\ i = .int .i64 z /\ z = (k : Int) /\ wr' = W0 /\ Hid (∀ j, j < k -> Lib.hasPrefix R.data.toList (eL j) = false)) (fun _ _ i _ => 4 - (intOf i).toNat)
    case atStart => exact ⟨0, 0, by omega, rfl, hown, rfl, rfl, rfl, Lib.hid (fun j hj => by omega)⟩
    case round =>
     clear hown
     obtain ⟨k, z, hk, rfl, hown, rfl, hz, hww, HP⟩ := hrel
     subst hww
     rcases k with _ | _ | _ | _ | k
     ·obtain rfl : z = 0 := by simpa using hz
      clear hz
      have hix := (idx_esc E0 E1 E2 E3 wr).1
      have HC := Lib.hid (cut_any R 0 wr)
      rw [<- HE0.out] at HC
      by_cases hp : Lib.hasPrefix R.data.toList (eL 0) = true
      ·have hst := pst_hit R.data.toList 0 (by omega) (fun j hj => HP.out j hj) hp
       have HR2 := Lib.hid (pl_step S R.data.toList acc (mB 0) (eB 0).size HNE.out hst (by decide) HR.out)
       have hle := pre_len hp
       rw [hp, trim_hit hp] at HC
       obtain ⟨R2, hR2⟩ : ∃ R2 : ByteArray, R2 = ⟨(R.data.toList.drop (eL 0).length).toArray⟩ := ⟨_, rfl⟩
       have hR2l : R2.data.toList = R.data.toList.drop (eB 0).size := by rw [hR2]; rfl
       have hR2s : R2.size + (eB 0).size = R.size := by
        have h1 : R2.data.toList.length = R2.size := by simp
        have h2 : R.data.toList.length = R.size := by simp
        have h3 : (eL 0).length = (eB 0).size := rfl
        rw [<- h1, hR2l, List.length_drop, h2]
        rw [h2, h3] at hle
        omega
       rw [<- hR2] at HC
       rw [<- hR2l] at HR2
       have hes := eB_size 0
       have hR2t : R2.size + 1 <= R.size := by omega
       clear hp hst hle hR2 hR2l hes hR2s
       go_wp2_with fail
       refine HC.out.mono ?_
       rintro e w1 ⟨rfl, rfl⟩
       clear HC
       go_wp2_with (at_builtin; refine wpList_appB rfl (.tmp 27) (.tmp 30) rfl w.heap.size _ _ rfl (hown.alloc _) wr.heap.size 1 _ _ [mB 0] rfl (heap_alloc_new wr _) rfl rfl (by decide) (by omega) (by simp; omega) ?_; intro v1 w1 hown1 hb1)
       have hb2 := (hB.alloc hsz _).trans hb1
       refine ⟨⟨R2, acc ++ [mB 0], rfl, by simp; omega, hown1, HR2, hb2⟩, ?_⟩
       show R2.size < R.size
       omega
      ·have hp' : Lib.hasPrefix R.data.toList (eL 0) = false := by simpa using hp
       rw [hp'] at HC
       have HP2 : Hid (∀ j, j < 1 -> Lib.hasPrefix R.data.toList (eL j) = false) := Lib.hid (fun j hj => by
        by_cases hjk : j < 0
        ·exact HP.out j hjk
        ·rw [show j = 0 by omega]; exact hp')
       clear hp hp'
       go_wp2_with fail
       refine HC.out.mono ?_
       rintro e w1 ⟨rfl, rfl⟩
       clear HC
       go_wp2
       refine ⟨⟨1, 1, by omega, rfl, hown, rfl, rfl, trivial, HP2⟩, ?_⟩
       simp [intOf]
     ·obtain rfl : z = 1 := by simpa using hz
      clear hz
      have hix := (idx_esc E0 E1 E2 E3 wr).2.1
      have HC := Lib.hid (cut_any R 1 wr)
      rw [<- HE1.out] at HC
      by_cases hp : Lib.hasPrefix R.data.toList (eL 1) = true
      ·have hst := pst_hit R.data.toList 1 (by omega) (fun j hj => HP.out j hj) hp
       have HR2 := Lib.hid (pl_step S R.data.toList acc (mB 1) (eB 1).size HNE.out hst (by decide) HR.out)
       have hle := pre_len hp
       rw [hp, trim_hit hp] at HC
       obtain ⟨R2, hR2⟩ : ∃ R2 : ByteArray, R2 = ⟨(R.data.toList.drop (eL 1).length).toArray⟩ := ⟨_, rfl⟩
       have hR2l : R2.data.toList = R.data.toList.drop (eB 1).size := by rw [hR2]; rfl
       have hR2s : R2.size + (eB 1).size = R.size := by
        have h1 : R2.data.toList.length = R2.size := by simp
        have h2 : R.data.toList.length = R.size := by simp
        have h3 : (eL 1).length = (eB 1).size := rfl
        rw [<- h1, hR2l, List.length_drop, h2]
        rw [h2, h3] at hle
        omega
       rw [<- hR2] at HC
       rw [<- hR2l] at HR2
       have hes := eB_size 1
       have hR2t : R2.size + 1 <= R.size := by omega
       clear hp hst hle hR2 hR2l hes hR2s
       go_wp2_with fail
       refine HC.out.mono ?_
       rintro e w1 ⟨rfl, rfl⟩
       clear HC
       go_wp2_with (at_builtin; refine wpList_appB rfl (.tmp 27) (.tmp 30) rfl w.heap.size _ _ rfl (hown.alloc _) wr.heap.size 1 _ _ [mB 1] rfl (heap_alloc_new wr _) rfl rfl (by decide) (by omega) (by simp; omega) ?_; intro v1 w1 hown1 hb1)
       have hb2 := (hB.alloc hsz _).trans hb1
       refine ⟨⟨R2, acc ++ [mB 1], rfl, by simp; omega, hown1, HR2, hb2⟩, ?_⟩
       show R2.size < R.size
       omega
      ·have hp' : Lib.hasPrefix R.data.toList (eL 1) = false := by simpa using hp
       rw [hp'] at HC
       have HP2 : Hid (∀ j, j < 2 -> Lib.hasPrefix R.data.toList (eL j) = false) := Lib.hid (fun j hj => by
        by_cases hjk : j < 1
        ·exact HP.out j hjk
        ·rw [show j = 1 by omega]; exact hp')
       clear hp hp'
       go_wp2_with fail
       refine HC.out.mono ?_
       rintro e w1 ⟨rfl, rfl⟩
       clear HC
       go_wp2
       refine ⟨⟨2, 2, by omega, rfl, hown, rfl, rfl, trivial, HP2⟩, ?_⟩
       simp [intOf]
     ·obtain rfl : z = 2 := by simpa using hz
      clear hz
      have hix := (idx_esc E0 E1 E2 E3 wr).2.2.1
      have HC := Lib.hid (cut_any R 2 wr)
      rw [<- HE2.out] at HC
      by_cases hp : Lib.hasPrefix R.data.toList (eL 2) = true
      ·have hst := pst_hit R.data.toList 2 (by omega) (fun j hj => HP.out j hj) hp
       have HR2 := Lib.hid (pl_step S R.data.toList acc (mB 2) (eB 2).size HNE.out hst (by decide) HR.out)
       have hle := pre_len hp
       rw [hp, trim_hit hp] at HC
       obtain ⟨R2, hR2⟩ : ∃ R2 : ByteArray, R2 = ⟨(R.data.toList.drop (eL 2).length).toArray⟩ := ⟨_, rfl⟩
       have hR2l : R2.data.toList = R.data.toList.drop (eB 2).size := by rw [hR2]; rfl
       have hR2s : R2.size + (eB 2).size = R.size := by
        have h1 : R2.data.toList.length = R2.size := by simp
        have h2 : R.data.toList.length = R.size := by simp
        have h3 : (eL 2).length = (eB 2).size := rfl
        rw [<- h1, hR2l, List.length_drop, h2]
        rw [h2, h3] at hle
        omega
       rw [<- hR2] at HC
       rw [<- hR2l] at HR2
       have hes := eB_size 2
       have hR2t : R2.size + 1 <= R.size := by omega
       clear hp hst hle hR2 hR2l hes hR2s
       go_wp2_with fail
       refine HC.out.mono ?_
       rintro e w1 ⟨rfl, rfl⟩
       clear HC
       go_wp2_with (at_builtin; refine wpList_appB rfl (.tmp 27) (.tmp 30) rfl w.heap.size _ _ rfl (hown.alloc _) wr.heap.size 1 _ _ [mB 2] rfl (heap_alloc_new wr _) rfl rfl (by decide) (by omega) (by simp; omega) ?_; intro v1 w1 hown1 hb1)
       have hb2 := (hB.alloc hsz _).trans hb1
       refine ⟨⟨R2, acc ++ [mB 2], rfl, by simp; omega, hown1, HR2, hb2⟩, ?_⟩
       show R2.size < R.size
       omega
      ·have hp' : Lib.hasPrefix R.data.toList (eL 2) = false := by simpa using hp
       rw [hp'] at HC
       have HP2 : Hid (∀ j, j < 3 -> Lib.hasPrefix R.data.toList (eL j) = false) := Lib.hid (fun j hj => by
        by_cases hjk : j < 2
        ·exact HP.out j hjk
        ·rw [show j = 2 by omega]; exact hp')
       clear hp hp'
       go_wp2_with fail
       refine HC.out.mono ?_
       rintro e w1 ⟨rfl, rfl⟩
       clear HC
       go_wp2
       refine ⟨⟨3, 3, by omega, rfl, hown, rfl, rfl, trivial, HP2⟩, ?_⟩
       simp [intOf]
     ·obtain rfl : z = 3 := by simpa using hz
      clear hz
      have hix := (idx_esc E0 E1 E2 E3 wr).2.2.2
      have HC := Lib.hid (cut_any R 3 wr)
      rw [<- HE3.out] at HC
      by_cases hp : Lib.hasPrefix R.data.toList (eL 3) = true
      ·have hst := pst_hit R.data.toList 3 (by omega) (fun j hj => HP.out j hj) hp
       have HR2 := Lib.hid (pl_step S R.data.toList acc (mB 3) (eB 3).size HNE.out hst (by decide) HR.out)
       have hle := pre_len hp
       rw [hp, trim_hit hp] at HC
       obtain ⟨R2, hR2⟩ : ∃ R2 : ByteArray, R2 = ⟨(R.data.toList.drop (eL 3).length).toArray⟩ := ⟨_, rfl⟩
       have hR2l : R2.data.toList = R.data.toList.drop (eB 3).size := by rw [hR2]; rfl
       have hR2s : R2.size + (eB 3).size = R.size := by
        have h1 : R2.data.toList.length = R2.size := by simp
        have h2 : R.data.toList.length = R.size := by simp
        have h3 : (eL 3).length = (eB 3).size := rfl
        rw [<- h1, hR2l, List.length_drop, h2]
        rw [h2, h3] at hle
        omega
       rw [<- hR2] at HC
       rw [<- hR2l] at HR2
       have hes := eB_size 3
       have hR2t : R2.size + 1 <= R.size := by omega
       clear hp hst hle hR2 hR2l hes hR2s
       go_wp2_with fail
       refine HC.out.mono ?_
       rintro e w1 ⟨rfl, rfl⟩
       clear HC
       go_wp2_with (at_builtin; refine wpList_appB rfl (.tmp 27) (.tmp 30) rfl w.heap.size _ _ rfl (hown.alloc _) wr.heap.size 1 _ _ [mB 3] rfl (heap_alloc_new wr _) rfl rfl (by decide) (by omega) (by simp; omega) ?_; intro v1 w1 hown1 hb1)
       have hb2 := (hB.alloc hsz _).trans hb1
       refine ⟨⟨R2, acc ++ [mB 3], rfl, by simp; omega, hown1, HR2, hb2⟩, ?_⟩
       show R2.size < R.size
       omega
      ·have hp' : Lib.hasPrefix R.data.toList (eL 3) = false := by simpa using hp
       rw [hp'] at HC
       have HP2 : Hid (∀ j, j < 4 -> Lib.hasPrefix R.data.toList (eL j) = false) := Lib.hid (fun j hj => by
        by_cases hjk : j < 3
        ·exact HP.out j hjk
        ·rw [show j = 3 by omega]; exact hp')
       clear hp hp'
       go_wp2_with fail
       refine HC.out.mono ?_
       rintro e w1 ⟨rfl, rfl⟩
       clear HC
       go_wp2
       refine ⟨⟨4, 4, by omega, rfl, hown, rfl, rfl, trivial, HP2⟩, ?_⟩
       simp [intOf]
     ·have hk4 : k = 0 := by omega
      subst hk4
      obtain rfl : z = 4 := by simpa using hz
      clear hz
      have HI := Lib.hid (fun w => index_any (R[0]'hpos) w)
      have hcons : R.data.toList = (R[0]'hpos) :: R.data.toList.drop 1 := by
       have hq : 0 < R.data.toList.length := by simpa using hpos
       have := List.drop_eq_getElem_cons hq
       rw [List.drop_zero] at this
       rw [show (R[0]'hpos) = R.data.toList[0] by simp; rfl]
       exact this
      have hpm : pst R.data.toList = if escM (R[0]'hpos) = [] then some ((R[0]'hpos), 1) else none := by
       rw [hcons]
       exact pst_miss _ _ (fun j hj => by rw [<- hcons]; exact HP.out j hj)
      have hi0 : (0 : Int) < (R.size : Int) := hpI
      by_cases hm : escM (R[0]'hpos) = []
      ·rw [mark_no _ hm] at HI
       rw [if_pos hm] at hpm
       have HR2 := Lib.hid (pl_step S R.data.toList acc (R[0]'hpos) 1 HNE.out hpm (by omega) HR.out)
       clear hpm hm hcons
       go_wp2_with fail
       refine (HI.out _).mono ?_
       rintro e w1 ⟨rfl, rfl⟩
       go_wp2
       have hA : OwnB wr.drew w.heap.size _ acc := hown
       have hBd := hB.drew
       have hsl : (R.extract 1 R.size).data.toList = R.data.toList.drop 1 := by
        rw [ByteArray.data_extract, Array.toList_extract]
        have h2 : R.data.toList.length = R.size := by simp
        simp only [List.extract]
        rw [List.take_of_length_le (by rw [List.length_drop, h2]; omega)]
       have hss : (R.extract 1 R.size).size + 1 = R.size := by rw [ByteArray.size_extract]; omega
       obtain ⟨R2, hR2⟩ : ∃ R2, R2 = R.extract 1 R.size := ⟨_, rfl⟩
       have hR2' := hR2.symm
       rw [<- hR2] at hsl hss
       rw [<- hsl] at HR2
       have hi1 : (1 : Int) <= (R.size : Int) := by omega
       have hlr : acc.length + R.size <= 1200 := hlen
       clear hR2 hsl hown hB
       refine wp_region_T (fun _ => True) (fun _ => True) 8 (by kernel_rfl) 9 rfl ?_
       refine wA 4 [0, 1, 2, 5, 6] ⟨trivial, fun _ => trivial⟩ ?_
       simp only [pick, List.filterMap_cons, List.filterMap_nil, List.getElem?_cons_zero, List.getElem?_cons_succ]
       iterate 1 (refine wpIf_step ?_ (by kernel_rfl) ?_ ?_; rotate_left; (intro w _; go_simp); try with_reducible rfl)
       refine wS (.string R) (fun w hw => by go_simp) ?_
       refine wS (.int .u8 ((R[0]'hpos).toNat : Int)) (fun w hw => by go_simp) ?_
       refine wS (.string R) (fun w hw => by go_simp) ?_
       refine wS (.string R2) (fun w hw => by go_simp) ?_
       refine wpIf_nil (fun hS => ?_)
       refine wO 3 3 (fun K hK => ?_)
       go_simp
       refine hK _ _ ⟨trivial, fun _ => trivial⟩ (fun hS3 => ?_)
       clear hK K hS
       refine wO 4 2 (fun K hK => ?_)
       refine oper_appB rfl (.tmp 38) (.tmp 41) rfl w.heap.size _ acc rfl (hA.alloc _) wr.heap.size 1 _ _ [R[0]'hpos] rfl (heap_alloc_new wr.drew _) rfl rfl (by decide) (by omega) (by simp; omega) ?_
       intro v1 w1 hown1 hb1
       refine hK _ _ ⟨trivial, fun _ => trivial⟩ (fun hS4 => ?_)
       clear hK K hS3
       have hb2 := (hBd.alloc hBd.size _).trans hb1
       go_simp
       refine wO 7 1 (fun K hK => ?_)
       go_simp
       refine hK _ _ ⟨trivial, fun _ => trivial⟩ (fun hS5 => ?_)
       clear hK K hS4
       refine wO 8 0 (fun K hK => ?_)
       go_simp
       refine hK _ _ ⟨trivial, fun _ => trivial⟩ (fun hS6 => ?_)
       clear hK K hS5
       refine wpAnyT_over (by kernel_rfl) ?_
       go_wp2
       go_roundw
       case rel => exact ⟨R2, acc ++ [R[0]'hpos], rfl, by simp; omega, hown1, HR2, hb2⟩
       case measure => show R2.size < R.size; omega
      ·obtain ⟨j, E, hj, hjx, hjc, _, _⟩ := mark_at (R[0]'hpos) wr (HT.out.below hB (Nat.le_refl _)) hm
       rw [hjx] at HI
       rw [if_neg hm] at hpm
       have HS := Lib.hid (pl_stop S R.data.toList acc HNE.out hpm HR.out)
       clear hpm hm hcons hjx hjc
       go_wp2_with fail
       refine (HI.out _).mono ?_
       rintro e w1 ⟨rfl, rfl⟩
       go_wp2
       go_step3
       exact ⟨rfl, ⟨HN.out HS.out, hB⟩, _, _, _, _, _, _, _, _, _, _, _, _, _, _, _, _, _, _, _, _, _, _, _, _, _, _, _, _, _, _, _, _, _, _, _, _, _, _, _, _, _, _, _, _, _, _, _, rfl⟩
   ·have hR0 : R.data.toList = [] := by
     have h1 : R.data.toList.length = R.size := by simp
     exact List.eq_nil_of_length_eq_zero (by omega)
    have HE := Lib.hid (HY.out acc (pl_end S acc (by have := HR.out; rw [hR0] at this; exact this)))
    have hc := conv_ownB hown
    have hz : ¬ (0 < (R.size : Int)) := by omega
    clear hR0
    go_wp2
    simp only [Exit.jump]
    go_ret2
    exact ⟨by rw [HE.out]; rfl, hB⟩
 ·have HE := Lib.hid (plV_long h)
  rw [HE.out]
  have hd : 1200 < (s.size : Int) := by omega
  clear hE h HE
  go_enter Tryz.func83, Tryz.ntmps83
  go_wp2
  refine wp_scope_jumps 0 (fun a' w' => Below w.heap.size w w' /\ ∃ u0 u1 u2 u3 u4 u5 u6 u7 u8 u9 u10 u11 u12 u13 u14 u15 u16 u17 u18 u19 u20 u21 u22 u23 u24 u25 u26 u27 u28 u29 u30 u31 u32 u33 u34 u35 u36 u37 u38 u39 u40 u41 u42 u43 u44 u45 u46 : Value, a' = { tmps := #[u0, u1, u2, u3, u4, u5, u6, u7, u8, u9, u10, u11, u12, u13, u14, u15, u16, u17, u18, u19, u20, u21, u22, u23, u24, u25, u26, u27, u28, u29, u30, u31, u32, u33, u34, u35, u36, u37, u38, u39, u40, u41, u42, u43, u44, u45, u46], defers := [] }) (fun _ _ => 0) rfl ?first2 ?pass2
  case pass2 =>
   rintro a' w' ⟨hb, u0, u1, u2, u3, u4, u5, u6, u7, u8, u9, u10, u11, u12, u13, u14, u15, u16, u17, u18, u19, u20, u21, u22, u23, u24, u25, u26, u27, u28, u29, u30, u31, u32, u33, u34, u35, u36, u37, u38, u39, u40, u41, u42, u43, u44, u45, u46, rfl⟩
   go_wp2
   simp only [Exit.jump]
   go_ret2
   exact ⟨rfl, hb⟩
  go_wp2
  all_goals (first | (go_step3; exact ⟨rfl, Below.refl _ _, _, _, _, _, _, _, _, _, _, _, _, _, _, _, _, _, _, _, _, _, _, _, _, _, _, _, _, _, _, _, _, _, _, _, _, _, _, _, _, _, _, _, _, _, _, _, _, rfl⟩) | exact ⟨rfl, Below.refl _ _, _, _, _, _, _, _, _, _, _, _, _, _, _, _, _, _, _, _, _, _, _, _, _, _, _, _, _, _, _, _, _, _, _, _, _, _, _, _, _, _, _, _, _, _, _, _, _, rfl⟩)
end Go.Proofs.YtffkakpbelknaaaGreatDoor

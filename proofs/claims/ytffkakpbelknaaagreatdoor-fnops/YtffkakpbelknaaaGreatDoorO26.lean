/- Parts of the proof. -/
import Derived.Test.YtffkakpbelknaaaGreatDoorO23
import Derived.Test.YtffkakpbelknaaaGreatDoorO25
set_option maxHeartbeats 4000000
set_option maxRecDepth 100000
namespace Go.Proofs.YtffkakpbelknaaaGreatDoor
open Go.ChangeShapes Go.WideShapes Go.ChangeAt Go.RowKit
set_option linter.unusedVariables false
def wdB (k : Int) : ByteArray := if k = 1 then ⟨#[97, 100, 100]⟩ else if k = 2 then ⟨#[100, 114, 111, 112]⟩ else if k = 3 then ⟨#[102, 101, 116, 99, 104]⟩ else if k = 4 then ⟨#[114, 101, 97, 100]⟩ else if k = 5 then ⟨#[117, 110, 114, 101, 97, 100]⟩ else if k = 6 then ⟨#[115, 116, 97, 114]⟩ else if k = 7 then ⟨#[117, 110, 115, 116, 97, 114]⟩ else if k = 8 then ⟨#[97, 108, 108]⟩ else if k = 9 then ⟨#[112, 117, 114, 103, 101]⟩ else ⟨#[]⟩
noncomputable def dpX (o : OpD) : ByteArray := if o.k = 3 then fdX o.fu o.ft o.its else if o.k = 9 then dayT o.d else if o.k = 1 \/ o.k = 2 \/ o.k = 8 then o.u else o.u ++ ⟨#[32]⟩ ++ o.i
noncomputable def opX (o : OpD) : ByteArray := if opB o = true then wdB o.k ++ ⟨#[32]⟩ ++ dpX o else ⟨#[]⟩
theorem escR_six (s : ByteArray) (m : Nat) (h : s.size <= m) : (escR s).size <= 6 * m := by
 unfold escR
 split
 ·have h1 := escL_len s.data.toList
  have h2 : s.data.toList.length = s.size := by simp
  show (escL s.data.toList).toArray.size <= 6 * m
  rw [List.size_toArray]
  omega
 ·exact Nat.zero_le _
theorem dayT_size (n : Int) : (dayT n).size <= 10 := dateT_size _ _ _
theorem itX_small (x : It) (h1 : x.id.size <= 8) (h2 : x.ti.size <= 24) : (itX x).size <= 229 := by
 unfold itX itT
 simp only [ByteArray.size_append]
 have e1 := escR_six x.id 8 h1
 have e2 := escR_six x.ti 24 h2
 have e3 := dayT_size x.da
 have l1 : (⟨#[60, 105, 116, 101, 109, 32, 105, 100, 61, 34]⟩ : ByteArray).size = 10 := rfl
 have l2 : (⟨#[34, 32, 100, 97, 116, 101, 61, 34]⟩ : ByteArray).size = 8 := rfl
 have l3 : (⟨#[34, 62]⟩ : ByteArray).size = 2 := rfl
 have l4 : (⟨#[60, 47, 105, 116, 101, 109, 62]⟩ : ByteArray).size = 7 := rfl
 omega
theorem fdI_small (its : List It) : ∀ (H : ByteArray), (∀ x ∈ its, (itX x).size <= 229) -> (fdI H its).size <= H.size + 229 * its.length := by
 induction its with
 | nil => intro H h; exact Nat.le_refl _
 | cons x its ih =>
  intro H h
  have h1 := ih (H ++ itX x) (fun y hy => h y (List.mem_cons_of_mem _ hy))
  have h2 := h x (List.mem_cons_self)
  rw [ByteArray.size_append] at h1
  rw [List.length_cons]
  show (fdI (H ++ itX x) its).size <= _
  omega
theorem fdX_small (u t : ByteArray) (its : List It) : (fdX u t its).size <= 3047 := by
 unfold fdX
 by_cases h : fdB u t its = true
 ·rw [if_pos h]
  obtain ⟨hu, ht, hk⟩ := fdB_parts h
  have h12 := fdB_len h
  have h1 := fdI_small its (fdH u t) (fun x hx => by
   obtain ⟨i, hi, rfl⟩ := List.getElem_of_mem hx
   obtain ⟨a, b, _⟩ := hk i hi
   exact itX_small _ a b)
  have h2 : (fdH u t).size <= 292 := by
   unfold fdH
   simp only [ByteArray.size_append]
   have e1 := escR_six u 20 hu
   have e2 := escR_six t 24 ht
   have l1 : (⟨#[60, 102, 101, 101, 100, 32, 117, 114, 108, 61, 34]⟩ : ByteArray).size = 11 := rfl
   have l2 : (⟨#[34, 62, 60, 116, 105, 116, 108, 101, 62]⟩ : ByteArray).size = 9 := rfl
   have l3 : (⟨#[60, 47, 116, 105, 116, 108, 101, 62]⟩ : ByteArray).size = 8 := rfl
   omega
  rw [ByteArray.size_append]
  have l4 : (⟨#[60, 47, 102, 101, 101, 100, 62]⟩ : ByteArray).size = 7 := rfl
  omega
 ·rw [if_neg h]
  exact Nat.zero_le _
theorem wdB_size (k : Int) : (wdB k).size <= 6 := by
 unfold wdB
 repeat' split
 all_goals decide
theorem nm_size {s : ByteArray} {m : Nat} (h : nmB s m = true) : s.size <= m := by
 unfold nmB at h
 simp only [Bool.and_eq_true, decide_eq_true_eq] at h
 exact h.1.2
theorem op_u {o : OpD} (h : opB o = true) (hk : o.k ≠ 3 /\ o.k ≠ 9) : o.u.size <= 20 := by
 unfold opB at h
 by_cases h1 : o.k = 1 \/ o.k = 2 \/ o.k = 8
 ·rw [if_pos h1] at h
  simp only [Bool.and_eq_true] at h
  exact nm_size h.1.1.1
 ·rw [if_neg h1, if_neg hk.1] at h
  by_cases h4 : o.k = 4 \/ o.k = 5 \/ o.k = 6 \/ o.k = 7
  ·rw [if_pos h4] at h
   simp only [Bool.and_eq_true] at h
   exact nm_size h.1.1.1
  ·rw [if_neg h4, if_neg hk.2] at h
   cases h
theorem op_i {o : OpD} (h : opB o = true) (h4 : o.k = 4 \/ o.k = 5 \/ o.k = 6 \/ o.k = 7) : o.i.size <= 8 := by
 unfold opB at h
 rw [if_neg (by omega), if_neg (by omega), if_pos h4] at h
 simp only [Bool.and_eq_true] at h
 exact nm_size h.1.1.2
theorem op_d {o : OpD} (h : opB o = true) (h9 : o.k = 9) : 0 <= o.d /\ o.d <= 200000 := by
 unfold opB at h
 rw [if_neg (by omega), if_neg (by omega), if_neg (by omega), if_pos h9] at h
 simp only [Bool.and_eq_true, decide_eq_true_eq] at h
 exact h.1.2
theorem op_f {o : OpD} (h : opB o = true) (h3 : o.k = 3) : fdB o.fu o.ft o.its = true := by
 unfold opB at h
 rw [if_neg (by omega), if_pos h3] at h
 simp only [Bool.and_eq_true] at h
 exact h.2
theorem op_kinds11 {o : OpD} (h : opB o = true) : o.k = 1 \/ o.k = 2 \/ o.k = 3 \/ o.k = 4 \/ o.k = 5 \/ o.k = 6 \/ o.k = 7 \/ o.k = 8 \/ o.k = 9 := by
 unfold opB at h
 by_cases h1 : o.k = 1 \/ o.k = 2 \/ o.k = 8
 ·omega
 ·rw [if_neg h1] at h
  by_cases h3 : o.k = 3
  ·omega
  ·rw [if_neg h3] at h
   by_cases h4 : o.k = 4 \/ o.k = 5 \/ o.k = 6 \/ o.k = 7
   ·omega
   ·rw [if_neg h4] at h
    by_cases h9 : o.k = 9
    ·omega
    ·rw [if_neg h9] at h
     cases h
theorem opX_small (o : OpD) : (opX o).size <= 3054 := by
 unfold opX
 by_cases h : opB o = true
 ·rw [if_pos h, ByteArray.size_append, ByteArray.size_append]
  have h1 := wdB_size o.k
  have l1 : (⟨#[32]⟩ : ByteArray).size = 1 := rfl
  have h2 : (dpX o).size <= 3047 := by
   unfold dpX
   by_cases h3 : o.k = 3
   ·rw [if_pos h3]; exact fdX_small _ _ _
   ·rw [if_neg h3]
    by_cases h9 : o.k = 9
    ·rw [if_pos h9]; have := dayT_size o.d; omega
    ·rw [if_neg h9]
     have hu := op_u h ⟨h3, h9⟩
     by_cases h8 : o.k = 1 \/ o.k = 2 \/ o.k = 8
     ·rw [if_pos h8]; omega
     ·rw [if_neg h8, ByteArray.size_append, ByteArray.size_append]
      have hi := op_i h (by have := op_kinds11 h; omega)
      omega
  omega
 ·rw [if_neg h]
  exact Nat.zero_le _
def OTab (w : World) : Prop := ∃ t, w.heap[0]? = some (.cells #[.string ⟨#[]⟩, .string ⟨#[97, 100, 100]⟩, .string ⟨#[100, 114, 111, 112]⟩, .string ⟨#[102, 101, 116, 99, 104]⟩, .string ⟨#[114, 101, 97, 100]⟩, .string ⟨#[117, 110, 114, 101, 97, 100]⟩, .string ⟨#[115, 116, 97, 114]⟩, .string ⟨#[117, 110, 115, 116, 97, 114]⟩, .string ⟨#[97, 108, 108]⟩, .string ⟨#[112, 117, 114, 103, 101]⟩] t (0, 0))
theorem OTab.below {w w' : World} {B : Nat} (h : OTab w) (hb : Below B w w') (hB : w.heap.size <= B) : OTab w' := by
 obtain ⟨t, h⟩ := h
 exact ⟨t, (hb.block _ (by have := (Array.getElem?_eq_some_iff.1 h).1; omega)).trans h⟩
theorem OTab.cell {w : World} (h : OTab w) (k : Nat) (h0 : 1 <= k) (h9 : k <= 9) : w.cell? ⟨0, k, none⟩ = some (.string (wdB (k : Int))) := by
 obtain ⟨t, h⟩ := h
 have hk : k = 1 \/ k = 2 \/ k = 3 \/ k = 4 \/ k = 5 \/ k = 6 \/ k = 7 \/ k = 8 \/ k = 9 := by omega
 rcases hk with rfl | rfl | rfl | rfl | rfl | rfl | rfl | rfl | rfl
 all_goals (simp [World.cell?, h]; rfl)
def Tabs (w : World) : Prop := ETab w /\ MTab w /\ PTab w /\ OTab w
theorem Tabs.below {w w' : World} {B : Nat} (h : Tabs w) (hb : Below B w w') (hB : w.heap.size <= B) : Tabs w' := ⟨h.1.below hb hB, h.2.1.below hb hB, h.2.2.1.below hb hB, h.2.2.2.below hb hB⟩
end Go.Proofs.YtffkakpbelknaaaGreatDoor
namespace Go.Proofs.YtffkakpbelknaaaGreatDoor
open Go.ChangeShapes Go.WideShapes Go.ChangeAt Go.RowKit
set_option linter.unusedVariables false
def deV (o : OpD) (x : Value) : Value := if o.k = 3 then .iface 123 (.agg #[.string o.fu, .string o.ft, x]) else if o.k = 9 then .iface 127 (.agg #[.int .i64 o.d]) else if o.k = 1 \/ o.k = 2 \/ o.k = 8 then .iface 121 (.agg #[.string o.u]) else .iface 125 (.agg #[.string o.u, .string o.i])
theorem Tryz.asFF (v : Value) (w : World) : (Instr.typeAssert (.iface 121 v) 81 121 true).run Tryz.prog w = .ok (.tuple #[v, .bool true]) w := by kernel_rfl
theorem Tryz.asTF (v : Value) (w : World) : (Instr.typeAssert (.iface 123 v) 81 121 true).run Tryz.prog w = .ok (.tuple #[.agg #[.string ⟨#[]⟩], .bool false]) w := by kernel_rfl
theorem Tryz.asTT (v : Value) (w : World) : (Instr.typeAssert (.iface 123 v) 81 123 true).run Tryz.prog w = .ok (.tuple #[v, .bool true]) w := by kernel_rfl
theorem Tryz.asEF (v : Value) (w : World) : (Instr.typeAssert (.iface 125 v) 81 121 true).run Tryz.prog w = .ok (.tuple #[.agg #[.string ⟨#[]⟩], .bool false]) w := by kernel_rfl
theorem Tryz.asET (v : Value) (w : World) : (Instr.typeAssert (.iface 125 v) 81 123 true).run Tryz.prog w = .ok (.tuple #[.agg #[.string ⟨#[]⟩, .string ⟨#[]⟩, .slice none 0 0], .bool false]) w := by kernel_rfl
theorem Tryz.asEE (v : Value) (w : World) : (Instr.typeAssert (.iface 125 v) 81 125 true).run Tryz.prog w = .ok (.tuple #[v, .bool true]) w := by kernel_rfl
theorem Tryz.asDF (v : Value) (w : World) : (Instr.typeAssert (.iface 127 v) 81 121 true).run Tryz.prog w = .ok (.tuple #[.agg #[.string ⟨#[]⟩], .bool false]) w := by kernel_rfl
theorem Tryz.asDT (v : Value) (w : World) : (Instr.typeAssert (.iface 127 v) 81 123 true).run Tryz.prog w = .ok (.tuple #[.agg #[.string ⟨#[]⟩, .string ⟨#[]⟩, .slice none 0 0], .bool false]) w := by kernel_rfl
theorem Tryz.asDE (v : Value) (w : World) : (Instr.typeAssert (.iface 127 v) 81 125 true).run Tryz.prog w = .ok (.tuple #[.agg #[.string ⟨#[]⟩, .string ⟨#[]⟩], .bool false]) w := by kernel_rfl
theorem Tryz.asDD (v : Value) (w : World) : (Instr.typeAssert (.iface 127 v) 81 127 true).run Tryz.prog w = .ok (.tuple #[v, .bool true]) w := by kernel_rfl
theorem deedOf_any (o : OpD) (x : Value) (w : World) (hk : o.k = 1 \/ o.k = 2 \/ o.k = 3 \/ o.k = 4 \/ o.k = 5 \/ o.k = 6 \/ o.k = 7 \/ o.k = 8 \/ o.k = 9) :
  Calls Tryz.prog 54 #[opV o x] w fun e w' => e = .returned (deV o x) /\ Below w.heap.size w w' := by
 have hB0 : Below w.heap.size w (w.alloc (.cells #[.int .i64 o.k, .string o.u, .string o.i, .int .i64 o.d, .string o.fu, .string o.ft, x] 35)) := (Below.refl _ _).alloc (Nat.le_refl _) _
 obtain ⟨k, u, i, d, fu, ft, its⟩ := o
 simp only at hk hB0 ⊢
 rcases hk with rfl | rfl | rfl | rfl | rfl | rfl | rfl | rfl | rfl
 all_goals
  go_enter Tryz.func54, Tryz.ntmps54
  go_wp2
  go_ret
  exact ⟨rfl, hB0⟩
theorem deedText_1 (u : ByteArray) (w : World) :
  Calls Tryz.prog 53 #[.iface 121 (.agg #[.string u])] w fun e w' => e = .returned (.string u) /\ Below w.heap.size w w' := by
 have h1 := Tryz.asFF
 go_enter Tryz.func53, Tryz.ntmps53
 go_wp2
 go_ret
 exact ⟨rfl, by first | exact (Below.refl _ _).alloc (Nat.le_refl _) _ | exact ((Below.refl _ _).alloc (Nat.le_refl _) _).setCell (by simp) _⟩
theorem deedText_4 (u i : ByteArray) (w : World) (hu : u.size <= 20) (hi : i.size <= 8) :
  Calls Tryz.prog 53 #[.iface 125 (.agg #[.string u, .string i])] w fun e w' => e = .returned (.string (u ++ ⟨#[32]⟩ ++ i)) /\ Below w.heap.size w w' := by
 have h1 := Tryz.asEF
 have h2 := Tryz.asET
 have h3 := Tryz.asEE
 obtain ⟨X, hX⟩ : ∃ X, u ++ ⟨#[32]⟩ = X := ⟨_, rfl⟩
 have hs : X.size <= 21 := by rw [<- hX, ByteArray.size_append]; have : (⟨#[32]⟩ : ByteArray).size = 1 := rfl; omega
 rw [hX]
 obtain ⟨Y, hY⟩ : ∃ Y, X ++ i = Y := ⟨_, rfl⟩
 rw [hY]
 go_enter Tryz.func53, Tryz.ntmps53
 go_wp2
 go_ret
 exact ⟨rfl, by first | exact (Below.refl _ _).alloc (Nat.le_refl _) _ | exact (((Below.refl _ _).alloc (Nat.le_refl _) _).setCell (by simp) _).setCell (by simp) _⟩
theorem deedText_9 (d : Int) (w : World) (hM : MTab w) (hP : PTab w) :
  Calls Tryz.prog 53 #[.iface 127 (.agg #[.int .i64 d])] w fun e w' => e = .returned (.string (dayT d)) /\ Below w.heap.size w w' := by
 have h1 := Tryz.asDF
 have h2 := Tryz.asDT
 have h3 := Tryz.asDE
 have h4 := Tryz.asDD
 have HC := Lib.hid (fun w hM hP => dayText_any d w hM hP)
 have HM := Lib.hid hM
 have HP := Lib.hid hP
 generalize dayT d = R at HC ⊢
 clear hM hP
 have hB0 : Below w.heap.size w (w.alloc (.cells #[.int .i64 d] 127)) := (Below.refl _ _).alloc (Nat.le_refl _) _
 go_enter Tryz.func53, Tryz.ntmps53
 go_wp2_with fail
 refine (HC.out _ (HM.out.below hB0 (Nat.le_refl _)) (HP.out.below hB0 (Nat.le_refl _))).mono ?_
 rintro e w1 ⟨rfl, hb1⟩
 have hB1 := hB0.trans (hb1.mono hB0.size)
 clear hb1 hB0
 go_wp2
 go_ret
 exact ⟨rfl, hB1⟩
theorem deedText_3 (u t : ByteArray) (x : Value) (its : List It) (w : World) (hu : u.size <= maxLen) (ht : t.size <= maxLen) (h : ItAt w w.heap.size x its) (hT : Tabs w) :
  Calls Tryz.prog 53 #[.iface 123 (.agg #[.string u, .string t, x])] w fun e w' => e = .returned (.string (fdX u t its)) /\ Below w.heap.size w w' := by
 have h1 := Tryz.asTF
 have h2 := Tryz.asTT
 have HI := Lib.hid h
 have HT := Lib.hid hT
 obtain ⟨a, cap, rfl⟩ := h.1.slice
 have HC := Lib.hid (fun w h hE hM hP => implFeedText_any u t (.slice a its.length cap) its w hu ht h hE hM hP)
 generalize fdX u t its = R at HC ⊢
 clear h hT hu ht
 have hB0 : Below w.heap.size w (w.alloc (.cells #[.string u, .string t, .slice a its.length cap] 123)) := (Below.refl _ _).alloc (Nat.le_refl _) _
 have hT1 := HT.out.below hB0 (Nat.le_refl _)
 have HT1 := Lib.hid hT1
 clear hT1
 go_enter Tryz.func53, Tryz.ntmps53
 go_wp2_with fail
 refine (HC.out _ ((HI.out.below hB0).mono hB0.size) HT1.out.1 HT1.out.2.1 HT1.out.2.2.1).mono ?_
 rintro e w1 ⟨rfl, hb1⟩
 have hB1 := hB0.trans (hb1.mono hB0.size)
 clear hb1 hB0
 go_wp2
 go_ret
 exact ⟨rfl, hB1⟩
theorem deedText_any (o : OpD) (x : Value) (w : World) (hop : opB o = true) (hI : ItAt w w.heap.size x o.its) (hz : OpSz o) (hT : Tabs w) :
  Calls Tryz.prog 53 #[deV o x] w fun e w' => e = .returned (.string (dpX o)) /\ Below w.heap.size w w' := by
 unfold deV dpX
 by_cases h3 : o.k = 3
 ·simp only [if_pos h3]
  exact deedText_3 o.fu o.ft x o.its w hz.2.2.1 hz.2.2.2 hI hT
 ·simp only [if_neg h3]
  by_cases h9 : o.k = 9
  ·simp only [if_pos h9]
   exact deedText_9 o.d w hT.2.1 hT.2.2.1
  ·simp only [if_neg h9]
   have hu := op_u hop ⟨h3, h9⟩
   by_cases h8 : o.k = 1 \/ o.k = 2 \/ o.k = 8
   ·simp only [if_pos h8]
    exact deedText_1 o.u w
   ·simp only [if_neg h8]
    exact deedText_4 o.u o.i w hu (op_i hop (by have := op_kinds11 hop; omega))
end Go.Proofs.YtffkakpbelknaaaGreatDoor
namespace Go.Proofs.YtffkakpbelknaaaGreatDoor
open Go.ChangeShapes Go.WideShapes Go.ChangeAt Go.RowKit
set_option linter.unusedVariables false
theorem implOpText_any (o : OpD) (x : Value) (w : World) (hI : ItAt w w.heap.size x o.its) (hz : OpSz o) (hT : Tabs w) :
  Calls Tryz.prog 17 #[opV o x] w fun e w' => e = .returned (.string (opX o)) /\ Below w.heap.size w w' := by
 have HI := Lib.hid hI
 have HT := Lib.hid hT
 have HZ := Lib.hid hz
 obtain ⟨a, cap, rfl⟩ := hI.1.slice
 have HC := Lib.hid (fun w h => implOpOk_any o (.slice a o.its.length cap) w h HZ.out)
 clear hI hT hz
 have hB0 : Below w.heap.size w (w.alloc (.cells #[.int .i64 o.k, .string o.u, .string o.i, .int .i64 o.d, .string o.fu, .string o.ft, .slice a o.its.length cap] 35)) := (Below.refl _ _).alloc (Nat.le_refl _) _
 have hX0 := Box.new w #[.int .i64 o.k, .string o.u, .string o.i, .int .i64 o.d, .string o.fu, .string o.ft, .slice a o.its.length cap] 35
 cases hop : opB o with
 | false =>
  have HV : Hid (opX o = ⟨#[]⟩) := Lib.hid (by unfold opX; rw [if_neg (by rw [hop]; simp)])
  rw [hop] at HC
  rw [HV.out]
  clear hop HV
  go_enter Tryz.func17, Tryz.ntmps17
  go_wp2_with fail
  refine (HC.out _ ((HI.out.below hB0).mono hB0.size)).mono ?_
  rintro e w1 ⟨rfl, hb1⟩
  have hB1 := hB0.trans (hb1.mono hB0.size)
  clear hb1 hB0
  go_wp2
  go_ret
  exact ⟨rfl, hB1⟩
 | true =>
  have hk := op_kinds11 hop
  obtain ⟨n, hn⟩ : ∃ n : Nat, o.k = (n : Int) := ⟨o.k.toNat, by omega⟩
  have hn1 : 1 <= n := by omega
  have hn9 : n <= 9 := by omega
  have HV : Hid (opX o = wdB (n : Int) ++ ⟨#[32]⟩ ++ dpX o) := Lib.hid (by unfold opX; rw [if_pos hop, hn])
  have hds : (dpX o).size <= 3054 := by
   have h1 := opX_small o
   rw [HV.out, ByteArray.size_append] at h1
   omega
  have hws := wdB_size (n : Int)
  have HD := Lib.hid (fun w => deedOf_any o (.slice a o.its.length cap) w hk)
  have HE := Lib.hid (fun w h hT => deedText_any o (.slice a o.its.length cap) w hop h HZ.out hT)
  have HOt : Hid (∀ w, OTab w -> w.cell? ⟨0, n, none⟩ = some (.string (wdB (n : Int)))) := Lib.hid (fun w h => h.cell n hn1 hn9)
  rw [hop] at HC
  generalize dpX o = D at HV HE hds
  generalize deV o (.slice a o.its.length cap) = DV at HD HE
  generalize wdB (n : Int) = W at HV HOt hws
  generalize opX o = R at HV ⊢
  obtain ⟨X1, hX1⟩ : ∃ X : ByteArray, W ++ ⟨#[32]⟩ = X := ⟨_, rfl⟩
  have hz1 : X1.size <= 7 := by rw [<- hX1, ByteArray.size_append]; have l1 : (⟨#[32]⟩ : ByteArray).size = 1 := rfl; omega
  rw [hX1] at HV
  have hX2 := HV.out.symm
  have hnk : (n : Int) < 10 := by omega
  have HNk := Lib.hid hn
  clear hop hk HV hn
  go_enter Tryz.func17, Tryz.ntmps17
  go_wp2_with fail
  refine (HC.out _ ((HI.out.below hB0).mono hB0.size)).mono ?_
  rintro e w1 ⟨rfl, hb1⟩
  have hB1 := (hB0.trans (hb1.mono hB0.size)).drew
  have hX := (hX0.keep hb1 hX0.lt).drew
  have hA : (fun w' => Box w' w.heap.size #[.int .i64 o.k, .string o.u, .string o.i, .int .i64 o.d, .string o.fu, .string o.ft, .slice a o.its.length cap] 35 /\ OTab w') w1.drew := ⟨hX, (HT.out.below hB1 (Nat.le_refl _)).2.2.2⟩
  clear hb1 hB0 hX0 hX HC
  go_wp2
  refine wp_region_T (fun w' => Box w' w.heap.size #[.int .i64 o.k, .string o.u, .string o.i, .int .i64 o.d, .string o.fu, .string o.ft, .slice a o.its.length cap] 35 /\ OTab w') (fun _ => True) 9 (by kernel_rfl) 10 rfl ?_
  refine wA 4 [0, 1, 2, 3, 4, 5] ⟨hA, fun _ => trivial⟩ ?_
  simp only [pick, List.filterMap_cons, List.filterMap_nil, List.getElem?_cons_zero, List.getElem?_cons_succ]
  refine wS (.pointer (some ⟨w.heap.size, 0, none⟩)) (fun w hw => by go_simp) ?_
  refine wS (.int .i64 (n : Int)) (fun w hw => by have e0 := hw.1.cell 0 _ rfl; have hn := HNk.out; rw [hn] at e0; go_simp) ?_
  refine wS (.pointer (some ⟨0, n, none⟩)) (fun w hw => by go_simp) ?_
  refine wS (.string W) (fun w hw => by have e0 := HOt.out _ hw.2; go_simp) ?_
  refine wS (.string X1) (fun w hw => by go_simp; try omega) ?_
  refine wS (opV o (.slice a o.its.length cap)) (fun w hw => by have e0 := hw.1.cell 0 _ rfl; have e1 := hw.1.cell 1 _ rfl; have e2 := hw.1.cell 2 _ rfl; have e3 := hw.1.cell 3 _ rfl; have e4 := hw.1.cell 4 _ rfl; have e5 := hw.1.cell 5 _ rfl; have e6 := hw.1.cell 6 _ rfl; go_simp) ?_
  refine wpIf_nil (fun hS => ?_)
  clear hS
  refine wO 6 3 (fun K hK => ?_)
  go_simp
  refine (HD.out _).mono ?_
  rintro e w2 ⟨rfl, hb2⟩
  have hB2 := hB1.trans (hb2.mono hB1.size)
  have hA2 : (fun w' => Box w' w.heap.size #[.int .i64 o.k, .string o.u, .string o.i, .int .i64 o.d, .string o.fu, .string o.ft, .slice a o.its.length cap] 35 /\ OTab w') w2 := ⟨hA.1.keep hb2 hA.1.lt, hA.2.below hb2 (Nat.le_refl _)⟩
  clear hb2 hB1 hA
  refine hK _ _ ⟨hA2, fun _ => trivial⟩ (fun hS => ?_)
  clear hK K hS
  refine wO 7 2 (fun K hK => ?_)
  go_simp
  refine (HE.out _ ((HI.out.below hB2).mono hB2.size) (HT.out.below hB2 (Nat.le_refl _))).mono ?_
  rintro e w3 ⟨rfl, hb3⟩
  have hB3 := hB2.trans (hb3.mono hB2.size)
  have hA3 : (fun w' => Box w' w.heap.size #[.int .i64 o.k, .string o.u, .string o.i, .int .i64 o.d, .string o.fu, .string o.ft, .slice a o.its.length cap] 35 /\ OTab w') w3 := ⟨hA2.1.keep hb3 hA2.1.lt, hA2.2.below hb3 (Nat.le_refl _)⟩
  clear hb3 hB2 hA2
  refine hK _ _ ⟨hA3, fun _ => trivial⟩ (fun hS => ?_)
  clear hK K hS
  refine wA 1 [8] ⟨hA3, fun _ => trivial⟩ ?_
  simp only [pick, List.filterMap_cons, List.filterMap_nil, List.getElem?_cons_zero, List.getElem?_cons_succ]
  refine wS (.string R) (fun w hw => by go_simp; try omega) ?_
  refine wpIf_nil (fun hS => ?_)
  clear hS
  refine wO 9 0 (fun K hK => ?_)
  go_simp
  refine hK _ _ ⟨hA3, fun _ => trivial⟩ (fun hS => ?_)
  clear hK K hS
  refine wpAnyT_over (by kernel_rfl) ?_
  go_wp2
  go_ret
  exact ⟨rfl, hB3⟩
theorem l11Word_any (k : Int) (w : World) (hk : k = 1 \/ k = 2 \/ k = 3 \/ k = 4 \/ k = 5 \/ k = 6 \/ k = 7 \/ k = 8 \/ k = 9) :
  Calls Tryz.prog 60 #[.int .i64 k] w fun e w' => e = .returned (.string (wdB k)) /\ Below w.heap.size w w' := by
 rcases hk with rfl | rfl | rfl | rfl | rfl | rfl | rfl | rfl | rfl
 all_goals
  go_enter Tryz.func60, Tryz.ntmps60
  go_wp2
  go_ret
  exact ⟨rfl, (Below.refl _ _).alloc (Nat.le_refl _) _⟩
theorem specOpText_any (o : OpD) (x : Value) (w : World) (hI : ItAt w w.heap.size x o.its) (hz : OpSz o) :
  Calls Tryz.prog 20 #[opV o x] w fun e w' => e = .returned (.string (opX o)) /\ Below w.heap.size w w' := by
 have HI := Lib.hid hI
 have HZ := Lib.hid hz
 obtain ⟨a, cap, rfl⟩ := hI.1.slice
 have HC := Lib.hid (fun w h => specOpOk_any o (.slice a o.its.length cap) w h HZ.out)
 clear hI hz
 have hB0 : Below w.heap.size w (w.alloc (.cells #[.int .i64 o.k, .string o.u, .string o.i, .int .i64 o.d, .string o.fu, .string o.ft, .slice a o.its.length cap] 35)) := (Below.refl _ _).alloc (Nat.le_refl _) _
 have hX0 := Box.new w #[.int .i64 o.k, .string o.u, .string o.i, .int .i64 o.d, .string o.fu, .string o.ft, .slice a o.its.length cap] 35
 cases hop : opB o with
 | false =>
  have HV : Hid (opX o = ⟨#[]⟩) := Lib.hid (by unfold opX; rw [if_neg (by rw [hop]; simp)])
  rw [hop] at HC
  rw [HV.out]
  clear hop HV
  go_enter Tryz.func20, Tryz.ntmps20
  go_wp2_with fail
  refine (HC.out _ ((HI.out.below hB0).mono hB0.size)).mono ?_
  rintro e w1 ⟨rfl, hb1⟩
  have hB1 := hB0.trans (hb1.mono hB0.size)
  clear hb1 hB0
  go_wp2
  go_ret
  exact ⟨rfl, hB1⟩
 | true =>
  have hk := op_kinds11 hop
  have HV : Hid (opX o = wdB o.k ++ ⟨#[32]⟩ ++ dpX o) := Lib.hid (by unfold opX; rw [if_pos hop])
  have hws := wdB_size o.k
  have HW := Lib.hid (fun w => l11Word_any o.k w hk)
  have HF := Lib.hid (fun (h3 : o.k = 3) w h => l8Text_any o.fu o.ft (.slice a o.its.length cap) o.its w h (op_f hop h3))
  have HFs : Hid (o.k = 3 -> dpX o = fdX o.fu o.ft o.its) := Lib.hid (fun h => by unfold dpX; rw [if_pos h])
  have HDs : Hid (o.k = 9 -> dpX o = dayT o.d) := Lib.hid (fun h => by unfold dpX; rw [if_neg (by omega), if_pos h])
  have HUs : Hid (o.k = 1 \/ o.k = 2 \/ o.k = 8 -> dpX o = o.u /\ o.u.size <= 20) := Lib.hid (fun h => ⟨by unfold dpX; rw [if_neg (by omega), if_neg (by omega), if_pos h], op_u hop (by omega)⟩)
  have HIs : Hid (o.k = 4 \/ o.k = 5 \/ o.k = 6 \/ o.k = 7 -> dpX o = o.u ++ ⟨#[32]⟩ ++ o.i /\ o.u.size <= 20 /\ o.i.size <= 8) := Lib.hid (fun h => ⟨by unfold dpX; rw [if_neg (by omega), if_neg (by omega), if_neg (by omega)], op_u hop (by omega), op_i hop h⟩)
  have HDd := Lib.hid (fun h => op_d hop h)
  have hds : (dpX o).size <= 3054 := by
   have h1 := opX_small o
   rw [HV.out, ByteArray.size_append] at h1
   omega
  rw [hop] at HC
  generalize wdB o.k = W at HV HW hws
  generalize dpX o = D at HV HFs HDs HUs HIs hds
  generalize opX o = R at HV ⊢
  obtain ⟨X1, hX1⟩ : ∃ X : ByteArray, W ++ ⟨#[32]⟩ = X := ⟨_, rfl⟩
  have hz1 : X1.size <= 7 := by rw [<- hX1, ByteArray.size_append]; have l1 : (⟨#[32]⟩ : ByteArray).size = 1 := rfl; omega
  rw [hX1] at HV
  clear hop
  obtain ⟨k, u, i, d, fu, ft, its⟩ := o
  simp only at hk HC HI HZ HW HF HFs HDs HUs HIs HDd hB0 hX0 ⊢
  have hK3 : k = 3 \/ k = 9 \/ (k = 1 \/ k = 2 \/ k = 8) \/ (k = 4 \/ k = 5 \/ k = 6 \/ k = 7) := by omega
  clear hk
  rcases hK3 with hk | hk | hk | hk
  ·obtain hD := HFs.out hk
   subst hk
   have HF3 := Lib.hid (fun w h => HF.out rfl w h)
   rw [<- hD] at HF3
   have hX2 := HV.out.symm
   clear HFs HDs HUs HIs HF HDd HV hD
   go_enter Tryz.func20, Tryz.ntmps20
   go_wp2_with fail
   refine (HC.out _ ((HI.out.below hB0).mono hB0.size)).mono ?_
   rintro e w1 ⟨rfl, hb1⟩
   have hB1 := hB0.trans (hb1.mono hB0.size)
   have hX := hX0.keep hb1 hX0.lt
   have f0 := hX.cell 0 _ rfl
   clear hb1 hB0 hX0 HC
   go_wp2_with fail
   refine (HW.out _).mono ?_
   rintro e w2 ⟨rfl, hb2⟩
   have hB2 := hB1.trans (hb2.mono hB1.size)
   have hXb := hX.keep hb2 hX.lt
   have g0 := hXb.cell 0 _ rfl
   have g4 := hXb.cell 4 _ rfl
   have g5 := hXb.cell 5 _ rfl
   have g6 := hXb.cell 6 _ rfl
   clear hb2 hB1 f0 hX
   go_wp2_with fail
   refine (HF3.out _ ((HI.out.below hB2).mono hB2.size)).mono ?_
   rintro e w3 ⟨rfl, hb3⟩
   have hB3 := hB2.trans (hb3.mono hB2.size)
   clear hb3 hB2 g0 g4 g5 g6 hXb
   go_wp2
   go_ret
   exact ⟨rfl, hB3⟩
  ·obtain hD := HDs.out hk
   obtain ⟨hd0, hd1⟩ := HDd.out hk
   subst hk
   have HL := Lib.hid (fun w => l7Date_any d w hd0 hd1)
   have hX2 := HV.out.symm
   clear HFs HDs HUs HIs HF HDd HV
   go_enter Tryz.func20, Tryz.ntmps20
   go_wp2_with fail
   refine (HC.out _ ((HI.out.below hB0).mono hB0.size)).mono ?_
   rintro e w1 ⟨rfl, hb1⟩
   have hB1 := hB0.trans (hb1.mono hB0.size)
   have hX := hX0.keep hb1 hX0.lt
   have f0 := hX.cell 0 _ rfl
   clear hb1 hB0 hX0 HC
   go_wp2_with fail
   refine (HW.out _).mono ?_
   rintro e w2 ⟨rfl, hb2⟩
   have hB2 := hB1.trans (hb2.mono hB1.size)
   have hXb := hX.keep hb2 hX.lt
   have g0 := hXb.cell 0 _ rfl
   have g3 := hXb.cell 3 _ rfl
   clear hb2 hB1 f0 hX
   go_wp2_with fail
   refine (HL.out _).mono ?_
   rintro e w3 ⟨y, m, dd, rfl, hid, hb3⟩
   have hB3 := hB2.trans (hb3.mono hB2.size)
   obtain ⟨yn, mn, dn, rfl, rfl, rfl, hy0, hy1, hmn, hdn, HDt⟩ := isD_nat hid hd0 hd1
   have HTx := Lib.hid (fun w => l7Text_any yn mn dn w hy0 hy1 hmn hdn)
   rw [<- HDt, <- hD] at HTx
   clear hb3 hB2 g0 g3 hXb hid HDt hD hd0 hd1 hy0 hy1 hmn hdn HL
   go_wp2_with fail
   refine (HTx.out _).mono ?_
   rintro e w4 ⟨rfl, hb4⟩
   have hB4 := hB3.trans (hb4.mono hB3.size)
   clear hb4 hB3
   go_wp2
   go_ret
   exact ⟨rfl, hB4⟩
  ·obtain ⟨hD, hus⟩ := HUs.out hk
   subst hD
   have hX2 := HV.out.symm
   clear HFs HDs HUs HIs HF HDd HV hds
   rcases hk with rfl | rfl | rfl
   all_goals
    go_enter Tryz.func20, Tryz.ntmps20
    go_wp2_with fail
    refine (HC.out _ ((HI.out.below hB0).mono hB0.size)).mono ?_
    rintro e w1 ⟨rfl, hb1⟩
    have hB1 := hB0.trans (hb1.mono hB0.size)
    have hX := hX0.keep hb1 hX0.lt
    have f0 := hX.cell 0 _ rfl
    clear hb1 hB0 hX0 HC
    go_wp2_with fail
    refine (HW.out _).mono ?_
    rintro e w2 ⟨rfl, hb2⟩
    have hB2 := hB1.trans (hb2.mono hB1.size)
    have hXb := hX.keep hb2 hX.lt
    have g0 := hXb.cell 0 _ rfl
    have g1 := hXb.cell 1 _ rfl
    clear hb2 hB1 f0 hX
    go_wp2
    go_ret
    exact ⟨rfl, hB2⟩
  ·obtain ⟨hD, hus, his⟩ := HIs.out hk
   obtain ⟨Y1, hY1⟩ : ∃ X : ByteArray, X1 ++ u = X := ⟨_, rfl⟩
   have hy1 : Y1.size <= 27 := by rw [<- hY1, ByteArray.size_append]; omega
   obtain ⟨Y2, hY2⟩ : ∃ X : ByteArray, Y1 ++ ⟨#[32]⟩ = X := ⟨_, rfl⟩
   have hy2 : Y2.size <= 28 := by rw [<- hY2, ByteArray.size_append]; have l1 : (⟨#[32]⟩ : ByteArray).size = 1 := rfl; omega
   have hX2 : Y2 ++ i = R := by rw [HV.out, hD, <- hY2, <- hY1]; simp only [ByteArray.append_assoc]
   clear HFs HDs HUs HIs HF HDd HV hds hD
   rcases hk with rfl | rfl | rfl | rfl
   all_goals
    go_enter Tryz.func20, Tryz.ntmps20
    go_wp2_with fail
    refine (HC.out _ ((HI.out.below hB0).mono hB0.size)).mono ?_
    rintro e w1 ⟨rfl, hb1⟩
    have hB1 := hB0.trans (hb1.mono hB0.size)
    have hX := hX0.keep hb1 hX0.lt
    have f0 := hX.cell 0 _ rfl
    clear hb1 hB0 hX0 HC
    go_wp2_with fail
    refine (HW.out _).mono ?_
    rintro e w2 ⟨rfl, hb2⟩
    have hB2 := hB1.trans (hb2.mono hB1.size)
    have hXb := hX.keep hb2 hX.lt
    have g0 := hXb.cell 0 _ rfl
    have g1 := hXb.cell 1 _ rfl
    have g2 := hXb.cell 2 _ rfl
    clear hb2 hB1 f0 hX
    go_wp2
    go_ret
    exact ⟨rfl, hB2⟩
end Go.Proofs.YtffkakpbelknaaaGreatDoor

/- Joined: W17a. -/
import Derived.Laws.ResultCell
import Derived.Test.YtlipgmaiooljkaaGreatDoorH8
import Derived.Test.YtlipgmaiooljkaaGreatDoorH16
import Derived.Test.YtlipgmaiooljkaaGreatDoorH17
import Derived.Test.YtlipgmaiooljkaaGreatDoorH31
import Derived.Test.YtlipgmaiooljkaaGreatDoorH43
/- W17a -/
namespace Go.Proofs.YtlipgmaiooljkaaGreatDoor
open Go.ChangeShapes Go.WideShapes Go.ChangeAt Go.RowKit
set_option linter.unusedVariables false
set_option linter.unusedSimpArgs false

structure SlotD where
  sa : ByteArray
  ro : Int
  no : ByteArray
  bx : ByteArray
abbrev slC (s : SlotD) : Array Value := #[.string s.sa, .int .i64 s.ro, .string s.no, .string s.bx]
abbrev slV (s : SlotD) : Value := .agg #[.string s.sa, .int .i64 s.ro, .string s.no, .string s.bx]
abbrev sl0C : Array Value := #[.string ⟨#[]⟩, .int .i64 0, .string ⟨#[]⟩, .string ⟨#[]⟩]
def sl0 : SlotD := ⟨⟨#[]⟩, 0, ⟨#[]⟩, ⟨#[]⟩⟩
def SlSz (s : SlotD) : Prop := s.sa.size ≤ 1048576 ∧ s.no.size ≤ 1048576 ∧ s.bx.size ≤ 1048576 ∧ (Lit.int .i64 s.ro).wf = true
def spB (sa no : ByteArray) (ro : Int) : Bool := decide (sa.size = 16 ∧ 1 ≤ ro ∧ ro ≤ 50 ∧ no.size = 12)
def skB (s : SlotD) : Bool := spB s.sa s.no s.ro && decide (s.bx.size = 48)
/-- What stands beside a key. -/
def bkT (sa : ByteArray) (ro : Int) : ByteArray := sa ++ ⟨#[UInt8.ofNat ro.toNat]⟩
theorem bkT_size (sa : ByteArray) (ro : Int) : (bkT sa ro).size = sa.size + 1 := by unfold bkT; rw [ByteArray.size_append]; rfl
def soO (pass sa : ByteArray) (ro : Int) (no key : ByteArray) : Bool := decide (pass.size ≤ 100) && spB sa no ro && decide (key.size = 32)
def soD (pass sa : ByteArray) (ro : Int) (no key : ByteArray) : SlotD := ⟨sa, ro, no, sealB (srR pass sa ro) no (bkT sa ro) key⟩
def soV (pass sa : ByteArray) (ro : Int) (no key : ByteArray) : SlotD := if soO pass sa ro no key = true then soD pass sa ro no key else sl0
def kiI (s : SlotD) (pass : ByteArray) : Bool := skB s && decide (pass.size ≤ 100)
def kiO (s : SlotD) (pass : ByteArray) : Bool := kiI s pass && opOk (srR pass s.sa s.ro) s.no (bkT s.sa s.ro) s.bx
def kiT (s : SlotD) (pass : ByteArray) : ByteArray := if kiI s pass = true then opT (srR pass s.sa s.ro) s.no (bkT s.sa s.ro) s.bx else ⟨#[]⟩
theorem spB_inv {sa no : ByteArray} {ro : Int} (h : spB sa no ro = true) : sa.size = 16 ∧ 1 ≤ ro ∧ ro ≤ 50 ∧ no.size = 12 := of_decide_eq_true h
theorem srR_size {pass sa : ByteArray} {ro : Int} (h1 : pass.size ≤ 1000) (h2 : sa.size ≤ 1000) (h3 : 1 ≤ ro) (h4 : ro ≤ 50) : (srR pass sa ro).size = 32 := by
  unfold srR
  rw [if_pos ⟨h1, h2, h3, h4⟩]
  exact ptX_size _ _ _
theorem byte_one (ro : Int) (h0 : 1 ≤ ro) (h1 : ro ≤ 50) : IntKind.u8.wrap ro = ro := by rw [IntKind.wrap_u8']; omega
theorem Tryz.infSl : (Tryz.prog.info? 23).map (·.size) = some 4 := by kernel_rfl
theorem results_sl {fn : Func} {p : Tmp} (h : fn.results = #[.cell p 23]) (tmps : Array Value) (w : World) (g : Nat) (cs : Array Value) (hz : cs.size = 4)
    (hp : tmps.getD p undef = .pointer (some ⟨g, 0, none⟩)) (hA : Box w g cs 23) : (results fn tmps).run Tryz.prog w = .ok (.agg cs) w :=
  results_cell_row h tmps w g _ _ _ _ hp hA Tryz.underlying23 rfl (by rw [hz]; exact Tryz.infSl)
theorem results_sl2 {fn : Func} {p u : Tmp} (h : fn.results = #[.cell p 23, .tmp u]) (tmps : Array Value) (w : World) (g : Nat) (cs : Array Value) (v : Value) (hz : cs.size = 4)
    (hp : tmps.getD p undef = .pointer (some ⟨g, 0, none⟩)) (hu : tmps.getD u undef = v) (hA : Box w g cs 23) : (results fn tmps).run Tryz.prog w = .ok (.tuple #[.agg cs, v]) w := by
  rw [results_cell_tmp h, hp, hu]
  have := run_loadVar_row (P := Tryz.prog) w g _ 23 _ _ _ hA Tryz.underlying23 rfl (by rw [hz]; exact Tryz.infSl)
  simp [asAddr, this, Result.andThen]
theorem Box.putL17 {g : Nat} {t : TypeId} (us : List Value) : ∀ (o : Nat) (w : World) (xs : List Value), Box w g xs.toArray t → Box (putRow g o us w) g (setL o us xs).toArray t := by
  induction us with
  | nil => intro o w xs h; exact h
  | cons u us ih =>
    intro o w xs h
    refine ih (o + 1) _ _ ?_
    have := h.set o u
    rw [List.setIfInBounds_toArray] at this
    exact this
theorem Box.put4 {w : World} {g : Nat} {t : TypeId} {cs : Array Value} (h : Box w g cs t) (hz : cs.size = 4) (a b c d : Value) :
    Box ((((w.setCell ⟨g, 0, none⟩ a).setCell ⟨g, 1, none⟩ b).setCell ⟨g, 2, none⟩ c).setCell ⟨g, 3, none⟩ d) g #[a, b, c, d] t := by
  obtain ⟨xs⟩ := cs
  have hl : xs.length = 4 := by simpa using hz
  have := Box.putL17 [a, b, c, d] 0 w xs h
  rw [setL_eq _ 0 xs (by simp [hl]), List.take_zero, List.nil_append, List.drop_of_length_le (by simp [hl]), List.append_nil] at this
  exact this
theorem below4 (w : World) (B g : Nat) (hB : B ≤ g) (a b c d : Value) : Below B w ((((w.setCell ⟨g, 0, none⟩ a).setCell ⟨g, 1, none⟩ b).setCell ⟨g, 2, none⟩ c).setCell ⟨g, 3, none⟩ d) :=
  ((((Below.refl B w).setCell (p := ⟨g, 0, none⟩) hB a).setCell (p := ⟨g, 1, none⟩) hB b).setCell (p := ⟨g, 2, none⟩) hB c).setCell (p := ⟨g, 3, none⟩) hB d

set_option maxRecDepth 100000 in
set_option maxHeartbeats 1600000 in
theorem l17With_any (sa : ByteArray) (ro : Int) (w : World) (hs : sa.size ≤ 1048576) (h0 : 1 ≤ ro) (h1 : ro ≤ 50) :
    Calls Tryz.prog 30 #[.string sa, .int .i64 ro] w fun e w' => e = .returned (.string (bkT sa ro)) ∧ Below w.heap.size w w' := by
  have hcv := conv_one w ro (by omega) (by omega)
  have hby := byte_one ro h0 h1
  have HE : Hid (bkT sa ro = sa ++ ⟨[UInt8.ofNat ro.toNat].toArray⟩) := Lib.hid rfl
  have hb : Below w.heap.size w (w.alloc (.cells #[.int .u8 ro] 5)) := (Below.refl _ _).alloc (Nat.le_refl _) _
  generalize bkT sa ro = R at HE ⊢
  go_enter Tryz.func30, Tryz.ntmps30
  go_wp2
  go_ret
  exact ⟨ret_str HE.out.symm, hb⟩

set_option maxRecDepth 100000 in
set_option maxHeartbeats 1600000 in
theorem besideKey_any (s : SlotD) (w : World) (hs : s.sa.size ≤ 1048576) (h0 : 1 ≤ s.ro) (h1 : s.ro ≤ 50) :
    Calls Tryz.prog 34 #[slV s] w fun e w' => e = .returned (.string (bkT s.sa s.ro)) ∧ Below w.heap.size w w' := by
  obtain ⟨sa, ro, no, bx⟩ := s
  dsimp only at hs h0 h1
  have hcv := conv_one (w.alloc (.cells #[.string sa, .int .i64 ro, .string no, .string bx] 23)) ro (by omega) (by omega)
  have hby := byte_one ro h0 h1
  have HE : Hid (bkT sa ro = sa ++ ⟨[UInt8.ofNat ro.toNat].toArray⟩) := Lib.hid rfl
  have hb : Below w.heap.size w ((w.alloc (.cells #[.string sa, .int .i64 ro, .string no, .string bx] 23)).alloc (.cells #[.int .u8 ro] 5)) := ((Below.refl _ _).alloc (Nat.le_refl _) _).alloc (by simp) _
  dsimp only
  generalize bkT sa ro = R at HE ⊢
  rw [World.size_alloc] at hcv
  go_enter Tryz.func34, Tryz.ntmps34
  go_wp2
  go_ret
  exact ⟨ret_str HE.out.symm, hb⟩

set_option maxRecDepth 100000 in
set_option maxHeartbeats 1600000 in
theorem slotPartsOk_any (s : SlotD) (w : World) (hz : SlSz s) :
    Calls Tryz.prog 31 #[slV s] w fun e w' => e = .returned (.bool (spB s.sa s.no s.ro)) ∧ Below w.heap.size w w' := by
  obtain ⟨sa, ro, no, bx⟩ := s
  obtain ⟨z1, z2, z3, z4⟩ := hz
  dsimp only at z1 z2 z3 z4
  have hB0 : Below w.heap.size w (w.alloc (.cells #[.string sa, .int .i64 ro, .string no, .string bx] 23)) := (Below.refl _ _).alloc (Nat.le_refl _) _
  have HL := Lib.hid (fun w => l1In_any ro 1 50 w)
  have HF : Hid (¬ (sa.size = 16 ∧ 1 ≤ ro ∧ ro ≤ 50 ∧ no.size = 12) → spB sa no ro = false) := Lib.hid (fun h => by unfold spB; simp; omega)
  have HT : Hid ((sa.size = 16 ∧ 1 ≤ ro ∧ ro ≤ 50 ∧ no.size = 12) → spB sa no ro = true) := Lib.hid (fun h => by unfold spB; simp; omega)
  generalize (spB sa no ro) = C at HF HT ⊢
  by_cases h1 : sa.size = 16
  case neg =>
    have HC := Lib.hid (HF.out (by omega))
    have hd : ((sa.size : Int) == 16) = false := by simp; omega
    clear HF HT
    go_enter Tryz.func31, Tryz.ntmps31
    go_wp2
    go_ret
    exact ⟨ret_bool HC.out.symm, hB0⟩
  have eh1 : ((sa.size : Int) == 16) = true := by simp; omega
  by_cases h2 : 1 ≤ ro
  case neg =>
    have HC := Lib.hid (HF.out (by omega))
    have hd : decide (1 ≤ ro) = false := decide_eq_false h2
    clear HF HT
    go_enter Tryz.func31, Tryz.ntmps31
    go_wp2
    go_ret
    exact ⟨ret_bool HC.out.symm, hB0⟩
  by_cases h3 : ro ≤ 50
  case neg =>
    have HC := Lib.hid (HF.out (by omega))
    have hd : decide (ro ≤ 50) = false := decide_eq_false h3
    clear HF HT
    go_enter Tryz.func31, Tryz.ntmps31
    go_wp2
    go_ret
    exact ⟨ret_bool HC.out.symm, hB0⟩
  by_cases h4 : no.size = 12
  case neg =>
    have HC := Lib.hid (HF.out (by omega))
    have hd : ((no.size : Int) == 12) = false := by simp; omega
    clear HF HT
    go_enter Tryz.func31, Tryz.ntmps31
    go_wp2
    go_ret
    exact ⟨ret_bool HC.out.symm, hB0⟩
  have eh4 : ((no.size : Int) == 12) = true := by simp; omega
  have HC := Lib.hid (HT.out (by omega))
  have hd : decide (ro ≤ 50) = true := decide_eq_true h3
  clear HF HT h1 h4
  go_enter Tryz.func31, Tryz.ntmps31
  go_wp2
  go_ret
  exact ⟨ret_bool HC.out.symm, hB0⟩

set_option maxRecDepth 100000 in
set_option maxHeartbeats 1600000 in
theorem l17Slot_any (s : SlotD) (w : World) (hz : SlSz s) :
    Calls Tryz.prog 35 #[slV s] w fun e w' => e = .returned (.bool (skB s)) ∧ Below w.heap.size w w' := by
  obtain ⟨sa, ro, no, bx⟩ := s
  obtain ⟨z1, z2, z3, z4⟩ := hz
  dsimp only at z1 z2 z3 z4
  have hB0 : Below w.heap.size w (w.alloc (.cells #[.string sa, .int .i64 ro, .string no, .string bx] 23)) := (Below.refl _ _).alloc (Nat.le_refl _) _
  have HL := Lib.hid (fun w => l1In_any ro 1 50 w)
  have HF : Hid (¬ (sa.size = 16 ∧ 1 ≤ ro ∧ ro ≤ 50 ∧ no.size = 12 ∧ bx.size = 48) → skB ⟨sa, ro, no, bx⟩ = false) := Lib.hid (fun h => by unfold skB; unfold spB; simp; omega)
  have HT : Hid ((sa.size = 16 ∧ 1 ≤ ro ∧ ro ≤ 50 ∧ no.size = 12 ∧ bx.size = 48) → skB ⟨sa, ro, no, bx⟩ = true) := Lib.hid (fun h => by unfold skB; unfold spB; simp; omega)
  generalize (skB ⟨sa, ro, no, bx⟩) = C at HF HT ⊢
  by_cases h1 : sa.size = 16
  case neg =>
    have HC := Lib.hid (HF.out (by omega))
    have hd : ((sa.size : Int) == 16) = false := by simp; omega
    clear HF HT
    go_enter Tryz.func35, Tryz.ntmps35
    go_wp2
    go_ret
    exact ⟨ret_bool HC.out.symm, hB0⟩
  have eh1 : ((sa.size : Int) == 16) = true := by simp; omega
  by_cases h2 : 1 ≤ ro
  case neg =>
    have HC := Lib.hid (HF.out (by omega))
    have hd : decide (1 ≤ ro) = false := decide_eq_false h2
    have hk : (decide (1 ≤ ro) && decide (ro ≤ 50)) = false := by simp; omega
    rw [hk] at HL
    clear HF HT
    go_enter Tryz.func35, Tryz.ntmps35
    go_wp2_with fail
    refine (HL.out _).mono ?_
    rintro e w1 ⟨rfl, rfl⟩
    go_wp2
    go_ret
    exact ⟨ret_bool HC.out.symm, hB0⟩
  by_cases h3 : ro ≤ 50
  case neg =>
    have HC := Lib.hid (HF.out (by omega))
    have hd : decide (ro ≤ 50) = false := decide_eq_false h3
    have hk : (decide (1 ≤ ro) && decide (ro ≤ 50)) = false := by simp; omega
    rw [hk] at HL
    clear HF HT
    go_enter Tryz.func35, Tryz.ntmps35
    go_wp2_with fail
    refine (HL.out _).mono ?_
    rintro e w1 ⟨rfl, rfl⟩
    go_wp2
    go_ret
    exact ⟨ret_bool HC.out.symm, hB0⟩
  by_cases h4 : no.size = 12
  case neg =>
    have HC := Lib.hid (HF.out (by omega))
    have hd : ((no.size : Int) == 12) = false := by simp; omega
    have hk : (decide (1 ≤ ro) && decide (ro ≤ 50)) = true := by simp; omega
    rw [hk] at HL
    clear HF HT
    go_enter Tryz.func35, Tryz.ntmps35
    go_wp2_with fail
    refine (HL.out _).mono ?_
    rintro e w1 ⟨rfl, rfl⟩
    go_wp2
    go_ret
    exact ⟨ret_bool HC.out.symm, hB0⟩
  have eh4 : ((no.size : Int) == 12) = true := by simp; omega
  by_cases h5 : bx.size = 48
  case neg =>
    have HC := Lib.hid (HF.out (by omega))
    have hd : ((bx.size : Int) == 48) = false := by simp; omega
    have hk : (decide (1 ≤ ro) && decide (ro ≤ 50)) = true := by simp; omega
    rw [hk] at HL
    clear HF HT
    go_enter Tryz.func35, Tryz.ntmps35
    go_wp2_with fail
    refine (HL.out _).mono ?_
    rintro e w1 ⟨rfl, rfl⟩
    go_wp2
    go_ret
    exact ⟨ret_bool HC.out.symm, hB0⟩
  have eh5 : ((bx.size : Int) == 48) = true := by simp; omega
  have HC := Lib.hid (HT.out (by omega))
  have hd : decide (ro ≤ 50) = true := decide_eq_true h3
  have hk : (decide (1 ≤ ro) && decide (ro ≤ 50)) = true := by simp; omega
  rw [hk] at HL
  clear hd
  clear HF HT h1 h4 h5
  go_enter Tryz.func35, Tryz.ntmps35
  go_wp2_with fail
  refine (HL.out _).mono ?_
  rintro e w1 ⟨rfl, rfl⟩
  go_wp2
  go_ret
  exact ⟨ret_bool HC.out.symm, hB0⟩

set_option maxRecDepth 100000 in
set_option maxHeartbeats 1600000 in
theorem slotOk_any (s : SlotD) (w : World) (hz : SlSz s) :
    Calls Tryz.prog 37 #[slV s] w fun e w' => e = .returned (.bool (skB s)) ∧ Below w.heap.size w w' := by
  have HP := Lib.hid (fun w => slotPartsOk_any s w hz)
  obtain ⟨sa, ro, no, bx⟩ := s
  obtain ⟨z1, z2, z3, z4⟩ := hz
  dsimp only at z1 z2 z3 z4 HP
  have HE : Hid (skB ⟨sa, ro, no, bx⟩ = (spB sa no ro && decide (bx.size = 48))) := Lib.hid rfl
  rw [HE.out]
  clear HE
  generalize spB sa no ro = C at HP ⊢
  have hB0 : Below w.heap.size w (w.alloc (.cells #[.string sa, .int .i64 ro, .string no, .string bx] 23)) := (Below.refl _ _).alloc (Nat.le_refl _) _
  have hx := Box.new w #[.string sa, .int .i64 ro, .string no, .string bx] 23
  go_enter Tryz.func37, Tryz.ntmps37
  go_wp2_with fail
  generalize w.alloc (.cells #[.string sa, .int .i64 ro, .string no, .string bx] 23) = W0 at hB0 hx ⊢
  refine (HP.out _).mono ?_
  rintro e w1 ⟨rfl, hb1⟩
  replace hx := hx.keep hb1 hx.lt
  have hB := hB0.trans (hb1.mono hB0.size)
  have x0 := hx.cell 0 _ rfl
  have x1 := hx.cell 1 _ rfl
  have x2 := hx.cell 2 _ rfl
  have x3 := hx.cell 3 _ rfl
  clear HP hb1 hB0
  cases C with
  | false =>
    go_wp2
    go_ret
    exact ⟨ret_bool (by simp), hB⟩
  | true =>
    by_cases h5 : bx.size = 48
    · have e5 : ((bx.size : Int) == 48) = true := by simp; omega
      have HD : Hid (decide (bx.size = 48) = true) := Lib.hid (decide_eq_true h5)
      clear h5
      go_wp2
      go_ret
      exact ⟨ret_bool (by rw [HD.out]; rfl), hB⟩
    · have e5 : ((bx.size : Int) == 48) = false := by simp; omega
      have HD : Hid (decide (bx.size = 48) = false) := Lib.hid (decide_eq_false h5)
      clear h5
      go_wp2
      go_ret
      exact ⟨ret_bool (by rw [HD.out]; rfl), hB⟩
end Go.Proofs.YtlipgmaiooljkaaGreatDoor

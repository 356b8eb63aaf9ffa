/- Slots in a seat of texts: what both sides say of their parts, and their texts. -/
import Derived.Test.YtlipgmaiooljkaaDoorW1c
import Derived.Test.YtlipgmaiooljkaaDoorDayIn
import Derived.Test.YtlipgmaiooljkaaDoorFloFix
import Derived.Test.YtlipgmaiooljkaaDoorShelf
import Derived.Laws.ResultCell
namespace Go.Proofs.YtlipgmaiooljkaaDoor
open Go.ChangeShapes Go.WideShapes Go.ChangeAt Go.RowKit
set_option linter.unusedVariables false
set_option linter.unusedSimpArgs false

structure SlotD where
  sa : ByteArray
  ro : Int
  no : ByteArray
  bx : ByteArray
abbrev slC (s : SlotD) : Array Value := #[.string s.sa, .int .i64 s.ro, .string s.no, .string s.bx]
abbrev slV (s : SlotD) : Value := .agg #[.string s.sa, .int .i64 s.ro, .string s.no, .string s.bx]
def SlSz (s : SlotD) : Prop := s.sa.size ≤ 1048576 ∧ s.no.size ≤ 1048576 ∧ s.bx.size ≤ 1048576 ∧ (Lit.int .i64 s.ro).wf = true
def spB (sa no : ByteArray) (ro : Int) : Bool := decide (sa.size = 16 ∧ 1 ≤ ro ∧ ro ≤ 50 ∧ no.size = 12)
def skB (s : SlotD) : Bool := spB s.sa s.no s.ro && decide (s.bx.size = 48)
theorem spB_inv {sa no : ByteArray} {ro : Int} (h : spB sa no ro = true) : sa.size = 16 ∧ 1 ≤ ro ∧ ro ≤ 50 ∧ no.size = 12 := of_decide_eq_true h

set_option maxRecDepth 100000 in
set_option maxHeartbeats 1600000 in
theorem slotPartsOk_any (s : SlotD) (w : World) (hz : SlSz s) :
    Calls Tryd.prog 28 #[slV s] w fun e w' => e = .returned (.bool (spB s.sa s.no s.ro)) ∧ Below w.heap.size w w' := by
  obtain ⟨sa, ro, no, bx⟩ := s
  obtain ⟨z1, z2, z3, z4⟩ := hz
  dsimp only at z1 z2 z3 z4
  have hB0 : Below w.heap.size w (w.alloc (.cells #[.string sa, .int .i64 ro, .string no, .string bx] 26)) := (Below.refl _ _).alloc (Nat.le_refl _) _
  have HL := Lib.hid (fun w => l1In_any ro 1 50 w)
  have HF : Hid (¬ (sa.size = 16 ∧ 1 ≤ ro ∧ ro ≤ 50 ∧ no.size = 12) → spB sa no ro = false) := Lib.hid (fun h => by unfold spB; simp; omega)
  have HT : Hid ((sa.size = 16 ∧ 1 ≤ ro ∧ ro ≤ 50 ∧ no.size = 12) → spB sa no ro = true) := Lib.hid (fun h => by unfold spB; simp; omega)
  generalize (spB sa no ro) = C at HF HT ⊢
  by_cases h1 : sa.size = 16
  case neg =>
    have HC := Lib.hid (HF.out (by omega))
    have hd : ((sa.size : Int) == 16) = false := by simp; omega
    clear HF HT
    go_enter Tryd.func28, Tryd.ntmps28
    go_wp2
    go_ret
    exact ⟨ret_bool HC.out.symm, hB0⟩
  have eh1 : ((sa.size : Int) == 16) = true := by simp; omega
  by_cases h2 : 1 ≤ ro
  case neg =>
    have HC := Lib.hid (HF.out (by omega))
    have hd : decide (1 ≤ ro) = false := decide_eq_false h2
    clear HF HT
    go_enter Tryd.func28, Tryd.ntmps28
    go_wp2
    go_ret
    exact ⟨ret_bool HC.out.symm, hB0⟩
  by_cases h3 : ro ≤ 50
  case neg =>
    have HC := Lib.hid (HF.out (by omega))
    have hd : decide (ro ≤ 50) = false := decide_eq_false h3
    clear HF HT
    go_enter Tryd.func28, Tryd.ntmps28
    go_wp2
    go_ret
    exact ⟨ret_bool HC.out.symm, hB0⟩
  by_cases h4 : no.size = 12
  case neg =>
    have HC := Lib.hid (HF.out (by omega))
    have hd : ((no.size : Int) == 12) = false := by simp; omega
    clear HF HT
    go_enter Tryd.func28, Tryd.ntmps28
    go_wp2
    go_ret
    exact ⟨ret_bool HC.out.symm, hB0⟩
  have eh4 : ((no.size : Int) == 12) = true := by simp; omega
  have HC := Lib.hid (HT.out (by omega))
  have hd : decide (ro ≤ 50) = true := decide_eq_true h3
  clear HF HT h1 h4
  go_enter Tryd.func28, Tryd.ntmps28
  go_wp2
  go_ret
  exact ⟨ret_bool HC.out.symm, hB0⟩

set_option maxRecDepth 100000 in
set_option maxHeartbeats 1600000 in
theorem l17Slot_any (s : SlotD) (w : World) (hz : SlSz s) :
    Calls Tryd.prog 12 #[slV s] w fun e w' => e = .returned (.bool (skB s)) ∧ Below w.heap.size w w' := by
  obtain ⟨sa, ro, no, bx⟩ := s
  obtain ⟨z1, z2, z3, z4⟩ := hz
  dsimp only at z1 z2 z3 z4
  have hB0 : Below w.heap.size w (w.alloc (.cells #[.string sa, .int .i64 ro, .string no, .string bx] 26)) := (Below.refl _ _).alloc (Nat.le_refl _) _
  have HL := Lib.hid (fun w => l1In_any ro 1 50 w)
  have HF : Hid (¬ (sa.size = 16 ∧ 1 ≤ ro ∧ ro ≤ 50 ∧ no.size = 12 ∧ bx.size = 48) → skB ⟨sa, ro, no, bx⟩ = false) := Lib.hid (fun h => by unfold skB; unfold spB; simp; omega)
  have HT : Hid ((sa.size = 16 ∧ 1 ≤ ro ∧ ro ≤ 50 ∧ no.size = 12 ∧ bx.size = 48) → skB ⟨sa, ro, no, bx⟩ = true) := Lib.hid (fun h => by unfold skB; unfold spB; simp; omega)
  generalize (skB ⟨sa, ro, no, bx⟩) = C at HF HT ⊢
  by_cases h1 : sa.size = 16
  case neg =>
    have HC := Lib.hid (HF.out (by omega))
    have hd : ((sa.size : Int) == 16) = false := by simp; omega
    clear HF HT
    go_enter Tryd.func12, Tryd.ntmps12
    go_wp2
    go_ret
    exact ⟨ret_bool HC.out.symm, hB0⟩
  have eh1 : ((sa.size : Int) == 16) = true := by simp; omega
  by_cases h2 : 1 ≤ ro
  case neg =>
    have HC := Lib.hid (HF.out (by omega))
    have hd : decide (1 ≤ ro) = false := decide_eq_false h2
    have hk : (decide (1 ≤ ro) && decide (ro ≤ 50)) = false := by simp; omega
    rw [hk] at HL
    clear HF HT
    go_enter Tryd.func12, Tryd.ntmps12
    go_wp2_with fail
    refine (HL.out _).mono ?_
    rintro e w1 ⟨rfl, rfl⟩
    go_wp2
    go_ret
    exact ⟨ret_bool HC.out.symm, hB0⟩
  by_cases h3 : ro ≤ 50
  case neg =>
    have HC := Lib.hid (HF.out (by omega))
    have hd : decide (ro ≤ 50) = false := decide_eq_false h3
    have hk : (decide (1 ≤ ro) && decide (ro ≤ 50)) = false := by simp; omega
    rw [hk] at HL
    clear HF HT
    go_enter Tryd.func12, Tryd.ntmps12
    go_wp2_with fail
    refine (HL.out _).mono ?_
    rintro e w1 ⟨rfl, rfl⟩
    go_wp2
    go_ret
    exact ⟨ret_bool HC.out.symm, hB0⟩
  by_cases h4 : no.size = 12
  case neg =>
    have HC := Lib.hid (HF.out (by omega))
    have hd : ((no.size : Int) == 12) = false := by simp; omega
    have hk : (decide (1 ≤ ro) && decide (ro ≤ 50)) = true := by simp; omega
    rw [hk] at HL
    clear HF HT
    go_enter Tryd.func12, Tryd.ntmps12
    go_wp2_with fail
    refine (HL.out _).mono ?_
    rintro e w1 ⟨rfl, rfl⟩
    go_wp2
    go_ret
    exact ⟨ret_bool HC.out.symm, hB0⟩
  have eh4 : ((no.size : Int) == 12) = true := by simp; omega
  by_cases h5 : bx.size = 48
  case neg =>
    have HC := Lib.hid (HF.out (by omega))
    have hd : ((bx.size : Int) == 48) = false := by simp; omega
    have hk : (decide (1 ≤ ro) && decide (ro ≤ 50)) = true := by simp; omega
    rw [hk] at HL
    clear HF HT
    go_enter Tryd.func12, Tryd.ntmps12
    go_wp2_with fail
    refine (HL.out _).mono ?_
    rintro e w1 ⟨rfl, rfl⟩
    go_wp2
    go_ret
    exact ⟨ret_bool HC.out.symm, hB0⟩
  have eh5 : ((bx.size : Int) == 48) = true := by simp; omega
  have HC := Lib.hid (HT.out (by omega))
  have hd : decide (ro ≤ 50) = true := decide_eq_true h3
  have hk : (decide (1 ≤ ro) && decide (ro ≤ 50)) = true := by simp; omega
  rw [hk] at HL
  clear hd
  clear HF HT h1 h4 h5
  go_enter Tryd.func12, Tryd.ntmps12
  go_wp2_with fail
  refine (HL.out _).mono ?_
  rintro e w1 ⟨rfl, rfl⟩
  go_wp2
  go_ret
  exact ⟨ret_bool HC.out.symm, hB0⟩

set_option maxRecDepth 100000 in
set_option maxHeartbeats 1600000 in
theorem slotOk_any (s : SlotD) (w : World) (hz : SlSz s) :
    Calls Tryd.prog 15 #[slV s] w fun e w' => e = .returned (.bool (skB s)) ∧ Below w.heap.size w w' := by
  have HP := Lib.hid (fun w => slotPartsOk_any s w hz)
  obtain ⟨sa, ro, no, bx⟩ := s
  obtain ⟨z1, z2, z3, z4⟩ := hz
  dsimp only at z1 z2 z3 z4 HP
  have HE : Hid (skB ⟨sa, ro, no, bx⟩ = (spB sa no ro && decide (bx.size = 48))) := Lib.hid rfl
  rw [HE.out]
  clear HE
  generalize spB sa no ro = C at HP ⊢
  have hB0 : Below w.heap.size w (w.alloc (.cells #[.string sa, .int .i64 ro, .string no, .string bx] 26)) := (Below.refl _ _).alloc (Nat.le_refl _) _
  have hx := Box.new w #[.string sa, .int .i64 ro, .string no, .string bx] 26
  go_enter Tryd.func15, Tryd.ntmps15
  go_wp2_with fail
  generalize w.alloc (.cells #[.string sa, .int .i64 ro, .string no, .string bx] 26) = W0 at hB0 hx ⊢
  refine (HP.out _).mono ?_
  rintro e w1 ⟨rfl, hb1⟩
  replace hx := hx.keep hb1 hx.lt
  have hB := hB0.trans (hb1.mono hB0.size)
  have x0 := hx.cell 0 _ rfl
  have x1 := hx.cell 1 _ rfl
  have x2 := hx.cell 2 _ rfl
  have x3 := hx.cell 3 _ rfl
  clear HP hb1 hB0
  cases C with
  | false =>
    go_wp2
    go_ret
    exact ⟨ret_bool (by simp), hB⟩
  | true =>
    by_cases h5 : bx.size = 48
    · have e5 : ((bx.size : Int) == 48) = true := by simp; omega
      have HD : Hid (decide (bx.size = 48) = true) := Lib.hid (decide_eq_true h5)
      clear h5
      go_wp2
      go_ret
      exact ⟨ret_bool (by rw [HD.out]; rfl), hB⟩
    · have e5 : ((bx.size : Int) == 48) = false := by simp; omega
      have HD : Hid (decide (bx.size = 48) = false) := Lib.hid (decide_eq_false h5)
      clear h5
      go_wp2
      go_ret
      exact ⟨ret_bool (by rw [HD.out]; rfl), hB⟩

def decB (n : Nat) : ByteArray := ⟨(Lib.decDigits n).toArray⟩
theorem app7 (a b : ByteArray) : (a ++ b).data.toList = a.data.toList ++ b.data.toList := by rw [ByteArray.data_append, Array.toList_append]
theorem dec_step (N : Nat) (q : Nat) (s : List UInt8) (hq : ¬ q < 10) (h : Lib.decDigits N = Lib.decDigits q ++ s) : Lib.decDigits N = Lib.decDigits (q / 10) ++ (UInt8.ofNat (48 + q % 10) :: s) := by
  rw [h, Lib.decDigits.eq_def q, dif_neg hq, List.append_assoc]; rfl

theorem conv_one7 (w : World) (b : UInt8) (x : Int) (hx : x = (b.toNat : Int)) : (convert 51 9 (.slice (some ⟨w.heap.size, 0, none⟩) 1 1)).run Tryd.prog (w.alloc (.cells #[.int .u8 x] 5)) = .ok (.string ⟨#[b]⟩) (w.alloc (.cells #[.int .u8 x] 5)) := by
  subst hx
  refine run_convert_bytes_back _ 51 9 5 ⟨w.heap.size, 0, none⟩ 1 [b] Tryd.underlying51 Tryd.underlying5 Tryd.underlying9 ?_
  intro j hj
  have : j = 0 := by simpa using hj
  subst this
  simp [go_sem]
theorem ofNat_toNat7 (n : Nat) (h : n < 256) : (UInt8.ofNat n).toNat = n := by simp; omega

set_option maxRecDepth 100000 in
set_option maxHeartbeats 1600000 in
theorem l1Dec_any (n : Nat) (w : World) (hn : n ≤ 1000000) :
    Calls Tryd.prog 13 #[.int .i64 (n : Int)] w fun e w' => e = .returned (.string (decB n)) ∧ Below w.heap.size w w' := by
  have HE : Hid (decB n = ⟨(Lib.decDigits n).toArray⟩) := Lib.hid rfl
  generalize decB n = out at HE ⊢
  have HN : Hid (Lib.decDigits n = Lib.decDigits n ++ []) := Lib.hid (by simp)
  have h0 : ¬ ((n : Int) < 0) := by omega
  go_enter Tryd.func13, Tryd.ntmps13
  go_wp2
  go_loopw [0, 3] (fun q s wr => ∃ (k : Nat) (t : ByteArray), k ≤ n ∧ q = .int .i64 (k : Int) ∧ s = .string t ∧ t.size + k ≤ n + 100 ∧ t.size ≤ 2000000 ∧ Hid (Lib.decDigits n = Lib.decDigits k ++ t.data.toList) ∧ Below w.heap.size w wr) (fun q _ _ => (intOf q).toNat)
  case atStart => exact ⟨n, ⟨#[]⟩, Nat.le_refl _, rfl, rfl, by show 0 + n ≤ _; omega, by show 0 ≤ _; omega, HN, Below.refl _ _⟩
  case round =>
    obtain ⟨k, t, hk, rfl, rfl, hts, htm, HD, hB⟩ := hrel
    by_cases hlt : 10 ≤ k
    · have HS := Lib.hid (dec_step n k t.data.toList (by omega) HD.out)
      have hbt := ofNat_toNat7 (48 + k % 10) (by omega)
      obtain ⟨b, hbe⟩ : ∃ b, b = UInt8.ofNat (48 + k % 10) := ⟨_, rfl⟩
      rw [← hbe] at HS hbt
      obtain ⟨X, hX⟩ : ∃ X : ByteArray, (⟨#[b]⟩ : ByteArray) ++ t = X := ⟨_, rfl⟩
      have HX : Hid (X.data.toList = b :: t.data.toList ∧ X.size = t.size + 1) := Lib.hid (by
        rw [← hX, ByteArray.size_append]
        exact ⟨app7 _ _, by show 1 + t.size = _; omega⟩)
      have hcv := conv_one7 wr b (48 + (k : Int) % 10) (by rw [hbt]; omega)
      have hb1 := hB.alloc hB.size (.cells #[.int .u8 (48 + (k : Int) % 10)] 5)
      have hkI : (10 : Int) ≤ (k : Int) := by omega
      have hsum : 1 + t.size ≤ 3000000 := by omega
      clear hbe hbt hB
      go_wp2
      go_roundw
      case rel => exact ⟨k / 10, X, by omega, by simp, rfl, by have := HX.out.2; omega, by have := HX.out.2; omega, Lib.hid (by rw [HX.out.1]; exact HS.out), hb1⟩
      case measure => simp [intOf]; omega
    · have hbt := ofNat_toNat7 (48 + k) (by omega)
      have HF : Hid (Lib.decDigits n = UInt8.ofNat (48 + k) :: t.data.toList) := Lib.hid (by rw [HD.out, Lib.decDigits_one (by omega)]; rfl)
      obtain ⟨b, hbe⟩ : ∃ b, b = UInt8.ofNat (48 + k) := ⟨_, rfl⟩
      rw [← hbe] at HF hbt
      obtain ⟨X, hX⟩ : ∃ X : ByteArray, (⟨#[b]⟩ : ByteArray) ++ t = X := ⟨_, rfl⟩
      have HX : Hid (X = out) := Lib.hid (by
        apply ba_eq
        rw [HE.out, ← hX, app7]
        show b :: t.data.toList = _
        rw [← HF.out])
      have hcv := conv_one7 wr b (48 + (k : Int)) (by rw [hbt]; omega)
      have hb1 := hB.alloc hB.size (.cells #[.int .u8 (48 + (k : Int))] 5)
      have hkI : ¬ (10 : Int) ≤ (k : Int) := by omega
      have hsum : 1 + t.size ≤ 3000000 := by omega
      clear hbe hbt hB
      go_wp2
      go_ret
      exact ⟨ret_str HX.out, hb1⟩

def slX (s : SlotD) : ByteArray := if skB s = true then decB s.ro.toNat ++ ⟨#[32]⟩ ++ hexR s.sa ++ ⟨#[32]⟩ ++ hexR s.no ++ ⟨#[32]⟩ ++ hexR s.bx else ⟨#[]⟩
theorem skB_parts {s : SlotD} (h : skB s = true) : s.sa.size = 16 ∧ 1 ≤ s.ro ∧ s.ro ≤ 50 ∧ s.no.size = 12 ∧ s.bx.size = 48 := by
  unfold skB at h
  rw [Bool.and_eq_true] at h
  have h1 := spB_inv h.1
  have h2 := of_decide_eq_true h.2
  omega
theorem hexR_size {a : ByteArray} (h : a.size ≤ 4000) : (hexR a).size = 2 * a.size := by
  unfold hexR hexB
  rw [if_pos h]
  show (hexL a.data.toList).toArray.size = _
  rw [List.size_toArray, hexL_len]
  rfl
theorem decB_size {n : Nat} (h : n < 100) : (decB n).size ≤ 2 := by
  unfold decB
  show (Lib.decDigits n).toArray.size ≤ 2
  rw [List.size_toArray]
  by_cases h1 : n < 10
  · rw [Lib.decDigits_one h1]; simp
  · rw [Lib.decDigits_two h1 h]; simp
theorem joinB4 (a b c d : ByteArray) : (⟨(Lib.join ([a, b, c, d].map (·.data.toList)) [32]).toArray⟩ : ByteArray) = a ++ ⟨#[32]⟩ ++ b ++ ⟨#[32]⟩ ++ c ++ ⟨#[32]⟩ ++ d := by
  apply ba_eq
  simp only [app7, Lib.join, List.map_cons, List.map_nil, List.intercalate, List.intersperse]
  simp

theorem join4 (w : World) (a b c d : ByteArray) (hs : (a ++ ⟨#[32]⟩ ++ b ++ ⟨#[32]⟩ ++ c ++ ⟨#[32]⟩ ++ d).size ≤ 100000) :
    Calls Tryd.prog 16 #[.slice (some ⟨w.heap.size, 0, none⟩) 4 4, .string ⟨#[32]⟩] (w.alloc (.cells #[.string a, .string b, .string c, .string d] 9)) fun e w' => e = .returned (.string (a ++ ⟨#[32]⟩ ++ b ++ ⟨#[32]⟩ ++ c ++ ⟨#[32]⟩ ++ d)) ∧ Below (w.alloc (.cells #[.string a, .string b, .string c, .string d] 9)).heap.size (w.alloc (.cells #[.string a, .string b, .string c, .string d] 9)) w' := by
  have hb := Box.new w #[.string a, .string b, .string c, .string d] 9
  have hq := joinB4 a b c d
  rw [← hq] at hs ⊢
  exact Tryd.strings_Join w.heap.size 0 4 [a, b, c, d] ⟨#[32]⟩ _ (fun j x hx => by
    rw [Nat.zero_add]
    match j, hx with
    | 0, hx => cases hx; exact hb.cell 0 _ rfl
    | 1, hx => cases hx; exact hb.cell 1 _ rfl
    | 2, hx => cases hx; exact hb.cell 2 _ rfl
    | 3, hx => cases hx; exact hb.cell 3 _ rfl) hb.lt (by simp) (by simp) (by
      have h2 : (Lib.join ([a, b, c, d].map (·.data.toList)) [32]).toArray.size ≤ 100000 := hs
      rw [List.size_toArray] at h2
      show (Lib.join ([a, b, c, d].map (·.data.toList)) [32]).length ≤ _
      omega)
theorem Box.drwS {w : World} {g : Nat} {cs : Array Value} {t : TypeId} (h : Box w g cs t) : Box w.drew g cs t := h

set_option maxRecDepth 100000 in
set_option maxHeartbeats 2000000 in
theorem specSlotText_any (s : SlotD) (w : World) (hz : SlSz s) :
    Calls Tryd.prog 6 #[slV s] w fun e w' => e = .returned (.string (slX s)) ∧ Below w.heap.size w w' := by
  have HK := Lib.hid (fun w => l17Slot_any s w hz)
  have HP := Lib.hid (fun h => skB_parts (s := s) h)
  have HX : Hid (slX s = if skB s = true then decB s.ro.toNat ++ ⟨#[32]⟩ ++ hexR s.sa ++ ⟨#[32]⟩ ++ hexR s.no ++ ⟨#[32]⟩ ++ hexR s.bx else ⟨#[]⟩) := Lib.hid rfl
  generalize slX s = R at HX ⊢
  generalize skB s = C at HK HP HX
  obtain ⟨sa, ro, no, bx⟩ := s
  dsimp only at HP HX
  clear hz
  have hx := Box.new w #[.string sa, .int .i64 ro, .string no, .string bx] 26
  have hB : Below w.heap.size w (w.alloc (.cells #[.string sa, .int .i64 ro, .string no, .string bx] 26)) := (Below.refl _ _).alloc (Nat.le_refl _) _
  go_enter Tryd.func6, Tryd.ntmps6
  go_wp2_with fail
  generalize w.alloc (.cells #[.string sa, .int .i64 ro, .string no, .string bx] 26) = W0 at hx hB ⊢
  refine (HK.out _).mono ?_
  rintro e w1 ⟨rfl, hb⟩
  replace hx := hx.keep hb hx.lt
  replace hB := hB.trans (hb.mono hB.size)
  clear hb HK
  have x0 := hx.cell 0 _ rfl
  have x1 := hx.cell 1 _ rfl
  have x2 := hx.cell 2 _ rfl
  have x3 := hx.cell 3 _ rfl
  cases C with
  | false =>
    go_wp2
    go_ret
    exact ⟨ret_str (by rw [HX.out]; rfl), hB⟩
  | true =>
    obtain ⟨s1, s2, s3, s4, s5⟩ := HP.out rfl
    rw [if_pos rfl] at HX
    obtain ⟨i, rfl⟩ : ∃ i : Nat, ro = (i : Int) := ⟨ro.toNat, by omega⟩
    rw [Int.toNat_natCast] at HX
    clear HP
    have g1 : (hexR sa).size = 32 := by rw [hexR_size (by omega)]; omega
    have g2 : (hexR no).size = 24 := by rw [hexR_size (by omega)]; omega
    have g3 : (hexR bx).size = 96 := by rw [hexR_size (by omega)]; omega
    have g0 : (decB i).size ≤ 2 := decB_size (by omega)
    have H0 := Lib.hid (fun w => l1Dec_any i w (by omega))
    have H1 := Lib.hid (fun w => specHex_any sa w (by unfold maxLen; omega))
    have H2 := Lib.hid (fun w => specHex_any no w (by unfold maxLen; omega))
    have H3 := Lib.hid (fun w => specHex_any bx w (by unfold maxLen; omega))
    generalize decB i = D at HX H0 g0
    generalize hexR sa = Y1 at HX H1 g1
    generalize hexR no = Y2 at HX H2 g2
    generalize hexR bx = Y3 at HX H3 g3
    obtain ⟨X1, hX1⟩ : ∃ X : ByteArray, D ++ (⟨#[32]⟩ : ByteArray) = X := ⟨_, rfl⟩
    have z1 : X1.size = D.size + 1 := by rw [← hX1, ByteArray.size_append]; rfl
    have hs1 : D.size + 1 ≤ 1000 := by omega
    obtain ⟨X2, hX2⟩ : ∃ X : ByteArray, X1 ++ Y1 = X := ⟨_, rfl⟩
    have z2 : X2.size = X1.size + Y1.size := by rw [← hX2, ByteArray.size_append]
    have hs2 : X1.size + Y1.size ≤ 1000 := by omega
    obtain ⟨X3, hX3⟩ : ∃ X : ByteArray, X2 ++ (⟨#[32]⟩ : ByteArray) = X := ⟨_, rfl⟩
    have z3 : X3.size = X2.size + 1 := by rw [← hX3, ByteArray.size_append]; rfl
    have hs3 : X2.size + 1 ≤ 1000 := by omega
    obtain ⟨X4, hX4⟩ : ∃ X : ByteArray, X3 ++ Y2 = X := ⟨_, rfl⟩
    have z4 : X4.size = X3.size + Y2.size := by rw [← hX4, ByteArray.size_append]
    have hs4 : X3.size + Y2.size ≤ 1000 := by omega
    obtain ⟨X5, hX5⟩ : ∃ X : ByteArray, X4 ++ (⟨#[32]⟩ : ByteArray) = X := ⟨_, rfl⟩
    have z5 : X5.size = X4.size + 1 := by rw [← hX5, ByteArray.size_append]; rfl
    have hs5 : X4.size + 1 ≤ 1000 := by omega
    obtain ⟨X6, hX6⟩ : ∃ X : ByteArray, X5 ++ Y3 = X := ⟨_, rfl⟩
    have z6 : X6.size = X5.size + Y3.size := by rw [← hX6, ByteArray.size_append]
    have hs6 : X5.size + Y3.size ≤ 1000 := by omega
    have HE : Hid (X6 = R) := Lib.hid (by rw [HX.out, ← hX6, ← hX5, ← hX4, ← hX3, ← hX2, ← hX1])
    clear HX s1 s2 s3 s4 s5 g0 g1 g2 g3 z1 z2 z3 z4 z5 z6
    go_wp2
    clear x0 x1 x2 x3
    refine wp_region_T (fun w' => Box w' w.heap.size #[.string sa, .int .i64 (i : Int), .string no, .string bx] 26) (fun _ => True) 18 (by kernel_rfl) 19 rfl ?_
    replace hx := hx.drwS
    replace hB := Below.drew hB
    refine wpAnyT_takesA (md := .any) 11 (by kernel_rfl) (by intro d v c a w h; cases d <;> exact h) [0, 1, 4, 5, 9, 10, 14, 15] _ _ _ (by decide) (by kernel_rfl) ⟨hx, fun _ => trivial⟩ ?_
    simp only [pick, List.filterMap_cons, List.filterMap_nil, List.getElem?_cons_zero, List.getElem?_cons_succ]
    refine wpIf_step (.pointer (some ⟨w.heap.size, 1, none⟩)) (by kernel_rfl) (fun w hw => by go_simp) ?_
    refine wpIf_step (.int .i64 (i : Int)) (by kernel_rfl) (fun w hw => by have j0 := hw.cell 1 _ rfl; go_simp) ?_
    refine wpIf_step (.pointer (some ⟨w.heap.size, 0, none⟩)) (by kernel_rfl) (fun w hw => by go_simp) ?_
    refine wpIf_step (.string sa) (by kernel_rfl) (fun w hw => by have j0 := hw.cell 0 _ rfl; go_simp) ?_
    refine wpIf_step (.pointer (some ⟨w.heap.size, 2, none⟩)) (by kernel_rfl) (fun w hw => by go_simp) ?_
    refine wpIf_step (.string no) (by kernel_rfl) (fun w hw => by have j0 := hw.cell 2 _ rfl; go_simp) ?_
    refine wpIf_step (.pointer (some ⟨w.heap.size, 3, none⟩)) (by kernel_rfl) (fun w hw => by go_simp) ?_
    refine wpIf_step (.string bx) (by kernel_rfl) (fun w hw => by have j0 := hw.cell 3 _ rfl; go_simp) ?_
    refine wpIf_nil (fun hS => ?_)
    clear hS
    refine wpAnyT_one 2 10 (by kernel_rfl) rfl (by kernel_rfl) (fun K hK => ?_)
    go_simp
    refine (H0.out _).mono ?_
    rintro e wn ⟨rfl, hb⟩
    replace hx := hx.keep hb hx.lt
    replace hB := Below.trans hB (hb.mono hB.size)
    clear hb
    refine hK _ _ ⟨hx, fun _ => trivial⟩ (fun hS => ?_)
    clear hK K hS
    refine wpAnyT_takesA (md := .any) 9 (by kernel_rfl) (by intro d v c a w h; cases d <;> exact h) [3] _ _ _ (by decide) (by kernel_rfl) ⟨hx, fun _ => trivial⟩ ?_
    simp only [pick, List.filterMap_cons, List.filterMap_nil, List.getElem?_cons_zero, List.getElem?_cons_succ]
    refine wpIf_step (.string X1) (by kernel_rfl) (fun w hw => by go_simp; omega) ?_
    refine wpIf_nil (fun hS => ?_)
    clear hS
    refine wpAnyT_one 6 8 (by kernel_rfl) rfl (by kernel_rfl) (fun K hK => ?_)
    go_simp
    refine (H1.out _).mono ?_
    rintro e wn ⟨rfl, hb⟩
    replace hx := hx.keep hb hx.lt
    replace hB := Below.trans hB (hb.mono hB.size)
    clear hb
    refine hK _ _ ⟨hx, fun _ => trivial⟩ (fun hS => ?_)
    clear hK K hS
    refine wpAnyT_takesA (md := .any) 6 (by kernel_rfl) (by intro d v c a w h; cases d <;> exact h) [7, 8] _ _ _ (by decide) (by kernel_rfl) ⟨hx, fun _ => trivial⟩ ?_
    simp only [pick, List.filterMap_cons, List.filterMap_nil, List.getElem?_cons_zero, List.getElem?_cons_succ]
    refine wpIf_step (.string X2) (by kernel_rfl) (fun w hw => by go_simp; omega) ?_
    refine wpIf_step (.string X3) (by kernel_rfl) (fun w hw => by go_simp; omega) ?_
    refine wpIf_nil (fun hS => ?_)
    clear hS
    refine wpAnyT_one 11 5 (by kernel_rfl) rfl (by kernel_rfl) (fun K hK => ?_)
    go_simp
    refine (H2.out _).mono ?_
    rintro e wn ⟨rfl, hb⟩
    replace hx := hx.keep hb hx.lt
    replace hB := Below.trans hB (hb.mono hB.size)
    clear hb
    refine hK _ _ ⟨hx, fun _ => trivial⟩ (fun hS => ?_)
    clear hK K hS
    refine wpAnyT_takesA (md := .any) 3 (by kernel_rfl) (by intro d v c a w h; cases d <;> exact h) [12, 13] _ _ _ (by decide) (by kernel_rfl) ⟨hx, fun _ => trivial⟩ ?_
    simp only [pick, List.filterMap_cons, List.filterMap_nil, List.getElem?_cons_zero, List.getElem?_cons_succ]
    refine wpIf_step (.string X4) (by kernel_rfl) (fun w hw => by go_simp; omega) ?_
    refine wpIf_step (.string X5) (by kernel_rfl) (fun w hw => by go_simp; omega) ?_
    refine wpIf_nil (fun hS => ?_)
    clear hS
    refine wpAnyT_one 16 2 (by kernel_rfl) rfl (by kernel_rfl) (fun K hK => ?_)
    go_simp
    refine (H3.out _).mono ?_
    rintro e wn ⟨rfl, hb⟩
    replace hx := hx.keep hb hx.lt
    replace hB := Below.trans hB (hb.mono hB.size)
    clear hb
    refine hK _ _ ⟨hx, fun _ => trivial⟩ (fun hS => ?_)
    clear hK K hS
    refine wpAnyT_takesA (md := .any) 1 (by kernel_rfl) (by intro d v c a w h; cases d <;> exact h) [17] _ _ _ (by decide) (by kernel_rfl) ⟨hx, fun _ => trivial⟩ ?_
    simp only [pick, List.filterMap_cons, List.filterMap_nil, List.getElem?_cons_zero, List.getElem?_cons_succ]
    refine wpIf_step (.string X6) (by kernel_rfl) (fun w hw => by go_simp; omega) ?_
    refine wpIf_nil (fun hS => ?_)
    clear hS
    refine wpAnyT_one 18 0 (by kernel_rfl) rfl (by kernel_rfl) (fun K hK => ?_)
    go_simp
    refine hK _ _ ⟨hx, fun _ => trivial⟩ (fun hS => ?_)
    clear hK K hS
    refine wpAnyT_over (by kernel_rfl) ?_
    go_wp2
    go_ret
    exact ⟨ret_str HE.out, hB⟩

set_option maxRecDepth 100000 in
set_option maxHeartbeats 2000000 in
theorem implSlotText_any (s : SlotD) (w : World) (hz : SlSz s) :
    Calls Tryd.prog 8 #[slV s] w fun e w' => e = .returned (.string (slX s)) ∧ Below w.heap.size w w' := by
  have HK := Lib.hid (fun w => slotOk_any s w hz)
  have HP := Lib.hid (fun h => skB_parts (s := s) h)
  have HX : Hid (slX s = if skB s = true then decB s.ro.toNat ++ ⟨#[32]⟩ ++ hexR s.sa ++ ⟨#[32]⟩ ++ hexR s.no ++ ⟨#[32]⟩ ++ hexR s.bx else ⟨#[]⟩) := Lib.hid rfl
  generalize slX s = R at HX ⊢
  generalize skB s = C at HK HP HX
  obtain ⟨sa, ro, no, bx⟩ := s
  dsimp only at HP HX
  clear hz
  have hx := Box.new w #[.string sa, .int .i64 ro, .string no, .string bx] 26
  have hB : Below w.heap.size w (w.alloc (.cells #[.string sa, .int .i64 ro, .string no, .string bx] 26)) := (Below.refl _ _).alloc (Nat.le_refl _) _
  go_enter Tryd.func8, Tryd.ntmps8
  go_wp2_with fail
  generalize w.alloc (.cells #[.string sa, .int .i64 ro, .string no, .string bx] 26) = W0 at hx hB ⊢
  refine (HK.out _).mono ?_
  rintro e w1 ⟨rfl, hb⟩
  replace hx := hx.keep hb hx.lt
  replace hB := hB.trans (hb.mono hB.size)
  clear hb HK
  have x0 := hx.cell 0 _ rfl
  have x1 := hx.cell 1 _ rfl
  have x2 := hx.cell 2 _ rfl
  have x3 := hx.cell 3 _ rfl
  cases C with
  | false =>
    go_wp2
    go_ret
    exact ⟨ret_str (by rw [HX.out]; rfl), hB⟩
  | true =>
    obtain ⟨s1, s2, s3, s4, s5⟩ := HP.out rfl
    rw [if_pos rfl] at HX
    obtain ⟨i, rfl⟩ : ∃ i : Nat, ro = (i : Int) := ⟨ro.toNat, by omega⟩
    rw [Int.toNat_natCast] at HX
    clear HP
    have g1 : (hexR sa).size = 32 := by rw [hexR_size (by omega)]; omega
    have g2 : (hexR no).size = 24 := by rw [hexR_size (by omega)]; omega
    have g3 : (hexR bx).size = 96 := by rw [hexR_size (by omega)]; omega
    have g0 : (decB i).size ≤ 2 := decB_size (by omega)
    have H0 := Lib.hid (fun w => Tryd.strconv_FormatInt_10_small i (by omega) w)
    have hdd : (⟨(Lib.decDigits i).toArray⟩ : ByteArray) = decB i := rfl
    rw [hdd] at H0
    clear hdd
    have H1 := Lib.hid (fun w => implHex_any sa w (by unfold maxLen; omega))
    have H2 := Lib.hid (fun w => implHex_any no w (by unfold maxLen; omega))
    have H3 := Lib.hid (fun w => implHex_any bx w (by unfold maxLen; omega))
    generalize decB i = D at HX H0 g0
    generalize hexR sa = Y1 at HX H1 g1
    generalize hexR no = Y2 at HX H2 g2
    generalize hexR bx = Y3 at HX H3 g3
    have HJ := Lib.hid (fun w => join4 w D Y1 Y2 Y3 (by simp only [ByteArray.size_append]; show D.size + 1 + Y1.size + 1 + Y2.size + 1 + Y3.size ≤ _; omega))
    rw [← HX.out] at HJ
    clear HX s1 s2 s3 s4 s5 g0 g1 g2 g3
    go_wp2
    clear x0 x1 x2 x3
    refine wp_region_T (fun w' => Box w' w.heap.size #[.string sa, .int .i64 (i : Int), .string no, .string bx] 26) (fun _ => True) 14 (by kernel_rfl) 15 rfl ?_
    replace hx := hx.drwS
    replace hB := Below.drew hB
    refine wpAnyT_takesA (md := .any) 7 (by kernel_rfl) (by intro d v c a w h; cases d <;> exact h) [0, 1, 3, 4, 6, 7, 9, 10] _ _ _ (by decide) (by kernel_rfl) ⟨hx, fun _ => trivial⟩ ?_
    simp only [pick, List.filterMap_cons, List.filterMap_nil, List.getElem?_cons_zero, List.getElem?_cons_succ]
    refine wpIf_step (.pointer (some ⟨w.heap.size, 1, none⟩)) (by kernel_rfl) (fun w hw => by go_simp) ?_
    refine wpIf_step (.int .i64 (i : Int)) (by kernel_rfl) (fun w hw => by have j0 := hw.cell 1 _ rfl; go_simp) ?_
    refine wpIf_step (.pointer (some ⟨w.heap.size, 0, none⟩)) (by kernel_rfl) (fun w hw => by go_simp) ?_
    refine wpIf_step (.string sa) (by kernel_rfl) (fun w hw => by have j0 := hw.cell 0 _ rfl; go_simp) ?_
    refine wpIf_step (.pointer (some ⟨w.heap.size, 2, none⟩)) (by kernel_rfl) (fun w hw => by go_simp) ?_
    refine wpIf_step (.string no) (by kernel_rfl) (fun w hw => by have j0 := hw.cell 2 _ rfl; go_simp) ?_
    refine wpIf_step (.pointer (some ⟨w.heap.size, 3, none⟩)) (by kernel_rfl) (fun w hw => by go_simp) ?_
    refine wpIf_step (.string bx) (by kernel_rfl) (fun w hw => by have j0 := hw.cell 3 _ rfl; go_simp) ?_
    refine wpIf_nil (fun hS => ?_)
    clear hS
    refine wpAnyT_one 2 6 (by kernel_rfl) rfl (by kernel_rfl) (fun K hK => ?_)
    go_simp
    refine (H0.out _).mono ?_
    rintro e wn ⟨rfl, rfl⟩
    refine hK _ _ ⟨hx, fun _ => trivial⟩ (fun hS => ?_)
    clear hK K hS
    refine wpAnyT_one 5 5 (by kernel_rfl) rfl (by kernel_rfl) (fun K hK => ?_)
    go_simp
    refine (H1.out _).mono ?_
    rintro e wn ⟨rfl, hb⟩
    replace hx := hx.keep hb hx.lt
    replace hB := Below.trans hB (hb.mono hB.size)
    clear hb
    refine hK _ _ ⟨hx, fun _ => trivial⟩ (fun hS => ?_)
    clear hK K hS
    refine wpAnyT_one 8 4 (by kernel_rfl) rfl (by kernel_rfl) (fun K hK => ?_)
    go_simp
    refine (H2.out _).mono ?_
    rintro e wn ⟨rfl, hb⟩
    replace hx := hx.keep hb hx.lt
    replace hB := Below.trans hB (hb.mono hB.size)
    clear hb
    refine hK _ _ ⟨hx, fun _ => trivial⟩ (fun hS => ?_)
    clear hK K hS
    refine wpAnyT_one 11 3 (by kernel_rfl) rfl (by kernel_rfl) (fun K hK => ?_)
    go_simp
    refine (H3.out _).mono ?_
    rintro e wn ⟨rfl, hb⟩
    replace hx := hx.keep hb hx.lt
    replace hB := Below.trans hB (hb.mono hB.size)
    clear hb
    refine hK _ _ ⟨hx, fun _ => trivial⟩ (fun hS => ?_)
    clear hK K hS
    refine wpAnyT_one 12 2 (by kernel_rfl) rfl (by kernel_rfl) (fun K hK => ?_)
    go_simp
    replace hx := hx.alloc (.cells #[.string D, .string Y1, .string Y2, .string Y3] 9)
    replace hB := Below.alloc hB hB.size (.cells #[.string D, .string Y1, .string Y2, .string Y3] 9)
    refine hK _ _ ⟨hx, fun _ => trivial⟩ (fun hS => ?_)
    clear hK K hS
    refine wpAnyT_one 13 1 (by kernel_rfl) rfl (by kernel_rfl) (fun K hK => ?_)
    go_simp
    refine (HJ.out _).mono ?_
    rintro e wn ⟨rfl, hb⟩
    replace hx := hx.keep hb hx.lt
    replace hB := Below.trans hB (hb.mono hB.size)
    clear hb
    refine hK _ _ ⟨hx, fun _ => trivial⟩ (fun hS => ?_)
    clear hK K hS
    refine wpAnyT_one 14 0 (by kernel_rfl) rfl (by kernel_rfl) (fun K hK => ?_)
    go_simp
    refine hK _ _ ⟨hx, fun _ => trivial⟩ (fun hS => ?_)
    clear hK K hS
    refine wpAnyT_over (by kernel_rfl) ?_
    go_wp2
    go_ret
    exact ⟨rfl, hB⟩
end Go.Proofs.YtlipgmaiooljkaaDoor

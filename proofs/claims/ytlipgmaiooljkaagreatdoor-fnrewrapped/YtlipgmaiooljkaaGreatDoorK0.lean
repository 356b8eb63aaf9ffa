/- Joined: FloEx, Draw10, V4f, W17e, V17b. -/
import Derived.Test.YtlipgmaiooljkaaGreatDoorH47
import Derived.Test.YtlipgmaiooljkaaGreatDoorH16
import Derived.Test.YtlipgmaiooljkaaGreatDoorH41
import Derived.Test.YtlipgmaiooljkaaGreatDoorH43
import Derived.Test.YtlipgmaiooljkaaGreatDoorH49
/- FloEx -/
namespace Go.Proofs.YtlipgmaiooljkaaGreatDoor
open Go.RowKit
set_option linter.unusedVariables false

/-- What is known of an operation's answer: a value, what holds of it, a new box of so many cells. -/
inductive Ke where
  | val (v : Value)
  | ex (P : Value → World → Prop)
  | box (n : Nat) (t : TypeId)
def KeP (S : Nat) (k : Nat → Ke) (i : Nat) (v : Value) (w : World) : Prop :=
  match k i with
  | .val x => v = x
  | .ex P => P v w
  | .box n t => ∃ g cs, v = .pointer (some ⟨g, 0, none⟩) ∧ S ≤ g ∧ cs.size = n ∧ Box w g cs t
theorem FloS.stepN {Post : Nat → Value → World → Prop} {Fr : World → Prop} {c : Nat → Bool} {s : Nat → Value} {w : World} (h : FloS Post Fr c s w) (i : Nat) (v : Value) (w' : World) (hfr : Fr w') (hst : ∀ j u, j ≠ i → Post j u w → Post j u w') (hp : Post i v w') : FloS Post Fr (up c i true) (up s i v) w' := by
  refine ⟨hfr, fun j hj => ?_⟩
  unfold up at hj ⊢
  by_cases e : j = i
  · subst e; rw [if_pos rfl]; exact hp
  · rw [if_neg e] at hj ⊢
    exact hst j _ e (h.k j hj)
/-- A slot that held something ahead of the region. -/
def slE (d : Value) (c : Nat → Bool) (s : Nat → Value) (i : Nat) : Value := if c i = true then s i else d
theorem slE_on {d : Value} {c : Nat → Bool} {s : Nat → Value} {i : Nat} (h : c i = true) : slE d c s i = s i := if_pos h
/-- What holds of an answer goes on holding when blocks are made. -/
def exB : Ke → Prop
  | .ex P => ∀ v w w', Below w.heap.size w w' → P v w → P v w'
  | _ => True
def exG (rb : Nat) : Ke → Prop
  | .ex P => ∀ v w w', w.grownBy w' (some rb) → P v w → P v w'
  | _ => True
/-- And when a box of this type from S on is filled. -/
def exP (S : Nat) (t : TypeId) : Ke → Prop
  | .ex P => ∀ v w g cs fin, S ≤ g → Box w g cs t → P v w → P v (putRow g 0 fin w)
  | _ => True
theorem ke_of {p : Ke → Prop} {kl : List Ke} (h : ∀ x ∈ kl, p x) (h0 : p (.val undef)) (j : Nat) : p (kl.getD j (.val undef)) := by
  rw [List.getD_eq_getElem?_getD]
  cases hg : kl[j]? with
  | none => exact h0
  | some x => exact h x (List.mem_of_getElem? hg)
theorem KeP.keep {S : Nat} {k : Nat → Ke} {w w' : World} (hk : ∀ j, exB (k j)) (hb : Below w.heap.size w w') (i : Nat) (v : Value) (h : KeP S k i v w) : KeP S k i v w' := by
  have hi := hk i
  unfold KeP at h ⊢
  split at h
  · exact h
  · rename_i P hP; rw [hP] at hi; exact hi _ _ _ hb h
  · obtain ⟨g, cs, h1, h2, h3, h4⟩ := h; exact ⟨g, cs, h1, h2, h3, h4.keep hb h4.lt⟩
theorem KeP.grow {S rb : Nat} {k : Nat → Ke} {w w' : World} (hk : ∀ j, exG rb (k j)) (hrb : rb < S) (hb : w.grownBy w' (some rb)) (i : Nat) (v : Value) (h : KeP S k i v w) : KeP S k i v w' := by
  have hi := hk i
  unfold KeP at h ⊢
  split at h
  · exact h
  · rename_i P hP; rw [hP] at hi; exact hi _ _ _ hb h
  · obtain ⟨g, cs, h1, h2, h3, h4⟩ := h
    exact ⟨g, cs, h1, h2, h3, (hb.block g h4.lt (fun e => by have := Option.some.inj e; omega)).trans h4⟩
theorem KeP.filledN {S g i0 : Nat} {k : Nat → Ke} {w : World} {cs : Array Value} {us : List Value} {t : TypeId} (hk : ∀ j, j ≠ i0 → exP S t (k j)) (hS : S ≤ g) (hx : Box w g cs t) (hsz : cs.size = us.length) (i : Nat) (hne : i ≠ i0) (v : Value) (h : KeP S k i v w) : KeP S k i v (putRow g 0 us w) := by
  have hi := hk i hne
  unfold KeP at h ⊢
  split at h
  · exact h
  · rename_i P hP; rw [hP] at hi; exact hi _ _ _ _ _ hS hx h
  · obtain ⟨g', cs', h1, h2, h3, h4⟩ := h
    by_cases e : g' = g
    · subst e
      have e2 : some (Obj.cells cs' _ (0, 0)) = some (Obj.cells cs t (0, 0)) := h4.symm.trans hx
      injection e2 with e3
      injection e3 with e4 e5 e6
      subst e4 e5
      obtain ⟨xs, rfl, hl⟩ := arrS hsz
      exact ⟨g', us.toArray, h1, h2, by simp; omega, Box.fillAll hx hl.symm⟩
    · exact ⟨g', cs', h1, h2, h3, (putRow_other g us 0 w g' e).trans h4⟩
theorem gw_below16 {w wr w' : World} {row : Option Nat} {B : Nat} (h : w.grownBy wr row) (hb : Below B wr w') (hB : w.heap.size ≤ B) : w.grownBy w' row :=
  ⟨hb.os.trans h.os, hb.tape.trans h.tape, hb.output.trans h.output, Nat.le_trans h.size hb.size, fun k hk hne => (hb.block k (by omega)).trans (h.block k hk hne)⟩
theorem putRow_grown (g : Nat) (us : List Value) (w0 w : World) (rb : Nat) (hg : w0.heap.size ≤ g) (h : w0.grownBy w (some rb)) : w0.grownBy (putRow g 0 us w) (some rb) := gw_below16 h (below_putRow g w0.heap.size hg us 0 w) (Nat.le_refl _)
end Go.Proofs.YtlipgmaiooljkaaGreatDoor

/- Draw10 -/
namespace Go.Proofs.YtlipgmaiooljkaaGreatDoor
open Go.ChangeShapes Go.WideShapes Go.ChangeAt Go.RowKit
set_option linter.unusedVariables false

theorem small_max10 {n : Nat} (h : n ≤ 1000000) : n ≤ maxLen := by unfold maxLen; omega
theorem slR_size (k n wi t : ByteArray) : (slR k n wi t).size ≤ t.size + 16 := by
  unfold slR
  split
  · unfold sealB
    have := tagR_size (sealKey k n) (sealTx wi (strB k n 1 t))
    rw [ByteArray.size_append, strB_size]
    show t.size + (sealT k n wi (strB k n 1 t)).size ≤ _
    unfold sealT
    omega
  · show 0 ≤ _; omega

end Go.Proofs.YtlipgmaiooljkaaGreatDoor

/- V4f -/
namespace Go.Proofs.YtlipgmaiooljkaaGreatDoor
open Go.ChangeShapes Go.WideShapes Go.ChangeAt Go.RowKit
set_option linter.unusedVariables false

theorem str_some10 (a : ByteArray) (h : a.size ≠ 0) : a.toList.isEmpty = false := by
  cases hl : a.toList with
  | nil => exact absurd ((str_empty a).1 hl) h
  | cons _ _ => rfl
theorem str_none10 (a : ByteArray) (h : a.size = 0) : a.toList.isEmpty = true := by
  rw [(str_empty a).2 h]; rfl
theorem strB_back (k n : ByteArray) (c : Int) (t : ByteArray) : strB k n c (strB k n c t) = t := by
  apply ba_eq
  show strmL (blkF k n c) (strmL (blkF k n c) t.data.toList) = _
  exact strmL_twice _ _
theorem sealT_16 (k n wi x : ByteArray) (hk : k.size = 32) (hn : n.size = 12) (hw : wi.size ≤ 1000) (hx : x.size ≤ 4000) : (sealT k n wi x).size = 16 := by
  unfold sealT tagR
  have h1 : (sealKey k n).size = 32 := by
    unfold sealKey
    rw [ByteArray.size_extract, blkR_size k n 0 hk hn (by omega) (by omega)]; rfl
  have h2 := sealTx_size wi x
  rw [if_pos ⟨h1, by omega⟩]
  show (List.toArray _).size = 16
  rw [List.size_toArray, sumR_len]
theorem ext_list (V : ByteArray) (a b : Nat) (hb : b = V.size) : (V.extract a b).data.toList = V.data.toList.drop a := by
  subst hb
  rw [ByteArray.data_extract, Array.toList_extract, List.extract_eq_take_drop, List.take_of_length_le (by simp)]
theorem ext_take (V : ByteArray) (b : Nat) : (V.extract 0 b).data.toList = V.data.toList.take b := by
  rw [ByteArray.data_extract, Array.toList_extract, List.extract_eq_take_drop]; simp
/-- What a box of two pieces tells. -/
theorem op_pieces (k n wi V C T : ByteArray) (hk : k.size = 32) (hn : n.size = 12) (hw : wi.size ≤ 1000) (hc : C.size ≤ 4000) (hT : T.size = 16) (hV : V.data.toList = C.data.toList ++ T.data.toList) :
    opOk k n wi V = decide (sealT k n wi C = T) ∧ (opOk k n wi V = true → opT k n wi V = strB k n 1 C) ∧ V.size = C.size + 16 := by
  have hs : V.size = C.size + 16 := by
    have := congrArg List.length hV
    simpa [hT] using this
  have h0 : V.extract 0 (V.size - 16) = C := by
    apply ba_eq
    rw [ext_take, hV, hs, Nat.add_sub_cancel, List.take_left' (by simp)]
  have h1 : V.extract (V.size - 16) V.size = T := by
    apply ba_eq
    rw [ext_list _ _ _ rfl, hV, hs, Nat.add_sub_cancel, List.drop_left' (by simp)]
  refine ⟨?_, fun h => ?_, hs⟩
  · unfold opOk
    rw [h0, h1]
    apply decide_eq_decide.2
    exact ⟨fun h => h.2.2.2.2.2, fun h => ⟨hk, hn, hw, by omega, by omega, h⟩⟩
  · rw [opT_true h, h0]
theorem seal_opens (k n wi t : ByteArray) (hk : k.size = 32) (hn : n.size = 12) (hw : wi.size ≤ 1000) (ht : t.size ≤ 4000) :
    opOk k n wi (sealB k n wi t) = true ∧ opT k n wi (sealB k n wi t) = t ∧ (sealB k n wi t).size = t.size + 16 ∧ (sealB k n wi t).extract 0 t.size = strB k n 1 t := by
  have hcs := strB_size k n 1 t
  have h := op_pieces k n wi (sealB k n wi t) (strB k n 1 t) (sealT k n wi (strB k n 1 t)) hk hn hw (by omega) (sealT_16 k n wi _ hk hn hw (by omega)) (by unfold sealB; rw [ba_app4])
  have ho : opOk k n wi (sealB k n wi t) = true := by rw [h.1]; exact decide_eq_true rfl
  refine ⟨ho, by rw [h.2.1 ho, strB_back], by rw [h.2.2, hcs], ?_⟩
  apply ba_eq
  unfold sealB
  rw [ext_take, ba_app4, List.take_left' (by simpa using hcs)]
theorem set_ne (T : ByteArray) (i : Nat) (b : UInt8) (hi : i < T.size) (hb : b ≠ T.data.toList.getD i 0) : T ≠ ⟨(T.data.toList.set i b).toArray⟩ := by
  intro e
  apply hb
  have e2 : T.data.toList = T.data.toList.set i b := by
    have := congrArg (fun x : ByteArray => x.data.toList) e
    simpa using this
  rw [e2, List.getD_eq_getElem?_getD, List.getElem?_set_self (by simpa using hi)]
  rfl
theorem seal_turned (k n wi t V : ByteArray) (j : Nat) (b : UInt8) (hk : k.size = 32) (hn : n.size = 12) (hw : wi.size ≤ 1000) (ht : t.size ≤ 4000) (h1 : t.size ≤ j) (h2 : j < t.size + 16)
    (hV : V.data.toList = (sealB k n wi t).data.toList.set j b) (hb : b ≠ (sealB k n wi t).data.toList.getD j 0) : opOk k n wi V = false := by
  have hcs := strB_size k n 1 t
  have hts := sealT_16 k n wi (strB k n 1 t) hk hn hw (by omega)
  have hsl : (sealB k n wi t).data.toList = (strB k n 1 t).data.toList ++ (sealT k n wi (strB k n 1 t)).data.toList := by unfold sealB; rw [ba_app4]
  rw [hsl] at hV hb
  have HP := fun T' => op_pieces k n wi V (strB k n 1 t) T' hk hn hw (by omega)
  obtain ⟨T, hT⟩ : ∃ T, T = sealT k n wi (strB k n 1 t) := ⟨_, rfl⟩
  rw [← hT] at hV hb hts HP
  obtain ⟨C, hC⟩ : ∃ C, C = strB k n 1 t := ⟨_, rfl⟩
  rw [← hC] at hV hb hcs HP
  have hcl : C.data.toList.length = t.size := by simpa using hcs
  have htl : T.data.toList.length = 16 := by simpa using hts
  rw [List.set_append_right _ _ (by omega), hcl] at hV
  have h := HP ⟨(T.data.toList.set (j - t.size) b).toArray⟩ (by rw [show (ByteArray.mk (T.data.toList.set (j - t.size) b).toArray).size = (T.data.toList.set (j - t.size) b).toArray.size from rfl]; simpa using hts) (by rw [hV])
  rw [h.1]
  refine decide_eq_false (set_ne T (j - t.size) b (by omega) ?_)
  rw [List.getD_eq_getElem?_getD, List.getElem?_append_right (by omega), hcl] at hb
  rw [List.getD_eq_getElem?_getD]
  exact hb
theorem intsOf_get (l : List UInt8) (j : Nat) : (intsOf l).getD j 0 = ((l.getD j 0).toNat : Int) := by
  unfold intsOf
  rw [List.getD_eq_getElem?_getD, List.getD_eq_getElem?_getD, List.getElem?_map]
  cases l[j]? <;> rfl
theorem size_by_list (V S : ByteArray) (h : V.data.toList.length = S.data.toList.length) : V.size = S.size := by simpa using h
theorem bit_byte (r : Nat) (h : r < 8) : ∃ b : UInt8, IntKind.u8.wrap (2 ^ r) = (b.toNat : Int) ∧ b ≠ 0 := by
  have hc : r = 0 ∨ r = 1 ∨ r = 2 ∨ r = 3 ∨ r = 4 ∨ r = 5 ∨ r = 6 ∨ r = 7 := by omega
  rcases hc with rfl | rfl | rfl | rfl | rfl | rfl | rfl | rfl
  · exact ⟨1, by decide, by decide⟩
  · exact ⟨2, by decide, by decide⟩
  · exact ⟨4, by decide, by decide⟩
  · exact ⟨8, by decide, by decide⟩
  · exact ⟨16, by decide, by decide⟩
  · exact ⟨32, by decide, by decide⟩
  · exact ⟨64, by decide, by decide⟩
  · exact ⟨128, by decide, by decide⟩
theorem xor_ne (a b : UInt8) (h : b ≠ 0) : a ^^^ b ≠ a := by
  intro e
  apply h
  have : a ^^^ (a ^^^ b) = a ^^^ a := by rw [e]
  rw [← UInt8.xor_assoc, UInt8.xor_self, UInt8.zero_xor] at this
  exact this

end Go.Proofs.YtlipgmaiooljkaaGreatDoor

/- W17e -/
namespace Go.Proofs.YtlipgmaiooljkaaGreatDoor
open Go.ChangeShapes Go.WideShapes Go.ChangeAt Go.RowKit
set_option linter.unusedVariables false
set_option linter.unusedSimpArgs false

theorem Box.keepG17 {w w' : World} {g rb : Nat} {cs : Array Value} {t : TypeId} (h : Box w g cs t) (hg : w.grownBy w' (some rb)) (hne : g ≠ rb) : Box w' g cs t := (hg.block g h.lt (fun e => hne (Option.some.inj e))).trans h

set_option maxRecDepth 100000 in
set_option maxHeartbeats 1600000 in
theorem phrase_any (base rb : Nat) (cv : Value) (zs : List Int) (w : World) (h : Rd w base rb cv zs) :
    Calls Tryz.prog 40 #[.pointer (some ⟨rb, 0, none⟩)] w fun e w' => ∃ t : ByteArray, e = .returned (.string t) ∧ t.size ≤ 9 ∧ Rd w' base rb cv zs ∧ w.grownBy w' (some rb) := by
  have hlt := h.lt
  go_enter Tryz.func40, Tryz.ntmps40
  go_wp2_with fail
  refine (below_any 4 base rb cv zs _ (h.alloc _) (by omega) (by omega)).mono ?_
  rintro e w2 ⟨y, rfl, hy0, hy1, hr2, hg2⟩
  have hblk := (hg2.block w.heap.size (by simp) (by simp; omega)).trans (heap_alloc_new w _)
  have c0 := cell_of_cells (i := 0) hblk rfl
  have c1 := cell_of_cells (i := 1) hblk rfl
  have c2 := cell_of_cells (i := 2) hblk rfl
  have c3 := cell_of_cells (i := 3) hblk rfl
  have hg3 := grown_trans (World.grownBy_alloc w _ (some rb)) hg2
  clear hblk hg2
  rcases (show y = 0 ∨ y = 1 ∨ y = 2 ∨ y = 3 by omega) with rfl | rfl | rfl | rfl
  all_goals
    go_wp2
    go_ret
    exact ⟨_, rfl, by decide, hr2, hg3⟩

set_option maxRecDepth 100000 in
set_option maxHeartbeats 1600000 in
theorem pass_any (base rb : Nat) (cv : Value) (zs : List Int) (w : World) (h : Rd w base rb cv zs) :
    Calls Tryz.prog 45 #[.pointer (some ⟨rb, 0, none⟩)] w fun e w' => ∃ t : ByteArray, e = .returned (.string t) ∧ t.size ≤ 100 ∧ Rd w' base rb cv zs ∧ w.grownBy w' (some rb) := by
  go_enter Tryz.func45, Tryz.ntmps45
  go_wp2_with fail
  refine (once_any 40 base rb cv zs _ h (by omega) (by omega)).mono ?_
  rintro e w1 ⟨b, rfl, hr1, hg1⟩
  cases b with
  | true =>
    go_wp2
    go_ret
    exact ⟨_, rfl, by decide, hr1, hg1⟩
  | false =>
    have hlt := hr1.lt
    go_wp2_with fail
    refine (below_any 2 base rb cv zs _ (hr1.alloc _) (by omega) (by omega)).mono ?_
    rintro e w2 ⟨y, rfl, hy0, hy1, hr2, hg2⟩
    have hblk := (hg2.block w1.heap.size (by simp) (by simp; omega)).trans (heap_alloc_new w1 _)
    have c0 := cell_of_cells (i := 0) hblk rfl
    have c1 := cell_of_cells (i := 1) hblk rfl
    have hg3 := grown_trans (grown_trans hg1 (World.grownBy_alloc w1 _ (some rb))) hg2
    clear hblk hg2 hg1
    rcases (show y = 0 ∨ y = 1 by omega) with rfl | rfl
    all_goals
      go_wp2
      go_ret
      exact ⟨_, rfl, by decide, hr2, hg3⟩

/-- What is drawn for a slot. -/
def SoD (pass sa : ByteArray) (ro : Int) (no key : ByteArray) : Prop := pass.size ≤ 9 ∧ sa.size ≤ 16 ∧ (Lit.int .i64 ro).wf = true ∧ no.size ≤ 12 ∧ key.size ≤ 100

set_option maxRecDepth 100000 in
set_option maxHeartbeats 1600000 in
theorem drawSlotOf_any (w : World) (cv : Value) (zs : List Int) (h : Cd w cv zs) :
    Calls Tryz.prog 18 #[cv] w fun e w' => ∃ (p sa : ByteArray) (ro : Int) (no k : ByteArray), e = .returned (.tuple #[.string p, .string sa, .int .i64 ro, .string no, .string k]) ∧ SoD p sa ro no k ∧ Below w.heap.size w w' := by
  obtain ⟨a, len, cap, hcv⟩ := h.form
  have HV := Lib.hid hcv
  clear hcv
  go_enter Tryz.func18, Tryz.ntmps18
  go_wp2_with fail
  refine (open_any cv a len cap HV.out _).mono ?_
  rintro e w1 ⟨rfl, rfl⟩
  go_wp2_with fail
  refine (phrase_any _ _ cv zs _ h.rd).mono ?_
  rintro e w2 ⟨p, rfl, hp, hr2, hg2⟩
  go_wp2_with fail
  refine (exact_any 16 _ _ cv zs _ hr2 (by omega)).mono ?_
  rintro e w3 ⟨sa, rfl, hsa, hr3, hg3⟩
  go_wp2_with fail
  refine (below_any 3 _ _ cv zs _ hr3 (by omega) (by omega)).mono ?_
  rintro e w4 ⟨y, rfl, hy0, hy1, hr4, hg4⟩
  go_wp2_with fail
  refine (once_any 20 _ _ cv zs _ hr4 (by omega) (by omega)).mono ?_
  rintro e w5 ⟨bb, rfl, hr5, hg5⟩
  have hg := grown_trans (grown_trans (grown_trans hg2 hg3) hg4) hg5
  clear hg2 hg3 hg4 hg5 hr2 hr3 hr4
  have hwf : (Lit.int .i64 (1 + y)).wf = true := by simp [Lit.wf, IntKind.min, IntKind.max, IntKind.signed, IntKind.bits]; omega
  have HW := Lib.hid hwf
  clear hwf
  cases bb with
  | false =>
    go_wp2_with fail
    refine (exact_any 12 _ _ cv zs _ hr5 (by omega)).mono ?_
    rintro e w6 ⟨no, rfl, hno, hr6, hg6⟩
    go_wp2_with fail
    refine (pass_any _ _ cv zs _ hr6).mono ?_
    rintro e w7 ⟨k, rfl, hk, hr7, hg7⟩
    have hb := below_open (grown_trans (grown_trans hg hg6) hg7)
    clear hg hg6 hg7 hr5 hr6 hr7
    go_wp2
    exact bodyPost_ret (v := .tuple #[.string p, .string sa, .int .i64 (1 + y), .string no, .string k]) (by simp [results, Tryz.results18, go_sem]) rfl ⟨p, sa, 1 + y, no, k, rfl, ⟨hp, hsa, HW.out, hno, hk⟩, hb⟩
  | true =>
    go_wp2_with fail
    refine (off_any 1 50 _ _ cv zs _ hr5 (by omega) (by omega) (by omega)).mono ?_
    rintro e w6 ⟨oo, rfl, hoo, hr6, hg6⟩
    go_wp2_with fail
    refine (exact_any 12 _ _ cv zs _ hr6 (by omega)).mono ?_
    rintro e w7 ⟨no, rfl, hno, hr7, hg7⟩
    go_wp2_with fail
    refine (pass_any _ _ cv zs _ hr7).mono ?_
    rintro e w8 ⟨k, rfl, hk, hr8, hg8⟩
    have hb := below_open (grown_trans (grown_trans (grown_trans hg hg6) hg7) hg8)
    clear hg hg6 hg7 hg8 hr5 hr6 hr7 hr8
    go_wp2
    exact bodyPost_ret (v := .tuple #[.string p, .string sa, .int .i64 oo, .string no, .string k]) (by simp [results, Tryz.results18, go_sem]) rfl ⟨p, sa, oo, no, k, rfl, ⟨hp, hsa, hoo, hno, hk⟩, hb⟩

/-- A slot that is drawn. -/
def SlDr (s : SlotD) : Prop := s.sa.size ≤ 16 ∧ s.no.size ≤ 12 ∧ s.bx.size ≤ 500 ∧ (Lit.int .i64 s.ro).wf = true
theorem SlDr.sz {s : SlotD} (h : SlDr s) : SlSz s := ⟨by have := h.1; omega, by have := h.2.1; omega, by have := h.2.2.1; omega, h.2.2.2⟩
theorem soV_dr {p sa : ByteArray} {ro : Int} {no k : ByteArray} (h : SoD p sa ro no k) : (soV p sa ro no k).sa.size ≤ 16 ∧ (soV p sa ro no k).no.size ≤ 12 ∧ (soV p sa ro no k).bx.size ≤ 400 ∧ (Lit.int .i64 (soV p sa ro no k).ro).wf = true := by
  obtain ⟨h1, h2, h3, h4, h5⟩ := h
  unfold soV
  split
  · refine ⟨h2, h4, ?_, h3⟩
    show (sealB _ _ _ _).size ≤ 400
    unfold sealB
    rw [ByteArray.size_append, strB_size]
    have := tagR_size (sealKey (srR p sa ro) no) (sealTx (bkT sa ro) (strB (srR p sa ro) no 1 k))
    have h6 : (sealT (srR p sa ro) no (bkT sa ro) (strB (srR p sa ro) no 1 k)).size ≤ 16 := tagR_size _ _
    omega
  · exact ⟨Nat.zero_le _, Nat.zero_le _, Nat.zero_le _, by decide⟩

set_option maxRecDepth 100000 in
set_option maxHeartbeats 2000000 in
theorem drawKeyIn_any (w : World) (cv : Value) (zs : List Int) (h : Cd w cv zs) :
    Calls Tryz.prog 19 #[cv] w fun e w' => ∃ (s : SlotD) (p : ByteArray), e = .returned (.tuple #[slV s, .string p]) ∧ SlDr s ∧ p.size ≤ 9 ∧ Below w.heap.size w w' := by
  obtain ⟨a, len, cap, hcv⟩ := h.form
  have HV := Lib.hid hcv
  clear hcv
  have hB0 : Below w.heap.size w (w.alloc (.cells sl0C 23)) := (Below.refl _ _).alloc (Nat.le_refl _) _
  have hx0 := Box.new w sl0C 23
  have hc0 : Cd (w.alloc (.cells sl0C 23)) cv zs := h.below hB0
  have hz0 : (w.alloc (.cells sl0C 23)).heap.size = w.heap.size + 1 := by simp
  go_enter Tryz.func19, Tryz.ntmps19
  go_wp2_with fail
  generalize w.alloc (.cells sl0C 23) = W0 at hB0 hx0 hc0 hz0 ⊢
  refine (open_any cv a len cap HV.out _).mono ?_
  rintro e w1 ⟨rfl, rfl⟩
  have hrd := hc0.rd
  have hc1 : Cd (W0.alloc (.cells #[cv, .int .i64 0] 87)) cv zs := hc0.below ((Below.refl _ _).alloc (Nat.le_refl _) _)
  replace hx0 := hx0.alloc (.cells #[cv, .int .i64 0] 87)
  have hB1 := hB0.alloc hB0.size (.cells #[cv, .int .i64 0] 87)
  generalize hrb : W0.heap.size = rb at hrd ⊢
  rw [hz0] at hrb
  generalize W0.alloc (.cells #[cv, .int .i64 0] 87) = W1 at hrd hc1 hx0 hB1 ⊢
  clear hc0 hz0 hB0
  go_wp2_with fail
  refine (drawSlotOf_any _ cv zs hc1).mono ?_
  rintro e w2 ⟨p, sa, ro, no, k, rfl, hso, hb2⟩
  replace hx0 := hx0.keep hb2 hx0.lt
  replace hrd := hrd.below hb2 hrd.lt
  replace hB1 := hB1.trans (hb2.mono hB1.size)
  have HSO := Lib.hid (fun w => specSlotOf_any p sa ro no k w (by have := hso.1; omega) (by have := hso.2.1; omega) (by have := hso.2.2.2.1; omega) (by have := hso.2.2.2.2; omega) hso.2.2.1)
  have HD := Lib.hid (soV_dr hso)
  have HP := Lib.hid hso.1
  generalize soV p sa ro no k = q at HSO HD
  generalize soO p sa ro no k = O at HSO
  obtain ⟨qa, qr, qn, qb⟩ := q
  clear hso hb2 hc1
  go_wp2_with fail
  refine (HSO.out _).mono ?_
  rintro e w3 ⟨rfl, hb3⟩
  replace hx0 := hx0.keep hb3 hx0.lt
  replace hrd := hrd.below hb3 hrd.lt
  replace hB1 := hB1.trans (hb3.mono hB1.size)
  have hp := Box.new w3 #[.string qa, .int .i64 qr, .string qn, .string qb] 23
  have hpl : w.heap.size < w3.heap.size := hx0.lt
  have hpr : rb < w3.heap.size := hrd.lt
  replace hx0 := hx0.alloc (.cells #[.string qa, .int .i64 qr, .string qn, .string qb] 23)
  replace hrd := hrd.alloc (.cells #[.string qa, .int .i64 qr, .string qn, .string qb] 23)
  replace hB1 := hB1.alloc hB1.size (.cells #[.string qa, .int .i64 qr, .string qn, .string qb] 23)
  clear hb3 HSO
  go_wp2_with fail
  generalize w3.alloc (.cells #[.string qa, .int .i64 qr, .string qn, .string qb] 23) = W3 at hx0 hrd hp hB1 ⊢
  generalize w3.heap.size = G at hp hpl hpr ⊢
  refine (once_any 3 _ _ cv zs _ hrd (by omega) (by omega)).mono ?_
  rintro e w4 ⟨bb, rfl, hrd, hg4⟩
  replace hx0 := hx0.keepG17 hg4 (by omega)
  replace hp := hp.keepG17 hg4 (by omega)
  replace hB1 := hB1.trans (below_of_grown hg4 (show w.heap.size ≤ rb by omega) hB1.size)
  clear hg4
  cases bb with
  | false =>
    have HD2 : Hid (SlDr ⟨qa, qr, qn, qb⟩) := Lib.hid ⟨HD.out.1, HD.out.2.1, by have := HD.out.2.2.1; show qb.size ≤ 500; omega, HD.out.2.2.2⟩
    have y0 := hp.cell 0 _ rfl
    have y1 := hp.cell 1 _ rfl
    have y2 := hp.cell 2 _ rfl
    have y3 := hp.cell 3 _ rfl
    have z0 := hx0.cell 0 _ rfl
    have z1 := hx0.cell 1 _ rfl
    have z2 := hx0.cell 2 _ rfl
    have z3 := hx0.cell 3 _ rfl
    have g0 := hx0.free 0
    have g1 := hx0.free 1
    have g2 := hx0.free 2
    have g3 := hx0.free 3
    go_wp2
    refine bodyPost_ret (results_sl2 rfl _ _ _ _ _ rfl rfl rfl (hx0.put4 rfl _ _ _ _)) rfl ?_
    exact ⟨⟨qa, qr, qn, qb⟩, p, rfl, HD2.out, HP.out, hB1.trans (below4 _ w.heap.size _ (Nat.le_refl _) _ _ _ _)⟩
  | true =>
    have y3 := hp.cell 3 _ rfl
    have hqb : qb.size ≤ 100000 := by have := HD.out.2.2.1; omega
    go_wp2_with fail
    refine (hurt_any qb _ _ cv zs _ hrd hqb).mono ?_
    rintro e w5 ⟨t, rfl, ht, hrd, hg5⟩
    replace hx0 := hx0.keepG17 hg5 (by omega)
    replace hp := hp.keepG17 hg5 (by omega)
    replace hB1 := hB1.trans (below_of_grown hg5 (show w.heap.size ≤ rb by omega) hB1.size)
    clear hg5 y3
    have HD2 : Hid (SlDr ⟨qa, qr, qn, t⟩) := Lib.hid ⟨HD.out.1, HD.out.2.1, by have := HD.out.2.2.1; show t.size ≤ 500; omega, HD.out.2.2.2⟩
    have y3 := hp.cell 3 _ rfl
    have f3 := hp.free 3
    have hps := hp.set 3 (.string t)
    change Box _ G #[.string qa, .int .i64 qr, .string qn, .string t] _ at hps
    have hbe : Below G w5 (w5.setCell ⟨G, 3, none⟩ (.string t)) := (Below.refl _ _).setCell (p := ⟨G, 3, none⟩) (Nat.le_refl _) _
    have hxs := hx0.keep hbe hpl
    have hBs := hB1.trans (hbe.mono (Nat.le_of_lt hpl))
    clear hp hx0 hB1 hrd
    have hp := hps
    have hx0 := hxs
    have hB1 := hBs
    clear hps hxs hbe hBs
    have y0 := hp.cell 0 _ rfl
    have y1 := hp.cell 1 _ rfl
    have y2 := hp.cell 2 _ rfl
    have y3 := hp.cell 3 _ rfl
    have z0 := hx0.cell 0 _ rfl
    have z1 := hx0.cell 1 _ rfl
    have z2 := hx0.cell 2 _ rfl
    have z3 := hx0.cell 3 _ rfl
    have g0 := hx0.free 0
    have g1 := hx0.free 1
    have g2 := hx0.free 2
    have g3 := hx0.free 3
    go_wp2
    refine bodyPost_ret (results_sl2 rfl _ _ _ _ _ rfl rfl rfl (hx0.put4 rfl _ _ _ _)) rfl ?_
    exact ⟨⟨qa, qr, qn, t⟩, p, rfl, HD2.out, HP.out, hB1.trans (below4 _ w.heap.size _ (Nat.le_refl _) _ _ _ _)⟩

set_option maxRecDepth 100000 in
set_option maxHeartbeats 2000000 in
theorem drawRewrapped_any (w : World) (cv : Value) (zs : List Int) (h : Cd w cv zs) :
    Calls Tryz.prog 26 #[cv] w fun e w' => ∃ (s : SlotD) (p q sa no : ByteArray), e = .returned (.tuple #[slV s, .string p, .string q, .string sa, .string no]) ∧ SlDr s ∧ p.size ≤ 9 ∧ q.size ≤ 9 ∧ sa.size ≤ 16 ∧ no.size ≤ 12 ∧ Below w.heap.size w w' := by
  obtain ⟨a, len, cap, hcv⟩ := h.form
  have HV := Lib.hid hcv
  clear hcv
  have hB0 : Below w.heap.size w (w.alloc (.cells sl0C 23)) := (Below.refl _ _).alloc (Nat.le_refl _) _
  have hx0 := Box.new w sl0C 23
  have hc0 : Cd (w.alloc (.cells sl0C 23)) cv zs := h.below hB0
  have hz0 : (w.alloc (.cells sl0C 23)).heap.size = w.heap.size + 1 := by simp
  go_enter Tryz.func26, Tryz.ntmps26
  go_wp2_with fail
  generalize w.alloc (.cells sl0C 23) = W0 at hB0 hx0 hc0 hz0 ⊢
  refine (open_any cv a len cap HV.out _).mono ?_
  rintro e w1 ⟨rfl, rfl⟩
  have hrd := hc0.rd
  have hc1 : Cd (W0.alloc (.cells #[cv, .int .i64 0] 87)) cv zs := hc0.below ((Below.refl _ _).alloc (Nat.le_refl _) _)
  replace hx0 := hx0.alloc (.cells #[cv, .int .i64 0] 87)
  have hB1 := hB0.alloc hB0.size (.cells #[cv, .int .i64 0] 87)
  generalize hrb : W0.heap.size = rb at hrd ⊢
  rw [hz0] at hrb
  generalize W0.alloc (.cells #[cv, .int .i64 0] 87) = W1 at hrd hc1 hx0 hB1 ⊢
  clear hc0 hz0 hB0
  go_wp2_with fail
  refine (drawKeyIn_any _ cv zs hc1).mono ?_
  rintro e w2 ⟨q, p, rfl, hq, hp9, hb2⟩
  replace hx0 := hx0.keep hb2 hx0.lt
  replace hrd := hrd.below hb2 hrd.lt
  replace hB1 := hB1.trans (hb2.mono hB1.size)
  have HD := Lib.hid hq
  obtain ⟨qa, qr, qn, qb⟩ := q
  clear hb2 hc1 hq
  have hp := Box.new w2 #[.string qa, .int .i64 qr, .string qn, .string qb] 23
  have hpl : w.heap.size < w2.heap.size := hx0.lt
  have hpr : rb < w2.heap.size := hrd.lt
  replace hx0 := hx0.alloc (.cells #[.string qa, .int .i64 qr, .string qn, .string qb] 23)
  replace hrd := hrd.alloc (.cells #[.string qa, .int .i64 qr, .string qn, .string qb] 23)
  replace hB1 := hB1.alloc hB1.size (.cells #[.string qa, .int .i64 qr, .string qn, .string qb] 23)
  go_wp2_with fail
  generalize w2.alloc (.cells #[.string qa, .int .i64 qr, .string qn, .string qb] 23) = W3 at hx0 hrd hp hB1 ⊢
  generalize w2.heap.size = G at hp hpl hpr ⊢
  refine (phrase_any _ _ cv zs _ hrd).mono ?_
  rintro e w4 ⟨ph, rfl, hph, hrd, hg4⟩
  replace hx0 := hx0.keepG17 hg4 (by omega)
  replace hp := hp.keepG17 hg4 (by omega)
  replace hB1 := hB1.trans (below_of_grown hg4 (show w.heap.size ≤ rb by omega) hB1.size)
  clear hg4
  go_wp2_with fail
  refine (exact_any 16 _ _ cv zs _ hrd (by omega)).mono ?_
  rintro e w5 ⟨sa, rfl, hsa, hrd, hg5⟩
  replace hx0 := hx0.keepG17 hg5 (by omega)
  replace hp := hp.keepG17 hg5 (by omega)
  replace hB1 := hB1.trans (below_of_grown hg5 (show w.heap.size ≤ rb by omega) hB1.size)
  clear hg5
  go_wp2
  refine wp_region_T (fun w' => Box w' G #[.string qa, .int .i64 qr, .string qn, .string qb] 23) (fun _ => True) 10 (by kernel_rfl) 11 rfl ?_
  refine wpAnyT_takesA (md := .any) 6 (by kernel_rfl) (by intro d v c a w h; cases d <;> exact h) [0, 1, 2, 3, 4] _ _ _ (by decide) (by kernel_rfl) ⟨hp, fun _ => trivial⟩ ?_
  simp only [pick, List.filterMap_cons, List.filterMap_nil, List.getElem?_cons_zero, List.getElem?_cons_succ]
  refine wpIf_step (.agg #[.string qa, .int .i64 qr, .string qn, .string qb]) (by kernel_rfl) (fun w hw => by have k0 := hw.cell 0 _ rfl; have k1 := hw.cell 1 _ rfl; have k2 := hw.cell 2 _ rfl; have k3 := hw.cell 3 _ rfl; go_simp) ?_
  refine wpIf_step (.string p) (by kernel_rfl) (fun w hw => by go_simp) ?_
  refine wpIf_step (.string ph) (by kernel_rfl) (fun w hw => by go_simp) ?_
  refine wpIf_step (.string sa) (by kernel_rfl) (fun w hw => by go_simp) ?_
  refine wpIf_step (.pointer (some ⟨rb, 0, none⟩)) (by kernel_rfl) (fun w hw => by go_simp) ?_
  refine wpIf_nil (fun hS => ?_)
  clear hS
  refine wpAnyT_one 5 5 (by kernel_rfl) rfl (by kernel_rfl) (fun K hK => ?_)
  go_simp
  refine (exact_any 12 _ _ cv zs _ (hrd.drewN 1) (by omega)).mono ?_
  rintro e w6 ⟨no, rfl, hno, hrd, hg6⟩
  replace hB1 := (below_drewN hB1 1).trans (below_of_grown hg6 (show w.heap.size ≤ rb by omega) hB1.size)
  replace hp := hp.keepG17 (grown_trans (grown_drewN (World.grownBy.refl w5 (some rb)) 1) hg6) (by omega)
  replace hx0 := hx0.keepG17 (grown_trans (grown_drewN (World.grownBy.refl w5 (some rb)) 1) hg6) (by omega)
  clear hg6
  refine hK _ _ ⟨hp, fun _ => trivial⟩ (fun hS => ?_)
  clear hK K hS
  have k0 := hx0.cell 0 _ rfl
  have k1 := hx0.cell 1 _ rfl
  have k2 := hx0.cell 2 _ rfl
  have k3 := hx0.cell 3 _ rfl
  have l0 := hx0.free 0
  have l1 := hx0.free 1
  have l2 := hx0.free 2
  have l3 := hx0.free 3
  refine wpAnyT_one 6 4 (by kernel_rfl) rfl (by kernel_rfl) (fun K hK => ?_)
  go_simp
  have hX := hx0.put4 rfl (.string qa) (.int .i64 qr) (.string qn) (.string qb)
  have hBx := hB1.trans (below4 w6 w.heap.size w.heap.size (Nat.le_refl _) (.string qa) (.int .i64 qr) (.string qn) (.string qb))
  have hp1 := ((((hp.other ⟨w.heap.size, 0, none⟩ (.string qa) (by show G ≠ w.heap.size; omega)).other ⟨w.heap.size, 1, none⟩ (.int .i64 qr) (by show G ≠ w.heap.size; omega)).other ⟨w.heap.size, 2, none⟩ (.string qn) (by show G ≠ w.heap.size; omega)).other ⟨w.heap.size, 3, none⟩ (.string qb) (by show G ≠ w.heap.size; omega))
  clear hx0 hp hB1 hrd k0 k1 k2 k3 l0 l1 l2 l3
  generalize ((((w6.setCell ⟨w.heap.size, 0, none⟩ (.string qa)).setCell ⟨w.heap.size, 1, none⟩ (.int .i64 qr)).setCell ⟨w.heap.size, 2, none⟩ (.string qn)).setCell ⟨w.heap.size, 3, none⟩ (.string qb)) = W7 at hX hBx hp1 ⊢
  refine hK _ _ ⟨hp1, fun _ => trivial⟩ (fun hS => ?_)
  clear hK K hS
  refine wpAnyT_one 7 3 (by kernel_rfl) rfl (by kernel_rfl) (fun K hK => ?_)
  go_simp
  refine hK _ _ ⟨hp1, fun _ => trivial⟩ (fun hS => ?_)
  clear hK K hS
  refine wpAnyT_one 8 2 (by kernel_rfl) rfl (by kernel_rfl) (fun K hK => ?_)
  go_simp
  refine hK _ _ ⟨hp1, fun _ => trivial⟩ (fun hS => ?_)
  clear hK K hS
  refine wpAnyT_one 9 1 (by kernel_rfl) rfl (by kernel_rfl) (fun K hK => ?_)
  go_simp
  refine hK _ _ ⟨hp1, fun _ => trivial⟩ (fun hS => ?_)
  clear hK K hS
  refine wpAnyT_one 10 0 (by kernel_rfl) rfl (by kernel_rfl) (fun K hK => ?_)
  go_simp
  refine hK _ _ ⟨hp1, fun _ => trivial⟩ (fun hS => ?_)
  clear hK K hS
  refine wpAnyT_over (by kernel_rfl) ?_
  go_wp2
  have c0 := hX.cell 0 _ rfl
  have c1 := hX.cell 1 _ rfl
  have c2 := hX.cell 2 _ rfl
  have c3 := hX.cell 3 _ rfl
  exact bodyPost_ret (v := .tuple #[slV ⟨qa, qr, qn, qb⟩, .string p, .string ph, .string sa, .string no]) (by simp [results, Tryz.results26, go_sem, c0, c1, c2, c3]) rfl ⟨⟨qa, qr, qn, qb⟩, p, ph, sa, no, rfl, HD.out, hp9, hph, hsa, hno, hBx⟩
end Go.Proofs.YtlipgmaiooljkaaGreatDoor

/- V17b -/
namespace Go.Proofs.YtlipgmaiooljkaaGreatDoor
open Go.ChangeShapes Go.WideShapes Go.ChangeAt Go.RowKit
set_option linter.unusedVariables false
set_option linter.unusedSimpArgs false

/-- What is sealed in a slot is opened with the same word. -/
theorem so_back {pass sa no key : ByteArray} {ro : Int} (h : soO pass sa ro no key = true) : kiO (soD pass sa ro no key) pass = true ∧ kiT (soD pass sa ro no key) pass = key ∧ (soD pass sa ro no key).bx.size = 48 ∧ sa.size = 16 ∧ no.size = 12 := by
  unfold soO spB at h
  simp only [Bool.and_eq_true, decide_eq_true_eq] at h
  obtain ⟨⟨h1, h2, h3, h4, h5⟩, h6⟩ := h
  obtain ⟨o1, o2, o3, _⟩ := seal_opens (srR pass sa ro) no (bkT sa ro) key (srR_size (by omega) (by omega) h3 h4) h5 (by rw [bkT_size]; omega) (by omega)
  have hb : (sealB (srR pass sa ro) no (bkT sa ro) key).size = 48 := by rw [o3, h6]
  have hk : kiI (soD pass sa ro no key) pass = true := by
    unfold kiI skB spB soD
    simp only [Bool.and_eq_true, decide_eq_true_eq]
    exact ⟨⟨⟨h2, h3, h4, h5⟩, hb⟩, h1⟩
  refine ⟨?_, ?_, hb, h2, h5⟩
  · unfold kiO
    rw [hk]
    exact o1
  · unfold kiT
    rw [if_pos hk]
    exact o2

set_option maxRecDepth 100000 in
set_option maxHeartbeats 3000000 in
theorem walk_FnRewrapped (a : Option Addr) (len cap : Nat) (z : List Int) (w : World) (h : IsRow .u8 w a len cap z) (hT : FTab w ∧ KTab w ∧ ∃ t x, Gives w t x) :
    Calls Tryz.prog 7 #[.slice a len cap] w fun e w' => e = .returned (.bool true) ∧ Below w.heap.size w w' := by
  obtain ⟨hf, hk, gt, gx, hg⟩ := hT
  have HF := Lib.hid hf
  have HK := Lib.hid hk
  have HG := Lib.hid hg
  clear hf hk hg
  have hcd := Cd.of_row h
  obtain ⟨cv, hcv⟩ : ∃ cv : Value, cv = .slice a len cap := ⟨_, rfl⟩
  rw [← hcv] at hcd ⊢
  clear h hcv
  go_enter Tryz.func7, Tryz.ntmps7
  go_wp2_with fail
  refine (big_any _ cv _ hcd).mono ?_
  rintro e w1 ⟨⟨b, rfl⟩, rfl⟩
  cases b with
  | true =>
    go_wp2
    go_ret
    exact ⟨rfl, Below.refl _ _⟩
  | false =>
    go_wp2_with fail
    refine (drawRewrapped_any _ cv _ hcd).mono ?_
    rintro e v1 ⟨s, p, pw, sa', no', rfl, hs, hp, hpw, hsa, hno, hB⟩
    clear hcd
    have HSz := Lib.hid hs.sz
    have HRI := Lib.hid (fun w h1 h2 h3 => implRewrapped_any s p pw sa' no' w gt gx hs.sz (by omega) (by omega) (by omega) (by omega) h1 h2 h3)
    have HRS := Lib.hid (fun w => specRewrapped_any s p pw sa' no' w hs.sz (by omega) (by omega) (by omega) (by omega))
    have HKI := Lib.hid (fun w h1 h2 h3 => implKeyIn_any s p w gt gx hs.sz (by omega) h1 h2 h3)
    have HKN := Lib.hid (fun (q : SlotD) (hq : SlSz q) w h1 h2 h3 => implKeyIn_any q pw w gt gx hq (by omega) h1 h2 h3)
    have HRO : Hid (rwO s p pw sa' no' = (kiO s p && soO pw sa' s.ro no' (kiT s p))) := Lib.hid rfl
    have HRV : Hid (rwV s p pw sa' no' = if kiO s p = true then soV pw sa' s.ro no' (kiT s p) else sl0) := Lib.hid rfl
    have HSV := Lib.hid (fun h => soV_true (pass := pw) (sa := sa') (ro := s.ro) (no := no') (key := kiT s p) h)
    have HBK := Lib.hid (fun h => so_back (pass := pw) (sa := sa') (ro := s.ro) (no := no') (key := kiT s p) h)
    have HSD : Hid (∃ bx, soD pw sa' s.ro no' (kiT s p) = ⟨sa', s.ro, no', bx⟩) := Lib.hid ⟨_, rfl⟩
    have HWF := Lib.hid hs.2.2.2
    generalize rwV s p pw sa' no' = V at HRI HRS HRV
    generalize rwO s p pw sa' no' = O at HRI HRS HRO
    generalize soV pw sa' s.ro no' (kiT s p) = SV at HRV HSV
    generalize soO pw sa' s.ro no' (kiT s p) = SO at HRO HSV HBK
    generalize soD pw sa' s.ro no' (kiT s p) = SD at HSV HBK HSD
    generalize kiT s p = T at HKI HBK
    generalize kiO s p = KO at HKI HRO HRV
    obtain ⟨sa, ro, no, bx⟩ := s
    obtain ⟨qa, qr, qn, qb⟩ := V
    have hx := Box.new v1 #[.string sa, .int .i64 ro, .string no, .string bx] 23
    have hG : w.heap.size ≤ v1.heap.size := hB.size
    replace hB := hB.alloc hB.size (.cells #[.string sa, .int .i64 ro, .string no, .string bx] 23)
    clear hs
    have x0 := hx.cell 0 _ rfl
    have x1 := hx.cell 1 _ rfl
    have x2 := hx.cell 2 _ rfl
    have x3 := hx.cell 3 _ rfl
    go_wp2_with fail
    generalize v1.alloc (.cells #[.string sa, .int .i64 ro, .string no, .string bx] 23) = W1 at hx hB x0 x1 x2 x3 ⊢
    generalize v1.heap.size = G at hx hG x0 x1 x2 x3 ⊢
    refine (HRI.out _ (HF.out.below hB (Nat.le_refl _)) (HK.out.below hB (Nat.le_refl _)) (HG.out.below hB (Nat.le_refl _))).mono ?_
    rintro e w2 ⟨rfl, hb2⟩
    replace hx := hx.keep hb2 hx.lt
    replace hB := hB.trans (hb2.mono hB.size)
    have hGJ : G < w2.heap.size := hx.lt
    have hn := Box.new w2 #[.string qa, .int .i64 qr, .string qn, .string qb] 23
    replace hx := hx.alloc (.cells #[.string qa, .int .i64 qr, .string qn, .string qb] 23)
    replace hB := hB.alloc hB.size (.cells #[.string qa, .int .i64 qr, .string qn, .string qb] 23)
    clear hb2 x0 x1 x2 x3
    have x0 := hx.cell 0 _ rfl
    have x1 := hx.cell 1 _ rfl
    have x2 := hx.cell 2 _ rfl
    have x3 := hx.cell 3 _ rfl
    go_wp2_with fail
    generalize w2.alloc (.cells #[.string qa, .int .i64 qr, .string qn, .string qb] 23) = W2 at hx hB hn x0 x1 x2 x3 ⊢
    generalize w2.heap.size = J at hn hGJ ⊢
    refine (HRS.out _).mono ?_
    rintro e w3 ⟨rfl, hb3⟩
    replace hx := hx.keep hb3 hx.lt
    replace hn := hn.keep hb3 hn.lt
    replace hB := hB.trans (hb3.mono hB.size)
    replace hx := hx.alloc (.cells #[.string qa, .int .i64 qr, .string qn, .string qb] 23)
    replace hn := hn.alloc (.cells #[.string qa, .int .i64 qr, .string qn, .string qb] 23)
    have hm := Box.new w3 #[.string qa, .int .i64 qr, .string qn, .string qb] 23
    replace hB := hB.alloc hB.size (.cells #[.string qa, .int .i64 qr, .string qn, .string qb] 23)
    clear hb3 x0 x1 x2 x3
    have hOO : (O != O) = false := by cases O <;> rfl
    have x0 := hx.cell 0 _ rfl
    have x1 := hx.cell 1 _ rfl
    have x2 := hx.cell 2 _ rfl
    have x3 := hx.cell 3 _ rfl
    have y0 := hn.cell 0 _ rfl
    have y1 := hn.cell 1 _ rfl
    have y2 := hn.cell 2 _ rfl
    have y3 := hn.cell 3 _ rfl
    cases O with
    | false =>
      go_wp2
      go_ret
      exact ⟨rfl, hB⟩
    | true =>
      have hko : KO = true ∧ SO = true := by simpa using HRO.out.symm
      obtain ⟨rfl, rfl⟩ := hko
      have hv1 := HRV.out
      rw [if_pos rfl, HSV.out rfl] at hv1
      obtain ⟨bk1, bk2, bk3, bk4, bk5⟩ := HBK.out rfl
      obtain ⟨bx', hsd⟩ := HSD.out
      rw [hsd] at hv1 bk1 bk2 bk3
      injection hv1 with e1 e2 e3 e4
      subst e1 e2 e3 e4
      have hSn : SlSz ⟨qa, qr, qn, qb⟩ := ⟨by show qa.size ≤ 1048576; omega, by show qn.size ≤ 1048576; omega, by have := bk3; show qb.size ≤ 1048576; simp only at this; omega, HWF.out⟩
      have HKN2 := Lib.hid (fun w h1 h2 h3 => HKN.out ⟨qa, qr, qn, qb⟩ hSn w h1 h2 h3)
      rw [bk1, bk2] at HKN2
      clear HRO HRV HSV HBK HSD hsd bk1 bk2 bk3 bk4 bk5 HKN hSn HRI HRS HWF HSz
      go_wp2_with fail
      clear x0 x1 x2 x3 y0 y1 y2 y3
      generalize w3.alloc (.cells #[.string qa, .int .i64 qr, .string qn, .string qb] 23) = W3 at hx hn hm hB ⊢
      generalize w3.heap.size = M at hm ⊢
      refine (HKI.out _ (HF.out.below hB (Nat.le_refl _)) (HK.out.below hB (Nat.le_refl _)) (HG.out.below hB (Nat.le_refl _))).mono ?_
      rintro e w4 ⟨rfl, hb4⟩
      replace hx := hx.keep hb4 hx.lt
      replace hn := hn.keep hb4 hn.lt
      replace hB := hB.trans (hb4.mono hB.size)
      clear hb4 hm
      have x0 := hx.cell 0 _ rfl
      have x1 := hx.cell 1 _ rfl
      have x2 := hx.cell 2 _ rfl
      have x3 := hx.cell 3 _ rfl
      have y0 := hn.cell 0 _ rfl
      have y1 := hn.cell 1 _ rfl
      have y2 := hn.cell 2 _ rfl
      have y3 := hn.cell 3 _ rfl
      go_wp2_with fail
      clear x0 x1 x2 x3 y0 y1 y2 y3
      refine (HKN2.out _ (HF.out.below hB (Nat.le_refl _)) (HK.out.below hB (Nat.le_refl _)) (HG.out.below hB (Nat.le_refl _))).mono ?_
      rintro e w5 ⟨rfl, hb5⟩
      replace hx := hx.keep hb5 hx.lt
      replace hn := hn.keep hb5 hn.lt
      replace hB := hB.trans (hb5.mono hB.size)
      clear hb5
      have x0 := hx.cell 0 _ rfl
      have x1 := hx.cell 1 _ rfl
      have x2 := hx.cell 2 _ rfl
      have x3 := hx.cell 3 _ rfl
      have y0 := hn.cell 0 _ rfl
      have y1 := hn.cell 1 _ rfl
      have y2 := hn.cell 2 _ rfl
      have y3 := hn.cell 3 _ rfl
      go_wp2
      go_ret
      exact ⟨rfl, hB⟩
end Go.Proofs.YtlipgmaiooljkaaGreatDoor

/- Parts of the proof. -/
import Derived.Lib.AppendStr
import Derived.Laws.DeepStrings4
import Derived.IntWalk
import Derived.Test.YtffkakpbelknaaaGreatDoorO2
import Derived.Test.YtffkakpbelknaaaGreatDoorO10
namespace Go.Proofs.YtffkakpbelknaaaGreatDoor
set_option maxHeartbeats 4000000
set_option maxRecDepth 100000
open Go.ChangeShapes Go.WideShapes Go.ChangeAt Go.RowKit Go.Shelf
set_option linter.unusedVariables false
def escM (c : UInt8) : List UInt8 := if c = 38 then [38, 97, 109, 112, 59] else if c = 60 then [38, 108, 116, 59] else if c = 62 then [38, 103, 116, 59] else if c = 34 then [38, 113, 117, 111, 116, 59] else []
def esc (c : UInt8) : List UInt8 := if escM c = [] then [c] else escM c
def escL (l : List UInt8) : List UInt8 := l.flatMap esc
theorem escL_snoc (l : List UInt8) (c : UInt8) : escL (l ++ [c]) = escL l ++ esc c := by simp [escL]
theorem esc_len (c : UInt8) : (esc c).length <= 6 := by
 unfold esc
 split
 ·simp
 ·unfold escM
  split <;> (try split) <;> (try split) <;> (try split) <;> simp
theorem escL_len : ∀ l : List UInt8, (escL l).length <= 6 * l.length
 | [] => by simp [escL]
 | c :: l => by
  have h := escL_len l
  have := esc_len c
  unfold escL at h ⊢
  rw [List.flatMap_cons, List.length_append, List.length_cons]
  omega
def escB (s : ByteArray) : ByteArray := ⟨(escL s.data.toList).toArray⟩
def escR (s : ByteArray) : ByteArray := if s.size <= 200 then escB s else ⟨#[]⟩
def escS (c : UInt8) : ByteArray := ⟨(escM c).toArray⟩
def ETab (w : World) : Prop := ∃ t, w.heap[1]? = some (.cells #[.string ⟨#[38, 97, 109, 112, 59]⟩, .string ⟨#[38, 108, 116, 59]⟩, .string ⟨#[38, 103, 116, 59]⟩, .string ⟨#[38, 113, 117, 111, 116, 59]⟩] t (0, 0))
theorem ETab.below {w w' : World} {B : Nat} (h : ETab w) (hb : Below B w w') (hB : w.heap.size <= B) : ETab w' := by
 obtain ⟨t, h⟩ := h
 exact ⟨t, (hb.block _ (by have := (Array.getElem?_eq_some_iff.1 h).1; omega)).trans h⟩
theorem mark_at (c : UInt8) (w : World) (hE : ETab w) (h : escM c ≠ []) : ∃ (j : Nat) (E : ByteArray), j < 4 /\ Lib.indexByte [38, 60, 62, 34] c = (j : Int) /\ w.cell? ⟨1, j, none⟩ = some (.string E) /\ E.data.toList = esc c /\ E.size <= 6 := by
 obtain ⟨t, hE⟩ := hE
 have he : esc c = escM c := if_neg h
 rw [he]
 unfold escM at h ⊢
 by_cases h1 : c = 38
 ·subst h1
  exact ⟨0, ⟨#[38, 97, 109, 112, 59]⟩, by omega, rfl, by simp [World.cell?, hE], rfl, by decide⟩
 rw [if_neg h1] at h ⊢
 by_cases h2 : c = 60
 ·subst h2
  exact ⟨1, ⟨#[38, 108, 116, 59]⟩, by omega, by decide, by simp [World.cell?, hE], rfl, by decide⟩
 rw [if_neg h2] at h ⊢
 by_cases h3 : c = 62
 ·subst h3
  exact ⟨2, ⟨#[38, 103, 116, 59]⟩, by omega, by decide, by simp [World.cell?, hE], rfl, by decide⟩
 rw [if_neg h3] at h ⊢
 by_cases h4 : c = 34
 ·subst h4
  exact ⟨3, ⟨#[38, 113, 117, 111, 116, 59]⟩, by omega, by decide, by simp [World.cell?, hE], rfl, by decide⟩
 ·rw [if_neg h4] at h
  exact absurd rfl h
theorem mark_no (c : UInt8) (h : escM c = []) : Lib.indexByte [38, 60, 62, 34] c = -1 := by
 unfold escM at h
 by_cases h1 : c = 38
 ·rw [if_pos h1] at h; cases h
 rw [if_neg h1] at h
 by_cases h2 : c = 60
 ·rw [if_pos h2] at h; cases h
 rw [if_neg h2] at h
 by_cases h3 : c = 62
 ·rw [if_pos h3] at h; cases h
 rw [if_neg h3] at h
 by_cases h4 : c = 34
 ·rw [if_pos h4] at h; cases h
 have e1 : (38 == c) = false := by simpa using fun h => h1 h.symm
 have e2 : (60 == c) = false := by simpa using fun h => h2 h.symm
 have e3 : (62 == c) = false := by simpa using fun h => h3 h.symm
 have e4 : (34 == c) = false := by simpa using fun h => h4 h.symm
 simp only [Lib.indexByte, e1, e2, e3, e4]
 rfl
theorem index_any (c : UInt8) (w : World) : Calls Tryz.prog 81 #[.string ⟨#[38, 60, 62, 34]⟩, .int .u8 (c.toNat : Int)] w fun e w' => e = .returned (.int .i64 (Lib.indexByte [38, 60, 62, 34] c)) /\ w = w' := by
 have h := Tryz.strings_IndexByte ⟨#[38, 60, 62, 34]⟩ (c.toNat : Int) w
 rw [show ((c.toNat : Int).toNat.toUInt8) = c by simp] at h
 exact h.mono (fun e w' h => ⟨h.1, h.2.symm⟩)
theorem wpList_appS8 {w : World} {ops : Array Oper} {rest : List Oper} {o : Oper} {a : Act} {Q : Exit -> Act -> World -> Prop} (hgd : o.guard = none) (s x : Operand)
  (ho : o.op = .call { callee := .builtin .append, args := #[s, x], argTypes := #[22, 9] })
  (base : Nat) (v : Value) (l : List UInt8) (hs : a.eval s = v) (hown : OwnB w base v l) (t : ByteArray) (hx : a.eval x = .string t)
  (hl : l.length + t.size <= 1000000000) (hbase : base <= w.heap.size)
  (h : ∀ v' w', OwnB w' base v' (l ++ t.data.toList) -> Below base w w' -> wpList Tryz.prog ops Q rest (a.put o.dst v') w') :
  wpList Tryz.prog ops Q (o :: rest) a w := by
 obtain ⟨i0, hi, hz0, hz1, hz2⟩ := info_parts Tryz.infoU8
 refine Lib.wpList_append_own_string w hgd s x 22 9 ho base 5 i0 Tryz.underlying22 Tryz.underlying9 hi hz0 hz1 hz2 v l.length (l.map bc) hs hown t hx (by unfold maxLen; omega) (by omega) hbase ?_
 intro v' w1 hown1 hgrow _
 refine h _ _ ?_ ((Below.refl _ _).grown hgrow hbase (ownBlock_base hown))
 have e : (l ++ t.data.toList).length = l.length + t.size := by simp
 unfold OwnB
 rw [e, List.map_append]
 exact hown1
theorem implEscaped_any (s : ByteArray) (w : World) (hE : ETab w) :
  Calls Tryz.prog 33 #[.string s] w fun e w' => e = .returned (.string (escR s)) /\ Below w.heap.size w w' := by
 by_cases h : s.size <= 200
 ·have HE : Hid (escR s = ⟨(escL s.data.toList).toArray⟩) := Lib.hid (by unfold escR; rw [if_pos h]; rfl)
  have hl : s.data.toList.length = s.size := by simp
  have HG : Hid (∀ k (h : k < s.size) (h' : k < s.data.toList.length), s[k] = s.data.toList[k]) := Lib.hid (fun k h h' => by simp; rfl)
  have HL := Lib.hid hl
  have HN := Lib.hid (escL_len)
  have HT := Lib.hid hE
  generalize escR s = out at HE ⊢
  have hd : ¬ (200 < (s.size : Int)) := by omega
  clear hl hE
  go_enter Tryz.func33, Tryz.ntmps33
  go_wp2_with (at_make; refine wpList_makeB rfl _ _ rfl w.heap.size .i64 .i64 (s.size : Int) rfl rfl (by omega) (by omega) (Nat.le_refl _) ?_; intro v0 w0 hown0 hb0)
  go_loopw [3, 14] (fun v i wr => ∃ k : Nat, k <= s.size /\ i = .int .i64 (k : Int) /\ OwnB wr w.heap.size v (escL (s.data.toList.take k)) /\ Below w.heap.size w wr) (fun _ i _ => s.size - (intOf i).toNat)
  case atStart => exact ⟨0, Nat.zero_le _, rfl, hown0, hb0⟩
  case round =>
   obtain ⟨k, hk, rfl, hown, hB⟩ := hrel
   clear hown0 hb0
   by_cases hlt : k < s.size
   ·have hkl : k < s.data.toList.length := by rw [HL.out]; exact hlt
    have HSN : Hid (escL (s.data.toList.take (k + 1)) = escL (s.data.toList.take k) ++ esc s[k]) := Lib.hid (by rw [List.take_succ_eq_append_getElem hkl, escL_snoc, HG.out k hlt hkl])
    have hlen := HN.out (s.data.toList.take k)
    have hlen2 : (s.data.toList.take k).length <= 200 := by rw [List.length_take]; omega
    have HI := Lib.hid (fun w => index_any s[k] w)
    have hsz := hB.size
    by_cases hm : escM s[k] = []
    ·have he : esc s[k] = [s[k]] := if_pos hm
     rw [mark_no _ hm] at HI
     rw [he] at HSN
     clear hm he
     go_wp2_with fail
     refine (HI.out _).mono ?_
     rintro e w1 ⟨rfl, rfl⟩
     go_wp2_with (at_builtin; refine wpList_appB rfl (.tmp 28) (.tmp 32) rfl w.heap.size _ _ rfl (hown.alloc _) wr.heap.size 1 _ _ [s[k]] rfl (heap_alloc_new wr _) rfl rfl (by decide) (by omega) (by simp; omega) ?_; intro v1 w1 hown1 hb1)
     rw [<- HSN.out] at hown1
     have hb2 := (hB.alloc hsz _).trans hb1
     clear hb1 hown
     go_wp2
     go_roundw
     case rel => exact ⟨k + 1, by omega, by go_num, hown1, hb2⟩
     case measure => simp [intOf]; omega
    ·obtain ⟨j, E, hj, hix, hc, hEl, hEs⟩ := mark_at s[k] wr (HT.out.below hB (Nat.le_refl _)) hm
     rw [hix] at HI
     rw [<- hEl] at HSN
     clear hm hix hEl
     go_wp2_with fail
     refine (HI.out _).mono ?_
     rintro e w1 ⟨rfl, rfl⟩
     go_wp2_with (at_builtin; refine wpList_appS8 rfl (.tmp 23) (.tmp 26) rfl w.heap.size _ _ rfl hown E rfl (by omega) hsz ?_; intro v1 w1 hown1 hb1)
     rw [<- HSN.out] at hown1
     have hb2 := hB.trans hb1
     clear hb1 hown
     go_wp2
     go_roundw
     case rel => exact ⟨k + 1, by omega, by go_num, hown1, hb2⟩
     case measure => simp [intOf]; omega
   ·have hc := conv_ownB hown
    have hke : k = s.size := by omega
    have HO : Hid ((⟨(escL (s.data.toList.take k)).toArray⟩ : ByteArray) = out) := Lib.hid (by rw [HE.out, List.take_of_length_le (by rw [HL.out]; omega)])
    rw [HO.out] at hc
    clear hke hown
    go_wp2
    go_ret
    exact ⟨rfl, hB⟩
 ·have HE : Hid (escR s = ⟨#[]⟩) := Lib.hid (by unfold escR; rw [if_neg h])
  rw [HE.out]
  have hd : 200 < (s.size : Int) := by omega
  clear hE h
  go_enter Tryz.func33, Tryz.ntmps33
  go_wp2
  go_ret
  exact ⟨rfl, Below.refl _ _⟩
end Go.Proofs.YtffkakpbelknaaaGreatDoor
namespace Go.Proofs.YtffkakpbelknaaaGreatDoor
open Go.ChangeShapes Go.WideShapes Go.ChangeAt Go.RowKit Go.Shelf
set_option linter.unusedVariables false
theorem byte_ne {c d : UInt8} (h : ¬ c = d) : ((c.toNat : Int) == (d.toNat : Int)) = false := by
 have : c.toNat ≠ d.toNat := fun e => h (UInt8.toNat_inj.1 e)
 have h2 : ¬ (c.toNat : Int) = (d.toNat : Int) := by omega
 simpa using h2
theorem l8Escape_any (c : UInt8) (w : World) : Calls Tryz.prog 94 #[.int .u8 (c.toNat : Int)] w fun e w' => e = .returned (.string (escS c)) /\ w = w' := by
 by_cases h1 : c = 38
 ·subst h1
  go_enter Tryz.func94, Tryz.ntmps94
  go_wp2
  go_ret
  exact ⟨rfl, rfl⟩
 by_cases h2 : c = 60
 ·subst h2
  go_enter Tryz.func94, Tryz.ntmps94
  go_wp2
  go_ret
  exact ⟨rfl, rfl⟩
 by_cases h3 : c = 62
 ·subst h3
  go_enter Tryz.func94, Tryz.ntmps94
  go_wp2
  go_ret
  exact ⟨rfl, rfl⟩
 by_cases h4 : c = 34
 ·subst h4
  go_enter Tryz.func94, Tryz.ntmps94
  go_wp2
  go_ret
  exact ⟨rfl, rfl⟩
 have HE : Hid (escS c = ⟨#[]⟩) := Lib.hid (by unfold escS escM; rw [if_neg h1, if_neg h2, if_neg h3, if_neg h4])
 rw [HE.out]
 have e1 : ((c.toNat : Int) == 38) = false := byte_ne (d := 38) h1
 have e2 : ((c.toNat : Int) == 60) = false := byte_ne (d := 60) h2
 have e3 : ((c.toNat : Int) == 62) = false := byte_ne (d := 62) h3
 have e4 : ((c.toNat : Int) == 34) = false := byte_ne (d := 34) h4
 clear h1 h2 h3 h4 HE
 go_enter Tryz.func94, Tryz.ntmps94
 go_wp2
 go_ret
 exact ⟨rfl, rfl⟩
theorem one_byte (s : ByteArray) (k : Nat) (h : k < s.size) : (s.extract k (k + 1)).data.toList = [s[k]] := by
 rw [ByteArray.data_extract, Array.toList_extract]
 have hk : k < s.data.toList.length := by simpa using h
 simp only [List.extract, Nat.add_sub_cancel_left]
 rw [List.drop_eq_getElem_cons hk, List.take_succ_cons, List.take_zero]
 simp; rfl
theorem app8 (a b : ByteArray) : (a ++ b).data.toList = a.data.toList ++ b.data.toList := by rw [ByteArray.data_append, Array.toList_append]
theorem escS_empty (c : UInt8) : (escS c).toList.isEmpty = (escM c).isEmpty := by
 unfold escS
 rw [ByteArray.toList_eq]
theorem l8Escaped_any (s : ByteArray) (w : World) (hs : s.size <= 1000) :
  Calls Tryz.prog 86 #[.string s] w fun e w' => e = .returned (.string (escB s)) /\ Below w.heap.size w w' := by
 have HE : Hid (escB s = ⟨(escL s.data.toList).toArray⟩) := Lib.hid rfl
 have hl : s.data.toList.length = s.size := by simp
 have HG : Hid (∀ k (h : k < s.size) (h' : k < s.data.toList.length), s[k] = s.data.toList[k]) := Lib.hid (fun k h h' => by simp; rfl)
 have HL := Lib.hid hl
 have HN := Lib.hid (escL_len)
 generalize escB s = out at HE ⊢
 clear hl
 go_enter Tryz.func86, Tryz.ntmps86
 go_wp2
 go_loop [3, 4] (fun v i => ∃ (k : Nat) (X : ByteArray), k <= s.size /\ i = .int .i64 (k : Int) /\ v = .string X /\ Hid (X.data.toList = escL (s.data.toList.take k))) (fun _ i => s.size - (intOf i).toNat)
 case atStart => exact ⟨0, ⟨#[]⟩, Nat.zero_le _, rfl, rfl, Lib.hid rfl⟩
 case round =>
  obtain ⟨k, X, hk, rfl, rfl, HX⟩ := hrel
  have hXs : X.size <= 6000 := by
   have h1 : X.data.toList.length = X.size := by simp
   have h2 := HN.out (s.data.toList.take k)
   rw [<- HX.out, h1] at h2
   have h3 : (s.data.toList.take k).length <= k := by rw [List.length_take]; omega
   omega
  by_cases hlt : k < s.size
  ·have hkl : k < s.data.toList.length := by rw [HL.out]; exact hlt
   have HSN : Hid (escL (s.data.toList.take (k + 1)) = escL (s.data.toList.take k) ++ esc s[k]) := Lib.hid (by rw [List.take_succ_eq_append_getElem hkl, escL_snoc, HG.out k hlt hkl])
   have HC := Lib.hid (fun w => l8Escape_any s[k] w)
   have hem := escS_empty s[k]
   by_cases hm : escM s[k] = []
   ·have he : esc s[k] = [s[k]] := if_pos hm
    have HO := one_byte s k hlt
    rw [he, <- HO, <- HX.out] at HSN
    have hs1 : (s.extract k (k + 1)).size = 1 := by rw [ByteArray.size_extract]; omega
    obtain ⟨P, hP⟩ : ∃ P, P = s.extract k (k + 1) := ⟨_, rfl⟩
    have hP' := hP.symm
    rw [<- hP] at HSN hs1
    obtain ⟨Y, hY⟩ : ∃ Y, X ++ P = Y := ⟨_, rfl⟩
    have HY : Hid (Y.data.toList = escL (s.data.toList.take (k + 1))) := Lib.hid (by rw [<- hY, app8, HSN.out])
    rw [show escS s[k] = ⟨#[]⟩ by unfold escS; rw [hm]] at HC
    have hsum : X.size + P.size <= 10000 := by omega
    have hk1 : (k : Int) + 1 <= (s.size : Int) := by omega
    clear hm he HO hP HSN hem
    go_wp2_with fail
    refine (HC.out _).mono ?_
    rintro e w1 ⟨rfl, rfl⟩
    go_wp2
    refine ⟨⟨k + 1, Y, by omega, by simp, rfl, HY⟩, ?_⟩
    simp [intOf]; omega
   ·have he : esc s[k] = escM s[k] := if_neg hm
    have hP : (escS s[k]).data.toList = escM s[k] := by unfold escS; simp
    have hps : (escS s[k]).size <= 6 := by
     have h1 := esc_len s[k]
     rw [he, <- hP] at h1
     simpa using h1
    have hem2 : (escS s[k]).toList.isEmpty = false := by
     rw [hem]
     cases hq : escM s[k] with
     | nil => exact absurd hq hm
     | cons a b => rfl
    rw [he, <- hP, <- HX.out] at HSN
    generalize escS s[k] = P at HC hps hem2 HSN
    obtain ⟨Y, hY⟩ : ∃ Y, X ++ P = Y := ⟨_, rfl⟩
    have HY : Hid (Y.data.toList = escL (s.data.toList.take (k + 1))) := Lib.hid (by rw [<- hY, app8, HSN.out])
    have hsum : X.size + P.size <= 10000 := by omega
    clear hm he hP HSN hem
    go_wp2_with fail
    refine (HC.out _).mono ?_
    rintro e w1 ⟨rfl, rfl⟩
    go_wp2
    refine ⟨⟨k + 1, Y, by omega, by simp, rfl, HY⟩, ?_⟩
    simp [intOf]; omega
  ·have hke : k = s.size := by omega
   have HO : Hid (X = out) := Lib.hid (by apply ba_eq; rw [HX.out, HE.out, List.take_of_length_le (by rw [HL.out]; omega)])
   clear hke
   go_wp2
   go_ret
   exact ⟨ret_str HO.out, Below.refl _ _⟩
end Go.Proofs.YtffkakpbelknaaaGreatDoor
namespace Go.Proofs.YtffkakpbelknaaaGreatDoor
set_option linter.unusedVariables false
def eB : Nat -> ByteArray
 | 0 => ⟨#[38, 97, 109, 112, 59]⟩
 | 1 => ⟨#[38, 108, 116, 59]⟩
 | 2 => ⟨#[38, 103, 116, 59]⟩
 | _ => ⟨#[38, 113, 117, 111, 116, 59]⟩
def eL (k : Nat) : List UInt8 := (eB k).data.toList
def mB : Nat -> UInt8
 | 0 => 38
 | 1 => 60
 | 2 => 62
 | _ => 34
def pst (l : List UInt8) : Option (UInt8 × Nat) :=
 if Lib.hasPrefix l (eL 0) = true then some (38, 5) else if Lib.hasPrefix l (eL 1) = true then some (60, 4) else if Lib.hasPrefix l (eL 2) = true then some (62, 4) else if Lib.hasPrefix l (eL 3) = true then some (34, 6)
 else match l with
  | [] => none
  | c :: _ => if escM c = [] then some (c, 1) else none
theorem pst_hit (l : List UInt8) (k : Nat) (hk : k < 4) (hn : ∀ j, j < k -> Lib.hasPrefix l (eL j) = false) (h : Lib.hasPrefix l (eL k) = true) : pst l = some (mB k, (eB k).size) := by
 unfold pst
 rcases k with _ | _ | _ | _ | k
 ·rw [if_pos h]; rfl
 ·rw [hn 0 (by omega), if_pos h]; rfl
 ·rw [hn 0 (by omega), hn 1 (by omega), if_pos h]; rfl
 ·rw [hn 0 (by omega), hn 1 (by omega), hn 2 (by omega), if_pos h]; rfl
 ·omega
theorem pst_miss (c : UInt8) (l : List UInt8) (hn : ∀ j, j < 4 -> Lib.hasPrefix (c :: l) (eL j) = false) : pst (c :: l) = if escM c = [] then some (c, 1) else none := by
 unfold pst
 rw [hn 0 (by omega), hn 1 (by omega), hn 2 (by omega), hn 3 (by omega)]
 rfl
def plL (l : List UInt8) : Option (List UInt8) :=
 if h : l = [] then some [] else
 match pst l with
 | none => none
 | some (b, k) => if hk : 1 <= k then (plL (l.drop k)).map (fun r => b :: r) else none
termination_by l.length
decreasing_by
 have : 0 < l.length := by cases l with | nil => exact absurd rfl h | cons a b => simp
 simp; omega
theorem plL_nil : plL [] = some [] := by rw [plL, dif_pos rfl]
theorem plL_none (l : List UInt8) (h : l ≠ []) (hp : pst l = none) : plL l = none := by rw [plL, dif_neg h, hp]
theorem plL_some (l : List UInt8) (b : UInt8) (k : Nat) (h : l ≠ []) (hp : pst l = some (b, k)) (hk : 1 <= k) : plL l = (plL (l.drop k)).map (fun r => b :: r) := by rw [plL, dif_neg h, hp]; exact dif_pos hk
theorem pl_step (S l acc : List UInt8) (b : UInt8) (k : Nat) (h : l ≠ []) (hp : pst l = some (b, k)) (hk : 1 <= k) (hS : plL S = (plL l).map (fun r => acc ++ r)) : plL S = (plL (l.drop k)).map (fun r => (acc ++ [b]) ++ r) := by
 rw [hS, plL_some l b k h hp hk, Option.map_map]
 congr 1
 funext r
 simp
theorem pl_stop (S l acc : List UInt8) (h : l ≠ []) (hp : pst l = none) (hS : plL S = (plL l).map (fun r => acc ++ r)) : plL S = none := by
 rw [hS, plL_none l h hp]; rfl
theorem pl_end (S acc : List UInt8) (hS : plL S = (plL []).map (fun r => acc ++ r)) : plL S = some acc := by
 rw [hS, plL_nil]; simp
def plV (s : ByteArray) : Value := if s.size <= 1200 then (match plL s.data.toList with | some r => .tuple #[.string ⟨r.toArray⟩, .bool true] | none => .tuple #[.string ⟨#[]⟩, .bool false]) else .tuple #[.string ⟨#[]⟩, .bool false]
theorem plV_long {s : ByteArray} (h : ¬ s.size <= 1200) : plV s = .tuple #[.string ⟨#[]⟩, .bool false] := if_neg h
theorem plV_none {s : ByteArray} (h : s.size <= 1200) (hp : plL s.data.toList = none) : plV s = .tuple #[.string ⟨#[]⟩, .bool false] := by
 unfold plV; rw [if_pos h, hp]
theorem plV_some {s : ByteArray} {r : List UInt8} (h : s.size <= 1200) (hp : plL s.data.toList = some r) : plV s = .tuple #[.string ⟨r.toArray⟩, .bool true] := by
 unfold plV; rw [if_pos h, hp]
theorem pre_len {l p : List UInt8} (h : Lib.hasPrefix l p = true) : p.length <= l.length := by
 unfold Lib.hasPrefix at h
 exact (List.isPrefixOf_iff_prefix.1 h).length_le
theorem trim_hit {l p : List UInt8} (h : Lib.hasPrefix l p = true) : Lib.trimPrefix l p = l.drop p.length := if_pos h
theorem eB_size (k : Nat) : 1 <= (eB k).size /\ (eB k).size <= 6 := by
 rcases k with _ | _ | _ | k
 ·decide
 ·decide
 ·decide
 ·show 1 <= 6 /\ 6 <= 6; omega
end Go.Proofs.YtffkakpbelknaaaGreatDoor
namespace Go.Proofs.YtffkakpbelknaaaGreatDoor
open Go.ChangeShapes Go.WideShapes Go.ChangeAt Go.RowKit Go.Shelf
set_option linter.unusedVariables false
theorem conv_one8 (w : World) (b : UInt8) (x : Int) (hx : x = (b.toNat : Int)) : (convert 22 9 (.slice (some ⟨w.heap.size, 0, none⟩) 1 1)).run Tryz.prog (w.alloc (.cells #[.int .u8 x] 5)) = .ok (.string ⟨#[b]⟩) (w.alloc (.cells #[.int .u8 x] 5)) := by
 subst hx
 refine run_convert_bytes_back _ 22 9 5 ⟨w.heap.size, 0, none⟩ 1 [b] Tryz.underlying22 Tryz.underlying5 Tryz.underlying9 ?_
 intro j hj
 have : j = 0 := by simpa using hj
 subst this
 simp [go_sem]
theorem ext_list8 (s : ByteArray) (n k : Nat) : (s.extract n (n + k)).data.toList = (s.data.toList.drop n).take k := by
 rw [ByteArray.data_extract, Array.toList_extract]
 simp [List.extract]
theorem pre_at (s : ByteArray) (n : Nat) (E : ByteArray) (hn : n <= s.size) : Lib.hasPrefix (s.data.toList.drop n) E.data.toList = true ↔ (n + E.size <= s.size /\ s.extract n (n + E.size) = E) := by
 have hl : s.data.toList.length = s.size := by simp
 have he : E.data.toList.length = E.size := by simp
 rw [<- Lib.hasPrefix_of_take, Bool.and_eq_true, decide_eq_true_eq, beq_iff_eq, List.length_drop, hl, he, <- ext_list8]
 constructor
 ·rintro ⟨h1, h2⟩
  exact ⟨by omega, ba_eq h2⟩
 ·rintro ⟨h1, h2⟩
  exact ⟨by omega, by rw [h2]⟩
theorem str_eq8 {a b : ByteArray} (h : a.toList = b.toList) : a = b := by
 apply ba_eq
 rw [ByteArray.toList_eq, ByteArray.toList_eq] at h
 exact h
theorem head_ne (c : UInt8) (l : List UInt8) (h : c ≠ 38) (j : Nat) : Lib.hasPrefix (c :: l) (eL j) = false := by
 have e : (38 == c) = false := by simpa using fun h' => h h'.symm
 unfold Lib.hasPrefix eL eB
 rcases j with _ | _ | _ | j <;> simp [List.isPrefixOf, e]
theorem drop_cons8 (s : ByteArray) (n : Nat) (h : n < s.size) : s.data.toList.drop n = s[n] :: s.data.toList.drop (n + 1) := by
 have hq : n < s.data.toList.length := by simpa using h
 rw [show s[n] = s.data.toList[n] by simp; rfl]
 exact List.drop_eq_getElem_cons hq
theorem specPlain_any (s : ByteArray) (w : World) :
  Calls Tryz.prog 49 #[.string s] w fun e w' => e = .returned (plV s) /\ Below w.heap.size w w' := by
 by_cases h : s.size <= 1200
 ·have HY : Hid (∀ r, plL s.data.toList = some r -> plV s = .tuple #[.string ⟨r.toArray⟩, .bool true]) := Lib.hid (fun r hr => plV_some h hr)
  have HN : Hid (plL s.data.toList = none -> plV s = .tuple #[.string ⟨#[]⟩, .bool false]) := Lib.hid (fun hr => plV_none h hr)
  have H0 : Hid (plL s.data.toList = (plL (s.data.toList.drop 0)).map (fun r => (⟨#[]⟩ : ByteArray).data.toList ++ r)) := Lib.hid (by simp)
  generalize plV s = out at HY HN ⊢
  have hd : ¬ (1200 < (s.size : Int)) := by omega
  go_enter Tryz.func49, Tryz.ntmps49
  go_wp2
  go_loopw [4, 5] (fun o i wr => ∃ (n : Nat) (X : ByteArray), n <= s.size /\ i = .int .i64 (n : Int) /\ o = .string X /\ X.size <= n /\ Hid (plL s.data.toList = (plL (s.data.toList.drop n)).map (fun r => X.data.toList ++ r)) /\ Below w.heap.size w wr) (fun _ i _ => s.size - (intOf i).toNat)
  case atStart => exact ⟨0, ⟨#[]⟩, Nat.zero_le _, rfl, rfl, Nat.le_refl _, H0, Below.refl _ _⟩
  case round =>
   obtain ⟨n, X, hn, rfl, rfl, hXs, HR, hB⟩ := hrel
   by_cases hlt : n < s.size
   ·have hcons := drop_cons8 s n hlt
    have HNE : Hid (s.data.toList.drop n ≠ []) := Lib.hid (by rw [hcons]; simp)
    have HC := Lib.hid (fun w => l8Escape_any s[n] w)
    by_cases h38 : s[n] = 38
    ·have hne : ((s[n].toNat : Int) != 38) = false := by rw [h38]; rfl
     have hstop : (∀ j, j < 4 -> Lib.hasPrefix (s.data.toList.drop n) (eL j) = false) -> pst (s.data.toList.drop n) = none := by
      intro hp
      rw [hcons] at hp ⊢
      rw [pst_miss _ _ hp, h38]; rfl
     have HST := Lib.hid hstop
     clear hstop h38 hcons HC
     go_wp2
     go_loopw [4, 5, 6, 7] (fun o i f k wr' => (∃ (k' : Nat) (z : Int), k' <= 4 /\ k = .int .i64 z /\ z = (k' : Int) /\ f = .bool false /\ o = .string X /\ i = .int .i64 (n : Int) /\ Below w.heap.size w wr' /\ Hid (∀ j, j < k' -> Lib.hasPrefix (s.data.toList.drop n) (eL j) = false)) \/ (∃ (k' n' : Nat) (X' : ByteArray), k' <= 4 /\ k = .int .i64 (k' : Int) /\ f = .bool true /\ o = .string X' /\ i = .int .i64 (n' : Int) /\ n < n' /\ n' <= s.size /\ X'.size <= n' /\ Below w.heap.size w wr' /\ Hid (plL s.data.toList = (plL (s.data.toList.drop n')).map (fun r => X'.data.toList ++ r)))) (fun _ _ _ k _ => 5 - (intOf k).toNat)
     case atStart => exact .inl ⟨0, 0, by omega, rfl, rfl, rfl, rfl, rfl, hB, Lib.hid (fun j hj => by omega)⟩
     case round =>
      rcases hrel with ⟨k', z, hk, rfl, hz, rfl, rfl, rfl, hB1, HP⟩ | ⟨k', n', X', hk, rfl, rfl, rfl, rfl, hn1, hn2, hX1, hB1, HR1⟩
      ·rcases k' with _ | _ | _ | _ | k'
       ·obtain rfl : z = 0 := by simpa using hz
        clear hz
        have HC := Lib.hid (fun w => l8Escape_any (mB 0) w)
        rw [show escS (mB 0) = eB 0 from rfl] at HC
        have hes := eB_size 0
        have hpe := pre_at s n (eB 0) (by omega)
        obtain ⟨E, hE⟩ : ∃ E, E = eB 0 := ⟨_, rfl⟩
        rw [<- hE] at HC hes hpe
        by_cases hle : n + E.size <= s.size
        ·have hleI : (E.size : Int) <= (s.size : Int) - (n : Int) := by omega
         have hxI : (n : Int) + (E.size : Int) <= (s.size : Int) := by omega
         by_cases heq : s.extract n (n + E.size) = E
         ·have hp : Lib.hasPrefix (s.data.toList.drop n) (eL 0) = true := by
           show Lib.hasPrefix (s.data.toList.drop n) (eB 0).data.toList = true
           rw [<- hE]
           exact hpe.2 ⟨hle, heq⟩
          have hst := pst_hit _ 0 (by omega) (fun j hj => HP.out j hj) hp
          have HR2 := Lib.hid (pl_step _ _ _ (mB 0) (eB 0).size HNE.out hst (by decide) HR.out)
          rw [List.drop_drop, <- hE] at HR2
          have hcv := conv_one8 wr (mB 0) (((⟨#[38, 60, 62, 34]⟩ : ByteArray)[0]'(by decide)).toNat : Int) rfl
          have hcc := trivial
          obtain ⟨Y, hY⟩ : ∃ Y : ByteArray, X ++ ⟨#[mB 0]⟩ = Y := ⟨_, rfl⟩
          have HY2 : Hid (Y.data.toList = X.data.toList ++ [mB 0] /\ Y.size = X.size + 1) := Lib.hid (by rw [<- hY, app8, ByteArray.size_append]; exact ⟨rfl, rfl⟩)
          rw [<- HY2.out.1] at HR2
          have hb1 := hB1.alloc hB1.size (.cells #[.int .u8 (((⟨#[38, 60, 62, 34]⟩ : ByteArray)[0]'(by decide)).toNat : Int)] 5)
          have hsum : X.size + 1 <= 2000 := by omega
          have hteq : ((s.extract n (n + E.size)).toList == E.toList) = true := by rw [heq]; simp
          have hn1 : n < n + E.size := by omega
          clear hp hst heq hpe hB1 hE
          go_wp2_with fail
          refine (HC.out _).mono ?_
          rintro e w1 ⟨rfl, rfl⟩
          go_wp2
          refine ⟨.inr ⟨1, n + E.size, Y, by omega, rfl, rfl, rfl, by simp, hn1, hle, by have := HY2.out.2; omega, hb1, HR2⟩, ?_⟩
          simp [intOf]
         ·have hp : Lib.hasPrefix (s.data.toList.drop n) (eL 0) = false := by
           refine Bool.eq_false_iff.2 ?_
           show ¬ Lib.hasPrefix (s.data.toList.drop n) (eB 0).data.toList = true
           rw [<- hE]
           exact fun hq => heq (hpe.1 hq).2
          have HP2 : Hid (∀ j, j < 1 -> Lib.hasPrefix (s.data.toList.drop n) (eL j) = false) := Lib.hid (fun j hj => by
           by_cases hjk : j < 0
           ·exact HP.out j hjk
           ·rw [show j = 0 by omega]; exact hp)
          have hteq : ((s.extract n (n + E.size)).toList == E.toList) = false := by
           have : ¬ (s.extract n (n + E.size)).toList = E.toList := fun hq => heq (str_eq8 hq)
           simpa using this
          clear hp heq hpe hE
          go_wp2_with fail
          refine (HC.out _).mono ?_
          rintro e w1 ⟨rfl, rfl⟩
          go_wp2
          refine ⟨.inl ⟨1, 1, by omega, rfl, rfl, rfl, rfl, rfl, hB1, HP2⟩, ?_⟩
          simp [intOf]
        ·have hp : Lib.hasPrefix (s.data.toList.drop n) (eL 0) = false := by
          refine Bool.eq_false_iff.2 ?_
          show ¬ Lib.hasPrefix (s.data.toList.drop n) (eB 0).data.toList = true
          rw [<- hE]
          exact fun hq => hle (hpe.1 hq).1
         have HP2 : Hid (∀ j, j < 1 -> Lib.hasPrefix (s.data.toList.drop n) (eL j) = false) := Lib.hid (fun j hj => by
          by_cases hjk : j < 0
          ·exact HP.out j hjk
          ·rw [show j = 0 by omega]; exact hp)
         have hleI : decide ((E.size : Int) <= (s.size : Int) - (n : Int)) = false := decide_eq_false (by omega)
         have hleN : ¬ ((E.size : Int) <= (s.size : Int) - (n : Int)) := by omega
         clear hp hpe hE hle
         go_wp2_with fail
         refine (HC.out _).mono ?_
         rintro e w1 ⟨rfl, rfl⟩
         go_wp2
         refine ⟨.inl ⟨1, 1, by omega, rfl, rfl, rfl, rfl, rfl, hB1, HP2⟩, ?_⟩
         simp [intOf]
       ·obtain rfl : z = 1 := by simpa using hz
        clear hz
        have HC := Lib.hid (fun w => l8Escape_any (mB 1) w)
        rw [show escS (mB 1) = eB 1 from rfl] at HC
        have hes := eB_size 1
        have hpe := pre_at s n (eB 1) (by omega)
        obtain ⟨E, hE⟩ : ∃ E, E = eB 1 := ⟨_, rfl⟩
        rw [<- hE] at HC hes hpe
        by_cases hle : n + E.size <= s.size
        ·have hleI : (E.size : Int) <= (s.size : Int) - (n : Int) := by omega
         have hxI : (n : Int) + (E.size : Int) <= (s.size : Int) := by omega
         by_cases heq : s.extract n (n + E.size) = E
         ·have hp : Lib.hasPrefix (s.data.toList.drop n) (eL 1) = true := by
           show Lib.hasPrefix (s.data.toList.drop n) (eB 1).data.toList = true
           rw [<- hE]
           exact hpe.2 ⟨hle, heq⟩
          have hst := pst_hit _ 1 (by omega) (fun j hj => HP.out j hj) hp
          have HR2 := Lib.hid (pl_step _ _ _ (mB 1) (eB 1).size HNE.out hst (by decide) HR.out)
          rw [List.drop_drop, <- hE] at HR2
          have hcv := conv_one8 wr (mB 1) (((⟨#[38, 60, 62, 34]⟩ : ByteArray)[1]'(by decide)).toNat : Int) rfl
          have hcc := trivial
          obtain ⟨Y, hY⟩ : ∃ Y : ByteArray, X ++ ⟨#[mB 1]⟩ = Y := ⟨_, rfl⟩
          have HY2 : Hid (Y.data.toList = X.data.toList ++ [mB 1] /\ Y.size = X.size + 1) := Lib.hid (by rw [<- hY, app8, ByteArray.size_append]; exact ⟨rfl, rfl⟩)
          rw [<- HY2.out.1] at HR2
          have hb1 := hB1.alloc hB1.size (.cells #[.int .u8 (((⟨#[38, 60, 62, 34]⟩ : ByteArray)[1]'(by decide)).toNat : Int)] 5)
          have hsum : X.size + 1 <= 2000 := by omega
          have hteq : ((s.extract n (n + E.size)).toList == E.toList) = true := by rw [heq]; simp
          have hn1 : n < n + E.size := by omega
          clear hp hst heq hpe hB1 hE
          go_wp2_with fail
          refine (HC.out _).mono ?_
          rintro e w1 ⟨rfl, rfl⟩
          go_wp2
          refine ⟨.inr ⟨2, n + E.size, Y, by omega, rfl, rfl, rfl, by simp, hn1, hle, by have := HY2.out.2; omega, hb1, HR2⟩, ?_⟩
          simp [intOf]
         ·have hp : Lib.hasPrefix (s.data.toList.drop n) (eL 1) = false := by
           refine Bool.eq_false_iff.2 ?_
           show ¬ Lib.hasPrefix (s.data.toList.drop n) (eB 1).data.toList = true
           rw [<- hE]
           exact fun hq => heq (hpe.1 hq).2
          have HP2 : Hid (∀ j, j < 2 -> Lib.hasPrefix (s.data.toList.drop n) (eL j) = false) := Lib.hid (fun j hj => by
           by_cases hjk : j < 1
           ·exact HP.out j hjk
           ·rw [show j = 1 by omega]; exact hp)
          have hteq : ((s.extract n (n + E.size)).toList == E.toList) = false := by
           have : ¬ (s.extract n (n + E.size)).toList = E.toList := fun hq => heq (str_eq8 hq)
           simpa using this
          clear hp heq hpe hE
          go_wp2_with fail
          refine (HC.out _).mono ?_
          rintro e w1 ⟨rfl, rfl⟩
          go_wp2
          refine ⟨.inl ⟨2, 2, by omega, rfl, rfl, rfl, rfl, rfl, hB1, HP2⟩, ?_⟩
          simp [intOf]
        ·have hp : Lib.hasPrefix (s.data.toList.drop n) (eL 1) = false := by
          refine Bool.eq_false_iff.2 ?_
          show ¬ Lib.hasPrefix (s.data.toList.drop n) (eB 1).data.toList = true
          rw [<- hE]
          exact fun hq => hle (hpe.1 hq).1
         have HP2 : Hid (∀ j, j < 2 -> Lib.hasPrefix (s.data.toList.drop n) (eL j) = false) := Lib.hid (fun j hj => by
          by_cases hjk : j < 1
          ·exact HP.out j hjk
          ·rw [show j = 1 by omega]; exact hp)
         have hleI : decide ((E.size : Int) <= (s.size : Int) - (n : Int)) = false := decide_eq_false (by omega)
         have hleN : ¬ ((E.size : Int) <= (s.size : Int) - (n : Int)) := by omega
         clear hp hpe hE hle
         go_wp2_with fail
         refine (HC.out _).mono ?_
         rintro e w1 ⟨rfl, rfl⟩
         go_wp2
         refine ⟨.inl ⟨2, 2, by omega, rfl, rfl, rfl, rfl, rfl, hB1, HP2⟩, ?_⟩
         simp [intOf]
       ·obtain rfl : z = 2 := by simpa using hz
        clear hz
        have HC := Lib.hid (fun w => l8Escape_any (mB 2) w)
        rw [show escS (mB 2) = eB 2 from rfl] at HC
        have hes := eB_size 2
        have hpe := pre_at s n (eB 2) (by omega)
        obtain ⟨E, hE⟩ : ∃ E, E = eB 2 := ⟨_, rfl⟩
        rw [<- hE] at HC hes hpe
        by_cases hle : n + E.size <= s.size
        ·have hleI : (E.size : Int) <= (s.size : Int) - (n : Int) := by omega
         have hxI : (n : Int) + (E.size : Int) <= (s.size : Int) := by omega
         by_cases heq : s.extract n (n + E.size) = E
         ·have hp : Lib.hasPrefix (s.data.toList.drop n) (eL 2) = true := by
           show Lib.hasPrefix (s.data.toList.drop n) (eB 2).data.toList = true
           rw [<- hE]
           exact hpe.2 ⟨hle, heq⟩
          have hst := pst_hit _ 2 (by omega) (fun j hj => HP.out j hj) hp
          have HR2 := Lib.hid (pl_step _ _ _ (mB 2) (eB 2).size HNE.out hst (by decide) HR.out)
          rw [List.drop_drop, <- hE] at HR2
          have hcv := conv_one8 wr (mB 2) (((⟨#[38, 60, 62, 34]⟩ : ByteArray)[2]'(by decide)).toNat : Int) rfl
          have hcc := trivial
          obtain ⟨Y, hY⟩ : ∃ Y : ByteArray, X ++ ⟨#[mB 2]⟩ = Y := ⟨_, rfl⟩
          have HY2 : Hid (Y.data.toList = X.data.toList ++ [mB 2] /\ Y.size = X.size + 1) := Lib.hid (by rw [<- hY, app8, ByteArray.size_append]; exact ⟨rfl, rfl⟩)
          rw [<- HY2.out.1] at HR2
          have hb1 := hB1.alloc hB1.size (.cells #[.int .u8 (((⟨#[38, 60, 62, 34]⟩ : ByteArray)[2]'(by decide)).toNat : Int)] 5)
          have hsum : X.size + 1 <= 2000 := by omega
          have hteq : ((s.extract n (n + E.size)).toList == E.toList) = true := by rw [heq]; simp
          have hn1 : n < n + E.size := by omega
          clear hp hst heq hpe hB1 hE
          go_wp2_with fail
          refine (HC.out _).mono ?_
          rintro e w1 ⟨rfl, rfl⟩
          go_wp2
          refine ⟨.inr ⟨3, n + E.size, Y, by omega, rfl, rfl, rfl, by simp, hn1, hle, by have := HY2.out.2; omega, hb1, HR2⟩, ?_⟩
          simp [intOf]
         ·have hp : Lib.hasPrefix (s.data.toList.drop n) (eL 2) = false := by
           refine Bool.eq_false_iff.2 ?_
           show ¬ Lib.hasPrefix (s.data.toList.drop n) (eB 2).data.toList = true
           rw [<- hE]
           exact fun hq => heq (hpe.1 hq).2
          have HP2 : Hid (∀ j, j < 3 -> Lib.hasPrefix (s.data.toList.drop n) (eL j) = false) := Lib.hid (fun j hj => by
           by_cases hjk : j < 2
           ·exact HP.out j hjk
           ·rw [show j = 2 by omega]; exact hp)
          have hteq : ((s.extract n (n + E.size)).toList == E.toList) = false := by
           have : ¬ (s.extract n (n + E.size)).toList = E.toList := fun hq => heq (str_eq8 hq)
           simpa using this
          clear hp heq hpe hE
          go_wp2_with fail
          refine (HC.out _).mono ?_
          rintro e w1 ⟨rfl, rfl⟩
          go_wp2
          refine ⟨.inl ⟨3, 3, by omega, rfl, rfl, rfl, rfl, rfl, hB1, HP2⟩, ?_⟩
          simp [intOf]
        ·have hp : Lib.hasPrefix (s.data.toList.drop n) (eL 2) = false := by
          refine Bool.eq_false_iff.2 ?_
          show ¬ Lib.hasPrefix (s.data.toList.drop n) (eB 2).data.toList = true
          rw [<- hE]
          exact fun hq => hle (hpe.1 hq).1
         have HP2 : Hid (∀ j, j < 3 -> Lib.hasPrefix (s.data.toList.drop n) (eL j) = false) := Lib.hid (fun j hj => by
          by_cases hjk : j < 2
          ·exact HP.out j hjk
          ·rw [show j = 2 by omega]; exact hp)
         have hleI : decide ((E.size : Int) <= (s.size : Int) - (n : Int)) = false := decide_eq_false (by omega)
         have hleN : ¬ ((E.size : Int) <= (s.size : Int) - (n : Int)) := by omega
         clear hp hpe hE hle
         go_wp2_with fail
         refine (HC.out _).mono ?_
         rintro e w1 ⟨rfl, rfl⟩
         go_wp2
         refine ⟨.inl ⟨3, 3, by omega, rfl, rfl, rfl, rfl, rfl, hB1, HP2⟩, ?_⟩
         simp [intOf]
       ·obtain rfl : z = 3 := by simpa using hz
        clear hz
        have HC := Lib.hid (fun w => l8Escape_any (mB 3) w)
        rw [show escS (mB 3) = eB 3 from rfl] at HC
        have hes := eB_size 3
        have hpe := pre_at s n (eB 3) (by omega)
        obtain ⟨E, hE⟩ : ∃ E, E = eB 3 := ⟨_, rfl⟩
        rw [<- hE] at HC hes hpe
        by_cases hle : n + E.size <= s.size
        ·have hleI : (E.size : Int) <= (s.size : Int) - (n : Int) := by omega
         have hxI : (n : Int) + (E.size : Int) <= (s.size : Int) := by omega
         by_cases heq : s.extract n (n + E.size) = E
         ·have hp : Lib.hasPrefix (s.data.toList.drop n) (eL 3) = true := by
           show Lib.hasPrefix (s.data.toList.drop n) (eB 3).data.toList = true
           rw [<- hE]
           exact hpe.2 ⟨hle, heq⟩
          have hst := pst_hit _ 3 (by omega) (fun j hj => HP.out j hj) hp
          have HR2 := Lib.hid (pl_step _ _ _ (mB 3) (eB 3).size HNE.out hst (by decide) HR.out)
          rw [List.drop_drop, <- hE] at HR2
          have hcv := conv_one8 wr (mB 3) (((⟨#[38, 60, 62, 34]⟩ : ByteArray)[3]'(by decide)).toNat : Int) rfl
          have hcc := trivial
          obtain ⟨Y, hY⟩ : ∃ Y : ByteArray, X ++ ⟨#[mB 3]⟩ = Y := ⟨_, rfl⟩
          have HY2 : Hid (Y.data.toList = X.data.toList ++ [mB 3] /\ Y.size = X.size + 1) := Lib.hid (by rw [<- hY, app8, ByteArray.size_append]; exact ⟨rfl, rfl⟩)
          rw [<- HY2.out.1] at HR2
          have hb1 := hB1.alloc hB1.size (.cells #[.int .u8 (((⟨#[38, 60, 62, 34]⟩ : ByteArray)[3]'(by decide)).toNat : Int)] 5)
          have hsum : X.size + 1 <= 2000 := by omega
          have hteq : ((s.extract n (n + E.size)).toList == E.toList) = true := by rw [heq]; simp
          have hn1 : n < n + E.size := by omega
          clear hp hst heq hpe hB1 hE
          go_wp2_with fail
          refine (HC.out _).mono ?_
          rintro e w1 ⟨rfl, rfl⟩
          go_wp2
          refine ⟨.inr ⟨4, n + E.size, Y, by omega, rfl, rfl, rfl, by simp, hn1, hle, by have := HY2.out.2; omega, hb1, HR2⟩, ?_⟩
          simp [intOf]
         ·have hp : Lib.hasPrefix (s.data.toList.drop n) (eL 3) = false := by
           refine Bool.eq_false_iff.2 ?_
           show ¬ Lib.hasPrefix (s.data.toList.drop n) (eB 3).data.toList = true
           rw [<- hE]
           exact fun hq => heq (hpe.1 hq).2
          have HP2 : Hid (∀ j, j < 4 -> Lib.hasPrefix (s.data.toList.drop n) (eL j) = false) := Lib.hid (fun j hj => by
           by_cases hjk : j < 3
           ·exact HP.out j hjk
           ·rw [show j = 3 by omega]; exact hp)
          have hteq : ((s.extract n (n + E.size)).toList == E.toList) = false := by
           have : ¬ (s.extract n (n + E.size)).toList = E.toList := fun hq => heq (str_eq8 hq)
           simpa using this
          clear hp heq hpe hE
          go_wp2_with fail
          refine (HC.out _).mono ?_
          rintro e w1 ⟨rfl, rfl⟩
          go_wp2
          refine ⟨.inl ⟨4, 4, by omega, rfl, rfl, rfl, rfl, rfl, hB1, HP2⟩, ?_⟩
          simp [intOf]
        ·have hp : Lib.hasPrefix (s.data.toList.drop n) (eL 3) = false := by
          refine Bool.eq_false_iff.2 ?_
          show ¬ Lib.hasPrefix (s.data.toList.drop n) (eB 3).data.toList = true
          rw [<- hE]
          exact fun hq => hle (hpe.1 hq).1
         have HP2 : Hid (∀ j, j < 4 -> Lib.hasPrefix (s.data.toList.drop n) (eL j) = false) := Lib.hid (fun j hj => by
          by_cases hjk : j < 3
          ·exact HP.out j hjk
          ·rw [show j = 3 by omega]; exact hp)
         have hleI : decide ((E.size : Int) <= (s.size : Int) - (n : Int)) = false := decide_eq_false (by omega)
         have hleN : ¬ ((E.size : Int) <= (s.size : Int) - (n : Int)) := by omega
         clear hp hpe hE hle
         go_wp2_with fail
         refine (HC.out _).mono ?_
         rintro e w1 ⟨rfl, rfl⟩
         go_wp2
         refine ⟨.inl ⟨4, 4, by omega, rfl, rfl, rfl, rfl, rfl, hB1, HP2⟩, ?_⟩
         simp [intOf]
       ·have hk4 : k' = 0 := by omega
        subst hk4
        obtain rfl : z = 4 := by simpa using hz
        clear hz
        have HS := Lib.hid (pl_stop _ _ _ HNE.out (HST.out (fun j hj => HP.out j (by omega))) HR.out)
        go_wp2
        go_ret2
        exact ⟨by rw [HN.out HS.out]; rfl, hB1⟩
      ·by_cases hk4 : k' < 4
       ·have hk4I : (k' : Int) < 4 := by omega
        go_wp2
        go_roundw
        case rel => exact ⟨n', X', hn2, rfl, rfl, hX1, HR1, hB1⟩
        case measure => simp [intOf]; omega
       ·have hk4I : ¬ ((k' : Int) < 4) := by omega
        have hk4d : decide ((k' : Int) < 4) = false := decide_eq_false (by omega)
        go_wp2
        go_roundw
        case rel => exact ⟨n', X', hn2, rfl, rfl, hX1, HR1, hB1⟩
        case measure => simp [intOf]; omega
    ·have hne : ((s[n].toNat : Int) != 38) = true := by
      have := byte_ne (d := 38) h38
      simpa using this
     have hpm : pst (s.data.toList.drop n) = if escM s[n] = [] then some (s[n], 1) else none := by
      rw [hcons]
      exact pst_miss _ _ (fun j hj => head_ne _ _ h38 j)
     have hem := escS_empty s[n]
     by_cases hm : escM s[n] = []
     ·rw [show escS s[n] = ⟨#[]⟩ by unfold escS; rw [hm]] at HC
      rw [if_pos hm] at hpm
      have HR2 := Lib.hid (pl_step _ _ _ s[n] 1 HNE.out hpm (by omega) HR.out)
      rw [List.drop_drop, <- one_byte s n hlt] at HR2
      have hs1 : (s.extract n (n + 1)).size = 1 := by rw [ByteArray.size_extract]; omega
      obtain ⟨P, hP⟩ : ∃ P, s.extract n (n + 1) = P := ⟨_, rfl⟩
      rw [hP] at HR2 hs1
      obtain ⟨Y, hY⟩ : ∃ Y, X ++ P = Y := ⟨_, rfl⟩
      have HY2 : Hid (Y.data.toList = X.data.toList ++ P.data.toList /\ Y.size = X.size + 1) := Lib.hid (by rw [<- hY, app8, ByteArray.size_append, hs1]; exact ⟨rfl, rfl⟩)
      rw [<- HY2.out.1] at HR2
      have hsum : X.size + P.size <= 3000 := by omega
      have hk1 : (n : Int) + 1 <= (s.size : Int) := by omega
      clear hpm hm hem hcons h38
      go_wp2_with fail
      refine (HC.out _).mono ?_
      rintro e w1 ⟨rfl, rfl⟩
      go_wp2
      go_roundw
      case rel => exact ⟨n + 1, Y, by omega, by simp, rfl, by have := HY2.out.2; omega, HR2, hB⟩
      case measure => simp [intOf]; omega
     ·have hem2 : (escS s[n]).toList.isEmpty = false := by
       rw [hem]
       cases hq : escM s[n] with
       | nil => exact absurd hq hm
       | cons a b => rfl
      rw [if_neg hm] at hpm
      have HS := Lib.hid (pl_stop _ _ _ HNE.out hpm HR.out)
      generalize escS s[n] = P at HC hem2
      clear hpm hm hem hcons h38
      go_wp2_with fail
      refine (HC.out _).mono ?_
      rintro e w1 ⟨rfl, rfl⟩
      go_wp2
      go_ret2
      exact ⟨by rw [HN.out HS.out]; rfl, hB⟩
   ·have hl : s.data.toList.length = s.size := by simp
    have HE := Lib.hid (HY.out X.data.toList (pl_end _ _ (by have := HR.out; rw [List.drop_eq_nil_of_le (by rw [hl]; omega)] at this; exact this)))
    have hX : (⟨X.data.toList.toArray⟩ : ByteArray) = X := by apply ba_eq; simp
    rw [hX] at HE
    clear hl hX
    go_wp2
    go_ret2
    exact ⟨by rw [HE.out]; rfl, hB⟩
 ·have HE := Lib.hid (plV_long h)
  rw [HE.out]
  have hd : 1200 < (s.size : Int) := by omega
  clear h HE
  go_enter Tryz.func49, Tryz.ntmps49
  go_wp2
  go_ret2
  exact ⟨rfl, Below.refl _ _⟩
end Go.Proofs.YtffkakpbelknaaaGreatDoor
namespace Go.Proofs.YtffkakpbelknaaaGreatDoor
set_option linter.unusedVariables false
theorem esc_mark (c : UInt8) (h : escM c ≠ []) : ∃ k, k < 4 /\ c = mB k /\ esc c = eL k := by
 have he : esc c = escM c := if_neg h
 rw [he]
 unfold escM at h ⊢
 by_cases h1 : c = 38
 ·subst h1; exact ⟨0, by omega, rfl, rfl⟩
 rw [if_neg h1] at h ⊢
 by_cases h2 : c = 60
 ·subst h2; exact ⟨1, by omega, rfl, rfl⟩
 rw [if_neg h2] at h ⊢
 by_cases h3 : c = 62
 ·subst h3; exact ⟨2, by omega, rfl, rfl⟩
 rw [if_neg h3] at h ⊢
 by_cases h4 : c = 34
 ·subst h4; exact ⟨3, by omega, rfl, rfl⟩
 rw [if_neg h4] at h
 exact absurd rfl h
theorem not_amp {c : UInt8} (h : escM c = []) : c ≠ 38 := fun e => by subst e; cases h
theorem pre_other (k j : Nat) (hk : k < 4) (hj : j < k) (r : List UInt8) : Lib.hasPrefix (eL k ++ r) (eL j) = false := by
 rcases k with _ | _ | _ | _ | k
 ·omega
 all_goals (rcases j with _ | _ | _ | j) <;> first | omega | rfl
theorem pre_self (k : Nat) (r : List UInt8) : Lib.hasPrefix (eL k ++ r) (eL k) = true := by
 unfold Lib.hasPrefix
 exact List.isPrefixOf_iff_prefix.2 ⟨r, rfl⟩
theorem pst_esc (c : UInt8) (r : List UInt8) : pst (esc c ++ r) = some (c, (esc c).length) := by
 by_cases h : escM c = []
 ·have he : esc c = [c] := if_pos h
  rw [he]
  show pst (c :: r) = _
  rw [pst_miss c r (fun j _ => head_ne c r (not_amp h) j), if_pos h]
  rfl
 ·obtain ⟨k, hk, hc, he⟩ := esc_mark c h
  rw [he, pst_hit (eL k ++ r) k hk (fun j hj => pre_other k j hk hj r) (pre_self k r), hc]
  rfl
theorem esc_ne (c : UInt8) : esc c ≠ [] := by
 unfold esc
 split
 ·simp
 ·assumption
theorem plain_escaped : ∀ l : List UInt8, plL (escL l) = some l
 | [] => plL_nil
 | c :: l => by
  have e : escL (c :: l) = esc c ++ escL l := by unfold escL; rw [List.flatMap_cons]
  have hne : esc c ++ escL l ≠ [] := fun h => esc_ne c (List.append_eq_nil_iff.1 h).1
  have h1 : 1 <= (esc c).length := by
   cases hq : esc c with
   | nil => exact absurd hq (esc_ne c)
   | cons a b => simp
  rw [e, plL_some _ c (esc c).length hne (pst_esc c (escL l)) h1, List.drop_left' rfl, plain_escaped l]
  rfl
theorem pst_back (t : List UInt8) (b : UInt8) (k : Nat) (h : pst t = some (b, k)) : 1 <= k /\ t = esc b ++ t.drop k := by
 have hit : ∀ j, j < 4 -> Lib.hasPrefix t (eL j) = true -> t = eL j ++ t.drop (eL j).length := by
  intro j _ hp
  obtain ⟨r, hr⟩ := List.isPrefixOf_iff_prefix.1 hp
  rw [<- hr, List.drop_left' rfl]
 unfold pst at h
 by_cases h0 : Lib.hasPrefix t (eL 0) = true
 ·rw [if_pos h0] at h
  cases h
  exact ⟨by omega, hit 0 (by omega) h0⟩
 rw [if_neg h0] at h
 by_cases h1 : Lib.hasPrefix t (eL 1) = true
 ·rw [if_pos h1] at h
  cases h
  exact ⟨by omega, hit 1 (by omega) h1⟩
 rw [if_neg h1] at h
 by_cases h2 : Lib.hasPrefix t (eL 2) = true
 ·rw [if_pos h2] at h
  cases h
  exact ⟨by omega, hit 2 (by omega) h2⟩
 rw [if_neg h2] at h
 by_cases h3 : Lib.hasPrefix t (eL 3) = true
 ·rw [if_pos h3] at h
  cases h
  exact ⟨by omega, hit 3 (by omega) h3⟩
 rw [if_neg h3] at h
 cases t with
 | nil => cases h
 | cons c r =>
  simp only at h
  by_cases hm : escM c = []
  ·rw [if_pos hm] at h
   cases h
   refine ⟨by omega, ?_⟩
   rw [show esc b = [b] from if_pos hm]
   rfl
  ·rw [if_neg hm] at h
   cases h
theorem escaped_plain : ∀ (n : Nat) (t p : List UInt8), t.length <= n -> plL t = some p -> escL p = t
 | 0, t, p, hn, h => by
  have : t = [] := List.eq_nil_of_length_eq_zero (by omega)
  subst this
  rw [plL_nil] at h
  cases h
  rfl
 | n + 1, t, p, hn, h => by
  by_cases ht : t = []
  ·subst ht
   rw [plL_nil] at h
   cases h
   rfl
  ·cases hp : pst t with
   | none => rw [plL_none t ht hp] at h; cases h
   | some bk =>
    obtain ⟨b, k⟩ := bk
    obtain ⟨hk, he⟩ := pst_back t b k hp
    rw [plL_some t b k ht hp hk] at h
    cases hq : plL (t.drop k) with
    | none => rw [hq] at h; cases h
    | some p' =>
     rw [hq] at h
     cases h
     have hl : 0 < t.length := by cases t with | nil => exact absurd rfl ht | cons a b => simp
     have ih := escaped_plain n (t.drop k) p' (by rw [List.length_drop]; omega) hq
     show escL (b :: p') = t
     have e : escL (b :: p') = esc b ++ escL p' := by unfold escL; rw [List.flatMap_cons]
     rw [e, ih, <- he]
theorem plain_len : ∀ p : List UInt8, p.length <= (escL p).length
 | [] => Nat.le_refl _
 | c :: l => by
  have e : escL (c :: l) = esc c ++ escL l := by unfold escL; rw [List.flatMap_cons]
  have h := plain_len l
  have h1 : 1 <= (esc c).length := by
   cases hq : esc c with
   | nil => exact absurd hq (esc_ne c)
   | cons a b => simp
  rw [e, List.length_append, List.length_cons]
  omega
theorem no_marks (l : List UInt8) (b : UInt8) (h : b ∈ escL l) : b ≠ 60 /\ b ≠ 62 /\ b ≠ 34 := by
 unfold escL at h
 obtain ⟨c, _, hc⟩ := List.mem_flatMap.1 h
 by_cases hm : escM c = []
 ·rw [show esc c = [c] from if_pos hm] at hc
  have : b = c := by simpa using hc
  subst this
  refine ⟨?_, ?_, ?_⟩ <;> (intro e; subst e; cases hm)
 ·obtain ⟨k, hk, _, he⟩ := esc_mark c hm
  rw [he] at hc
  rcases k with _ | _ | _ | _ | k
  all_goals first | omega | (simp [eL, eB] at hc; rcases hc with rfl | rfl | rfl | rfl | rfl | rfl <;> decide) | (simp [eL, eB] at hc; rcases hc with rfl | rfl | rfl | rfl | rfl <;> decide) | (simp [eL, eB] at hc; rcases hc with rfl | rfl | rfl | rfl <;> decide)
end Go.Proofs.YtffkakpbelknaaaGreatDoor

/- Joined: W8a, W8b, PlainE. -/
import Derived.Lib.AppendStr
import Derived.Laws.DeepStrings4
import Derived.IntWalk
import Derived.Test.YtffkakpbelknaaaGreatDoorF2
import Derived.Test.YtffkakpbelknaaaGreatDoorF10
/- W8a -/
namespace Go.Proofs.YtffkakpbelknaaaGreatDoor
open Go.ChangeShapes Go.WideShapes Go.ChangeAt Go.RowKit Go.Shelf
set_option linter.unusedVariables false

/-- What stands for a mark; nothing for another byte. -/
def escM (c : UInt8) : List UInt8 := if c = 38 then [38, 97, 109, 112, 59] else if c = 60 then [38, 108, 116, 59] else if c = 62 then [38, 103, 116, 59] else if c = 34 then [38, 113, 117, 111, 116, 59] else []
def esc (c : UInt8) : List UInt8 := if escM c = [] then [c] else escM c
def escL (l : List UInt8) : List UInt8 := l.flatMap esc
theorem escL_snoc (l : List UInt8) (c : UInt8) : escL (l ++ [c]) = escL l ++ esc c := by simp [escL]
theorem esc_len (c : UInt8) : (esc c).length ≤ 6 := by
  unfold esc
  split
  · simp
  · unfold escM
    split <;> (try split) <;> (try split) <;> (try split) <;> simp
theorem escL_len : ∀ l : List UInt8, (escL l).length ≤ 6 * l.length
  | [] => by simp [escL]
  | c :: l => by
    have h := escL_len l
    have := esc_len c
    unfold escL at h ⊢
    rw [List.flatMap_cons, List.length_append, List.length_cons]
    omega
def escB (s : ByteArray) : ByteArray := ⟨(escL s.data.toList).toArray⟩
def escR (s : ByteArray) : ByteArray := if s.size ≤ 200 then escB s else ⟨#[]⟩
def escS (c : UInt8) : ByteArray := ⟨(escM c).toArray⟩

/-- The table of escapes lies as it should. -/
def ETab (w : World) : Prop := ∃ t, w.heap[1]? = some (.cells #[.string ⟨#[38, 97, 109, 112, 59]⟩, .string ⟨#[38, 108, 116, 59]⟩, .string ⟨#[38, 103, 116, 59]⟩, .string ⟨#[38, 113, 117, 111, 116, 59]⟩] t (0, 0))
theorem ETab.below {w w' : World} {B : Nat} (h : ETab w) (hb : Below B w w') (hB : w.heap.size ≤ B) : ETab w' := by
  obtain ⟨t, h⟩ := h
  exact ⟨t, (hb.block _ (by have := (Array.getElem?_eq_some_iff.1 h).1; omega)).trans h⟩
/-- A mark, its place and what stands for it. -/
theorem mark_at (c : UInt8) (w : World) (hE : ETab w) (h : escM c ≠ []) : ∃ (j : Nat) (E : ByteArray), j < 4 ∧ Lib.indexByte [38, 60, 62, 34] c = (j : Int) ∧ w.cell? ⟨1, j, none⟩ = some (.string E) ∧ E.data.toList = esc c ∧ E.size ≤ 6 := by
  obtain ⟨t, hE⟩ := hE
  have he : esc c = escM c := if_neg h
  rw [he]
  unfold escM at h ⊢
  by_cases h1 : c = 38
  · subst h1
    exact ⟨0, ⟨#[38, 97, 109, 112, 59]⟩, by omega, rfl, by simp [World.cell?, hE], rfl, by decide⟩
  rw [if_neg h1] at h ⊢
  by_cases h2 : c = 60
  · subst h2
    exact ⟨1, ⟨#[38, 108, 116, 59]⟩, by omega, by decide, by simp [World.cell?, hE], rfl, by decide⟩
  rw [if_neg h2] at h ⊢
  by_cases h3 : c = 62
  · subst h3
    exact ⟨2, ⟨#[38, 103, 116, 59]⟩, by omega, by decide, by simp [World.cell?, hE], rfl, by decide⟩
  rw [if_neg h3] at h ⊢
  by_cases h4 : c = 34
  · subst h4
    exact ⟨3, ⟨#[38, 113, 117, 111, 116, 59]⟩, by omega, by decide, by simp [World.cell?, hE], rfl, by decide⟩
  · rw [if_neg h4] at h
    exact absurd rfl h
theorem mark_no (c : UInt8) (h : escM c = []) : Lib.indexByte [38, 60, 62, 34] c = -1 := by
  unfold escM at h
  by_cases h1 : c = 38
  · rw [if_pos h1] at h; cases h
  rw [if_neg h1] at h
  by_cases h2 : c = 60
  · rw [if_pos h2] at h; cases h
  rw [if_neg h2] at h
  by_cases h3 : c = 62
  · rw [if_pos h3] at h; cases h
  rw [if_neg h3] at h
  by_cases h4 : c = 34
  · rw [if_pos h4] at h; cases h
  have e1 : (38 == c) = false := by simpa using fun h => h1 h.symm
  have e2 : (60 == c) = false := by simpa using fun h => h2 h.symm
  have e3 : (62 == c) = false := by simpa using fun h => h3 h.symm
  have e4 : (34 == c) = false := by simpa using fun h => h4 h.symm
  simp only [Lib.indexByte, e1, e2, e3, e4]
  rfl
theorem index_any (c : UInt8) (w : World) : Calls Tryz.prog 81 #[.string ⟨#[38, 60, 62, 34]⟩, .int .u8 (c.toNat : Int)] w fun e w' => e = .returned (.int .i64 (Lib.indexByte [38, 60, 62, 34] c)) ∧ w = w' := by
  have h := Tryz.strings_IndexByte ⟨#[38, 60, 62, 34]⟩ (c.toNat : Int) w
  rw [show ((c.toNat : Int).toNat.toUInt8) = c by simp] at h
  exact h.mono (fun e w' h => ⟨h.1, h.2.symm⟩)

theorem wpList_appS8 {w : World} {ops : Array Oper} {rest : List Oper} {o : Oper} {a : Act} {Q : Exit → Act → World → Prop} (hgd : o.guard = none) (s x : Operand)
    (ho : o.op = .call { callee := .builtin .append, args := #[s, x], argTypes := #[22, 9] })
    (base : Nat) (v : Value) (l : List UInt8) (hs : a.eval s = v) (hown : OwnB w base v l) (t : ByteArray) (hx : a.eval x = .string t)
    (hl : l.length + t.size ≤ 1000000000) (hbase : base ≤ w.heap.size)
    (h : ∀ v' w', OwnB w' base v' (l ++ t.data.toList) → Below base w w' → wpList Tryz.prog ops Q rest (a.put o.dst v') w') :
    wpList Tryz.prog ops Q (o :: rest) a w := by
  obtain ⟨i0, hi, hz0, hz1, hz2⟩ := info_parts Tryz.infoU8
  refine Lib.wpList_append_own_string w hgd s x 22 9 ho base 5 i0 Tryz.underlying22 Tryz.underlying9 hi hz0 hz1 hz2 v l.length (l.map bc) hs hown t hx (by unfold maxLen; omega) (by omega) hbase ?_
  intro v' w1 hown1 hgrow _
  refine h _ _ ?_ ((Below.refl _ _).grown hgrow hbase (ownBlock_base hown))
  have e : (l ++ t.data.toList).length = l.length + t.size := by simp
  unfold OwnB
  rw [e, List.map_append]
  exact hown1
theorem OwnB.keep8 {w w' : World} {base B : Nat} {v : Value} {l : List UInt8} (h : OwnB w base v l) (hb : Below B w w') (hB : w.heap.size ≤ B) : OwnB w' base v l := by
  refine ⟨h.1, ?_⟩
  rcases h.2 with h0 | ⟨g, cap, cur, hv, hg, hw, r⟩
  · exact .inl h0
  · exact .inr ⟨g, cap, cur, hv, hg, (hb.block g (by have := (Array.getElem?_eq_some_iff.1 hw).1; omega)).trans hw, r⟩

set_option maxRecDepth 100000 in
set_option maxHeartbeats 2000000 in
theorem implEscaped_any (s : ByteArray) (w : World) (hE : ETab w) :
    Calls Tryz.prog 33 #[.string s] w fun e w' => e = .returned (.string (escR s)) ∧ Below w.heap.size w w' := by
  by_cases h : s.size ≤ 200
  · have HE : Hid (escR s = ⟨(escL s.data.toList).toArray⟩) := Lib.hid (by unfold escR; rw [if_pos h]; rfl)
    have hl : s.data.toList.length = s.size := by simp
    have HG : Hid (∀ k (h : k < s.size) (h' : k < s.data.toList.length), s[k] = s.data.toList[k]) := Lib.hid (fun k h h' => by simp; rfl)
    have HL := Lib.hid hl
    have HN := Lib.hid (escL_len)
    have HT := Lib.hid hE
    generalize escR s = out at HE ⊢
    have hd : ¬ (200 < (s.size : Int)) := by omega
    clear hl hE
    go_enter Tryz.func33, Tryz.ntmps33
    go_wp2_with (at_make; refine wpList_makeB rfl _ _ rfl w.heap.size .i64 .i64 (s.size : Int) rfl rfl (by omega) (by omega) (Nat.le_refl _) ?_; intro v0 w0 hown0 hb0)
    go_loopw [3, 14] (fun v i wr => ∃ k : Nat, k ≤ s.size ∧ i = .int .i64 (k : Int) ∧ OwnB wr w.heap.size v (escL (s.data.toList.take k)) ∧ Below w.heap.size w wr) (fun _ i _ => s.size - (intOf i).toNat)
    case atStart => exact ⟨0, Nat.zero_le _, rfl, hown0, hb0⟩
    case round =>
      obtain ⟨k, hk, rfl, hown, hB⟩ := hrel
      clear hown0 hb0
      by_cases hlt : k < s.size
      · have hkl : k < s.data.toList.length := by rw [HL.out]; exact hlt
        have HSN : Hid (escL (s.data.toList.take (k + 1)) = escL (s.data.toList.take k) ++ esc s[k]) := Lib.hid (by rw [List.take_succ_eq_append_getElem hkl, escL_snoc, HG.out k hlt hkl])
        have hlen := HN.out (s.data.toList.take k)
        have hlen2 : (s.data.toList.take k).length ≤ 200 := by rw [List.length_take]; omega
        have HI := Lib.hid (fun w => index_any s[k] w)
        have hsz := hB.size
        by_cases hm : escM s[k] = []
        · have he : esc s[k] = [s[k]] := if_pos hm
          rw [mark_no _ hm] at HI
          rw [he] at HSN
          clear hm he
          go_wp2_with fail
          refine (HI.out _).mono ?_
          rintro e w1 ⟨rfl, rfl⟩
          go_wp2_with (at_builtin; refine wpList_appB rfl (.tmp 28) (.tmp 32) rfl w.heap.size _ _ rfl (hown.alloc _) wr.heap.size 1 _ _ [s[k]] rfl (heap_alloc_new wr _) rfl rfl (by decide) (by omega) (by simp; omega) ?_; intro v1 w1 hown1 hb1)
          rw [← HSN.out] at hown1
          have hb2 := (hB.alloc hsz _).trans hb1
          clear hb1 hown
          go_wp2
          go_roundw
          case rel => exact ⟨k + 1, by omega, by go_num, hown1, hb2⟩
          case measure => simp [intOf]; omega
        · obtain ⟨j, E, hj, hix, hc, hEl, hEs⟩ := mark_at s[k] wr (HT.out.below hB (Nat.le_refl _)) hm
          rw [hix] at HI
          rw [← hEl] at HSN
          clear hm hix hEl
          go_wp2_with fail
          refine (HI.out _).mono ?_
          rintro e w1 ⟨rfl, rfl⟩
          go_wp2_with (at_builtin; refine wpList_appS8 rfl (.tmp 23) (.tmp 26) rfl w.heap.size _ _ rfl hown E rfl (by omega) hsz ?_; intro v1 w1 hown1 hb1)
          rw [← HSN.out] at hown1
          have hb2 := hB.trans hb1
          clear hb1 hown
          go_wp2
          go_roundw
          case rel => exact ⟨k + 1, by omega, by go_num, hown1, hb2⟩
          case measure => simp [intOf]; omega
      · have hc := conv_ownB hown
        have hke : k = s.size := by omega
        have HO : Hid ((⟨(escL (s.data.toList.take k)).toArray⟩ : ByteArray) = out) := Lib.hid (by rw [HE.out, List.take_of_length_le (by rw [HL.out]; omega)])
        rw [HO.out] at hc
        clear hke hown
        go_wp2
        go_ret
        exact ⟨rfl, hB⟩
  · have HE : Hid (escR s = ⟨#[]⟩) := Lib.hid (by unfold escR; rw [if_neg h])
    rw [HE.out]
    have hd : 200 < (s.size : Int) := by omega
    clear hE h
    go_enter Tryz.func33, Tryz.ntmps33
    go_wp2
    go_ret
    exact ⟨rfl, Below.refl _ _⟩
end Go.Proofs.YtffkakpbelknaaaGreatDoor

/- W8b -/
namespace Go.Proofs.YtffkakpbelknaaaGreatDoor
open Go.ChangeShapes Go.WideShapes Go.ChangeAt Go.RowKit Go.Shelf
set_option linter.unusedVariables false

theorem byte_ne {c d : UInt8} (h : ¬ c = d) : ((c.toNat : Int) == (d.toNat : Int)) = false := by
  have : c.toNat ≠ d.toNat := fun e => h (UInt8.toNat_inj.1 e)
  have h2 : ¬ (c.toNat : Int) = (d.toNat : Int) := by omega
  simpa using h2

set_option maxHeartbeats 1600000 in
theorem l8Escape_any (c : UInt8) (w : World) : Calls Tryz.prog 94 #[.int .u8 (c.toNat : Int)] w fun e w' => e = .returned (.string (escS c)) ∧ w = w' := by
  by_cases h1 : c = 38
  · subst h1
    go_enter Tryz.func94, Tryz.ntmps94
    go_wp2
    go_ret
    exact ⟨rfl, rfl⟩
  by_cases h2 : c = 60
  · subst h2
    go_enter Tryz.func94, Tryz.ntmps94
    go_wp2
    go_ret
    exact ⟨rfl, rfl⟩
  by_cases h3 : c = 62
  · subst h3
    go_enter Tryz.func94, Tryz.ntmps94
    go_wp2
    go_ret
    exact ⟨rfl, rfl⟩
  by_cases h4 : c = 34
  · subst h4
    go_enter Tryz.func94, Tryz.ntmps94
    go_wp2
    go_ret
    exact ⟨rfl, rfl⟩
  have HE : Hid (escS c = ⟨#[]⟩) := Lib.hid (by unfold escS escM; rw [if_neg h1, if_neg h2, if_neg h3, if_neg h4])
  rw [HE.out]
  have e1 : ((c.toNat : Int) == 38) = false := byte_ne (d := 38) h1
  have e2 : ((c.toNat : Int) == 60) = false := byte_ne (d := 60) h2
  have e3 : ((c.toNat : Int) == 62) = false := byte_ne (d := 62) h3
  have e4 : ((c.toNat : Int) == 34) = false := byte_ne (d := 34) h4
  clear h1 h2 h3 h4 HE
  go_enter Tryz.func94, Tryz.ntmps94
  go_wp2
  go_ret
  exact ⟨rfl, rfl⟩
theorem one_byte (s : ByteArray) (k : Nat) (h : k < s.size) : (s.extract k (k + 1)).data.toList = [s[k]] := by
  rw [ByteArray.data_extract, Array.toList_extract]
  have hk : k < s.data.toList.length := by simpa using h
  simp only [List.extract, Nat.add_sub_cancel_left]
  rw [List.drop_eq_getElem_cons hk, List.take_succ_cons, List.take_zero]
  simp; rfl
theorem app8 (a b : ByteArray) : (a ++ b).data.toList = a.data.toList ++ b.data.toList := by rw [ByteArray.data_append, Array.toList_append]
theorem escS_empty (c : UInt8) : (escS c).toList.isEmpty = (escM c).isEmpty := by
  unfold escS
  rw [ByteArray.toList_eq]

set_option maxRecDepth 100000 in
set_option maxHeartbeats 2000000 in
theorem l8Escaped_any (s : ByteArray) (w : World) (hs : s.size ≤ 1000) :
    Calls Tryz.prog 86 #[.string s] w fun e w' => e = .returned (.string (escB s)) ∧ Below w.heap.size w w' := by
  have HE : Hid (escB s = ⟨(escL s.data.toList).toArray⟩) := Lib.hid rfl
  have hl : s.data.toList.length = s.size := by simp
  have HG : Hid (∀ k (h : k < s.size) (h' : k < s.data.toList.length), s[k] = s.data.toList[k]) := Lib.hid (fun k h h' => by simp; rfl)
  have HL := Lib.hid hl
  have HN := Lib.hid (escL_len)
  generalize escB s = out at HE ⊢
  clear hl
  go_enter Tryz.func86, Tryz.ntmps86
  go_wp2
  go_loop [3, 4] (fun v i => ∃ (k : Nat) (X : ByteArray), k ≤ s.size ∧ i = .int .i64 (k : Int) ∧ v = .string X ∧ Hid (X.data.toList = escL (s.data.toList.take k))) (fun _ i => s.size - (intOf i).toNat)
  case atStart => exact ⟨0, ⟨#[]⟩, Nat.zero_le _, rfl, rfl, Lib.hid rfl⟩
  case round =>
    obtain ⟨k, X, hk, rfl, rfl, HX⟩ := hrel
    have hXs : X.size ≤ 6000 := by
      have h1 : X.data.toList.length = X.size := by simp
      have h2 := HN.out (s.data.toList.take k)
      rw [← HX.out, h1] at h2
      have h3 : (s.data.toList.take k).length ≤ k := by rw [List.length_take]; omega
      omega
    by_cases hlt : k < s.size
    · have hkl : k < s.data.toList.length := by rw [HL.out]; exact hlt
      have HSN : Hid (escL (s.data.toList.take (k + 1)) = escL (s.data.toList.take k) ++ esc s[k]) := Lib.hid (by rw [List.take_succ_eq_append_getElem hkl, escL_snoc, HG.out k hlt hkl])
      have HC := Lib.hid (fun w => l8Escape_any s[k] w)
      have hem := escS_empty s[k]
      by_cases hm : escM s[k] = []
      · have he : esc s[k] = [s[k]] := if_pos hm
        have HO := one_byte s k hlt
        rw [he, ← HO, ← HX.out] at HSN
        have hs1 : (s.extract k (k + 1)).size = 1 := by rw [ByteArray.size_extract]; omega
        obtain ⟨P, hP⟩ : ∃ P, P = s.extract k (k + 1) := ⟨_, rfl⟩
        have hP' := hP.symm
        rw [← hP] at HSN hs1
        obtain ⟨Y, hY⟩ : ∃ Y, X ++ P = Y := ⟨_, rfl⟩
        have HY : Hid (Y.data.toList = escL (s.data.toList.take (k + 1))) := Lib.hid (by rw [← hY, app8, HSN.out])
        rw [show escS s[k] = ⟨#[]⟩ by unfold escS; rw [hm]] at HC
        have hsum : X.size + P.size ≤ 10000 := by omega
        have hk1 : (k : Int) + 1 ≤ (s.size : Int) := by omega
        clear hm he HO hP HSN hem
        go_wp2_with fail
        refine (HC.out _).mono ?_
        rintro e w1 ⟨rfl, rfl⟩
        go_wp2
        refine ⟨⟨k + 1, Y, by omega, by simp, rfl, HY⟩, ?_⟩
        simp [intOf]; omega
      · have he : esc s[k] = escM s[k] := if_neg hm
        have hP : (escS s[k]).data.toList = escM s[k] := by unfold escS; simp
        have hps : (escS s[k]).size ≤ 6 := by
          have h1 := esc_len s[k]
          rw [he, ← hP] at h1
          simpa using h1
        have hem2 : (escS s[k]).toList.isEmpty = false := by
          rw [hem]
          cases hq : escM s[k] with
          | nil => exact absurd hq hm
          | cons a b => rfl
        rw [he, ← hP, ← HX.out] at HSN
        generalize escS s[k] = P at HC hps hem2 HSN
        obtain ⟨Y, hY⟩ : ∃ Y, X ++ P = Y := ⟨_, rfl⟩
        have HY : Hid (Y.data.toList = escL (s.data.toList.take (k + 1))) := Lib.hid (by rw [← hY, app8, HSN.out])
        have hsum : X.size + P.size ≤ 10000 := by omega
        clear hm he hP HSN hem
        go_wp2_with fail
        refine (HC.out _).mono ?_
        rintro e w1 ⟨rfl, rfl⟩
        go_wp2
        refine ⟨⟨k + 1, Y, by omega, by simp, rfl, HY⟩, ?_⟩
        simp [intOf]; omega
    · have hke : k = s.size := by omega
      have HO : Hid (X = out) := Lib.hid (by apply ba_eq; rw [HX.out, HE.out, List.take_of_length_le (by rw [HL.out]; omega)])
      clear hke
      go_wp2
      go_ret
      exact ⟨ret_str HO.out, Below.refl _ _⟩

end Go.Proofs.YtffkakpbelknaaaGreatDoor

/- PlainE -/
namespace Go.Proofs.YtffkakpbelknaaaGreatDoor
set_option linter.unusedVariables false

def eB : Nat → ByteArray
  | 0 => ⟨#[38, 97, 109, 112, 59]⟩
  | 1 => ⟨#[38, 108, 116, 59]⟩
  | 2 => ⟨#[38, 103, 116, 59]⟩
  | _ => ⟨#[38, 113, 117, 111, 116, 59]⟩
def eL (k : Nat) : List UInt8 := (eB k).data.toList
def mB : Nat → UInt8
  | 0 => 38
  | 1 => 60
  | 2 => 62
  | _ => 34
/-- The byte that comes first, and how many bytes stand for it. -/
def pst (l : List UInt8) : Option (UInt8 × Nat) :=
  if Lib.hasPrefix l (eL 0) = true then some (38, 5) else if Lib.hasPrefix l (eL 1) = true then some (60, 4) else if Lib.hasPrefix l (eL 2) = true then some (62, 4) else if Lib.hasPrefix l (eL 3) = true then some (34, 6)
  else match l with
    | [] => none
    | c :: _ => if escM c = [] then some (c, 1) else none
theorem pst_hit (l : List UInt8) (k : Nat) (hk : k < 4) (hn : ∀ j, j < k → Lib.hasPrefix l (eL j) = false) (h : Lib.hasPrefix l (eL k) = true) : pst l = some (mB k, (eB k).size) := by
  unfold pst
  rcases k with _ | _ | _ | _ | k
  · rw [if_pos h]; rfl
  · rw [hn 0 (by omega), if_pos h]; rfl
  · rw [hn 0 (by omega), hn 1 (by omega), if_pos h]; rfl
  · rw [hn 0 (by omega), hn 1 (by omega), hn 2 (by omega), if_pos h]; rfl
  · omega
theorem pst_miss (c : UInt8) (l : List UInt8) (hn : ∀ j, j < 4 → Lib.hasPrefix (c :: l) (eL j) = false) : pst (c :: l) = if escM c = [] then some (c, 1) else none := by
  unfold pst
  rw [hn 0 (by omega), hn 1 (by omega), hn 2 (by omega), hn 3 (by omega)]
  rfl
def plL (l : List UInt8) : Option (List UInt8) :=
  if h : l = [] then some [] else
  match pst l with
  | none => none
  | some (b, k) => if hk : 1 ≤ k then (plL (l.drop k)).map (fun r => b :: r) else none
termination_by l.length
decreasing_by
  have : 0 < l.length := by cases l with | nil => exact absurd rfl h | cons a b => simp
  simp; omega
theorem plL_nil : plL [] = some [] := by rw [plL, dif_pos rfl]
theorem plL_none (l : List UInt8) (h : l ≠ []) (hp : pst l = none) : plL l = none := by rw [plL, dif_neg h, hp]
theorem plL_some (l : List UInt8) (b : UInt8) (k : Nat) (h : l ≠ []) (hp : pst l = some (b, k)) (hk : 1 ≤ k) : plL l = (plL (l.drop k)).map (fun r => b :: r) := by rw [plL, dif_neg h, hp]; exact dif_pos hk
theorem pl_step (S l acc : List UInt8) (b : UInt8) (k : Nat) (h : l ≠ []) (hp : pst l = some (b, k)) (hk : 1 ≤ k) (hS : plL S = (plL l).map (fun r => acc ++ r)) : plL S = (plL (l.drop k)).map (fun r => (acc ++ [b]) ++ r) := by
  rw [hS, plL_some l b k h hp hk, Option.map_map]
  congr 1
  funext r
  simp
theorem pl_stop (S l acc : List UInt8) (h : l ≠ []) (hp : pst l = none) (hS : plL S = (plL l).map (fun r => acc ++ r)) : plL S = none := by
  rw [hS, plL_none l h hp]; rfl
theorem pl_end (S acc : List UInt8) (hS : plL S = (plL []).map (fun r => acc ++ r)) : plL S = some acc := by
  rw [hS, plL_nil]; simp
/-- What Plain answers. -/
def plV (s : ByteArray) : Value := if s.size ≤ 1200 then (match plL s.data.toList with | some r => .tuple #[.string ⟨r.toArray⟩, .bool true] | none => .tuple #[.string ⟨#[]⟩, .bool false]) else .tuple #[.string ⟨#[]⟩, .bool false]
theorem plV_long {s : ByteArray} (h : ¬ s.size ≤ 1200) : plV s = .tuple #[.string ⟨#[]⟩, .bool false] := if_neg h
theorem plV_none {s : ByteArray} (h : s.size ≤ 1200) (hp : plL s.data.toList = none) : plV s = .tuple #[.string ⟨#[]⟩, .bool false] := by
  unfold plV; rw [if_pos h, hp]
theorem plV_some {s : ByteArray} {r : List UInt8} (h : s.size ≤ 1200) (hp : plL s.data.toList = some r) : plV s = .tuple #[.string ⟨r.toArray⟩, .bool true] := by
  unfold plV; rw [if_pos h, hp]
theorem plV_form (s : ByteArray) : ∃ (t : ByteArray) (b : Bool), plV s = .tuple #[.string t, .bool b] := by
  unfold plV
  split
  · split
    · exact ⟨_, _, rfl⟩
    · exact ⟨_, _, rfl⟩
  · exact ⟨_, _, rfl⟩
theorem pre_len {l p : List UInt8} (h : Lib.hasPrefix l p = true) : p.length ≤ l.length := by
  unfold Lib.hasPrefix at h
  exact (List.isPrefixOf_iff_prefix.1 h).length_le
theorem trim_hit {l p : List UInt8} (h : Lib.hasPrefix l p = true) : Lib.trimPrefix l p = l.drop p.length := if_pos h
theorem eB_size (k : Nat) : 1 ≤ (eB k).size ∧ (eB k).size ≤ 6 := by
  rcases k with _ | _ | _ | k
  · decide
  · decide
  · decide
  · show 1 ≤ 6 ∧ 6 ≤ 6; omega
end Go.Proofs.YtffkakpbelknaaaGreatDoor

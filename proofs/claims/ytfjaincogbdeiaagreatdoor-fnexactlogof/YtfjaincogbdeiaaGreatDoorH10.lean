/- Joined: W8a, W8b. -/
import Derived.Lib.AppendStr
import Derived.Laws.DeepStrings4
import Derived.IntWalk
import Derived.Test.YtfjaincogbdeiaaGreatDoorH2
import Derived.Test.YtfjaincogbdeiaaGreatDoorH9
/- W8a -/
namespace Go.Proofs.YtfjaincogbdeiaaGreatDoor
open Go.ChangeShapes Go.WideShapes Go.ChangeAt Go.RowKit Go.Shelf
set_option linter.unusedVariables false

/-- What stands for a mark; nothing for another byte. -/
def escM (c : UInt8) : List UInt8 := if c = 38 then [38, 97, 109, 112, 59] else if c = 60 then [38, 108, 116, 59] else if c = 62 then [38, 103, 116, 59] else if c = 34 then [38, 113, 117, 111, 116, 59] else []
def esc (c : UInt8) : List UInt8 := if escM c = [] then [c] else escM c
def escL (l : List UInt8) : List UInt8 := l.flatMap esc
theorem escL_snoc (l : List UInt8) (c : UInt8) : escL (l ++ [c]) = escL l ++ esc c := by simp [escL]
theorem esc_len (c : UInt8) : (esc c).length ≤ 6 := by
  unfold esc
  split
  · simp
  · unfold escM
    split <;> (try split) <;> (try split) <;> (try split) <;> simp
theorem escL_len : ∀ l : List UInt8, (escL l).length ≤ 6 * l.length
  | [] => by simp [escL]
  | c :: l => by
    have h := escL_len l
    have := esc_len c
    unfold escL at h ⊢
    rw [List.flatMap_cons, List.length_append, List.length_cons]
    omega
def escB (s : ByteArray) : ByteArray := ⟨(escL s.data.toList).toArray⟩
def escR (s : ByteArray) : ByteArray := if s.size ≤ 200 then escB s else ⟨#[]⟩
def escS (c : UInt8) : ByteArray := ⟨(escM c).toArray⟩

/-- The table of escapes lies as it should. -/
def ETab (w : World) : Prop := ∃ t, w.heap[3]? = some (.cells #[.string ⟨#[38, 97, 109, 112, 59]⟩, .string ⟨#[38, 108, 116, 59]⟩, .string ⟨#[38, 103, 116, 59]⟩, .string ⟨#[38, 113, 117, 111, 116, 59]⟩] t (0, 0))
theorem ETab.below {w w' : World} {B : Nat} (h : ETab w) (hb : Below B w w') (hB : w.heap.size ≤ B) : ETab w' := by
  obtain ⟨t, h⟩ := h
  exact ⟨t, (hb.block _ (by have := (Array.getElem?_eq_some_iff.1 h).1; omega)).trans h⟩
/-- A mark, its place and what stands for it. -/
theorem mark_at (c : UInt8) (w : World) (hE : ETab w) (h : escM c ≠ []) : ∃ (j : Nat) (E : ByteArray), j < 4 ∧ Lib.indexByte [38, 60, 62, 34] c = (j : Int) ∧ w.cell? ⟨3, j, none⟩ = some (.string E) ∧ E.data.toList = esc c ∧ E.size ≤ 6 := by
  obtain ⟨t, hE⟩ := hE
  have he : esc c = escM c := if_neg h
  rw [he]
  unfold escM at h ⊢
  by_cases h1 : c = 38
  · subst h1
    exact ⟨0, ⟨#[38, 97, 109, 112, 59]⟩, by omega, rfl, by simp [World.cell?, hE], rfl, by decide⟩
  rw [if_neg h1] at h ⊢
  by_cases h2 : c = 60
  · subst h2
    exact ⟨1, ⟨#[38, 108, 116, 59]⟩, by omega, by decide, by simp [World.cell?, hE], rfl, by decide⟩
  rw [if_neg h2] at h ⊢
  by_cases h3 : c = 62
  · subst h3
    exact ⟨2, ⟨#[38, 103, 116, 59]⟩, by omega, by decide, by simp [World.cell?, hE], rfl, by decide⟩
  rw [if_neg h3] at h ⊢
  by_cases h4 : c = 34
  · subst h4
    exact ⟨3, ⟨#[38, 113, 117, 111, 116, 59]⟩, by omega, by decide, by simp [World.cell?, hE], rfl, by decide⟩
  · rw [if_neg h4] at h
    exact absurd rfl h
theorem mark_no (c : UInt8) (h : escM c = []) : Lib.indexByte [38, 60, 62, 34] c = -1 := by
  unfold escM at h
  by_cases h1 : c = 38
  · rw [if_pos h1] at h; cases h
  rw [if_neg h1] at h
  by_cases h2 : c = 60
  · rw [if_pos h2] at h; cases h
  rw [if_neg h2] at h
  by_cases h3 : c = 62
  · rw [if_pos h3] at h; cases h
  rw [if_neg h3] at h
  by_cases h4 : c = 34
  · rw [if_pos h4] at h; cases h
  have e1 : (38 == c) = false := by simpa using fun h => h1 h.symm
  have e2 : (60 == c) = false := by simpa using fun h => h2 h.symm
  have e3 : (62 == c) = false := by simpa using fun h => h3 h.symm
  have e4 : (34 == c) = false := by simpa using fun h => h4 h.symm
  simp only [Lib.indexByte, e1, e2, e3, e4]
  rfl
theorem index_any (c : UInt8) (w : World) : Calls Tryz.prog 136 #[.string ⟨#[38, 60, 62, 34]⟩, .int .u8 (c.toNat : Int)] w fun e w' => e = .returned (.int .i64 (Lib.indexByte [38, 60, 62, 34] c)) ∧ w = w' := by
  have h := Tryz.strings_IndexByte ⟨#[38, 60, 62, 34]⟩ (c.toNat : Int) w
  rw [show ((c.toNat : Int).toNat.toUInt8) = c by simp] at h
  exact h.mono (fun e w' h => ⟨h.1, h.2.symm⟩)

theorem wpList_appS8 {w : World} {ops : Array Oper} {rest : List Oper} {o : Oper} {a : Act} {Q : Exit → Act → World → Prop} (hgd : o.guard = none) (s x : Operand)
    (ho : o.op = .call { callee := .builtin .append, args := #[s, x], argTypes := #[56, 9] })
    (base : Nat) (v : Value) (l : List UInt8) (hs : a.eval s = v) (hown : OwnB w base v l) (t : ByteArray) (hx : a.eval x = .string t)
    (hl : l.length + t.size ≤ 1000000000) (hbase : base ≤ w.heap.size)
    (h : ∀ v' w', OwnB w' base v' (l ++ t.data.toList) → Below base w w' → wpList Tryz.prog ops Q rest (a.put o.dst v') w') :
    wpList Tryz.prog ops Q (o :: rest) a w := by
  obtain ⟨i0, hi, hz0, hz1, hz2⟩ := info_parts Tryz.infoU8
  refine Lib.wpList_append_own_string w hgd s x 56 9 ho base 5 i0 Tryz.underlying56 Tryz.underlying9 hi hz0 hz1 hz2 v l.length (l.map bc) hs hown t hx (by unfold maxLen; omega) (by omega) hbase ?_
  intro v' w1 hown1 hgrow _
  refine h _ _ ?_ ((Below.refl _ _).grown hgrow hbase (ownBlock_base hown))
  have e : (l ++ t.data.toList).length = l.length + t.size := by simp
  unfold OwnB
  rw [e, List.map_append]
  exact hown1
theorem OwnB.keep8 {w w' : World} {base B : Nat} {v : Value} {l : List UInt8} (h : OwnB w base v l) (hb : Below B w w') (hB : w.heap.size ≤ B) : OwnB w' base v l := by
  refine ⟨h.1, ?_⟩
  rcases h.2 with h0 | ⟨g, cap, cur, hv, hg, hw, r⟩
  · exact .inl h0
  · exact .inr ⟨g, cap, cur, hv, hg, (hb.block g (by have := (Array.getElem?_eq_some_iff.1 hw).1; omega)).trans hw, r⟩

set_option maxRecDepth 100000 in
set_option maxHeartbeats 2000000 in
theorem implEscaped_any (s : ByteArray) (w : World) (hE : ETab w) :
    Calls Tryz.prog 102 #[.string s] w fun e w' => e = .returned (.string (escR s)) ∧ Below w.heap.size w w' := by
  by_cases h : s.size ≤ 200
  · have HE : Hid (escR s = ⟨(escL s.data.toList).toArray⟩) := Lib.hid (by unfold escR; rw [if_pos h]; rfl)
    have hl : s.data.toList.length = s.size := by simp
    have HG : Hid (∀ k (h : k < s.size) (h' : k < s.data.toList.length), s[k] = s.data.toList[k]) := Lib.hid (fun k h h' => by simp; rfl)
    have HL := Lib.hid hl
    have HN := Lib.hid (escL_len)
    have HT := Lib.hid hE
    generalize escR s = out at HE ⊢
    have hd : ¬ (200 < (s.size : Int)) := by omega
    clear hl hE
    go_enter Tryz.func102, Tryz.ntmps102
    go_wp2_with (at_make; refine wpList_makeB rfl _ _ rfl w.heap.size .i64 .i64 (s.size : Int) rfl rfl (by omega) (by omega) (Nat.le_refl _) ?_; intro v0 w0 hown0 hb0)
    go_loopw [3, 14] (fun v i wr => ∃ k : Nat, k ≤ s.size ∧ i = .int .i64 (k : Int) ∧ OwnB wr w.heap.size v (escL (s.data.toList.take k)) ∧ Below w.heap.size w wr) (fun _ i _ => s.size - (intOf i).toNat)
    case atStart => exact ⟨0, Nat.zero_le _, rfl, hown0, hb0⟩
    case round =>
      obtain ⟨k, hk, rfl, hown, hB⟩ := hrel
      clear hown0 hb0
      by_cases hlt : k < s.size
      · have hkl : k < s.data.toList.length := by rw [HL.out]; exact hlt
        have HSN : Hid (escL (s.data.toList.take (k + 1)) = escL (s.data.toList.take k) ++ esc s[k]) := Lib.hid (by rw [List.take_succ_eq_append_getElem hkl, escL_snoc, HG.out k hlt hkl])
        have hlen := HN.out (s.data.toList.take k)
        have hlen2 : (s.data.toList.take k).length ≤ 200 := by rw [List.length_take]; omega
        have HI := Lib.hid (fun w => index_any s[k] w)
        have hsz := hB.size
        by_cases hm : escM s[k] = []
        · have he : esc s[k] = [s[k]] := if_pos hm
          rw [mark_no _ hm] at HI
          rw [he] at HSN
          clear hm he
          go_wp2_with fail
          refine (HI.out _).mono ?_
          rintro e w1 ⟨rfl, rfl⟩
          go_wp2_with (at_builtin; refine wpList_appB rfl (.tmp 28) (.tmp 32) rfl w.heap.size _ _ rfl (hown.alloc _) wr.heap.size 1 _ _ [s[k]] rfl (heap_alloc_new wr _) rfl rfl (by decide) (by omega) (by simp; omega) ?_; intro v1 w1 hown1 hb1)
          rw [← HSN.out] at hown1
          have hb2 := (hB.alloc hsz _).trans hb1
          clear hb1 hown
          go_wp2
          go_roundw
          case rel => exact ⟨k + 1, by omega, by go_num, hown1, hb2⟩
          case measure => simp [intOf]; omega
        · obtain ⟨j, E, hj, hix, hc, hEl, hEs⟩ := mark_at s[k] wr (HT.out.below hB (Nat.le_refl _)) hm
          rw [hix] at HI
          rw [← hEl] at HSN
          clear hm hix hEl
          go_wp2_with fail
          refine (HI.out _).mono ?_
          rintro e w1 ⟨rfl, rfl⟩
          go_wp2_with (at_builtin; refine wpList_appS8 rfl (.tmp 23) (.tmp 26) rfl w.heap.size _ _ rfl hown E rfl (by omega) hsz ?_; intro v1 w1 hown1 hb1)
          rw [← HSN.out] at hown1
          have hb2 := hB.trans hb1
          clear hb1 hown
          go_wp2
          go_roundw
          case rel => exact ⟨k + 1, by omega, by go_num, hown1, hb2⟩
          case measure => simp [intOf]; omega
      · have hc := conv_ownB hown
        have hke : k = s.size := by omega
        have HO : Hid ((⟨(escL (s.data.toList.take k)).toArray⟩ : ByteArray) = out) := Lib.hid (by rw [HE.out, List.take_of_length_le (by rw [HL.out]; omega)])
        rw [HO.out] at hc
        clear hke hown
        go_wp2
        go_ret
        exact ⟨rfl, hB⟩
  · have HE : Hid (escR s = ⟨#[]⟩) := Lib.hid (by unfold escR; rw [if_neg h])
    rw [HE.out]
    have hd : 200 < (s.size : Int) := by omega
    clear hE h
    go_enter Tryz.func102, Tryz.ntmps102
    go_wp2
    go_ret
    exact ⟨rfl, Below.refl _ _⟩
end Go.Proofs.YtfjaincogbdeiaaGreatDoor

/- W8b -/
namespace Go.Proofs.YtfjaincogbdeiaaGreatDoor
open Go.ChangeShapes Go.WideShapes Go.ChangeAt Go.RowKit Go.Shelf
set_option linter.unusedVariables false

theorem byte_ne {c d : UInt8} (h : ¬ c = d) : ((c.toNat : Int) == (d.toNat : Int)) = false := by
  have : c.toNat ≠ d.toNat := fun e => h (UInt8.toNat_inj.1 e)
  have h2 : ¬ (c.toNat : Int) = (d.toNat : Int) := by omega
  simpa using h2

set_option maxHeartbeats 1600000 in
theorem l8Escape_any (c : UInt8) (w : World) : Calls Tryz.prog 125 #[.int .u8 (c.toNat : Int)] w fun e w' => e = .returned (.string (escS c)) ∧ w = w' := by
  by_cases h1 : c = 38
  · subst h1
    go_enter Tryz.func125, Tryz.ntmps125
    go_wp2
    go_ret
    exact ⟨rfl, rfl⟩
  by_cases h2 : c = 60
  · subst h2
    go_enter Tryz.func125, Tryz.ntmps125
    go_wp2
    go_ret
    exact ⟨rfl, rfl⟩
  by_cases h3 : c = 62
  · subst h3
    go_enter Tryz.func125, Tryz.ntmps125
    go_wp2
    go_ret
    exact ⟨rfl, rfl⟩
  by_cases h4 : c = 34
  · subst h4
    go_enter Tryz.func125, Tryz.ntmps125
    go_wp2
    go_ret
    exact ⟨rfl, rfl⟩
  have HE : Hid (escS c = ⟨#[]⟩) := Lib.hid (by unfold escS escM; rw [if_neg h1, if_neg h2, if_neg h3, if_neg h4])
  rw [HE.out]
  have e1 : ((c.toNat : Int) == 38) = false := byte_ne (d := 38) h1
  have e2 : ((c.toNat : Int) == 60) = false := byte_ne (d := 60) h2
  have e3 : ((c.toNat : Int) == 62) = false := byte_ne (d := 62) h3
  have e4 : ((c.toNat : Int) == 34) = false := byte_ne (d := 34) h4
  clear h1 h2 h3 h4 HE
  go_enter Tryz.func125, Tryz.ntmps125
  go_wp2
  go_ret
  exact ⟨rfl, rfl⟩
theorem one_byte (s : ByteArray) (k : Nat) (h : k < s.size) : (s.extract k (k + 1)).data.toList = [s[k]] := by
  rw [ByteArray.data_extract, Array.toList_extract]
  have hk : k < s.data.toList.length := by simpa using h
  simp only [List.extract, Nat.add_sub_cancel_left]
  rw [List.drop_eq_getElem_cons hk, List.take_succ_cons, List.take_zero]
  simp; rfl
theorem app8 (a b : ByteArray) : (a ++ b).data.toList = a.data.toList ++ b.data.toList := by rw [ByteArray.data_append, Array.toList_append]
theorem escS_empty (c : UInt8) : (escS c).toList.isEmpty = (escM c).isEmpty := by
  unfold escS
  rw [ByteArray.toList_eq]

set_option maxRecDepth 100000 in
set_option maxHeartbeats 2000000 in
theorem l8Escaped_any (s : ByteArray) (w : World) (hs : s.size ≤ 1000) :
    Calls Tryz.prog 90 #[.string s] w fun e w' => e = .returned (.string (escB s)) ∧ Below w.heap.size w w' := by
  have HE : Hid (escB s = ⟨(escL s.data.toList).toArray⟩) := Lib.hid rfl
  have hl : s.data.toList.length = s.size := by simp
  have HG : Hid (∀ k (h : k < s.size) (h' : k < s.data.toList.length), s[k] = s.data.toList[k]) := Lib.hid (fun k h h' => by simp; rfl)
  have HL := Lib.hid hl
  have HN := Lib.hid (escL_len)
  generalize escB s = out at HE ⊢
  clear hl
  go_enter Tryz.func90, Tryz.ntmps90
  go_wp2
  go_loop [3, 4] (fun v i => ∃ (k : Nat) (X : ByteArray), k ≤ s.size ∧ i = .int .i64 (k : Int) ∧ v = .string X ∧ Hid (X.data.toList = escL (s.data.toList.take k))) (fun _ i => s.size - (intOf i).toNat)
  case atStart => exact ⟨0, ⟨#[]⟩, Nat.zero_le _, rfl, rfl, Lib.hid rfl⟩
  case round =>
    obtain ⟨k, X, hk, rfl, rfl, HX⟩ := hrel
    have hXs : X.size ≤ 6000 := by
      have h1 : X.data.toList.length = X.size := by simp
      have h2 := HN.out (s.data.toList.take k)
      rw [← HX.out, h1] at h2
      have h3 : (s.data.toList.take k).length ≤ k := by rw [List.length_take]; omega
      omega
    by_cases hlt : k < s.size
    · have hkl : k < s.data.toList.length := by rw [HL.out]; exact hlt
      have HSN : Hid (escL (s.data.toList.take (k + 1)) = escL (s.data.toList.take k) ++ esc s[k]) := Lib.hid (by rw [List.take_succ_eq_append_getElem hkl, escL_snoc, HG.out k hlt hkl])
      have HC := Lib.hid (fun w => l8Escape_any s[k] w)
      have hem := escS_empty s[k]
      by_cases hm : escM s[k] = []
      · have he : esc s[k] = [s[k]] := if_pos hm
        have HO := one_byte s k hlt
        rw [he, ← HO, ← HX.out] at HSN
        have hs1 : (s.extract k (k + 1)).size = 1 := by rw [ByteArray.size_extract]; omega
        obtain ⟨P, hP⟩ : ∃ P, P = s.extract k (k + 1) := ⟨_, rfl⟩
        have hP' := hP.symm
        rw [← hP] at HSN hs1
        obtain ⟨Y, hY⟩ : ∃ Y, X ++ P = Y := ⟨_, rfl⟩
        have HY : Hid (Y.data.toList = escL (s.data.toList.take (k + 1))) := Lib.hid (by rw [← hY, app8, HSN.out])
        rw [show escS s[k] = ⟨#[]⟩ by unfold escS; rw [hm]] at HC
        have hsum : X.size + P.size ≤ 10000 := by omega
        have hk1 : (k : Int) + 1 ≤ (s.size : Int) := by omega
        clear hm he HO hP HSN hem
        go_wp2_with fail
        refine (HC.out _).mono ?_
        rintro e w1 ⟨rfl, rfl⟩
        go_wp2
        refine ⟨⟨k + 1, Y, by omega, by simp, rfl, HY⟩, ?_⟩
        simp [intOf]; omega
      · have he : esc s[k] = escM s[k] := if_neg hm
        have hP : (escS s[k]).data.toList = escM s[k] := by unfold escS; simp
        have hps : (escS s[k]).size ≤ 6 := by
          have h1 := esc_len s[k]
          rw [he, ← hP] at h1
          simpa using h1
        have hem2 : (escS s[k]).toList.isEmpty = false := by
          rw [hem]
          cases hq : escM s[k] with
          | nil => exact absurd hq hm
          | cons a b => rfl
        rw [he, ← hP, ← HX.out] at HSN
        generalize escS s[k] = P at HC hps hem2 HSN
        obtain ⟨Y, hY⟩ : ∃ Y, X ++ P = Y := ⟨_, rfl⟩
        have HY : Hid (Y.data.toList = escL (s.data.toList.take (k + 1))) := Lib.hid (by rw [← hY, app8, HSN.out])
        have hsum : X.size + P.size ≤ 10000 := by omega
        clear hm he hP HSN hem
        go_wp2_with fail
        refine (HC.out _).mono ?_
        rintro e w1 ⟨rfl, rfl⟩
        go_wp2
        refine ⟨⟨k + 1, Y, by omega, by simp, rfl, HY⟩, ?_⟩
        simp [intOf]; omega
    · have hke : k = s.size := by omega
      have HO : Hid (X = out) := Lib.hid (by apply ba_eq; rw [HX.out, HE.out, List.take_of_length_le (by rw [HL.out]; omega)])
      clear hke
      go_wp2
      go_ret
      exact ⟨ret_str HO.out, Below.refl _ _⟩

end Go.Proofs.YtfjaincogbdeiaaGreatDoor

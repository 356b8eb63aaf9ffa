/- Contracts: texts without marks (chapter 8), of the program and of the reference. -/
import Derived.Test.YtfjaincogbdeiaaGreatDoorOwn
import Derived.Test.YtfjaincogbdeiaaGreatDoorShelf
import Derived.Lib.AppendStr
import Derived.Laws.DeepStrings4
import Derived.IntWalk
namespace Go.Proofs.YtfjaincogbdeiaaGreatDoor
open Go.ChangeShapes Go.WideShapes Go.ChangeAt Go.RowKit Go.Shelf
set_option linter.unusedVariables false

/-- What stands for a mark; nothing for another byte. -/
def escM (c : UInt8) : List UInt8 := if c = 38 then [38, 97, 109, 112, 59] else if c = 60 then [38, 108, 116, 59] else if c = 62 then [38, 103, 116, 59] else if c = 34 then [38, 113, 117, 111, 116, 59] else []
def esc (c : UInt8) : List UInt8 := if escM c = [] then [c] else escM c
def escL (l : List UInt8) : List UInt8 := l.flatMap esc
theorem escL_snoc (l : List UInt8) (c : UInt8) : escL (l ++ [c]) = escL l ++ esc c := by simp [escL]
theorem esc_len (c : UInt8) : (esc c).length ≤ 6 := by
  unfold esc
  split
  · simp
  · unfold escM
    split <;> (try split) <;> (try split) <;> (try split) <;> simp
theorem escL_len : ∀ l : List UInt8, (escL l).length ≤ 6 * l.length
  | [] => by simp [escL]
  | c :: l => by
    have h := escL_len l
    have := esc_len c
    unfold escL at h ⊢
    rw [List.flatMap_cons, List.length_append, List.length_cons]
    omega
def escB (s : ByteArray) : ByteArray := ⟨(escL s.data.toList).toArray⟩
def escR (s : ByteArray) : ByteArray := if s.size ≤ 200 then escB s else ⟨#[]⟩
def escS (c : UInt8) : ByteArray := ⟨(escM c).toArray⟩

/-- The table of escapes lies as it should. -/
def ETab (w : World) : Prop := ∃ t, w.heap[3]? = some (.cells #[.string ⟨#[38, 97, 109, 112, 59]⟩, .string ⟨#[38, 108, 116, 59]⟩, .string ⟨#[38, 103, 116, 59]⟩, .string ⟨#[38, 113, 117, 111, 116, 59]⟩] t (0, 0))
theorem ETab.below {w w' : World} {B : Nat} (h : ETab w) (hb : Below B w w') (hB : w.heap.size ≤ B) : ETab w' := by
  obtain ⟨t, h⟩ := h
  exact ⟨t, (hb.block _ (by have := (Array.getElem?_eq_some_iff.1 h).1; omega)).trans h⟩
/-- A mark, its place and what stands for it. -/
theorem mark_at (c : UInt8) (w : World) (hE : ETab w) (h : escM c ≠ []) : ∃ (j : Nat) (E : ByteArray), j < 4 ∧ Lib.indexByte [38, 60, 62, 34] c = (j : Int) ∧ w.cell? ⟨3, j, none⟩ = some (.string E) ∧ E.data.toList = esc c ∧ E.size ≤ 6 := by
  obtain ⟨t, hE⟩ := hE
  have he : esc c = escM c := if_neg h
  rw [he]
  unfold escM at h ⊢
  by_cases h1 : c = 38
  · subst h1
    exact ⟨0, ⟨#[38, 97, 109, 112, 59]⟩, by omega, rfl, by simp [World.cell?, hE], rfl, by decide⟩
  rw [if_neg h1] at h ⊢
  by_cases h2 : c = 60
  · subst h2
    exact ⟨1, ⟨#[38, 108, 116, 59]⟩, by omega, by decide, by simp [World.cell?, hE], rfl, by decide⟩
  rw [if_neg h2] at h ⊢
  by_cases h3 : c = 62
  · subst h3
    exact ⟨2, ⟨#[38, 103, 116, 59]⟩, by omega, by decide, by simp [World.cell?, hE], rfl, by decide⟩
  rw [if_neg h3] at h ⊢
  by_cases h4 : c = 34
  · subst h4
    exact ⟨3, ⟨#[38, 113, 117, 111, 116, 59]⟩, by omega, by decide, by simp [World.cell?, hE], rfl, by decide⟩
  · rw [if_neg h4] at h
    exact absurd rfl h
theorem mark_no (c : UInt8) (h : escM c = []) : Lib.indexByte [38, 60, 62, 34] c = -1 := by
  unfold escM at h
  by_cases h1 : c = 38
  · rw [if_pos h1] at h; cases h
  rw [if_neg h1] at h
  by_cases h2 : c = 60
  · rw [if_pos h2] at h; cases h
  rw [if_neg h2] at h
  by_cases h3 : c = 62
  · rw [if_pos h3] at h; cases h
  rw [if_neg h3] at h
  by_cases h4 : c = 34
  · rw [if_pos h4] at h; cases h
  have e1 : (38 == c) = false := by simpa using fun h => h1 h.symm
  have e2 : (60 == c) = false := by simpa using fun h => h2 h.symm
  have e3 : (62 == c) = false := by simpa using fun h => h3 h.symm
  have e4 : (34 == c) = false := by simpa using fun h => h4 h.symm
  simp only [Lib.indexByte, e1, e2, e3, e4]
  rfl
theorem index_any (c : UInt8) (w : World) : Calls Tryz.prog 136 #[.string ⟨#[38, 60, 62, 34]⟩, .int .u8 (c.toNat : Int)] w fun e w' => e = .returned (.int .i64 (Lib.indexByte [38, 60, 62, 34] c)) ∧ w = w' := by
  have h := Tryz.strings_IndexByte ⟨#[38, 60, 62, 34]⟩ (c.toNat : Int) w
  rw [show ((c.toNat : Int).toNat.toUInt8) = c by simp] at h
  exact h.mono (fun e w' h => ⟨h.1, h.2.symm⟩)

theorem wpList_appS8 {w : World} {ops : Array Oper} {rest : List Oper} {o : Oper} {a : Act} {Q : Exit → Act → World → Prop} (hgd : o.guard = none) (s x : Operand)
    (ho : o.op = .call { callee := .builtin .append, args := #[s, x], argTypes := #[56, 9] })
    (base : Nat) (v : Value) (l : List UInt8) (hs : a.eval s = v) (hown : OwnB w base v l) (t : ByteArray) (hx : a.eval x = .string t)
    (hl : l.length + t.size ≤ 1000000000) (hbase : base ≤ w.heap.size)
    (h : ∀ v' w', OwnB w' base v' (l ++ t.data.toList) → Below base w w' → wpList Tryz.prog ops Q rest (a.put o.dst v') w') :
    wpList Tryz.prog ops Q (o :: rest) a w := by
  obtain ⟨i0, hi, hz0, hz1, hz2⟩ := info_parts Tryz.infoU8
  refine Lib.wpList_append_own_string w hgd s x 56 9 ho base 5 i0 Tryz.underlying56 Tryz.underlying9 hi hz0 hz1 hz2 v l.length (l.map bc) hs hown t hx (by unfold maxLen; omega) (by omega) hbase ?_
  intro v' w1 hown1 hgrow _
  refine h _ _ ?_ ((Below.refl _ _).grown hgrow hbase (ownBlock_base hown))
  have e : (l ++ t.data.toList).length = l.length + t.size := by simp
  unfold OwnB
  rw [e, List.map_append]
  exact hown1
theorem OwnB.keep8 {w w' : World} {base B : Nat} {v : Value} {l : List UInt8} (h : OwnB w base v l) (hb : Below B w w') (hB : w.heap.size ≤ B) : OwnB w' base v l := by
  refine ⟨h.1, ?_⟩
  rcases h.2 with h0 | ⟨g, cap, cur, hv, hg, hw, r⟩
  · exact .inl h0
  · exact .inr ⟨g, cap, cur, hv, hg, (hb.block g (by have := (Array.getElem?_eq_some_iff.1 hw).1; omega)).trans hw, r⟩

set_option maxRecDepth 100000 in
set_option maxHeartbeats 2000000 in
theorem implEscaped_any (s : ByteArray) (w : World) (hE : ETab w) :
    Calls Tryz.prog 102 #[.string s] w fun e w' => e = .returned (.string (escR s)) ∧ Below w.heap.size w w' := by
  by_cases h : s.size ≤ 200
  · have HE : Hid (escR s = ⟨(escL s.data.toList).toArray⟩) := Lib.hid (by unfold escR; rw [if_pos h]; rfl)
    have hl : s.data.toList.length = s.size := by simp
    have HG : Hid (∀ k (h : k < s.size) (h' : k < s.data.toList.length), s[k] = s.data.toList[k]) := Lib.hid (fun k h h' => by simp; rfl)
    have HL := Lib.hid hl
    have HN := Lib.hid (escL_len)
    have HT := Lib.hid hE
    generalize escR s = out at HE ⊢
    have hd : ¬ (200 < (s.size : Int)) := by omega
    clear hl hE
    go_enter Tryz.func102, Tryz.ntmps102
    go_wp2_with (at_make; refine wpList_makeB rfl _ _ rfl w.heap.size .i64 .i64 (s.size : Int) rfl rfl (by omega) (by omega) (Nat.le_refl _) ?_; intro v0 w0 hown0 hb0)
    go_loopw [3, 14] (fun v i wr => ∃ k : Nat, k ≤ s.size ∧ i = .int .i64 (k : Int) ∧ OwnB wr w.heap.size v (escL (s.data.toList.take k)) ∧ Below w.heap.size w wr) (fun _ i _ => s.size - (intOf i).toNat)
    case atStart => exact ⟨0, Nat.zero_le _, rfl, hown0, hb0⟩
    case round =>
      obtain ⟨k, hk, rfl, hown, hB⟩ := hrel
      clear hown0 hb0
      by_cases hlt : k < s.size
      · have hkl : k < s.data.toList.length := by rw [HL.out]; exact hlt
        have HSN : Hid (escL (s.data.toList.take (k + 1)) = escL (s.data.toList.take k) ++ esc s[k]) := Lib.hid (by rw [List.take_succ_eq_append_getElem hkl, escL_snoc, HG.out k hlt hkl])
        have hlen := HN.out (s.data.toList.take k)
        have hlen2 : (s.data.toList.take k).length ≤ 200 := by rw [List.length_take]; omega
        have HI := Lib.hid (fun w => index_any s[k] w)
        have hsz := hB.size
        by_cases hm : escM s[k] = []
        · have he : esc s[k] = [s[k]] := if_pos hm
          rw [mark_no _ hm] at HI
          rw [he] at HSN
          clear hm he
          go_wp2_with fail
          refine (HI.out _).mono ?_
          rintro e w1 ⟨rfl, rfl⟩
          go_wp2_with (at_builtin; refine wpList_appB rfl (.tmp 28) (.tmp 32) rfl w.heap.size _ _ rfl (hown.alloc _) wr.heap.size 1 _ _ [s[k]] rfl (heap_alloc_new wr _) rfl rfl (by decide) (by omega) (by simp; omega) ?_; intro v1 w1 hown1 hb1)
          rw [← HSN.out] at hown1
          have hb2 := (hB.alloc hsz _).trans hb1
          clear hb1 hown
          go_wp2
          go_roundw
          case rel => exact ⟨k + 1, by omega, by go_num, hown1, hb2⟩
          case measure => simp [intOf]; omega
        · obtain ⟨j, E, hj, hix, hc, hEl, hEs⟩ := mark_at s[k] wr (HT.out.below hB (Nat.le_refl _)) hm
          rw [hix] at HI
          rw [← hEl] at HSN
          clear hm hix hEl
          go_wp2_with fail
          refine (HI.out _).mono ?_
          rintro e w1 ⟨rfl, rfl⟩
          go_wp2_with (at_builtin; refine wpList_appS8 rfl (.tmp 23) (.tmp 26) rfl w.heap.size _ _ rfl hown E rfl (by omega) hsz ?_; intro v1 w1 hown1 hb1)
          rw [← HSN.out] at hown1
          have hb2 := hB.trans hb1
          clear hb1 hown
          go_wp2
          go_roundw
          case rel => exact ⟨k + 1, by omega, by go_num, hown1, hb2⟩
          case measure => simp [intOf]; omega
      · have hc := conv_ownB hown
        have hke : k = s.size := by omega
        have HO : Hid ((⟨(escL (s.data.toList.take k)).toArray⟩ : ByteArray) = out) := Lib.hid (by rw [HE.out, List.take_of_length_le (by rw [HL.out]; omega)])
        rw [HO.out] at hc
        clear hke hown
        go_wp2
        go_ret
        exact ⟨rfl, hB⟩
  · have HE : Hid (escR s = ⟨#[]⟩) := Lib.hid (by unfold escR; rw [if_neg h])
    rw [HE.out]
    have hd : 200 < (s.size : Int) := by omega
    clear hE h
    go_enter Tryz.func102, Tryz.ntmps102
    go_wp2
    go_ret
    exact ⟨rfl, Below.refl _ _⟩
end Go.Proofs.YtfjaincogbdeiaaGreatDoor

/- Joined: W2m. -/
import Derived.Lib.AppendStr
import Derived.Test.YtlipgmaiooljkaaGreatDoorH33
/- W2m -/
namespace Go.Proofs.YtlipgmaiooljkaaGreatDoor
open Go.ChangeShapes Go.WideShapes Go.ChangeAt Go.RowKit
set_option linter.unusedVariables false

/-- append(out, s...) of a text to bytes of the call's own. -/
theorem wpList_appS {w : World} {ops : Array Oper} {rest : List Oper} {o : Oper} {a : Act} {Q : Exit → Act → World → Prop} (hgd : o.guard = none) (s x : Operand)
    (ho : o.op = .call { callee := .builtin .append, args := #[s, x], argTypes := #[36, 9] })
    (base : Nat) (v : Value) (l : List UInt8) (hs : a.eval s = v) (hown : OwnB w base v l) (t : ByteArray) (hx : a.eval x = .string t)
    (hl : l.length + t.size ≤ 1000000000) (hbase : base ≤ w.heap.size)
    (h : ∀ v' w', OwnB w' base v' (l ++ t.data.toList) → Below base w w' → wpList Tryz.prog ops Q rest (a.put o.dst v') w') :
    wpList Tryz.prog ops Q (o :: rest) a w := by
  obtain ⟨i0, hi, hz0, hz1, hz2⟩ := info_parts Tryz.infoU8
  refine Lib.wpList_append_own_string w hgd s x 36 9 ho base 5 i0 Tryz.underlying36 Tryz.underlying9 hi hz0 hz1 hz2 v l.length (l.map bc) hs hown t hx (by unfold maxLen; omega) (by omega) hbase ?_
  intro v' w1 hown1 hgrow _
  refine h _ _ ?_ ((Below.refl _ _).grown hgrow hbase (ownBlock_base hown))
  have e : (l ++ t.data.toList).length = l.length + t.size := by simp
  unfold OwnB
  rw [e, List.map_append]
  exact hown1
theorem ownB_form {w : World} {base : Nat} {v : Value} {l : List UInt8} (h : OwnB w base v l) : ∃ a cap, v = .slice a l.length cap := by
  rcases h.2 with ⟨rfl, h0⟩ | ⟨g, cap, cur, rfl, _⟩
  · exact ⟨none, 0, by rw [h0]⟩
  · exact ⟨_, cap, rfl⟩

/-- ChaStream, as the document says it. -/
def csR (key nonce : ByteArray) (c : Int) (t : ByteArray) : ByteArray := if key.size = 32 ∧ nonce.size = 12 ∧ 0 ≤ c ∧ c ≤ 4294960000 ∧ t.size ≤ 4000 then strB key nonce c t else ⟨#[]⟩

theorem strm_len (key nonce : ByteArray) (c : Int) (t : ByteArray) : (strmL (blkF key nonce c) t.data.toList).length = t.size := by rw [strmL_len]; simp
theorem strm_step (key nonce : ByteArray) (c : Int) (t : ByteArray) (k b : Nat) (x : ByteArray) (hl : (blkR key nonce (c + (k : Int))).data.toList.length = 64) (hk : 64 * k < t.size) (hb : b = min (64 * k + 64) t.size)
    (hx : x.data.toList = xorL (t.extract (64 * k) b).data.toList (blkR key nonce (c + (k : Int))).data.toList) : (strmL (blkF key nonce c) t.data.toList).take (64 * k) ++ x.data.toList = (strmL (blkF key nonce c) t.data.toList).take (64 * (k + 1)) := by
  rw [hx, part_list t (64 * k) b hb, strmL_step (blkF key nonce c) t.data.toList k hl (by simpa using hk)]
  rfl

set_option maxRecDepth 100000 in
set_option maxHeartbeats 2000000 in
theorem implStrm_any (key nonce : ByteArray) (c : Int) (t : ByteArray) (w : World) (hk : key.size = 32) (hn : nonce.size = 12) (h0 : 0 ≤ c) (h1 : c ≤ 4294960000) (ht : t.size ≤ 4000) :
    Calls Tryz.prog 66 #[.string key, .string nonce, .int .i64 c, .string t] w fun e w' => e = .returned (.string (strB key nonce c t)) ∧ Below w.heap.size w w' := by
  have HB := Lib.hid (fun k (h0 : 0 ≤ k) (h1 : k ≤ 4294967295) w => implBlk_any key nonce k w hk hn h0 h1)
  have HL := Lib.hid (fun k (h0 : 0 ≤ k) (h1 : k ≤ 4294967295) => blkR_list key nonce k hk hn h0 h1)
  have hd1 : ((key.size : Int) == 32) = true := by simp [hk]
  have hd2 : ((nonce.size : Int) == 12) = true := by simp [hn]
  have hd3 : decide (c < 0) = false := by simp; omega
  have hd4 : decide (4294960000 < c) = false := by simp; omega
  have hd5 : decide (4000 < (t.size : Int)) = false := by simp; omega
  have HE : Hid (strB key nonce c t = ⟨(strmL (blkF key nonce c) t.data.toList).toArray⟩) := Lib.hid rfl
  have HST := Lib.hid (strm_step key nonce c t)
  have hsl := strm_len key nonce c t
  obtain ⟨S, hS⟩ : ∃ S, S = strmL (blkF key nonce c) t.data.toList := ⟨_, rfl⟩
  rw [← hS] at HE HST hsl
  have HSL := Lib.hid hsl
  clear hk hn hsl hS
  go_enter Tryz.func66, Tryz.ntmps66
  go_wp2_with (first | (go_at_call 93; go_in) | (at_make; refine wpList_makeB rfl _ _ rfl w.heap.size .i64 .i64 _ rfl rfl (by omega) (by omega) (Nat.le_refl _) ?_; intro v0 w0 hown0 hb0))
  go_loopw [2, 9] (fun cc v wr => ∃ k : Nat, 64 * k ≤ t.size + 63 ∧ cc = .int .i64 (c + (k : Int)) ∧ OwnB wr w.heap.size v (S.take (64 * k)) ∧ Below w.heap.size w wr)
    (fun cc _ _ => t.size + 2 - (intOf cc - c).toNat)
  case atStart => exact ⟨0, by omega, by simp, hown0, hb0⟩
  case round =>
    obtain ⟨k, hkm, rfl, hown, hbel⟩ := hrel
    clear hown0 hb0
    obtain ⟨av, cap, rfl⟩ := ownB_form hown
    have hsz := hbel.size
    by_cases hlt : 64 * k < t.size
    · have hln : (S.take (64 * k)).length = 64 * k := by rw [List.length_take, HSL.out]; omega
      rw [hln] at hown ⊢
      obtain ⟨m, hm⟩ : ∃ m, m = 64 * k := ⟨_, rfl⟩
      rw [← hm] at hown hlt ⊢
      have hkb : (k : Int) ≤ 2000 := by omega
      have hll := HL.out (c + (k : Int)) (by omega) (by omega)
      have HM := Lib.hid hm
      have HLL := Lib.hid hll
      have HLN := Lib.hid hln
      clear hm hll hln hkm
      by_cases hend : t.size < m + 64
      · have hmn : ((t.size : Int) < (m : Int) + 64) := by omega
        have hps : (t.extract m t.size).size ≤ 64 := by rw [ByteArray.size_extract]; omega
        have hpm : t.size = min (m + 64) t.size := by omega
        have HPM := Lib.hid hpm
        have HPS := Lib.hid hps
        clear hpm hps
        go_wp2_with fail
        obtain ⟨p, hp⟩ : ∃ p, p = t.extract m t.size := ⟨_, rfl⟩
        rw [← hp] at HPS ⊢
        have hps := HPS.out
        have HP := Lib.hid hp
        clear hp
        refine (HB.out _ (by omega) (by omega) _).mono ?_
        rintro e w1 ⟨rfl, hb1⟩
        have hb01 := hbel.trans (hb1.mono hbel.size)
        have hown1 := ownB_keep hown hb1 (Nat.le_refl _)
        obtain ⟨B, hB⟩ : ∃ B, B = blkR key nonce (c + (k : Int)) := ⟨_, rfl⟩
        rw [← hB] at HLL ⊢
        have hBs : 64 ≤ B.size := by have := HLL.out; rw [ba_len] at this; omega
        have hBs2 : B.size ≤ 64 := by have := HLL.out; rw [ba_len] at this; omega
        have HB' := Lib.hid hB
        have hpB : p.size ≤ B.size := by omega
        clear hB hb1 hbel hown
        go_wp2_with fail
        have hes : (B.extract 0 p.size).size = p.size := by rw [ByteArray.size_extract]; omega
        have hel : (B.extract 0 p.size).data.toList = B.data.toList.take p.size := by
          rw [ByteArray.data_extract, Array.toList_extract, List.extract_eq_take_drop]; simp
        obtain ⟨q, hq⟩ : ∃ q, q = B.extract 0 p.size := ⟨_, rfl⟩
        rw [← hq] at hes hel ⊢
        have HXR : Hid (xorR p q = xorB p q) := Lib.hid (by unfold xorR; rw [if_pos ⟨hes.symm, by omega⟩])
        have HEL := Lib.hid hel
        have HES := Lib.hid hes
        clear hq hes hel
        refine (implXor_any p q _ (by unfold maxLen; omega) (by have := HES.out; unfold maxLen; omega)).mono ?_
        rintro e w2 ⟨rfl, hb2⟩
        rw [HXR.out]
        have hb02 := hb01.trans (hb2.mono hb01.size)
        have hown2 := ownB_keep hown1 hb2 (Nat.le_refl _)
        obtain ⟨x, hx⟩ : ∃ x, x = xorB p q := ⟨_, rfl⟩
        have hxl : x.data.toList = xorL p.data.toList B.data.toList := by
          rw [hx]; show xorL p.data.toList q.data.toList = _
          rw [HEL.out, show p.size = p.data.toList.length from (ba_len p).symm, xorL_take]
        have hxs : x.size ≤ 64 := by
          have h1 := congrArg List.length hxl
          rw [xorL_len _ _ (by rw [ba_len, ba_len]; exact hpB), ba_len, ba_len] at h1
          omega
        rw [← hx]
        have HXL := Lib.hid hxl
        have HN : Hid (S.take m ++ x.data.toList = S.take (64 * (k + 1))) := Lib.hid (by
          have e := HM.out
          have h1 := HXL.out
          have h2 := HPM.out
          have h3 := HLL.out
          rw [HP.out, HB'.out] at h1
          rw [HB'.out] at h3
          subst e
          exact HST.out k _ x h3 hlt h2 h1)
        have hb2s := hb02.size
        have hlx : (S.take m).length + x.size ≤ 1000000000 := by rw [List.length_take]; omega
        have HLX := Lib.hid hlx
        clear hx hxl hb01 hb2 hown1 HXR hlx
        go_wp2_with (at_builtin; refine wpList_appS rfl (.tmp 46) (.tmp 55) rfl w.heap.size _ _ rfl hown2 x rfl HLX.out hb2s ?_; intro v3 w3 hown3 hb3)
        rw [HN.out] at hown3
        have hb03 := hb02.trans hb3
        clear hb02 hb3 hown2
        go_roundw
        case rel => exact ⟨k + 1, by have := HM.out; omega, by go_num, hown3, hb03⟩
        case measure => simp [intOf]; have := HM.out; omega
      · have hmn : ¬ ((t.size : Int) < (m : Int) + 64) := by omega
        have hps : (t.extract m (m + 64)).size ≤ 64 := by rw [ByteArray.size_extract]; omega
        have hpm : (m + 64) = min (m + 64) t.size := by omega
        have HPM := Lib.hid hpm
        have HPS := Lib.hid hps
        clear hpm hps
        go_wp2_with fail
        obtain ⟨p, hp⟩ : ∃ p, p = t.extract m (m + 64) := ⟨_, rfl⟩
        rw [← hp] at HPS ⊢
        have hps := HPS.out
        have HP := Lib.hid hp
        clear hp
        refine (HB.out _ (by omega) (by omega) _).mono ?_
        rintro e w1 ⟨rfl, hb1⟩
        have hb01 := hbel.trans (hb1.mono hbel.size)
        have hown1 := ownB_keep hown hb1 (Nat.le_refl _)
        obtain ⟨B, hB⟩ : ∃ B, B = blkR key nonce (c + (k : Int)) := ⟨_, rfl⟩
        rw [← hB] at HLL ⊢
        have hBs : 64 ≤ B.size := by have := HLL.out; rw [ba_len] at this; omega
        have hBs2 : B.size ≤ 64 := by have := HLL.out; rw [ba_len] at this; omega
        have HB' := Lib.hid hB
        have hpB : p.size ≤ B.size := by omega
        clear hB hb1 hbel hown
        go_wp2_with fail
        have hes : (B.extract 0 p.size).size = p.size := by rw [ByteArray.size_extract]; omega
        have hel : (B.extract 0 p.size).data.toList = B.data.toList.take p.size := by
          rw [ByteArray.data_extract, Array.toList_extract, List.extract_eq_take_drop]; simp
        obtain ⟨q, hq⟩ : ∃ q, q = B.extract 0 p.size := ⟨_, rfl⟩
        rw [← hq] at hes hel ⊢
        have HXR : Hid (xorR p q = xorB p q) := Lib.hid (by unfold xorR; rw [if_pos ⟨hes.symm, by omega⟩])
        have HEL := Lib.hid hel
        have HES := Lib.hid hes
        clear hq hes hel
        refine (implXor_any p q _ (by unfold maxLen; omega) (by have := HES.out; unfold maxLen; omega)).mono ?_
        rintro e w2 ⟨rfl, hb2⟩
        rw [HXR.out]
        have hb02 := hb01.trans (hb2.mono hb01.size)
        have hown2 := ownB_keep hown1 hb2 (Nat.le_refl _)
        obtain ⟨x, hx⟩ : ∃ x, x = xorB p q := ⟨_, rfl⟩
        have hxl : x.data.toList = xorL p.data.toList B.data.toList := by
          rw [hx]; show xorL p.data.toList q.data.toList = _
          rw [HEL.out, show p.size = p.data.toList.length from (ba_len p).symm, xorL_take]
        have hxs : x.size ≤ 64 := by
          have h1 := congrArg List.length hxl
          rw [xorL_len _ _ (by rw [ba_len, ba_len]; exact hpB), ba_len, ba_len] at h1
          omega
        rw [← hx]
        have HXL := Lib.hid hxl
        have HN : Hid (S.take m ++ x.data.toList = S.take (64 * (k + 1))) := Lib.hid (by
          have e := HM.out
          have h1 := HXL.out
          have h2 := HPM.out
          have h3 := HLL.out
          rw [HP.out, HB'.out] at h1
          rw [HB'.out] at h3
          subst e
          exact HST.out k _ x h3 hlt h2 h1)
        have hb2s := hb02.size
        have hlx : (S.take m).length + x.size ≤ 1000000000 := by rw [List.length_take]; omega
        have HLX := Lib.hid hlx
        clear hx hxl hb01 hb2 hown1 HXR hlx
        go_wp2_with (at_builtin; refine wpList_appS rfl (.tmp 46) (.tmp 55) rfl w.heap.size _ _ rfl hown2 x rfl HLX.out hb2s ?_; intro v3 w3 hown3 hb3)
        rw [HN.out] at hown3
        have hb03 := hb02.trans hb3
        clear hb02 hb3 hown2
        go_roundw
        case rel => exact ⟨k + 1, by have := HM.out; omega, by go_num, hown3, hb03⟩
        case measure => simp [intOf]; have := HM.out; omega
    · have hln : (S.take (64 * k)).length = t.size := by rw [List.length_take, HSL.out]; omega
      have hall : S.take (64 * k) = S := List.take_of_length_le (by rw [HSL.out]; omega)
      have hcv := conv_ownB hown
      rw [hall, HSL.out] at hcv
      rw [hall, HSL.out]
      clear hln hall
      go_wp2
      go_ret
      exact ⟨ret_str HE.out.symm, hbel⟩

set_option maxRecDepth 100000 in
set_option maxHeartbeats 2000000 in
theorem implChaStream_any (key nonce : ByteArray) (c : Int) (t : ByteArray) (w : World) (hk : key.size ≤ maxLen) (hn : nonce.size ≤ maxLen) (ht : t.size ≤ maxLen) :
    Calls Tryz.prog 66 #[.string key, .string nonce, .int .i64 c, .string t] w fun e w' => e = .returned (.string (csR key nonce c t)) ∧ Below w.heap.size w w' := by
  unfold maxLen at hk hn ht
  by_cases hall : key.size = 32 ∧ nonce.size = 12 ∧ 0 ≤ c ∧ c ≤ 4294960000 ∧ t.size ≤ 4000
  · have h := implStrm_any key nonce c t w hall.1 hall.2.1 hall.2.2.1 hall.2.2.2.1 hall.2.2.2.2
    unfold csR; rw [if_pos hall]; exact h
  · have HR : Hid (csR key nonce c t = ⟨#[]⟩) := Lib.hid (by unfold csR; rw [if_neg hall])
    by_cases g1 : key.size = 32
    · have hd1 : ((key.size : Int) == 32) = true := by simp [g1]
      by_cases g2 : nonce.size = 12
      · have hd2 : ((nonce.size : Int) == 12) = true := by simp [g2]
        by_cases g3 : 0 ≤ c
        · by_cases g4 : c ≤ 4294960000
          · have g5 : ¬ t.size ≤ 4000 := fun h => hall ⟨g1, g2, g3, g4, h⟩
            clear hall g1 g2
            go_enter Tryz.func66, Tryz.ntmps66
            go_wp2
            go_ret
            exact ⟨ret_str HR.out.symm, Below.refl _ _⟩
          · clear hall g1 g2
            go_enter Tryz.func66, Tryz.ntmps66
            go_wp2
            go_ret
            exact ⟨ret_str HR.out.symm, Below.refl _ _⟩
        · clear hall g1 g2
          go_enter Tryz.func66, Tryz.ntmps66
          go_wp2
          go_ret
          exact ⟨ret_str HR.out.symm, Below.refl _ _⟩
      · have hd2 : ((nonce.size : Int) == 12) = false := by simp; omega
        clear hall g1 g2
        go_enter Tryz.func66, Tryz.ntmps66
        go_wp2
        go_ret
        exact ⟨ret_str HR.out.symm, Below.refl _ _⟩
    · have hd1 : ((key.size : Int) == 32) = false := by simp; omega
      clear hall g1
      go_enter Tryz.func66, Tryz.ntmps66
      go_wp2
      go_ret
      exact ⟨ret_str HR.out.symm, Below.refl _ _⟩

end Go.Proofs.YtlipgmaiooljkaaGreatDoor

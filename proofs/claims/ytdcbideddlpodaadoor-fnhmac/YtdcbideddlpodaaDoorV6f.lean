/- Walk of the law FnHmac. -/
import Derived.Test.YtdcbideddlpodaaDoorW6b
import Derived.Test.YtdcbideddlpodaaDoorDraw12
import Derived.Test.YtdcbideddlpodaaDoorOwnM
namespace Go.Proofs.YtdcbideddlpodaaDoor
open Go.ChangeShapes Go.WideShapes Go.ChangeAt Go.RowKit
set_option linter.unusedVariables false

theorem small_max13 {n : Nat} (h : n ≤ 1000000) : n ≤ maxLen := by unfold maxLen; omega
theorem wpIf_skip {P : Program} {ops : Array Oper} {C : World → Prop} {R : Act → Prop} {o : Oper} {l : List Oper} {a : Act} (hw : Region.wanted o (yielded ops a.tmps) = false) (h : wpIf P ops C R l (a.put o.dst undef)) : wpIf P ops C R (o :: l) a := ⟨undef, .inr ⟨hw, rfl⟩, h⟩

/-- A row of bytes that lies in block g. -/
def MAt (w : World) (g cap : Nat) (l : List UInt8) : Prop := OwnM w 0 (.slice (some ⟨g, 0, none⟩) l.length cap) l
theorem OwnM.at {w : World} {base : Nat} {v : Value} {l : List UInt8} (h : OwnM w base v l) : ∃ g cap, v = .slice (some ⟨g, 0, none⟩) l.length cap ∧ base ≤ g ∧ g < w.heap.size ∧ MAt w g cap l := by
  obtain ⟨g, cap, cur, fz, hv, hb, hg, r⟩ := h
  exact ⟨g, cap, hv, hb, (Array.getElem?_eq_some_iff.1 hg).1, g, cap, cur, fz, rfl, Nat.zero_le _, hg, r⟩
theorem MAt.keep {w w' : World} {g cap B : Nat} {l : List UInt8} (h : MAt w g cap l) (hb : Below B w w') (hB : w.heap.size ≤ B) : MAt w' g cap l := OwnM.keep h hb hB
theorem MAt.lt {w : World} {g cap : Nat} {l : List UInt8} (h : MAt w g cap l) : g < w.heap.size := by
  obtain ⟨g', cap', cur, fz, hv, hb, hg, r⟩ := h
  cases hv
  exact (Array.getElem?_eq_some_iff.1 hg).1
theorem MAt.cell {w : World} {g cap : Nat} {l : List UInt8} (h : MAt w g cap l) (j : Nat) (hj : j < l.length) : w.cell? ⟨g, j, none⟩ = some (.int .u8 (l[j].toNat : Int)) := by
  obtain ⟨g', cap', cur, fz, hv, hb, hg, hf, hl, hm, hc, ht⟩ := h
  cases hv
  rw [cell_of_row w g j cur _ fz hg]
  have e : (cur.toList.take l.length)[j]? = (l.map bc)[j]? := by rw [ht]
  rw [List.getElem?_take_of_lt hj, List.getElem?_map, List.getElem?_eq_getElem hj] at e
  simpa [bc] using e
theorem MAt.frozen {w : World} {g cap : Nat} {l : List UInt8} (h : MAt w g cap l) (j : Nat) (hj : j < l.length) : w.frozen? ⟨g, j, none⟩ = false := by
  obtain ⟨g', cap', cur, fz, hv, hb, hg, hf, hl, hm, hc, ht⟩ := h
  cases hv
  have := hf j (by omega)
  simp only [World.frozen?, hg, Bool.and_eq_false_iff, decide_eq_false_iff_not]
  omega
theorem MAt.set {w : World} {g cap : Nat} {l : List UInt8} (h : MAt w g cap l) (j : Nat) (hj : j < l.length) (x : UInt8) : MAt (w.setCell ⟨g, j, none⟩ (.int .u8 (x.toNat : Int))) g cap (l.set j x) := by
  obtain ⟨g', cap', cur, fz, hv, hb, hg, hf, hl, hm, hc, ht⟩ := h
  cases hv
  refine ⟨g, cap, cur.setIfInBounds j (.int .u8 (x.toNat : Int)), fz, rfl, Nat.zero_le _, ?_, ?_, by simpa using hl, hm, by simpa using hc, ?_⟩
  · rw [setCell_eq_setRow w g j cur _ fz _ hg]
    exact setRow_heap w g cur _ _ _ hg
  · simpa using hf
  · rw [List.length_set, Array.toList_setIfInBounds, List.take_set, ht, List.map_set]
    rfl
theorem MAt.other {w : World} {g cap g' : Nat} {l : List UInt8} (h : MAt w g cap l) (j : Nat) (v : Value) (hne : g ≠ g') : MAt (w.setCell ⟨g', j, none⟩ v) g cap l := by
  obtain ⟨g1, cap', cur, fz, hv, hb, hg, r⟩ := h
  cases hv
  exact ⟨g, cap, cur, fz, rfl, Nat.zero_le _, (heap_setCell_other w ⟨g', j, none⟩ g v hne).trans hg, r⟩
theorem MAt.text {w : World} {g cap : Nat} {l : List UInt8} (h : MAt w g cap l) : (convert 22 9 (.slice (some ⟨g, 0, none⟩) l.length cap)).run Tryd.prog w = .ok (.string ⟨l.toArray⟩) w := OwnM.text h

/-- A row of which the first bytes are turned. -/
def part (K W : List UInt8) (i : Nat) : List UInt8 := W.take i ++ K.drop i
theorem part_len (K W : List UInt8) (i : Nat) (h : W.length = K.length) (hi : i ≤ K.length) : (part K W i).length = K.length := by unfold part; simp; omega
theorem part_get (K W : List UInt8) (i : Nat) (h : W.length = K.length) (hi : i < K.length) (hi' : i < (part K W i).length) : (part K W i)[i] = K[i] := by
  have hq : (part K W i)[i]? = some K[i] := by
    unfold part
    rw [List.getElem?_append_right (by simp; omega), List.length_take, show min i W.length = i by omega, Nat.sub_self, List.getElem?_drop, Nat.add_zero, List.getElem?_eq_getElem hi]
  rw [List.getElem?_eq_getElem hi'] at hq
  exact Option.some.inj hq
theorem part_set (K W : List UInt8) (i : Nat) (h : W.length = K.length) (hi : i < K.length) : (part K W i).set i (W[i]'(by omega)) = part K W (i + 1) := by
  unfold part
  have hl : (W.take i).length = i := by simp; omega
  rw [List.set_append_right _ _ (by omega), hl, Nat.sub_self, List.drop_eq_getElem_cons hi, List.set_cons_zero, List.take_succ_eq_append_getElem (by omega), List.append_assoc]
  rfl
theorem part_all (K W : List UInt8) (h : W.length = K.length) : part K W K.length = W := by
  unfold part
  rw [List.take_of_length_le (by omega), List.drop_length, List.append_nil]
theorem wi_len (b : UInt8) (K : ByteArray) (hK : K.size = 64) : (wiB b K).data.toList.length = K.data.toList.length := by
  have := wiB_size b K hK
  simp; show (wiB b K).size = K.size; omega
theorem wi_get (b : UInt8) (K : ByteArray) (hK : K.size = 64) (i : Nat) (hi : i < K.data.toList.length) (hi' : i < (wiB b K).data.toList.length) : (wiB b K).data.toList[i] = K.data.toList[i] ^^^ b := by
  have e : (wiB b K).data.toList = List.zipWith (fun x y => x ^^^ y) K.data.toList (List.replicate 64 b) := by
    show (xorL K.data.toList (repB b).data.toList).toArray.toList = _
    rfl
  have hq : (List.zipWith (fun x y : UInt8 => x ^^^ y) K.data.toList (List.replicate 64 b))[i]? = some (K.data.toList[i] ^^^ b) := by
    have hi64 : i < 64 := by simp at hi; rw [← hK]; exact hi
    rw [List.getElem?_zipWith, List.getElem?_eq_getElem hi, List.getElem?_replicate, if_pos hi64]
  rw [← e, List.getElem?_eq_getElem hi'] at hq
  exact Option.some.inj hq
theorem bk_long (k : ByteArray) (h : 64 < k.size) : bkB (shaD k) = bkB k := by
  have e1 : hKey k = shaD k := if_pos h
  have e2 : hKey (shaD k) = shaD k := if_neg (by rw [shaD_size]; omega)
  unfold bkB
  rw [e1, e2]
theorem hm_long (k t : ByteArray) (h : 64 < k.size) : hmB (shaD k) t = hmB k t := by unfold hmB; rw [bk_long k h]
theorem bk_short (k : ByteArray) (h : k.size ≤ 64) : bkB k = k ++ nghB (64 - k.size) := by
  have e1 : hKey k = k := if_neg (by omega)
  unfold bkB; rw [e1]
theorem bk_nought (k : ByteArray) (h : k.size < 64) : bkB (k ++ ⟨#[0]⟩) = bkB k := by
  have hs : (k ++ (⟨#[0]⟩ : ByteArray)).size = k.size + 1 := by rw [ByteArray.size_append]; rfl
  rw [bk_short _ (by omega), bk_short k (by omega), hs]
  apply ba_eq
  rw [ba_app4, ba_app4, ba_app4, nghB_list, nghB_list, List.append_assoc, show 64 - k.size = (64 - (k.size + 1)) + 1 by omega, List.replicate_succ]
  rfl
theorem hm_nought (k t : ByteArray) (h : k.size < 64) : hmB (k ++ ⟨#[0]⟩) t = hmB k t := by unfold hmB; rw [bk_nought k h]
theorem hmR_in13 (k t : ByteArray) (h1 : k.size ≤ 4000) (h2 : t.size ≤ 4000) : hmR k t = hmB k t := by unfold hmR; rw [if_pos ⟨h1, h2⟩]
theorem make_bytes13 (w : World) (n : Nat) (N : Int) (hN : N = (n : Int)) (hn : n ≤ 1000000000) : ∃ v w', (Instr.makeSlice 22 (.int .i64 N) (.int .i64 N)).run Tryd.prog w = .ok v w' ∧ (convert 22 9 v).run Tryd.prog w' = .ok (.string (nghB n)) w' ∧ Below w.heap.size w w' := by
  subst hN
  obtain ⟨i0, hi, hz0, hz1, hz2⟩ := info_parts Tryd.infoU8
  obtain ⟨w', hrun, hown, hg⟩ := run_make_full (P := Tryd.prog) w w.heap.size 22 5 i0 (.int .u8 0) 1 Tryd.underlying22 hi hz0 hz1 .i64 .i64 n (by rw [hz2]; omega) (by unfold maxLen; omega) (Nat.le_refl _)
  refine ⟨_, w', hrun, ?_, (Below.refl _ _).grown hg (Nat.le_refl _) (fun k hk => by cases hk)⟩
  have e1 : (Value.int .u8 0).cells = #[Value.int .u8 0] := rfl
  rw [e1, Nat.mul_one, toList_madeCells_one] at hown
  have h' : OwnB w' w.heap.size (.slice (some ⟨w.heap.size, 0, none⟩) n n) (List.replicate n 0) := by
    unfold OwnB
    rw [List.length_replicate, List.map_replicate, show bc 0 = Value.int .u8 0 from rfl]
    simpa using hown
  exact conv_ownB h'

set_option maxRecDepth 100000 in
set_option maxHeartbeats 4000000 in
theorem walk_FnHmac (a : Option Addr) (len cap : Nat) (z : List Int) (w : World) (h : IsRow .u8 w a len cap z) (hk : FTab w ∧ KTab w) :
    Calls Tryd.prog 4 #[.slice a len cap] w fun e w' => e = .returned (.bool true) ∧ Below w.heap.size w w' := by
  have HK := Lib.hid hk
  have hcd := Cd.of_row h
  obtain ⟨cv, hcv⟩ : ∃ cv : Value, cv = .slice a len cap := ⟨_, rfl⟩
  rw [← hcv] at hcd ⊢
  clear h hcv hk
  go_enter Tryd.func4, Tryd.ntmps4
  go_wp2_with fail
  refine (big_any _ cv _ hcd).mono ?_
  rintro e w1 ⟨⟨b, rfl⟩, rfl⟩
  cases b with
  | true =>
    go_wp2
    go_ret
    exact ⟨rfl, Below.refl _ _⟩
  | false =>
    go_wp2_with fail
    refine (drawHmac_any _ cv _ hcd).mono ?_
    rintro e v1 ⟨k, t, rfl, hks, hts, hd1⟩
    have I1 := Lib.hid (fun w hF hK => implHmac_any k t w (small_max13 (by omega)) (small_max13 (by omega)) hF hK)
    have S1 := Lib.hid (fun w => specHmac_any k t w (small_max13 (by omega)) (small_max13 (by omega)))
    rw [hmR_in13 _ _ (by omega) (by omega)] at I1 S1
    have hkI : (k.size : Int) ≤ 200 := by omega
    clear hcd
    by_cases h64 : 64 < k.size
    · have S2 := Lib.hid (fun w hF hK => implSha_any k w hF hK)
      rw [show shaRt k = shaD k by unfold shaRt; rw [if_pos (by omega)]] at S2
      have I2 := Lib.hid (fun w hF hK => implHmac_any (shaD k) t w (small_max13 (by rw [shaD_size]; omega)) (small_max13 (by omega)) hF hK)
      rw [hmR_in13 _ _ (by rw [shaD_size]; omega) (by omega), hm_long k t h64] at I2
      generalize shaD k = D at S2 I2
      generalize hmB k t = O at I1 S1 I2
      have h64I : 64 < (k.size : Int) := by omega
      clear h64 hks
      go_wp2_with fail
      refine (I1.out _ (HK.out.1.below hd1 (Nat.le_refl _)) (HK.out.2.below hd1 (Nat.le_refl _))).mono ?_
      rintro e v2 ⟨rfl, hd2⟩
      have hd02 := hd1.trans (hd2.mono hd1.size)
      clear hd1 hd2 I1
      go_wp2_with fail
      refine (S1.out _).mono ?_
      rintro e v3 ⟨rfl, hd3⟩
      have hd03 := hd02.trans (hd3.mono hd02.size)
      clear hd02 hd3 S1
      go_wp2_with fail
      refine (S2.out _ (HK.out.1.below hd03 (Nat.le_refl _)) (HK.out.2.below hd03 (Nat.le_refl _))).mono ?_
      rintro e v4 ⟨rfl, hd4⟩
      have hd04 := hd03.trans (hd4.mono hd03.size)
      clear hd03 hd4 S2
      go_wp2_with fail
      refine (I2.out _ (HK.out.1.below hd04 (Nat.le_refl _)) (HK.out.2.below hd04 (Nat.le_refl _))).mono ?_
      rintro e v5 ⟨rfl, hd5⟩
      have hd05 := hd04.trans (hd5.mono hd04.size)
      clear hd04 hd5 I2
      go_wp2
      go_ret
      exact ⟨ret_bool (by simp), hd05⟩
    · have hle : k.size ≤ 64 := by omega
      have HBK := Lib.hid (bk_short k hle)
      have hKs := bkB_size k
      have HHM : Hid (hmB k t = shaD (wiB 92 (bkB k) ++ shaD (wiB 54 (bkB k) ++ t))) := Lib.hid rfl
      have HNG : Hid (k.size < 64 → hmB (k ++ ⟨#[0]⟩) t = hmB k t) := Lib.hid (hm_nought k t)
      obtain ⟨Kb, hKb⟩ : ∃ Kb, Kb = bkB k := ⟨_, rfl⟩
      rw [← hKb] at HBK hKs HHM
      obtain ⟨O, hO⟩ : ∃ O, O = hmB k t := ⟨_, rfl⟩
      rw [← hO] at I1 S1 HHM HNG
      have hnI : ¬ (64 < (k.size : Int)) := by omega
      have hsub : (64 : Int) - (k.size : Int) = ((64 - k.size : Nat) : Int) := by omega
      obtain ⟨n, hn⟩ : ∃ n, n = 64 - k.size := ⟨_, rfl⟩
      rw [← hn] at hsub HBK
      have hns : (nghB n).size = n := nghB_size n
      have hsum : k.size + (nghB n).size ≤ 200 := by omega
      obtain ⟨Z, hZ⟩ : ∃ Z, Z = nghB n := ⟨_, rfl⟩
      have HZ := Lib.hid hZ
      rw [← hZ] at HBK hns hsum
      have hKe := HBK.out.symm
      have HN := Lib.hid hn
      clear h64 hKb hO hZ HBK hns hn
      go_wp2_with fail
      refine (I1.out _ (HK.out.1.below hd1 (Nat.le_refl _)) (HK.out.2.below hd1 (Nat.le_refl _))).mono ?_
      rintro e v2 ⟨rfl, hd2⟩
      have hd02 := hd1.trans (hd2.mono hd1.size)
      clear hd1 hd2 I1
      go_wp2_with fail
      refine (S1.out _).mono ?_
      rintro e v3 ⟨rfl, hd3⟩
      have hd03 := hd02.trans (hd3.mono hd02.size)
      clear hd02 hd3 S1
      obtain ⟨va, wa, hra, hca, hba⟩ := make_bytes13 v3 n n rfl (by omega)
      rw [← HZ.out] at hca
      obtain ⟨vb, wb, hrb, hob, hbb⟩ := conv_ownM Kb wa (by omega)
      obtain ⟨vc, wc, hrc, hcc, hbc⟩ := make_bytes13 wb n n rfl (by omega)
      rw [← HZ.out] at hcc
      obtain ⟨vd, wd, hrd, hod, hbd⟩ := conv_ownM Kb wc (by omega)
      have hKL : Kb.data.toList.length = 64 := by simpa using hKs
      obtain ⟨g1, cp1, hv1, hg1b, hg1l, hM1⟩ := hob.at
      obtain ⟨g2, cp2, hv2, hg2b, hg2l, hM2⟩ := hod.at
      rw [hKL] at hv1 hv2
      subst hv1 hv2
      have hM1d := (hM1.keep hbc (Nat.le_refl _)).keep hbd (Nat.le_refl _)
      have hg12 : g1 ≠ g2 := by have := hbc.size; omega
      have hBd : Below w.heap.size w wd := by
        have e1 := hd03.trans (hba.mono hd03.size)
        have e2 := e1.trans (hbb.mono e1.size)
        have e3 := e2.trans (hbc.mono e2.size)
        exact e3.trans (hbd.mono e3.size)
      have hgw1 : w.heap.size ≤ g1 := by have := hd03.size; have := hba.size; omega
      have hgw2 : w.heap.size ≤ g2 := by have := hbc.size; have := hbb.size; have := hba.size; have := hd03.size; omega
      have L1 := wi_len 54 Kb hKs
      have L2 := wi_len 92 Kb hKs
      have G1 := Lib.hid (wi_get 54 Kb hKs)
      have G2 := Lib.hid (wi_get 92 Kb hKs)
      have hW1 : (⟨(wiB 54 Kb).data.toList.toArray⟩ : ByteArray) = wiB 54 Kb := by apply ba_eq; simp
      have hW2 : (⟨(wiB 92 Kb).data.toList.toArray⟩ : ByteArray) = wiB 92 Kb := by apply ba_eq; simp
      have hw1s := wiB_size 54 Kb hKs
      have hw2s := wiB_size 92 Kb hKs
      have HW1 := Lib.hid hW1
      have HW2 := Lib.hid hW2
      obtain ⟨Q1, hQ1⟩ : ∃ Q, Q = wiB 54 Kb := ⟨_, rfl⟩
      obtain ⟨Q2, hQ2⟩ : ∃ Q, Q = wiB 92 Kb := ⟨_, rfl⟩
      rw [← hQ1] at L1 G1 HW1 hw1s HHM
      rw [← hQ2] at L2 G2 HW2 hw2s HHM
      obtain ⟨W1, hW1e⟩ : ∃ W, W = Q1.data.toList := ⟨_, rfl⟩
      obtain ⟨W2, hW2e⟩ : ∃ W, W = Q2.data.toList := ⟨_, rfl⟩
      rw [← hW1e] at L1 G1 HW1
      rw [← hW2e] at L2 G2 HW2
      obtain ⟨L, hL⟩ : ∃ L, L = Kb.data.toList := ⟨_, rfl⟩
      rw [← hL] at hM1d hM2 hKL L1 L2 G1 G2
      have HKL := Lib.hid hKL
      have HL1 := Lib.hid L1
      have HL2 := Lib.hid L2
      have HM1 := Lib.hid hM1d
      have HM2 := Lib.hid hM2
      have HBd := Lib.hid hBd
      clear hM1 hM1d hM2 hob hod hba hbb hbc hbd hBd hg1l hg2l hg1b hg2b hW1 hW2 hQ1 hQ2 hW1e hW2e hL hKL L1 L2 hd03
      go_wp2
      clear hra hca hrb hrc hcc hrd
      go_loopw [8] (fun s wr => ∃ i : Nat, i ≤ 64 ∧ s = .int .i64 (i : Int) ∧ MAt wr g1 cp1 (part L W1 i) ∧ MAt wr g2 cp2 (part L W2 i) ∧ Below w.heap.size w wr) (fun s _ => 64 - (intOf s).toNat)
      case atStart => exact ⟨0, by omega, rfl, HM1.out, HM2.out, HBd.out⟩
      case round =>
        obtain ⟨i, hi, rfl, hA1, hA2, hBr⟩ := hrel
        by_cases hlt : i < 64
        · have hil : i < L.length := by rw [HKL.out]; exact hlt
          have hp1 := part_len L W1 i HL1.out (by omega)
          have hp2 := part_len L W2 i HL2.out (by omega)
          have c1 := hA1.cell i (by omega)
          have c2 := hA2.cell i (by omega)
          rw [part_get L W1 i HL1.out hil] at c1
          rw [part_get L W2 i HL2.out hil] at c2
          have f1 := hA1.frozen i (by omega)
          have f2 := hA2.frozen i (by omega)
          have x1 := xor8 L[i] 54
          have x2 := xor8 L[i] 92
          rw [← G1.out i hil (by rw [HL1.out]; exact hil)] at x1
          rw [← G2.out i hil (by rw [HL2.out]; exact hil)] at x2
          have HS1 := Lib.hid (hA1.set i (by omega) (W1[i]'(by rw [HL1.out]; exact hil)))
          have HS2 := Lib.hid ((hA2.other i (.int .u8 ((W1[i]'(by rw [HL1.out]; exact hil)).toNat : Int)) hg12.symm).set i (by omega) (W2[i]'(by rw [HL2.out]; exact hil)))
          rw [part_set L W1 i HL1.out hil] at HS1
          rw [part_set L W2 i HL2.out hil] at HS2
          have HBr := Lib.hid hBr
          change bits .xor .u8 (L[i].toNat : Int) 54 = _ at x1
          change bits .xor .u8 (L[i].toNat : Int) 92 = _ at x2
          have y1 := (W1[i]'(by rw [HL1.out]; exact hil)).toNat_lt
          have y2 := (W2[i]'(by rw [HL2.out]; exact hil)).toNat_lt
          generalize (W1[i]'(by rw [HL1.out]; exact hil)).toNat = X1 at x1 HS1 HS2 y1
          generalize (W2[i]'(by rw [HL2.out]; exact hil)).toNat = X2 at x2 HS2 y2
          generalize L[i].toNat = B at c1 c2 x1 x2
          have hne : g2 ≠ g1 := hg12.symm
          clear hA1 hA2 hBr hp1 hp2
          go_wp2
          refine ⟨⟨i + 1, by omega, by simp, HS1.out.other _ _ hg12, HS2.out, (HBr.out.setCell (p := ⟨g1, i, none⟩) hgw1 _).setCell (p := ⟨g2, i, none⟩) hgw2 _⟩, ?_⟩
          simp [intOf]; omega
        · have hi64 : i = L.length := by rw [HKL.out]; omega
          rw [hi64, part_all L W1 HL1.out] at hA1
          rw [hi64, part_all L W2 HL2.out] at hA2
          have hl1 : W1.length = 64 := HL1.out.trans HKL.out
          have hl2 : W2.length = 64 := HL2.out.trans HKL.out
          have HT1 : Hid (∀ w', MAt w' g1 cp1 W1 → (convert 22 9 (.slice (some ⟨g1, 0, none⟩) 64 cp1)).run Tryd.prog w' = .ok (.string Q1) w') := Lib.hid (fun w' h => by have := h.text; rw [hl1, HW1.out] at this; exact this)
          have HT2 : Hid (∀ w', MAt w' g2 cp2 W2 → (convert 22 9 (.slice (some ⟨g2, 0, none⟩) 64 cp2)).run Tryd.prog w' = .ok (.string Q2) w') := Lib.hid (fun w' h => by have := h.text; rw [hl2, HW2.out] at this; exact this)
          obtain ⟨A1, hAe1⟩ : ∃ A, Q1 ++ t = A := ⟨_, rfl⟩
          have hs1 : A1.size = 64 + t.size := by rw [← hAe1, ByteArray.size_append, hw1s]
          rw [hAe1] at HHM
          have S2 := Lib.hid (fun w hF hK => implSha_any A1 w hF hK)
          rw [show shaRt A1 = shaD A1 by unfold shaRt; rw [if_pos (by omega)]] at S2
          have hi1 := shaD_size A1
          obtain ⟨D1, hD1⟩ : ∃ D, D = shaD A1 := ⟨_, rfl⟩
          rw [← hD1] at S2 HHM hi1
          obtain ⟨A2, hAe2⟩ : ∃ A, Q2 ++ D1 = A := ⟨_, rfl⟩
          have hs2 : A2.size = 96 := by rw [← hAe2, ByteArray.size_append, hw2s, hi1]
          rw [hAe2] at HHM
          have S3 := Lib.hid (fun w hF hK => implSha_any A2 w hF hK)
          rw [show shaRt A2 = shaD A2 by unfold shaRt; rw [if_pos (by omega)], ← HHM.out] at S3
          have q1 : Q1.size + t.size ≤ 1000 := by omega
          have q2 : Q2.size + D1.size ≤ 1000 := by omega
          have hA1' : MAt wr.drew g1 cp1 W1 := hA1
          have hA2' : MAt wr.drew g2 cp2 W2 := hA2
          have hiI : ¬ ((i : Int) < 64) := by omega
          clear hA1 hA2 hi64 hl1 hl2 hs1 hs2 hi1 hD1 HHM HM1 HM2 HBd G1 G2 HW1 HW2 HL1 HL2
          by_cases hk64 : k.size < 64
          · have I3 := Lib.hid (fun w hF hK => implHmac_any (k ++ ⟨#[0]⟩) t w (small_max13 (by rw [ByteArray.size_append]; show k.size + 1 ≤ _; omega)) (small_max13 (by omega)) hF hK)
            rw [hmR_in13 _ _ (by rw [ByteArray.size_append]; show k.size + 1 ≤ _; omega) (by omega), HNG.out hk64] at I3
            obtain ⟨N0, hN0⟩ : ∃ N : ByteArray, k ++ ⟨#[0]⟩ = N := ⟨_, rfl⟩
            rw [hN0] at I3
            have hkne : ¬ ((k.size : Int) = 64) := by omega
            have q3 : k.size + 1 ≤ 1000 := by omega
            go_wp2
            refine wp_region_T (fun w' => MAt w' g1 cp1 W1 ∧ MAt w' g2 cp2 W2) (fun _ => True) 24 (by kernel_rfl) 25 rfl ?_
            refine wpAnyT_takesA (md := .any) 18 (by kernel_rfl) (by intro d v c a w h; cases d <;> exact h) [0, 1, 2, 3, 4, 5, 9] _ _ _ (by decide) (by kernel_rfl) ⟨⟨hA1', hA2'⟩, fun _ => trivial⟩ ?_
            simp only [pick, List.filterMap_cons, List.filterMap_nil, List.getElem?_cons_zero, List.getElem?_cons_succ]
            refine wpIf_step (.slice (some ⟨g2, 0, none⟩) 64 cp2) (by kernel_rfl) (fun w hw => by go_simp) ?_
            refine wpIf_step (.string Q2) (by kernel_rfl) (fun w hw => by have hx := HT2.out w hw.2; go_simp) ?_
            refine wpIf_step (.slice (some ⟨g1, 0, none⟩) 64 cp1) (by kernel_rfl) (fun w hw => by go_simp) ?_
            refine wpIf_step (.string Q1) (by kernel_rfl) (fun w hw => by have hx := HT1.out w hw.1; go_simp) ?_
            refine wpIf_step (.string t) (by kernel_rfl) (fun w hw => by go_simp) ?_
            refine wpIf_step (.string A1) (by kernel_rfl) (fun w hw => by go_simp; try omega) ?_
            refine wpIf_step (.string O) (by kernel_rfl) (fun w hw => by go_simp) ?_
            refine wpIf_nil (fun hS => ?_)
            refine wpAnyT_one 6 17 (by kernel_rfl) rfl (by kernel_rfl) (fun K hK => ?_)
            go_simp
            refine (S2.out _ (HK.out.1.below hBr.drew (Nat.le_refl _)) (HK.out.2.below hBr.drew (Nat.le_refl _))).mono ?_
            rintro e w6 ⟨rfl, hb6⟩
            have hB6 := hBr.drew.trans (hb6.mono hBr.size)
            have hA16 := MAt.keep hA1' hb6 (Nat.le_refl _)
            have hA26 := MAt.keep hA2' hb6 (Nat.le_refl _)
            refine hK _ _ ⟨⟨hA16, hA26⟩, fun _ => trivial⟩ (fun hS3 => ?_)
            clear hK K hS hb6 hA1' hA2' hBr
            refine wpAnyT_takesA (md := .any) 16 (by kernel_rfl) (by intro d v c a w h; cases d <;> exact h) [7] _ _ _ (by decide) (by kernel_rfl) hS3 ?_
            simp only [pick, List.filterMap_cons, List.filterMap_nil, List.getElem?_cons_zero, List.getElem?_cons_succ]
            refine wpIf_step (.string A2) (by kernel_rfl) (fun w hw => by go_simp; try omega) ?_
            refine wpIf_nil (fun hS => ?_)
            clear hS3
            refine wpAnyT_one 8 15 (by kernel_rfl) rfl (by kernel_rfl) (fun K hK => ?_)
            go_simp
            refine (S3.out _ (HK.out.1.below hB6 (Nat.le_refl _)) (HK.out.2.below hB6 (Nat.le_refl _))).mono ?_
            rintro e w7 ⟨rfl, hb7⟩
            have hB7 := hB6.trans (hb7.mono hB6.size)
            have hA17 := hA16.keep hb7 (Nat.le_refl _)
            have hA27 := hA26.keep hb7 (Nat.le_refl _)
            refine hK _ _ ⟨⟨hA17, hA27⟩, fun _ => trivial⟩ (fun hS3 => ?_)
            clear hK K hS hb7 hA16 hA26 hB6
            refine wpAnyT_takesA (md := .any) 5 (by kernel_rfl) (by intro d v c a w h; cases d <;> exact h) [10, 11, 12, 13, 14, 15, 16, 17, 18, 20] _ _ _ (by decide) (by kernel_rfl) hS3 ?_
            simp only [pick, List.filterMap_cons, List.filterMap_nil, List.getElem?_cons_zero, List.getElem?_cons_succ]
            refine wpIf_step (.bool true) (by kernel_rfl) (fun w hw => by go_simp) ?_
            refine wpIf_step (.bool true) (by kernel_rfl) (fun w hw => by go_simp) ?_
            refine wpIf_step (.string k) (by kernel_rfl) (fun w hw => by go_simp) ?_
            refine wpIf_step (.int .i64 (k.size : Int)) (by kernel_rfl) (fun w hw => by go_simp) ?_
            refine wpIf_step (.bool false) (by kernel_rfl) (fun w hw => by go_simp) ?_
            refine wpIf_step (.bool false) (by kernel_rfl) (fun w hw => by go_simp) ?_
            refine wpIf_step (.string k) (by kernel_rfl) (fun w hw => by go_simp) ?_
            refine wpIf_step (.string N0) (by kernel_rfl) (fun w hw => by go_simp; try omega) ?_
            refine wpIf_step (.string t) (by kernel_rfl) (fun w hw => by go_simp) ?_
            refine wpIf_step (.string O) (by kernel_rfl) (fun w hw => by go_simp) ?_
            refine wpIf_nil (fun hS => ?_)
            clear hS3
            refine wpAnyT_one 19 4 (by kernel_rfl) rfl (by kernel_rfl) (fun K hK => ?_)
            go_simp
            refine (I3.out _ (HK.out.1.below hB7 (Nat.le_refl _)) (HK.out.2.below hB7 (Nat.le_refl _))).mono ?_
            rintro e w8 ⟨rfl, hb8⟩
            have hB8 := hB7.trans (hb8.mono hB7.size)
            have hA18 := hA17.keep hb8 (Nat.le_refl _)
            have hA28 := hA27.keep hb8 (Nat.le_refl _)
            refine hK _ _ ⟨⟨hA18, hA28⟩, fun _ => trivial⟩ (fun hS3 => ?_)
            clear hK K hS hb8 hA17 hA27 hB7
            refine wpAnyT_takesA (md := .any) 1 (by kernel_rfl) (by intro d v c a w h; cases d <;> exact h) [21, 22, 23] _ _ _ (by decide) (by kernel_rfl) hS3 ?_
            simp only [pick, List.filterMap_cons, List.filterMap_nil, List.getElem?_cons_zero, List.getElem?_cons_succ]
            refine wpIf_step (.bool true) (by kernel_rfl) (fun w hw => by go_simp) ?_
            refine wpIf_step (.bool true) (by kernel_rfl) (fun w hw => by go_simp) ?_
            refine wpIf_step (.bool true) (by kernel_rfl) (fun w hw => by go_simp) ?_
            refine wpIf_nil (fun hS => ?_)
            clear hS3
            refine wpAnyT_one 24 0 (by kernel_rfl) rfl (by kernel_rfl) (fun K hK => ?_)
            go_simp
            refine hK _ _ ⟨⟨hA18, hA28⟩, fun _ => trivial⟩ (fun hS4 => ?_)
            clear hK K
            refine wpAnyT_over (by kernel_rfl) ?_
            go_wp2
            go_ret
            exact ⟨rfl, hB8⟩
          · have hkeq : (k.size : Int) = 64 := by omega
            have HKE := Lib.hid hkeq
            clear hkeq
            go_wp2
            have hkeq := HKE.out
            refine wp_region_T (fun w' => MAt w' g1 cp1 W1 ∧ MAt w' g2 cp2 W2) (fun _ => True) 24 (by kernel_rfl) 25 rfl ?_
            refine wpAnyT_takesA (md := .any) 18 (by kernel_rfl) (by intro d v c a w h; cases d <;> exact h) [0, 1, 2, 3, 4, 5, 9] _ _ _ (by decide) (by kernel_rfl) ⟨⟨hA1', hA2'⟩, fun _ => trivial⟩ ?_
            simp only [pick, List.filterMap_cons, List.filterMap_nil, List.getElem?_cons_zero, List.getElem?_cons_succ]
            refine wpIf_step (.slice (some ⟨g2, 0, none⟩) 64 cp2) (by kernel_rfl) (fun w hw => by go_simp) ?_
            refine wpIf_step (.string Q2) (by kernel_rfl) (fun w hw => by have hx := HT2.out w hw.2; go_simp) ?_
            refine wpIf_step (.slice (some ⟨g1, 0, none⟩) 64 cp1) (by kernel_rfl) (fun w hw => by go_simp) ?_
            refine wpIf_step (.string Q1) (by kernel_rfl) (fun w hw => by have hx := HT1.out w hw.1; go_simp) ?_
            refine wpIf_step (.string t) (by kernel_rfl) (fun w hw => by go_simp) ?_
            refine wpIf_step (.string A1) (by kernel_rfl) (fun w hw => by go_simp; try omega) ?_
            refine wpIf_step (.string O) (by kernel_rfl) (fun w hw => by go_simp) ?_
            refine wpIf_nil (fun hS => ?_)
            refine wpAnyT_one 6 17 (by kernel_rfl) rfl (by kernel_rfl) (fun K hK => ?_)
            go_simp
            refine (S2.out _ (HK.out.1.below hBr.drew (Nat.le_refl _)) (HK.out.2.below hBr.drew (Nat.le_refl _))).mono ?_
            rintro e w6 ⟨rfl, hb6⟩
            have hB6 := hBr.drew.trans (hb6.mono hBr.size)
            have hA16 := MAt.keep hA1' hb6 (Nat.le_refl _)
            have hA26 := MAt.keep hA2' hb6 (Nat.le_refl _)
            refine hK _ _ ⟨⟨hA16, hA26⟩, fun _ => trivial⟩ (fun hS3 => ?_)
            clear hK K hS hb6 hA1' hA2' hBr
            refine wpAnyT_takesA (md := .any) 16 (by kernel_rfl) (by intro d v c a w h; cases d <;> exact h) [7] _ _ _ (by decide) (by kernel_rfl) hS3 ?_
            simp only [pick, List.filterMap_cons, List.filterMap_nil, List.getElem?_cons_zero, List.getElem?_cons_succ]
            refine wpIf_step (.string A2) (by kernel_rfl) (fun w hw => by go_simp; try omega) ?_
            refine wpIf_nil (fun hS => ?_)
            clear hS3
            refine wpAnyT_one 8 15 (by kernel_rfl) rfl (by kernel_rfl) (fun K hK => ?_)
            go_simp
            refine (S3.out _ (HK.out.1.below hB6 (Nat.le_refl _)) (HK.out.2.below hB6 (Nat.le_refl _))).mono ?_
            rintro e w7 ⟨rfl, hb7⟩
            have hB7 := hB6.trans (hb7.mono hB6.size)
            have hA17 := hA16.keep hb7 (Nat.le_refl _)
            have hA27 := hA26.keep hb7 (Nat.le_refl _)
            refine hK _ _ ⟨⟨hA17, hA27⟩, fun _ => trivial⟩ (fun hS3 => ?_)
            clear hK K hS hb7 hA16 hA26 hB6
            refine wpAnyT_takesA (md := .any) 1 (by kernel_rfl) (by intro d v c a w h; cases d <;> exact h) [10, 11, 12, 13, 14, 15, 16, 17, 18, 19, 20, 21, 22, 23] _ _ _ (by decide) (by kernel_rfl) hS3 ?_
            simp only [pick, List.filterMap_cons, List.filterMap_nil, List.getElem?_cons_zero, List.getElem?_cons_succ]
            refine wpIf_step (.bool true) (by kernel_rfl) (fun w hw => by go_simp) ?_
            refine wpIf_step (.bool true) (by kernel_rfl) (fun w hw => by go_simp) ?_
            refine wpIf_step (.string k) (by kernel_rfl) (fun w hw => by go_simp) ?_
            refine wpIf_step (.int .i64 (k.size : Int)) (by kernel_rfl) (fun w hw => by go_simp) ?_
            refine wpIf_step (.bool true) (by kernel_rfl) (fun w hw => by go_simp) ?_
            refine wpIf_step (.bool true) (by kernel_rfl) (fun w hw => by go_simp) ?_
            iterate 6 (refine wpIf_skip (by kernel_rfl) ?_; go_simp)
            refine wpIf_step (.bool true) (by kernel_rfl) (fun w hw => by go_simp) ?_
            refine wpIf_step (.bool true) (by kernel_rfl) (fun w hw => by go_simp) ?_
            refine wpIf_nil (fun hS => ?_)
            clear hS3
            refine wpAnyT_one 24 0 (by kernel_rfl) rfl (by kernel_rfl) (fun K hK => ?_)
            go_simp
            refine hK _ _ ⟨⟨hA17, hA27⟩, fun _ => trivial⟩ (fun hS4 => ?_)
            clear hK K
            refine wpAnyT_over (by kernel_rfl) ?_
            go_wp2
            go_ret
            exact ⟨rfl, hB7⟩
end Go.Proofs.YtdcbideddlpodaaDoor

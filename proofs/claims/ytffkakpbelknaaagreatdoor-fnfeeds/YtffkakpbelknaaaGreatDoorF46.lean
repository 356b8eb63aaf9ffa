/- Joined: W8p. -/
import Derived.Test.YtffkakpbelknaaaGreatDoorF18
import Derived.Test.YtffkakpbelknaaaGreatDoorF44
import Derived.Test.YtffkakpbelknaaaGreatDoorF45
/- W8p -/
namespace Go.Proofs.YtffkakpbelknaaaGreatDoor
open Go.ChangeShapes Go.WideShapes Go.ChangeAt Go.RowKit Go.Shelf
set_option linter.unusedVariables false
set_option linter.unusedSimpArgs false

theorem cutp_any (R P : ByteArray) (w : World) : Calls Tryz.prog 82 #[.string R, .string P] w fun e w' => e = .returned (.tuple #[.string ⟨(Lib.trimPrefix R.data.toList P.data.toList).toArray⟩, .bool (Lib.hasPrefix R.data.toList P.data.toList)]) ∧ w = w' :=
  (Tryz.strings_CutPrefix R P w).mono (fun e w' h => ⟨h.1, h.2.symm⟩)

theorem cutm_any (R M : ByteArray) (w : World) (hs : R.size ≤ 100000) (h : XTab w) : Calls Tryz.prog 55 #[.string R, .string M] w fun e w' => e = .returned (.tuple #[.string (bl (Lib.cut R.data.toList M.data.toList).1), .string (bl (Lib.cut R.data.toList M.data.toList).2.1), .bool (Lib.cut R.data.toList M.data.toList).2.2]) ∧ Below w.heap.size w w' := by
  obtain ⟨m, hm⟩ := h
  refine (Tryz.strings_Cut R M m w (by omega) hm).mono ?_
  rintro e w' ⟨rfl, n, rfl⟩
  exact ⟨rfl, below_drewN (Below.refl _ _) n⟩

/-- What the texts between marks answer. -/
def FfOut (S : Nat) (o : Option (List (List UInt8) × List UInt8)) (e : Ending) (w' : World) : Prop := match o with
  | none => e = .returned (.tuple #[.slice none 0 0, .string ⟨#[]⟩, .bool false])
  | some (ps, r) => ∃ v, e = .returned (.tuple #[v, .string (bl r), .bool true]) ∧ OwnR 9 1 txC w' S v (ps.map bl)

theorem flds_cons (M : List UInt8) (ms : List (List UInt8)) (R : List UInt8) : flds (M :: ms) R = (fld M R).bind fun q => (flds ms q.2).map fun z => (q.1 :: z.1, z.2) := rfl
theorem flds_step {ms : List (List UInt8)} {M R : List UInt8} {acc : List (List UInt8)} {o : Option (List (List UInt8) × List UInt8)} {p b : List UInt8} (hf : fld M R = some (p, b)) (ho : o = (flds (M :: ms) R).map fun z => (acc ++ z.1, z.2)) : o = (flds ms b).map fun z => ((acc ++ [p]) ++ z.1, z.2) := by
  rw [ho, flds_cons, hf]
  simp only [Option.bind_some, Option.map_map]
  cases flds ms b with
  | none => rfl
  | some z => simp
theorem flds_stop {ms : List (List UInt8)} {M R : List UInt8} {acc : List (List UInt8)} {o : Option (List (List UInt8) × List UInt8)} (hf : fld M R = none) (ho : o = (flds (M :: ms) R).map fun z => (acc ++ z.1, z.2)) : o = none := by
  rw [ho, flds_cons, hf]
  rfl
theorem flds_end {R : List UInt8} {acc : List (List UInt8)} {o : Option (List (List UInt8) × List UInt8)} (ho : o = (flds [] R).map fun z => (acc ++ z.1, z.2)) : o = some (acc, R) := by
  rw [ho]
  simp [flds]

set_option maxRecDepth 100000 in
set_option maxHeartbeats 1600000 in
theorem fieldsOf_any (s first : ByteArray) (vm : Value) (ms : List ByteArray) (w : World) (hs : s.size ≤ 4000) (hm : RecAt 1 txC w w.heap.size vm ms) (hl : ms.length ≤ 8) (hE : ETab w) (hX : XTab w) :
    Calls Tryz.prog 35 #[.string s, .string first, vm] w fun e w' => FfOut w.heap.size (fldF first.data.toList (ms.map fun m => m.data.toList) s.data.toList) e w' ∧ Below w.heap.size w w' := by
  have HM := Lib.hid hm
  have HE := Lib.hid hE
  have HX := Lib.hid hX
  obtain ⟨ma, mc, rfl, hmc, hmx, _⟩ := hm
  unfold maxLen at hmx
  obtain ⟨o, ho⟩ : ∃ o, o = fldF first.data.toList (ms.map fun m => m.data.toList) s.data.toList := ⟨_, rfl⟩
  rw [← ho]
  have HC := Lib.hid (fun w => cutp_any s first w)
  have HA : Hid (Lib.hasPrefix s.data.toList first.data.toList = false → o = none) := Lib.hid (fun h => by rw [ho]; unfold fldF; rw [h]; rfl)
  have HY : Hid (Lib.hasPrefix s.data.toList first.data.toList = true → ∃ R : ByteArray, bl (Lib.trimPrefix s.data.toList first.data.toList) = R ∧ R.size ≤ 4000 ∧ o = (flds (ms.map fun m => m.data.toList) R.data.toList).map fun z => ([] ++ z.1, z.2)) := Lib.hid (fun h => by
    refine ⟨bl (s.data.toList.drop first.data.toList.length), by rw [trim_hit h], ?_, ?_⟩
    · rw [bl_size, List.length_drop]
      have h2 : s.data.toList.length = s.size := by simp
      omega
    · rw [ho, bl_list]
      unfold fldF
      rw [if_pos h]
      simp)
  clear ho hE hX hs
  generalize Lib.hasPrefix s.data.toList first.data.toList = hp at HC HA HY
  generalize Lib.trimPrefix s.data.toList first.data.toList = tp at HC HY
  go_enter Tryz.func35, Tryz.ntmps35
  go_wp2
  refine wp_scope_jumps 0 (fun a' w' => (o = none ∧ Below w.heap.size w w') ∧ ∃ u0 u1 u2 u3 u4 u5 u6 u7 u8 u9 u10 u11 u12 u13 u14 u15 u16 u17 u18 u19 u20 u21 u22 u23 u24 u25 u26 u27 u28 u29 u30 u31 u32 u33 u34 u35 u36 u37 u38 u39 u40 u41 u42 u43 u44 u45 u46 u47 u48 u49 u50 u51 u52 u53 u54 u55 u56 u57 u58 u59 u60 u61 : Value, a' = { tmps := #[u0, u1, u2, u3, u4, u5, u6, u7, u8, u9, u10, u11, u12, u13, u14, u15, u16, u17, u18, u19, u20, u21, u22, u23, u24, u25, u26, u27, u28, u29, u30, u31, u32, u33, u34, u35, u36, u37, u38, u39, u40, u41, u42, u43, u44, u45, u46, u47, u48, u49, u50, u51, u52, u53, u54, u55, u56, u57, u58, u59, u60, u61], defers := [] }) (fun _ _ => 0) rfl ?first ?pass
  case pass =>
    rintro a' w' ⟨⟨ho, hb⟩, u0, u1, u2, u3, u4, u5, u6, u7, u8, u9, u10, u11, u12, u13, u14, u15, u16, u17, u18, u19, u20, u21, u22, u23, u24, u25, u26, u27, u28, u29, u30, u31, u32, u33, u34, u35, u36, u37, u38, u39, u40, u41, u42, u43, u44, u45, u46, u47, u48, u49, u50, u51, u52, u53, u54, u55, u56, u57, u58, u59, u60, u61, rfl⟩
    go_wp2
    simp only [Exit.jump]
    go_ret3
    exact ⟨by rw [ho]; rfl, hb⟩
  go_wp2_with (at_make; refine wpList_makeT rfl _ _ rfl w.heap.size .i64 .i64 (ms.length : Int) rfl rfl (by omega) (by omega) (Nat.le_refl _) ?_; intro v0 w0 hown0 hb0)
  refine (HC.out _).mono ?_
  rintro e w1 ⟨rfl, rfl⟩
  cases hp with
  | false =>
    have ho := HA.out (by first | rfl | trivial)
    go_wp2
    go_step3
    exact ⟨rfl, ⟨ho, hb0⟩, _, _, _, _, _, _, _, _, _, _, _, _, _, _, _, _, _, _, _, _, _, _, _, _, _, _, _, _, _, _, _, _, _, _, _, _, _, _, _, _, _, _, _, _, _, _, _, _, _, _, _, _, _, _, _, _, _, _, _, _, _, _, rfl⟩
  | true =>
    obtain ⟨R0, hR0, hRs, hRo⟩ := HY.out (by first | rfl | trivial)
    have HRo := Lib.hid hRo
    clear HA HY HC hRo
    have hR1 : (⟨tp.toArray⟩ : ByteArray) = R0 := hR0
    rw [hR1]
    clear hR0 hR1
    go_wp2
    go_loopw [9, 10, 32] (fun f r i wr => ∃ (k : Nat) (R : ByteArray) (acc : List (List UInt8)), k ≤ ms.length ∧ i = .int .i64 (k : Int) ∧ r = .string R ∧ R.size ≤ 4000 ∧ OwnR 9 1 txC wr w.heap.size f (acc.map bl) ∧ Hid (o = (flds ((ms.map fun m => m.data.toList).drop k) R.data.toList).map fun z => (acc ++ z.1, z.2)) ∧ Hid (acc.length ≤ k) ∧ Below w.heap.size w wr) (fun _ _ i _ => ms.length - (intOf i).toNat)
    case atStart => exact ⟨0, R0, [], Nat.zero_le _, rfl, rfl, hRs, hown0, by rw [List.drop_zero]; exact HRo, Lib.hid (Nat.zero_le _), hb0⟩
    case round =>
      clear hown0 hb0 HRo hRs
      obtain ⟨k, R, acc, hk, rfl, rfl, hRs, hown, HR, HL, hB⟩ := hrel
      obtain ⟨oa, oc, rfl⟩ := hown.slice
      obtain ⟨LL, hLL⟩ : ∃ LL, LL = acc.map bl := ⟨_, rfl⟩
      rw [← hLL] at hown ⊢
      have HLL := Lib.hid hLL
      have hll : LL.length ≤ 8 := by rw [hLL, List.length_map]; have := HL.out; omega
      clear hLL
      by_cases hlt : k < ms.length
      case neg =>
        have hke : k = ms.length := by omega
        have ho : o = some (acc, R.data.toList) := by
          refine flds_end ?_
          have := HR.out
          rwa [List.drop_of_length_le (by rw [List.length_map]; omega)] at this
        have hF : FfOut w.heap.size o (.returned (.tuple #[.slice oa LL.length oc, .string R, .bool true])) wr := by
          rw [ho]
          exact ⟨_, by rw [bl_back], by rw [← HLL.out]; exact hown⟩
        clear ho hke
        go_wp2
        simp only [Exit.jump]
        go_ret3
        exact ⟨hF, hB⟩
      obtain ⟨b, off, cap2, hv, hb, hc0⟩ := rowT_at (HM.out.below hB) k hlt
      cases hv
      have HD : Hid ((ms.map fun m => m.data.toList).drop k = ms[k].data.toList :: (ms.map fun m => m.data.toList).drop (k + 1)) := Lib.hid (by
        rw [List.drop_eq_getElem_cons (by rw [List.length_map]; exact hlt), List.getElem_map])
      rw [HD.out] at HR
      generalize ms[k] = M at hc0 HR
      clear HD
      have HC := Lib.hid (fun w h => cutm_any R M w (by omega) h)
      have HF := Lib.hid (fld_A M.data.toList R.data.toList)
      have HZ : Hid ((Lib.cut R.data.toList M.data.toList).2.2 = true → (Lib.cut R.data.toList M.data.toList).2.1.length ≤ 4000) := Lib.hid (fun h => by
        have h1 := congrArg List.length (cut_yes h)
        rw [List.length_append, List.length_append] at h1
        have h2 : R.data.toList.length = R.size := by simp
        omega)
      generalize Lib.cut R.data.toList M.data.toList = c at HC HF HZ
      obtain ⟨ca, cb, cc⟩ := c
      dsimp only at HC HF HZ
      have HP := Lib.hid (fun w h => implPlain_any (bl ca) w h)
      have hpv := plV_A (bl ca)
      rw [bl_list] at hpv
      rw [hpv] at HP
      clear hpv
      generalize plA ca = p at HP HF
      obtain ⟨pa, pb⟩ := p
      dsimp only at HP HF
      go_wp2_with fail
      refine (HC.out _ (HX.out.below hB (Nat.le_refl _))).mono ?_
      rintro e w2 ⟨rfl, hb2⟩
      replace hown := hown.keep hb2 (Nat.le_refl _)
      replace hB := hB.trans (hb2.mono hB.size)
      clear hb2
      go_wp2_with fail
      refine (HP.out _ (HE.out.below hB (Nat.le_refl _))).mono ?_
      rintro e w3 ⟨rfl, hb3⟩
      replace hown := hown.keep hb3 (Nat.le_refl _)
      replace hB := hB.trans (hb3.mono hB.size)
      clear hb3 HC HP hc0
      cases cc with
      | false =>
        have ho : o = none := flds_stop HF.out HR.out
        go_wp2
        go_step3
        exact ⟨rfl, ⟨ho, hB⟩, _, _, _, _, _, _, _, _, _, _, _, _, _, _, _, _, _, _, _, _, _, _, _, _, _, _, _, _, _, _, _, _, _, _, _, _, _, _, _, _, _, _, _, _, _, _, _, _, _, _, _, _, _, _, _, _, _, _, _, _, _, _, rfl⟩
      | true =>
        cases pb with
        | false =>
          have ho : o = none := flds_stop HF.out HR.out
          go_wp2
          go_step3
          exact ⟨rfl, ⟨ho, hB⟩, _, _, _, _, _, _, _, _, _, _, _, _, _, _, _, _, _, _, _, _, _, _, _, _, _, _, _, _, _, _, _, _, _, _, _, _, _, _, _, _, _, _, _, _, _, _, _, _, _, _, _, _, _, _, _, _, _, _, _, _, _, _, rfl⟩
        | true =>
          have HN := Lib.hid (flds_step HF.out HR.out)
          have hcb := HZ.out (by first | rfl | trivial)
          clear HF HR HZ
          have HA2 : Hid (LL ++ [bl pa] = (acc ++ [pa]).map bl) := Lib.hid (by rw [HLL.out, List.map_append]; rfl)
          have HL2 : Hid ((acc ++ [pa]).length ≤ k + 1) := Lib.hid (by have := HL.out; rw [List.length_append, List.length_singleton]; omega)
          clear HL HLL
          have HO2 := Lib.hid (hown.alloc (.cells #[.string (bl pa)] 9))
          have HOn := Lib.hid (one_recT txC_len w3 9 (bl pa) #[.string (bl pa)] rfl)
          have HB2 := Lib.hid (hB.alloc hB.size (.cells #[.string (bl pa)] 9))
          have HOw := Lib.hid hown
          have hws := hB.size
          clear hown hB
          generalize bl pa = P at HA2 HO2 HOn HB2 ⊢
          generalize acc ++ [pa] = acc2 at HN HA2 HL2
          go_wp2_with (at_builtin; refine wpList_appR txC_len (by decide) Tryz.underlying57 Tryz.infoTx rfl (by decide) rfl (.tmp 54) (.tmp 56) rfl w.heap.size (w3.heap.size + 1) _ _ _ [P] rfl rfl HO2.out HOn.out (fun y _ => txC_one y) (by simp; omega) (by simp; omega) ?_; intro v1 w4 hown1 hg1)
          have hown2 : OwnR 9 1 txC w4 w.heap.size v1 (acc2.map bl) := by rw [← HA2.out]; exact hown1
          have hB3 := HB2.out.trans (gb_BelowT hg1 (by simp; omega) (ownBlock_base HOw.out))
          clear hown1 hg1
          go_wp2
          go_roundw
          case rel => exact ⟨k + 1, bl cb, acc2, by omega, by go_num, rfl, hcb, hown2, HN, HL2, hB3⟩
          case measure => simp [intOf]; omega
end Go.Proofs.YtffkakpbelknaaaGreatDoor

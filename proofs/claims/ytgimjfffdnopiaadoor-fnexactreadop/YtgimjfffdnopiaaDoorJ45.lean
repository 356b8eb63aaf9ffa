/- Joined: W8p, W8q. -/
import Derived.Test.YtgimjfffdnopiaaDoorJ21
import Derived.Test.YtgimjfffdnopiaaDoorJ24
import Derived.Test.YtgimjfffdnopiaaDoorJ41
import Derived.Test.YtgimjfffdnopiaaDoorJ43
import Derived.Test.YtgimjfffdnopiaaDoorJ44
/- W8p -/
namespace Go.Proofs.YtgimjfffdnopiaaDoor
open Go.ChangeShapes Go.WideShapes Go.ChangeAt Go.RowKit Go.Shelf
set_option linter.unusedVariables false
set_option linter.unusedSimpArgs false

theorem cutp_any (R P : ByteArray) (w : World) : Calls Tryd.prog 95 #[.string R, .string P] w fun e w' => e = .returned (.tuple #[.string ⟨(Lib.trimPrefix R.data.toList P.data.toList).toArray⟩, .bool (Lib.hasPrefix R.data.toList P.data.toList)]) ∧ w = w' :=
  (Tryd.strings_CutPrefix R P w).mono (fun e w' h => ⟨h.1, h.2.symm⟩)

theorem cutm_any (R M : ByteArray) (w : World) (hs : R.size ≤ 100000) (h : XTab w) : Calls Tryd.prog 68 #[.string R, .string M] w fun e w' => e = .returned (.tuple #[.string (bl (Lib.cut R.data.toList M.data.toList).1), .string (bl (Lib.cut R.data.toList M.data.toList).2.1), .bool (Lib.cut R.data.toList M.data.toList).2.2]) ∧ Below w.heap.size w w' := by
  obtain ⟨m, hm⟩ := h
  refine (Tryd.strings_Cut R M m w (by omega) hm).mono ?_
  rintro e w' ⟨rfl, n, rfl⟩
  exact ⟨rfl, below_drewN (Below.refl _ _) n⟩

/-- What the texts between marks answer. -/
def FfOut (S : Nat) (o : Option (List (List UInt8) × List UInt8)) (e : Ending) (w' : World) : Prop := match o with
  | none => e = .returned (.tuple #[.slice none 0 0, .string ⟨#[]⟩, .bool false])
  | some (ps, r) => ∃ v, e = .returned (.tuple #[v, .string (bl r), .bool true]) ∧ OwnR 9 1 txC w' S v (ps.map bl)

theorem flds_cons (M : List UInt8) (ms : List (List UInt8)) (R : List UInt8) : flds (M :: ms) R = (fld M R).bind fun q => (flds ms q.2).map fun z => (q.1 :: z.1, z.2) := rfl
theorem flds_step {ms : List (List UInt8)} {M R : List UInt8} {acc : List (List UInt8)} {o : Option (List (List UInt8) × List UInt8)} {p b : List UInt8} (hf : fld M R = some (p, b)) (ho : o = (flds (M :: ms) R).map fun z => (acc ++ z.1, z.2)) : o = (flds ms b).map fun z => ((acc ++ [p]) ++ z.1, z.2) := by
  rw [ho, flds_cons, hf]
  simp only [Option.bind_some, Option.map_map]
  cases flds ms b with
  | none => rfl
  | some z => simp
theorem flds_stop {ms : List (List UInt8)} {M R : List UInt8} {acc : List (List UInt8)} {o : Option (List (List UInt8) × List UInt8)} (hf : fld M R = none) (ho : o = (flds (M :: ms) R).map fun z => (acc ++ z.1, z.2)) : o = none := by
  rw [ho, flds_cons, hf]
  rfl
theorem flds_end {R : List UInt8} {acc : List (List UInt8)} {o : Option (List (List UInt8) × List UInt8)} (ho : o = (flds [] R).map fun z => (acc ++ z.1, z.2)) : o = some (acc, R) := by
  rw [ho]
  simp [flds]

set_option maxRecDepth 100000 in
set_option maxHeartbeats 1600000 in
theorem fieldsOf_any (s first : ByteArray) (vm : Value) (ms : List ByteArray) (w : World) (hs : s.size ≤ 4000) (hm : RecAt 1 txC w w.heap.size vm ms) (hl : ms.length ≤ 8) (hE : ETab w) (hX : XTab w) :
    Calls Tryd.prog 59 #[.string s, .string first, vm] w fun e w' => FfOut w.heap.size (fldF first.data.toList (ms.map fun m => m.data.toList) s.data.toList) e w' ∧ Below w.heap.size w w' := by
  have HM := Lib.hid hm
  have HE := Lib.hid hE
  have HX := Lib.hid hX
  obtain ⟨ma, mc, rfl, hmc, hmx, _⟩ := hm
  unfold maxLen at hmx
  obtain ⟨o, ho⟩ : ∃ o, o = fldF first.data.toList (ms.map fun m => m.data.toList) s.data.toList := ⟨_, rfl⟩
  rw [← ho]
  have HC := Lib.hid (fun w => cutp_any s first w)
  have HA : Hid (Lib.hasPrefix s.data.toList first.data.toList = false → o = none) := Lib.hid (fun h => by rw [ho]; unfold fldF; rw [h]; rfl)
  have HY : Hid (Lib.hasPrefix s.data.toList first.data.toList = true → ∃ R : ByteArray, bl (Lib.trimPrefix s.data.toList first.data.toList) = R ∧ R.size ≤ 4000 ∧ o = (flds (ms.map fun m => m.data.toList) R.data.toList).map fun z => ([] ++ z.1, z.2)) := Lib.hid (fun h => by
    refine ⟨bl (s.data.toList.drop first.data.toList.length), by rw [trim_hit h], ?_, ?_⟩
    · rw [bl_size, List.length_drop]
      have h2 : s.data.toList.length = s.size := by simp
      omega
    · rw [ho, bl_list]
      unfold fldF
      rw [if_pos h]
      simp)
  clear ho hE hX hs
  generalize Lib.hasPrefix s.data.toList first.data.toList = hp at HC HA HY
  generalize Lib.trimPrefix s.data.toList first.data.toList = tp at HC HY
  go_enter Tryd.func59, Tryd.ntmps59
  go_wp2
  refine wp_scope_jumps 0 (fun a' w' => (o = none ∧ Below w.heap.size w w') ∧ ∃ u0 u1 u2 u3 u4 u5 u6 u7 u8 u9 u10 u11 u12 u13 u14 u15 u16 u17 u18 u19 u20 u21 u22 u23 u24 u25 u26 u27 u28 u29 u30 u31 u32 u33 u34 u35 u36 u37 u38 u39 u40 u41 u42 u43 u44 u45 u46 u47 u48 u49 u50 u51 u52 u53 u54 u55 u56 u57 u58 u59 u60 u61 : Value, a' = { tmps := #[u0, u1, u2, u3, u4, u5, u6, u7, u8, u9, u10, u11, u12, u13, u14, u15, u16, u17, u18, u19, u20, u21, u22, u23, u24, u25, u26, u27, u28, u29, u30, u31, u32, u33, u34, u35, u36, u37, u38, u39, u40, u41, u42, u43, u44, u45, u46, u47, u48, u49, u50, u51, u52, u53, u54, u55, u56, u57, u58, u59, u60, u61], defers := [] }) (fun _ _ => 0) rfl ?first ?pass
  case pass =>
    rintro a' w' ⟨⟨ho, hb⟩, u0, u1, u2, u3, u4, u5, u6, u7, u8, u9, u10, u11, u12, u13, u14, u15, u16, u17, u18, u19, u20, u21, u22, u23, u24, u25, u26, u27, u28, u29, u30, u31, u32, u33, u34, u35, u36, u37, u38, u39, u40, u41, u42, u43, u44, u45, u46, u47, u48, u49, u50, u51, u52, u53, u54, u55, u56, u57, u58, u59, u60, u61, rfl⟩
    go_wp2
    simp only [Exit.jump]
    go_ret3
    exact ⟨by rw [ho]; rfl, hb⟩
  go_wp2_with (at_make; refine wpList_makeT rfl _ _ rfl w.heap.size .i64 .i64 (ms.length : Int) rfl rfl (by omega) (by omega) (Nat.le_refl _) ?_; intro v0 w0 hown0 hb0)
  refine (HC.out _).mono ?_
  rintro e w1 ⟨rfl, rfl⟩
  cases hp with
  | false =>
    have ho := HA.out (by first | rfl | trivial)
    go_wp2
    go_step3
    exact ⟨rfl, ⟨ho, hb0⟩, _, _, _, _, _, _, _, _, _, _, _, _, _, _, _, _, _, _, _, _, _, _, _, _, _, _, _, _, _, _, _, _, _, _, _, _, _, _, _, _, _, _, _, _, _, _, _, _, _, _, _, _, _, _, _, _, _, _, _, _, _, _, rfl⟩
  | true =>
    obtain ⟨R0, hR0, hRs, hRo⟩ := HY.out (by first | rfl | trivial)
    have HRo := Lib.hid hRo
    clear HA HY HC hRo
    have hR1 : (⟨tp.toArray⟩ : ByteArray) = R0 := hR0
    rw [hR1]
    clear hR0 hR1
    go_wp2
    go_loopw [9, 10, 32] (fun f r i wr => ∃ (k : Nat) (R : ByteArray) (acc : List (List UInt8)), k ≤ ms.length ∧ i = .int .i64 (k : Int) ∧ r = .string R ∧ R.size ≤ 4000 ∧ OwnR 9 1 txC wr w.heap.size f (acc.map bl) ∧ Hid (o = (flds ((ms.map fun m => m.data.toList).drop k) R.data.toList).map fun z => (acc ++ z.1, z.2)) ∧ Hid (acc.length ≤ k) ∧ Below w.heap.size w wr) (fun _ _ i _ => ms.length - (intOf i).toNat)
    case atStart => exact ⟨0, R0, [], Nat.zero_le _, rfl, rfl, hRs, hown0, by rw [List.drop_zero]; exact HRo, Lib.hid (Nat.zero_le _), hb0⟩
    case round =>
      clear hown0 hb0 HRo hRs
      obtain ⟨k, R, acc, hk, rfl, rfl, hRs, hown, HR, HL, hB⟩ := hrel
      obtain ⟨oa, oc, rfl⟩ := hown.slice
      obtain ⟨LL, hLL⟩ : ∃ LL, LL = acc.map bl := ⟨_, rfl⟩
      rw [← hLL] at hown ⊢
      have HLL := Lib.hid hLL
      have hll : LL.length ≤ 8 := by rw [hLL, List.length_map]; have := HL.out; omega
      clear hLL
      by_cases hlt : k < ms.length
      case neg =>
        have hke : k = ms.length := by omega
        have ho : o = some (acc, R.data.toList) := by
          refine flds_end ?_
          have := HR.out
          rwa [List.drop_of_length_le (by rw [List.length_map]; omega)] at this
        have hF : FfOut w.heap.size o (.returned (.tuple #[.slice oa LL.length oc, .string R, .bool true])) wr := by
          rw [ho]
          exact ⟨_, by rw [bl_back], by rw [← HLL.out]; exact hown⟩
        clear ho hke
        go_wp2
        simp only [Exit.jump]
        go_ret3
        exact ⟨hF, hB⟩
      obtain ⟨b, off, cap2, hv, hb, hc0⟩ := rowT_at (HM.out.below hB) k hlt
      cases hv
      have HD : Hid ((ms.map fun m => m.data.toList).drop k = ms[k].data.toList :: (ms.map fun m => m.data.toList).drop (k + 1)) := Lib.hid (by
        rw [List.drop_eq_getElem_cons (by rw [List.length_map]; exact hlt), List.getElem_map])
      rw [HD.out] at HR
      generalize ms[k] = M at hc0 HR
      clear HD
      have HC := Lib.hid (fun w h => cutm_any R M w (by omega) h)
      have HF := Lib.hid (fld_A M.data.toList R.data.toList)
      have HZ : Hid ((Lib.cut R.data.toList M.data.toList).2.2 = true → (Lib.cut R.data.toList M.data.toList).2.1.length ≤ 4000) := Lib.hid (fun h => by
        have h1 := congrArg List.length (cut_yes h)
        rw [List.length_append, List.length_append] at h1
        have h2 : R.data.toList.length = R.size := by simp
        omega)
      generalize Lib.cut R.data.toList M.data.toList = c at HC HF HZ
      obtain ⟨ca, cb, cc⟩ := c
      dsimp only at HC HF HZ
      have HP := Lib.hid (fun w h => implPlain_any (bl ca) w h)
      have hpv := plV_A (bl ca)
      rw [bl_list] at hpv
      rw [hpv] at HP
      clear hpv
      generalize plA ca = p at HP HF
      obtain ⟨pa, pb⟩ := p
      dsimp only at HP HF
      go_wp2_with fail
      refine (HC.out _ (HX.out.below hB (Nat.le_refl _))).mono ?_
      rintro e w2 ⟨rfl, hb2⟩
      replace hown := hown.keep hb2 (Nat.le_refl _)
      replace hB := hB.trans (hb2.mono hB.size)
      clear hb2
      go_wp2_with fail
      refine (HP.out _ (HE.out.below hB (Nat.le_refl _))).mono ?_
      rintro e w3 ⟨rfl, hb3⟩
      replace hown := hown.keep hb3 (Nat.le_refl _)
      replace hB := hB.trans (hb3.mono hB.size)
      clear hb3 HC HP hc0
      cases cc with
      | false =>
        have ho : o = none := flds_stop HF.out HR.out
        go_wp2
        go_step3
        exact ⟨rfl, ⟨ho, hB⟩, _, _, _, _, _, _, _, _, _, _, _, _, _, _, _, _, _, _, _, _, _, _, _, _, _, _, _, _, _, _, _, _, _, _, _, _, _, _, _, _, _, _, _, _, _, _, _, _, _, _, _, _, _, _, _, _, _, _, _, _, _, _, rfl⟩
      | true =>
        cases pb with
        | false =>
          have ho : o = none := flds_stop HF.out HR.out
          go_wp2
          go_step3
          exact ⟨rfl, ⟨ho, hB⟩, _, _, _, _, _, _, _, _, _, _, _, _, _, _, _, _, _, _, _, _, _, _, _, _, _, _, _, _, _, _, _, _, _, _, _, _, _, _, _, _, _, _, _, _, _, _, _, _, _, _, _, _, _, _, _, _, _, _, _, _, _, _, rfl⟩
        | true =>
          have HN := Lib.hid (flds_step HF.out HR.out)
          have hcb := HZ.out (by first | rfl | trivial)
          clear HF HR HZ
          have HA2 : Hid (LL ++ [bl pa] = (acc ++ [pa]).map bl) := Lib.hid (by rw [HLL.out, List.map_append]; rfl)
          have HL2 : Hid ((acc ++ [pa]).length ≤ k + 1) := Lib.hid (by have := HL.out; rw [List.length_append, List.length_singleton]; omega)
          clear HL HLL
          have HO2 := Lib.hid (hown.alloc (.cells #[.string (bl pa)] 9))
          have HOn := Lib.hid (one_recT txC_len w3 9 (bl pa) #[.string (bl pa)] rfl)
          have HB2 := Lib.hid (hB.alloc hB.size (.cells #[.string (bl pa)] 9))
          have HOw := Lib.hid hown
          have hws := hB.size
          clear hown hB
          generalize bl pa = P at HA2 HO2 HOn HB2 ⊢
          generalize acc ++ [pa] = acc2 at HN HA2 HL2
          go_wp2_with (at_builtin; refine wpList_appR txC_len (by decide) Tryd.underlying73 Tryd.infoTx rfl (by decide) rfl (.tmp 54) (.tmp 56) rfl w.heap.size (w3.heap.size + 1) _ _ _ [P] rfl rfl HO2.out HOn.out (fun y _ => txC_one y) (by simp; omega) (by simp; omega) ?_; intro v1 w4 hown1 hg1)
          have hown2 : OwnR 9 1 txC w4 w.heap.size v1 (acc2.map bl) := by rw [← HA2.out]; exact hown1
          have hB3 := HB2.out.trans (gb_BelowT hg1 (by simp; omega) (ownBlock_base HOw.out))
          clear hown1 hg1
          go_wp2
          go_roundw
          case rel => exact ⟨k + 1, bl cb, acc2, by omega, by go_num, rfl, hcb, hown2, HN, HL2, hB3⟩
          case measure => simp [intOf]; omega
end Go.Proofs.YtgimjfffdnopiaaDoor

/- W8q -/
namespace Go.Proofs.YtgimjfffdnopiaaDoor
open Go.ChangeShapes Go.WideShapes Go.ChangeAt Go.RowKit Go.Shelf
set_option linter.unusedVariables false
set_option linter.unusedSimpArgs false

theorem put3it (w : World) (g : Nat) (a b c : Value) {cs : Array Value} {t : TypeId} (h : Box w g cs t) (hz : cs.size = 3) : Box (((w.setCell ⟨g, 0, none⟩ a).setCell ⟨g, 1, none⟩ b).setCell ⟨g, 2, none⟩ c) g #[a, b, c] t := by
  obtain ⟨xs, rfl, hl⟩ := arrS hz
  exact Box.fillAll (us := [a, b, c]) h hl.symm
theorem below3it (w : World) (B g : Nat) (hB : B ≤ g) (a b c : Value) : Below B w (((w.setCell ⟨g, 0, none⟩ a).setCell ⟨g, 1, none⟩ b).setCell ⟨g, 2, none⟩ c) := below_putRow g B hB [a, b, c] 0 w
theorem Tryd.infItQ : (Tryd.prog.info? 71).map (·.size) = some 3 := by kernel_rfl
theorem results_cell3 {fn : Func} {p u v : Tmp} {ty : TypeId} (h : fn.results = #[.cell p ty, .tmp u, .tmp v]) (tmps : Array Value) (P : Program) (w : World) :
    (results fn tmps).run P w =
      ((asAddr (tmps.getD p undef)).run P w).andThen fun a w₁ => ((loadVar ty a).run P w₁).andThen fun x w₂ => .ok (.tuple #[x, tmps.getD u undef, tmps.getD v undef]) w₂ := by
  simp only [results, h]
  simp [Sem.run_bind, Result.andThen]
theorem results_it3 {fn : Func} {p u v : Tmp} (h : fn.results = #[.cell p 71, .tmp u, .tmp v]) (tmps : Array Value) (w : World) (g : Nat) (s t : ByteArray) (d : Int) (a b : Value)
    (hp : tmps.getD p undef = .pointer (some ⟨g, 0, none⟩)) (hu : tmps.getD u undef = a) (hv : tmps.getD v undef = b) (hA : Box w g #[.string s, .string t, .int .i64 d] 71) : (results fn tmps).run Tryd.prog w = .ok (.tuple #[itV s t d, a, b]) w := by
  have e := run_loadVar_row (P := Tryd.prog) w g _ 71 _ _ _ hA Tryd.underlying71 rfl Tryd.infItQ
  rw [results_cell3 h, hp, hu, hv]
  simp [asAddr, e, Result.andThen]
/-- What reading an item answers. -/
def RiOut (o : Option (It × List UInt8)) (e : Ending) : Prop := match o with
  | none => e = .returned (.tuple #[itV ⟨#[]⟩ ⟨#[]⟩ 0, .string ⟨#[]⟩, .bool false])
  | some (x, r) => e = .returned (.tuple #[itV x.id x.ti x.da, .string (bl r), .bool true])
theorem fld3_cases (f a b c l : List UInt8) : fldF f [a, b, c] l = none ∨ ∃ i d t r, fldF f [a, b, c] l = some ([i, d, t], r) := by
  unfold fldF
  split
  · rw [flds3]
    cases fld a (l.drop f.length) with
    | none => exact .inl rfl
    | some q1 =>
      rw [Option.bind_some]
      cases fld b q1.2 with
      | none => exact .inl rfl
      | some q2 =>
        rw [Option.bind_some]
        cases fld c q2.2 with
        | none => exact .inl rfl
        | some q3 => exact .inr ⟨_, _, _, _, rfl⟩
  · exact .inl rfl
theorem fld2_cases (f a b l : List UInt8) : fldF f [a, b] l = none ∨ ∃ u t r, fldF f [a, b] l = some ([u, t], r) := by
  unfold fldF
  split
  · rw [flds2]
    cases fld a (l.drop f.length) with
    | none => exact .inl rfl
    | some q1 =>
      rw [Option.bind_some]
      cases fld b q1.2 with
      | none => exact .inl rfl
      | some q2 => exact .inr ⟨_, _, _, rfl⟩
  · exact .inl rfl

set_option maxRecDepth 100000 in
set_option maxHeartbeats 2000000 in
theorem readItem_any (s : ByteArray) (w : World) (hs : s.size ≤ 4000) (hE : ETab w) (hX : XTab w) (hM : MTab w) :
    Calls Tryd.prog 60 #[.string s] w fun e w' => RiOut (pItem s.data.toList) e ∧ Below w.heap.size w w' := by
  obtain ⟨o, ho⟩ : ∃ o, o = pItem s.data.toList := ⟨_, rfl⟩
  rw [← ho]
  have hz := Box.new w #[.string ⟨#[]⟩, .string ⟨#[]⟩, .int .i64 0] 71
  have hb0 : Below w.heap.size w (w.alloc (.cells #[.string ⟨#[]⟩, .string ⟨#[]⟩, .int .i64 0] 71)) := (Below.refl _ _).alloc (Nat.le_refl _) _
  have hE1 := hE.below hb0 (Nat.le_refl _)
  have hX1 := hX.below hb0 (Nat.le_refl _)
  have hM1 := hM.below hb0 (Nat.le_refl _)
  clear hE hX hM
  generalize hW0 : w.alloc (.cells #[.string ⟨#[]⟩, .string ⟨#[]⟩, .int .i64 0] 71) = W0 at hz hb0 hE1 hX1 hM1
  have hrow := rowT_new W0 9 [iS2, iS3, iS4] (by decide) #[.string iS2, .string iS3, .string iS4] rfl
  have hb1 : Below W0.heap.size W0 (W0.alloc (.cells #[.string iS2, .string iS3, .string iS4] 9)) := (Below.refl _ _).alloc (Nat.le_refl _) _
  replace hz := hz.alloc (.cells #[.string iS2, .string iS3, .string iS4] 9)
  replace hE1 := hE1.below hb1 (Nat.le_refl _)
  replace hX1 := hX1.below hb1 (Nat.le_refl _)
  replace hM1 := hM1.below hb1 (Nat.le_refl _)
  replace hb0 := hb0.alloc hb0.size (.cells #[.string iS2, .string iS3, .string iS4] 9)
  clear hb1
  rw [← World.size_alloc W0 (.cells #[.string iS2, .string iS3, .string iS4] 9)] at hrow
  have HF := Lib.hid (fieldsOf_any s iS1 (.slice (some ⟨W0.heap.size, 0, none⟩) 3 3) [iS2, iS3, iS4] _ hs hrow (by decide) hE1 hX1)
  have HO : Hid (o = match fldF iL1 [iL2, iL3, iL4] s.data.toList with
    | some ([i, d, t], r) => if rdOk (bl d) = true then some (⟨bl i, bl t, dN (rY (bl d)) (rM (bl d)) (rD (bl d))⟩, r) else none
    | _ => none) := Lib.hid ho
  clear ho hrow hs
  go_enter Tryd.func60, Tryd.ntmps60
  go_wp2_with fail
  clear hW0
  generalize hW1 : W0.alloc (.cells #[.string iS2, .string iS3, .string iS4] 9) = W1 at HF hz hM1 hb0
  generalize W0.heap.size = G0 at HF ⊢
  have hW1' : W0.alloc (.cells #[.string ⟨#[34, 32, 100, 97, 116, 101, 61, 34]⟩, .string ⟨#[34, 62]⟩, .string ⟨#[60, 47, 105, 116, 101, 109, 62]⟩] 9) = W1 := hW1
  rw [hW1']
  clear hW1 hW1'
  refine HF.out.mono ?_
  rintro e w2 ⟨hff, hb2⟩
  replace hz := hz.keep hb2 hz.lt
  have hM2 := hM1.below hb2 (Nat.le_refl _)
  have hB := hb0.trans (hb2.mono hb0.size)
  clear hb2 hM1 hb0 HF
  have hff2 : FfOut W1.heap.size (fldF iL1 [iL2, iL3, iL4] s.data.toList) e w2 := hff
  clear hff
  rcases fld3_cases iL1 iL2 iL3 iL4 s.data.toList with hn | ⟨i, d, t, r, hsome⟩
  · rw [hn] at hff2 HO
    obtain rfl : e = .returned (.tuple #[.slice none 0 0, .string ⟨#[]⟩, .bool false]) := hff2
    have hO : RiOut o (.returned (.tuple #[itV ⟨#[]⟩ ⟨#[]⟩ 0, .string ⟨#[]⟩, .bool false])) := by rw [HO.out]; rfl
    clear hn HO
    have z0 := hz.cell 0 _ rfl
    have z1 := hz.cell 1 _ rfl
    have z2 := hz.cell 2 _ rfl
    have f0 := hz.free 0
    have f1 := hz.free 1
    have f2 := hz.free 2
    go_wp2
    refine bodyPost_ret (results_it3 rfl _ _ _ ⟨#[]⟩ ⟨#[]⟩ 0 _ _ rfl rfl rfl (put3it _ _ _ _ _ hz rfl)) rfl ?_
    exact ⟨hO, hB.trans (below3it _ w.heap.size _ (Nat.le_refl _) _ _ _)⟩
  · rw [hsome] at hff2 HO
    obtain ⟨v, rfl, hown⟩ := hff2
    have hrow : RecAt 1 txC w2 w2.heap.size v [bl i, bl d, bl t] := hown.at txC_len
    clear hsome hown
    obtain ⟨b, off, cap, hv, hbs, hc1⟩ := rowT_at hrow 1 (by simp)
    cases hv
    have hc1' : w2.cell? ⟨b, off + 1, none⟩ = some (.string (bl d)) := hc1
    have HR := Lib.hid (fun w h => implReadDate_any (bl d) w h)
    have HA : Hid (rdOk (bl d) = false → RiOut o (.returned (.tuple #[itV ⟨#[]⟩ ⟨#[]⟩ 0, .string ⟨#[]⟩, .bool false]))) := Lib.hid (fun h => by rw [HO.out]; simp only [h]; rfl)
    have HY : Hid (rdOk (bl d) = true → RiOut o (.returned (.tuple #[itV (bl i) (bl t) (dayR (rY (bl d)) (rM (bl d)) (rD (bl d))), .string (bl r), .bool true]))) := Lib.hid (fun h => by
      have e : dayR (rY (bl d)) (rM (bl d)) (rD (bl d)) = dN (rY (bl d)) (rM (bl d)) (rD (bl d)) := by unfold dayR; rw [if_pos ((rdOk_iff _).1 h).2.2.2]
      rw [HO.out, e]; simp only [h]; rfl)
    have HV1 : Hid (rdOk (bl d) = true → rdV (bl d) = .tuple #[dV (rY (bl d)) (rM (bl d)) (rD (bl d)), .bool true]) := Lib.hid (fun h => rdV_yes ((rdOk_iff _).1 h))
    have HV0 : Hid (rdOk (bl d) = false → rdV (bl d) = .tuple #[dV 0 0 0, .bool false]) := Lib.hid (fun h => rdV_not (fun hx => by rw [(rdOk_iff _).2 hx] at h; cases h))
    have HD := Lib.hid (fun w h => implDayOf_any (rY (bl d)) (rM (bl d)) (rD (bl d)) w h)
    clear HO hc1
    generalize dayR (rY (bl d)) (rM (bl d)) (rD (bl d)) = n at HY HD
    generalize rY (bl d) = y at HV1 HD
    generalize rM (bl d) = m at HV1 HD
    generalize rD (bl d) = dd at HV1 HD
    generalize rdV (bl d) = V at HR HV1 HV0
    generalize rdOk (bl d) = F at HA HY HV1 HV0
    generalize bl d = D at hrow hc1' HR
    generalize bl i = I at hrow HY
    generalize bl t = T at hrow HY
    go_wp2_with fail
    refine (HR.out _ hM2).mono ?_
    rintro e w3 ⟨rfl, hb3⟩
    replace hz := hz.keep hb3 hz.lt
    replace hM2 := hM2.below hb3 (Nat.le_refl _)
    replace hB := hB.trans (hb3.mono hB.size)
    replace hrow := (hrow.below hb3).mono hb3.size
    clear hb3 hc1' HR
    cases F with
    | false =>
      obtain rfl := HV0.out (by first | rfl | trivial)
      have hO := HA.out (by first | rfl | trivial)
      clear HA HY HV0 HV1 HD hrow
      replace hz := hz.alloc (.cells #[.int .i64 0, .int .i64 0, .int .i64 0] 25)
      replace hB := hB.alloc hB.size (.cells #[.int .i64 0, .int .i64 0, .int .i64 0] 25)
      have z0 := hz.cell 0 _ rfl
      have z1 := hz.cell 1 _ rfl
      have z2 := hz.cell 2 _ rfl
      have f0 := hz.free 0
      have f1 := hz.free 1
      have f2 := hz.free 2
      go_wp2
      refine bodyPost_ret (results_it3 rfl _ _ _ ⟨#[]⟩ ⟨#[]⟩ 0 _ _ rfl rfl rfl (put3it _ _ _ _ _ hz rfl)) rfl ?_
      exact ⟨hO, hB.trans (below3it _ w.heap.size _ (Nat.le_refl _) _ _ _)⟩
    | true =>
      obtain rfl := HV1.out (by first | rfl | trivial)
      have hO := HY.out (by first | rfl | trivial)
      have hdt := Box.new w3 #[.int .i64 y, .int .i64 m, .int .i64 dd] 25
      have hb1 : Below w3.heap.size w3 (w3.alloc (.cells #[.int .i64 y, .int .i64 m, .int .i64 dd] 25)) := (Below.refl _ _).alloc (Nat.le_refl _) _
      have hlt3 : w.heap.size < w3.heap.size := hz.lt
      replace hrow := (hrow.below hb1).mono hb1.size
      replace hM2 := hM2.below hb1 (Nat.le_refl _)
      replace hz := hz.keep hb1 hz.lt
      replace hB := hB.trans (hb1.mono hB.size)
      clear HA HY HV0 HV1 hb1 hbs
      go_wp2
      generalize w3.alloc (.cells #[.int .i64 y, .int .i64 m, .int .i64 dd] 25) = W4 at hdt hrow hM2 hz hB ⊢
      generalize w3.heap.size = G8 at hdt hlt3 ⊢
      have hS4 : ∃ S, S = W4.heap.size := ⟨_, rfl⟩
      obtain ⟨S, hS⟩ := hS4
      rw [← hS] at hrow
      refine wp_region_T (fun _ => True) (fun v => RecAt 1 txC v S (.slice (some ⟨b, off, none⟩) 3 cap) [I, D, T] ∧ Box v G8 #[.int .i64 y, .int .i64 m, .int .i64 dd] 25) 10 (by kernel_rfl) 13 rfl ?_
      replace hrow : RecAt 1 txC W4.drew S (.slice (some ⟨b, off, none⟩) 3 cap) [I, D, T] := hrow
      replace hdt : Box W4.drew G8 _ _ := Box.drew hdt
      replace hz : Box W4.drew w.heap.size _ _ := Box.drew hz
      replace hM2 := hM2.drewN 1
      replace hB := Below.drew hB
      refine wpAnyT_takesA (md := .any) 12 (by kernel_rfl) (by intro d v c a w h; cases d <;> exact h) [9] _ _ _ (by decide) (by kernel_rfl) ⟨trivial, fun _ => ⟨hrow, hdt⟩⟩ ?_
      simp only [pick, List.filterMap_cons, List.filterMap_nil, List.getElem?_cons_zero, List.getElem?_cons_succ]
      refine wpIf_step (.string (bl r)) (by kernel_rfl) (fun w _ => by go_simp) ?_
      refine wpIf_nil (fun hSx => ?_)
      clear hSx
      refine wpAnyT_takesB (md := .any) 5 (by kernel_rfl) (by intro d v c a w h; cases d <;> exact h) [0, 1, 2, 3, 4, 5, 6] _ _ _ (by decide) (by kernel_rfl) (by kernel_rfl) (by kernel_rfl) ⟨trivial, fun _ => ⟨hrow, hdt⟩⟩ ?_
      simp only [pick, List.filterMap_cons, List.filterMap_nil, List.getElem?_cons_zero, List.getElem?_cons_succ]
      refine wpIf_step (.slice (some ⟨b, off, none⟩) 3 cap) (by kernel_rfl) (fun w _ => by go_simp) ?_
      refine wpIf_step (.pointer (some ⟨b, off, none⟩)) (by kernel_rfl) (fun w _ => by go_simp) ?_
      refine wpIf_step (.string I) (by kernel_rfl) (fun w hw => by obtain ⟨b', o', c', hv, _, hc⟩ := rowT_at hw.2.1 0 (by simp); cases hv; have hc2 : w.cell? ⟨b, off, none⟩ = some (.string I) := hc; go_simp) ?_
      refine wpIf_step (.slice (some ⟨b, off, none⟩) 3 cap) (by kernel_rfl) (fun w _ => by go_simp) ?_
      refine wpIf_step (.pointer (some ⟨b, off + 2, none⟩)) (by kernel_rfl) (fun w _ => by go_simp) ?_
      refine wpIf_step (.string T) (by kernel_rfl) (fun w hw => by obtain ⟨b', o', c', hv, _, hc⟩ := rowT_at hw.2.1 2 (by simp); cases hv; have hc2 : w.cell? ⟨b, off + 2, none⟩ = some (.string T) := hc; go_simp) ?_
      refine wpIf_step (.agg #[.int .i64 y, .int .i64 m, .int .i64 dd]) (by kernel_rfl) (fun w hw => by have j0 := hw.2.2.cell 0 _ rfl; have j1 := hw.2.2.cell 1 _ rfl; have j2 := hw.2.2.cell 2 _ rfl; go_simp) ?_
      refine wpIf_nil (fun hSx => ?_)
      clear hSx
      refine wpAnyT_one 7 4 (by kernel_rfl) rfl (by kernel_rfl) (fun K hK => ?_)
      go_simp
      refine (HD.out _ hM2).mono ?_
      rintro e w5 ⟨rfl, hb5⟩
      have hle5 : S ≤ W4.drew.heap.size := by rw [hS]; exact Nat.le_refl _
      replace hrow := hrow.below (hb5.mono hle5)
      replace hdt := hdt.keep hb5 hdt.lt
      replace hz := hz.keep hb5 hz.lt
      replace hB := Below.trans hB (hb5.mono hB.size)
      clear hb5 hM2 HD hle5
      refine hK _ _ ⟨trivial, fun _ => ⟨hrow, hdt⟩⟩ (fun hSx => ?_)
      clear hK K hSx
      refine wpAnyT_takesB (md := .any) 3 (by kernel_rfl) (by intro d v c a w h; cases d <;> exact h) [8] _ _ _ (by decide) (by kernel_rfl) (by kernel_rfl) (by kernel_rfl) ⟨trivial, fun _ => ⟨hrow, hdt⟩⟩ ?_
      simp only [pick, List.filterMap_cons, List.filterMap_nil, List.getElem?_cons_zero, List.getElem?_cons_succ]
      refine wpIf_step (.agg #[.string I, .string T, .int .i64 n]) (by kernel_rfl) (fun w _ => by go_simp) ?_
      refine wpIf_nil (fun hSx => ?_)
      clear hSx
      have z0 := hz.cell 0 _ rfl
      have z1 := hz.cell 1 _ rfl
      have z2 := hz.cell 2 _ rfl
      have f0 := hz.free 0
      have f1 := hz.free 1
      have f2 := hz.free 2
      refine wpAnyT_one 10 2 (by kernel_rfl) rfl (by kernel_rfl) (fun K hK => ?_)
      go_simp
      refine hK _ _ ⟨trivial, fun h => by cases h⟩ (fun hSx => ?_)
      clear hK K hSx
      refine wpAnyT_one 11 1 (by kernel_rfl) rfl (by kernel_rfl) (fun K hK => ?_)
      go_simp
      refine hK _ _ ⟨trivial, fun h => by cases h⟩ (fun hSx => ?_)
      clear hK K hSx
      refine wpAnyT_one 12 0 (by kernel_rfl) rfl (by kernel_rfl) (fun K hK => ?_)
      go_simp
      refine hK _ _ ⟨trivial, fun h => by cases h⟩ (fun hSx => ?_)
      clear hK K hSx
      refine wpAnyT_over (by kernel_rfl) ?_
      go_wp2
      refine bodyPost_ret (results_it3 rfl _ _ _ I T n _ _ rfl rfl rfl (put3it _ _ _ _ _ hz rfl)) rfl ?_
      exact ⟨hO, hB.trans (below3it _ w.heap.size _ (Nat.le_refl _) _ _ _)⟩
end Go.Proofs.YtgimjfffdnopiaaDoor

/- Parts of the proof. -/
import Derived.Test.YtffkakpbelknaaaGreatDoorO17
import Derived.Test.YtffkakpbelknaaaGreatDoorO19
import Derived.Test.YtffkakpbelknaaaGreatDoorO25
import Derived.Test.YtffkakpbelknaaaGreatDoorO29
import Derived.Test.YtffkakpbelknaaaGreatDoorO44
import Derived.Test.YtffkakpbelknaaaGreatDoorO46
import Derived.Test.YtffkakpbelknaaaGreatDoorO47
set_option maxHeartbeats 4000000
set_option maxRecDepth 100000
namespace Go.Proofs.YtffkakpbelknaaaGreatDoor
open Go.ChangeShapes Go.WideShapes Go.ChangeAt Go.RowKit Go.Shelf
set_option linter.unusedVariables false
set_option linter.unusedSimpArgs false
theorem cutp_any (R P : ByteArray) (w : World) : Calls Tryz.prog 82 #[.string R, .string P] w fun e w' => e = .returned (.tuple #[.string ⟨(Lib.trimPrefix R.data.toList P.data.toList).toArray⟩, .bool (Lib.hasPrefix R.data.toList P.data.toList)]) /\ w = w' :=
 (Tryz.strings_CutPrefix R P w).mono (fun e w' h => ⟨h.1, h.2.symm⟩)
theorem cutm_any (R M : ByteArray) (w : World) (hs : R.size <= 100000) (h : XTab w) : Calls Tryz.prog 55 #[.string R, .string M] w fun e w' => e = .returned (.tuple #[.string (bl (Lib.cut R.data.toList M.data.toList).1), .string (bl (Lib.cut R.data.toList M.data.toList).2.1), .bool (Lib.cut R.data.toList M.data.toList).2.2]) /\ Below w.heap.size w w' := by
 obtain ⟨m, hm⟩ := h
 refine (Tryz.strings_Cut R M m w (by omega) hm).mono ?_
 rintro e w' ⟨rfl, n, rfl⟩
 exact ⟨rfl, below_drewN (Below.refl _ _) n⟩
def FfOut (S : Nat) (o : Option (List (List UInt8) × List UInt8)) (e : Ending) (w' : World) : Prop := match o with
 | none => e = .returned (.tuple #[.slice none 0 0, .string ⟨#[]⟩, .bool false])
 | some (ps, r) => ∃ v, e = .returned (.tuple #[v, .string (bl r), .bool true]) /\ OwnR 9 1 txC w' S v (ps.map bl)
theorem flds_cons (M : List UInt8) (ms : List (List UInt8)) (R : List UInt8) : flds (M :: ms) R = (fld M R).bind fun q => (flds ms q.2).map fun z => (q.1 :: z.1, z.2) := rfl
theorem flds_step {ms : List (List UInt8)} {M R : List UInt8} {acc : List (List UInt8)} {o : Option (List (List UInt8) × List UInt8)} {p b : List UInt8} (hf : fld M R = some (p, b)) (ho : o = (flds (M :: ms) R).map fun z => (acc ++ z.1, z.2)) : o = (flds ms b).map fun z => ((acc ++ [p]) ++ z.1, z.2) := by
 rw [ho, flds_cons, hf]
 simp only [Option.bind_some, Option.map_map]
 cases flds ms b with
 | none => rfl
 | some z => simp
theorem flds_stop {ms : List (List UInt8)} {M R : List UInt8} {acc : List (List UInt8)} {o : Option (List (List UInt8) × List UInt8)} (hf : fld M R = none) (ho : o = (flds (M :: ms) R).map fun z => (acc ++ z.1, z.2)) : o = none := by
 rw [ho, flds_cons, hf]
 rfl
theorem flds_end {R : List UInt8} {acc : List (List UInt8)} {o : Option (List (List UInt8) × List UInt8)} (ho : o = (flds [] R).map fun z => (acc ++ z.1, z.2)) : o = some (acc, R) := by
 rw [ho]
 simp [flds]
theorem fieldsOf_any (s first : ByteArray) (vm : Value) (ms : List ByteArray) (w : World) (hs : s.size <= 4000) (hm : RecAt 1 txC w w.heap.size vm ms) (hl : ms.length <= 8) (hE : ETab w) (hX : XTab w) :
  Calls Tryz.prog 35 #[.string s, .string first, vm] w fun e w' => FfOut w.heap.size (fldF first.data.toList (ms.map fun m => m.data.toList) s.data.toList) e w' /\ Below w.heap.size w w' := by
 have HM := Lib.hid hm
 have HE := Lib.hid hE
 have HX := Lib.hid hX
 obtain ⟨ma, mc, rfl, hmc, hmx, _⟩ := hm
 unfold maxLen at hmx
 obtain ⟨o, ho⟩ : ∃ o, o = fldF first.data.toList (ms.map fun m => m.data.toList) s.data.toList := ⟨_, rfl⟩
 rw [<- ho]
 have HC := Lib.hid (fun w => cutp_any s first w)
 have HA : Hid (Lib.hasPrefix s.data.toList first.data.toList = false -> o = none) := Lib.hid (fun h => by rw [ho]; unfold fldF; rw [h]; rfl)
 have HY : Hid (Lib.hasPrefix s.data.toList first.data.toList = true -> ∃ R : ByteArray, bl (Lib.trimPrefix s.data.toList first.data.toList) = R /\ R.size <= 4000 /\ o = (flds (ms.map fun m => m.data.toList) R.data.toList).map fun z => ([] ++ z.1, z.2)) := Lib.hid (fun h => by
  refine ⟨bl (s.data.toList.drop first.data.toList.length), by rw [trim_hit h], ?_, ?_⟩
  ·rw [bl_size, List.length_drop]
   have h2 : s.data.toList.length = s.size := by simp
   omega
  ·rw [ho, bl_list]
   unfold fldF
   rw [if_pos h]
   simp)
 clear ho hE hX hs
 generalize Lib.hasPrefix s.data.toList first.data.toList = hp at HC HA HY
 generalize Lib.trimPrefix s.data.toList first.data.toList = tp at HC HY
 go_enter Tryz.func35, Tryz.ntmps35
 go_wp2
 refine wp_scope_jumps 0 (fun a' w' => (o = none /\ Below w.heap.size w w') /\ ∃ u0 u1 u2 u3 u4 u5 u6 u7 u8 u9 u10 u11 u12 u13 u14 u15 u16 u17 u18 u19 u20 u21 u22 u23 u24 u25 u26 u27 u28 u29 u30 u31 u32 u33 u34 u35 u36 u37 u38 u39 u40 u41 u42 u43 u44 u45 u46 u47 u48 u49 u50 u51 u52 u53 u54 u55 u56 u57 u58 u59 u60 u61 : Value, a' = { tmps := #[u0, u1, u2, u3, u4, u5, u6, u7, u8, u9, u10, u11, u12, u13, u14, u15, u16, u17, u18, u19, u20, u21, u22, u23, u24, u25, u26, u27, u28, u29, u30, u31, u32, u33, u34, u35, u36, u37, u38, u39, u40, u41, u42, u43, u44, u45, u46, u47, u48, u49, u50, u51, u52, u53, u54, u55, u56, u57, u58, u59, u60, u61], defers := [] }) (fun _ _ => 0) rfl ?first ?pass
 case pass =>
  rintro a' w' ⟨⟨ho, hb⟩, u0, u1, u2, u3, u4, u5, u6, u7, u8, u9, u10, u11, u12, u13, u14, u15, u16, u17, u18, u19, u20, u21, u22, u23, u24, u25, u26, u27, u28, u29, u30, u31, u32, u33, u34, u35, u36, u37, u38, u39, u40, u41, u42, u43, u44, u45, u46, u47, u48, u49, u50, u51, u52, u53, u54, u55, u56, u57, u58, u59, u60, u61, rfl⟩
  go_wp2
  simp only [Exit.jump]
  go_ret3
  exact ⟨by rw [ho]; rfl, hb⟩
 go_wp2_with (at_make; refine wpList_makeT rfl _ _ rfl w.heap.size .i64 .i64 (ms.length : Int) rfl rfl (by omega) (by omega) (Nat.le_refl _) ?_; intro v0 w0 hown0 hb0)
 refine (HC.out _).mono ?_
 rintro e w1 ⟨rfl, rfl⟩
 cases hp with
 | false =>
  have ho := HA.out (by first | rfl | trivial)
  go_wp2
  go_step3
  exact ⟨rfl, ⟨ho, hb0⟩, _, _, _, _, _, _, _, _, _, _, _, _, _, _, _, _, _, _, _, _, _, _, _, _, _, _, _, _, _, _, _, _, _, _, _, _, _, _, _, _, _, _, _, _, _, _, _, _, _, _, _, _, _, _, _, _, _, _, _, _, _, _, rfl⟩
 | true =>
  obtain ⟨R0, hR0, hRs, hRo⟩ := HY.out (by first | rfl | trivial)
  have HRo := Lib.hid hRo
  clear HA HY HC hRo
  have hR1 : (⟨tp.toArray⟩ : ByteArray) = R0 := hR0
  rw [hR1]
  clear hR0 hR1
  go_wp2
  go_loopw [9, 10, 32] (fun f r i wr => ∃ (k : Nat) (R : ByteArray) (acc : List (List UInt8)), k <= ms.length /\ i = .int .i64 (k : Int) /\ r = .string R /\ R.size <= 4000 /\ OwnR 9 1 txC wr w.heap.size f (acc.map bl) /\ Hid (o = (flds ((ms.map fun m => m.data.toList).drop k) R.data.toList).map fun z => (acc ++ z.1, z.2)) /\ Hid (acc.length <= k) /\ Below w.heap.size w wr) (fun _ _ i _ => ms.length - (intOf i).toNat)
  case atStart => exact ⟨0, R0, [], Nat.zero_le _, rfl, rfl, hRs, hown0, by rw [List.drop_zero]; exact HRo, Lib.hid (Nat.zero_le _), hb0⟩
  case round =>
   clear hown0 hb0 HRo hRs
   obtain ⟨k, R, acc, hk, rfl, rfl, hRs, hown, HR, HL, hB⟩ := hrel
   obtain ⟨oa, oc, rfl⟩ := hown.slice
   obtain ⟨LL, hLL⟩ : ∃ LL, LL = acc.map bl := ⟨_, rfl⟩
   rw [<- hLL] at hown ⊢
   have HLL := Lib.hid hLL
   have hll : LL.length <= 8 := by rw [hLL, List.length_map]; have := HL.out; omega
   clear hLL
   by_cases hlt : k < ms.length
   case neg =>
    have hke : k = ms.length := by omega
    have ho : o = some (acc, R.data.toList) := by
     refine flds_end ?_
     have := HR.out
     rwa [List.drop_of_length_le (by rw [List.length_map]; omega)] at this
    have hF : FfOut w.heap.size o (.returned (.tuple #[.slice oa LL.length oc, .string R, .bool true])) wr := by
     rw [ho]
     exact ⟨_, by rw [bl_back], by rw [<- HLL.out]; exact hown⟩
    clear ho hke
    go_wp2
    simp only [Exit.jump]
    go_ret3
    exact ⟨hF, hB⟩
   obtain ⟨b, off, cap2, hv, hb, hc0⟩ := rowT_at (HM.out.below hB) k hlt
   cases hv
   have HD : Hid ((ms.map fun m => m.data.toList).drop k = ms[k].data.toList :: (ms.map fun m => m.data.toList).drop (k + 1)) := Lib.hid (by
    rw [List.drop_eq_getElem_cons (by rw [List.length_map]; exact hlt), List.getElem_map])
   rw [HD.out] at HR
   generalize ms[k] = M at hc0 HR
   clear HD
   have HC := Lib.hid (fun w h => cutm_any R M w (by omega) h)
   have HF := Lib.hid (fld_A M.data.toList R.data.toList)
   have HZ : Hid ((Lib.cut R.data.toList M.data.toList).2.2 = true -> (Lib.cut R.data.toList M.data.toList).2.1.length <= 4000) := Lib.hid (fun h => by
    have h1 := congrArg List.length (cut_yes h)
    rw [List.length_append, List.length_append] at h1
    have h2 : R.data.toList.length = R.size := by simp
    omega)
   generalize Lib.cut R.data.toList M.data.toList = c at HC HF HZ
   obtain ⟨ca, cb, cc⟩ := c
   dsimp only at HC HF HZ
   have HP := Lib.hid (fun w h => implPlain_any (bl ca) w h)
   have hpv := plV_A (bl ca)
   rw [bl_list] at hpv
   rw [hpv] at HP
   clear hpv
   generalize plA ca = p at HP HF
   obtain ⟨pa, pb⟩ := p
   dsimp only at HP HF
   go_wp2_with fail
   refine (HC.out _ (HX.out.below hB (Nat.le_refl _))).mono ?_
   rintro e w2 ⟨rfl, hb2⟩
   replace hown := hown.keep hb2 (Nat.le_refl _)
   replace hB := hB.trans (hb2.mono hB.size)
   clear hb2
   go_wp2_with fail
   refine (HP.out _ (HE.out.below hB (Nat.le_refl _))).mono ?_
   rintro e w3 ⟨rfl, hb3⟩
   replace hown := hown.keep hb3 (Nat.le_refl _)
   replace hB := hB.trans (hb3.mono hB.size)
   clear hb3 HC HP hc0
   cases cc with
   | false =>
    have ho : o = none := flds_stop HF.out HR.out
    go_wp2
    go_step3
    exact ⟨rfl, ⟨ho, hB⟩, _, _, _, _, _, _, _, _, _, _, _, _, _, _, _, _, _, _, _, _, _, _, _, _, _, _, _, _, _, _, _, _, _, _, _, _, _, _, _, _, _, _, _, _, _, _, _, _, _, _, _, _, _, _, _, _, _, _, _, _, _, _, rfl⟩
   | true =>
    cases pb with
    | false =>
     have ho : o = none := flds_stop HF.out HR.out
     go_wp2
     go_step3
     exact ⟨rfl, ⟨ho, hB⟩, _, _, _, _, _, _, _, _, _, _, _, _, _, _, _, _, _, _, _, _, _, _, _, _, _, _, _, _, _, _, _, _, _, _, _, _, _, _, _, _, _, _, _, _, _, _, _, _, _, _, _, _, _, _, _, _, _, _, _, _, _, _, rfl⟩
    | true =>
     have HN := Lib.hid (flds_step HF.out HR.out)
     have hcb := HZ.out (by first | rfl | trivial)
     clear HF HR HZ
     have HA2 : Hid (LL ++ [bl pa] = (acc ++ [pa]).map bl) := Lib.hid (by rw [HLL.out, List.map_append]; rfl)
     have HL2 : Hid ((acc ++ [pa]).length <= k + 1) := Lib.hid (by have := HL.out; rw [List.length_append, List.length_singleton]; omega)
     clear HL HLL
     have HO2 := Lib.hid (hown.alloc (.cells #[.string (bl pa)] 9))
     have HOn := Lib.hid (one_recT txC_len w3 9 (bl pa) #[.string (bl pa)] rfl)
     have HB2 := Lib.hid (hB.alloc hB.size (.cells #[.string (bl pa)] 9))
     have HOw := Lib.hid hown
     have hws := hB.size
     clear hown hB
     generalize bl pa = P at HA2 HO2 HOn HB2 ⊢
     generalize acc ++ [pa] = acc2 at HN HA2 HL2
     go_wp2_with (at_builtin; refine wpList_appR txC_len (by decide) Tryz.underlying57 Tryz.infoTx rfl (by decide) rfl (.tmp 54) (.tmp 56) rfl w.heap.size (w3.heap.size + 1) _ _ _ [P] rfl rfl HO2.out HOn.out (fun y _ => txC_one y) (by simp; omega) (by simp; omega) ?_; intro v1 w4 hown1 hg1)
     have hown2 : OwnR 9 1 txC w4 w.heap.size v1 (acc2.map bl) := by rw [<- HA2.out]; exact hown1
     have hB3 := HB2.out.trans (gb_BelowT hg1 (by simp; omega) (ownBlock_base HOw.out))
     clear hown1 hg1
     go_wp2
     go_roundw
     case rel => exact ⟨k + 1, bl cb, acc2, by omega, by go_num, rfl, hcb, hown2, HN, HL2, hB3⟩
     case measure => simp [intOf]; omega
end Go.Proofs.YtffkakpbelknaaaGreatDoor
namespace Go.Proofs.YtffkakpbelknaaaGreatDoor
open Go.ChangeShapes Go.WideShapes Go.ChangeAt Go.RowKit Go.Shelf
set_option linter.unusedVariables false
set_option linter.unusedSimpArgs false
theorem put3it (w : World) (g : Nat) (a b c : Value) {cs : Array Value} {t : TypeId} (h : Box w g cs t) (hz : cs.size = 3) : Box (((w.setCell ⟨g, 0, none⟩ a).setCell ⟨g, 1, none⟩ b).setCell ⟨g, 2, none⟩ c) g #[a, b, c] t := by
 obtain ⟨xs, rfl, hl⟩ := arrS hz
 exact Box.fillAll (us := [a, b, c]) h hl.symm
theorem below3it (w : World) (B g : Nat) (hB : B <= g) (a b c : Value) : Below B w (((w.setCell ⟨g, 0, none⟩ a).setCell ⟨g, 1, none⟩ b).setCell ⟨g, 2, none⟩ c) := below_putRow g B hB [a, b, c] 0 w
theorem Tryz.infItQ : (Tryz.prog.info? 55).map (·.size) = some 3 := by kernel_rfl
theorem results_cell3 {fn : Func} {p u v : Tmp} {ty : TypeId} (h : fn.results = #[.cell p ty, .tmp u, .tmp v]) (tmps : Array Value) (P : Program) (w : World) :
  (results fn tmps).run P w =
   ((asAddr (tmps.getD p undef)).run P w).andThen fun a w₁ => ((loadVar ty a).run P w₁).andThen fun x w₂ => .ok (.tuple #[x, tmps.getD u undef, tmps.getD v undef]) w₂ := by
 simp only [results, h]
 simp [Sem.run_bind, Result.andThen]
theorem results_it3 {fn : Func} {p u v : Tmp} (h : fn.results = #[.cell p 55, .tmp u, .tmp v]) (tmps : Array Value) (w : World) (g : Nat) (s t : ByteArray) (d : Int) (a b : Value)
  (hp : tmps.getD p undef = .pointer (some ⟨g, 0, none⟩)) (hu : tmps.getD u undef = a) (hv : tmps.getD v undef = b) (hA : Box w g #[.string s, .string t, .int .i64 d] 55) : (results fn tmps).run Tryz.prog w = .ok (.tuple #[itV s t d, a, b]) w := by
 have e := run_loadVar_row (P := Tryz.prog) w g _ 55 _ _ _ hA Tryz.underlying55 rfl Tryz.infItQ
 rw [results_cell3 h, hp, hu, hv]
 simp [asAddr, e, Result.andThen]
def RiOut (o : Option (It × List UInt8)) (e : Ending) : Prop := match o with
 | none => e = .returned (.tuple #[itV ⟨#[]⟩ ⟨#[]⟩ 0, .string ⟨#[]⟩, .bool false])
 | some (x, r) => e = .returned (.tuple #[itV x.id x.ti x.da, .string (bl r), .bool true])
theorem fld3_cases (f a b c l : List UInt8) : fldF f [a, b, c] l = none \/ ∃ i d t r, fldF f [a, b, c] l = some ([i, d, t], r) := by
 unfold fldF
 split
 ·rw [flds3]
  cases fld a (l.drop f.length) with
  | none => exact .inl rfl
  | some q1 =>
   rw [Option.bind_some]
   cases fld b q1.2 with
   | none => exact .inl rfl
   | some q2 =>
    rw [Option.bind_some]
    cases fld c q2.2 with
    | none => exact .inl rfl
    | some q3 => exact .inr ⟨_, _, _, _, rfl⟩
 ·exact .inl rfl
theorem fld2_cases (f a b l : List UInt8) : fldF f [a, b] l = none \/ ∃ u t r, fldF f [a, b] l = some ([u, t], r) := by
 unfold fldF
 split
 ·rw [flds2]
  cases fld a (l.drop f.length) with
  | none => exact .inl rfl
  | some q1 =>
   rw [Option.bind_some]
   cases fld b q1.2 with
   | none => exact .inl rfl
   | some q2 => exact .inr ⟨_, _, _, rfl⟩
 ·exact .inl rfl
theorem readItem_any (s : ByteArray) (w : World) (hs : s.size <= 4000) (hE : ETab w) (hX : XTab w) (hM : MTab w) :
  Calls Tryz.prog 36 #[.string s] w fun e w' => RiOut (pItem s.data.toList) e /\ Below w.heap.size w w' := by
 obtain ⟨o, ho⟩ : ∃ o, o = pItem s.data.toList := ⟨_, rfl⟩
 rw [<- ho]
 have hz := Box.new w #[.string ⟨#[]⟩, .string ⟨#[]⟩, .int .i64 0] 55
 have hb0 : Below w.heap.size w (w.alloc (.cells #[.string ⟨#[]⟩, .string ⟨#[]⟩, .int .i64 0] 55)) := (Below.refl _ _).alloc (Nat.le_refl _) _
 have hE1 := hE.below hb0 (Nat.le_refl _)
 have hX1 := hX.below hb0 (Nat.le_refl _)
 have hM1 := hM.below hb0 (Nat.le_refl _)
 clear hE hX hM
 generalize hW0 : w.alloc (.cells #[.string ⟨#[]⟩, .string ⟨#[]⟩, .int .i64 0] 55) = W0 at hz hb0 hE1 hX1 hM1
 have hrow := rowT_new W0 9 [iS2, iS3, iS4] (by decide) #[.string iS2, .string iS3, .string iS4] rfl
 have hb1 : Below W0.heap.size W0 (W0.alloc (.cells #[.string iS2, .string iS3, .string iS4] 9)) := (Below.refl _ _).alloc (Nat.le_refl _) _
 replace hz := hz.alloc (.cells #[.string iS2, .string iS3, .string iS4] 9)
 replace hE1 := hE1.below hb1 (Nat.le_refl _)
 replace hX1 := hX1.below hb1 (Nat.le_refl _)
 replace hM1 := hM1.below hb1 (Nat.le_refl _)
 replace hb0 := hb0.alloc hb0.size (.cells #[.string iS2, .string iS3, .string iS4] 9)
 clear hb1
 rw [<- World.size_alloc W0 (.cells #[.string iS2, .string iS3, .string iS4] 9)] at hrow
 have HF := Lib.hid (fieldsOf_any s iS1 (.slice (some ⟨W0.heap.size, 0, none⟩) 3 3) [iS2, iS3, iS4] _ hs hrow (by decide) hE1 hX1)
 have HO : Hid (o = match fldF iL1 [iL2, iL3, iL4] s.data.toList with
  | some ([i, d, t], r) => if rdOk (bl d) = true then some (⟨bl i, bl t, dN (rY (bl d)) (rM (bl d)) (rD (bl d))⟩, r) else none
  | _ => none) := Lib.hid ho
 clear ho hrow hs
 go_enter Tryz.func36, Tryz.ntmps36
 go_wp2_with fail
 clear hW0
 generalize hW1 : W0.alloc (.cells #[.string iS2, .string iS3, .string iS4] 9) = W1 at HF hz hM1 hb0
 generalize W0.heap.size = G0 at HF ⊢
 have hW1' : W0.alloc (.cells #[.string ⟨#[34, 32, 100, 97, 116, 101, 61, 34]⟩, .string ⟨#[34, 62]⟩, .string ⟨#[60, 47, 105, 116, 101, 109, 62]⟩] 9) = W1 := hW1
 rw [hW1']
 clear hW1 hW1'
 refine HF.out.mono ?_
 rintro e w2 ⟨hff, hb2⟩
 replace hz := hz.keep hb2 hz.lt
 have hM2 := hM1.below hb2 (Nat.le_refl _)
 have hB := hb0.trans (hb2.mono hb0.size)
 clear hb2 hM1 hb0 HF
 have hff2 : FfOut W1.heap.size (fldF iL1 [iL2, iL3, iL4] s.data.toList) e w2 := hff
 clear hff
 rcases fld3_cases iL1 iL2 iL3 iL4 s.data.toList with hn | ⟨i, d, t, r, hsome⟩
 ·rw [hn] at hff2 HO
  obtain rfl : e = .returned (.tuple #[.slice none 0 0, .string ⟨#[]⟩, .bool false]) := hff2
  have hO : RiOut o (.returned (.tuple #[itV ⟨#[]⟩ ⟨#[]⟩ 0, .string ⟨#[]⟩, .bool false])) := by rw [HO.out]; rfl
  clear hn HO
  have z0 := hz.cell 0 _ rfl
  have z1 := hz.cell 1 _ rfl
  have z2 := hz.cell 2 _ rfl
  have f0 := hz.free 0
  have f1 := hz.free 1
  have f2 := hz.free 2
  go_wp2
  refine bodyPost_ret (results_it3 rfl _ _ _ ⟨#[]⟩ ⟨#[]⟩ 0 _ _ rfl rfl rfl (put3it _ _ _ _ _ hz rfl)) rfl ?_
  exact ⟨hO, hB.trans (below3it _ w.heap.size _ (Nat.le_refl _) _ _ _)⟩
 ·rw [hsome] at hff2 HO
  obtain ⟨v, rfl, hown⟩ := hff2
  have hrow : RecAt 1 txC w2 w2.heap.size v [bl i, bl d, bl t] := hown.at txC_len
  clear hsome hown
  obtain ⟨b, off, cap, hv, hbs, hc1⟩ := rowT_at hrow 1 (by simp)
  cases hv
  have hc1' : w2.cell? ⟨b, off + 1, none⟩ = some (.string (bl d)) := hc1
  have HR := Lib.hid (fun w h => implReadDate_any (bl d) w h)
  have HA : Hid (rdOk (bl d) = false -> RiOut o (.returned (.tuple #[itV ⟨#[]⟩ ⟨#[]⟩ 0, .string ⟨#[]⟩, .bool false]))) := Lib.hid (fun h => by rw [HO.out]; simp only [h]; rfl)
  have HY : Hid (rdOk (bl d) = true -> RiOut o (.returned (.tuple #[itV (bl i) (bl t) (dayR (rY (bl d)) (rM (bl d)) (rD (bl d))), .string (bl r), .bool true]))) := Lib.hid (fun h => by
   have e : dayR (rY (bl d)) (rM (bl d)) (rD (bl d)) = dN (rY (bl d)) (rM (bl d)) (rD (bl d)) := by unfold dayR; rw [if_pos ((rdOk_iff _).1 h).2.2.2]
   rw [HO.out, e]; simp only [h]; rfl)
  have HV1 : Hid (rdOk (bl d) = true -> rdV (bl d) = .tuple #[dV (rY (bl d)) (rM (bl d)) (rD (bl d)), .bool true]) := Lib.hid (fun h => rdV_yes ((rdOk_iff _).1 h))
  have HV0 : Hid (rdOk (bl d) = false -> rdV (bl d) = .tuple #[dV 0 0 0, .bool false]) := Lib.hid (fun h => rdV_not (fun hx => by rw [(rdOk_iff _).2 hx] at h; cases h))
  have HD := Lib.hid (fun w h => implDayOf_any (rY (bl d)) (rM (bl d)) (rD (bl d)) w h)
  clear HO hc1
  generalize dayR (rY (bl d)) (rM (bl d)) (rD (bl d)) = n at HY HD
  generalize rY (bl d) = y at HV1 HD
  generalize rM (bl d) = m at HV1 HD
  generalize rD (bl d) = dd at HV1 HD
  generalize rdV (bl d) = V at HR HV1 HV0
  generalize rdOk (bl d) = F at HA HY HV1 HV0
  generalize bl d = D at hrow hc1' HR
  generalize bl i = I at hrow HY
  generalize bl t = T at hrow HY
  go_wp2_with fail
  refine (HR.out _ hM2).mono ?_
  rintro e w3 ⟨rfl, hb3⟩
  replace hz := hz.keep hb3 hz.lt
  replace hM2 := hM2.below hb3 (Nat.le_refl _)
  replace hB := hB.trans (hb3.mono hB.size)
  replace hrow := (hrow.below hb3).mono hb3.size
  clear hb3 hc1' HR
  cases F with
  | false =>
   obtain rfl := HV0.out (by first | rfl | trivial)
   have hO := HA.out (by first | rfl | trivial)
   clear HA HY HV0 HV1 HD hrow
   replace hz := hz.alloc (.cells #[.int .i64 0, .int .i64 0, .int .i64 0] 74)
   replace hB := hB.alloc hB.size (.cells #[.int .i64 0, .int .i64 0, .int .i64 0] 74)
   have z0 := hz.cell 0 _ rfl
   have z1 := hz.cell 1 _ rfl
   have z2 := hz.cell 2 _ rfl
   have f0 := hz.free 0
   have f1 := hz.free 1
   have f2 := hz.free 2
   go_wp2
   refine bodyPost_ret (results_it3 rfl _ _ _ ⟨#[]⟩ ⟨#[]⟩ 0 _ _ rfl rfl rfl (put3it _ _ _ _ _ hz rfl)) rfl ?_
   exact ⟨hO, hB.trans (below3it _ w.heap.size _ (Nat.le_refl _) _ _ _)⟩
  | true =>
   obtain rfl := HV1.out (by first | rfl | trivial)
   have hO := HY.out (by first | rfl | trivial)
   have hdt := Box.new w3 #[.int .i64 y, .int .i64 m, .int .i64 dd] 74
   have hb1 : Below w3.heap.size w3 (w3.alloc (.cells #[.int .i64 y, .int .i64 m, .int .i64 dd] 74)) := (Below.refl _ _).alloc (Nat.le_refl _) _
   have hlt3 : w.heap.size < w3.heap.size := hz.lt
   replace hrow := (hrow.below hb1).mono hb1.size
   replace hM2 := hM2.below hb1 (Nat.le_refl _)
   replace hz := hz.keep hb1 hz.lt
   replace hB := hB.trans (hb1.mono hB.size)
   clear HA HY HV0 HV1 hb1 hbs
   go_wp2
   generalize w3.alloc (.cells #[.int .i64 y, .int .i64 m, .int .i64 dd] 74) = W4 at hdt hrow hM2 hz hB ⊢
   generalize w3.heap.size = G8 at hdt hlt3 ⊢
   have hS4 : ∃ S, S = W4.heap.size := ⟨_, rfl⟩
   obtain ⟨S, hS⟩ := hS4
   rw [<- hS] at hrow
   refine wp_region_T (fun _ => True) (fun v => RecAt 1 txC v S (.slice (some ⟨b, off, none⟩) 3 cap) [I, D, T] /\ Box v G8 #[.int .i64 y, .int .i64 m, .int .i64 dd] 74) 10 (by kernel_rfl) 13 rfl ?_
   replace hrow : RecAt 1 txC W4.drew S (.slice (some ⟨b, off, none⟩) 3 cap) [I, D, T] := hrow
   replace hdt : Box W4.drew G8 _ _ := Box.drew hdt
   replace hz : Box W4.drew w.heap.size _ _ := Box.drew hz
   replace hM2 := hM2.drewN 1
   replace hB := Below.drew hB
   refine wA 12 [9] ⟨trivial, fun _ => ⟨hrow, hdt⟩⟩ ?_
   simp only [pick, List.filterMap_cons, List.filterMap_nil, List.getElem?_cons_zero, List.getElem?_cons_succ]
   refine wpIf_step (.string (bl r)) (by kernel_rfl) (fun w _ => by go_simp) ?_
   refine wpIf_nil (fun hSx => ?_)
   clear hSx
   refine wpAnyT_takesB (md := .any) 5 (by kernel_rfl) (by intro d v c a w h; cases d <;> exact h) [0, 1, 2, 3, 4, 5, 6] _ _ _ (by decide) (by kernel_rfl) (by kernel_rfl) (by kernel_rfl) ⟨trivial, fun _ => ⟨hrow, hdt⟩⟩ ?_
   simp only [pick, List.filterMap_cons, List.filterMap_nil, List.getElem?_cons_zero, List.getElem?_cons_succ]
   refine wpIf_step (.slice (some ⟨b, off, none⟩) 3 cap) (by kernel_rfl) (fun w _ => by go_simp) ?_
   refine wpIf_step (.pointer (some ⟨b, off, none⟩)) (by kernel_rfl) (fun w _ => by go_simp) ?_
   refine wS (.string I) (fun w hw => by obtain ⟨b', o', c', hv, _, hc⟩ := rowT_at hw.2.1 0 (by simp); cases hv; have hc2 : w.cell? ⟨b, off, none⟩ = some (.string I) := hc; go_simp) ?_
   refine wpIf_step (.slice (some ⟨b, off, none⟩) 3 cap) (by kernel_rfl) (fun w _ => by go_simp) ?_
   refine wpIf_step (.pointer (some ⟨b, off + 2, none⟩)) (by kernel_rfl) (fun w _ => by go_simp) ?_
   refine wS (.string T) (fun w hw => by obtain ⟨b', o', c', hv, _, hc⟩ := rowT_at hw.2.1 2 (by simp); cases hv; have hc2 : w.cell? ⟨b, off + 2, none⟩ = some (.string T) := hc; go_simp) ?_
   refine wS (.agg #[.int .i64 y, .int .i64 m, .int .i64 dd]) (fun w hw => by have j0 := hw.2.2.cell 0 _ rfl; have j1 := hw.2.2.cell 1 _ rfl; have j2 := hw.2.2.cell 2 _ rfl; go_simp) ?_
   refine wpIf_nil (fun hSx => ?_)
   clear hSx
   refine wO 7 4 (fun K hK => ?_)
   go_simp
   refine (HD.out _ hM2).mono ?_
   rintro e w5 ⟨rfl, hb5⟩
   have hle5 : S <= W4.drew.heap.size := by rw [hS]; exact Nat.le_refl _
   replace hrow := hrow.below (hb5.mono hle5)
   replace hdt := hdt.keep hb5 hdt.lt
   replace hz := hz.keep hb5 hz.lt
   replace hB := Below.trans hB (hb5.mono hB.size)
   clear hb5 hM2 HD hle5
   refine hK _ _ ⟨trivial, fun _ => ⟨hrow, hdt⟩⟩ (fun hSx => ?_)
   clear hK K hSx
   refine wpAnyT_takesB (md := .any) 3 (by kernel_rfl) (by intro d v c a w h; cases d <;> exact h) [8] _ _ _ (by decide) (by kernel_rfl) (by kernel_rfl) (by kernel_rfl) ⟨trivial, fun _ => ⟨hrow, hdt⟩⟩ ?_
   simp only [pick, List.filterMap_cons, List.filterMap_nil, List.getElem?_cons_zero, List.getElem?_cons_succ]
   refine wpIf_step (.agg #[.string I, .string T, .int .i64 n]) (by kernel_rfl) (fun w _ => by go_simp) ?_
   refine wpIf_nil (fun hSx => ?_)
   clear hSx
   have z0 := hz.cell 0 _ rfl
   have z1 := hz.cell 1 _ rfl
   have z2 := hz.cell 2 _ rfl
   have f0 := hz.free 0
   have f1 := hz.free 1
   have f2 := hz.free 2
   refine wO 10 2 (fun K hK => ?_)
   go_simp
   refine hK _ _ ⟨trivial, fun h => by cases h⟩ (fun hSx => ?_)
   clear hK K hSx
   refine wO 11 1 (fun K hK => ?_)
   go_simp
   refine hK _ _ ⟨trivial, fun h => by cases h⟩ (fun hSx => ?_)
   clear hK K hSx
   refine wO 12 0 (fun K hK => ?_)
   go_simp
   refine hK _ _ ⟨trivial, fun h => by cases h⟩ (fun hSx => ?_)
   clear hK K hSx
   refine wpAnyT_over (by kernel_rfl) ?_
   go_wp2
   refine bodyPost_ret (results_it3 rfl _ _ _ I T n _ _ rfl rfl rfl (put3it _ _ _ _ _ hz rfl)) rfl ?_
   exact ⟨hO, hB.trans (below3it _ w.heap.size _ (Nat.le_refl _) _ _ _)⟩
end Go.Proofs.YtffkakpbelknaaaGreatDoor
namespace Go.Proofs.YtffkakpbelknaaaGreatDoor
open Go.ChangeShapes Go.WideShapes Go.ChangeAt Go.RowKit Go.Shelf
set_option linter.unusedVariables false
set_option linter.unusedSimpArgs false
theorem Tryz.infFdR : (Tryz.prog.info? 26).map (·.size) = some 3 := by kernel_rfl
theorem Tryz.infoItR : (Tryz.prog.info? 55).map (fun i => (i.zero, i.size, i.bytes)) = some (some (.agg #[.string ByteArray.empty, .string ByteArray.empty, .int .i64 0]), 3, 40) := by kernel_rfl
theorem itC_one (x : It) : ∀ u ∈ itC x, u.oneCell' = true := by
 intro u hu
 simp only [itC, List.mem_cons, List.not_mem_nil, or_false] at hu
 rcases hu with rfl | rfl | rfl <;> rfl
theorem results_fd2 {fn : Func} {p u : Tmp} (h : fn.results = #[.cell p 26, .tmp u]) (tmps : Array Value) (w : World) (g : Nat) (s t : ByteArray) (v b : Value)
  (hp : tmps.getD p undef = .pointer (some ⟨g, 0, none⟩)) (hu : tmps.getD u undef = b) (hA : Box w g #[.string s, .string t, v] 26) : (results fn tmps).run Tryz.prog w = .ok (.tuple #[fV s t v, b]) w := by
 have e := run_loadVar_row (P := Tryz.prog) w g _ 26 _ _ _ hA Tryz.underlying26 rfl Tryz.infFdR
 rw [results_cell_tmp h, hp, hu]
 simp [asAddr, e, Result.andThen]
def RfOut (S : Nat) (o : Option FdD) (e : Ending) (w' : World) : Prop := match o with
 | none => e = .returned (.tuple #[fV ⟨#[]⟩ ⟨#[]⟩ (.slice none 0 0), .bool false])
 | some f => ∃ v, e = .returned (.tuple #[fV f.u f.t v, .bool true]) /\ OwnR 55 3 itC w' S v f.its
theorem pItem_sz {l : List UInt8} {x : It} {r : List UInt8} (h : pItem l = some (x, r)) (hl : l.length <= 4000) : (x.id.size <= maxLen /\ x.ti.size <= maxLen) /\ r.length + 1 <= l.length := by
 have h0 := pItem_less h
 have e := (pItem_some h).1
 have e2 := congrArg List.length e
 unfold itTL at e2
 simp only [List.length_append] at e2
 have h1 := plain_len x.id.data.toList
 have h2 := plain_len x.ti.data.toList
 have k1 : x.id.data.toList.length = x.id.size := by simp
 have k2 : x.ti.data.toList.length = x.ti.size := by simp
 unfold maxLen
 exact ⟨⟨by omega, by omega⟩, by omega⟩
theorem ret_pair {o : Option FdD} {S : Nat} {w' : World} {f : FdD} {v : Value} (ho : o = some f) (h : OwnR 55 3 itC w' S v f.its) : RfOut S o (.returned (.tuple #[fV f.u f.t v, .bool true])) w' := by
 rw [ho]; exact ⟨v, rfl, h⟩
theorem ret_zero {o : Option FdD} {S : Nat} {w' : World} (ho : o = none) : RfOut S o (.returned (.tuple #[fV ⟨#[]⟩ ⟨#[]⟩ (.slice none 0 0), .bool false])) w' := by
 rw [ho]; rfl
theorem OwnR.offF {α : Type} {k : Nat} {C : α -> List Value} {e : TypeId} {w : World} {base : Nat} {v : Value} {l : List α} (h : OwnR e k C w base v l) (p : Addr) (x : Value) (hp : v.ownBlock ≠ some p.block) : OwnR e k C (w.setCell p x) base v l := by
 refine ⟨h.1, ?_⟩
 rcases h.2 with hn | ⟨g, cap, cur, rfl, hb', hg, rest⟩
 ·exact .inl hn
 ·refine .inr ⟨g, cap, cur, rfl, hb', ?_, rest⟩
  rw [Below.heap_setCell _ _ _ _ (fun h2 => hp (by rw [<- h2]; rfl))]
  exact hg
theorem str_neF {a b : ByteArray} (h : a.data.toList ≠ b.data.toList) : (a.toList == b.toList) = false := by
 rw [ByteArray.toList_eq, ByteArray.toList_eq]
 simpa using h
theorem implReadFeed_any (s : ByteArray) (w : World) (hE : ETab w) (hX : XTab w) (hM : MTab w) :
  Calls Tryz.prog 9 #[.string s] w fun e w' => RfOut w.heap.size (rdF s) e w' /\ Below w.heap.size w w' := by
 obtain ⟨o, ho⟩ : ∃ o, o = rdF s := ⟨_, rfl⟩
 rw [<- ho]
 have hz := Box.new w #[.string ⟨#[]⟩, .string ⟨#[]⟩, .slice none 0 0] 26
 have hB : Below w.heap.size w (w.alloc (.cells #[.string ⟨#[]⟩, .string ⟨#[]⟩, .slice none 0 0] 26)) := (Below.refl _ _).alloc (Nat.le_refl _) _
 have HE := Lib.hid hE
 have HX := Lib.hid hX
 have HM := Lib.hid hM
 clear hE hX hM
 by_cases hs : s.size <= 4000
 case neg =>
  have hO : o = none := by rw [ho]; exact rdF_long hs
  have hsI : (4000 : Int) < (s.size : Int) := by omega
  clear hs
  go_enter Tryz.func9, Tryz.ntmps9
  have z0 := hz.cell 0 _ rfl
  have z1 := hz.cell 1 _ rfl
  have z2 := hz.cell 2 _ rfl
  have f0 := hz.free 0
  have f1 := hz.free 1
  have f2 := hz.free 2
  go_wp2
  refine bodyPost_ret (results_fd2 rfl _ _ _ ⟨#[]⟩ ⟨#[]⟩ (.slice none 0 0) _ rfl rfl hz) rfl ?_
  exact ⟨ret_zero hO, hB⟩
 have hsI : ¬ (4000 : Int) < (s.size : Int) := by omega
 generalize hW0 : w.alloc (.cells #[.string ⟨#[]⟩, .string ⟨#[]⟩, .slice none 0 0] 26) = W0 at hz hB
 have hrow := rowT_new W0 9 [(⟨#[34, 62, 60, 116, 105, 116, 108, 101, 62]⟩ : ByteArray), ⟨#[60, 47, 116, 105, 116, 108, 101, 62]⟩] (by decide) #[.string ⟨#[34, 62, 60, 116, 105, 116, 108, 101, 62]⟩, .string ⟨#[60, 47, 116, 105, 116, 108, 101, 62]⟩] rfl
 have hb1 : Below W0.heap.size W0 (W0.alloc (.cells #[.string ⟨#[34, 62, 60, 116, 105, 116, 108, 101, 62]⟩, .string ⟨#[60, 47, 116, 105, 116, 108, 101, 62]⟩] 9)) := (Below.refl _ _).alloc (Nat.le_refl _) _
 replace hz := hz.alloc (.cells #[.string ⟨#[34, 62, 60, 116, 105, 116, 108, 101, 62]⟩, .string ⟨#[60, 47, 116, 105, 116, 108, 101, 62]⟩] 9)
 replace hB := hB.alloc hB.size (.cells #[.string ⟨#[34, 62, 60, 116, 105, 116, 108, 101, 62]⟩, .string ⟨#[60, 47, 116, 105, 116, 108, 101, 62]⟩] 9)
 clear hb1
 rw [<- World.size_alloc W0 (.cells #[.string ⟨#[34, 62, 60, 116, 105, 116, 108, 101, 62]⟩, .string ⟨#[60, 47, 116, 105, 116, 108, 101, 62]⟩] 9)] at hrow
 have HF := Lib.hid (fieldsOf_any s ⟨#[60, 102, 101, 101, 100, 32, 117, 114, 108, 61, 34]⟩ (.slice (some ⟨W0.heap.size, 0, none⟩) 2 2) [(⟨#[34, 62, 60, 116, 105, 116, 108, 101, 62]⟩ : ByteArray), ⟨#[60, 47, 116, 105, 116, 108, 101, 62]⟩] _ hs hrow (by decide) (HE.out.below hB (Nat.le_refl _)) (HX.out.below hB (Nat.le_refl _)))
 have HN : Hid (fldF fS0 [fS1, fS2] s.data.toList = none -> o = none) := Lib.hid (fun h => by rw [ho]; refine rdF_head ?_; unfold pHead; rw [h])
 have HS : Hid (∀ u t r, fldF fS0 [fS1, fS2] s.data.toList = some ([u, t], r) -> r.length <= 4000 /\ (bl u).size <= maxLen /\ (bl t).size <= maxLen /\ o = (pItems r).bind fun its => if fdB (bl u) (bl t) its = true then some ⟨bl u, bl t, its⟩ else none) := Lib.hid (fun u t r h => by
  have hp : pHead s.data.toList = some (u, t, r) := by unfold pHead; rw [h]
  have e := congrArg List.length (pHead_some hp).1
  simp only [List.length_append] at e
  have k0 : s.data.toList.length = s.size := by simp
  have k1 := plain_len u
  have k2 := plain_len t
  refine ⟨by omega, ?_, ?_, by rw [ho]; exact rdF_items hs hp⟩
  ·rw [bl_size]; unfold maxLen; omega
  ·rw [bl_size]; unfold maxLen; omega)
 clear ho hrow hs
 go_enter Tryz.func9, Tryz.ntmps9
 go_wp2_with fail
 clear hW0
 generalize W0.alloc (.cells #[.string ⟨#[34, 62, 60, 116, 105, 116, 108, 101, 62]⟩, .string ⟨#[60, 47, 116, 105, 116, 108, 101, 62]⟩] 9) = W1 at HF hz hB ⊢
 generalize W0.heap.size = G0 at HF ⊢
 refine HF.out.mono ?_
 rintro e w2 ⟨hff, hb2⟩
 replace hz := hz.keep hb2 hz.lt
 replace hB := hB.trans (hb2.mono hB.size)
 clear hb2 HF
 have hff2 : FfOut W1.heap.size (fldF fS0 [fS1, fS2] s.data.toList) e w2 := hff
 clear hff
 rcases fld2_cases fS0 fS1 fS2 s.data.toList with hn | ⟨u, t, rr, hsome⟩
 ·have hO := HN.out hn
  rw [hn] at hff2
  obtain rfl : e = .returned (.tuple #[.slice none 0 0, .string ⟨#[]⟩, .bool false]) := hff2
  clear hn HN HS
  have z0 := hz.cell 0 _ rfl
  have z1 := hz.cell 1 _ rfl
  have z2 := hz.cell 2 _ rfl
  have f0 := hz.free 0
  have f1 := hz.free 1
  have f2 := hz.free 2
  go_wp2
  refine bodyPost_ret (results_fd2 rfl _ _ _ ⟨#[]⟩ ⟨#[]⟩ (.slice none 0 0) _ rfl rfl (put3it _ _ _ _ _ hz rfl)) rfl ?_
  exact ⟨ret_zero hO, hB.trans (below3it _ w.heap.size _ (Nat.le_refl _) _ _ _)⟩
 ·
  obtain ⟨hrl, hul, htl, hO⟩ := HS.out u t rr hsome
  rw [hsome] at hff2
  obtain ⟨v, rfl, hown⟩ := hff2
  have hrow : RecAt 1 txC w2 w2.heap.size v [bl u, bl t] := hown.at txC_len
  clear hsome hown HN HS
  obtain ⟨bb, off, cap, hv, hbs, hc1⟩ := rowT_at hrow 1 (by simp)
  cases hv
  clear hc1 hbs
  have HO := Lib.hid hO
  clear hO
  generalize bl u = U at hrow hul HO
  generalize bl t = T at hrow htl HO
  go_wp2
  have hlt2 : w.heap.size < w2.heap.size := hz.lt
  obtain ⟨S, hS⟩ : ∃ S, S = w2.heap.size := ⟨_, rfl⟩
  rw [<- hS] at hlt2
  have hrow2 : RecAt 1 txC w2.drew S (.slice (some ⟨bb, off, none⟩) 2 cap) [U, T] := by rw [hS]; exact hrow
  clear hrow
  replace hz : Box w2.drew w.heap.size _ _ := Box.drew hz
  replace hB := Below.drew hB
  refine wp_region_T (fun _ => True) (fun v => RecAt 1 txC v S (.slice (some ⟨bb, off, none⟩) 2 cap) [U, T]) 8 (by kernel_rfl) 9 rfl ?_
  have hSd : S = w2.drew.heap.size := hS
  clear hS
  generalize w2.drew = Wd at hrow2 hz hB hSd ⊢
  refine wpAnyT_takesB (md := .any) 2 (by kernel_rfl) (by intro d v c a w h; cases d <;> exact h) [0, 1, 2, 3, 4, 5, 6] _ _ _ (by decide) (by kernel_rfl) (by kernel_rfl) (by kernel_rfl) ⟨trivial, fun _ => hrow2⟩ ?_
  simp only [pick, List.filterMap_cons, List.filterMap_nil, List.getElem?_cons_zero, List.getElem?_cons_succ]
  refine wpIf_step (.slice (some ⟨bb, off, none⟩) 2 cap) (by kernel_rfl) (fun w _ => by go_simp) ?_
  refine wpIf_step (.pointer (some ⟨bb, off, none⟩)) (by kernel_rfl) (fun w _ => by go_simp) ?_
  refine wS (.string U) (fun w hw => by obtain ⟨b', o', c', hv, _, hc⟩ := rowT_at hw.2 0 (by simp); cases hv; have hc2 : w.cell? ⟨bb, off, none⟩ = some (.string U) := hc; go_simp) ?_
  refine wpIf_step (.slice (some ⟨bb, off, none⟩) 2 cap) (by kernel_rfl) (fun w _ => by go_simp) ?_
  refine wpIf_step (.pointer (some ⟨bb, off + 1, none⟩)) (by kernel_rfl) (fun w _ => by go_simp) ?_
  refine wS (.string T) (fun w hw => by obtain ⟨b', o', c', hv, _, hc⟩ := rowT_at hw.2 1 (by simp); cases hv; have hc2 : w.cell? ⟨bb, off + 1, none⟩ = some (.string T) := hc; go_simp) ?_
  refine wpIf_step (.agg #[.string U, .string T, .slice none 0 0]) (by kernel_rfl) (fun w _ => by go_simp) ?_
  refine wpIf_nil (fun hSx => ?_)
  clear hSx
  refine wO 7 1 (fun K hK => ?_)
  go_simp
  have hb3 : Below Wd.heap.size Wd (Wd.alloc (.cells #[.string ⟨#[]⟩, .string ⟨#[]⟩, .slice none 0 0] 26)) := (Below.refl _ _).alloc (Nat.le_refl _) _
  have hx := Box.new Wd #[.string ⟨#[]⟩, .string ⟨#[]⟩, .slice none 0 0] 26
  replace hz := hz.keep hb3 hz.lt
  replace hrow2 := hrow2.below (hb3.mono (by rw [hSd]; exact Nat.le_refl _))
  replace hB := Below.trans hB (hb3.mono hB.size)
  refine hK _ _ ⟨trivial, fun _ => hrow2⟩ (fun hSx => ?_)
  clear hK K hSx hb3
  rw [<- hSd] at hx ⊢
  have hlt3 : w.heap.size < S := hlt2
  clear hSd hlt2
  generalize Wd.alloc (.cells #[.string ⟨#[]⟩, .string ⟨#[]⟩, .slice none 0 0] 26) = W3 at hz hrow2 hB hx ⊢
  have x0 := hx.cell 0 _ rfl
  have x1 := hx.cell 1 _ rfl
  have x2 := hx.cell 2 _ rfl
  have g0 := hx.free 0
  have g1 := hx.free 1
  have g2 := hx.free 2
  refine wO 8 0 (fun K hK => ?_)
  go_simp
  have hx2 := put3it W3 S (.string U) (.string T) (.slice none 0 0) hx rfl
  have hb3 := below3it W3 S S (Nat.le_refl _) (.string U) (.string T) (.slice none 0 0)
  have hSl : S < W3.heap.size := hx.lt
  replace hz := hz.keep hb3 hlt3
  replace hB := hB.trans (hb3.mono (Nat.le_of_lt hlt3))
  clear hx hb3 x0 x1 x2 g0 g1 g2 hrow2
  refine hK _ _ ⟨trivial, fun h => by cases h⟩ (fun hSx => ?_)
  clear hK K hSx
  refine wpAnyT_over (by kernel_rfl) ?_
  have hSz : S + 1 <= ((((W3.setCell ⟨S, 0, none⟩ (.string U)).setCell ⟨S, 1, none⟩ (.string T)).setCell ⟨S, 2, none⟩ (.slice none 0 0))).heap.size := by simp; omega
  generalize (((W3.setCell ⟨S, 0, none⟩ (.string U)).setCell ⟨S, 1, none⟩ (.string T)).setCell ⟨S, 2, none⟩ (.slice none 0 0)) = W4 at hz hB hx2 hSz ⊢
  clear hSl
  have hw0 := OwnR.nil (k := 3) (C := itC) 55 W4 (S + 1)
  go_wp2
  go_loopw [5] (fun r wr => ∃ (R : ByteArray) (acc : List It) (v : Value), r = .string R /\ R.size + acc.length <= 4000 /\ Hid (pItems rr = (pItems R.data.toList).map (fun z => acc ++ z)) /\ Hid (∀ x ∈ acc, x.id.size <= maxLen /\ x.ti.size <= maxLen) /\ Box wr S #[.string U, .string T, v] 26 /\ OwnR 55 3 itC wr (S + 1) v acc /\ Box wr w.heap.size #[.string ⟨#[]⟩, .string ⟨#[]⟩, .slice none 0 0] 26 /\ Below w.heap.size w wr /\ S + 1 <= wr.heap.size) (fun r _ => match r with | .string b => b.size | _ => 0)
  case atStart => exact ⟨bl rr, [], _, rfl, by rw [bl_size]; simpa using hrl, Lib.hid (by simp), Lib.hid (by simp), hx2, hw0, hz, hB, hSz⟩
  case round =>
   clear hx2 hw0 hz hB hSz hrl
   obtain ⟨R, acc, v, rfl, hRs, HP, HZ, hx, hown, hz, hB, hSz⟩ := hrel
   obtain ⟨oa, oc, rfl⟩ := hown.slice
   by_cases hend : R.data.toList = fS3
   case pos =>
    obtain rfl : R = ⟨#[60, 47, 102, 101, 101, 100, 62]⟩ := by rw [<- bl_back R, hend]; rfl
    have HOe : Hid (o = if fdB U T acc = true then some ⟨U, T, acc⟩ else none) := Lib.hid (by
     have h1 := HP.out
     rw [hend, pItems_end, Option.map_some, List.append_nil] at h1
     rw [HO.out, h1, Option.bind_some])
    have HC := Lib.hid (implFeedOk_any U T (.slice oa acc.length oc) acc wr hul htl ⟨hown.at itC_len, HZ.out⟩)
    clear HP HO HZ hRs hend hul htl
    generalize fdB U T acc = F at HOe HC
    have x0 := hx.cell 0 _ rfl
    have x1 := hx.cell 1 _ rfl
    have x2 := hx.cell 2 _ rfl
    go_wp2_with fail
    clear x0 x1 x2
    refine HC.out.mono ?_
    rintro e w5 ⟨rfl, hb5⟩
    replace hx := hx.keep hb5 hx.lt
    replace hz := hz.keep hb5 hz.lt
    replace hown := hown.keep hb5 (Nat.le_refl _)
    replace hB := hB.trans (hb5.mono hB.size)
    clear hb5 HC
    cases F with
    | false =>
     have hO : o = none := HOe.out
     clear hown HOe
     have z0 := hz.cell 0 _ rfl
     have z1 := hz.cell 1 _ rfl
     have z2 := hz.cell 2 _ rfl
     have f0 := hz.free 0
     have f1 := hz.free 1
     have f2 := hz.free 2
     go_wp2
     refine bodyPost_ret (results_fd2 rfl _ _ _ ⟨#[]⟩ ⟨#[]⟩ (.slice none 0 0) _ rfl rfl (put3it _ _ _ _ _ hz rfl)) rfl ?_
     exact ⟨ret_zero hO, hB.trans (below3it _ w.heap.size _ (Nat.le_refl _) _ _ _)⟩
    | true =>
     have hO : o = some ⟨U, T, acc⟩ := HOe.out
     have hown2 := ((hown.other ⟨w.heap.size, 0, none⟩ (.string U) (show w.heap.size < S + 1 by omega)).other ⟨w.heap.size, 1, none⟩ (.string T) (show w.heap.size < S + 1 by omega)).other ⟨w.heap.size, 2, none⟩ (.slice oa acc.length oc) (show w.heap.size < S + 1 by omega)
     replace hown2 := hown2.base_mono (show w.heap.size <= S + 1 by omega)
     have hne1 : w.heap.size ≠ S := by omega
     clear HOe
     have x0 := hx.cell 0 _ rfl
     have x1 := hx.cell 1 _ rfl
     have x2 := hx.cell 2 _ rfl
     have z0 := hz.cell 0 _ rfl
     have z1 := hz.cell 1 _ rfl
     have z2 := hz.cell 2 _ rfl
     have f0 := hz.free 0
     have f1 := hz.free 1
     have f2 := hz.free 2
     go_wp2
     refine bodyPost_ret (results_fd2 rfl _ _ _ U T (.slice oa acc.length oc) _ rfl rfl (put3it _ _ _ _ _ hz rfl)) rfl ?_
     exact ⟨ret_pair hO hown2, hB.trans (below3it _ w.heap.size _ (Nat.le_refl _) _ _ _)⟩
   have hne : (R.toList == [60, 47, 102, 101, 101, 100, 62]) = false := by rw [ByteArray.toList_eq]; exact beq_eq_false_iff_ne.2 hend
   have HPn : Hid (pItem R.data.toList = none -> o = none) := Lib.hid (fun h => by
    have h1 := HP.out
    rw [pItems_none hend h] at h1
    rw [HO.out, h1]; rfl)
   have HPs : Hid (∀ x r, pItem R.data.toList = some (x, r) -> (pItems rr = (pItems r).map (fun z => (acc ++ [x]) ++ z)) /\ (x.id.size <= maxLen /\ x.ti.size <= maxLen) /\ r.length + 1 <= R.size) := Lib.hid (fun x r h => by
    have k2 : R.data.toList.length = R.size := by simp
    have h2 := pItem_sz h (by omega)
    refine ⟨?_, h2.1, by omega⟩
    rw [HP.out, pItems_cons hend h, Option.map_map]
    congr 1
    funext z
    simp)
   have HI := Lib.hid (fun w h1 h2 h3 => readItem_any R w (by omega) h1 h2 h3)
   clear HP hend
   have hit := Box.new wr #[.string ⟨#[]⟩, .string ⟨#[]⟩, .int .i64 0] 55
   have hia : Below wr.heap.size wr (wr.alloc (.cells #[.string ⟨#[]⟩, .string ⟨#[]⟩, .int .i64 0] 55)) := (Below.refl _ _).alloc (Nat.le_refl _) _
   replace hx := hx.keep hia hx.lt
   replace hz := hz.keep hia hz.lt
   have hob : ∀ g, (Value.slice oa acc.length oc).ownBlock = some g -> g < wr.heap.size := fun g hg => (World.ownsRow.lt hown g hg).2
   replace hown := hown.keep hia (Nat.le_refl _)
   replace hB := hB.trans (hia.mono hB.size)
   clear hia
   go_wp2_with fail
   have hSg : S + 1 <= wr.heap.size := hSz
   generalize wr.alloc (.cells #[.string ⟨#[]⟩, .string ⟨#[]⟩, .int .i64 0] 55) = W5 at hit hx hz hown hB ⊢
   generalize wr.heap.size = gI at hit hSg hob ⊢
   have hobn : (Value.slice oa acc.length oc).ownBlock ≠ some gI := fun h => by have := hob gI h; omega
   clear hob
   clear hSz
   refine (HI.out _ (HE.out.below hB (Nat.le_refl _)) (HX.out.below hB (Nat.le_refl _)) (HM.out.below hB (Nat.le_refl _))).mono ?_
   rintro e w6 ⟨hri, hb6⟩
   replace hx := hx.keep hb6 hx.lt
   replace hz := hz.keep hb6 hz.lt
   replace hit := hit.keep hb6 hit.lt
   replace hown := hown.keep hb6 (Nat.le_refl _)
   replace hB := hB.trans (hb6.mono hB.size)
   clear hb6 HI
   have hgl : gI < w6.heap.size := hit.lt
   have i0 := hit.cell 0 _ rfl
   have i1 := hit.cell 1 _ rfl
   have i2 := hit.cell 2 _ rfl
   have j0 := hit.free 0
   have j1 := hit.free 1
   have j2 := hit.free 2
   rcases hpi : pItem R.data.toList with _ | ⟨⟨xi, xt, xd⟩, r2⟩
   ·rw [hpi] at hri
    obtain rfl : e = .returned (.tuple #[itV ⟨#[]⟩ ⟨#[]⟩ 0, .string ⟨#[]⟩, .bool false]) := hri
    have hO := HPn.out hpi
    clear HPn HPs hpi hown HO HZ
    have hzb := below3it w6 gI gI (Nat.le_refl _) (.string ⟨#[]⟩) (.string ⟨#[]⟩) (.int .i64 0)
    have hwI : w.heap.size < gI := by omega
    replace hz := hz.keep hzb hwI
    replace hB := hB.trans (hzb.mono (Nat.le_of_lt hwI))
    clear hzb
    have z0 := hz.cell 0 _ rfl
    have z1 := hz.cell 1 _ rfl
    have z2 := hz.cell 2 _ rfl
    have f0 := hz.free 0
    have f1 := hz.free 1
    have f2 := hz.free 2
    go_wp2
    refine bodyPost_ret (results_fd2 rfl _ _ _ ⟨#[]⟩ ⟨#[]⟩ (.slice none 0 0) _ rfl rfl (put3it _ _ _ _ _ hz rfl)) rfl ?_
    exact ⟨ret_zero hO, hB.trans (below3it _ w.heap.size _ (Nat.le_refl _) _ _ _)⟩
   ·rw [hpi] at hri
    obtain ⟨hpn, hsz, hlr⟩ := HPs.out _ _ hpi
    obtain rfl : e = .returned (.tuple #[itV xi xt xd, .string (bl r2), .bool true]) := hri
    dsimp only at hsz
    have HPN := Lib.hid hpn
    have HZ2 : Hid (∀ x ∈ acc ++ [⟨xi, xt, xd⟩], x.id.size <= maxLen /\ x.ti.size <= maxLen) := Lib.hid (fun x hx => by
     rcases List.mem_append.1 hx with h | h
     ·exact HZ.out x h
     ·rw [List.mem_singleton.1 h]; exact hsz)
    clear HPn HPs hpi hpn HZ hsz hne
    have hzb := below3it w6 gI gI (Nat.le_refl _) (.string xi) (.string xt) (.int .i64 xd)
    have hit2 := put3it w6 gI (.string xi) (.string xt) (.int .i64 xd) hit rfl
    have hwI : w.heap.size < gI := by omega
    replace hz := hz.keep hzb hwI
    replace hx := hx.keep hzb (show S < gI by omega)
    replace hB := hB.trans (hzb.mono (Nat.le_of_lt hwI))
    clear hzb
    replace hown := ((hown.offF ⟨gI, 0, none⟩ (.string xi) hobn).offF ⟨gI, 1, none⟩ (.string xt) hobn).offF ⟨gI, 2, none⟩ (.int .i64 xd) hobn
    have HO2 := Lib.hid (hown.alloc (.cells #[.string xi, .string xt, .int .i64 xd] 55))
    have HOn : Hid (RecAt 3 itC ((((w6.setCell ⟨gI, 0, none⟩ (.string xi)).setCell ⟨gI, 1, none⟩ (.string xt)).setCell ⟨gI, 2, none⟩ (.int .i64 xd)).alloc (.cells #[.string xi, .string xt, .int .i64 xd] 55)) (w6.heap.size + 1) (.slice (some ⟨w6.heap.size, 0, none⟩) 1 1) [(⟨xi, xt, xd⟩ : It)]) := Lib.hid (by
     have := one_recT itC_len (((w6.setCell ⟨gI, 0, none⟩ (.string xi)).setCell ⟨gI, 1, none⟩ (.string xt)).setCell ⟨gI, 2, none⟩ (.int .i64 xd)) 55 (⟨xi, xt, xd⟩ : It) #[.string xi, .string xt, .int .i64 xd] rfl
     simpa using this)
    have k0 := hit2.cell 0 _ rfl
    have k1 := hit2.cell 1 _ rfl
    have k2 := hit2.cell 2 _ rfl
    have x2 := hx.cell 2 _ rfl
    have HXx := Lib.hid (hx.alloc (.cells #[.string xi, .string xt, .int .i64 xd] 55))
    have HZz := Lib.hid (hz.alloc (.cells #[.string xi, .string xt, .int .i64 xd] 55))
    have HBb := Lib.hid (hB.alloc hB.size (.cells #[.string xi, .string xt, .int .i64 xd] 55))
    have hszS : S + 1 <= w6.heap.size := by omega
    clear hown hx hz hB hit hit2
    go_wp2_with (at_builtin; refine wpList_appR itC_len (by decide) Tryz.underlying24 Tryz.infoItR rfl (by decide) rfl (.tmp 42) (.tmp 44) rfl (S + 1) (w6.heap.size + 1) _ _ _ [(⟨xi, xt, xd⟩ : It)] rfl rfl HO2.out HOn.out (fun y _ => itC_one y) (by simp; omega) (by simp; omega) ?_; intro v1 w7 hown1 hg1; have hgb := gb_BelowT hg1 (show S + 1 <= _ by simp; omega) (ownBlock_base HO2.out); obtain ⟨oa1, oc1, rfl⟩ := hown1.slice; generalize hn1 : (acc ++ [(⟨xi, xt, xd⟩ : It)]).length = n1 at hown1 ⊢; clear hn1; have hx7 := HXx.out.keep hgb (Nat.lt_succ_self S); have y2 := hx7.cell 2 _ rfl; have g2 := hx7.free 2)
    have hz7 := HZz.out.keep hgb (show w.heap.size < S + 1 by omega)
    have hB7 := HBb.out.trans (hgb.mono (show w.heap.size <= S + 1 by omega))
    have hS7 : S + 1 <= w7.heap.size := hx7.lt
    have hx8 : Box (w7.setCell ⟨S, 2, none⟩ (.slice oa1 n1 oc1)) S #[.string U, .string T, .slice oa1 n1 oc1] 26 := hx7.set 2 (.slice oa1 n1 oc1)
    have hown8 := hown1.other ⟨S, 2, none⟩ (.slice oa1 n1 oc1) (Nat.lt_succ_self S)
    have hbe : Below S w7 (w7.setCell ⟨S, 2, none⟩ (.slice oa1 n1 oc1)) := (Below.refl _ _).setCell (p := ⟨S, 2, none⟩) (Nat.le_refl _) _
    have hz8 := hz7.keep hbe hlt3
    have hB8 := hB7.trans (hbe.mono (Nat.le_of_lt hlt3))
    clear hx7 y2 g2 hz7 hB7 hown1 hg1 hgb hbe HO2 HOn HXx HZz HBb
    go_roundw
    case rel => exact ⟨bl r2, acc ++ [⟨xi, xt, xd⟩], .slice oa1 n1 oc1, rfl, by rw [bl_size, List.length_append, List.length_singleton]; omega, HPN, HZ2, hx8, hown8, hz8, hB8, by simpa using hS7⟩
    case measure => show r2.length < R.size; omega
end Go.Proofs.YtffkakpbelknaaaGreatDoor
namespace Go.Proofs.YtffkakpbelknaaaGreatDoor
open Go.ChangeShapes Go.WideShapes Go.ChangeAt Go.RowKit Go.Shelf
set_option linter.unusedVariables false
set_option linter.unusedSimpArgs false
theorem wp_appF {w w' : World} {o : Oper} {a : Act} {K : Act -> World -> Prop} {Q : Exit -> Act -> World -> Prop} (t : TypeId) (s x : Operand) (ho : o.op = .call { callee := .builtin .append, args := #[s, x], argTypes := #[t, t] }) (v xv v' : Value) (hs : a.eval s = v) (hx : a.eval x = xv) (hrun : (Builtin.append_ #[t, t] o.type #[v, xv]).run Tryz.prog w = .ok v' w') (h : K (a.put o.dst v') w') : o.wp Tryz.prog a w K Q := by
 unfold Oper.wp
 simp [execOp, ho, resolve, invoke, builtin, hs, hx, hrun, Result.andThen]
 exact h
theorem tk_len (l word mark : List UInt8) : (tk l word mark).1.length <= l.length /\ (tk l word mark).2.1.length <= l.length := by
 unfold tk
 split
 ·rename_i h
  have e := congrArg List.length (cut_yes h.2)
  rw [List.length_append, List.length_append, List.length_drop] at e
  dsimp only
  constructor <;> omega
 ·exact ⟨Nat.zero_le _, Nat.zero_le _⟩
theorem plA_len (l : List UInt8) : (plA l).1.length <= l.length := by
 cases h : (plA l).2 with
 | true =>
  obtain ⟨h1, _⟩ := plA_true h
  have h2 := escaped_plain _ _ _ (Nat.le_refl _) h1
  have h3 := plain_len (plA l).1
  rw [h2] at h3
  exact h3
 | false =>
  unfold plA at h ⊢
  split
  ·rename_i hl
   rw [if_pos hl] at h
   cases hp : plL l with
   | none => exact Nat.zero_le _
   | some r => rw [hp] at h; cases h
  ·exact Nat.zero_le _
theorem rdV_date (s : ByteArray) : ∃ y m d, rdV s = .tuple #[dV y m d, .bool (rdOk s)] /\ (rdOk s = true -> y = rY s /\ m = rM s /\ d = rD s) := by
 cases h : rdOk s with
 | true => exact ⟨rY s, rM s, rD s, rdV_yes ((rdOk_iff s).1 h), fun _ => ⟨rfl, rfl, rfl⟩⟩
 | false => exact ⟨0, 0, 0, rdV_not (fun hx => by rw [(rdOk_iff s).2 hx] at h; cases h), fun hx => by cases hx⟩
theorem specReadFeed_any (s : ByteArray) (w : World) :
  Calls Tryz.prog 15 #[.string s] w fun e w' => RfOut w.heap.size (rdF s) e w' /\ Below w.heap.size w w' := by
 obtain ⟨o, ho⟩ : ∃ o, o = rdF s := ⟨_, rfl⟩
 rw [<- ho]
 have hz := Box.new w #[.string ⟨#[]⟩, .string ⟨#[]⟩, .slice none 0 0] 26
 have hB : Below w.heap.size w (w.alloc (.cells #[.string ⟨#[]⟩, .string ⟨#[]⟩, .slice none 0 0] 26)) := (Below.refl _ _).alloc (Nat.le_refl _) _
 by_cases hs : s.size <= 4000
 case neg =>
  have hO : o = none := by rw [ho]; exact rdF_long hs
  have hsI : (4000 : Int) < (s.size : Int) := by omega
  clear hs
  go_enter Tryz.func15, Tryz.ntmps15
  have z0 := hz.cell 0 _ rfl
  have z1 := hz.cell 1 _ rfl
  have z2 := hz.cell 2 _ rfl
  have f0 := hz.free 0
  have f1 := hz.free 1
  have f2 := hz.free 2
  go_wp2
  refine bodyPost_ret (results_fd2 rfl _ _ _ ⟨#[]⟩ ⟨#[]⟩ (.slice none 0 0) _ rfl rfl hz) rfl ?_
  exact ⟨ret_zero hO, hB⟩
 have hsI : ¬ (4000 : Int) < (s.size : Int) := by omega
 have hsl : s.data.toList.length = s.size := by simp
 obtain ⟨A, hA⟩ : ∃ A, A = tk s.data.toList fS0 iL3 := ⟨_, rfl⟩
 obtain ⟨B, hB2⟩ : ∃ B, B = tk A.2.1 fSt fS2 := ⟨_, rfl⟩
 have hph := pHead_ref s.data.toList A B hA hB2
 have hAl := tk_len s.data.toList fS0 iL3
 rw [<- hA] at hAl
 have hBl := tk_len A.2.1 fSt fS2
 rw [<- hB2] at hBl
 have T1 : Hid (∀ w, Calls Tryz.prog 48 #[.string s, .string ⟨#[60, 102, 101, 101, 100, 32, 117, 114, 108, 61, 34]⟩, .string ⟨#[34, 62]⟩] w fun e w' => e = .returned (.tuple #[.string (bl A.1), .string (bl A.2.1), .bool A.2.2]) /\ Below w.heap.size w w') := Lib.hid (fun w => by rw [hA]; exact l8Take_any s ⟨#[60, 102, 101, 101, 100, 32, 117, 114, 108, 61, 34]⟩ ⟨#[34, 62]⟩ w (by omega) (by decide) (by decide) (by decide))
 have T2 : Hid (∀ w, Calls Tryz.prog 48 #[.string (bl A.2.1), .string ⟨#[60, 116, 105, 116, 108, 101, 62]⟩, .string ⟨#[60, 47, 116, 105, 116, 108, 101, 62]⟩] w fun e w' => e = .returned (.tuple #[.string (bl B.1), .string (bl B.2.1), .bool B.2.2]) /\ Below w.heap.size w w') := Lib.hid (fun w => by rw [hB2]; exact l8Take_any (bl A.2.1) ⟨#[60, 116, 105, 116, 108, 101, 62]⟩ ⟨#[60, 47, 116, 105, 116, 108, 101, 62]⟩ w (by rw [bl_size]; omega) (by decide) (by decide) (by decide))
 have P1 : Hid (∀ w, Calls Tryz.prog 49 #[.string (bl A.1)] w fun e w' => e = .returned (.tuple #[.string (bl (plA A.1).1), .bool (plA A.1).2]) /\ Below w.heap.size w w') := Lib.hid (fun w => by have := specPlain_any (bl A.1) w; rw [plV_A] at this; exact this)
 have P2 : Hid (∀ w, Calls Tryz.prog 49 #[.string (bl B.1)] w fun e w' => e = .returned (.tuple #[.string (bl (plA B.1).1), .bool (plA B.1).2]) /\ Below w.heap.size w w') := Lib.hid (fun w => by have := specPlain_any (bl B.1) w; rw [plV_A] at this; exact this)
 have HN : Hid (pHead s.data.toList = none -> o = none) := Lib.hid (fun h => by rw [ho]; exact rdF_head h)
 have HS : Hid (∀ u t r, pHead s.data.toList = some (u, t, r) -> (o = (pItems r).bind fun its => if fdB (bl u) (bl t) its = true then some ⟨bl u, bl t, its⟩ else none) /\ (∀ its, pItems r = some its -> ((fdX (bl u) (bl t) its).toList == s.toList) = fdB (bl u) (bl t) its)) := Lib.hid (fun u t r hp => by
  refine ⟨by rw [ho]; exact rdF_items hs hp, fun its hi => ?_⟩
  have h := ref_end hp hi
  rw [Bool.eq_iff_iff, beq_iff_eq]
  constructor
  ·intro he
   refine h.1 ?_
   rw [ByteArray.toList_eq, ByteArray.toList_eq] at he
   rw [<- bl_back (fdX (bl u) (bl t) its), he, bl_back]
  ·intro he
   rw [h.2 he])
 have hul : (bl (plA A.1).1).size <= maxLen := by rw [bl_size]; have := plA_len A.1; unfold maxLen; omega
 have htl : (bl (plA B.1).1).size <= maxLen := by rw [bl_size]; have := plA_len B.1; unfold maxLen; omega
 have hrl : B.2.1.length <= 4000 := by omega
 clear ho hs hAl hBl hsl
 obtain ⟨a1, a2, a3⟩ := A
 obtain ⟨b1, b2, b3⟩ := B
 clear hA hB2
 dsimp only at hph T1 T2 P1 P2 hul htl hrl
 generalize plA a1 = p1 at hph P1 hul
 generalize plA b1 = p2 at hph P2 htl
 obtain ⟨pu, f1⟩ := p1
 obtain ⟨pt, f2⟩ := p2
 dsimp only at hph P1 P2 hul htl
 have HPH := Lib.hid hph
 clear hph
 go_enter Tryz.func15, Tryz.ntmps15
 go_wp2_with fail
 generalize w.alloc (.cells #[.string ⟨#[]⟩, .string ⟨#[]⟩, .slice none 0 0] 26) = W0 at hz hB ⊢
 refine (T1.out _).mono ?_
 rintro e w1 ⟨rfl, hb⟩
 replace hz := hz.keep hb hz.lt
 replace hB := Below.trans hB (hb.mono hB.size)
 clear hb
 go_wp2_with fail
 refine (T2.out _).mono ?_
 rintro e w2 ⟨rfl, hb⟩
 replace hz := hz.keep hb hz.lt
 replace hB := Below.trans hB (hb.mono hB.size)
 clear hb
 go_wp2_with fail
 refine (P1.out _).mono ?_
 rintro e w3 ⟨rfl, hb⟩
 replace hz := hz.keep hb hz.lt
 replace hB := Below.trans hB (hb.mono hB.size)
 clear hb
 go_wp2_with fail
 refine (P2.out _).mono ?_
 rintro e w4 ⟨rfl, hb⟩
 replace hz := hz.keep hb hz.lt
 replace hB := Below.trans hB (hb.mono hB.size)
 clear hb
 clear T1 T2 P1 P2
 have hwl : w.heap.size < w4.heap.size := hz.lt
 have hx := Box.new w4 #[.string (bl pu), .string (bl pt), .slice none 0 0] 26
 have hia : Below w4.heap.size w4 (w4.alloc (.cells #[.string (bl pu), .string (bl pt), .slice none 0 0] 26)) := (Below.refl _ _).alloc (Nat.le_refl _) _
 replace hz := hz.keep hia hz.lt
 replace hB := hB.trans (hia.mono hB.size)
 clear hia
 cases a3 with
 | false =>
  have hO := HN.out (HPH.out.trans (if_neg (by simp)))
  clear HN HS HPH hx hul htl hrl
  go_wp2
  go_loopw [5] (fun r wr => Box wr w.heap.size #[.string ⟨#[]⟩, .string ⟨#[]⟩, .slice none 0 0] 26 /\ Below w.heap.size w wr) (fun _ _ => 0)
  case atStart => exact ⟨hz, hB⟩
  case round =>
   clear hz hB
   obtain ⟨hz, hB⟩ := hrel
   have z0 := hz.cell 0 _ rfl
   have z1 := hz.cell 1 _ rfl
   have z2 := hz.cell 2 _ rfl
   have f0 := hz.free 0
   have f1 := hz.free 1
   have f2 := hz.free 2
   go_wp2
   refine bodyPost_ret (results_fd2 rfl _ _ _ ⟨#[]⟩ ⟨#[]⟩ (.slice none 0 0) _ rfl rfl (put3it _ _ _ _ _ hz rfl)) rfl ?_
   exact ⟨ret_zero hO, hB.trans (below3it _ w.heap.size _ (Nat.le_refl _) _ _ _)⟩
 | true =>
  cases b3 with
  | false =>
   have hO := HN.out (HPH.out.trans (if_neg (by simp)))
   clear HN HS HPH hx hul htl hrl
   go_wp2
   go_loopw [5] (fun r wr => Box wr w.heap.size #[.string ⟨#[]⟩, .string ⟨#[]⟩, .slice none 0 0] 26 /\ Below w.heap.size w wr) (fun _ _ => 0)
   case atStart => exact ⟨hz, hB⟩
   case round =>
    clear hz hB
    obtain ⟨hz, hB⟩ := hrel
    have z0 := hz.cell 0 _ rfl
    have z1 := hz.cell 1 _ rfl
    have z2 := hz.cell 2 _ rfl
    have f0 := hz.free 0
    have f1 := hz.free 1
    have f2 := hz.free 2
    go_wp2
    refine bodyPost_ret (results_fd2 rfl _ _ _ ⟨#[]⟩ ⟨#[]⟩ (.slice none 0 0) _ rfl rfl (put3it _ _ _ _ _ hz rfl)) rfl ?_
    exact ⟨ret_zero hO, hB.trans (below3it _ w.heap.size _ (Nat.le_refl _) _ _ _)⟩
  | true =>
   cases f1 with
   | false =>
    have hO := HN.out (HPH.out.trans (if_neg (by simp)))
    clear HN HS HPH hx hul htl hrl
    go_wp2
    go_loopw [5] (fun r wr => Box wr w.heap.size #[.string ⟨#[]⟩, .string ⟨#[]⟩, .slice none 0 0] 26 /\ Below w.heap.size w wr) (fun _ _ => 0)
    case atStart => exact ⟨hz, hB⟩
    case round =>
     clear hz hB
     obtain ⟨hz, hB⟩ := hrel
     have z0 := hz.cell 0 _ rfl
     have z1 := hz.cell 1 _ rfl
     have z2 := hz.cell 2 _ rfl
     have f0 := hz.free 0
     have f1 := hz.free 1
     have f2 := hz.free 2
     go_wp2
     refine bodyPost_ret (results_fd2 rfl _ _ _ ⟨#[]⟩ ⟨#[]⟩ (.slice none 0 0) _ rfl rfl (put3it _ _ _ _ _ hz rfl)) rfl ?_
     exact ⟨ret_zero hO, hB.trans (below3it _ w.heap.size _ (Nat.le_refl _) _ _ _)⟩
   | true =>
    cases f2 with
    | false =>
     have hO := HN.out (HPH.out.trans (if_neg (by simp)))
     clear HN HS HPH hx hul htl hrl
     go_wp2
     go_loopw [5] (fun r wr => Box wr w.heap.size #[.string ⟨#[]⟩, .string ⟨#[]⟩, .slice none 0 0] 26 /\ Below w.heap.size w wr) (fun _ _ => 0)
     case atStart => exact ⟨hz, hB⟩
     case round =>
      clear hz hB
      obtain ⟨hz, hB⟩ := hrel
      have z0 := hz.cell 0 _ rfl
      have z1 := hz.cell 1 _ rfl
      have z2 := hz.cell 2 _ rfl
      have f0 := hz.free 0
      have f1 := hz.free 1
      have f2 := hz.free 2
      go_wp2
      refine bodyPost_ret (results_fd2 rfl _ _ _ ⟨#[]⟩ ⟨#[]⟩ (.slice none 0 0) _ rfl rfl (put3it _ _ _ _ _ hz rfl)) rfl ?_
      exact ⟨ret_zero hO, hB.trans (below3it _ w.heap.size _ (Nat.le_refl _) _ _ _)⟩
    | true =>
     obtain ⟨hO, hE⟩ := HS.out _ _ _ (HPH.out.trans (if_pos (by simp)))
     have HO := Lib.hid hO
     have HE := Lib.hid hE
     clear hO hE HN HS HPH
     have hSz : w4.heap.size + 1 <= (w4.alloc (.cells #[.string (bl pu), .string (bl pt), .slice none 0 0] 26)).heap.size := by simp
     have hw0 := OwnR.nil (k := 3) (C := itC) 55 (w4.alloc (.cells #[.string (bl pu), .string (bl pt), .slice none 0 0] 26)) (w4.heap.size + 1)
     generalize bl pu = U at hul HO HE hx hz hB hSz hw0 ⊢
     generalize bl pt = T at htl HO HE hx hz hB hSz hw0 ⊢
     go_wp2
     generalize w4.alloc (.cells #[.string U, .string T, .slice none 0 0] 26) = W4 at hx hz hB hSz hw0 ⊢
     generalize w4.heap.size = S at hx hSz hwl hw0 ⊢
     go_loopw [5] (fun r wr => ∃ (R : ByteArray) (acc : List It) (v : Value), r = .string R /\ R.size + acc.length <= 4000 /\ Hid (pItems b2 = (pItems R.data.toList).map (fun z => acc ++ z)) /\ Hid (∀ x ∈ acc, x.id.size <= maxLen /\ x.ti.size <= maxLen) /\ Box wr S #[.string U, .string T, v] 26 /\ OwnR 55 3 itC wr (S + 1) v acc /\ Box wr w.heap.size #[.string ⟨#[]⟩, .string ⟨#[]⟩, .slice none 0 0] 26 /\ Below w.heap.size w wr /\ S + 1 <= wr.heap.size) (fun r _ => match r with | .string b => b.size | _ => 0)
     case atStart => exact ⟨bl b2, [], _, rfl, by rw [bl_size]; simpa using hrl, Lib.hid (by simp), Lib.hid (by simp), hx, hw0, hz, hB, hSz⟩
     case round =>
      clear hx hw0 hz hB hSz hrl
      obtain ⟨R, acc, v, rfl, hRs, HP, HZ, hx, hown, hz, hB, hSz⟩ := hrel
      obtain ⟨oa, oc, rfl⟩ := hown.slice
      by_cases hend : R.data.toList = fS3
      case pos =>
       obtain rfl : R = ⟨#[60, 47, 102, 101, 101, 100, 62]⟩ := by rw [<- bl_back R, hend]; rfl
       have hpi : pItems b2 = some acc := by
        have h1 := HP.out
        rwa [hend, pItems_end, Option.map_some, List.append_nil] at h1
       have HOe : Hid (o = if fdB U T acc = true then some ⟨U, T, acc⟩ else none) := Lib.hid (by rw [HO.out, hpi, Option.bind_some])
       have hcmp := HE.out _ hpi
       have HC := Lib.hid (specFeedText_any U T (.slice oa acc.length oc) acc wr hul htl ⟨hown.at itC_len, HZ.out⟩)
       clear HP HO HE HZ hRs hend hpi hul htl
       generalize fdX U T acc = X at HC hcmp
       generalize fdB U T acc = F at HOe hcmp
       have x0 := hx.cell 0 _ rfl
       have x1 := hx.cell 1 _ rfl
       have x2 := hx.cell 2 _ rfl
       go_wp2_with fail
       clear x0 x1 x2
       refine HC.out.mono ?_
       rintro e w5 ⟨rfl, hb5⟩
       replace hx := hx.keep hb5 hx.lt
       replace hz := hz.keep hb5 hz.lt
       replace hown := hown.keep hb5 (Nat.le_refl _)
       replace hB := hB.trans (hb5.mono hB.size)
       clear hb5 HC
       cases F with
       | false =>
        have hO : o = none := HOe.out
        clear hown HOe
        have z0 := hz.cell 0 _ rfl
        have z1 := hz.cell 1 _ rfl
        have z2 := hz.cell 2 _ rfl
        have f0 := hz.free 0
        have f1 := hz.free 1
        have f2 := hz.free 2
        go_wp2
        refine bodyPost_ret (results_fd2 rfl _ _ _ ⟨#[]⟩ ⟨#[]⟩ (.slice none 0 0) _ rfl rfl (put3it _ _ _ _ _ hz rfl)) rfl ?_
        exact ⟨ret_zero hO, hB.trans (below3it _ w.heap.size _ (Nat.le_refl _) _ _ _)⟩
       | true =>
        have hO : o = some ⟨U, T, acc⟩ := HOe.out
        have hlt3 : w.heap.size < S := hwl
        have hown2 := ((hown.other ⟨w.heap.size, 0, none⟩ (.string U) (show w.heap.size < S + 1 by omega)).other ⟨w.heap.size, 1, none⟩ (.string T) (show w.heap.size < S + 1 by omega)).other ⟨w.heap.size, 2, none⟩ (.slice oa acc.length oc) (show w.heap.size < S + 1 by omega)
        replace hown2 := hown2.base_mono (show w.heap.size <= S + 1 by omega)
        have hne1 : w.heap.size ≠ S := by omega
        clear HOe
        have x0 := hx.cell 0 _ rfl
        have x1 := hx.cell 1 _ rfl
        have x2 := hx.cell 2 _ rfl
        have z0 := hz.cell 0 _ rfl
        have z1 := hz.cell 1 _ rfl
        have z2 := hz.cell 2 _ rfl
        have f0 := hz.free 0
        have f1 := hz.free 1
        have f2 := hz.free 2
        go_wp2
        refine bodyPost_ret (results_fd2 rfl _ _ _ U T (.slice oa acc.length oc) _ rfl rfl (put3it _ _ _ _ _ hz rfl)) rfl ?_
        exact ⟨ret_pair hO hown2, hB.trans (below3it _ w.heap.size _ (Nat.le_refl _) _ _ _)⟩
      have hne : (R.toList == [60, 47, 102, 101, 101, 100, 62]) = false := by rw [ByteArray.toList_eq]; exact beq_eq_false_iff_ne.2 hend
      have HPn : Hid (pItem R.data.toList = none -> o = none) := Lib.hid (fun h => by
       have h1 := HP.out
       rw [pItems_none hend h] at h1
       rw [HO.out, h1]; rfl)
      have HPs : Hid (∀ x r, pItem R.data.toList = some (x, r) -> (pItems b2 = (pItems r).map (fun z => (acc ++ [x]) ++ z)) /\ (x.id.size <= maxLen /\ x.ti.size <= maxLen) /\ r.length + 1 <= R.size) := Lib.hid (fun x r h => by
       have k2 : R.data.toList.length = R.size := by simp
       have h2 := pItem_sz h (by omega)
       refine ⟨?_, h2.1, by omega⟩
       rw [HP.out, pItems_cons hend h, Option.map_map]
       congr 1
       funext z
       simp)
      have hRl : R.data.toList.length = R.size := by simp
      obtain ⟨A, hA⟩ : ∃ A, A = tk R.data.toList iL1 iL2 := ⟨_, rfl⟩
      obtain ⟨B, hBe⟩ : ∃ B, B = tk A.2.1 [] iL3 := ⟨_, rfl⟩
      obtain ⟨C, hC⟩ : ∃ C, C = tk B.2.1 [] iL4 := ⟨_, rfl⟩
      have hpi := pItem_ref R.data.toList A B C hA hBe hC
      have hAl := tk_len R.data.toList iL1 iL2
      rw [<- hA] at hAl
      have hBl := tk_len A.2.1 [] iL3
      rw [<- hBe] at hBl
      have T1 : Hid (∀ w, Calls Tryz.prog 48 #[.string R, .string ⟨#[60, 105, 116, 101, 109, 32, 105, 100, 61, 34]⟩, .string ⟨#[34, 32, 100, 97, 116, 101, 61, 34]⟩] w fun e w' => e = .returned (.tuple #[.string (bl A.1), .string (bl A.2.1), .bool A.2.2]) /\ Below w.heap.size w w') := Lib.hid (fun w => by rw [hA]; exact l8Take_any R ⟨#[60, 105, 116, 101, 109, 32, 105, 100, 61, 34]⟩ ⟨#[34, 32, 100, 97, 116, 101, 61, 34]⟩ w (by omega) (by decide) (by decide) (by decide))
      have T2 : Hid (∀ w, Calls Tryz.prog 48 #[.string (bl A.2.1), .string ⟨#[]⟩, .string ⟨#[34, 62]⟩] w fun e w' => e = .returned (.tuple #[.string (bl B.1), .string (bl B.2.1), .bool B.2.2]) /\ Below w.heap.size w w') := Lib.hid (fun w => by rw [hBe]; exact l8Take_any (bl A.2.1) ⟨#[]⟩ ⟨#[34, 62]⟩ w (by rw [bl_size]; omega) (by decide) (by decide) (by decide))
      have T3 : Hid (∀ w, Calls Tryz.prog 48 #[.string (bl B.2.1), .string ⟨#[]⟩, .string ⟨#[60, 47, 105, 116, 101, 109, 62]⟩] w fun e w' => e = .returned (.tuple #[.string (bl C.1), .string (bl C.2.1), .bool C.2.2]) /\ Below w.heap.size w w') := Lib.hid (fun w => by rw [hC]; exact l8Take_any (bl B.2.1) ⟨#[]⟩ ⟨#[60, 47, 105, 116, 101, 109, 62]⟩ w (by rw [bl_size]; omega) (by decide) (by decide) (by decide))
      have P1 : Hid (∀ w, Calls Tryz.prog 49 #[.string (bl A.1)] w fun e w' => e = .returned (.tuple #[.string (bl (plA A.1).1), .bool (plA A.1).2]) /\ Below w.heap.size w w') := Lib.hid (fun w => by have := specPlain_any (bl A.1) w; rw [plV_A] at this; exact this)
      have P2 : Hid (∀ w, Calls Tryz.prog 49 #[.string (bl C.1)] w fun e w' => e = .returned (.tuple #[.string (bl (plA C.1).1), .bool (plA C.1).2]) /\ Below w.heap.size w w') := Lib.hid (fun w => by have := specPlain_any (bl C.1) w; rw [plV_A] at this; exact this)
      have RD := Lib.hid (fun w => specReadDate_any (bl B.1) w)
      obtain ⟨dy, dm, dd, hdv, hdr⟩ := rdV_date (bl B.1)
      have HDN : Hid (rdOk (bl B.1) = true -> dN (rY (bl B.1)) (rM (bl B.1)) (rD (bl B.1)) = dN dy dm dd /\ 1970 <= dy /\ dy <= 2517 /\ 1 <= dm /\ dm <= 12 /\ 1 <= dd /\ dd <= 31) := Lib.hid (fun h => by
       obtain ⟨e1, e2, e3⟩ := hdr h
       have hk := ((rdOk_iff _).1 h).2.2.2
       rw [<- e1, <- e2, <- e3] at hk ⊢
       obtain ⟨q1, q2, q3, q4, q5, q6, q7⟩ := (dOk_iff _ _ _).1 hk
       have := dIM_bd dy dm
       exact ⟨rfl, q1, q2, q3, q4, q5, by omega⟩)
      rw [hdv] at RD
      clear hdv hdr hA hBe hC hAl hBl hRl HP hend
      obtain ⟨a1, a2, a3⟩ := A
      obtain ⟨b1, c0, b3⟩ := B
      obtain ⟨c1, c2, c3⟩ := C
      dsimp only at hpi T1 T2 T3 P1 P2 RD HDN
      generalize dN (rY (bl b1)) (rM (bl b1)) (rD (bl b1)) = dn at hpi HDN
      generalize rdOk (bl b1) = gg at hpi RD HDN
      generalize plA a1 = p1 at hpi P1
      generalize plA c1 = p2 at hpi P2
      obtain ⟨pi, f1⟩ := p1
      obtain ⟨pj, f2⟩ := p2
      dsimp only at hpi P1 P2
      have HPI := Lib.hid hpi
      clear hpi
      go_wp2_with fail
      refine (T1.out _).mono ?_
      rintro e w1 ⟨rfl, hb⟩
      replace hx := hx.keep hb hx.lt
      replace hz := hz.keep hb hz.lt
      replace hown := hown.keep hb (Nat.le_refl _)
      replace hB := Below.trans hB (hb.mono hB.size)
      clear hb
      go_wp2_with fail
      refine (T2.out _).mono ?_
      rintro e w2 ⟨rfl, hb⟩
      replace hx := hx.keep hb hx.lt
      replace hz := hz.keep hb hz.lt
      replace hown := hown.keep hb (Nat.le_refl _)
      replace hB := Below.trans hB (hb.mono hB.size)
      clear hb
      go_wp2_with fail
      refine (T3.out _).mono ?_
      rintro e w3 ⟨rfl, hb⟩
      replace hx := hx.keep hb hx.lt
      replace hz := hz.keep hb hz.lt
      replace hown := hown.keep hb (Nat.le_refl _)
      replace hB := Below.trans hB (hb.mono hB.size)
      clear hb
      go_wp2_with fail
      refine (P1.out _).mono ?_
      rintro e w5 ⟨rfl, hb⟩
      replace hx := hx.keep hb hx.lt
      replace hz := hz.keep hb hz.lt
      replace hown := hown.keep hb (Nat.le_refl _)
      replace hB := Below.trans hB (hb.mono hB.size)
      clear hb
      go_wp2_with fail
      refine (P2.out _).mono ?_
      rintro e w6 ⟨rfl, hb⟩
      replace hx := hx.keep hb hx.lt
      replace hz := hz.keep hb hz.lt
      replace hown := hown.keep hb (Nat.le_refl _)
      replace hB := Below.trans hB (hb.mono hB.size)
      clear hb
      go_wp2_with fail
      refine (RD.out _).mono ?_
      rintro e w7 ⟨rfl, hb⟩
      replace hx := hx.keep hb hx.lt
      replace hz := hz.keep hb hz.lt
      replace hown := hown.keep hb (Nat.le_refl _)
      replace hB := Below.trans hB (hb.mono hB.size)
      clear hb
      clear T1 T2 T3 P1 P2 RD
      have hS7 : S + 1 <= w7.heap.size := hx.lt
      have hdt := Box.new w7 #[.int .i64 dy, .int .i64 dm, .int .i64 dd] 74
      have hia : Below w7.heap.size w7 (w7.alloc (.cells #[.int .i64 dy, .int .i64 dm, .int .i64 dd] 74)) := (Below.refl _ _).alloc (Nat.le_refl _) _
      replace hx := hx.keep hia hx.lt
      replace hz := hz.keep hia hz.lt
      have hob : ∀ g, (Value.slice oa acc.length oc).ownBlock = some g -> g < w7.heap.size := fun g hg => (World.ownsRow.lt hown g hg).2
      replace hown := hown.keep hia (Nat.le_refl _)
      replace hB := hB.trans (hia.mono hB.size)
      clear hia hSz
      cases a3 with
      | false =>
       have hO := HPn.out (HPI.out.trans (if_neg (by simp)))
       clear HPn HPs HPI hown HO HE HZ hul htl HDN hx hdt
       have z0 := hz.cell 0 _ rfl
       have z1 := hz.cell 1 _ rfl
       have z2 := hz.cell 2 _ rfl
       have f0 := hz.free 0
       have f1 := hz.free 1
       have f2 := hz.free 2
       go_wp2
       refine bodyPost_ret (results_fd2 rfl _ _ _ ⟨#[]⟩ ⟨#[]⟩ (.slice none 0 0) _ rfl rfl (put3it _ _ _ _ _ hz rfl)) rfl ?_
       exact ⟨ret_zero hO, hB.trans (below3it _ w.heap.size _ (Nat.le_refl _) _ _ _)⟩
      | true =>
       cases b3 with
       | false =>
        have hO := HPn.out (HPI.out.trans (if_neg (by simp)))
        clear HPn HPs HPI hown HO HE HZ hul htl HDN hx hdt
        have z0 := hz.cell 0 _ rfl
        have z1 := hz.cell 1 _ rfl
        have z2 := hz.cell 2 _ rfl
        have f0 := hz.free 0
        have f1 := hz.free 1
        have f2 := hz.free 2
        go_wp2
        refine bodyPost_ret (results_fd2 rfl _ _ _ ⟨#[]⟩ ⟨#[]⟩ (.slice none 0 0) _ rfl rfl (put3it _ _ _ _ _ hz rfl)) rfl ?_
        exact ⟨ret_zero hO, hB.trans (below3it _ w.heap.size _ (Nat.le_refl _) _ _ _)⟩
       | true =>
        cases c3 with
        | false =>
         have hO := HPn.out (HPI.out.trans (if_neg (by simp)))
         clear HPn HPs HPI hown HO HE HZ hul htl HDN hx hdt
         have z0 := hz.cell 0 _ rfl
         have z1 := hz.cell 1 _ rfl
         have z2 := hz.cell 2 _ rfl
         have f0 := hz.free 0
         have f1 := hz.free 1
         have f2 := hz.free 2
         go_wp2
         refine bodyPost_ret (results_fd2 rfl _ _ _ ⟨#[]⟩ ⟨#[]⟩ (.slice none 0 0) _ rfl rfl (put3it _ _ _ _ _ hz rfl)) rfl ?_
         exact ⟨ret_zero hO, hB.trans (below3it _ w.heap.size _ (Nat.le_refl _) _ _ _)⟩
        | true =>
         cases f1 with
         | false =>
          have hO := HPn.out (HPI.out.trans (if_neg (by simp)))
          clear HPn HPs HPI hown HO HE HZ hul htl HDN hx hdt
          have z0 := hz.cell 0 _ rfl
          have z1 := hz.cell 1 _ rfl
          have z2 := hz.cell 2 _ rfl
          have f0 := hz.free 0
          have f1 := hz.free 1
          have f2 := hz.free 2
          go_wp2
          refine bodyPost_ret (results_fd2 rfl _ _ _ ⟨#[]⟩ ⟨#[]⟩ (.slice none 0 0) _ rfl rfl (put3it _ _ _ _ _ hz rfl)) rfl ?_
          exact ⟨ret_zero hO, hB.trans (below3it _ w.heap.size _ (Nat.le_refl _) _ _ _)⟩
         | true =>
          cases f2 with
          | false =>
           have hO := HPn.out (HPI.out.trans (if_neg (by simp)))
           clear HPn HPs HPI hown HO HE HZ hul htl HDN hx hdt
           have z0 := hz.cell 0 _ rfl
           have z1 := hz.cell 1 _ rfl
           have z2 := hz.cell 2 _ rfl
           have f0 := hz.free 0
           have f1 := hz.free 1
           have f2 := hz.free 2
           go_wp2
           refine bodyPost_ret (results_fd2 rfl _ _ _ ⟨#[]⟩ ⟨#[]⟩ (.slice none 0 0) _ rfl rfl (put3it _ _ _ _ _ hz rfl)) rfl ?_
           exact ⟨ret_zero hO, hB.trans (below3it _ w.heap.size _ (Nat.le_refl _) _ _ _)⟩
          | true =>
           cases gg with
           | false =>
            have hO := HPn.out (HPI.out.trans (if_neg (by simp)))
            clear HPn HPs HPI hown HO HE HZ hul htl HDN hx hdt
            have z0 := hz.cell 0 _ rfl
            have z1 := hz.cell 1 _ rfl
            have z2 := hz.cell 2 _ rfl
            have f0 := hz.free 0
            have f1 := hz.free 1
            have f2 := hz.free 2
            go_wp2
            refine bodyPost_ret (results_fd2 rfl _ _ _ ⟨#[]⟩ ⟨#[]⟩ (.slice none 0 0) _ rfl rfl (put3it _ _ _ _ _ hz rfl)) rfl ?_
            exact ⟨ret_zero hO, hB.trans (below3it _ w.heap.size _ (Nat.le_refl _) _ _ _)⟩
           | true =>
            obtain ⟨hdn, q1, q2, q3, q4, q5, q6⟩ := HDN.out (by first | rfl | trivial)
            subst hdn
            obtain ⟨hpn, hsz, hlr⟩ := HPs.out _ _ (HPI.out.trans (if_pos (by simp)))
            dsimp only at hsz
            have HL7 := Lib.hid (fun w => l7Day_any dy dm dd w q1 q2 q3 q4 q5 q6)
            have HPN := Lib.hid hpn
            have HZ2 : Hid (∀ x ∈ acc ++ [(⟨bl pi, bl pj, dN dy dm dd⟩ : It)], x.id.size <= maxLen /\ x.ti.size <= maxLen) := Lib.hid (fun x hx => by
             rcases List.mem_append.1 hx with h | h
             ·exact HZ.out x h
             ·rw [List.mem_singleton.1 h]; exact hsz)
            clear HPn HPs hpn HZ hsz HPI HDN q1 q2 q3 q4 q5 q6 HO HE hul htl
            generalize dN dy dm dd = dn at HPN HZ2 HL7
            generalize bl pi = PI at HPN HZ2 ⊢
            generalize bl pj = PJ at HPN HZ2 ⊢
            go_wp2
            generalize w7.alloc (.cells #[.int .i64 dy, .int .i64 dm, .int .i64 dd] 74) = W8 at hx hz hown hB hdt ⊢
            generalize w7.heap.size = GD at hdt hS7 hob ⊢
            refine wp_region_T (fun _ => True) (fun v => Box v S #[.string U, .string T, .slice oa acc.length oc] 26 /\ Box v GD #[.int .i64 dy, .int .i64 dm, .int .i64 dd] 74) 10 (by kernel_rfl) 11 rfl ?_
            replace hx : Box W8.drew S _ _ := Box.drew hx
            replace hz : Box W8.drew w.heap.size _ _ := Box.drew hz
            replace hdt : Box W8.drew GD _ _ := Box.drew hdt
            replace hown := hown.drew
            replace hB := Below.drew hB
            generalize W8.drew = W9 at hx hz hdt hown hB ⊢
            refine wpAnyT_takesB (md := .any) 6 (by kernel_rfl) (by intro d v c a w h; cases d <;> exact h) [0, 1, 2, 3, 4] _ _ _ (by decide) (by kernel_rfl) (by kernel_rfl) (by kernel_rfl) ⟨trivial, fun _ => ⟨hx, hdt⟩⟩ ?_
            simp only [pick, List.filterMap_cons, List.filterMap_nil, List.getElem?_cons_zero, List.getElem?_cons_succ]
            refine wS (.pointer (some ⟨S, 2, none⟩)) (fun w hw => by go_simp) ?_
            refine wS (.slice oa acc.length oc) (fun w hw => by have j2 := hw.2.1.cell 2 _ rfl; go_simp) ?_
            refine wS (.string PI) (fun w hw => by go_simp) ?_
            refine wS (.string PJ) (fun w hw => by go_simp) ?_
            refine wS (.agg #[.int .i64 dy, .int .i64 dm, .int .i64 dd]) (fun w hw => by have j0 := hw.2.2.cell 0 _ rfl; have j1 := hw.2.2.cell 1 _ rfl; have j2 := hw.2.2.cell 2 _ rfl; go_simp) ?_
            refine wpIf_nil (fun hSx => ?_)
            clear hSx
            refine wO 5 5 (fun K hK => ?_)
            go_simp
            refine (HL7.out _).mono ?_
            rintro e w10 ⟨rfl, hb⟩
            replace hx := hx.keep hb hx.lt
            replace hz := hz.keep hb hz.lt
            replace hdt := hdt.keep hb hdt.lt
            replace hown := hown.keep hb (Nat.le_refl _)
            replace hB := Below.trans hB (hb.mono hB.size)
            clear hb HL7
            refine hK _ _ ⟨trivial, fun _ => ⟨hx, hdt⟩⟩ (fun hSx => ?_)
            clear hK K hSx
            refine wpAnyT_takesB (md := .any) 4 (by kernel_rfl) (by intro d v c a w h; cases d <;> exact h) [6] _ _ _ (by decide) (by kernel_rfl) (by kernel_rfl) (by kernel_rfl) ⟨trivial, fun _ => ⟨hx, hdt⟩⟩ ?_
            simp only [pick, List.filterMap_cons, List.filterMap_nil, List.getElem?_cons_zero, List.getElem?_cons_succ]
            refine wS (.agg #[.string PI, .string PJ, .int .i64 dn]) (fun w hw => by go_simp) ?_
            refine wpIf_nil (fun hSx => ?_)
            clear hSx
            refine wO 7 3 (fun K hK => ?_)
            go_simp
            have hOn := one_recT itC_len w10 55 (⟨PI, PJ, dn⟩ : It) #[.string PI, .string PJ, .int .i64 dn] rfl
            have hS10 : S + 1 <= w10.heap.size := hx.lt
            have hgl : w.heap.size < S + 1 := by omega
            replace hx := hx.alloc (.cells #[.string PI, .string PJ, .int .i64 dn] 55)
            replace hz := hz.alloc (.cells #[.string PI, .string PJ, .int .i64 dn] 55)
            replace hdt := hdt.alloc (.cells #[.string PI, .string PJ, .int .i64 dn] 55)
            replace hown := hown.alloc (.cells #[.string PI, .string PJ, .int .i64 dn] 55)
            replace hB := Below.alloc hB hB.size (.cells #[.string PI, .string PJ, .int .i64 dn] 55)
            have hs11 : S + 1 <= (w10.alloc (.cells #[.string PI, .string PJ, .int .i64 dn] 55)).heap.size := by simp; omega
            have hs12 : w10.heap.size + 1 = (w10.alloc (.cells #[.string PI, .string PJ, .int .i64 dn] 55)).heap.size := by simp
            refine hK _ _ ⟨trivial, fun _ => ⟨hx, hdt⟩⟩ (fun hSx => ?_)
            clear hK K hSx
            obtain ⟨v3, w11, hrun, hown1, hg1⟩ := appR_run (P := Tryz.prog) (t := 24) itC_len (by decide) Tryz.underlying24 Tryz.infoItR rfl (by decide) hown hOn (fun y _ => itC_one y) (by simp; omega) hs11 24
            have hgb : Below (S + 1) _ w11 := gb_BelowT hg1 hs11 (ownBlock_base hown)
            have hx7 := hx.keep hgb (Nat.lt_succ_self S)
            have hz7 := hz.keep hgb hgl
            have hdt8 : Box w11 GD #[.int .i64 dy, .int .i64 dm, .int .i64 dd] 74 := (hg1.block GD hdt.lt (fun e => by have := hob GD e.symm; omega)).trans hdt
            obtain ⟨oa1, oc1, rfl⟩ := hown1.slice
            generalize hn1 : (acc ++ [(⟨PI, PJ, dn⟩ : It)]).length = n1 at hown1 hrun
            clear hn1
            replace hB := hB.trans (hgb.mono (Nat.le_of_lt hgl))
            refine wO 8 2 (fun K hK => ?_)
            refine wp_appF 24 (.tmp 131) (.tmp 137) rfl _ _ (.slice oa1 n1 oc1) rfl rfl hrun ?_
            go_simp
            refine hK _ _ ⟨trivial, fun _ => ⟨hx7, hdt8⟩⟩ (fun hSx => ?_)
            clear hK K hSx hx hdt hz hrun hg1 hgb hown
            refine wpAnyT_takesB (md := .any) 1 (by kernel_rfl) (by intro d v c a w h; cases d <;> exact h) [9] _ _ _ (by decide) (by kernel_rfl) (by kernel_rfl) (by kernel_rfl) ⟨trivial, fun _ => ⟨hx7, hdt8⟩⟩ ?_
            simp only [pick, List.filterMap_cons, List.filterMap_nil, List.getElem?_cons_zero, List.getElem?_cons_succ]
            refine wS (.pointer (some ⟨S, 2, none⟩)) (fun w hw => by go_simp) ?_
            refine wpIf_nil (fun hSx => ?_)
            clear hSx hdt8
            have y2 := hx7.cell 2 _ rfl
            have g2 := hx7.free 2
            refine wO 10 0 (fun K hK => ?_)
            go_simp
            refine hK _ _ ⟨trivial, fun h => by cases h⟩ (fun hSx => ?_)
            clear hK K hSx y2 g2
            refine wpAnyT_over (by kernel_rfl) ?_
            have hS12 : S + 1 <= w11.heap.size := hx7.lt
            have hlt3 : w.heap.size < S := hwl
            have hx8 : Box (w11.setCell ⟨S, 2, none⟩ (.slice oa1 n1 oc1)) S #[.string U, .string T, .slice oa1 n1 oc1] 26 := hx7.set 2 (.slice oa1 n1 oc1)
            have hown8 := hown1.other ⟨S, 2, none⟩ (.slice oa1 n1 oc1) (Nat.lt_succ_self S)
            have hbe : Below S w11 (w11.setCell ⟨S, 2, none⟩ (.slice oa1 n1 oc1)) := (Below.refl _ _).setCell (p := ⟨S, 2, none⟩) (Nat.le_refl _) _
            have hz8 := hz7.keep hbe hlt3
            have hB8 := hB.trans (hbe.mono (Nat.le_of_lt hlt3))
            have hS13 : S + 1 <= (w11.setCell ⟨S, 2, none⟩ (.slice oa1 n1 oc1)).heap.size := by simpa using hS12
            clear hx7 hz7 hown1 hB hbe hob
            generalize w11.setCell ⟨S, 2, none⟩ (.slice oa1 n1 oc1) = W12 at hx8 hown8 hz8 hB8 hS13 ⊢
            go_wp2
            go_roundw
            case rel => exact ⟨bl c2, acc ++ [⟨PI, PJ, dn⟩], .slice oa1 n1 oc1, rfl, by rw [bl_size, List.length_append, List.length_singleton]; omega, HPN, HZ2, hx8, hown8, hz8, hB8, hS13⟩
            case measure => show c2.length < R.size; omega
end Go.Proofs.YtffkakpbelknaaaGreatDoor

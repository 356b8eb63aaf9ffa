/- Joined: W8q. -/
import Derived.Test.YtgimjfffdnopiaaDoorH30
import Derived.Test.YtgimjfffdnopiaaDoorH46
import Derived.Test.YtgimjfffdnopiaaDoorH47
/- W8q -/
namespace Go.Proofs.YtgimjfffdnopiaaDoor
open Go.ChangeShapes Go.WideShapes Go.ChangeAt Go.RowKit Go.Shelf
set_option linter.unusedVariables false
set_option linter.unusedSimpArgs false

theorem put3it (w : World) (g : Nat) (a b c : Value) {cs : Array Value} {t : TypeId} (h : Box w g cs t) (hz : cs.size = 3) : Box (((w.setCell ⟨g, 0, none⟩ a).setCell ⟨g, 1, none⟩ b).setCell ⟨g, 2, none⟩ c) g #[a, b, c] t := by
  obtain ⟨xs, rfl, hl⟩ := arrS hz
  exact Box.fillAll (us := [a, b, c]) h hl.symm
theorem below3it (w : World) (B g : Nat) (hB : B ≤ g) (a b c : Value) : Below B w (((w.setCell ⟨g, 0, none⟩ a).setCell ⟨g, 1, none⟩ b).setCell ⟨g, 2, none⟩ c) := below_putRow g B hB [a, b, c] 0 w
theorem Tryd.infItQ : (Tryd.prog.info? 71).map (·.size) = some 3 := by kernel_rfl
theorem results_cell3 {fn : Func} {p u v : Tmp} {ty : TypeId} (h : fn.results = #[.cell p ty, .tmp u, .tmp v]) (tmps : Array Value) (P : Program) (w : World) :
    (results fn tmps).run P w =
      ((asAddr (tmps.getD p undef)).run P w).andThen fun a w₁ => ((loadVar ty a).run P w₁).andThen fun x w₂ => .ok (.tuple #[x, tmps.getD u undef, tmps.getD v undef]) w₂ := by
  simp only [results, h]
  simp [Sem.run_bind, Result.andThen]
theorem results_it3 {fn : Func} {p u v : Tmp} (h : fn.results = #[.cell p 71, .tmp u, .tmp v]) (tmps : Array Value) (w : World) (g : Nat) (s t : ByteArray) (d : Int) (a b : Value)
    (hp : tmps.getD p undef = .pointer (some ⟨g, 0, none⟩)) (hu : tmps.getD u undef = a) (hv : tmps.getD v undef = b) (hA : Box w g #[.string s, .string t, .int .i64 d] 71) : (results fn tmps).run Tryd.prog w = .ok (.tuple #[itV s t d, a, b]) w := by
  have e := run_loadVar_row (P := Tryd.prog) w g _ 71 _ _ _ hA Tryd.underlying71 rfl Tryd.infItQ
  rw [results_cell3 h, hp, hu, hv]
  simp [asAddr, e, Result.andThen]
/-- What reading an item answers. -/
def RiOut (o : Option (It × List UInt8)) (e : Ending) : Prop := match o with
  | none => e = .returned (.tuple #[itV ⟨#[]⟩ ⟨#[]⟩ 0, .string ⟨#[]⟩, .bool false])
  | some (x, r) => e = .returned (.tuple #[itV x.id x.ti x.da, .string (bl r), .bool true])
theorem fld3_cases (f a b c l : List UInt8) : fldF f [a, b, c] l = none ∨ ∃ i d t r, fldF f [a, b, c] l = some ([i, d, t], r) := by
  unfold fldF
  split
  · rw [flds3]
    cases fld a (l.drop f.length) with
    | none => exact .inl rfl
    | some q1 =>
      rw [Option.bind_some]
      cases fld b q1.2 with
      | none => exact .inl rfl
      | some q2 =>
        rw [Option.bind_some]
        cases fld c q2.2 with
        | none => exact .inl rfl
        | some q3 => exact .inr ⟨_, _, _, _, rfl⟩
  · exact .inl rfl
theorem fld2_cases (f a b l : List UInt8) : fldF f [a, b] l = none ∨ ∃ u t r, fldF f [a, b] l = some ([u, t], r) := by
  unfold fldF
  split
  · rw [flds2]
    cases fld a (l.drop f.length) with
    | none => exact .inl rfl
    | some q1 =>
      rw [Option.bind_some]
      cases fld b q1.2 with
      | none => exact .inl rfl
      | some q2 => exact .inr ⟨_, _, _, rfl⟩
  · exact .inl rfl

set_option maxRecDepth 100000 in
set_option maxHeartbeats 2000000 in
theorem readItem_any (s : ByteArray) (w : World) (hs : s.size ≤ 4000) (hE : ETab w) (hX : XTab w) (hM : MTab w) :
    Calls Tryd.prog 60 #[.string s] w fun e w' => RiOut (pItem s.data.toList) e ∧ Below w.heap.size w w' := by
  obtain ⟨o, ho⟩ : ∃ o, o = pItem s.data.toList := ⟨_, rfl⟩
  rw [← ho]
  have hz := Box.new w #[.string ⟨#[]⟩, .string ⟨#[]⟩, .int .i64 0] 71
  have hb0 : Below w.heap.size w (w.alloc (.cells #[.string ⟨#[]⟩, .string ⟨#[]⟩, .int .i64 0] 71)) := (Below.refl _ _).alloc (Nat.le_refl _) _
  have hE1 := hE.below hb0 (Nat.le_refl _)
  have hX1 := hX.below hb0 (Nat.le_refl _)
  have hM1 := hM.below hb0 (Nat.le_refl _)
  clear hE hX hM
  generalize hW0 : w.alloc (.cells #[.string ⟨#[]⟩, .string ⟨#[]⟩, .int .i64 0] 71) = W0 at hz hb0 hE1 hX1 hM1
  have hrow := rowT_new W0 9 [iS2, iS3, iS4] (by decide) #[.string iS2, .string iS3, .string iS4] rfl
  have hb1 : Below W0.heap.size W0 (W0.alloc (.cells #[.string iS2, .string iS3, .string iS4] 9)) := (Below.refl _ _).alloc (Nat.le_refl _) _
  replace hz := hz.alloc (.cells #[.string iS2, .string iS3, .string iS4] 9)
  replace hE1 := hE1.below hb1 (Nat.le_refl _)
  replace hX1 := hX1.below hb1 (Nat.le_refl _)
  replace hM1 := hM1.below hb1 (Nat.le_refl _)
  replace hb0 := hb0.alloc hb0.size (.cells #[.string iS2, .string iS3, .string iS4] 9)
  clear hb1
  rw [← World.size_alloc W0 (.cells #[.string iS2, .string iS3, .string iS4] 9)] at hrow
  have HF := Lib.hid (fieldsOf_any s iS1 (.slice (some ⟨W0.heap.size, 0, none⟩) 3 3) [iS2, iS3, iS4] _ hs hrow (by decide) hE1 hX1)
  have HO : Hid (o = match fldF iL1 [iL2, iL3, iL4] s.data.toList with
    | some ([i, d, t], r) => if rdOk (bl d) = true then some (⟨bl i, bl t, dN (rY (bl d)) (rM (bl d)) (rD (bl d))⟩, r) else none
    | _ => none) := Lib.hid ho
  clear ho hrow hs
  go_enter Tryd.func60, Tryd.ntmps60
  go_wp2_with fail
  clear hW0
  generalize hW1 : W0.alloc (.cells #[.string iS2, .string iS3, .string iS4] 9) = W1 at HF hz hM1 hb0
  generalize W0.heap.size = G0 at HF ⊢
  have hW1' : W0.alloc (.cells #[.string ⟨#[34, 32, 100, 97, 116, 101, 61, 34]⟩, .string ⟨#[34, 62]⟩, .string ⟨#[60, 47, 105, 116, 101, 109, 62]⟩] 9) = W1 := hW1
  rw [hW1']
  clear hW1 hW1'
  refine HF.out.mono ?_
  rintro e w2 ⟨hff, hb2⟩
  replace hz := hz.keep hb2 hz.lt
  have hM2 := hM1.below hb2 (Nat.le_refl _)
  have hB := hb0.trans (hb2.mono hb0.size)
  clear hb2 hM1 hb0 HF
  have hff2 : FfOut W1.heap.size (fldF iL1 [iL2, iL3, iL4] s.data.toList) e w2 := hff
  clear hff
  rcases fld3_cases iL1 iL2 iL3 iL4 s.data.toList with hn | ⟨i, d, t, r, hsome⟩
  · rw [hn] at hff2 HO
    obtain rfl : e = .returned (.tuple #[.slice none 0 0, .string ⟨#[]⟩, .bool false]) := hff2
    have hO : RiOut o (.returned (.tuple #[itV ⟨#[]⟩ ⟨#[]⟩ 0, .string ⟨#[]⟩, .bool false])) := by rw [HO.out]; rfl
    clear hn HO
    have z0 := hz.cell 0 _ rfl
    have z1 := hz.cell 1 _ rfl
    have z2 := hz.cell 2 _ rfl
    have f0 := hz.free 0
    have f1 := hz.free 1
    have f2 := hz.free 2
    go_wp2
    refine bodyPost_ret (results_it3 rfl _ _ _ ⟨#[]⟩ ⟨#[]⟩ 0 _ _ rfl rfl rfl (put3it _ _ _ _ _ hz rfl)) rfl ?_
    exact ⟨hO, hB.trans (below3it _ w.heap.size _ (Nat.le_refl _) _ _ _)⟩
  · rw [hsome] at hff2 HO
    obtain ⟨v, rfl, hown⟩ := hff2
    have hrow : RecAt 1 txC w2 w2.heap.size v [bl i, bl d, bl t] := hown.at txC_len
    clear hsome hown
    obtain ⟨b, off, cap, hv, hbs, hc1⟩ := rowT_at hrow 1 (by simp)
    cases hv
    have hc1' : w2.cell? ⟨b, off + 1, none⟩ = some (.string (bl d)) := hc1
    have HR := Lib.hid (fun w h => implReadDate_any (bl d) w h)
    have HA : Hid (rdOk (bl d) = false → RiOut o (.returned (.tuple #[itV ⟨#[]⟩ ⟨#[]⟩ 0, .string ⟨#[]⟩, .bool false]))) := Lib.hid (fun h => by rw [HO.out]; simp only [h]; rfl)
    have HY : Hid (rdOk (bl d) = true → RiOut o (.returned (.tuple #[itV (bl i) (bl t) (dayR (rY (bl d)) (rM (bl d)) (rD (bl d))), .string (bl r), .bool true]))) := Lib.hid (fun h => by
      have e : dayR (rY (bl d)) (rM (bl d)) (rD (bl d)) = dN (rY (bl d)) (rM (bl d)) (rD (bl d)) := by unfold dayR; rw [if_pos ((rdOk_iff _).1 h).2.2.2]
      rw [HO.out, e]; simp only [h]; rfl)
    have HV1 : Hid (rdOk (bl d) = true → rdV (bl d) = .tuple #[dV (rY (bl d)) (rM (bl d)) (rD (bl d)), .bool true]) := Lib.hid (fun h => rdV_yes ((rdOk_iff _).1 h))
    have HV0 : Hid (rdOk (bl d) = false → rdV (bl d) = .tuple #[dV 0 0 0, .bool false]) := Lib.hid (fun h => rdV_not (fun hx => by rw [(rdOk_iff _).2 hx] at h; cases h))
    have HD := Lib.hid (fun w h => implDayOf_any (rY (bl d)) (rM (bl d)) (rD (bl d)) w h)
    clear HO hc1
    generalize dayR (rY (bl d)) (rM (bl d)) (rD (bl d)) = n at HY HD
    generalize rY (bl d) = y at HV1 HD
    generalize rM (bl d) = m at HV1 HD
    generalize rD (bl d) = dd at HV1 HD
    generalize rdV (bl d) = V at HR HV1 HV0
    generalize rdOk (bl d) = F at HA HY HV1 HV0
    generalize bl d = D at hrow hc1' HR
    generalize bl i = I at hrow HY
    generalize bl t = T at hrow HY
    go_wp2_with fail
    refine (HR.out _ hM2).mono ?_
    rintro e w3 ⟨rfl, hb3⟩
    replace hz := hz.keep hb3 hz.lt
    replace hM2 := hM2.below hb3 (Nat.le_refl _)
    replace hB := hB.trans (hb3.mono hB.size)
    replace hrow := (hrow.below hb3).mono hb3.size
    clear hb3 hc1' HR
    cases F with
    | false =>
      obtain rfl := HV0.out (by first | rfl | trivial)
      have hO := HA.out (by first | rfl | trivial)
      clear HA HY HV0 HV1 HD hrow
      replace hz := hz.alloc (.cells #[.int .i64 0, .int .i64 0, .int .i64 0] 25)
      replace hB := hB.alloc hB.size (.cells #[.int .i64 0, .int .i64 0, .int .i64 0] 25)
      have z0 := hz.cell 0 _ rfl
      have z1 := hz.cell 1 _ rfl
      have z2 := hz.cell 2 _ rfl
      have f0 := hz.free 0
      have f1 := hz.free 1
      have f2 := hz.free 2
      go_wp2
      refine bodyPost_ret (results_it3 rfl _ _ _ ⟨#[]⟩ ⟨#[]⟩ 0 _ _ rfl rfl rfl (put3it _ _ _ _ _ hz rfl)) rfl ?_
      exact ⟨hO, hB.trans (below3it _ w.heap.size _ (Nat.le_refl _) _ _ _)⟩
    | true =>
      obtain rfl := HV1.out (by first | rfl | trivial)
      have hO := HY.out (by first | rfl | trivial)
      have hdt := Box.new w3 #[.int .i64 y, .int .i64 m, .int .i64 dd] 25
      have hb1 : Below w3.heap.size w3 (w3.alloc (.cells #[.int .i64 y, .int .i64 m, .int .i64 dd] 25)) := (Below.refl _ _).alloc (Nat.le_refl _) _
      have hlt3 : w.heap.size < w3.heap.size := hz.lt
      replace hrow := (hrow.below hb1).mono hb1.size
      replace hM2 := hM2.below hb1 (Nat.le_refl _)
      replace hz := hz.keep hb1 hz.lt
      replace hB := hB.trans (hb1.mono hB.size)
      clear HA HY HV0 HV1 hb1 hbs
      go_wp2
      generalize w3.alloc (.cells #[.int .i64 y, .int .i64 m, .int .i64 dd] 25) = W4 at hdt hrow hM2 hz hB ⊢
      generalize w3.heap.size = G8 at hdt hlt3 ⊢
      have hS4 : ∃ S, S = W4.heap.size := ⟨_, rfl⟩
      obtain ⟨S, hS⟩ := hS4
      rw [← hS] at hrow
      refine wp_region_T (fun _ => True) (fun v => RecAt 1 txC v S (.slice (some ⟨b, off, none⟩) 3 cap) [I, D, T] ∧ Box v G8 #[.int .i64 y, .int .i64 m, .int .i64 dd] 25) 10 (by kernel_rfl) 13 rfl ?_
      replace hrow : RecAt 1 txC W4.drew S (.slice (some ⟨b, off, none⟩) 3 cap) [I, D, T] := hrow
      replace hdt : Box W4.drew G8 _ _ := Box.drew hdt
      replace hz : Box W4.drew w.heap.size _ _ := Box.drew hz
      replace hM2 := hM2.drewN 1
      replace hB := Below.drew hB
      refine wpAnyT_takesA (md := .any) 12 (by kernel_rfl) (by intro d v c a w h; cases d <;> exact h) [9] _ _ _ (by decide) (by kernel_rfl) ⟨trivial, fun _ => ⟨hrow, hdt⟩⟩ ?_
      simp only [pick, List.filterMap_cons, List.filterMap_nil, List.getElem?_cons_zero, List.getElem?_cons_succ]
      refine wpIf_step (.string (bl r)) (by kernel_rfl) (fun w _ => by go_simp) ?_
      refine wpIf_nil (fun hSx => ?_)
      clear hSx
      refine wpAnyT_takesB (md := .any) 5 (by kernel_rfl) (by intro d v c a w h; cases d <;> exact h) [0, 1, 2, 3, 4, 5, 6] _ _ _ (by decide) (by kernel_rfl) (by kernel_rfl) (by kernel_rfl) ⟨trivial, fun _ => ⟨hrow, hdt⟩⟩ ?_
      simp only [pick, List.filterMap_cons, List.filterMap_nil, List.getElem?_cons_zero, List.getElem?_cons_succ]
      refine wpIf_step (.slice (some ⟨b, off, none⟩) 3 cap) (by kernel_rfl) (fun w _ => by go_simp) ?_
      refine wpIf_step (.pointer (some ⟨b, off, none⟩)) (by kernel_rfl) (fun w _ => by go_simp) ?_
      refine wpIf_step (.string I) (by kernel_rfl) (fun w hw => by obtain ⟨b', o', c', hv, _, hc⟩ := rowT_at hw.2.1 0 (by simp); cases hv; have hc2 : w.cell? ⟨b, off, none⟩ = some (.string I) := hc; go_simp) ?_
      refine wpIf_step (.slice (some ⟨b, off, none⟩) 3 cap) (by kernel_rfl) (fun w _ => by go_simp) ?_
      refine wpIf_step (.pointer (some ⟨b, off + 2, none⟩)) (by kernel_rfl) (fun w _ => by go_simp) ?_
      refine wpIf_step (.string T) (by kernel_rfl) (fun w hw => by obtain ⟨b', o', c', hv, _, hc⟩ := rowT_at hw.2.1 2 (by simp); cases hv; have hc2 : w.cell? ⟨b, off + 2, none⟩ = some (.string T) := hc; go_simp) ?_
      refine wpIf_step (.agg #[.int .i64 y, .int .i64 m, .int .i64 dd]) (by kernel_rfl) (fun w hw => by have j0 := hw.2.2.cell 0 _ rfl; have j1 := hw.2.2.cell 1 _ rfl; have j2 := hw.2.2.cell 2 _ rfl; go_simp) ?_
      refine wpIf_nil (fun hSx => ?_)
      clear hSx
      refine wpAnyT_one 7 4 (by kernel_rfl) rfl (by kernel_rfl) (fun K hK => ?_)
      go_simp
      refine (HD.out _ hM2).mono ?_
      rintro e w5 ⟨rfl, hb5⟩
      have hle5 : S ≤ W4.drew.heap.size := by rw [hS]; exact Nat.le_refl _
      replace hrow := hrow.below (hb5.mono hle5)
      replace hdt := hdt.keep hb5 hdt.lt
      replace hz := hz.keep hb5 hz.lt
      replace hB := Below.trans hB (hb5.mono hB.size)
      clear hb5 hM2 HD hle5
      refine hK _ _ ⟨trivial, fun _ => ⟨hrow, hdt⟩⟩ (fun hSx => ?_)
      clear hK K hSx
      refine wpAnyT_takesB (md := .any) 3 (by kernel_rfl) (by intro d v c a w h; cases d <;> exact h) [8] _ _ _ (by decide) (by kernel_rfl) (by kernel_rfl) (by kernel_rfl) ⟨trivial, fun _ => ⟨hrow, hdt⟩⟩ ?_
      simp only [pick, List.filterMap_cons, List.filterMap_nil, List.getElem?_cons_zero, List.getElem?_cons_succ]
      refine wpIf_step (.agg #[.string I, .string T, .int .i64 n]) (by kernel_rfl) (fun w _ => by go_simp) ?_
      refine wpIf_nil (fun hSx => ?_)
      clear hSx
      have z0 := hz.cell 0 _ rfl
      have z1 := hz.cell 1 _ rfl
      have z2 := hz.cell 2 _ rfl
      have f0 := hz.free 0
      have f1 := hz.free 1
      have f2 := hz.free 2
      refine wpAnyT_one 10 2 (by kernel_rfl) rfl (by kernel_rfl) (fun K hK => ?_)
      go_simp
      refine hK _ _ ⟨trivial, fun h => by cases h⟩ (fun hSx => ?_)
      clear hK K hSx
      refine wpAnyT_one 11 1 (by kernel_rfl) rfl (by kernel_rfl) (fun K hK => ?_)
      go_simp
      refine hK _ _ ⟨trivial, fun h => by cases h⟩ (fun hSx => ?_)
      clear hK K hSx
      refine wpAnyT_one 12 0 (by kernel_rfl) rfl (by kernel_rfl) (fun K hK => ?_)
      go_simp
      refine hK _ _ ⟨trivial, fun h => by cases h⟩ (fun hSx => ?_)
      clear hK K hSx
      refine wpAnyT_over (by kernel_rfl) ?_
      go_wp2
      refine bodyPost_ret (results_it3 rfl _ _ _ I T n _ _ rfl rfl rfl (put3it _ _ _ _ _ hz rfl)) rfl ?_
      exact ⟨hO, hB.trans (below3it _ w.heap.size _ (Nat.le_refl _) _ _ _)⟩
end Go.Proofs.YtgimjfffdnopiaaDoor

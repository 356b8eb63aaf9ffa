/- Joined: W8q, W8r. -/
import Derived.Test.YtffkakpbelknaaaGreatDoorF23
import Derived.Test.YtffkakpbelknaaaGreatDoorF26
import Derived.Test.YtffkakpbelknaaaGreatDoorF46
import Derived.Test.YtffkakpbelknaaaGreatDoorF47
/- W8q -/
namespace Go.Proofs.YtffkakpbelknaaaGreatDoor
open Go.ChangeShapes Go.WideShapes Go.ChangeAt Go.RowKit Go.Shelf
set_option linter.unusedVariables false
set_option linter.unusedSimpArgs false

theorem put3it (w : World) (g : Nat) (a b c : Value) {cs : Array Value} {t : TypeId} (h : Box w g cs t) (hz : cs.size = 3) : Box (((w.setCell ⟨g, 0, none⟩ a).setCell ⟨g, 1, none⟩ b).setCell ⟨g, 2, none⟩ c) g #[a, b, c] t := by
  obtain ⟨xs, rfl, hl⟩ := arrS hz
  exact Box.fillAll (us := [a, b, c]) h hl.symm
theorem below3it (w : World) (B g : Nat) (hB : B ≤ g) (a b c : Value) : Below B w (((w.setCell ⟨g, 0, none⟩ a).setCell ⟨g, 1, none⟩ b).setCell ⟨g, 2, none⟩ c) := below_putRow g B hB [a, b, c] 0 w
theorem Tryz.infItQ : (Tryz.prog.info? 55).map (·.size) = some 3 := by kernel_rfl
theorem results_cell3 {fn : Func} {p u v : Tmp} {ty : TypeId} (h : fn.results = #[.cell p ty, .tmp u, .tmp v]) (tmps : Array Value) (P : Program) (w : World) :
    (results fn tmps).run P w =
      ((asAddr (tmps.getD p undef)).run P w).andThen fun a w₁ => ((loadVar ty a).run P w₁).andThen fun x w₂ => .ok (.tuple #[x, tmps.getD u undef, tmps.getD v undef]) w₂ := by
  simp only [results, h]
  simp [Sem.run_bind, Result.andThen]
theorem results_it3 {fn : Func} {p u v : Tmp} (h : fn.results = #[.cell p 55, .tmp u, .tmp v]) (tmps : Array Value) (w : World) (g : Nat) (s t : ByteArray) (d : Int) (a b : Value)
    (hp : tmps.getD p undef = .pointer (some ⟨g, 0, none⟩)) (hu : tmps.getD u undef = a) (hv : tmps.getD v undef = b) (hA : Box w g #[.string s, .string t, .int .i64 d] 55) : (results fn tmps).run Tryz.prog w = .ok (.tuple #[itV s t d, a, b]) w := by
  have e := run_loadVar_row (P := Tryz.prog) w g _ 55 _ _ _ hA Tryz.underlying55 rfl Tryz.infItQ
  rw [results_cell3 h, hp, hu, hv]
  simp [asAddr, e, Result.andThen]
/-- What reading an item answers. -/
def RiOut (o : Option (It × List UInt8)) (e : Ending) : Prop := match o with
  | none => e = .returned (.tuple #[itV ⟨#[]⟩ ⟨#[]⟩ 0, .string ⟨#[]⟩, .bool false])
  | some (x, r) => e = .returned (.tuple #[itV x.id x.ti x.da, .string (bl r), .bool true])
theorem fld3_cases (f a b c l : List UInt8) : fldF f [a, b, c] l = none ∨ ∃ i d t r, fldF f [a, b, c] l = some ([i, d, t], r) := by
  unfold fldF
  split
  · rw [flds3]
    cases fld a (l.drop f.length) with
    | none => exact .inl rfl
    | some q1 =>
      rw [Option.bind_some]
      cases fld b q1.2 with
      | none => exact .inl rfl
      | some q2 =>
        rw [Option.bind_some]
        cases fld c q2.2 with
        | none => exact .inl rfl
        | some q3 => exact .inr ⟨_, _, _, _, rfl⟩
  · exact .inl rfl
theorem fld2_cases (f a b l : List UInt8) : fldF f [a, b] l = none ∨ ∃ u t r, fldF f [a, b] l = some ([u, t], r) := by
  unfold fldF
  split
  · rw [flds2]
    cases fld a (l.drop f.length) with
    | none => exact .inl rfl
    | some q1 =>
      rw [Option.bind_some]
      cases fld b q1.2 with
      | none => exact .inl rfl
      | some q2 => exact .inr ⟨_, _, _, rfl⟩
  · exact .inl rfl

set_option maxRecDepth 100000 in
set_option maxHeartbeats 2000000 in
theorem readItem_any (s : ByteArray) (w : World) (hs : s.size ≤ 4000) (hE : ETab w) (hX : XTab w) (hM : MTab w) :
    Calls Tryz.prog 36 #[.string s] w fun e w' => RiOut (pItem s.data.toList) e ∧ Below w.heap.size w w' := by
  obtain ⟨o, ho⟩ : ∃ o, o = pItem s.data.toList := ⟨_, rfl⟩
  rw [← ho]
  have hz := Box.new w #[.string ⟨#[]⟩, .string ⟨#[]⟩, .int .i64 0] 55
  have hb0 : Below w.heap.size w (w.alloc (.cells #[.string ⟨#[]⟩, .string ⟨#[]⟩, .int .i64 0] 55)) := (Below.refl _ _).alloc (Nat.le_refl _) _
  have hE1 := hE.below hb0 (Nat.le_refl _)
  have hX1 := hX.below hb0 (Nat.le_refl _)
  have hM1 := hM.below hb0 (Nat.le_refl _)
  clear hE hX hM
  generalize hW0 : w.alloc (.cells #[.string ⟨#[]⟩, .string ⟨#[]⟩, .int .i64 0] 55) = W0 at hz hb0 hE1 hX1 hM1
  have hrow := rowT_new W0 9 [iS2, iS3, iS4] (by decide) #[.string iS2, .string iS3, .string iS4] rfl
  have hb1 : Below W0.heap.size W0 (W0.alloc (.cells #[.string iS2, .string iS3, .string iS4] 9)) := (Below.refl _ _).alloc (Nat.le_refl _) _
  replace hz := hz.alloc (.cells #[.string iS2, .string iS3, .string iS4] 9)
  replace hE1 := hE1.below hb1 (Nat.le_refl _)
  replace hX1 := hX1.below hb1 (Nat.le_refl _)
  replace hM1 := hM1.below hb1 (Nat.le_refl _)
  replace hb0 := hb0.alloc hb0.size (.cells #[.string iS2, .string iS3, .string iS4] 9)
  clear hb1
  rw [← World.size_alloc W0 (.cells #[.string iS2, .string iS3, .string iS4] 9)] at hrow
  have HF := Lib.hid (fieldsOf_any s iS1 (.slice (some ⟨W0.heap.size, 0, none⟩) 3 3) [iS2, iS3, iS4] _ hs hrow (by decide) hE1 hX1)
  have HO : Hid (o = match fldF iL1 [iL2, iL3, iL4] s.data.toList with
    | some ([i, d, t], r) => if rdOk (bl d) = true then some (⟨bl i, bl t, dN (rY (bl d)) (rM (bl d)) (rD (bl d))⟩, r) else none
    | _ => none) := Lib.hid ho
  clear ho hrow hs
  go_enter Tryz.func36, Tryz.ntmps36
  go_wp2_with fail
  clear hW0
  generalize hW1 : W0.alloc (.cells #[.string iS2, .string iS3, .string iS4] 9) = W1 at HF hz hM1 hb0
  generalize W0.heap.size = G0 at HF ⊢
  have hW1' : W0.alloc (.cells #[.string ⟨#[34, 32, 100, 97, 116, 101, 61, 34]⟩, .string ⟨#[34, 62]⟩, .string ⟨#[60, 47, 105, 116, 101, 109, 62]⟩] 9) = W1 := hW1
  rw [hW1']
  clear hW1 hW1'
  refine HF.out.mono ?_
  rintro e w2 ⟨hff, hb2⟩
  replace hz := hz.keep hb2 hz.lt
  have hM2 := hM1.below hb2 (Nat.le_refl _)
  have hB := hb0.trans (hb2.mono hb0.size)
  clear hb2 hM1 hb0 HF
  have hff2 : FfOut W1.heap.size (fldF iL1 [iL2, iL3, iL4] s.data.toList) e w2 := hff
  clear hff
  rcases fld3_cases iL1 iL2 iL3 iL4 s.data.toList with hn | ⟨i, d, t, r, hsome⟩
  · rw [hn] at hff2 HO
    obtain rfl : e = .returned (.tuple #[.slice none 0 0, .string ⟨#[]⟩, .bool false]) := hff2
    have hO : RiOut o (.returned (.tuple #[itV ⟨#[]⟩ ⟨#[]⟩ 0, .string ⟨#[]⟩, .bool false])) := by rw [HO.out]; rfl
    clear hn HO
    have z0 := hz.cell 0 _ rfl
    have z1 := hz.cell 1 _ rfl
    have z2 := hz.cell 2 _ rfl
    have f0 := hz.free 0
    have f1 := hz.free 1
    have f2 := hz.free 2
    go_wp2
    refine bodyPost_ret (results_it3 rfl _ _ _ ⟨#[]⟩ ⟨#[]⟩ 0 _ _ rfl rfl rfl (put3it _ _ _ _ _ hz rfl)) rfl ?_
    exact ⟨hO, hB.trans (below3it _ w.heap.size _ (Nat.le_refl _) _ _ _)⟩
  · rw [hsome] at hff2 HO
    obtain ⟨v, rfl, hown⟩ := hff2
    have hrow : RecAt 1 txC w2 w2.heap.size v [bl i, bl d, bl t] := hown.at txC_len
    clear hsome hown
    obtain ⟨b, off, cap, hv, hbs, hc1⟩ := rowT_at hrow 1 (by simp)
    cases hv
    have hc1' : w2.cell? ⟨b, off + 1, none⟩ = some (.string (bl d)) := hc1
    have HR := Lib.hid (fun w h => implReadDate_any (bl d) w h)
    have HA : Hid (rdOk (bl d) = false → RiOut o (.returned (.tuple #[itV ⟨#[]⟩ ⟨#[]⟩ 0, .string ⟨#[]⟩, .bool false]))) := Lib.hid (fun h => by rw [HO.out]; simp only [h]; rfl)
    have HY : Hid (rdOk (bl d) = true → RiOut o (.returned (.tuple #[itV (bl i) (bl t) (dayR (rY (bl d)) (rM (bl d)) (rD (bl d))), .string (bl r), .bool true]))) := Lib.hid (fun h => by
      have e : dayR (rY (bl d)) (rM (bl d)) (rD (bl d)) = dN (rY (bl d)) (rM (bl d)) (rD (bl d)) := by unfold dayR; rw [if_pos ((rdOk_iff _).1 h).2.2.2]
      rw [HO.out, e]; simp only [h]; rfl)
    have HV1 : Hid (rdOk (bl d) = true → rdV (bl d) = .tuple #[dV (rY (bl d)) (rM (bl d)) (rD (bl d)), .bool true]) := Lib.hid (fun h => rdV_yes ((rdOk_iff _).1 h))
    have HV0 : Hid (rdOk (bl d) = false → rdV (bl d) = .tuple #[dV 0 0 0, .bool false]) := Lib.hid (fun h => rdV_not (fun hx => by rw [(rdOk_iff _).2 hx] at h; cases h))
    have HD := Lib.hid (fun w h => implDayOf_any (rY (bl d)) (rM (bl d)) (rD (bl d)) w h)
    clear HO hc1
    generalize dayR (rY (bl d)) (rM (bl d)) (rD (bl d)) = n at HY HD
    generalize rY (bl d) = y at HV1 HD
    generalize rM (bl d) = m at HV1 HD
    generalize rD (bl d) = dd at HV1 HD
    generalize rdV (bl d) = V at HR HV1 HV0
    generalize rdOk (bl d) = F at HA HY HV1 HV0
    generalize bl d = D at hrow hc1' HR
    generalize bl i = I at hrow HY
    generalize bl t = T at hrow HY
    go_wp2_with fail
    refine (HR.out _ hM2).mono ?_
    rintro e w3 ⟨rfl, hb3⟩
    replace hz := hz.keep hb3 hz.lt
    replace hM2 := hM2.below hb3 (Nat.le_refl _)
    replace hB := hB.trans (hb3.mono hB.size)
    replace hrow := (hrow.below hb3).mono hb3.size
    clear hb3 hc1' HR
    cases F with
    | false =>
      obtain rfl := HV0.out (by first | rfl | trivial)
      have hO := HA.out (by first | rfl | trivial)
      clear HA HY HV0 HV1 HD hrow
      replace hz := hz.alloc (.cells #[.int .i64 0, .int .i64 0, .int .i64 0] 74)
      replace hB := hB.alloc hB.size (.cells #[.int .i64 0, .int .i64 0, .int .i64 0] 74)
      have z0 := hz.cell 0 _ rfl
      have z1 := hz.cell 1 _ rfl
      have z2 := hz.cell 2 _ rfl
      have f0 := hz.free 0
      have f1 := hz.free 1
      have f2 := hz.free 2
      go_wp2
      refine bodyPost_ret (results_it3 rfl _ _ _ ⟨#[]⟩ ⟨#[]⟩ 0 _ _ rfl rfl rfl (put3it _ _ _ _ _ hz rfl)) rfl ?_
      exact ⟨hO, hB.trans (below3it _ w.heap.size _ (Nat.le_refl _) _ _ _)⟩
    | true =>
      obtain rfl := HV1.out (by first | rfl | trivial)
      have hO := HY.out (by first | rfl | trivial)
      have hdt := Box.new w3 #[.int .i64 y, .int .i64 m, .int .i64 dd] 74
      have hb1 : Below w3.heap.size w3 (w3.alloc (.cells #[.int .i64 y, .int .i64 m, .int .i64 dd] 74)) := (Below.refl _ _).alloc (Nat.le_refl _) _
      have hlt3 : w.heap.size < w3.heap.size := hz.lt
      replace hrow := (hrow.below hb1).mono hb1.size
      replace hM2 := hM2.below hb1 (Nat.le_refl _)
      replace hz := hz.keep hb1 hz.lt
      replace hB := hB.trans (hb1.mono hB.size)
      clear HA HY HV0 HV1 hb1 hbs
      go_wp2
      generalize w3.alloc (.cells #[.int .i64 y, .int .i64 m, .int .i64 dd] 74) = W4 at hdt hrow hM2 hz hB ⊢
      generalize w3.heap.size = G8 at hdt hlt3 ⊢
      have hS4 : ∃ S, S = W4.heap.size := ⟨_, rfl⟩
      obtain ⟨S, hS⟩ := hS4
      rw [← hS] at hrow
      refine wp_region_T (fun _ => True) (fun v => RecAt 1 txC v S (.slice (some ⟨b, off, none⟩) 3 cap) [I, D, T] ∧ Box v G8 #[.int .i64 y, .int .i64 m, .int .i64 dd] 74) 10 (by kernel_rfl) 13 rfl ?_
      replace hrow : RecAt 1 txC W4.drew S (.slice (some ⟨b, off, none⟩) 3 cap) [I, D, T] := hrow
      replace hdt : Box W4.drew G8 _ _ := Box.drew hdt
      replace hz : Box W4.drew w.heap.size _ _ := Box.drew hz
      replace hM2 := hM2.drewN 1
      replace hB := Below.drew hB
      refine wpAnyT_takesA (md := .any) 12 (by kernel_rfl) (by intro d v c a w h; cases d <;> exact h) [9] _ _ _ (by decide) (by kernel_rfl) ⟨trivial, fun _ => ⟨hrow, hdt⟩⟩ ?_
      simp only [pick, List.filterMap_cons, List.filterMap_nil, List.getElem?_cons_zero, List.getElem?_cons_succ]
      refine wpIf_step (.string (bl r)) (by kernel_rfl) (fun w _ => by go_simp) ?_
      refine wpIf_nil (fun hSx => ?_)
      clear hSx
      refine wpAnyT_takesB (md := .any) 5 (by kernel_rfl) (by intro d v c a w h; cases d <;> exact h) [0, 1, 2, 3, 4, 5, 6] _ _ _ (by decide) (by kernel_rfl) (by kernel_rfl) (by kernel_rfl) ⟨trivial, fun _ => ⟨hrow, hdt⟩⟩ ?_
      simp only [pick, List.filterMap_cons, List.filterMap_nil, List.getElem?_cons_zero, List.getElem?_cons_succ]
      refine wpIf_step (.slice (some ⟨b, off, none⟩) 3 cap) (by kernel_rfl) (fun w _ => by go_simp) ?_
      refine wpIf_step (.pointer (some ⟨b, off, none⟩)) (by kernel_rfl) (fun w _ => by go_simp) ?_
      refine wpIf_step (.string I) (by kernel_rfl) (fun w hw => by obtain ⟨b', o', c', hv, _, hc⟩ := rowT_at hw.2.1 0 (by simp); cases hv; have hc2 : w.cell? ⟨b, off, none⟩ = some (.string I) := hc; go_simp) ?_
      refine wpIf_step (.slice (some ⟨b, off, none⟩) 3 cap) (by kernel_rfl) (fun w _ => by go_simp) ?_
      refine wpIf_step (.pointer (some ⟨b, off + 2, none⟩)) (by kernel_rfl) (fun w _ => by go_simp) ?_
      refine wpIf_step (.string T) (by kernel_rfl) (fun w hw => by obtain ⟨b', o', c', hv, _, hc⟩ := rowT_at hw.2.1 2 (by simp); cases hv; have hc2 : w.cell? ⟨b, off + 2, none⟩ = some (.string T) := hc; go_simp) ?_
      refine wpIf_step (.agg #[.int .i64 y, .int .i64 m, .int .i64 dd]) (by kernel_rfl) (fun w hw => by have j0 := hw.2.2.cell 0 _ rfl; have j1 := hw.2.2.cell 1 _ rfl; have j2 := hw.2.2.cell 2 _ rfl; go_simp) ?_
      refine wpIf_nil (fun hSx => ?_)
      clear hSx
      refine wpAnyT_one 7 4 (by kernel_rfl) rfl (by kernel_rfl) (fun K hK => ?_)
      go_simp
      refine (HD.out _ hM2).mono ?_
      rintro e w5 ⟨rfl, hb5⟩
      have hle5 : S ≤ W4.drew.heap.size := by rw [hS]; exact Nat.le_refl _
      replace hrow := hrow.below (hb5.mono hle5)
      replace hdt := hdt.keep hb5 hdt.lt
      replace hz := hz.keep hb5 hz.lt
      replace hB := Below.trans hB (hb5.mono hB.size)
      clear hb5 hM2 HD hle5
      refine hK _ _ ⟨trivial, fun _ => ⟨hrow, hdt⟩⟩ (fun hSx => ?_)
      clear hK K hSx
      refine wpAnyT_takesB (md := .any) 3 (by kernel_rfl) (by intro d v c a w h; cases d <;> exact h) [8] _ _ _ (by decide) (by kernel_rfl) (by kernel_rfl) (by kernel_rfl) ⟨trivial, fun _ => ⟨hrow, hdt⟩⟩ ?_
      simp only [pick, List.filterMap_cons, List.filterMap_nil, List.getElem?_cons_zero, List.getElem?_cons_succ]
      refine wpIf_step (.agg #[.string I, .string T, .int .i64 n]) (by kernel_rfl) (fun w _ => by go_simp) ?_
      refine wpIf_nil (fun hSx => ?_)
      clear hSx
      have z0 := hz.cell 0 _ rfl
      have z1 := hz.cell 1 _ rfl
      have z2 := hz.cell 2 _ rfl
      have f0 := hz.free 0
      have f1 := hz.free 1
      have f2 := hz.free 2
      refine wpAnyT_one 10 2 (by kernel_rfl) rfl (by kernel_rfl) (fun K hK => ?_)
      go_simp
      refine hK _ _ ⟨trivial, fun h => by cases h⟩ (fun hSx => ?_)
      clear hK K hSx
      refine wpAnyT_one 11 1 (by kernel_rfl) rfl (by kernel_rfl) (fun K hK => ?_)
      go_simp
      refine hK _ _ ⟨trivial, fun h => by cases h⟩ (fun hSx => ?_)
      clear hK K hSx
      refine wpAnyT_one 12 0 (by kernel_rfl) rfl (by kernel_rfl) (fun K hK => ?_)
      go_simp
      refine hK _ _ ⟨trivial, fun h => by cases h⟩ (fun hSx => ?_)
      clear hK K hSx
      refine wpAnyT_over (by kernel_rfl) ?_
      go_wp2
      refine bodyPost_ret (results_it3 rfl _ _ _ I T n _ _ rfl rfl rfl (put3it _ _ _ _ _ hz rfl)) rfl ?_
      exact ⟨hO, hB.trans (below3it _ w.heap.size _ (Nat.le_refl _) _ _ _)⟩
end Go.Proofs.YtffkakpbelknaaaGreatDoor

/- W8r -/
namespace Go.Proofs.YtffkakpbelknaaaGreatDoor
open Go.ChangeShapes Go.WideShapes Go.ChangeAt Go.RowKit Go.Shelf
set_option linter.unusedVariables false
set_option linter.unusedSimpArgs false

theorem Tryz.infFdR : (Tryz.prog.info? 26).map (·.size) = some 3 := by kernel_rfl
theorem Tryz.infoItR : (Tryz.prog.info? 55).map (fun i => (i.zero, i.size, i.bytes)) = some (some (.agg #[.string ByteArray.empty, .string ByteArray.empty, .int .i64 0]), 3, 40) := by kernel_rfl
theorem itC_one (x : It) : ∀ u ∈ itC x, u.oneCell' = true := by
  intro u hu
  simp only [itC, List.mem_cons, List.not_mem_nil, or_false] at hu
  rcases hu with rfl | rfl | rfl <;> rfl
theorem results_fd2 {fn : Func} {p u : Tmp} (h : fn.results = #[.cell p 26, .tmp u]) (tmps : Array Value) (w : World) (g : Nat) (s t : ByteArray) (v b : Value)
    (hp : tmps.getD p undef = .pointer (some ⟨g, 0, none⟩)) (hu : tmps.getD u undef = b) (hA : Box w g #[.string s, .string t, v] 26) : (results fn tmps).run Tryz.prog w = .ok (.tuple #[fV s t v, b]) w := by
  have e := run_loadVar_row (P := Tryz.prog) w g _ 26 _ _ _ hA Tryz.underlying26 rfl Tryz.infFdR
  rw [results_cell_tmp h, hp, hu]
  simp [asAddr, e, Result.andThen]
/-- What reading a feed answers. -/
def RfOut (S : Nat) (o : Option FdD) (e : Ending) (w' : World) : Prop := match o with
  | none => e = .returned (.tuple #[fV ⟨#[]⟩ ⟨#[]⟩ (.slice none 0 0), .bool false])
  | some f => ∃ v, e = .returned (.tuple #[fV f.u f.t v, .bool true]) ∧ OwnR 55 3 itC w' S v f.its
theorem pItem_sz {l : List UInt8} {x : It} {r : List UInt8} (h : pItem l = some (x, r)) (hl : l.length ≤ 4000) : (x.id.size ≤ maxLen ∧ x.ti.size ≤ maxLen) ∧ r.length + 1 ≤ l.length := by
  have h0 := pItem_less h
  have e := (pItem_some h).1
  have e2 := congrArg List.length e
  unfold itTL at e2
  simp only [List.length_append] at e2
  have h1 := plain_len x.id.data.toList
  have h2 := plain_len x.ti.data.toList
  have k1 : x.id.data.toList.length = x.id.size := by simp
  have k2 : x.ti.data.toList.length = x.ti.size := by simp
  unfold maxLen
  exact ⟨⟨by omega, by omega⟩, by omega⟩
theorem ret_pair {o : Option FdD} {S : Nat} {w' : World} {f : FdD} {v : Value} (ho : o = some f) (h : OwnR 55 3 itC w' S v f.its) : RfOut S o (.returned (.tuple #[fV f.u f.t v, .bool true])) w' := by
  rw [ho]; exact ⟨v, rfl, h⟩
theorem ret_zero {o : Option FdD} {S : Nat} {w' : World} (ho : o = none) : RfOut S o (.returned (.tuple #[fV ⟨#[]⟩ ⟨#[]⟩ (.slice none 0 0), .bool false])) w' := by
  rw [ho]; rfl
theorem OwnR.offF {α : Type} {k : Nat} {C : α → List Value} {e : TypeId} {w : World} {base : Nat} {v : Value} {l : List α} (h : OwnR e k C w base v l) (p : Addr) (x : Value) (hp : v.ownBlock ≠ some p.block) : OwnR e k C (w.setCell p x) base v l := by
  refine ⟨h.1, ?_⟩
  rcases h.2 with hn | ⟨g, cap, cur, rfl, hb', hg, rest⟩
  · exact .inl hn
  · refine .inr ⟨g, cap, cur, rfl, hb', ?_, rest⟩
    rw [Below.heap_setCell _ _ _ _ (fun h2 => hp (by rw [← h2]; rfl))]
    exact hg
theorem str_neF {a b : ByteArray} (h : a.data.toList ≠ b.data.toList) : (a.toList == b.toList) = false := by
  rw [ByteArray.toList_eq, ByteArray.toList_eq]
  simpa using h

set_option maxRecDepth 100000 in
set_option maxHeartbeats 4000000 in
theorem implReadFeed_any (s : ByteArray) (w : World) (hE : ETab w) (hX : XTab w) (hM : MTab w) :
    Calls Tryz.prog 9 #[.string s] w fun e w' => RfOut w.heap.size (rdF s) e w' ∧ Below w.heap.size w w' := by
  obtain ⟨o, ho⟩ : ∃ o, o = rdF s := ⟨_, rfl⟩
  rw [← ho]
  have hz := Box.new w #[.string ⟨#[]⟩, .string ⟨#[]⟩, .slice none 0 0] 26
  have hB : Below w.heap.size w (w.alloc (.cells #[.string ⟨#[]⟩, .string ⟨#[]⟩, .slice none 0 0] 26)) := (Below.refl _ _).alloc (Nat.le_refl _) _
  have HE := Lib.hid hE
  have HX := Lib.hid hX
  have HM := Lib.hid hM
  clear hE hX hM
  by_cases hs : s.size ≤ 4000
  case neg =>
    have hO : o = none := by rw [ho]; exact rdF_long hs
    have hsI : (4000 : Int) < (s.size : Int) := by omega
    clear hs
    go_enter Tryz.func9, Tryz.ntmps9
    have z0 := hz.cell 0 _ rfl
    have z1 := hz.cell 1 _ rfl
    have z2 := hz.cell 2 _ rfl
    have f0 := hz.free 0
    have f1 := hz.free 1
    have f2 := hz.free 2
    go_wp2
    refine bodyPost_ret (results_fd2 rfl _ _ _ ⟨#[]⟩ ⟨#[]⟩ (.slice none 0 0) _ rfl rfl hz) rfl ?_
    exact ⟨ret_zero hO, hB⟩
  have hsI : ¬ (4000 : Int) < (s.size : Int) := by omega
  generalize hW0 : w.alloc (.cells #[.string ⟨#[]⟩, .string ⟨#[]⟩, .slice none 0 0] 26) = W0 at hz hB
  have hrow := rowT_new W0 9 [(⟨#[34, 62, 60, 116, 105, 116, 108, 101, 62]⟩ : ByteArray), ⟨#[60, 47, 116, 105, 116, 108, 101, 62]⟩] (by decide) #[.string ⟨#[34, 62, 60, 116, 105, 116, 108, 101, 62]⟩, .string ⟨#[60, 47, 116, 105, 116, 108, 101, 62]⟩] rfl
  have hb1 : Below W0.heap.size W0 (W0.alloc (.cells #[.string ⟨#[34, 62, 60, 116, 105, 116, 108, 101, 62]⟩, .string ⟨#[60, 47, 116, 105, 116, 108, 101, 62]⟩] 9)) := (Below.refl _ _).alloc (Nat.le_refl _) _
  replace hz := hz.alloc (.cells #[.string ⟨#[34, 62, 60, 116, 105, 116, 108, 101, 62]⟩, .string ⟨#[60, 47, 116, 105, 116, 108, 101, 62]⟩] 9)
  replace hB := hB.alloc hB.size (.cells #[.string ⟨#[34, 62, 60, 116, 105, 116, 108, 101, 62]⟩, .string ⟨#[60, 47, 116, 105, 116, 108, 101, 62]⟩] 9)
  clear hb1
  rw [← World.size_alloc W0 (.cells #[.string ⟨#[34, 62, 60, 116, 105, 116, 108, 101, 62]⟩, .string ⟨#[60, 47, 116, 105, 116, 108, 101, 62]⟩] 9)] at hrow
  have HF := Lib.hid (fieldsOf_any s ⟨#[60, 102, 101, 101, 100, 32, 117, 114, 108, 61, 34]⟩ (.slice (some ⟨W0.heap.size, 0, none⟩) 2 2) [(⟨#[34, 62, 60, 116, 105, 116, 108, 101, 62]⟩ : ByteArray), ⟨#[60, 47, 116, 105, 116, 108, 101, 62]⟩] _ hs hrow (by decide) (HE.out.below hB (Nat.le_refl _)) (HX.out.below hB (Nat.le_refl _)))
  have HN : Hid (fldF fS0 [fS1, fS2] s.data.toList = none → o = none) := Lib.hid (fun h => by rw [ho]; refine rdF_head ?_; unfold pHead; rw [h])
  have HS : Hid (∀ u t r, fldF fS0 [fS1, fS2] s.data.toList = some ([u, t], r) → r.length ≤ 4000 ∧ (bl u).size ≤ maxLen ∧ (bl t).size ≤ maxLen ∧ o = (pItems r).bind fun its => if fdB (bl u) (bl t) its = true then some ⟨bl u, bl t, its⟩ else none) := Lib.hid (fun u t r h => by
    have hp : pHead s.data.toList = some (u, t, r) := by unfold pHead; rw [h]
    have e := congrArg List.length (pHead_some hp).1
    simp only [List.length_append] at e
    have k0 : s.data.toList.length = s.size := by simp
    have k1 := plain_len u
    have k2 := plain_len t
    refine ⟨by omega, ?_, ?_, by rw [ho]; exact rdF_items hs hp⟩
    · rw [bl_size]; unfold maxLen; omega
    · rw [bl_size]; unfold maxLen; omega)
  clear ho hrow hs
  go_enter Tryz.func9, Tryz.ntmps9
  go_wp2_with fail
  clear hW0
  generalize W0.alloc (.cells #[.string ⟨#[34, 62, 60, 116, 105, 116, 108, 101, 62]⟩, .string ⟨#[60, 47, 116, 105, 116, 108, 101, 62]⟩] 9) = W1 at HF hz hB ⊢
  generalize W0.heap.size = G0 at HF ⊢
  refine HF.out.mono ?_
  rintro e w2 ⟨hff, hb2⟩
  replace hz := hz.keep hb2 hz.lt
  replace hB := hB.trans (hb2.mono hB.size)
  clear hb2 HF
  have hff2 : FfOut W1.heap.size (fldF fS0 [fS1, fS2] s.data.toList) e w2 := hff
  clear hff
  rcases fld2_cases fS0 fS1 fS2 s.data.toList with hn | ⟨u, t, rr, hsome⟩
  · have hO := HN.out hn
    rw [hn] at hff2
    obtain rfl : e = .returned (.tuple #[.slice none 0 0, .string ⟨#[]⟩, .bool false]) := hff2
    clear hn HN HS
    have z0 := hz.cell 0 _ rfl
    have z1 := hz.cell 1 _ rfl
    have z2 := hz.cell 2 _ rfl
    have f0 := hz.free 0
    have f1 := hz.free 1
    have f2 := hz.free 2
    go_wp2
    refine bodyPost_ret (results_fd2 rfl _ _ _ ⟨#[]⟩ ⟨#[]⟩ (.slice none 0 0) _ rfl rfl (put3it _ _ _ _ _ hz rfl)) rfl ?_
    exact ⟨ret_zero hO, hB.trans (below3it _ w.heap.size _ (Nat.le_refl _) _ _ _)⟩
  ·
    obtain ⟨hrl, hul, htl, hO⟩ := HS.out u t rr hsome
    rw [hsome] at hff2
    obtain ⟨v, rfl, hown⟩ := hff2
    have hrow : RecAt 1 txC w2 w2.heap.size v [bl u, bl t] := hown.at txC_len
    clear hsome hown HN HS
    obtain ⟨bb, off, cap, hv, hbs, hc1⟩ := rowT_at hrow 1 (by simp)
    cases hv
    clear hc1 hbs
    have HO := Lib.hid hO
    clear hO
    generalize bl u = U at hrow hul HO
    generalize bl t = T at hrow htl HO
    go_wp2
    have hlt2 : w.heap.size < w2.heap.size := hz.lt
    obtain ⟨S, hS⟩ : ∃ S, S = w2.heap.size := ⟨_, rfl⟩
    rw [← hS] at hlt2
    have hrow2 : RecAt 1 txC w2.drew S (.slice (some ⟨bb, off, none⟩) 2 cap) [U, T] := by rw [hS]; exact hrow
    clear hrow
    replace hz : Box w2.drew w.heap.size _ _ := Box.drew hz
    replace hB := Below.drew hB
    refine wp_region_T (fun _ => True) (fun v => RecAt 1 txC v S (.slice (some ⟨bb, off, none⟩) 2 cap) [U, T]) 8 (by kernel_rfl) 9 rfl ?_
    have hSd : S = w2.drew.heap.size := hS
    clear hS
    generalize w2.drew = Wd at hrow2 hz hB hSd ⊢
    refine wpAnyT_takesB (md := .any) 2 (by kernel_rfl) (by intro d v c a w h; cases d <;> exact h) [0, 1, 2, 3, 4, 5, 6] _ _ _ (by decide) (by kernel_rfl) (by kernel_rfl) (by kernel_rfl) ⟨trivial, fun _ => hrow2⟩ ?_
    simp only [pick, List.filterMap_cons, List.filterMap_nil, List.getElem?_cons_zero, List.getElem?_cons_succ]
    refine wpIf_step (.slice (some ⟨bb, off, none⟩) 2 cap) (by kernel_rfl) (fun w _ => by go_simp) ?_
    refine wpIf_step (.pointer (some ⟨bb, off, none⟩)) (by kernel_rfl) (fun w _ => by go_simp) ?_
    refine wpIf_step (.string U) (by kernel_rfl) (fun w hw => by obtain ⟨b', o', c', hv, _, hc⟩ := rowT_at hw.2 0 (by simp); cases hv; have hc2 : w.cell? ⟨bb, off, none⟩ = some (.string U) := hc; go_simp) ?_
    refine wpIf_step (.slice (some ⟨bb, off, none⟩) 2 cap) (by kernel_rfl) (fun w _ => by go_simp) ?_
    refine wpIf_step (.pointer (some ⟨bb, off + 1, none⟩)) (by kernel_rfl) (fun w _ => by go_simp) ?_
    refine wpIf_step (.string T) (by kernel_rfl) (fun w hw => by obtain ⟨b', o', c', hv, _, hc⟩ := rowT_at hw.2 1 (by simp); cases hv; have hc2 : w.cell? ⟨bb, off + 1, none⟩ = some (.string T) := hc; go_simp) ?_
    refine wpIf_step (.agg #[.string U, .string T, .slice none 0 0]) (by kernel_rfl) (fun w _ => by go_simp) ?_
    refine wpIf_nil (fun hSx => ?_)
    clear hSx
    refine wpAnyT_one 7 1 (by kernel_rfl) rfl (by kernel_rfl) (fun K hK => ?_)
    go_simp
    have hb3 : Below Wd.heap.size Wd (Wd.alloc (.cells #[.string ⟨#[]⟩, .string ⟨#[]⟩, .slice none 0 0] 26)) := (Below.refl _ _).alloc (Nat.le_refl _) _
    have hx := Box.new Wd #[.string ⟨#[]⟩, .string ⟨#[]⟩, .slice none 0 0] 26
    replace hz := hz.keep hb3 hz.lt
    replace hrow2 := hrow2.below (hb3.mono (by rw [hSd]; exact Nat.le_refl _))
    replace hB := Below.trans hB (hb3.mono hB.size)
    refine hK _ _ ⟨trivial, fun _ => hrow2⟩ (fun hSx => ?_)
    clear hK K hSx hb3
    rw [← hSd] at hx ⊢
    have hlt3 : w.heap.size < S := hlt2
    clear hSd hlt2
    generalize Wd.alloc (.cells #[.string ⟨#[]⟩, .string ⟨#[]⟩, .slice none 0 0] 26) = W3 at hz hrow2 hB hx ⊢
    have x0 := hx.cell 0 _ rfl
    have x1 := hx.cell 1 _ rfl
    have x2 := hx.cell 2 _ rfl
    have g0 := hx.free 0
    have g1 := hx.free 1
    have g2 := hx.free 2
    refine wpAnyT_one 8 0 (by kernel_rfl) rfl (by kernel_rfl) (fun K hK => ?_)
    go_simp
    have hx2 := put3it W3 S (.string U) (.string T) (.slice none 0 0) hx rfl
    have hb3 := below3it W3 S S (Nat.le_refl _) (.string U) (.string T) (.slice none 0 0)
    have hSl : S < W3.heap.size := hx.lt
    replace hz := hz.keep hb3 hlt3
    replace hB := hB.trans (hb3.mono (Nat.le_of_lt hlt3))
    clear hx hb3 x0 x1 x2 g0 g1 g2 hrow2
    refine hK _ _ ⟨trivial, fun h => by cases h⟩ (fun hSx => ?_)
    clear hK K hSx
    refine wpAnyT_over (by kernel_rfl) ?_
    have hSz : S + 1 ≤ ((((W3.setCell ⟨S, 0, none⟩ (.string U)).setCell ⟨S, 1, none⟩ (.string T)).setCell ⟨S, 2, none⟩ (.slice none 0 0))).heap.size := by simp; omega
    generalize (((W3.setCell ⟨S, 0, none⟩ (.string U)).setCell ⟨S, 1, none⟩ (.string T)).setCell ⟨S, 2, none⟩ (.slice none 0 0)) = W4 at hz hB hx2 hSz ⊢
    clear hSl
    have hw0 := OwnR.nil (k := 3) (C := itC) 55 W4 (S + 1)
    go_wp2
    go_loopw [5] (fun r wr => ∃ (R : ByteArray) (acc : List It) (v : Value), r = .string R ∧ R.size + acc.length ≤ 4000 ∧ Hid (pItems rr = (pItems R.data.toList).map (fun z => acc ++ z)) ∧ Hid (∀ x ∈ acc, x.id.size ≤ maxLen ∧ x.ti.size ≤ maxLen) ∧ Box wr S #[.string U, .string T, v] 26 ∧ OwnR 55 3 itC wr (S + 1) v acc ∧ Box wr w.heap.size #[.string ⟨#[]⟩, .string ⟨#[]⟩, .slice none 0 0] 26 ∧ Below w.heap.size w wr ∧ S + 1 ≤ wr.heap.size) (fun r _ => match r with | .string b => b.size | _ => 0)
    case atStart => exact ⟨bl rr, [], _, rfl, by rw [bl_size]; simpa using hrl, Lib.hid (by simp), Lib.hid (by simp), hx2, hw0, hz, hB, hSz⟩
    case round =>
      clear hx2 hw0 hz hB hSz hrl
      obtain ⟨R, acc, v, rfl, hRs, HP, HZ, hx, hown, hz, hB, hSz⟩ := hrel
      obtain ⟨oa, oc, rfl⟩ := hown.slice
      by_cases hend : R.data.toList = fS3
      case pos =>
        obtain rfl : R = ⟨#[60, 47, 102, 101, 101, 100, 62]⟩ := by rw [← bl_back R, hend]; rfl
        have HOe : Hid (o = if fdB U T acc = true then some ⟨U, T, acc⟩ else none) := Lib.hid (by
          have h1 := HP.out
          rw [hend, pItems_end, Option.map_some, List.append_nil] at h1
          rw [HO.out, h1, Option.bind_some])
        have HC := Lib.hid (implFeedOk_any U T (.slice oa acc.length oc) acc wr hul htl ⟨hown.at itC_len, HZ.out⟩)
        clear HP HO HZ hRs hend hul htl
        generalize fdB U T acc = F at HOe HC
        have x0 := hx.cell 0 _ rfl
        have x1 := hx.cell 1 _ rfl
        have x2 := hx.cell 2 _ rfl
        go_wp2_with fail
        clear x0 x1 x2
        refine HC.out.mono ?_
        rintro e w5 ⟨rfl, hb5⟩
        replace hx := hx.keep hb5 hx.lt
        replace hz := hz.keep hb5 hz.lt
        replace hown := hown.keep hb5 (Nat.le_refl _)
        replace hB := hB.trans (hb5.mono hB.size)
        clear hb5 HC
        cases F with
        | false =>
          have hO : o = none := HOe.out
          clear hown HOe
          have z0 := hz.cell 0 _ rfl
          have z1 := hz.cell 1 _ rfl
          have z2 := hz.cell 2 _ rfl
          have f0 := hz.free 0
          have f1 := hz.free 1
          have f2 := hz.free 2
          go_wp2
          refine bodyPost_ret (results_fd2 rfl _ _ _ ⟨#[]⟩ ⟨#[]⟩ (.slice none 0 0) _ rfl rfl (put3it _ _ _ _ _ hz rfl)) rfl ?_
          exact ⟨ret_zero hO, hB.trans (below3it _ w.heap.size _ (Nat.le_refl _) _ _ _)⟩
        | true =>
          have hO : o = some ⟨U, T, acc⟩ := HOe.out
          have hown2 := ((hown.other ⟨w.heap.size, 0, none⟩ (.string U) (show w.heap.size < S + 1 by omega)).other ⟨w.heap.size, 1, none⟩ (.string T) (show w.heap.size < S + 1 by omega)).other ⟨w.heap.size, 2, none⟩ (.slice oa acc.length oc) (show w.heap.size < S + 1 by omega)
          replace hown2 := hown2.base_mono (show w.heap.size ≤ S + 1 by omega)
          have hne1 : w.heap.size ≠ S := by omega
          clear HOe
          have x0 := hx.cell 0 _ rfl
          have x1 := hx.cell 1 _ rfl
          have x2 := hx.cell 2 _ rfl
          have z0 := hz.cell 0 _ rfl
          have z1 := hz.cell 1 _ rfl
          have z2 := hz.cell 2 _ rfl
          have f0 := hz.free 0
          have f1 := hz.free 1
          have f2 := hz.free 2
          go_wp2
          refine bodyPost_ret (results_fd2 rfl _ _ _ U T (.slice oa acc.length oc) _ rfl rfl (put3it _ _ _ _ _ hz rfl)) rfl ?_
          exact ⟨ret_pair hO hown2, hB.trans (below3it _ w.heap.size _ (Nat.le_refl _) _ _ _)⟩
      have hne : (R.toList == [60, 47, 102, 101, 101, 100, 62]) = false := by rw [ByteArray.toList_eq]; exact beq_eq_false_iff_ne.2 hend
      have HPn : Hid (pItem R.data.toList = none → o = none) := Lib.hid (fun h => by
        have h1 := HP.out
        rw [pItems_none hend h] at h1
        rw [HO.out, h1]; rfl)
      have HPs : Hid (∀ x r, pItem R.data.toList = some (x, r) → (pItems rr = (pItems r).map (fun z => (acc ++ [x]) ++ z)) ∧ (x.id.size ≤ maxLen ∧ x.ti.size ≤ maxLen) ∧ r.length + 1 ≤ R.size) := Lib.hid (fun x r h => by
        have k2 : R.data.toList.length = R.size := by simp
        have h2 := pItem_sz h (by omega)
        refine ⟨?_, h2.1, by omega⟩
        rw [HP.out, pItems_cons hend h, Option.map_map]
        congr 1
        funext z
        simp)
      have HI := Lib.hid (fun w h1 h2 h3 => readItem_any R w (by omega) h1 h2 h3)
      clear HP hend
      have hit := Box.new wr #[.string ⟨#[]⟩, .string ⟨#[]⟩, .int .i64 0] 55
      have hia : Below wr.heap.size wr (wr.alloc (.cells #[.string ⟨#[]⟩, .string ⟨#[]⟩, .int .i64 0] 55)) := (Below.refl _ _).alloc (Nat.le_refl _) _
      replace hx := hx.keep hia hx.lt
      replace hz := hz.keep hia hz.lt
      have hob : ∀ g, (Value.slice oa acc.length oc).ownBlock = some g → g < wr.heap.size := fun g hg => (World.ownsRow.lt hown g hg).2
      replace hown := hown.keep hia (Nat.le_refl _)
      replace hB := hB.trans (hia.mono hB.size)
      clear hia
      go_wp2_with fail
      have hSg : S + 1 ≤ wr.heap.size := hSz
      generalize wr.alloc (.cells #[.string ⟨#[]⟩, .string ⟨#[]⟩, .int .i64 0] 55) = W5 at hit hx hz hown hB ⊢
      generalize wr.heap.size = gI at hit hSg hob ⊢
      have hobn : (Value.slice oa acc.length oc).ownBlock ≠ some gI := fun h => by have := hob gI h; omega
      clear hob
      clear hSz
      refine (HI.out _ (HE.out.below hB (Nat.le_refl _)) (HX.out.below hB (Nat.le_refl _)) (HM.out.below hB (Nat.le_refl _))).mono ?_
      rintro e w6 ⟨hri, hb6⟩
      replace hx := hx.keep hb6 hx.lt
      replace hz := hz.keep hb6 hz.lt
      replace hit := hit.keep hb6 hit.lt
      replace hown := hown.keep hb6 (Nat.le_refl _)
      replace hB := hB.trans (hb6.mono hB.size)
      clear hb6 HI
      have hgl : gI < w6.heap.size := hit.lt
      have i0 := hit.cell 0 _ rfl
      have i1 := hit.cell 1 _ rfl
      have i2 := hit.cell 2 _ rfl
      have j0 := hit.free 0
      have j1 := hit.free 1
      have j2 := hit.free 2
      rcases hpi : pItem R.data.toList with _ | ⟨⟨xi, xt, xd⟩, r2⟩
      · rw [hpi] at hri
        obtain rfl : e = .returned (.tuple #[itV ⟨#[]⟩ ⟨#[]⟩ 0, .string ⟨#[]⟩, .bool false]) := hri
        have hO := HPn.out hpi
        clear HPn HPs hpi hown HO HZ
        have hzb := below3it w6 gI gI (Nat.le_refl _) (.string ⟨#[]⟩) (.string ⟨#[]⟩) (.int .i64 0)
        have hwI : w.heap.size < gI := by omega
        replace hz := hz.keep hzb hwI
        replace hB := hB.trans (hzb.mono (Nat.le_of_lt hwI))
        clear hzb
        have z0 := hz.cell 0 _ rfl
        have z1 := hz.cell 1 _ rfl
        have z2 := hz.cell 2 _ rfl
        have f0 := hz.free 0
        have f1 := hz.free 1
        have f2 := hz.free 2
        go_wp2
        refine bodyPost_ret (results_fd2 rfl _ _ _ ⟨#[]⟩ ⟨#[]⟩ (.slice none 0 0) _ rfl rfl (put3it _ _ _ _ _ hz rfl)) rfl ?_
        exact ⟨ret_zero hO, hB.trans (below3it _ w.heap.size _ (Nat.le_refl _) _ _ _)⟩
      · rw [hpi] at hri
        obtain ⟨hpn, hsz, hlr⟩ := HPs.out _ _ hpi
        obtain rfl : e = .returned (.tuple #[itV xi xt xd, .string (bl r2), .bool true]) := hri
        dsimp only at hsz
        have HPN := Lib.hid hpn
        have HZ2 : Hid (∀ x ∈ acc ++ [⟨xi, xt, xd⟩], x.id.size ≤ maxLen ∧ x.ti.size ≤ maxLen) := Lib.hid (fun x hx => by
          rcases List.mem_append.1 hx with h | h
          · exact HZ.out x h
          · rw [List.mem_singleton.1 h]; exact hsz)
        clear HPn HPs hpi hpn HZ hsz hne
        have hzb := below3it w6 gI gI (Nat.le_refl _) (.string xi) (.string xt) (.int .i64 xd)
        have hit2 := put3it w6 gI (.string xi) (.string xt) (.int .i64 xd) hit rfl
        have hwI : w.heap.size < gI := by omega
        replace hz := hz.keep hzb hwI
        replace hx := hx.keep hzb (show S < gI by omega)
        replace hB := hB.trans (hzb.mono (Nat.le_of_lt hwI))
        clear hzb
        replace hown := ((hown.offF ⟨gI, 0, none⟩ (.string xi) hobn).offF ⟨gI, 1, none⟩ (.string xt) hobn).offF ⟨gI, 2, none⟩ (.int .i64 xd) hobn
        have HO2 := Lib.hid (hown.alloc (.cells #[.string xi, .string xt, .int .i64 xd] 55))
        have HOn : Hid (RecAt 3 itC ((((w6.setCell ⟨gI, 0, none⟩ (.string xi)).setCell ⟨gI, 1, none⟩ (.string xt)).setCell ⟨gI, 2, none⟩ (.int .i64 xd)).alloc (.cells #[.string xi, .string xt, .int .i64 xd] 55)) (w6.heap.size + 1) (.slice (some ⟨w6.heap.size, 0, none⟩) 1 1) [(⟨xi, xt, xd⟩ : It)]) := Lib.hid (by
          have := one_recT itC_len (((w6.setCell ⟨gI, 0, none⟩ (.string xi)).setCell ⟨gI, 1, none⟩ (.string xt)).setCell ⟨gI, 2, none⟩ (.int .i64 xd)) 55 (⟨xi, xt, xd⟩ : It) #[.string xi, .string xt, .int .i64 xd] rfl
          simpa using this)
        have k0 := hit2.cell 0 _ rfl
        have k1 := hit2.cell 1 _ rfl
        have k2 := hit2.cell 2 _ rfl
        have x2 := hx.cell 2 _ rfl
        have HXx := Lib.hid (hx.alloc (.cells #[.string xi, .string xt, .int .i64 xd] 55))
        have HZz := Lib.hid (hz.alloc (.cells #[.string xi, .string xt, .int .i64 xd] 55))
        have HBb := Lib.hid (hB.alloc hB.size (.cells #[.string xi, .string xt, .int .i64 xd] 55))
        have hszS : S + 1 ≤ w6.heap.size := by omega
        clear hown hx hz hB hit hit2
        go_wp2_with (at_builtin; refine wpList_appR itC_len (by decide) Tryz.underlying24 Tryz.infoItR rfl (by decide) rfl (.tmp 42) (.tmp 44) rfl (S + 1) (w6.heap.size + 1) _ _ _ [(⟨xi, xt, xd⟩ : It)] rfl rfl HO2.out HOn.out (fun y _ => itC_one y) (by simp; omega) (by simp; omega) ?_; intro v1 w7 hown1 hg1; have hgb := gb_BelowT hg1 (show S + 1 ≤ _ by simp; omega) (ownBlock_base HO2.out); obtain ⟨oa1, oc1, rfl⟩ := hown1.slice; generalize hn1 : (acc ++ [(⟨xi, xt, xd⟩ : It)]).length = n1 at hown1 ⊢; clear hn1; have hx7 := HXx.out.keep hgb (Nat.lt_succ_self S); have y2 := hx7.cell 2 _ rfl; have g2 := hx7.free 2)
        have hz7 := HZz.out.keep hgb (show w.heap.size < S + 1 by omega)
        have hB7 := HBb.out.trans (hgb.mono (show w.heap.size ≤ S + 1 by omega))
        have hS7 : S + 1 ≤ w7.heap.size := hx7.lt
        have hx8 : Box (w7.setCell ⟨S, 2, none⟩ (.slice oa1 n1 oc1)) S #[.string U, .string T, .slice oa1 n1 oc1] 26 := hx7.set 2 (.slice oa1 n1 oc1)
        have hown8 := hown1.other ⟨S, 2, none⟩ (.slice oa1 n1 oc1) (Nat.lt_succ_self S)
        have hbe : Below S w7 (w7.setCell ⟨S, 2, none⟩ (.slice oa1 n1 oc1)) := (Below.refl _ _).setCell (p := ⟨S, 2, none⟩) (Nat.le_refl _) _
        have hz8 := hz7.keep hbe hlt3
        have hB8 := hB7.trans (hbe.mono (Nat.le_of_lt hlt3))
        clear hx7 y2 g2 hz7 hB7 hown1 hg1 hgb hbe HO2 HOn HXx HZz HBb
        go_roundw
        case rel => exact ⟨bl r2, acc ++ [⟨xi, xt, xd⟩], .slice oa1 n1 oc1, rfl, by rw [bl_size, List.length_append, List.length_singleton]; omega, HPN, HZ2, hx8, hown8, hz8, hB8, by simpa using hS7⟩
        case measure => show r2.length < R.size; omega
end Go.Proofs.YtffkakpbelknaaaGreatDoor

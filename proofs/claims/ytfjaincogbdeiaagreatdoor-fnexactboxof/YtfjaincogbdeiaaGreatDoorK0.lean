/- Joined: V12a. -/
import Derived.Test.YtfjaincogbdeiaaGreatDoorH47
/- V12a -/
namespace Go.Proofs.YtfjaincogbdeiaaGreatDoor
open Go.ChangeShapes Go.WideShapes Go.ChangeAt Go.RowKit
set_option linter.unusedVariables false

theorem OutO.at12 {o : OpD} {w w' : World} {x : Value} (h : OwnR 81 3 itC w' w.heap.size x o.its) (hs : ∀ x ∈ o.its, x.id.size ≤ maxLen ∧ x.ti.size ≤ maxLen) (hz : OpSz o) : OpAt w' (opV o x) o := ⟨x, rfl, ItAt.of_own h hs, hz⟩

set_option maxRecDepth 100000 in
set_option maxHeartbeats 1600000 in
theorem walk_FnExactBoxOf (key : ByteArray) (n : Int) (last : ByteArray) (v : Value) (o : OpD) (w : World) (hk : key.size ≤ maxLen) (hn0 : (Lit.int .i64 n).wf = true) (hl : last.size ≤ maxLen) (h : OpAt w v o) (hT : TabsB w) :
    Calls Tryz.prog 3 #[.string key, .int .i64 n, .string last, v] w fun e w' => e = .returned (.bool true) ∧ Below w.heap.size w w' := by
  have HI := Lib.hid h
  obtain ⟨x, rfl, hi, hz⟩ := h
  have HZ := Lib.hid hz
  clear hz
  have HTb := Lib.hid hT
  clear hT
  have HFi := Lib.hid (fun x w h hT => implBoxOf_any key n last o x w hk hl h HZ.out hT)
  have HFs := Lib.hid (fun x w h => specBoxOf_any key n last o x w hk hl h HZ.out)
  generalize bxR key n last o = R at HFi HFs
  unfold maxLen at hk hl
  clear hn0
  have HS := Lib.hid hi.2
  have hb0 : Below w.heap.size w (w.alloc (.cells #[.int .i64 o.k, .string o.u, .string o.i, .int .i64 o.d, .string o.fu, .string o.ft, x] 26)) := (Below.refl _ _).alloc (Nat.le_refl _) _
  have hx0 := Box.new w #[.int .i64 o.k, .string o.u, .string o.i, .int .i64 o.d, .string o.fu, .string o.ft, x] 26
  have HA0 := Lib.hid (HI.out.below hb0)
  clear hi HI
  rcases Nat.lt_or_ge 1048576 key.size with hql | hql
  · have hqd : decide ((1048576 : Int) < (key.size : Int)) = true := decide_eq_true (by omega)
    go_enter Tryz.func3, Tryz.ntmps3
    go_wp2
    go_ret
    exact ⟨rfl, hb0⟩
  have hqd : decide ((1048576 : Int) < (key.size : Int)) = false := decide_eq_false (by omega)
  rcases Nat.lt_or_ge 1048576 last.size with hql2 | hql2
  · have hqd2 : decide ((1048576 : Int) < (last.size : Int)) = true := decide_eq_true (by omega)
    go_enter Tryz.func3, Tryz.ntmps3
    go_wp2
    go_ret
    exact ⟨rfl, hb0⟩
  have hqd2 : decide ((1048576 : Int) < (last.size : Int)) = false := decide_eq_false (by omega)
  go_enter Tryz.func3, Tryz.ntmps3
  go_wp2_with fail
  generalize w.alloc (.cells #[.int .i64 o.k, .string o.u, .string o.i, .int .i64 o.d, .string o.fu, .string o.ft, x] 26) = W0 at hb0 hx0 HA0 ⊢
  refine (szOp_any o x 1048576 _ (OpAt.get HA0.out) HZ.out (by decide) (by decide)).mono ?_
  rintro e w1 ⟨r, rfl, hr0, hr1, hr2, hb1⟩
  have hB1 := hb0.trans (hb1.mono hb0.size)
  by_cases hr : r < 0
  · go_wp2
    go_ret
    exact ⟨rfl, hB1⟩
  · have hn : o.its.length ≤ 1048576 := by have := hr2 (by omega); omega
    clear hr2
    have HA1 := Lib.hid (HA0.out.below hb1)
    have hx1 := hx0.keep hb1 hx0.lt
    have c0 := hx1.cell 0 _ rfl
    have c1 := hx1.cell 1 _ rfl
    have c2 := hx1.cell 2 _ rfl
    have c3 := hx1.cell 3 _ rfl
    have c4 := hx1.cell 4 _ rfl
    have c5 := hx1.cell 5 _ rfl
    have c6 := hx1.cell 6 _ rfl
    clear hx0 HA0 hb0 hb1
    go_wp2_with fail
    clear c0 c1 c2 c3 c4 c5 c6
    refine (toOp_any o x _ (OpAt.get HA1.out) HZ.out hn).mono ?_
    rintro e w2 ⟨x2, rfl, ho2, hb2⟩
    have hB2 := hB1.trans (hb2.mono hB1.size)
    have HA2 := Lib.hid (HA1.out.below hb2)
    have hx2 := hx1.keep hb2 hx1.lt
    have HO2 := Lib.hid ho2
    clear ho2 hB1 HA1 hx1 hb2
    go_wp2_with fail
    refine (HFs.out x2 _ (ItAt.of_own HO2.out HS.out)).mono ?_
    rintro e w3 ⟨rfl, hb3⟩
    have hB3 := hB2.trans (hb3.mono hB2.size)
    have HA3 := Lib.hid (HA2.out.below hb3)
    have hx3 := hx2.keep hb3 hx2.lt
    have c0 := hx3.cell 0 _ rfl
    have c1 := hx3.cell 1 _ rfl
    have c2 := hx3.cell 2 _ rfl
    have c3 := hx3.cell 3 _ rfl
    have c4 := hx3.cell 4 _ rfl
    have c5 := hx3.cell 5 _ rfl
    have c6 := hx3.cell 6 _ rfl
    clear HO2 hB2 HA2 hb3 hx2
    go_wp2_with fail
    clear c0 c1 c2 c3 c4 c5 c6
    refine (toOp_any o x _ (OpAt.get HA3.out) HZ.out hn).mono ?_
    rintro e w4 ⟨x4, rfl, ho4, hb4⟩
    have hB4 := hB3.trans (hb4.mono hB3.size)
    have HA4 := Lib.hid (HA3.out.below hb4)
    have hx4 := hx3.keep hb4 hx3.lt
    obtain ⟨xa, xc, rfl⟩ := ho4.slice
    have hba : Below w4.heap.size w4 (w4.alloc (.cells #[.int .i64 o.k, .string o.u, .string o.i, .int .i64 o.d, .string o.fu, .string o.ft, .slice xa o.its.length xc] 33)) := (Below.refl _ _).alloc (Nat.le_refl _) _
    have hB5 := hB4.trans (hba.mono hB4.size)
    have hx5 := hx4.keep hba hx4.lt
    have hy5 := Box.new w4 #[.int .i64 o.k, .string o.u, .string o.i, .int .i64 o.d, .string o.fu, .string o.ft, .slice xa o.its.length xc] 33
    have HO5 := Lib.hid ((OutO.at12 ho4 HS.out HZ.out).below hba)
    have HA5 := Lib.hid (HA4.out.below hba)
    clear ho4 hB3 HA3 hx3 hb4 hB4 HA4 hx4 hba
    go_wp2_with fail
    have hgx : w.heap.size < w4.heap.size := by
      have h1 := hB5.size
      have h2 := hx5.lt
      simp at h2
      have h3 : w.heap.size ≠ w4.heap.size := fun hh => by
        unfold Box at hx5 hy5
        rw [hh] at hx5
        rw [hy5] at hx5
        cases hx5
      omega
    generalize w4.alloc (.cells #[.int .i64 o.k, .string o.u, .string o.i, .int .i64 o.d, .string o.fu, .string o.ft, .slice xa o.its.length xc] 33) = W5 at hB5 hx5 hy5 HO5 HA5 ⊢
    have hi5 := OpAt.get HO5.out
    refine (HFi.out _ _ hi5 (HTb.out.below hB5 (Nat.le_refl _))).mono ?_
    rintro e w6 ⟨rfl, hb6⟩
    have hB6 := hB5.trans (hb6.mono hB5.size)
    have HA6 := Lib.hid (HA5.out.below hb6)
    have HO6 := Lib.hid (HO5.out.below hb6)
    have hx6 := hx5.keep hb6 hx5.lt
    have hy6 := hy5.keep hb6 hy5.lt
    clear hi5 hB5 HA5 HO5 hx5 hy5 hb6
    go_wp2
    refine wp_region_T (fun w' => Box w' w4.heap.size #[.int .i64 o.k, .string o.u, .string o.i, .int .i64 o.d, .string o.fu, .string o.ft, .slice xa o.its.length xc] 33 ∧ Box w' w.heap.size #[.int .i64 o.k, .string o.u, .string o.i, .int .i64 o.d, .string o.fu, .string o.ft, x] 26) (fun _ => True) 4 (by kernel_rfl) 5 rfl ?_
    refine wpAnyT_takesA (md := .any) 3 (by kernel_rfl) (by intro d v c a w h; cases d <;> exact h) [0, 1] _ _ _ (by decide) (by kernel_rfl) ⟨⟨hy6, hx6⟩, fun _ => trivial⟩ ?_
    simp only [pick, List.filterMap_cons, List.filterMap_nil, List.getElem?_cons_zero, List.getElem?_cons_succ]
    refine wpIf_step (opV o (.slice xa o.its.length xc)) (by kernel_rfl) (fun w hw => by have e0 := hw.1.cell 0 _ rfl; have e1 := hw.1.cell 1 _ rfl; have e2 := hw.1.cell 2 _ rfl; have e3 := hw.1.cell 3 _ rfl; have e4 := hw.1.cell 4 _ rfl; have e5 := hw.1.cell 5 _ rfl; have e6 := hw.1.cell 6 _ rfl; go_simp) ?_
    refine wpIf_step (opV o x) (by kernel_rfl) (fun w hw => by have e0 := hw.2.cell 0 _ rfl; have e1 := hw.2.cell 1 _ rfl; have e2 := hw.2.cell 2 _ rfl; have e3 := hw.2.cell 3 _ rfl; have e4 := hw.2.cell 4 _ rfl; have e5 := hw.2.cell 5 _ rfl; have e6 := hw.2.cell 6 _ rfl; go_simp) ?_
    refine wpIf_nil (fun hS => ?_)
    refine wpAnyT_one 2 2 (by kernel_rfl) rfl (by kernel_rfl) (fun K hK => ?_)
    go_simp
    refine (toOp_any o x w6.drew (OpAt.get HA6.out.drew) HZ.out hn).mono ?_
    rintro e w7 ⟨x7, rfl, ho7, hb7⟩
    have hB7 := hB6.drew.trans (hb7.mono hB6.size)
    have HO7 := Lib.hid (HO6.out.drew.below hb7)
    have HP7 := Lib.hid (OutO.at12 ho7 HS.out HZ.out)
    have hx7 := hx6.drew.keep hb7 hx6.lt
    have hy7 := hy6.drew.keep hb7 hy6.lt
    refine hK _ _ ⟨⟨hy7, hx7⟩, fun _ => trivial⟩ (fun hS3 => ?_)
    clear hK K hS hS3 hb7 ho7 hx6 hy6 HO6 HA6 hB6
    refine wpAnyT_one 3 1 (by kernel_rfl) rfl (by kernel_rfl) (fun K hK => ?_)
    go_simp
    refine (eqOp_same o _ _ _ (OpAt.get HO7.out) (OpAt.get HP7.out) HZ.out).mono ?_
    rintro e w8 ⟨rfl, hb8⟩
    have hB8 := hB7.trans (hb8.mono hB7.size)
    have hx8 := hx7.keep hb8 hx7.lt
    have hy8 := hy7.keep hb8 hy7.lt
    refine hK _ _ ⟨⟨hy8, hx8⟩, fun _ => trivial⟩ (fun hS3 => ?_)
    clear hK K hS3 hb8 hx7 hy7 HO7 HP7 hB7
    refine wpAnyT_one 4 0 (by kernel_rfl) rfl (by kernel_rfl) (fun K hK => ?_)
    go_simp
    refine hK _ _ ⟨⟨hy8, hx8⟩, fun _ => trivial⟩ (fun hS4 => ?_)
    clear hK K
    refine wpAnyT_over (by kernel_rfl) ?_
    go_wp2
    go_ret
    exact ⟨rfl, hB8⟩
end Go.Proofs.YtfjaincogbdeiaaGreatDoor

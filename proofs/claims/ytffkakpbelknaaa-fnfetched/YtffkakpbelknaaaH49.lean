/- Joined: Y9l. -/
import Derived.Test.YtffkakpbelknaaaH48
/- Y9l -/
namespace Go.Proofs.Ytffkakpbelknaaa
open Go.ChangeShapes Go.WideShapes Go.ChangeAt Go.RowKit
set_option linter.unusedVariables false

set_option maxRecDepth 100000 in
set_option maxHeartbeats 3000000 in
theorem specFolded_any (v : Value) (os : List OpD) (w : World) (h : OpsAt w w.heap.size v os) :
    Calls Try.prog 95 #[v] w (OutFo os w) := by
  have HI := Lib.hid h
  obtain ⟨a, cap, rfl, hl, hm, hc⟩ := h.raw
  unfold maxLen at hm
  clear hc h
  have hb0 : Below w.heap.size w ((w.alloc (.cells #[.slice none 0 0] 26)).alloc (.cells #[.slice none 0 0] 26)) := ((Below.refl _ _).alloc (Nat.le_refl _) _).alloc (by simp) _
  have hZ0 : Box ((w.alloc (.cells #[.slice none 0 0] 26)).alloc (.cells #[.slice none 0 0] 26)) w.heap.size #[.slice none 0 0] 26 := (Box.new w #[.slice none 0 0] 26).alloc _
  have hR0 : Box ((w.alloc (.cells #[.slice none 0 0] 26)).alloc (.cells #[.slice none 0 0] 26)) (w.heap.size + 1) #[.slice none 0 0] 26 := by
    have := Box.new (w.alloc (.cells #[.slice none 0 0] 26)) #[.slice none 0 0] 26
    simpa using this
  have hs0 : ((w.alloc (.cells #[.slice none 0 0] 26)).alloc (.cells #[.slice none 0 0] 26)).heap.size = w.heap.size + 2 := by simp
  have HD0 : Hid (OwnD ((w.alloc (.cells #[.slice none 0 0] 26)).alloc (.cells #[.slice none 0 0] 26)) (w.heap.size + 2) (.slice none 0 0) []) := Lib.hid (OwnD.none _ _)
  go_enter Try.func95, Try.ntmps95
  go_wp2
  generalize ((w.alloc (.cells #[.slice none 0 0] 26)).alloc (.cells #[.slice none 0 0] 26)) = Wq at hb0 hZ0 hR0 hs0 HD0 ⊢
  go_loopw [5] (fun i wr => ∃ (k : Nat) (r : List Sb) (va : Option Addr) (vn vc : Nat) (qs : List (Sb × Value)), k ≤ os.length ∧ k ≤ 500 ∧ i = .int .i64 (k : Int) ∧ Hid (FdH os k r) ∧ Hid (qs.map Prod.fst = r) ∧ Hid (OwnD wr (w.heap.size + 2) (.slice va vn vc) qs) ∧ Box wr (w.heap.size + 1) #[.slice va vn vc] 26 ∧ Box wr w.heap.size #[.slice none 0 0] 26 ∧ Below w.heap.size w wr ∧ w.heap.size + 2 ≤ wr.heap.size) (fun i _ => 500 - (intOf i).toNat)
  case atStart => exact ⟨0, [], none, 0, 0, [], Nat.zero_le _, Nat.zero_le _, rfl, Lib.hid (FdH.zero os), Lib.hid rfl, HD0, hR0, hZ0, hb0, by omega⟩
  case round =>
    obtain ⟨k, r, va, vn, vc, qs, hk, hk5, rfl, HF, HQ, HD, hR, hZ, hB, hsr⟩ := hrel
    clear hb0 hR0 hZ0 hs0 HD0
    by_cases hlt : k < os.length ∧ k < 500
    · obtain ⟨hlo, hl5⟩ := hlt
      obtain ⟨a', cap', hv, q1, q2, hc⟩ := (HI.out.below hB).raw
      cases hv
      clear q1 q2
      obtain ⟨b, off, rfl, hbb, hr⟩ := hc k hlo
      obtain ⟨y, c0, c1, c2, c3, c4, c5, c6, hy, hz⟩ := hr k hlo
      have HNx := Lib.hid (fun r2 h => HF.out.next (r2 := r2) hlo hl5 h)
      have HSt := Lib.hid (fun h => HF.out.stop hlo hl5 h)
      obtain ⟨o, ho⟩ : ∃ o, o = os[k] := ⟨_, rfl⟩
      rw [← ho] at c0 c1 c2 c3 c4 c5 hy hz HNx HSt
      obtain ⟨xa, xc, rfl⟩ := hy.1.slice
      have HOz := Lib.hid hz
      have HYw : Hid (ItAt wr.drew wr.drew.heap.size (.slice xa o.its.length xc) o.its) := Lib.hid (hy.mono hB.size)
      have hbw : b < wr.heap.size := by have := hB.size; omega
      have hkl : decide ((k : Int) < (os.length : Int)) = true := decide_eq_true (by omega)
      have hk50 : decide ((k : Int) < 500) = true := decide_eq_true (by omega)
      clear hr hc ho hy hz
      have hA0 : (Box wr.drew (w.heap.size + 1) #[.slice va vn vc] 26) ∧ (wr.drew.cell? ⟨b, off + k * 7, none⟩ = some (.int .i64 o.k) ∧ wr.drew.cell? ⟨b, off + k * 7 + 1, none⟩ = some (.string o.u) ∧ wr.drew.cell? ⟨b, off + k * 7 + 2, none⟩ = some (.string o.i) ∧ wr.drew.cell? ⟨b, off + k * 7 + 3, none⟩ = some (.int .i64 o.d) ∧ wr.drew.cell? ⟨b, off + k * 7 + 4, none⟩ = some (.string o.fu) ∧ wr.drew.cell? ⟨b, off + k * 7 + 5, none⟩ = some (.string o.ft) ∧ wr.drew.cell? ⟨b, off + k * 7 + 6, none⟩ = some (.slice xa o.its.length xc)) := ⟨hR.drew, c0, c1, c2, c3, c4, c5, c6⟩
      have HKA : Hid (∀ w1 w2 : World, wr.heap.size ≤ w1.heap.size → Below w1.heap.size w1 w2 → ((Box w1 (w.heap.size + 1) #[.slice va vn vc] 26) ∧ (w1.cell? ⟨b, off + k * 7, none⟩ = some (.int .i64 o.k) ∧ w1.cell? ⟨b, off + k * 7 + 1, none⟩ = some (.string o.u) ∧ w1.cell? ⟨b, off + k * 7 + 2, none⟩ = some (.string o.i) ∧ w1.cell? ⟨b, off + k * 7 + 3, none⟩ = some (.int .i64 o.d) ∧ w1.cell? ⟨b, off + k * 7 + 4, none⟩ = some (.string o.fu) ∧ w1.cell? ⟨b, off + k * 7 + 5, none⟩ = some (.string o.ft) ∧ w1.cell? ⟨b, off + k * 7 + 6, none⟩ = some (.slice xa o.its.length xc))) → ((Box w2 (w.heap.size + 1) #[.slice va vn vc] 26) ∧ (w2.cell? ⟨b, off + k * 7, none⟩ = some (.int .i64 o.k) ∧ w2.cell? ⟨b, off + k * 7 + 1, none⟩ = some (.string o.u) ∧ w2.cell? ⟨b, off + k * 7 + 2, none⟩ = some (.string o.i) ∧ w2.cell? ⟨b, off + k * 7 + 3, none⟩ = some (.int .i64 o.d) ∧ w2.cell? ⟨b, off + k * 7 + 4, none⟩ = some (.string o.fu) ∧ w2.cell? ⟨b, off + k * 7 + 5, none⟩ = some (.string o.ft) ∧ w2.cell? ⟨b, off + k * 7 + 6, none⟩ = some (.slice xa o.its.length xc)))) := Lib.hid (fun w1 w2 hs hb1 h => by
        have kc : ∀ o x, w1.cell? ⟨b, o, none⟩ = some x → w2.cell? ⟨b, o, none⟩ = some x := fun o x h => by rw [hb1.cell (p := ⟨b, o, none⟩) (show b < w1.heap.size by omega)]; exact h
        exact ⟨h.1.keep hb1 h.1.lt, kc _ _ h.2.1, kc _ _ h.2.2.1, kc _ _ h.2.2.2.1, kc _ _ h.2.2.2.2.1, kc _ _ h.2.2.2.2.2.1, kc _ _ h.2.2.2.2.2.2.1, kc _ _ h.2.2.2.2.2.2.2⟩)
      have HKS : Hid (∀ (w1 : World) (g : Nat) (z : Value), w.heap.size + 2 ≤ g → wr.heap.size ≤ g → ((Box w1 (w.heap.size + 1) #[.slice va vn vc] 26) ∧ (w1.cell? ⟨b, off + k * 7, none⟩ = some (.int .i64 o.k) ∧ w1.cell? ⟨b, off + k * 7 + 1, none⟩ = some (.string o.u) ∧ w1.cell? ⟨b, off + k * 7 + 2, none⟩ = some (.string o.i) ∧ w1.cell? ⟨b, off + k * 7 + 3, none⟩ = some (.int .i64 o.d) ∧ w1.cell? ⟨b, off + k * 7 + 4, none⟩ = some (.string o.fu) ∧ w1.cell? ⟨b, off + k * 7 + 5, none⟩ = some (.string o.ft) ∧ w1.cell? ⟨b, off + k * 7 + 6, none⟩ = some (.slice xa o.its.length xc))) → ((Box (w1.setCell ⟨g, 0, none⟩ z) (w.heap.size + 1) #[.slice va vn vc] 26) ∧ ((w1.setCell ⟨g, 0, none⟩ z).cell? ⟨b, off + k * 7, none⟩ = some (.int .i64 o.k) ∧ (w1.setCell ⟨g, 0, none⟩ z).cell? ⟨b, off + k * 7 + 1, none⟩ = some (.string o.u) ∧ (w1.setCell ⟨g, 0, none⟩ z).cell? ⟨b, off + k * 7 + 2, none⟩ = some (.string o.i) ∧ (w1.setCell ⟨g, 0, none⟩ z).cell? ⟨b, off + k * 7 + 3, none⟩ = some (.int .i64 o.d) ∧ (w1.setCell ⟨g, 0, none⟩ z).cell? ⟨b, off + k * 7 + 4, none⟩ = some (.string o.fu) ∧ (w1.setCell ⟨g, 0, none⟩ z).cell? ⟨b, off + k * 7 + 5, none⟩ = some (.string o.ft) ∧ (w1.setCell ⟨g, 0, none⟩ z).cell? ⟨b, off + k * 7 + 6, none⟩ = some (.slice xa o.its.length xc)))) := Lib.hid (fun w1 g z hg hg2 h => by
        have kc : ∀ o x, w1.cell? ⟨b, o, none⟩ = some x → (w1.setCell ⟨g, 0, none⟩ z).cell? ⟨b, o, none⟩ = some x := fun o x h => by
          rw [World.cell?_setCell_other _ _ _ _ (show (⟨g, 0, none⟩ : Addr) ≠ ⟨b, o, none⟩ from fun e => by have := congrArg Addr.block e; simp only at this; omega)]; exact h
        exact ⟨h.1.other ⟨g, 0, none⟩ z (show w.heap.size + 1 ≠ g by omega), kc _ _ h.2.1, kc _ _ h.2.2.1, kc _ _ h.2.2.2.1, kc _ _ h.2.2.2.2.1, kc _ _ h.2.2.2.2.2.1, kc _ _ h.2.2.2.2.2.2.1, kc _ _ h.2.2.2.2.2.2.2⟩)
      clear c0 c1 c2 c3 c4 c5 c6
      have HDon : Hid (∀ W, Below wr.drew.heap.size wr.drew W → Calls Try.prog 17 #[.agg #[.slice va vn vc], opV o (.slice xa o.its.length xc)] W (OutDn (doV r o) W)) := Lib.hid (fun W hW => specDone_any _ _ r o W (((HD.out.drew.at HQ.out (rd_sz HF.out.rd)).below hW).mono hW.size) ((HYw.out.below hW).mono hW.size) HOz.out)
      have hZ1 := hZ.drew
      have hB1 := hB.drew
      have HD1 := Lib.hid HD.out.drew
      have hsd : w.heap.size + 2 ≤ wr.drew.heap.size := hsr
      have x9 : wr.cell? ⟨w.heap.size + 1, 0, none⟩ = some (.slice va vn vc) := hR.cell 0 _ rfl
      clear HYw hZ hB HD
      go_wp2
      refine wp_region_T (fun w' => (Box w' (w.heap.size + 1) #[.slice va vn vc] 26) ∧ (w'.cell? ⟨b, off + k * 7, none⟩ = some (.int .i64 o.k) ∧ w'.cell? ⟨b, off + k * 7 + 1, none⟩ = some (.string o.u) ∧ w'.cell? ⟨b, off + k * 7 + 2, none⟩ = some (.string o.i) ∧ w'.cell? ⟨b, off + k * 7 + 3, none⟩ = some (.int .i64 o.d) ∧ w'.cell? ⟨b, off + k * 7 + 4, none⟩ = some (.string o.fu) ∧ w'.cell? ⟨b, off + k * 7 + 5, none⟩ = some (.string o.ft) ∧ w'.cell? ⟨b, off + k * 7 + 6, none⟩ = some (.slice xa o.its.length xc))) (fun _ => True) 11 (by kernel_rfl) 12 rfl ?_
      refine wpAnyT_takesA (md := .any) 7 (by kernel_rfl) (by intro d v c a w h; cases d <;> exact h) [0, 1, 2, 3, 4] _ _ _ (by decide) (by kernel_rfl) ⟨hA0, fun _ => trivial⟩ ?_
      simp only [pick, List.filterMap_cons, List.filterMap_nil, List.getElem?_cons_zero, List.getElem?_cons_succ]
      refine wpIf_step (.agg #[.slice va vn vc]) (by kernel_rfl) (fun w hw => by have e0 := hw.1.cell 0 _ rfl; go_simp) ?_
      refine wpIf_step (.slice (some ⟨b, off, none⟩) os.length cap) (by kernel_rfl) (fun w hw => by go_simp) ?_
      refine wpIf_step (.int .i64 (k : Int)) (by kernel_rfl) (fun w hw => by go_simp) ?_
      refine wpIf_step (.pointer (some ⟨b, off + k * 7, none⟩)) (by kernel_rfl) (fun w hw => by go_simp) ?_
      refine wpIf_step (opV o (.slice xa o.its.length xc)) (by kernel_rfl) (fun w hw => by have e0 := hw.2.1; have e1 := hw.2.2.1; have e2 := hw.2.2.2.1; have e3 := hw.2.2.2.2.1; have e4 := hw.2.2.2.2.2.1; have e5 := hw.2.2.2.2.2.2.1; have e6 := hw.2.2.2.2.2.2.2; go_simp) ?_
      refine wpIf_nil (fun hS => ?_)
      clear hS
      clear x9
      have hAc := hA0
      clear hA0 hR
      have hwd : wr.heap.size ≤ wr.drew.heap.size := Nat.le_refl _
      generalize wr.drew = WD at hAc hZ1 hB1 HD1 HDon hsd hwd ⊢
      have hBd : Below WD.heap.size WD WD := Below.refl _ _
      cases hdv : doV r o with
      | none =>
        have HL : Hid (∀ W, Below WD.heap.size WD W → Calls Try.prog 17 #[.agg #[.slice va vn vc], opV o (.slice xa o.its.length xc)] W (OutDn none W)) := by rw [← hdv]; exact HDon
        unfold OutDn at HL
        have HZ := Lib.hid (HSt.out hdv)
        clear hdv HNx HSt HDon
        refine wpAnyT_pair 5 9 6 (by kernel_rfl) rfl rfl (by kernel_rfl) (by kernel_rfl) (fun K hK => ?_) (fun K hK => ?_)
        · go_simp
          refine (HL.out _ hBd).mono ?_
          rintro e w2 ⟨rfl, hb2⟩
          replace hAc := HKA.out _ _ (Nat.le_trans hwd hBd.size) hb2 hAc
          replace hZ1 := hZ1.keep hb2 hZ1.lt
          replace hB1 := hB1.trans (hb2.mono hB1.size)
          replace HD1 := Lib.hid (HD1.out.keep hb2 (Nat.le_refl _))
          replace hBd := hBd.trans (hb2.mono hBd.size)
          refine hK _ _ ⟨hAc, fun _ => trivial⟩ (fun hS => ?_)
          clear hK K hS hb2
          refine wpAnyT_takesA (md := .any) 3 (by kernel_rfl) (by intro d v c a w h; cases d <;> exact h) [6, 7, 8] _ _ _ (by decide) (by kernel_rfl) ⟨hAc, fun _ => trivial⟩ ?_
          simp only [pick, List.filterMap_cons, List.filterMap_nil, List.getElem?_cons_zero, List.getElem?_cons_succ]
          refine wpIf_step (.tuple #[.agg #[.slice none 0 0], .bool false]) (by kernel_rfl) (fun w hw => by go_simp) ?_
          refine wpIf_step (.agg #[.slice none 0 0]) (by kernel_rfl) (fun w hw => by go_simp) ?_
          refine wpIf_step (.bool false) (by kernel_rfl) (fun w hw => by go_simp) ?_
          refine wpIf_nil (fun hS => ?_)
          clear hS
          refine wpAnyT_one 9 2 (by kernel_rfl) rfl (by kernel_rfl) (fun K hK => ?_)
          go_simp
          have hT := Box.new (w2) #[.slice none 0 0] 26
          have hba : Below (w2).heap.size (w2) (w2.alloc (.cells #[.slice none 0 0] 26)) := (Below.refl _ _).alloc (Nat.le_refl _) _
          have hgz : w.heap.size + 2 ≤ (w2).heap.size := Nat.le_trans hsd hBd.size
          have hgd : wr.heap.size ≤ (w2).heap.size := Nat.le_trans hwd hBd.size
          replace hAc := HKA.out _ _ (Nat.le_trans hwd hBd.size) hba hAc
          replace hZ1 := hZ1.keep hba hZ1.lt
          replace hB1 := hB1.trans (hba.mono hB1.size)
          replace HD1 := Lib.hid (HD1.out.keep hba (Nat.le_refl _))
          replace hBd := hBd.trans (hba.mono hBd.size)
          refine hK _ _ ⟨hAc, fun _ => trivial⟩ (fun hS => ?_)
          clear hK K hS hba
          generalize w2.alloc (.cells #[.slice none 0 0] 26) = WZ at hAc hZ1 hB1 HD1 hT hBd ⊢
          generalize (w2).heap.size = gz at hT hgz hgd ⊢
          have t0 := hT.cell 0 _ rfl
          have tf := hT.free
          have hT2 := hT.set 0 (.slice none 0 0)
          have hA2 := HKS.out _ gz (.slice none 0 0) (by omega) (by omega) hAc
          have hZ2 := hZ1.other ⟨gz, 0, none⟩ (.slice none 0 0) (show w.heap.size ≠ gz by omega)
          have hB2 := hB1.setCell (p := ⟨gz, 0, none⟩) (show w.heap.size ≤ gz by omega) (.slice none 0 0)
          have HD2 := Lib.hid (HD1.out.offBox hT (.slice none 0 0))
          have hs2 : w.heap.size + 2 ≤ (WZ.setCell ⟨gz, 0, none⟩ (.slice none 0 0)).heap.size := Nat.le_of_lt (Nat.lt_of_le_of_lt hgz hT2.lt)
          refine wpAnyT_one 10 1 (by kernel_rfl) rfl (by kernel_rfl) (fun K hK => ?_)
          go_simp
          refine hK _ _ ⟨hA2, fun _ => trivial⟩ (fun hS => ?_)
          clear hK K hS t0 tf
          refine wpAnyT_one 11 0 (by kernel_rfl) rfl (by kernel_rfl) (fun K hK => ?_)
          go_simp
          refine hK _ _ ⟨hA2, fun _ => trivial⟩ (fun hS => ?_)
          clear hK K hS
          refine wpAnyT_over (by kernel_rfl) ?_
          obtain ⟨hR2, _⟩ := hA2
          generalize WZ.setCell ⟨gz, 0, none⟩ (.slice none 0 0) = W3 at hT2 hR2 hZ2 hB2 HD2 hs2 ⊢
          clear hAc hZ1 hB1 HD1 hT hBd 
          have hZ := hZ2
          have hB := hB2
          have HD := HD2
          have x0 : W3.cell? ⟨w.heap.size + 1, 0, none⟩ = some (.slice va vn vc) := hR2.cell 0 _ rfl
          have z0 : W3.cell? ⟨w.heap.size, 0, none⟩ = some (.slice none 0 0) := hZ.cell 0 _ rfl
          have zf := hZ.free
          go_wp2
          have hZe := hZ.set 0 (.slice va vn vc)
          have hBe := hB.setCell (p := ⟨w.heap.size, 0, none⟩) (Nat.le_refl _) (.slice va vn vc)
          have hDe := (HD.out.aside ⟨w.heap.size, 0, none⟩ (.slice va vn vc) (show w.heap.size < w.heap.size + 2 by omega)).lower (show w.heap.size ≤ w.heap.size + 2 by omega)
          generalize W3.setCell ⟨w.heap.size, 0, none⟩ (.slice va vn vc) = We at hZe hBe hDe ⊢
          have p0 : We.cell? ⟨w.heap.size, 0, none⟩ = some (.slice va vn vc) := hZe.cell 0 _ rfl
          exact bodyPost_ret (v := .tuple #[.agg #[.slice va vn vc], .int .i64 ((fdV os).2 : Int)]) (by rw [HZ.out.2]; simp [results, Try.results95, go_sem, p0]) rfl ⟨_, qs, rfl, by rw [HZ.out.1]; exact HQ.out, hDe, hBe⟩
        · go_simp
          have hT := Box.new (WD) #[.slice none 0 0] 26
          have hba : Below (WD).heap.size (WD) (WD.alloc (.cells #[.slice none 0 0] 26)) := (Below.refl _ _).alloc (Nat.le_refl _) _
          have hgz : w.heap.size + 2 ≤ (WD).heap.size := Nat.le_trans hsd hBd.size
          have hgd : wr.heap.size ≤ (WD).heap.size := Nat.le_trans hwd hBd.size
          replace hAc := HKA.out _ _ (Nat.le_trans hwd hBd.size) hba hAc
          replace hZ1 := hZ1.keep hba hZ1.lt
          replace hB1 := hB1.trans (hba.mono hB1.size)
          replace HD1 := Lib.hid (HD1.out.keep hba (Nat.le_refl _))
          replace hBd := hBd.trans (hba.mono hBd.size)
          refine hK _ _ ⟨hAc, fun _ => trivial⟩ (fun hS => ?_)
          clear hK K hS hba
          generalize WD.alloc (.cells #[.slice none 0 0] 26) = WZ at hAc hZ1 hB1 HD1 hT hBd ⊢
          generalize (WD).heap.size = gz at hT hgz hgd ⊢
          refine wpAnyT_one 5 5 (by kernel_rfl) rfl (by kernel_rfl) (fun K hK => ?_)
          go_simp
          refine (HL.out _ hBd).mono ?_
          rintro e w2 ⟨rfl, hb2⟩
          replace hAc := HKA.out _ _ (Nat.le_trans hwd hBd.size) hb2 hAc
          replace hZ1 := hZ1.keep hb2 hZ1.lt
          replace hB1 := hB1.trans (hb2.mono hB1.size)
          replace HD1 := Lib.hid (HD1.out.keep hb2 (Nat.le_refl _))
          replace hT := hT.keep hb2 hT.lt
          replace hBd := hBd.trans (hb2.mono hBd.size)
          refine hK _ _ ⟨hAc, fun _ => trivial⟩ (fun hS => ?_)
          clear hK K hS hb2
          refine wpAnyT_takesA (md := .any) 2 (by kernel_rfl) (by intro d v c a w h; cases d <;> exact h) [6, 7, 8] _ _ _ (by decide) (by kernel_rfl) ⟨hAc, fun _ => trivial⟩ ?_
          simp only [pick, List.filterMap_cons, List.filterMap_nil, List.getElem?_cons_zero, List.getElem?_cons_succ]
          refine wpIf_step (.tuple #[.agg #[.slice none 0 0], .bool false]) (by kernel_rfl) (fun w hw => by go_simp) ?_
          refine wpIf_step (.agg #[.slice none 0 0]) (by kernel_rfl) (fun w hw => by go_simp) ?_
          refine wpIf_step (.bool false) (by kernel_rfl) (fun w hw => by go_simp) ?_
          refine wpIf_nil (fun hS => ?_)
          clear hS
          have t0 := hT.cell 0 _ rfl
          have tf := hT.free
          have hT2 := hT.set 0 (.slice none 0 0)
          have hA2 := HKS.out _ gz (.slice none 0 0) (by omega) (by omega) hAc
          have hZ2 := hZ1.other ⟨gz, 0, none⟩ (.slice none 0 0) (show w.heap.size ≠ gz by omega)
          have hB2 := hB1.setCell (p := ⟨gz, 0, none⟩) (show w.heap.size ≤ gz by omega) (.slice none 0 0)
          have HD2 := Lib.hid (HD1.out.offBox hT (.slice none 0 0))
          have hs2 : w.heap.size + 2 ≤ (w2.setCell ⟨gz, 0, none⟩ (.slice none 0 0)).heap.size := Nat.le_of_lt (Nat.lt_of_le_of_lt hgz hT2.lt)
          refine wpAnyT_one 10 1 (by kernel_rfl) rfl (by kernel_rfl) (fun K hK => ?_)
          go_simp
          refine hK _ _ ⟨hA2, fun _ => trivial⟩ (fun hS => ?_)
          clear hK K hS t0 tf
          refine wpAnyT_one 11 0 (by kernel_rfl) rfl (by kernel_rfl) (fun K hK => ?_)
          go_simp
          refine hK _ _ ⟨hA2, fun _ => trivial⟩ (fun hS => ?_)
          clear hK K hS
          refine wpAnyT_over (by kernel_rfl) ?_
          obtain ⟨hR2, _⟩ := hA2
          generalize w2.setCell ⟨gz, 0, none⟩ (.slice none 0 0) = W3 at hT2 hR2 hZ2 hB2 HD2 hs2 ⊢
          clear hAc hZ1 hB1 HD1 hT hBd 
          have hZ := hZ2
          have hB := hB2
          have HD := HD2
          have x0 : W3.cell? ⟨w.heap.size + 1, 0, none⟩ = some (.slice va vn vc) := hR2.cell 0 _ rfl
          have z0 : W3.cell? ⟨w.heap.size, 0, none⟩ = some (.slice none 0 0) := hZ.cell 0 _ rfl
          have zf := hZ.free
          go_wp2
          have hZe := hZ.set 0 (.slice va vn vc)
          have hBe := hB.setCell (p := ⟨w.heap.size, 0, none⟩) (Nat.le_refl _) (.slice va vn vc)
          have hDe := (HD.out.aside ⟨w.heap.size, 0, none⟩ (.slice va vn vc) (show w.heap.size < w.heap.size + 2 by omega)).lower (show w.heap.size ≤ w.heap.size + 2 by omega)
          generalize W3.setCell ⟨w.heap.size, 0, none⟩ (.slice va vn vc) = We at hZe hBe hDe ⊢
          have p0 : We.cell? ⟨w.heap.size, 0, none⟩ = some (.slice va vn vc) := hZe.cell 0 _ rfl
          exact bodyPost_ret (v := .tuple #[.agg #[.slice va vn vc], .int .i64 ((fdV os).2 : Int)]) (by rw [HZ.out.2]; simp [results, Try.results95, go_sem, p0]) rfl ⟨_, qs, rfl, by rw [HZ.out.1]; exact HQ.out, hDe, hBe⟩
      | some r2 =>
        have HL : Hid (∀ W, Below WD.heap.size WD W → Calls Try.prog 17 #[.agg #[.slice va vn vc], opV o (.slice xa o.its.length xc)] W (OutDn (some r2) W)) := by rw [← hdv]; exact HDon
        unfold OutDn at HL
        have HFn := Lib.hid (HNx.out r2 hdv)
        clear hdv HNx HSt HDon
        refine wpAnyT_pair 5 9 6 (by kernel_rfl) rfl rfl (by kernel_rfl) (by kernel_rfl) (fun K hK => ?_) (fun K hK => ?_)
        · go_simp
          refine (HL.out _ hBd).mono ?_
          rintro e w2 ⟨v2, qs2, rfl, hq2, hD2, hb2⟩
          obtain ⟨va2, vc2, hv2⟩ := hD2.1.slice
          obtain ⟨vn2, hvn⟩ : ∃ n, n = qs2.length := ⟨_, rfl⟩
          rw [← hvn] at hv2
          clear hvn
          subst hv2
          have HQ2 := Lib.hid hq2
          clear hq2
          replace hAc := HKA.out _ _ (Nat.le_trans hwd hBd.size) hb2 hAc
          replace hZ1 := hZ1.keep hb2 hZ1.lt
          replace hB1 := hB1.trans (hb2.mono hB1.size)
          replace HD1 := Lib.hid (HD1.out.keep hb2 (Nat.le_refl _))
          have HDc : Hid (OwnD w2 (w.heap.size + 2) (.slice va2 vn2 vc2) qs2) := Lib.hid (hD2.lower (Nat.le_trans hsd hBd.size))
          clear hD2
          replace hBd := hBd.trans (hb2.mono hBd.size)
          refine hK _ _ ⟨hAc, fun _ => trivial⟩ (fun hS => ?_)
          clear hK K hS hb2
          refine wpAnyT_takesA (md := .any) 3 (by kernel_rfl) (by intro d v c a w h; cases d <;> exact h) [6, 7, 8] _ _ _ (by decide) (by kernel_rfl) ⟨hAc, fun _ => trivial⟩ ?_
          simp only [pick, List.filterMap_cons, List.filterMap_nil, List.getElem?_cons_zero, List.getElem?_cons_succ]
          refine wpIf_step (.tuple #[.agg #[.slice va2 vn2 vc2], .bool true]) (by kernel_rfl) (fun w hw => by go_simp) ?_
          refine wpIf_step (.agg #[.slice va2 vn2 vc2]) (by kernel_rfl) (fun w hw => by go_simp) ?_
          refine wpIf_step (.bool true) (by kernel_rfl) (fun w hw => by go_simp) ?_
          refine wpIf_nil (fun hS => ?_)
          clear hS
          refine wpAnyT_one 9 2 (by kernel_rfl) rfl (by kernel_rfl) (fun K hK => ?_)
          go_simp
          have hT := Box.new (w2) #[.slice none 0 0] 26
          have hba : Below (w2).heap.size (w2) (w2.alloc (.cells #[.slice none 0 0] 26)) := (Below.refl _ _).alloc (Nat.le_refl _) _
          have hgz : w.heap.size + 2 ≤ (w2).heap.size := Nat.le_trans hsd hBd.size
          have hgd : wr.heap.size ≤ (w2).heap.size := Nat.le_trans hwd hBd.size
          replace hAc := HKA.out _ _ (Nat.le_trans hwd hBd.size) hba hAc
          replace hZ1 := hZ1.keep hba hZ1.lt
          replace hB1 := hB1.trans (hba.mono hB1.size)
          replace HD1 := Lib.hid (HD1.out.keep hba (Nat.le_refl _))
          replace HDc := Lib.hid (HDc.out.keep hba (Nat.le_refl _))
          replace hBd := hBd.trans (hba.mono hBd.size)
          refine hK _ _ ⟨hAc, fun _ => trivial⟩ (fun hS => ?_)
          clear hK K hS hba
          generalize w2.alloc (.cells #[.slice none 0 0] 26) = WZ at hAc hZ1 hB1 HD1 hT hBd HDc ⊢
          generalize (w2).heap.size = gz at hT hgz hgd ⊢
          have t0 := hT.cell 0 _ rfl
          have tf := hT.free
          have hT2 := hT.set 0 (.slice va2 vn2 vc2)
          have hA2 := HKS.out _ gz (.slice va2 vn2 vc2) (by omega) (by omega) hAc
          have hZ2 := hZ1.other ⟨gz, 0, none⟩ (.slice va2 vn2 vc2) (show w.heap.size ≠ gz by omega)
          have hB2 := hB1.setCell (p := ⟨gz, 0, none⟩) (show w.heap.size ≤ gz by omega) (.slice va2 vn2 vc2)
          have HD2 := Lib.hid (HD1.out.offBox hT (.slice va2 vn2 vc2))
          have HDc2 := Lib.hid (HDc.out.offBox hT (.slice va2 vn2 vc2))
          have hs2 : w.heap.size + 2 ≤ (WZ.setCell ⟨gz, 0, none⟩ (.slice va2 vn2 vc2)).heap.size := Nat.le_of_lt (Nat.lt_of_le_of_lt hgz hT2.lt)
          refine wpAnyT_one 10 1 (by kernel_rfl) rfl (by kernel_rfl) (fun K hK => ?_)
          go_simp
          refine hK _ _ ⟨hA2, fun _ => trivial⟩ (fun hS => ?_)
          clear hK K hS t0 tf
          refine wpAnyT_one 11 0 (by kernel_rfl) rfl (by kernel_rfl) (fun K hK => ?_)
          go_simp
          refine hK _ _ ⟨hA2, fun _ => trivial⟩ (fun hS => ?_)
          clear hK K hS
          refine wpAnyT_over (by kernel_rfl) ?_
          obtain ⟨hR2, _⟩ := hA2
          generalize WZ.setCell ⟨gz, 0, none⟩ (.slice va2 vn2 vc2) = W3 at hT2 hR2 hZ2 hB2 HD2 HDc2 hs2 ⊢
          clear hAc hZ1 hB1 HD1 hT hBd HDc
          have t0 : W3.cell? ⟨gz, 0, none⟩ = some (.slice va2 vn2 vc2) := hT2.cell 0 _ rfl
          have x0 : W3.cell? ⟨w.heap.size + 1, 0, none⟩ = some (.slice va vn vc) := hR2.cell 0 _ rfl
          have xf := hR2.free
          have hRn := Lib.hid (hR2.set 0 (.slice va2 vn2 vc2))
          have hZn := Lib.hid (hZ2.other ⟨w.heap.size + 1, 0, none⟩ (.slice va2 vn2 vc2) (show w.heap.size ≠ w.heap.size + 1 by omega))
          have hBn := Lib.hid (hB2.setCell (p := ⟨w.heap.size + 1, 0, none⟩) (show w.heap.size ≤ w.heap.size + 1 by omega) (.slice va2 vn2 vc2))
          have HDn := Lib.hid (HDc2.out.aside ⟨w.heap.size + 1, 0, none⟩ (.slice va2 vn2 vc2) (show w.heap.size + 1 < w.heap.size + 2 by omega))
          have hsn : w.heap.size + 2 ≤ (W3.setCell ⟨w.heap.size + 1, 0, none⟩ (.slice va2 vn2 vc2)).heap.size := by have e9 : (W3.setCell ⟨w.heap.size + 1, 0, none⟩ (.slice va2 vn2 vc2)).heap.size = W3.heap.size := (by simp [World.setCell]); omega
          clear hR2 hZ2 hB2 HD2 HDc2 hT2
          go_wp2
          go_roundw
          case rel => exact ⟨k + 1, r2, va2, vn2, vc2, qs2, by omega, by omega, by go_num, HFn, HQ2, HDn, hRn.out, hZn.out, hBn.out, hsn⟩
          case measure => simp [intOf]; omega
        · go_simp
          have hT := Box.new (WD) #[.slice none 0 0] 26
          have hba : Below (WD).heap.size (WD) (WD.alloc (.cells #[.slice none 0 0] 26)) := (Below.refl _ _).alloc (Nat.le_refl _) _
          have hgz : w.heap.size + 2 ≤ (WD).heap.size := Nat.le_trans hsd hBd.size
          have hgd : wr.heap.size ≤ (WD).heap.size := Nat.le_trans hwd hBd.size
          replace hAc := HKA.out _ _ (Nat.le_trans hwd hBd.size) hba hAc
          replace hZ1 := hZ1.keep hba hZ1.lt
          replace hB1 := hB1.trans (hba.mono hB1.size)
          replace HD1 := Lib.hid (HD1.out.keep hba (Nat.le_refl _))
          replace hBd := hBd.trans (hba.mono hBd.size)
          refine hK _ _ ⟨hAc, fun _ => trivial⟩ (fun hS => ?_)
          clear hK K hS hba
          generalize WD.alloc (.cells #[.slice none 0 0] 26) = WZ at hAc hZ1 hB1 HD1 hT hBd ⊢
          generalize (WD).heap.size = gz at hT hgz hgd ⊢
          refine wpAnyT_one 5 5 (by kernel_rfl) rfl (by kernel_rfl) (fun K hK => ?_)
          go_simp
          refine (HL.out _ hBd).mono ?_
          rintro e w2 ⟨v2, qs2, rfl, hq2, hD2, hb2⟩
          obtain ⟨va2, vc2, hv2⟩ := hD2.1.slice
          obtain ⟨vn2, hvn⟩ : ∃ n, n = qs2.length := ⟨_, rfl⟩
          rw [← hvn] at hv2
          clear hvn
          subst hv2
          have HQ2 := Lib.hid hq2
          clear hq2
          replace hAc := HKA.out _ _ (Nat.le_trans hwd hBd.size) hb2 hAc
          replace hZ1 := hZ1.keep hb2 hZ1.lt
          replace hB1 := hB1.trans (hb2.mono hB1.size)
          replace HD1 := Lib.hid (HD1.out.keep hb2 (Nat.le_refl _))
          replace hT := hT.keep hb2 hT.lt
          have HDc : Hid (OwnD w2 (w.heap.size + 2) (.slice va2 vn2 vc2) qs2) := Lib.hid (hD2.lower (Nat.le_trans hsd hBd.size))
          clear hD2
          replace hBd := hBd.trans (hb2.mono hBd.size)
          refine hK _ _ ⟨hAc, fun _ => trivial⟩ (fun hS => ?_)
          clear hK K hS hb2
          refine wpAnyT_takesA (md := .any) 2 (by kernel_rfl) (by intro d v c a w h; cases d <;> exact h) [6, 7, 8] _ _ _ (by decide) (by kernel_rfl) ⟨hAc, fun _ => trivial⟩ ?_
          simp only [pick, List.filterMap_cons, List.filterMap_nil, List.getElem?_cons_zero, List.getElem?_cons_succ]
          refine wpIf_step (.tuple #[.agg #[.slice va2 vn2 vc2], .bool true]) (by kernel_rfl) (fun w hw => by go_simp) ?_
          refine wpIf_step (.agg #[.slice va2 vn2 vc2]) (by kernel_rfl) (fun w hw => by go_simp) ?_
          refine wpIf_step (.bool true) (by kernel_rfl) (fun w hw => by go_simp) ?_
          refine wpIf_nil (fun hS => ?_)
          clear hS
          have t0 := hT.cell 0 _ rfl
          have tf := hT.free
          have hT2 := hT.set 0 (.slice va2 vn2 vc2)
          have hA2 := HKS.out _ gz (.slice va2 vn2 vc2) (by omega) (by omega) hAc
          have hZ2 := hZ1.other ⟨gz, 0, none⟩ (.slice va2 vn2 vc2) (show w.heap.size ≠ gz by omega)
          have hB2 := hB1.setCell (p := ⟨gz, 0, none⟩) (show w.heap.size ≤ gz by omega) (.slice va2 vn2 vc2)
          have HD2 := Lib.hid (HD1.out.offBox hT (.slice va2 vn2 vc2))
          have HDc2 := Lib.hid (HDc.out.offBox hT (.slice va2 vn2 vc2))
          have hs2 : w.heap.size + 2 ≤ (w2.setCell ⟨gz, 0, none⟩ (.slice va2 vn2 vc2)).heap.size := Nat.le_of_lt (Nat.lt_of_le_of_lt hgz hT2.lt)
          refine wpAnyT_one 10 1 (by kernel_rfl) rfl (by kernel_rfl) (fun K hK => ?_)
          go_simp
          refine hK _ _ ⟨hA2, fun _ => trivial⟩ (fun hS => ?_)
          clear hK K hS t0 tf
          refine wpAnyT_one 11 0 (by kernel_rfl) rfl (by kernel_rfl) (fun K hK => ?_)
          go_simp
          refine hK _ _ ⟨hA2, fun _ => trivial⟩ (fun hS => ?_)
          clear hK K hS
          refine wpAnyT_over (by kernel_rfl) ?_
          obtain ⟨hR2, _⟩ := hA2
          generalize w2.setCell ⟨gz, 0, none⟩ (.slice va2 vn2 vc2) = W3 at hT2 hR2 hZ2 hB2 HD2 HDc2 hs2 ⊢
          clear hAc hZ1 hB1 HD1 hT hBd HDc
          have t0 : W3.cell? ⟨gz, 0, none⟩ = some (.slice va2 vn2 vc2) := hT2.cell 0 _ rfl
          have x0 : W3.cell? ⟨w.heap.size + 1, 0, none⟩ = some (.slice va vn vc) := hR2.cell 0 _ rfl
          have xf := hR2.free
          have hRn := Lib.hid (hR2.set 0 (.slice va2 vn2 vc2))
          have hZn := Lib.hid (hZ2.other ⟨w.heap.size + 1, 0, none⟩ (.slice va2 vn2 vc2) (show w.heap.size ≠ w.heap.size + 1 by omega))
          have hBn := Lib.hid (hB2.setCell (p := ⟨w.heap.size + 1, 0, none⟩) (show w.heap.size ≤ w.heap.size + 1 by omega) (.slice va2 vn2 vc2))
          have HDn := Lib.hid (HDc2.out.aside ⟨w.heap.size + 1, 0, none⟩ (.slice va2 vn2 vc2) (show w.heap.size + 1 < w.heap.size + 2 by omega))
          have hsn : w.heap.size + 2 ≤ (W3.setCell ⟨w.heap.size + 1, 0, none⟩ (.slice va2 vn2 vc2)).heap.size := by have e9 : (W3.setCell ⟨w.heap.size + 1, 0, none⟩ (.slice va2 vn2 vc2)).heap.size = W3.heap.size := (by simp [World.setCell]); omega
          clear hR2 hZ2 hB2 HD2 HDc2 hT2
          go_wp2
          go_roundw
          case rel => exact ⟨k + 1, r2, va2, vn2, vc2, qs2, by omega, by omega, by go_num, HFn, HQ2, HDn, hRn.out, hZn.out, hBn.out, hsn⟩
          case measure => simp [intOf]; omega
    · have HZ := Lib.hid (HF.out.over hlt)
      have x0 : wr.cell? ⟨w.heap.size + 1, 0, none⟩ = some (.slice va vn vc) := hR.cell 0 _ rfl
      have z0 : wr.cell? ⟨w.heap.size, 0, none⟩ = some (.slice none 0 0) := hZ.cell 0 _ rfl
      have zf := hZ.free
      by_cases hl2 : k < os.length
      · have hkl : decide ((k : Int) < (os.length : Int)) = true := decide_eq_true (by omega)
        have hk50 : decide ((k : Int) < 500) = false := decide_eq_false (by omega)
        have HKe : Hid (k = 500) := Lib.hid (by omega)
        have hm1 : (500 : Int) ≤ (os.length : Int) := by omega
        go_wp2
        have hZe := hZ.set 0 (.slice va vn vc)
        have hBe := hB.setCell (p := ⟨w.heap.size, 0, none⟩) (Nat.le_refl _) (.slice va vn vc)
        have hDe := (HD.out.aside ⟨w.heap.size, 0, none⟩ (.slice va vn vc) (show w.heap.size < w.heap.size + 2 by omega)).lower (show w.heap.size ≤ w.heap.size + 2 by omega)
        generalize wr.setCell ⟨w.heap.size, 0, none⟩ (.slice va vn vc) = We at hZe hBe hDe ⊢
        have p0 : We.cell? ⟨w.heap.size, 0, none⟩ = some (.slice va vn vc) := hZe.cell 0 _ rfl
        exact bodyPost_ret (v := .tuple #[.agg #[.slice va vn vc], .int .i64 ((fdV os).2 : Int)]) (by rw [HZ.out.2, HKe.out]; simp [results, Try.results95, go_sem, p0]) rfl ⟨_, qs, rfl, by rw [HZ.out.1]; exact HQ.out, hDe, hBe⟩
      · by_cases hl3 : os.length < 500
        · have hkl : decide ((k : Int) < (os.length : Int)) = false := decide_eq_false (by omega)
          have HKe : Hid (k = os.length) := Lib.hid (by omega)
          have hm1 : ¬ (500 : Int) ≤ (os.length : Int) := by omega
          go_wp2
          have hZe := hZ.set 0 (.slice va vn vc)
          have hBe := hB.setCell (p := ⟨w.heap.size, 0, none⟩) (Nat.le_refl _) (.slice va vn vc)
          have hDe := (HD.out.aside ⟨w.heap.size, 0, none⟩ (.slice va vn vc) (show w.heap.size < w.heap.size + 2 by omega)).lower (show w.heap.size ≤ w.heap.size + 2 by omega)
          generalize wr.setCell ⟨w.heap.size, 0, none⟩ (.slice va vn vc) = We at hZe hBe hDe ⊢
          have p0 : We.cell? ⟨w.heap.size, 0, none⟩ = some (.slice va vn vc) := hZe.cell 0 _ rfl
          exact bodyPost_ret (v := .tuple #[.agg #[.slice va vn vc], .int .i64 ((fdV os).2 : Int)]) (by rw [HZ.out.2, HKe.out]; simp [results, Try.results95, go_sem, p0]) rfl ⟨_, qs, rfl, by rw [HZ.out.1]; exact HQ.out, hDe, hBe⟩
        · have hkl : decide ((k : Int) < (os.length : Int)) = false := decide_eq_false (by omega)
          have HKe : Hid (k = 500) := Lib.hid (by omega)
          have hm1 : (500 : Int) ≤ (os.length : Int) := by omega
          go_wp2
          have hZe := hZ.set 0 (.slice va vn vc)
          have hBe := hB.setCell (p := ⟨w.heap.size, 0, none⟩) (Nat.le_refl _) (.slice va vn vc)
          have hDe := (HD.out.aside ⟨w.heap.size, 0, none⟩ (.slice va vn vc) (show w.heap.size < w.heap.size + 2 by omega)).lower (show w.heap.size ≤ w.heap.size + 2 by omega)
          generalize wr.setCell ⟨w.heap.size, 0, none⟩ (.slice va vn vc) = We at hZe hBe hDe ⊢
          have p0 : We.cell? ⟨w.heap.size, 0, none⟩ = some (.slice va vn vc) := hZe.cell 0 _ rfl
          exact bodyPost_ret (v := .tuple #[.agg #[.slice va vn vc], .int .i64 ((fdV os).2 : Int)]) (by rw [HZ.out.2, HKe.out]; simp [results, Try.results95, go_sem, p0]) rfl ⟨_, qs, rfl, by rw [HZ.out.1]; exact HQ.out, hDe, hBe⟩
end Go.Proofs.Ytffkakpbelknaaa

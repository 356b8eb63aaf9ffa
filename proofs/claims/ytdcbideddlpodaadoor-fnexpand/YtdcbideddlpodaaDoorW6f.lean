/- Contract: Expand of the program (chapter 6). -/
import Derived.Test.YtdcbideddlpodaaDoorW6e
import Derived.Lib.BufStepsIn
namespace Go.Proofs.YtdcbideddlpodaaDoor
open Go.ChangeShapes Go.WideShapes Go.ChangeAt Go.RowKit Go.Shelf
set_option linter.unusedVariables false

attribute [local go_sem] Oper.semAt_some

def ptsL (pre : List Pt) : List UInt8 := pre.flatMap (fun x => x.1.data.toList)
theorem ptsL_snoc (pre : List Pt) (x : Pt) : ptsL (pre ++ [x]) = ptsL pre ++ x.1.data.toList := by simp [ptsL]
theorem ptsL_len : ∀ (pre : List Pt), (ptsL pre).length = 32 * pre.length
  | [] => rfl
  | x :: pre => by
    have h := ptsL_len pre
    have hx := x.2
    unfold ptsL at h ⊢
    rw [List.flatMap_cons, List.length_append, h, List.length_cons]
    have : x.1.data.toList.length = 32 := by simpa using hx
    omega
theorem ptsL_all (key : ByteArray) (T : Nat → ByteArray → ByteArray) : ∀ k, ptsL (ptL key T k) = (ptA key T k).data.toList
  | 0 => rfl
  | k + 1 => by
    rw [ptL, ptsL_snoc, ptsL_all key T k]
    show _ = (ptA key T k ++ ptB key T (k + 1)).data.toList
    rw [ba_app4]

theorem conv_take {w : World} {base g cap : Nat} {l : List UInt8} (h : w.ownsRow base 5 1 (.slice (some ⟨g, 0, none⟩) l.length cap) l.length (l.map bc)) (m : Nat) (hm : m ≤ l.length) :
    (convert 22 9 (.slice (some ⟨g, 0, none⟩) m cap)).run Tryd.prog w = .ok (.string ⟨(l.take m).toArray⟩) w := by
  have hl : (l.take m).length = m := by simp; omega
  have := run_convert_bytes_back w 22 9 5 ⟨g, 0, none⟩ cap (l.take m) Tryd.underlying22 Tryd.underlying5 Tryd.underlying9 (by
    intro j hj
    rw [hl] at hj
    have := World.ownsRow.cellAt h j (by omega)
    rw [Addr.add_lit, Nat.zero_add, this]
    have hjl : j < l.length := by omega
    simp [bc, hjl])
  rwa [hl] at this
theorem pts_row {w : World} {base g cap : Nat} {pre : List Pt} {x : Pt} (h : w.ownsRow base 5 1 (.slice (some ⟨g, 0, none⟩) ((ptsL pre).length + x.1.size) cap) ((ptsL pre).length + x.1.size) ((ptsL pre).map bc ++ Lib.strCells x.1)) :
    w.ownsRow base 5 1 (.slice (some ⟨g, 0, none⟩) ((ptsL pre).length + x.1.size) cap) (ptsL (pre ++ [x])).length ((ptsL (pre ++ [x])).map bc) := by
  have e : (ptsL (pre ++ [x])).length = (ptsL pre).length + x.1.size := by rw [ptsL_snoc, List.length_append]; simp
  rw [e, ptsL_snoc, List.map_append, ← strCells_map]
  exact h

set_option maxRecDepth 100000 in
set_option maxHeartbeats 2000000 in
theorem implExpand_any (key info : ByteArray) (n : Int) (w : World) (hk : key.size ≤ maxLen) (hi : info.size ≤ maxLen) (hn : (Lit.int .i64 n).wf = true) (hF : FTab w) (hK : KTab w) :
    Calls Tryd.prog 25 #[.string key, .string info, .int .i64 n] w fun e w' => e = .returned (.string (exR key info n)) ∧ Below w.heap.size w w' := by
  unfold maxLen at hk hi
  have hB1 : Hid (Below w.heap.size w (w.alloc (.cells #[.string info] 9))) := Lib.hid ((Below.refl _ _).alloc (Nat.le_refl _) _)
  by_cases h1 : key.size ≤ 4000
  · by_cases h2 : info.size ≤ 1000
    · by_cases h3 : 0 ≤ n
      · by_cases h4 : n ≤ 1000
        · obtain ⟨m, rfl⟩ := Int.eq_ofNat_of_zero_le h3
          have HE : Hid (exR key info (m : Int) = (ptA key (exT info) ((m + 31) / 32)).extract 0 m) := Lib.hid (by unfold exR; rw [if_pos ⟨h1, h2, h3, h4⟩]; rfl)
          have HH1 := Lib.hid h1
          have HH2 := Lib.hid h2
          obtain ⟨cnt, hcnt⟩ : ∃ cnt, cnt = (m + 31) / 32 := ⟨_, rfl⟩
          rw [← hcnt] at HE
          have hq : ((m : Int) + 32 - 1) / 32 = (cnt : Int) := by omega
          have hm1 : (cnt : Int) * 32 ≤ 2000 := by omega
          have HC : Hid (m ≤ 32 * cnt ∧ cnt ≤ 100) := Lib.hid (by omega)
          generalize exR key info (m : Int) = out at HE ⊢
          have hd1 : ¬ (4000 < (key.size : Int)) := by omega
          have hd2 : ¬ (1000 < (info.size : Int)) := by omega
          have z1 : ¬ ((m : Int) < 0) := by omega
          have z2 : ¬ (1000 < (m : Int)) := by omega
          have HF := Lib.hid hF
          have HK := Lib.hid hK
          clear h1 h2 hk hi hF hK hcnt
          refine (callsIn_wide (n := 5)).1 ?_
          have hF1 : Fence.wide.fn 50 := trivial
          have hF2 : Fence.wide.fn 73 := trivial
          refine callsIn_of_wp_marks Tryd.func25 rfl trivial ?_ rfl
          simp only [Tryd.ntmps25, List.size_toArray, List.length_cons, List.length_nil, Nat.reduceAdd, Nat.reduceSub, Array.replicate_succ, Array.replicate_zero, List.push_toArray, List.append_toArray, List.nil_append, List.cons_append]
          obtain ⟨i0, hi, hz0, hz1, hz2⟩ := info_parts Tryd.infoU8
          have HI := Lib.hid hi; have HZ0 := Lib.hid hz0; have HZ1 := Lib.hid hz1; have HZ2 := Lib.hid hz2
          clear hi hz0 hz1 hz2
          gi_wp2_with (gi_at_make; refine wpListIn_make_own _ rfl _ _ 22 rfl w.heap.size 5 i0 (.int .u8 0) 1 Tryd.underlying22 HI.out HZ0.out HZ1.out .i64 .i64 _ (cnt * 32) rfl rfl (by omega) (by rw [HZ2.out]; omega) (by unfold maxLen; omega) (by simp) ?_; intro w0 hown0 hgr0)
          refine ((callsIn_wide (n := 4)).2 (hmacParts_any key cnt (.func 49) #[.pointer (some ⟨w.heap.size, 0, none⟩)] _)).mono ?_
          rintro e w' ⟨rfl, rfl⟩
          gi_wp2
          obtain ⟨v0, hv0⟩ : ∃ v0, v0 = Value.slice (some ⟨w.heap.size + 1, 0, none⟩) 0 (cnt * 32) := ⟨_, rfl⟩
          rw [World.size_alloc, ← hv0] at hown0
          rw [← hv0]
          have HV0 := Lib.hid hv0
          clear hv0
          have hsz0 := hgr0.size
          rw [World.size_alloc] at hsz0
          have hB00 : Below w.heap.size w w0 := hB1.out.grown hgr0 (by simp) (fun k hk => by cases hk)
          have bI0 : Boxed w0 w.heap.size 9 (.string info) := (Boxed.new w 9 (.string info)).kept hgr0 (by simp)
          have bO := (((Boxed.new w0 22 v0).alloc (.cells #[.string key] 9)).alloc (.cells #[.int .i64 (cnt : Int)] 2)).alloc (.cells #[.func (.func 49) #[] #[.pointer (some ⟨w.heap.size, 0, none⟩)]] 51)
          have bI := (((bI0.alloc (.cells #[v0] 22)).alloc (.cells #[.string key] 9)).alloc (.cells #[.int .i64 (cnt : Int)] 2)).alloc (.cells #[.func (.func 49) #[] #[.pointer (some ⟨w.heap.size, 0, none⟩)]] 51)
          have bK := ((Boxed.new (w0.alloc (.cells #[v0] 22)) 9 (.string key)).alloc (.cells #[.int .i64 (cnt : Int)] 2)).alloc (.cells #[.func (.func 49) #[] #[.pointer (some ⟨w.heap.size, 0, none⟩)]] 51)
          have bC := (Boxed.new ((w0.alloc (.cells #[v0] 22)).alloc (.cells #[.string key] 9)) 2 (.int .i64 (cnt : Int))).alloc (.cells #[.func (.func 49) #[] #[.pointer (some ⟨w.heap.size, 0, none⟩)]] 51)
          have bT := Boxed.new (((w0.alloc (.cells #[v0] 22)).alloc (.cells #[.string key] 9)).alloc (.cells #[.int .i64 (cnt : Int)] 2)) 51 (.func (.func 49) #[] #[.pointer (some ⟨w.heap.size, 0, none⟩)])
          have hB0 : Below w.heap.size w ((((w0.alloc (.cells #[v0] 22)).alloc (.cells #[.string key] 9)).alloc (.cells #[.int .i64 (cnt : Int)] 2)).alloc (.cells #[.func (.func 49) #[] #[.pointer (some ⟨w.heap.size, 0, none⟩)]] 51)) := (((hB00.alloc (by omega) _).alloc (by simp; omega) _).alloc (by simp; omega) _).alloc (by simp; omega) _
          have hO0 := (((hown0.alloc (.cells #[v0] 22)).alloc (.cells #[.string key] 9)).alloc (.cells #[.int .i64 (cnt : Int)] 2)).alloc (.cells #[.func (.func 49) #[] #[.pointer (some ⟨w.heap.size, 0, none⟩)]] 51)
          simp only [World.size_alloc] at bK bC bT
          obtain ⟨V0, hVe⟩ : ∃ V0, V0 = ((((w0.alloc (.cells #[v0] 22)).alloc (.cells #[.string key] 9)).alloc (.cells #[.int .i64 (cnt : Int)] 2)).alloc (.cells #[.func (.func 49) #[] #[.pointer (some ⟨w.heap.size, 0, none⟩)]] 51)) := ⟨_, rfl⟩
          have hVs : V0.heap.size = w0.heap.size + 4 := by rw [hVe]; simp
          rw [← hVe] at bO bI bK bC bT hB0 hO0 ⊢
          clear hVe hown0 hgr0 bI0 hB00
          have hPG : PG (w0.heap.size + 1) (w0.heap.size + 1 + 1) (w0.heap.size + 1 + 2) w.heap.size key info cnt (.func (.func 49) #[] #[.pointer (some ⟨w.heap.size, 0, none⟩)]) V0 := ⟨bK, bC, bT, bI, HF.out.below hB0 (Nat.le_refl _), HK.out.below hB0 (Nat.le_refl _)⟩
          refine wpIn_rangeFunc_ownG rfl (by decide) (gf := 73) (lb := #[.pointer (some ⟨w0.heap.size + 1 + 1, 0, none⟩), .pointer (some ⟨w0.heap.size + 1, 0, none⟩), .pointer (some ⟨w0.heap.size + 1 + 2, 0, none⟩)]) rfl trivial (enters_of Tryd.func73 (by kernel_rfl) rfl)
            (exParts_stops 4 (by decide) _ _ _ w.heap.size key info cnt HH1.out HH2.out HC.out.2 V0 hPG) (fun h k g => k (h g)) (fun W l o o' _ ho hn _ g => g.put o' ho hn) (Below.refl _ _) (fun _ => rfl)
            (fun (pre : List Pt) W => ((∃ v, Boxed W w0.heap.size 22 v ∧ W.ownsRow w.heap.size 5 1 v (ptsL pre).length ((ptsL pre).map bc) ∧ v ≠ .slice none 0 0) ∧ PG (w0.heap.size + 1) (w0.heap.size + 1 + 1) (w0.heap.size + 1 + 2) w.heap.size key info cnt (.func (.func 49) #[] #[.pointer (some ⟨w.heap.size, 0, none⟩)]) W) ∧ Below w.heap.size w W)
            (fun _ _ _ => False)
            (OwnFrom.and (OwnFrom.and (Own.from (holdsRow_own w.heap.size w0.heap.size 22 5 1 (fun (pre : List Pt) => (ptsL pre).length) (fun (pre : List Pt) => (ptsL pre).map bc) (fun pre v => v ≠ .slice none 0 0)) _) (Own.from (pg_own _ _ _ _ _ _ _ _) _)) (ownFrom_below (Nat.le_refl _) (by omega)))
            (fun _ _ _ _ _ hs _ _ => hs)
            ⟨⟨⟨_, bO, hO0, by rw [HV0.out]; simp⟩, hPG⟩, hB0⟩
            (fun x => { tmps := #[Value.string key, Value.string info, Value.int IntKind.i64 ↑m, undef,
          Value.pointer (some { block := w.heap.size, off := 0 }), undef, Value.string { data := #[] },
          Value.int IntKind.i64 ↑cnt, Value.pointer (some { block := w0.heap.size, off := 0 }),
          Value.func (Fn.func 49) #[] #[Value.pointer (some { block := w.heap.size, off := 0 })], .string x.1,
          Value.string key, Value.int IntKind.i64 ↑key.size, Value.bool false, Value.bool false, Value.string info,
          Value.int IntKind.i64 ↑info.size, Value.bool false, Value.bool false, Value.bool false,
          Value.int IntKind.i64 ↑m, Value.bool false, Value.bool false,
          Value.bool false, Value.int IntKind.i64 ↑m, Value.bool false,
          Value.bool false, Value.int IntKind.i64 ↑m, Value.int IntKind.i64 (↑m + 32),
          Value.int IntKind.i64 (↑m + 32 - 1), Value.int IntKind.i64 ↑cnt, Value.int IntKind.i64 ↑cnt,
          Value.int IntKind.i64 (↑cnt * 32), v0,
          Value.func (Fn.func 49) #[] #[Value.pointer (some { block := w.heap.size, off := 0 })], Value.string key,
          Value.int IntKind.i64 ↑cnt,
          Value.func (Fn.func 49) #[] #[Value.pointer (some { block := w.heap.size, off := 0 })],
          Value.func (Fn.func 73) #[]
            #[Value.pointer (some { block := w0.heap.size + 1 + 1, off := 0 }),
              Value.pointer (some { block := w0.heap.size + 1, off := 0 }),
              Value.pointer (some { block := w0.heap.size + 1 + 2, off := 0 })],
          .string x.1, undef, undef, undef, undef, undef, undef, undef], defers := [] }) ?assign ?body ?done ?stop
          case assign =>
            intro l x W K hK
            gi_wp2
            exact hK
          case body =>
            rintro l pre x W ⟨⟨⟨v, hv, hrow, _⟩, hP⟩, hB⟩ hlt
            have hc := hv.cell
            have HXS := Lib.hid x.2
            have hBs := hB.size
            have HPL := Lib.hid (ptsL_len pre)
            have hc100 := HC.out.2
            gi_wp2_with (gi_at_builtin; refine wpListIn_appS rfl _ _ rfl w.heap.size _ _ _ rfl hrow x.1 rfl (by have h1 := HPL.out; have h2 := HXS.out; omega) (by omega) ?_; intro v' w1 hown' hgrow; obtain ⟨g', cap', rfl⟩ := own_form hown' (by have h2 := HXS.out; omega); obtain ⟨hv1, hv2, hr2, hk2, hb2⟩ := boxed_appS hv (by decide) hrow hB.size (by omega) hown' hgrow; have hP2 : PG (w0.heap.size + 1) (w0.heap.size + 1 + 1) (w0.heap.size + 1 + 2) w.heap.size key info cnt (.func (.func 49) #[] #[.pointer (some ⟨w.heap.size, 0, none⟩)]) (w1.setCell ⟨w0.heap.size, 0, none⟩ (.slice (some ⟨g', 0, none⟩) ((ptsL pre).length + x.1.size) cap')) := ⟨boxed_step hP.k (by decide) hrow hgrow (by omega), boxed_step hP.c (by decide) hrow hgrow (by omega), boxed_step hP.t (by decide) hrow hgrow (by omega), boxed_step hP.i (by decide) hrow hgrow (by omega), HF.out.below (hB.trans hb2) (Nat.le_refl _), HK.out.below (hB.trans hb2) (Nat.le_refl _)⟩; have hc1 := hv1.cell; have hf1 := hv1.frozen)
            exact ⟨hk2.from _, fun _ => hP2, ⟨⟨_, hv2, pts_row hr2, by simp⟩, hP2⟩, hB.trans hb2⟩
          case done =>
            rintro D ys W hD rfl ⟨⟨⟨v, hv, hrow, hne⟩, hP⟩, hB⟩ hK
            have hc := hv.cell
            have hpl := ptsL_len (ptL key (exT info) cnt)
            rw [ptL_len] at hpl
            have hal := ptsL_all key (exT info) cnt
            rcases hrow.2 with ⟨hnil, _⟩ | ⟨g, cap, cur, rfl, _, _, hlc, _⟩
            · exact absurd hnil hne
            have hmc : (m : Int) ≤ (cap : Int) := by have := HC.out.1; omega
            have hcv := conv_take hrow m (by have := HC.out.1; omega)
            have HO : Hid ((⟨((ptsL (ptL key (exT info) cnt)).take m).toArray⟩ : ByteArray) = out) := Lib.hid (by
              rw [HE.out, hal]
              apply ba_eq
              rw [ByteArray.data_extract, Array.toList_extract]
              simp [List.extract])
            rw [HO.out] at hcv
            clear hal hpl hrow hne hv
            gi_wp2
            refine ⟨by simp, .inl ⟨_, _, rfl, run_takeDeferred hK, ?_⟩⟩
            exact ⟨_, results_tmp rfl _ _ _, rfl, hB.trans (belowK_b (w := w) (Nat.le_refl _) W D _ _ (by omega) hK rfl rfl)⟩
          case stop =>
            rintro D c pre W _ _ h _
            exact h.elim
        · have HR : Hid (exR key info n = ⟨#[]⟩) := Lib.hid (by unfold exR; rw [if_neg (by omega)])
          rw [HR.out]
          have hd1 : ¬ (4000 < (key.size : Int)) := by omega
          have hd2 : ¬ (1000 < (info.size : Int)) := by omega
          have z1 : ¬ (n < 0) := by omega
          have z2 : 1000 < n := by omega
          clear hF hK
          go_enter Tryd.func25, Tryd.ntmps25
          go_wp2
          go_ret
          exact ⟨rfl, hB1.out⟩
      · have HR : Hid (exR key info n = ⟨#[]⟩) := Lib.hid (by unfold exR; rw [if_neg (by omega)])
        rw [HR.out]
        have hd1 : ¬ (4000 < (key.size : Int)) := by omega
        have hd2 : ¬ (1000 < (info.size : Int)) := by omega
        have z1 : n < 0 := by omega
        clear hF hK
        go_enter Tryd.func25, Tryd.ntmps25
        go_wp2
        go_ret
        exact ⟨rfl, hB1.out⟩
    · have HR : Hid (exR key info n = ⟨#[]⟩) := Lib.hid (by unfold exR; rw [if_neg (by omega)])
      rw [HR.out]
      have hd1 : ¬ (4000 < (key.size : Int)) := by omega
      have hd2 : 1000 < (info.size : Int) := by omega
      clear hF hK
      go_enter Tryd.func25, Tryd.ntmps25
      go_wp2
      go_ret
      exact ⟨rfl, hB1.out⟩
  · have HR : Hid (exR key info n = ⟨#[]⟩) := Lib.hid (by unfold exR; rw [if_neg (by omega)])
    rw [HR.out]
    have hd1 : 4000 < (key.size : Int) := by omega
    clear hF hK
    go_enter Tryd.func25, Tryd.ntmps25
    go_wp2
    go_ret
    exact ⟨rfl, hB1.out⟩
end Go.Proofs.YtdcbideddlpodaaDoor

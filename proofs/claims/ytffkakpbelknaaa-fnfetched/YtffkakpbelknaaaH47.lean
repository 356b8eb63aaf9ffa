/- Joined: Y9i. -/
import Derived.Test.YtffkakpbelknaaaH42
/- Y9i -/
namespace Go.Proofs.Ytffkakpbelknaaa
open Go.ChangeShapes Go.WideShapes Go.ChangeAt Go.RowKit
set_option linter.unusedVariables false

set_option maxRecDepth 100000 in
set_option maxHeartbeats 4000000 in
theorem l9Done_add (v x : Value) (ss : List Sb) (o : OpD) (w : World) (h : SbAt w w.heap.size v ss) (hx : ItAt w w.heap.size x o.its) (hr : rdB ss = true) (hk : o.k = 1) (hf : fnB (sbKs ss) o.u = false) (hn6 : ss.length ≠ 6) :
    Calls Try.prog 53 #[.agg #[v], opV o x] w (OutDn (doI ss o) w) := by
  have HI := Lib.hid h
  have HX := Lib.hid hx
  have h6 := rd_len hr
  have HSz := Lib.hid h.size
  have HR := Lib.hid hr
  have HCp := Lib.hid (fun w h => l9Copy_any v ss w h (by omega) (fun s hs => by have := sb_len (rd_sub hr s hs); omega))
  have HAt := Lib.hid (fun w h => l9At_any v ss o.u w h)
  rw [atK_not (rd_ris hr) hf] at HAt
  have HDo : Hid (doI ss o = some (putP ss (plK (sbKs ss) o.u) false ⟨o.u, ⟨#[]⟩, []⟩)) := Lib.hid (by unfold doI; rw [if_pos hk, if_neg (by rw [hf]; intro h; rcases h with h | h; (cases h); exact hn6 h)])
  have hpl := plK_le (sbKs ss) o.u
  rw [show (sbKs ss).length = ss.length by simp [sbKs]] at hpl
  have HLo : Hid (∀ t (ht : t < ss.length), t < plK (sbKs ss) o.u → Op.bytesLess ss[t].u.toList o.u.toList = true) := Lib.hid (fun t ht htp => by
    have h1 := plK_lo (sbKs ss) o.u t htp
    have htk : t < (sbKs ss).length := by simpa [sbKs] using ht
    have h2 : ltK (sbKs ss)[t] o.u = true := by rw [ltK_cmp]; exact decide_eq_true h1
    simpa [sbKs, ltK] using h2)
  have HHi : Hid (∀ (ht : plK (sbKs ss) o.u < ss.length), Op.bytesLess ss[plK (sbKs ss) o.u].u.toList o.u.toList = false) := Lib.hid (fun ht => by
    have htk : plK (sbKs ss) o.u < (sbKs ss).length := by simpa [sbKs] using ht
    have h1 := plK_hi (ks := sbKs ss) (x := o.u) htk
    have h2 : ltK (sbKs ss)[plK (sbKs ss) o.u] o.u = false := by rw [ltK_cmp]; exact decide_eq_false h1
    simpa [sbKs, ltK] using h2)
  generalize plK (sbKs ss) o.u = p at HDo hpl HLo HHi
  have hge : decide ((0 : Int) ≤ -1) = false := rfl
  have hn66 : ((ss.length : Int) == 6) = false := beq_eq_false_iff_ne.2 (by omega)
  obtain ⟨a, cap, rfl, hl, hm, hc⟩ := h.raw
  obtain ⟨xa, xc, rfl⟩ := hx.1.slice
  clear hc h hx hr
  have hb0 : Below w.heap.size w (((w.alloc (.cells #[.slice a ss.length cap] 26)).alloc (.cells #[.int .i64 o.k, .string o.u, .string o.i, .int .i64 o.d, .string o.fu, .string o.ft, .slice xa o.its.length xc] 31)).alloc (.cells #[.slice none 0 0] 26)) := (((Below.refl _ _).alloc (Nat.le_refl _) _).alloc (by simp) _).alloc (by simp; omega) _
  have hR0 := ((Box.new w #[.slice a ss.length cap] 26).alloc (.cells #[.int .i64 o.k, .string o.u, .string o.i, .int .i64 o.d, .string o.fu, .string o.ft, .slice xa o.its.length xc] 31)).alloc (.cells #[.slice none 0 0] 26)
  have hO0 : Box (((w.alloc (.cells #[.slice a ss.length cap] 26)).alloc (.cells #[.int .i64 o.k, .string o.u, .string o.i, .int .i64 o.d, .string o.fu, .string o.ft, .slice xa o.its.length xc] 31)).alloc (.cells #[.slice none 0 0] 26)) (w.heap.size + 1) #[.int .i64 o.k, .string o.u, .string o.i, .int .i64 o.d, .string o.fu, .string o.ft, .slice xa o.its.length xc] 31 := by
    have := (Box.new (w.alloc (.cells #[.slice a ss.length cap] 26)) #[.int .i64 o.k, .string o.u, .string o.i, .int .i64 o.d, .string o.fu, .string o.ft, .slice xa o.its.length xc] 31).alloc (.cells #[.slice none 0 0] 26)
    simpa using this
  have hZ0 : Box (((w.alloc (.cells #[.slice a ss.length cap] 26)).alloc (.cells #[.int .i64 o.k, .string o.u, .string o.i, .int .i64 o.d, .string o.fu, .string o.ft, .slice xa o.its.length xc] 31)).alloc (.cells #[.slice none 0 0] 26)) (w.heap.size + 1 + 1) #[.slice none 0 0] 26 := by
    have := Box.new ((w.alloc (.cells #[.slice a ss.length cap] 26)).alloc (.cells #[.int .i64 o.k, .string o.u, .string o.i, .int .i64 o.d, .string o.fu, .string o.ft, .slice xa o.its.length xc] 31)) #[.slice none 0 0] 26
    simpa using this
  have hsz0 : (((w.alloc (.cells #[.slice a ss.length cap] 26)).alloc (.cells #[.int .i64 o.k, .string o.u, .string o.i, .int .i64 o.d, .string o.fu, .string o.ft, .slice xa o.its.length xc] 31)).alloc (.cells #[.slice none 0 0] 26)).heap.size = w.heap.size + 3 := by simp
  have hk33 : (o.k == 3) = false := beq_eq_false_iff_ne.2 (by omega)
  have hk99 : (o.k == 9) = false := beq_eq_false_iff_ne.2 (by omega)
  have hk11 : (o.k == 1) = true := beq_iff_eq.2 hk
  clear hk hl hm hf hn6
  unfold OutCp at HCp
  go_enter Try.func53, Try.ntmps53
  go_wp2_with fail
  generalize ((w.alloc (.cells #[.slice a ss.length cap] 26)).alloc (.cells #[.int .i64 o.k, .string o.u, .string o.i, .int .i64 o.d, .string o.fu, .string o.ft, .slice xa o.its.length xc] 31)).alloc (.cells #[.slice none 0 0] 26) = W0 at hb0 hR0 hO0 hZ0 hsz0 ⊢
  refine (HCp.out _ ((HI.out.below hb0).mono hb0.size)).mono ?_
  rintro e w1 ⟨v1, qs, rfl, hq1, hD1, hb1⟩
  obtain ⟨va, vc, rfl⟩ := hD1.1.slice
  have hs1 : w.heap.size + 3 ≤ w1.heap.size := by have := hb1.size; omega
  have hB1 := (hb0.trans (hb1.mono hb0.size)).alloc (by omega) (.cells #[.slice va qs.length vc] 26)
  have hZ1 := (hZ0.keep hb1 hZ0.lt).alloc (.cells #[.slice va qs.length vc] 26)
  have hO1 := (hO0.keep hb1 hO0.lt).alloc (.cells #[.slice va qs.length vc] 26)
  have hR1 := (hR0.keep hb1 hR0.lt).alloc (.cells #[.slice va qs.length vc] 26)
  have hX1 := Box.new w1 #[.slice va qs.length vc] 26
  have HD1 : Hid (OwnD (w1.alloc (.cells #[.slice va qs.length vc] 26)) (w.heap.size + 3) (.slice va qs.length vc) qs) := Lib.hid ((hD1.lower (show w.heap.size + 3 ≤ W0.heap.size by omega)).keep ((Below.refl _ _).alloc (Nat.le_refl _) _) (Nat.le_refl _))
  have HV1 : Hid (Value.ownBlock (.slice va qs.length vc) ≠ Option.some w1.heap.size ∧ ∀ q ∈ qs, q.2.ownBlock ≠ Option.some w1.heap.size) := Lib.hid ⟨fun e => by have := (World.ownsRow.lt hD1.1 _ e).2; omega, fun q hq e => by have := (World.ownsRow.lt (hD1.2.1 q hq) _ e).2; omega⟩
  have hql : qs.length = ss.length := by have := congrArg List.length hq1; simpa using this
  have HQ1 := Lib.hid hq1
  rw [hql] at hB1 hZ1 hO1 hR1 hX1 HD1 HV1 ⊢
  clear hb1 hb0 hR0 hO0 hZ0 hsz0 hq1 hD1 HCp
  have f0 : (w1.alloc (.cells #[.slice va ss.length vc] 26)).cell? ⟨w.heap.size + 1, 0, none⟩ = some (.int .i64 o.k) := hO1.cell 0 _ rfl
  have f1 : (w1.alloc (.cells #[.slice va ss.length vc] 26)).cell? ⟨w.heap.size + 1, 1, none⟩ = some (.string o.u) := hO1.cell 1 _ rfl
  have f4 : (w1.alloc (.cells #[.slice va ss.length vc] 26)).cell? ⟨w.heap.size + 1, 4, none⟩ = some (.string o.fu) := hO1.cell 4 _ rfl
  have r0 : (w1.alloc (.cells #[.slice va ss.length vc] 26)).cell? ⟨w.heap.size, 0, none⟩ = some (.slice a ss.length cap) := hR1.cell 0 _ rfl
  go_wp2_with fail
  refine (HAt.out _ ((HI.out.below hB1).mono hB1.size)).mono ?_
  rintro e w2 ⟨rfl, hb2⟩
  have hB2 := hB1.trans (hb2.mono hB1.size)
  have hZ2 := hZ1.keep hb2 hZ1.lt
  have hO2 := hO1.keep hb2 hO1.lt
  have hX2 := hX1.keep hb2 hX1.lt
  have hR2 := hR1.keep hb2 hR1.lt
  have HD2 := Lib.hid (HD1.out.keep hb2 (Nat.le_refl _))
  have hs2 : w1.heap.size < w2.heap.size := hX2.lt
  have g0 : w2.cell? ⟨w.heap.size + 1, 0, none⟩ = some (.int .i64 o.k) := hO2.cell 0 _ rfl
  clear hb2 hB1 hZ1 hO1 hR1 f0 f1 f4 r0 HAt hX1 HD1
  generalize w1.heap.size = D at hX2 HV1 hs1 hs2 ⊢
  clear w1
  have r2 : w2.cell? ⟨w.heap.size, 0, none⟩ = some (.slice a ss.length cap) := hR2.cell 0 _ rfl
  have HR2 : Hid (Box w2 w.heap.size #[.slice a ss.length cap] 26) := Lib.hid hR2
  clear hR2
  go_wp2_with fail
  go_loopw [10] (fun i wr => ∃ k : Nat, k ≤ p ∧ i = .int .i64 (k : Int) ∧ wr = w2) (fun i _ => p - (intOf i).toNat)
  case atStart => exact ⟨0, Nat.zero_le _, rfl, rfl⟩
  case round =>
    obtain ⟨k, hk, rfl, rfl⟩ := hrel
    clear g0
    by_cases hkp : k < p
    · have hlt : k < ss.length := by omega
      obtain ⟨a', cap', hv, _, _, hc⟩ := (HI.out.below hB2).raw
      cases hv
      obtain ⟨b, off, rfl, hb, hr⟩ := hc k hlt
      obtain ⟨y, c0, c1, c2, hy, s0, s1⟩ := hr k hlt
      have hlo := HLo.out k hlt hkp
      have hkl : decide ((k : Int) < (ss.length : Int)) = true := decide_eq_true (by omega)
      clear hr hc hy s0 s1 c1 c2
      go_wp2
      go_roundw
      case rel => exact ⟨k + 1, by omega, by go_num, by simp⟩
      case measure => simp [intOf]; omega
    · obtain rfl : k = p := by omega
      by_cases hke : k < ss.length
      · have hcp : ¬ vc = k := by have := HD2.out.1.capLe; omega
        have HCp := Lib.hid hcp
        obtain ⟨a', cap', hv, _, _, hc⟩ := (HI.out.below hB2).raw
        cases hv
        obtain ⟨b, off, rfl, hb, hr⟩ := hc k hke
        obtain ⟨y, c0, c1, c2, hy, s0, s1⟩ := hr k hke
        have hlo := HHi.out hke
        have hkl : decide ((k : Int) < (ss.length : Int)) = true := decide_eq_true (by omega)
        clear hr hc hy s0 s1 c1 c2
        have hql : qs.length = ss.length := by have := congrArg List.length HQ1.out; simpa using this
        have hcl : ss.length ≤ vc := by have := HD2.out.1.capLe; omega
        have HRc : Hid (RecAt 3 sbC wr wr.heap.size (.slice va ss.length vc) qs) := Lib.hid (HD2.out.1.at sbC_len)
        have HOn := Lib.hid HD2.out.one
        have HQe : Hid ((putP qs k false ((⟨o.u, ⟨#[]⟩, []⟩ : Sb), Value.slice none 0 0)).map Prod.fst = putP ss k false ⟨o.u, ⟨#[]⟩, []⟩) := Lib.hid (by rw [putP_fst, HQ1.out])
        have htl : (qs.take k).length = k := by rw [List.length_take]; omega
        have hdl : (qs.drop k).length = ss.length - k := by rw [List.length_drop]; omega
        have hq6 : qs.length ≤ 6 := by omega
        have x0 : wr.cell? ⟨D, 0, none⟩ = some (.slice va ss.length vc) := hX2.cell 0 _ rfl
        have hXa := hX2.alloc (.cells #[] 43)
        have xa0 : (wr.alloc (.cells #[] 43)).cell? ⟨D, 0, none⟩ = some (.slice va ss.length vc) := hXa.cell 0 _ rfl
        have HL0 := Lib.hid (OwnR.lit (k := 3) (C := sbC) 43 wr wr.heap.size (Nat.le_refl _))
        have hba : Below wr.heap.size wr (wr.alloc (.cells #[] 43)) := (Below.refl _ _).alloc (Nat.le_refl _) _
        have HT0 : Hid (RecAt 3 sbC (wr.alloc (.cells #[] 43)) wr.heap.size (.slice va k vc) (qs.take k)) := Lib.hid ((HRc.out.take k (by omega)).below hba)
        have hk3 : (0 : Int) ≤ (k : Int) ∧ (k : Int) ≤ (vc : Int) := by omega
        have hk4 : (0 : Int) ≤ (k : Int) ∧ (k : Int) ≤ (ss.length : Int) := by omega
        obtain ⟨g, hva, hg1, hg2, hgn⟩ := OwnR.form HD2.out.1 (by omega)
        clear hgn
        subst hva
        clear hql
        go_wp2_with (first
          | (at_builtin
             refine wpList_appR sbC_len (by decide) Try.underlying24 Try.infoSub rfl (by decide) rfl (.tmp 81) (.tmp 85) rfl wr.heap.size wr.heap.size _ _ [] (qs.take k) rfl rfl HL0.out HT0.out (fun y hy => sbC_one y (HOn.out y (List.mem_of_mem_take hy))) (by simp; omega) (by simp) ?_
             intro v3 w3 hown3 hg3
             rw [List.nil_append] at hown3
             obtain ⟨v3a, v3c, rfl⟩ := hown3.slice
             rw [htl] at hown3 ⊢
             have hb3 : Below wr.heap.size wr w3 := hba.trans (gb_Below hg3 (by simp) (by intro b hb; cases hb; exact Nat.le_refl _))
             have HX3 := Lib.hid (hX2.keep hb3 hX2.lt)
             have HZ3 := Lib.hid (hZ2.keep hb3 hZ2.lt)
             have HB3 := Lib.hid (hB2.trans (hb3.mono hB2.size))
             have HNw : Hid (RecAt 3 sbC (w3.alloc (.cells #[.string o.u, .string ⟨#[]⟩, .slice none 0 0] 43)) (w3.heap.size + 1) (.slice (some ⟨w3.heap.size, 0, none⟩) 1 1) [((⟨o.u, ⟨#[]⟩, []⟩ : Sb), Value.slice none 0 0)]) := Lib.hid (one_rec sbC_len w3 43 ((⟨o.u, ⟨#[]⟩, []⟩ : Sb), Value.slice none 0 0) #[.string o.u, .string ⟨#[]⟩, .slice none 0 0] rfl)
             have HO3 := Lib.hid (hown3.alloc (.cells #[.string o.u, .string ⟨#[]⟩, .slice none 0 0] 43))
             have hs3 : wr.heap.size ≤ w3.heap.size := hb3.size
             have HBb3 := Lib.hid hb3
             clear hown3 hg3 hb3 hX2 hZ2 hB2 x0 xa0 hXa hba HL0 HT0)
          | (at_builtin
             refine wpList_appR sbC_len (by decide) Try.underlying24 Try.infoSub rfl (by decide) rfl (.tmp 87) (.tmp 90) rfl wr.heap.size (w3.heap.size + 1) _ _ (qs.take k) [((⟨o.u, ⟨#[]⟩, []⟩ : Sb), Value.slice none 0 0)] rfl rfl HO3.out HNw.out (fun y hy => by
               obtain rfl : y = ((⟨o.u, ⟨#[]⟩, []⟩ : Sb), Value.slice none 0 0) := by simpa using hy
               exact sbC_one _ rfl) (by simp; omega) (by simp only [World.size_alloc]; omega) ?_
             intro v4 w4 hown4 hg4
             obtain ⟨v4a, v4c, hv4⟩ := hown4.slice
             have hl4 : (qs.take k ++ [((⟨o.u, ⟨#[]⟩, []⟩ : Sb), Value.slice none 0 0)]).length = k + 1 := by rw [List.length_append, htl]; rfl
             rw [hl4] at hv4
             subst hv4
             clear hl4
             have hb4 : Below wr.heap.size w3 w4 := ((Below.refl _ _).alloc hs3 _).trans (gb_Below hg4 (by simp only [World.size_alloc]; omega) (ownBlock_base HO3.out))
             have HX4 := HX3.out.keep hb4 (by have := HX3.out.lt; omega)
             have HZ4 := Lib.hid (HZ3.out.keep hb4 (by omega))
             have HB4 := Lib.hid (HB3.out.trans (hb4.mono (by omega)))
             have HBb4 := Lib.hid (HBb3.out.trans hb4)
             have x4 : w4.cell? ⟨D, 0, none⟩ = some (.slice (some ⟨g, 0, none⟩) ss.length vc) := HX4.cell 0 _ rfl
             have hs4 : wr.heap.size ≤ w4.heap.size := by have := hb4.size; omega
             have HR4 : Hid (RecAt 3 sbC w4 wr.heap.size (.slice (some ⟨g, k * 3, none⟩) (ss.length - k) (vc - k)) (qs.drop k)) := Lib.hid (by exact (HRc.out.below HBb4.out).drop k (by omega) (fun _ b2 off2 hab => by cases hab; simp))
             have HO4 := Lib.hid hown4
             clear hown4 hg4 hb4 HX4 HX3 HZ3 HB3 HBb3 HO3 HNw)
          | (at_builtin
             refine wpList_appR sbC_len (by decide) Try.underlying24 Try.infoSub rfl (by decide) rfl (.tmp 92) (.tmp 96) rfl wr.heap.size wr.heap.size _ _ (qs.take k ++ [((⟨o.u, ⟨#[]⟩, []⟩ : Sb), Value.slice none 0 0)]) (qs.drop k) rfl rfl HO4.out HR4.out (fun y hy => sbC_one y (HOn.out y (List.mem_of_mem_drop hy))) (by simp; omega) hs4 ?_
             intro v5 w5 hown5 hg5
             rw [putP_false] at hown5
             have hb5 : Below wr.heap.size w4 w5 := gb_Below hg5 hs4 (ownBlock_base HO4.out)
             have HD5 := Lib.hid (HD2.out.putNil (by omega) (HBb4.out.trans hb5) k o.u ⟨#[]⟩ hown5)
             obtain ⟨v5a, v5c, hv5⟩ := hown5.slice
             obtain ⟨n5, hn5⟩ : ∃ n, (putP qs k false ((⟨o.u, ⟨#[]⟩, []⟩ : Sb), Value.slice none 0 0)).length = n := ⟨_, rfl⟩
             rw [hn5] at hv5
             subst hv5
             clear hn5
             have HZ5 := HZ4.out.keep hb5 (by omega)
             have HB5 := Lib.hid (HB4.out.trans (hb5.mono (by omega)))
             have z0 : w5.cell? ⟨w.heap.size + 1 + 1, 0, none⟩ = some (.slice none 0 0) := HZ5.cell 0 _ rfl
             have zf := HZ5.free
             have hZ5 := Lib.hid HZ5
             clear hown5 hg5 hb5 HZ5 HZ4 HB4 HO4 HR4 x4))
        have hZe := hZ5.out.set 0 (.slice v5a n5 v5c)
        have hBe := HB5.out.setCell (p := ⟨w.heap.size + 1 + 1, 0, none⟩) (by simp; omega) (.slice v5a n5 v5c)
        have hDe := (HD5.out.aside ⟨w.heap.size + 1 + 1, 0, none⟩ (.slice v5a n5 v5c) (show w.heap.size + 1 + 1 < w.heap.size + 3 by omega)).lower (show w.heap.size ≤ w.heap.size + 3 by omega)
        generalize w5.setCell ⟨w.heap.size + 1 + 1, 0, none⟩ (.slice v5a n5 v5c) = We at hZe hBe hDe ⊢
        have p0 : We.cell? ⟨w.heap.size + 1 + 1, 0, none⟩ = some (.slice v5a n5 v5c) := hZe.cell 0 _ rfl
        exact bodyPost_ret (v := .tuple #[.agg #[.slice v5a n5 v5c], .bool true]) (by simp [results, Try.results53, go_sem, p0]) rfl (OutDn.some11 HDo.out ⟨_, _, rfl, HQe.out, hDe, hBe⟩)
      · by_cases hcp : vc = k
        · have hcs : k = vc := hcp.symm
          clear hcp
          subst hcs
          have HCp : Hid (k = k) := Lib.hid rfl
          have hkl : decide ((k : Int) < (ss.length : Int)) = false := decide_eq_false (by omega)
          have hql : qs.length = ss.length := by have := congrArg List.length HQ1.out; simpa using this
          have hcl : ss.length ≤ k := by have := HD2.out.1.capLe; omega
          have HRc : Hid (RecAt 3 sbC wr wr.heap.size (.slice va ss.length k) qs) := Lib.hid (HD2.out.1.at sbC_len)
          have HOn := Lib.hid HD2.out.one
          have HQe : Hid ((putP qs k false ((⟨o.u, ⟨#[]⟩, []⟩ : Sb), Value.slice none 0 0)).map Prod.fst = putP ss k false ⟨o.u, ⟨#[]⟩, []⟩) := Lib.hid (by rw [putP_fst, HQ1.out])
          have htl : (qs.take k).length = k := by rw [List.length_take]; omega
          have hdl : (qs.drop k).length = ss.length - k := by rw [List.length_drop]; omega
          have hq6 : qs.length ≤ 6 := by omega
          have x0 : wr.cell? ⟨D, 0, none⟩ = some (.slice va ss.length k) := hX2.cell 0 _ rfl
          have hXa := hX2.alloc (.cells #[] 43)
          have xa0 : (wr.alloc (.cells #[] 43)).cell? ⟨D, 0, none⟩ = some (.slice va ss.length k) := hXa.cell 0 _ rfl
          have HL0 := Lib.hid (OwnR.lit (k := 3) (C := sbC) 43 wr wr.heap.size (Nat.le_refl _))
          have hba : Below wr.heap.size wr (wr.alloc (.cells #[] 43)) := (Below.refl _ _).alloc (Nat.le_refl _) _
          have HT0 : Hid (RecAt 3 sbC (wr.alloc (.cells #[] 43)) wr.heap.size (.slice va k k) (qs.take k)) := Lib.hid ((HRc.out.take k (by omega)).below hba)
          have hk3 : (0 : Int) ≤ (k : Int) ∧ (k : Int) ≤ (k : Int) := by omega
          have hk4 : (0 : Int) ≤ (k : Int) ∧ (k : Int) ≤ (ss.length : Int) := by omega
          clear hql
          go_wp2_with (first
            | (at_builtin
               refine wpList_appR sbC_len (by decide) Try.underlying24 Try.infoSub rfl (by decide) rfl (.tmp 81) (.tmp 85) rfl wr.heap.size wr.heap.size _ _ [] (qs.take k) rfl rfl HL0.out HT0.out (fun y hy => sbC_one y (HOn.out y (List.mem_of_mem_take hy))) (by simp; omega) (by simp) ?_
               intro v3 w3 hown3 hg3
               rw [List.nil_append] at hown3
               obtain ⟨v3a, v3c, rfl⟩ := hown3.slice
               rw [htl] at hown3 ⊢
               have hb3 : Below wr.heap.size wr w3 := hba.trans (gb_Below hg3 (by simp) (by intro b hb; cases hb; exact Nat.le_refl _))
               have HX3 := Lib.hid (hX2.keep hb3 hX2.lt)
               have HZ3 := Lib.hid (hZ2.keep hb3 hZ2.lt)
               have HB3 := Lib.hid (hB2.trans (hb3.mono hB2.size))
               have HNw : Hid (RecAt 3 sbC (w3.alloc (.cells #[.string o.u, .string ⟨#[]⟩, .slice none 0 0] 43)) (w3.heap.size + 1) (.slice (some ⟨w3.heap.size, 0, none⟩) 1 1) [((⟨o.u, ⟨#[]⟩, []⟩ : Sb), Value.slice none 0 0)]) := Lib.hid (one_rec sbC_len w3 43 ((⟨o.u, ⟨#[]⟩, []⟩ : Sb), Value.slice none 0 0) #[.string o.u, .string ⟨#[]⟩, .slice none 0 0] rfl)
               have HO3 := Lib.hid (hown3.alloc (.cells #[.string o.u, .string ⟨#[]⟩, .slice none 0 0] 43))
               have hs3 : wr.heap.size ≤ w3.heap.size := hb3.size
               have HBb3 := Lib.hid hb3
               clear hown3 hg3 hb3 hX2 hZ2 hB2 x0 xa0 hXa hba HL0 HT0)
            | (at_builtin
               refine wpList_appR sbC_len (by decide) Try.underlying24 Try.infoSub rfl (by decide) rfl (.tmp 87) (.tmp 90) rfl wr.heap.size (w3.heap.size + 1) _ _ (qs.take k) [((⟨o.u, ⟨#[]⟩, []⟩ : Sb), Value.slice none 0 0)] rfl rfl HO3.out HNw.out (fun y hy => by
                 obtain rfl : y = ((⟨o.u, ⟨#[]⟩, []⟩ : Sb), Value.slice none 0 0) := by simpa using hy
                 exact sbC_one _ rfl) (by simp; omega) (by simp only [World.size_alloc]; omega) ?_
               intro v4 w4 hown4 hg4
               obtain ⟨v4a, v4c, hv4⟩ := hown4.slice
               have hl4 : (qs.take k ++ [((⟨o.u, ⟨#[]⟩, []⟩ : Sb), Value.slice none 0 0)]).length = k + 1 := by rw [List.length_append, htl]; rfl
               rw [hl4] at hv4
               subst hv4
               clear hl4
               have hb4 : Below wr.heap.size w3 w4 := ((Below.refl _ _).alloc hs3 _).trans (gb_Below hg4 (by simp only [World.size_alloc]; omega) (ownBlock_base HO3.out))
               have HX4 := HX3.out.keep hb4 (by have := HX3.out.lt; omega)
               have HZ4 := Lib.hid (HZ3.out.keep hb4 (by omega))
               have HB4 := Lib.hid (HB3.out.trans (hb4.mono (by omega)))
               have HBb4 := Lib.hid (HBb3.out.trans hb4)
               have x4 : w4.cell? ⟨D, 0, none⟩ = some (.slice va ss.length k) := HX4.cell 0 _ rfl
               have hs4 : wr.heap.size ≤ w4.heap.size := by have := hb4.size; omega
               have HR4 : Hid (RecAt 3 sbC w4 wr.heap.size (.slice va 0 0) (qs.drop k)) := Lib.hid (by have := (HRc.out.below HBb4.out).drop k (a2 := va) (by omega) (fun h b2 off2 hab => absurd h (by omega)); rw [Nat.sub_self, show ss.length - k = 0 by omega] at this; exact this)
               have HO4 := Lib.hid hown4
               clear hown4 hg4 hb4 HX4 HX3 HZ3 HB3 HBb3 HO3 HNw)
            | (at_builtin
               refine wpList_appR sbC_len (by decide) Try.underlying24 Try.infoSub rfl (by decide) rfl (.tmp 92) (.tmp 96) rfl wr.heap.size wr.heap.size _ _ (qs.take k ++ [((⟨o.u, ⟨#[]⟩, []⟩ : Sb), Value.slice none 0 0)]) (qs.drop k) rfl rfl HO4.out HR4.out (fun y hy => sbC_one y (HOn.out y (List.mem_of_mem_drop hy))) (by simp; omega) hs4 ?_
               intro v5 w5 hown5 hg5
               rw [putP_false] at hown5
               have hb5 : Below wr.heap.size w4 w5 := gb_Below hg5 hs4 (ownBlock_base HO4.out)
               have HD5 := Lib.hid (HD2.out.putNil (by omega) (HBb4.out.trans hb5) k o.u ⟨#[]⟩ hown5)
               obtain ⟨v5a, v5c, hv5⟩ := hown5.slice
               obtain ⟨n5, hn5⟩ : ∃ n, (putP qs k false ((⟨o.u, ⟨#[]⟩, []⟩ : Sb), Value.slice none 0 0)).length = n := ⟨_, rfl⟩
               rw [hn5] at hv5
               subst hv5
               clear hn5
               have HZ5 := HZ4.out.keep hb5 (by omega)
               have HB5 := Lib.hid (HB4.out.trans (hb5.mono (by omega)))
               have z0 : w5.cell? ⟨w.heap.size + 1 + 1, 0, none⟩ = some (.slice none 0 0) := HZ5.cell 0 _ rfl
               have zf := HZ5.free
               have hZ5 := Lib.hid HZ5
               clear hown5 hg5 hb5 HZ5 HZ4 HB4 HO4 HR4 x4))
          have hZe := hZ5.out.set 0 (.slice v5a n5 v5c)
          have hBe := HB5.out.setCell (p := ⟨w.heap.size + 1 + 1, 0, none⟩) (by simp; omega) (.slice v5a n5 v5c)
          have hDe := (HD5.out.aside ⟨w.heap.size + 1 + 1, 0, none⟩ (.slice v5a n5 v5c) (show w.heap.size + 1 + 1 < w.heap.size + 3 by omega)).lower (show w.heap.size ≤ w.heap.size + 3 by omega)
          generalize w5.setCell ⟨w.heap.size + 1 + 1, 0, none⟩ (.slice v5a n5 v5c) = We at hZe hBe hDe ⊢
          have p0 : We.cell? ⟨w.heap.size + 1 + 1, 0, none⟩ = some (.slice v5a n5 v5c) := hZe.cell 0 _ rfl
          exact bodyPost_ret (v := .tuple #[.agg #[.slice v5a n5 v5c], .bool true]) (by simp [results, Try.results53, go_sem, p0]) rfl (OutDn.some11 HDo.out ⟨_, _, rfl, HQe.out, hDe, hBe⟩)
        · have HCp := Lib.hid hcp
          cases va with
          | none => exact absurd (show vc = k by have := HD2.out.1.noneCap; omega) hcp
          | some va0 =>
            obtain ⟨g, hva, hg1, hg2⟩ := HD2.out.1.someForm
            subst hva
            have hkl : decide ((k : Int) < (ss.length : Int)) = false := decide_eq_false (by omega)
            have hql : qs.length = ss.length := by have := congrArg List.length HQ1.out; simpa using this
            have hcl : ss.length ≤ vc := by have := HD2.out.1.capLe; omega
            have HRc : Hid (RecAt 3 sbC wr wr.heap.size (.slice (some ⟨g, 0, none⟩) ss.length vc) qs) := Lib.hid (HD2.out.1.at sbC_len)
            have HOn := Lib.hid HD2.out.one
            have HQe : Hid ((putP qs k false ((⟨o.u, ⟨#[]⟩, []⟩ : Sb), Value.slice none 0 0)).map Prod.fst = putP ss k false ⟨o.u, ⟨#[]⟩, []⟩) := Lib.hid (by rw [putP_fst, HQ1.out])
            have htl : (qs.take k).length = k := by rw [List.length_take]; omega
            have hdl : (qs.drop k).length = ss.length - k := by rw [List.length_drop]; omega
            have hq6 : qs.length ≤ 6 := by omega
            have x0 : wr.cell? ⟨D, 0, none⟩ = some (.slice (some ⟨g, 0, none⟩) ss.length vc) := hX2.cell 0 _ rfl
            have hXa := hX2.alloc (.cells #[] 43)
            have xa0 : (wr.alloc (.cells #[] 43)).cell? ⟨D, 0, none⟩ = some (.slice (some ⟨g, 0, none⟩) ss.length vc) := hXa.cell 0 _ rfl
            have HL0 := Lib.hid (OwnR.lit (k := 3) (C := sbC) 43 wr wr.heap.size (Nat.le_refl _))
            have hba : Below wr.heap.size wr (wr.alloc (.cells #[] 43)) := (Below.refl _ _).alloc (Nat.le_refl _) _
            have HT0 : Hid (RecAt 3 sbC (wr.alloc (.cells #[] 43)) wr.heap.size (.slice (some ⟨g, 0, none⟩) k vc) (qs.take k)) := Lib.hid ((HRc.out.take k (by omega)).below hba)
            have hk3 : (0 : Int) ≤ (k : Int) ∧ (k : Int) ≤ (vc : Int) := by omega
            have hk4 : (0 : Int) ≤ (k : Int) ∧ (k : Int) ≤ (ss.length : Int) := by omega
            clear hql
            go_wp2_with (first
              | (at_builtin
                 refine wpList_appR sbC_len (by decide) Try.underlying24 Try.infoSub rfl (by decide) rfl (.tmp 81) (.tmp 85) rfl wr.heap.size wr.heap.size _ _ [] (qs.take k) rfl rfl HL0.out HT0.out (fun y hy => sbC_one y (HOn.out y (List.mem_of_mem_take hy))) (by simp; omega) (by simp) ?_
                 intro v3 w3 hown3 hg3
                 rw [List.nil_append] at hown3
                 obtain ⟨v3a, v3c, rfl⟩ := hown3.slice
                 rw [htl] at hown3 ⊢
                 have hb3 : Below wr.heap.size wr w3 := hba.trans (gb_Below hg3 (by simp) (by intro b hb; cases hb; exact Nat.le_refl _))
                 have HX3 := Lib.hid (hX2.keep hb3 hX2.lt)
                 have HZ3 := Lib.hid (hZ2.keep hb3 hZ2.lt)
                 have HB3 := Lib.hid (hB2.trans (hb3.mono hB2.size))
                 have HNw : Hid (RecAt 3 sbC (w3.alloc (.cells #[.string o.u, .string ⟨#[]⟩, .slice none 0 0] 43)) (w3.heap.size + 1) (.slice (some ⟨w3.heap.size, 0, none⟩) 1 1) [((⟨o.u, ⟨#[]⟩, []⟩ : Sb), Value.slice none 0 0)]) := Lib.hid (one_rec sbC_len w3 43 ((⟨o.u, ⟨#[]⟩, []⟩ : Sb), Value.slice none 0 0) #[.string o.u, .string ⟨#[]⟩, .slice none 0 0] rfl)
                 have HO3 := Lib.hid (hown3.alloc (.cells #[.string o.u, .string ⟨#[]⟩, .slice none 0 0] 43))
                 have hs3 : wr.heap.size ≤ w3.heap.size := hb3.size
                 have HBb3 := Lib.hid hb3
                 clear hown3 hg3 hb3 hX2 hZ2 hB2 x0 xa0 hXa hba HL0 HT0)
              | (at_builtin
                 refine wpList_appR sbC_len (by decide) Try.underlying24 Try.infoSub rfl (by decide) rfl (.tmp 87) (.tmp 90) rfl wr.heap.size (w3.heap.size + 1) _ _ (qs.take k) [((⟨o.u, ⟨#[]⟩, []⟩ : Sb), Value.slice none 0 0)] rfl rfl HO3.out HNw.out (fun y hy => by
                   obtain rfl : y = ((⟨o.u, ⟨#[]⟩, []⟩ : Sb), Value.slice none 0 0) := by simpa using hy
                   exact sbC_one _ rfl) (by simp; omega) (by simp only [World.size_alloc]; omega) ?_
                 intro v4 w4 hown4 hg4
                 obtain ⟨v4a, v4c, hv4⟩ := hown4.slice
                 have hl4 : (qs.take k ++ [((⟨o.u, ⟨#[]⟩, []⟩ : Sb), Value.slice none 0 0)]).length = k + 1 := by rw [List.length_append, htl]; rfl
                 rw [hl4] at hv4
                 subst hv4
                 clear hl4
                 have hb4 : Below wr.heap.size w3 w4 := ((Below.refl _ _).alloc hs3 _).trans (gb_Below hg4 (by simp only [World.size_alloc]; omega) (ownBlock_base HO3.out))
                 have HX4 := HX3.out.keep hb4 (by have := HX3.out.lt; omega)
                 have HZ4 := Lib.hid (HZ3.out.keep hb4 (by omega))
                 have HB4 := Lib.hid (HB3.out.trans (hb4.mono (by omega)))
                 have HBb4 := Lib.hid (HBb3.out.trans hb4)
                 have x4 : w4.cell? ⟨D, 0, none⟩ = some (.slice (some ⟨g, 0, none⟩) ss.length vc) := HX4.cell 0 _ rfl
                 have hs4 : wr.heap.size ≤ w4.heap.size := by have := hb4.size; omega
                 have HR4 : Hid (RecAt 3 sbC w4 wr.heap.size (.slice (some ⟨g, k * 3, none⟩) (ss.length - k) (vc - k)) (qs.drop k)) := Lib.hid (by exact (HRc.out.below HBb4.out).drop k (by omega) (fun _ b2 off2 hab => by cases hab; simp))
                 have HO4 := Lib.hid hown4
                 clear hown4 hg4 hb4 HX4 HX3 HZ3 HB3 HBb3 HO3 HNw)
              | (at_builtin
                 refine wpList_appR sbC_len (by decide) Try.underlying24 Try.infoSub rfl (by decide) rfl (.tmp 92) (.tmp 96) rfl wr.heap.size wr.heap.size _ _ (qs.take k ++ [((⟨o.u, ⟨#[]⟩, []⟩ : Sb), Value.slice none 0 0)]) (qs.drop k) rfl rfl HO4.out HR4.out (fun y hy => sbC_one y (HOn.out y (List.mem_of_mem_drop hy))) (by simp; omega) hs4 ?_
                 intro v5 w5 hown5 hg5
                 rw [putP_false] at hown5
                 have hb5 : Below wr.heap.size w4 w5 := gb_Below hg5 hs4 (ownBlock_base HO4.out)
                 have HD5 := Lib.hid (HD2.out.putNil (by omega) (HBb4.out.trans hb5) k o.u ⟨#[]⟩ hown5)
                 obtain ⟨v5a, v5c, hv5⟩ := hown5.slice
                 obtain ⟨n5, hn5⟩ : ∃ n, (putP qs k false ((⟨o.u, ⟨#[]⟩, []⟩ : Sb), Value.slice none 0 0)).length = n := ⟨_, rfl⟩
                 rw [hn5] at hv5
                 subst hv5
                 clear hn5
                 have HZ5 := HZ4.out.keep hb5 (by omega)
                 have HB5 := Lib.hid (HB4.out.trans (hb5.mono (by omega)))
                 have z0 : w5.cell? ⟨w.heap.size + 1 + 1, 0, none⟩ = some (.slice none 0 0) := HZ5.cell 0 _ rfl
                 have zf := HZ5.free
                 have hZ5 := Lib.hid HZ5
                 clear hown5 hg5 hb5 HZ5 HZ4 HB4 HO4 HR4 x4))
            have hZe := hZ5.out.set 0 (.slice v5a n5 v5c)
            have hBe := HB5.out.setCell (p := ⟨w.heap.size + 1 + 1, 0, none⟩) (by simp; omega) (.slice v5a n5 v5c)
            have hDe := (HD5.out.aside ⟨w.heap.size + 1 + 1, 0, none⟩ (.slice v5a n5 v5c) (show w.heap.size + 1 + 1 < w.heap.size + 3 by omega)).lower (show w.heap.size ≤ w.heap.size + 3 by omega)
            generalize w5.setCell ⟨w.heap.size + 1 + 1, 0, none⟩ (.slice v5a n5 v5c) = We at hZe hBe hDe ⊢
            have p0 : We.cell? ⟨w.heap.size + 1 + 1, 0, none⟩ = some (.slice v5a n5 v5c) := hZe.cell 0 _ rfl
            exact bodyPost_ret (v := .tuple #[.agg #[.slice v5a n5 v5c], .bool true]) (by simp [results, Try.results53, go_sem, p0]) rfl (OutDn.some11 HDo.out ⟨_, _, rfl, HQe.out, hDe, hBe⟩)
end Go.Proofs.Ytffkakpbelknaaa

/- What the laws on polls draw: more arguments; the walk of FnLonger. -/
import Derived.Test.YtlipgmaiooljkaaW16j
namespace Go.Proofs.Ytlipgmaiooljkaa
open Go.ChangeShapes Go.WideShapes Go.ChangeAt Go.RowKit
set_option linter.unusedVariables false
set_option linter.unusedSimpArgs false

set_option maxRecDepth 100000 in
set_option maxHeartbeats 2000000 in
theorem drawPollNew_any (w : World) (cv : Value) (zs : List Int) (h : Cd w cv zs) :
    Calls Try.prog 34 #[cv] w fun e w' => ∃ (u : ByteArray) (n : Int), e = .returned (.tuple #[.string u, .int .i64 n]) ∧ u.size ≤ 3 ∧ (Lit.int .i64 n).wf = true ∧ Below w.heap.size w w' := by
  obtain ⟨a, len, cap, hcv⟩ := h.form
  have HV := Lib.hid hcv
  clear hcv
  go_enter Try.func34, Try.ntmps34
  go_wp2_with fail
  refine (open_any cv a len cap HV.out _).mono ?_
  rintro e w1 ⟨rfl, rfl⟩
  go_wp2_with fail
  refine (url_any _ _ cv zs _ h.rd).mono ?_
  rintro e w2 ⟨u, rfl, hu, hr2, hg2⟩
  go_wp2_with fail
  refine (off_any 0 100 _ _ cv zs _ hr2 (by omega) (by omega) (by omega)).mono ?_
  rintro e w3 ⟨n, rfl, hn, hr3, hg3⟩
  have hb := below_open (grown_trans hg2 hg3)
  clear hg2 hg3
  go_wp2
  go_ret2
  exact ⟨u, n, rfl, hu, hn, hb⟩

set_option maxRecDepth 100000 in
set_option maxHeartbeats 2000000 in
theorem drawPollOk_any (w : World) (cv : Value) (zs : List Int) (h : Cd w cv zs) :
    Calls Try.prog 35 #[cv] w fun e w' => ∃ p : PollD, e = .returned (pkV p) ∧ PlD p ∧ Below w.heap.size w w' := by
  obtain ⟨a, len, cap, hcv⟩ := h.form
  have HV := Lib.hid hcv
  clear hcv
  have hB0 : Below w.heap.size w (w.alloc (.cells pk0C 23)) := (Below.refl _ _).alloc (Nat.le_refl _) _
  have hx0 := Box.new w pk0C 23
  have hc0 : Cd (w.alloc (.cells pk0C 23)) cv zs := h.below hB0
  have hz0 : (w.alloc (.cells pk0C 23)).heap.size = w.heap.size + 1 := by simp
  go_enter Try.func35, Try.ntmps35
  go_wp2_with fail
  generalize w.alloc (.cells pk0C 23) = W0 at hB0 hx0 hc0 hz0 ⊢
  refine (open_any cv a len cap HV.out _).mono ?_
  rintro e w1 ⟨rfl, rfl⟩
  have hrd := hc0.rd
  have hgr := World.grownBy.refl (W0.alloc (.cells #[cv, .int .i64 0] 114)) (some W0.heap.size)
  replace hx0 := hx0.alloc (.cells #[cv, .int .i64 0] 114)
  have hB1 := hB0.alloc hB0.size (.cells #[cv, .int .i64 0] 114)
  generalize hrb : W0.heap.size = rb at hrd hgr ⊢
  rw [hz0] at hrb
  generalize W0.alloc (.cells #[cv, .int .i64 0] 114) = W1 at hrd hgr hx0 hB1 ⊢
  clear hc0 hz0 hB0
  have HG : Hid (∀ w', W1.grownBy w' (some rb) → Below w.heap.size w w') := Lib.hid (fun w' hg => hB1.trans (below_of_grown hg (by omega) hB1.size))
  go_wp2_with fail
  refine (poll_any _ _ cv zs _ hrd).mono ?_
  rintro e w2 ⟨q, rfl, hq, hrd, hg2⟩
  replace hx0 := hx0.keepG hg2 (by omega)
  replace hgr := grown_trans hgr hg2
  clear hg2
  obtain ⟨u, m, n, wt, f, gg⟩ := q
  have HQ := Lib.hid hq
  have hp := Box.new w2 #[.string u, .string m, .int .i64 n, .int .i64 wt, .int .i64 f, .bool gg] 23
  have hpl : w.heap.size < w2.heap.size := hx0.lt
  have hpr : rb < w2.heap.size := hrd.lt
  replace hx0 := hx0.alloc (.cells #[.string u, .string m, .int .i64 n, .int .i64 wt, .int .i64 f, .bool gg] 23)
  replace hrd := hrd.alloc (.cells #[.string u, .string m, .int .i64 n, .int .i64 wt, .int .i64 f, .bool gg] 23)
  replace hgr := grown_trans hgr (World.grownBy_alloc w2 (.cells #[.string u, .string m, .int .i64 n, .int .i64 wt, .int .i64 f, .bool gg] 23) (some rb))
  clear hq hB1
  go_wp2_with fail
  generalize w2.alloc (.cells #[.string u, .string m, .int .i64 n, .int .i64 wt, .int .i64 f, .bool gg] 23) = W2 at hx0 hrd hgr hp ⊢
  generalize w2.heap.size = G at hp hpl hpr ⊢
  refine (once_any 6 _ _ cv zs _ hrd (by omega) (by omega)).mono ?_
  rintro e w3 ⟨bb, rfl, hrd, hg3⟩
  replace hx0 := hx0.keepG hg3 (by omega)
  replace hp := hp.keepG hg3 (by omega)
  replace hgr := grown_trans hgr hg3
  clear hg3
  cases bb with
  | false =>
    have y0 := hp.cell 0 _ rfl
    have y1 := hp.cell 1 _ rfl
    have y2 := hp.cell 2 _ rfl
    have y3 := hp.cell 3 _ rfl
    have y4 := hp.cell 4 _ rfl
    have y5 := hp.cell 5 _ rfl
    have z0 := hx0.cell 0 _ rfl
    have z1 := hx0.cell 1 _ rfl
    have z2 := hx0.cell 2 _ rfl
    have z3 := hx0.cell 3 _ rfl
    have z4 := hx0.cell 4 _ rfl
    have z5 := hx0.cell 5 _ rfl
    have g0 := hx0.free 0
    have g1 := hx0.free 1
    have g2 := hx0.free 2
    have g3 := hx0.free 3
    have g4 := hx0.free 4
    have g5 := hx0.free 5
    go_wp2
    refine bodyPost_ret (results_pk rfl _ _ _ _ rfl rfl (hx0.put6 rfl _ _ _ _ _ _)) rfl ?_
    exact ⟨⟨u, m, n, wt, f, gg⟩, rfl, HQ.out, (HG.out _ hgr).trans (below6 _ w.heap.size _ (Nat.le_refl _) _ _ _ _ _ _)⟩
  | true =>
    go_wp2_with fail
    refine (off_any 0 20 _ _ cv zs _ hrd (by omega) (by omega) (by omega)).mono ?_
    rintro e w4 ⟨oo, rfl, hoo, hrd, hg4⟩
    replace hx0 := hx0.keepG hg4 (by omega)
    replace hp := hp.keepG hg4 (by omega)
    replace hgr := grown_trans hgr hg4
    clear hg4
    have yk := hp.cell 4 _ rfl
    have fk := hp.free 4
    have hps := hp.set 4 (.int .i64 oo)
    change Box _ G #[.string u, .string m, .int .i64 n, .int .i64 wt, .int .i64 oo, .bool gg] _ at hps
    have hbe : Below G w4 (w4.setCell ⟨G, 4, none⟩ (.int .i64 oo)) := (Below.refl _ _).setCell (p := ⟨G, 4, none⟩) (Nat.le_refl _) _
    have hxs := hx0.keep hbe hpl
    have hBs := (HG.out _ hgr).trans (hbe.mono (Nat.le_of_lt hpl))
    clear hp hx0
    have hp := hps
    have hx0 := hxs
    clear hps hxs hbe hgr hrd
    have y0 := hp.cell 0 _ rfl
    have y1 := hp.cell 1 _ rfl
    have y2 := hp.cell 2 _ rfl
    have y3 := hp.cell 3 _ rfl
    have y4 := hp.cell 4 _ rfl
    have y5 := hp.cell 5 _ rfl
    have z0 := hx0.cell 0 _ rfl
    have z1 := hx0.cell 1 _ rfl
    have z2 := hx0.cell 2 _ rfl
    have z3 := hx0.cell 3 _ rfl
    have z4 := hx0.cell 4 _ rfl
    have z5 := hx0.cell 5 _ rfl
    have g0 := hx0.free 0
    have g1 := hx0.free 1
    have g2 := hx0.free 2
    have g3 := hx0.free 3
    have g4 := hx0.free 4
    have g5 := hx0.free 5
    go_wp2
    refine bodyPost_ret (results_pk rfl _ _ _ _ rfl rfl (hx0.put6 rfl _ _ _ _ _ _)) rfl ?_
    exact ⟨⟨u, m, n, wt, oo, gg⟩, rfl, HQ.out, hBs.trans (below6 _ w.heap.size _ (Nat.le_refl _) _ _ _ _ _ _)⟩

theorem paD_500 {u m : ByteArray} {n wt f : Int} {gg : Bool} : paD ⟨u, m, n, wt, f, gg⟩ n ⟨500, ⟨#[]⟩, ⟨#[]⟩, 0⟩ = ⟨u, m, n + min (wt * 2) 1000, min (wt * 2) 1000, min (f + 1) 20, gg⟩ := by simp [paD, paT, paW, pkX, flP]
theorem an500_sz : AnSz ⟨500, ⟨#[]⟩, ⟨#[]⟩, 0⟩ := ⟨Nat.zero_le _, Nat.zero_le _⟩

set_option maxRecDepth 100000 in
set_option maxHeartbeats 3000000 in
theorem walk_FnLonger (a : Option Addr) (len cap : Nat) (z : List Int) (w : World) (h : IsRow .u8 w a len cap z) :
    Calls Try.prog 8 #[.slice a len cap] w fun e w' => e = .returned (.bool true) ∧ Below w.heap.size w w' := by
  have hcd := Cd.of_row h
  obtain ⟨cv, hcv⟩ : ∃ cv : Value, cv = .slice a len cap := ⟨_, rfl⟩
  rw [← hcv] at hcd ⊢
  clear h hcv
  go_enter Try.func8, Try.ntmps8
  go_wp2_with fail
  refine (big_any _ cv _ hcd).mono ?_
  rintro e w1 ⟨⟨b, rfl⟩, rfl⟩
  cases b with
  | true =>
    go_wp2
    go_ret
    exact ⟨rfl, Below.refl _ _⟩
  | false =>
    go_wp2_with fail
    refine (drawPollAfter_any _ cv _ hcd).mono ?_
    rintro e v1 ⟨p, now, an, rfl, hp, han, hnow, hd1⟩
    clear hcd
    obtain ⟨pu, pm, pn, pw, pf, pg⟩ := p
    obtain ⟨ac, am, au, af⟩ := an
    have HP := Lib.hid hp.sz
    have hx : Box ((v1.alloc (.cells #[.string pu, .string pm, .int .i64 pn, .int .i64 pw, .int .i64 pf, .bool pg] 23)).alloc (.cells #[.int .i64 ac, .string am, .string au, .int .i64 af] 37)) v1.heap.size #[.string pu, .string pm, .int .i64 pn, .int .i64 pw, .int .i64 pf, .bool pg] 23 := (Box.new v1 _ _).alloc _
    have hB : Below w.heap.size w ((v1.alloc (.cells #[.string pu, .string pm, .int .i64 pn, .int .i64 pw, .int .i64 pf, .bool pg] 23)).alloc (.cells #[.int .i64 ac, .string am, .string au, .int .i64 af] 37)) := (hd1.alloc hd1.size _).alloc (by have := hd1.size; simp; omega) _
    have hGw : w.heap.size ≤ v1.heap.size := hd1.size
    clear hp han hnow hd1
    go_wp2
    generalize (v1.alloc (.cells #[.string pu, .string pm, .int .i64 pn, .int .i64 pw, .int .i64 pf, .bool pg] 23)).alloc (.cells #[.int .i64 ac, .string am, .string au, .int .i64 af] 37) = W1 at hx hB ⊢
    generalize v1.heap.size = G at hx hGw ⊢
    go_loopw [6] (fun i wr => ∃ (k : Nat) (q : PollD), k ≤ 6 ∧ i = .int .i64 (k : Int) ∧ Hid (PkSz q) ∧ Box wr G (pkC q) 23 ∧ Below w.heap.size w wr) (fun i _ => 6 - (intOf i).toNat)
    case atStart => exact ⟨0, ⟨pu, pm, pn, pw, pf, pg⟩, Nat.zero_le _, rfl, HP, hx, hB⟩
    case round =>
      clear hx hB HP
      obtain ⟨k, q, hk, rfl, HP, hx, hB⟩ := hrel
      by_cases hlt : k < 6
      case neg =>
        go_wp2
        go_ret
        exact ⟨rfl, hB⟩
      have HI := Lib.hid (fun w => implPollAfter_any q q.n ⟨500, ⟨#[]⟩, ⟨#[]⟩, 0⟩ w HP.out an500_sz)
      have HS := Lib.hid (fun w => specPollAfter_any q q.n ⟨500, ⟨#[]⟩, ⟨#[]⟩, 0⟩ w HP.out an500_sz)
      have HT := Lib.hid (fun h => paV_true (p := q) (now := q.n) (a := ⟨500, ⟨#[]⟩, ⟨#[]⟩, 0⟩) h)
      have HE := Lib.hid (fun h : paO q q.n ⟨500, ⟨#[]⟩, ⟨#[]⟩, 0⟩ = true => (show pkB q = true by rw [paO_eq] at h; simp only [Bool.and_eq_true] at h; exact h.1.1.1.1))
      have HI2 := Lib.hid (fun h => pkB_inv (p := q) h)
      generalize paV q q.n ⟨500, ⟨#[]⟩, ⟨#[]⟩, 0⟩ = nq at HI HS HT
      generalize paO q q.n ⟨500, ⟨#[]⟩, ⟨#[]⟩, 0⟩ = O at HI HS HT HE
      obtain ⟨u, m, n, wt, f, gg⟩ := q
      obtain ⟨nu, nm, nn, nw, nf, ng⟩ := nq
      dsimp only at HI HS HI2
      have hG : G < wr.heap.size := hx.lt
      have x0 := hx.cell 0 _ rfl
      have x1 := hx.cell 1 _ rfl
      have x2 := hx.cell 2 _ rfl
      have x3 := hx.cell 3 _ rfl
      have x4 := hx.cell 4 _ rfl
      have x5 := hx.cell 5 _ rfl
      go_wp2_with fail
      refine (HI.out _).mono ?_
      rintro e w2 ⟨rfl, hb2⟩
      replace hx := hx.keep hb2 hG
      replace hB := hB.trans (hb2.mono hB.size)
      have hG2 : G < w2.heap.size := hx.lt
      have hn := Box.new w2 #[.string nu, .string nm, .int .i64 nn, .int .i64 nw, .int .i64 nf, .bool ng] 23
      replace hx := hx.alloc (.cells #[.string nu, .string nm, .int .i64 nn, .int .i64 nw, .int .i64 nf, .bool ng] 23)
      replace hB := hB.alloc hB.size (.cells #[.string nu, .string nm, .int .i64 nn, .int .i64 nw, .int .i64 nf, .bool ng] 23)
      clear hb2 x0 x1 x2 x3 x4 x5
      have x0 := hx.cell 0 _ rfl
      have x1 := hx.cell 1 _ rfl
      have x2 := hx.cell 2 _ rfl
      have x3 := hx.cell 3 _ rfl
      have x4 := hx.cell 4 _ rfl
      have x5 := hx.cell 5 _ rfl
      go_wp2_with fail
      generalize w2.alloc (.cells #[.string nu, .string nm, .int .i64 nn, .int .i64 nw, .int .i64 nf, .bool ng] 23) = W2 at hx hB hn x0 x1 x2 x3 x4 x5 ⊢
      generalize w2.heap.size = J at hn hG2 ⊢
      refine (HS.out _).mono ?_
      rintro e w3 ⟨rfl, hb3⟩
      replace hx := hx.keep hb3 hx.lt
      replace hn := hn.keep hb3 hn.lt
      replace hB := hB.trans (hb3.mono hB.size)
      replace hx := hx.alloc (.cells #[.string nu, .string nm, .int .i64 nn, .int .i64 nw, .int .i64 nf, .bool ng] 23)
      replace hn := hn.alloc (.cells #[.string nu, .string nm, .int .i64 nn, .int .i64 nw, .int .i64 nf, .bool ng] 23)
      replace hB := hB.alloc hB.size (.cells #[.string nu, .string nm, .int .i64 nn, .int .i64 nw, .int .i64 nf, .bool ng] 23)
      clear hb3 x0 x1 x2 x3 x4 x5
      have hOO : (O != O) = false := by cases O <;> rfl
      cases O with
      | false =>
        go_wp2
        go_ret
        exact ⟨rfl, hB⟩
      | true =>
        have hnq := HT.out rfl
        rw [paD_500] at hnq
        injection hnq with e1 e2 e3 e4 e5 e6
        obtain ⟨i1, i2, i3, i4, i5, i6⟩ := HI2.out (HE.out rfl)
        subst e1 e2 e5 e6
        have hPs : Hid (PkSz ⟨nu, nm, nn, nw, min (f + 1) 20, ng⟩) := Lib.hid HP.out
        clear HT HE HI2 HI HS
        subst e4
        generalize min (f + 1) 20 = nf at hn hPs hx hB ⊢
        obtain ⟨W, hW, hW2⟩ : ∃ W : Int, wt * 2 = W ∧ 2 * wt = W := ⟨wt * 2, rfl, by omega⟩
        rw [hW] at e3 hn hPs hx hB ⊢
        clear hW
        by_cases hc : W < 1000
        · have hm : min W 1000 = W := by omega
          rw [hm] at e3 hn hPs hx hB ⊢
          subst e3
          clear hm
          have x0 := hx.cell 0 _ rfl
          have x1 := hx.cell 1 _ rfl
          have x2 := hx.cell 2 _ rfl
          have x3 := hx.cell 3 _ rfl
          have x4 := hx.cell 4 _ rfl
          have x5 := hx.cell 5 _ rfl
          have y0 := hx.free 0
          have y1 := hx.free 1
          have y2 := hx.free 2
          have y3 := hx.free 3
          have y4 := hx.free 4
          have y5 := hx.free 5
          have z0 := hn.cell 0 _ rfl
          have z1 := hn.cell 1 _ rfl
          have z2 := hn.cell 2 _ rfl
          have z3 := hn.cell 3 _ rfl
          have z4 := hn.cell 4 _ rfl
          have z5 := hn.cell 5 _ rfl
          go_wp2
          trace_state
          go_roundw
          case rel => exact ⟨k + 1, _, by omega, by go_num, hPs, hx.put6 rfl _ _ _ _ _ _, hB.trans (below6 _ _ _ hGw _ _ _ _ _ _)⟩
          case measure => simp [intOf]; omega
        · have hm : min W 1000 = 1000 := by omega
          rw [hm] at e3 hn hPs hx hB ⊢
          subst e3
          clear hm
          have x0 := hx.cell 0 _ rfl
          have x1 := hx.cell 1 _ rfl
          have x2 := hx.cell 2 _ rfl
          have x3 := hx.cell 3 _ rfl
          have x4 := hx.cell 4 _ rfl
          have x5 := hx.cell 5 _ rfl
          have y0 := hx.free 0
          have y1 := hx.free 1
          have y2 := hx.free 2
          have y3 := hx.free 3
          have y4 := hx.free 4
          have y5 := hx.free 5
          have z0 := hn.cell 0 _ rfl
          have z1 := hn.cell 1 _ rfl
          have z2 := hn.cell 2 _ rfl
          have z3 := hn.cell 3 _ rfl
          have z4 := hn.cell 4 _ rfl
          have z5 := hn.cell 5 _ rfl
          go_wp2
          trace_state
          go_roundw
          case rel => exact ⟨k + 1, _, by omega, by go_num, hPs, hx.put6 rfl _ _ _ _ _ _, hB.trans (below6 _ _ _ hGw _ _ _ _ _ _)⟩
          case measure => simp [intOf]; omega
end Go.Proofs.Ytlipgmaiooljkaa

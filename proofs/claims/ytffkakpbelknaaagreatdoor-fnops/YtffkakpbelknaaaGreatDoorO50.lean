/- Parts of the proof. -/
import Derived.Test.YtffkakpbelknaaaGreatDoorO17
import Derived.Test.YtffkakpbelknaaaGreatDoorO25
import Derived.Test.YtffkakpbelknaaaGreatDoorO26
import Derived.Test.YtffkakpbelknaaaGreatDoorO42
import Derived.Test.YtffkakpbelknaaaGreatDoorO49
set_option maxHeartbeats 4000000
set_option maxRecDepth 100000
namespace Go.Proofs.YtffkakpbelknaaaGreatDoor
open Go.ChangeShapes Go.WideShapes Go.ChangeAt Go.RowKit
set_option linter.unusedVariables false
theorem opB_szs {q : OpD} (hb : opB q = true) : OpSz q /\ ∀ x ∈ q.its, x.id.size <= maxLen /\ x.ti.size <= maxLen := by
 obtain ⟨k, u, i, d, fu, ft, its⟩ := q
 unfold opB at hb
 dsimp only at hb ⊢
 by_cases h1 : k = 1 \/ k = 2 \/ k = 8
 ·rw [if_pos h1] at hb
  simp only [Bool.and_eq_true] at hb
  obtain ⟨⟨⟨hu, hi⟩, hd⟩, hf⟩ := hb
  obtain rfl := em_nil hi
  obtain ⟨rfl, rfl, rfl⟩ := fe_nil hf
  have := nm_size hu
  exact ⟨⟨by unfold maxLen; dsimp only; omega, Nat.zero_le _, Nat.zero_le _, Nat.zero_le _⟩, (fun x hx => by cases hx)⟩
 ·rw [if_neg h1] at hb
  by_cases h3 : k = 3
  ·rw [if_pos h3] at hb
   simp only [Bool.and_eq_true] at hb
   obtain ⟨⟨⟨hu, hi⟩, hd⟩, hf⟩ := hb
   obtain rfl := em_nil hi
   obtain rfl := em_nil hu
   obtain ⟨g1, g2, g3⟩ := fdB_parts8 hf
   have g4 := fdB_len hf
   refine ⟨⟨Nat.zero_le _, Nat.zero_le _, by unfold maxLen; dsimp only; omega, by unfold maxLen; dsimp only; omega⟩, fun x hx => ?_⟩
   obtain ⟨a, b, _⟩ := g3 x hx
   unfold maxLen
   exact ⟨by omega, by omega⟩
  ·rw [if_neg h3] at hb
   by_cases h4 : k = 4 \/ k = 5 \/ k = 6 \/ k = 7
   ·rw [if_pos h4] at hb
    simp only [Bool.and_eq_true] at hb
    obtain ⟨⟨⟨hu, hi⟩, hd⟩, hf⟩ := hb
    obtain ⟨rfl, rfl, rfl⟩ := fe_nil hf
    have a1 := nm_size hu
    have a2 := nm_size hi
    exact ⟨⟨by unfold maxLen; dsimp only; omega, by unfold maxLen; dsimp only; omega, Nat.zero_le _, Nat.zero_le _⟩, (fun x hx => by cases hx)⟩
   ·rw [if_neg h4] at hb
    by_cases h9 : k = 9
    ·rw [if_pos h9] at hb
     simp only [Bool.and_eq_true] at hb
     obtain ⟨⟨⟨hu, hi⟩, hd⟩, hf⟩ := hb
     obtain rfl := em_nil hi
     obtain rfl := em_nil hu
     obtain ⟨rfl, rfl, rfl⟩ := fe_nil hf
     exact ⟨⟨Nat.zero_le _, Nat.zero_le _, Nat.zero_le _, Nat.zero_le _⟩, (fun x hx => by cases hx)⟩
    ·rw [if_neg h9] at hb; cases hb
theorem ro_uni2 (s : ByteArray) : ∃ (q : OpD) (b : Bool), (∀ S e w', RoOut S (rdO s) e w' -> ∃ v, e = .returned (.tuple #[opV q v, .bool b]) /\ OwnR 55 3 itC w' S v q.its) /\ OpSz q /\ (∀ x ∈ q.its, x.id.size <= maxLen /\ x.ti.size <= maxLen) /\ (b = true -> opB q = true /\ opX q = s) /\ ∀ o, rdO s = some o -> b = true /\ o = q := by
 cases h : rdO s with
 | none => exact ⟨o0 0, false, fun S e w' hr => ⟨_, hr, OwnR.nil _ _ _⟩, ⟨Nat.zero_le _, Nat.zero_le _, Nat.zero_le _, Nat.zero_le _⟩, (fun x hx => by cases hx), (fun hb => by cases hb), (fun o ho => by cases ho)⟩
 | some q =>
  obtain ⟨hb, hx⟩ := P1 h
  obtain ⟨h2, h3⟩ := opB_szs hb
  exact ⟨q, true, fun S e w' hr => hr, h2, h3, fun _ => ⟨hb, hx⟩, fun o ho => ⟨rfl, (Option.some.inj ho).symm⟩⟩
theorem sameOp_any (o : OpD) (v v' : Value) (w : World) (h : ItAt w w.heap.size v o.its) (h' : ItAt w w.heap.size v' o.its) :
  Calls Tryz.prog 24 #[opV o v, opV o v'] w fun e w' => e = .returned (.bool true) /\ Below w.heap.size w w' := by
 obtain ⟨xa, xc, rfl⟩ := h.1.slice
 obtain ⟨ya, yc, rfl⟩ := h'.1.slice
 obtain ⟨W0, hW0⟩ : ∃ W0, W0 = (w.alloc (.cells #[.int .i64 o.k, .string o.u, .string o.i, .int .i64 o.d, .string o.fu, .string o.ft, .slice xa o.its.length xc] 35)).alloc (.cells #[.int .i64 o.k, .string o.u, .string o.i, .int .i64 o.d, .string o.fu, .string o.ft, .slice ya o.its.length yc] 35) := ⟨_, rfl⟩
 have hb0 : Below w.heap.size w W0 := by rw [hW0]; exact ((Below.refl _ _).alloc (Nat.le_refl _) _).alloc (by simp) _
 have hx0 : Box W0 w.heap.size #[.int .i64 o.k, .string o.u, .string o.i, .int .i64 o.d, .string o.fu, .string o.ft, .slice xa o.its.length xc] 35 := by rw [hW0]; exact (Box.new w _ _).alloc _
 have hy0 : Box W0 (w.heap.size + 1) #[.int .i64 o.k, .string o.u, .string o.i, .int .i64 o.d, .string o.fu, .string o.ft, .slice ya o.its.length yc] 35 := by
  rw [hW0]
  have := Box.new (w.alloc (.cells #[.int .i64 o.k, .string o.u, .string o.i, .int .i64 o.d, .string o.fu, .string o.ft, .slice xa o.its.length xc] 35)) #[.int .i64 o.k, .string o.u, .string o.i, .int .i64 o.d, .string o.fu, .string o.ft, .slice ya o.its.length yc] 35
  simpa using this
 have HC := Lib.hid (sameFeed_any o.fu o.ft _ _ o.its W0 ((h.below hb0).mono hb0.size) ((h'.below hb0).mono hb0.size))
 have p0 := hx0.cell 0 _ rfl
 have p1 := hx0.cell 1 _ rfl
 have p2 := hx0.cell 2 _ rfl
 have p3 := hx0.cell 3 _ rfl
 have p4 := hx0.cell 4 _ rfl
 have p5 := hx0.cell 5 _ rfl
 have p6 := hx0.cell 6 _ rfl
 have q0 := hy0.cell 0 _ rfl
 have q1 := hy0.cell 1 _ rfl
 have q2 := hy0.cell 2 _ rfl
 have q3 := hy0.cell 3 _ rfl
 have q4 := hy0.cell 4 _ rfl
 have q5 := hy0.cell 5 _ rfl
 have q6 := hy0.cell 6 _ rfl
 rw [hW0] at p0 q0 p1 q1 p2 q2 p3 q3 p4 q4 p5 q5 p6 q6
 clear h h' hx0 hy0
 go_enter Tryz.func24, Tryz.ntmps24
 go_wp2_with fail
 rw [<- hW0]
 refine HC.out.mono ?_
 rintro e w1 ⟨rfl, hb1⟩
 have hB := hb0.trans (hb1.mono hb0.size)
 clear hb1 hb0 hW0
 go_wp2
 go_ret
 exact ⟨rfl, hB⟩
theorem drawOpText_any (w : World) (cv : Value) (zs : List Int) (h : Cd w cv zs) :
  Calls Tryz.prog 16 #[cv] w fun e w' => ∃ (o : OpD) (x : Value), e = .returned (opV o x) /\ smO o /\ OwnR 55 3 itC w' w.heap.size x o.its /\ Below w.heap.size w w' := by
 have hB0 : Below w.heap.size w (w.alloc (.cells opZ 35)) := (Below.refl _ _).alloc (Nat.le_refl _) _
 have hx0 := Box.new w opZ 35
 have hc0 := h.below hB0
 go_enter Tryz.func16, Tryz.ntmps16
 go_wp2_with fail
 refine (drawOpOk_any _ cv zs hc0).mono ?_
 rintro e WZ ⟨o, x, rfl, hso, hI, hb⟩
 replace hx0 := hx0.keep hb hx0.lt
 have hB := hB0.trans (hb.mono hB0.size)
 obtain ⟨xa, xc, rfl⟩ := hI.slice
 rw [World.size_alloc] at hI
 obtain ⟨ok, ou, oi, od, ofu, oft, oits⟩ := o
 simp only at hI
 clear hB0 hb hc0
 have z0 := hx0.cell 0 _ rfl
 have zf0 := hx0.free 0
 have z1 := hx0.cell 1 _ rfl
 have zf1 := hx0.free 1
 have z2 := hx0.cell 2 _ rfl
 have zf2 := hx0.free 2
 have z3 := hx0.cell 3 _ rfl
 have zf3 := hx0.free 3
 have z4 := hx0.cell 4 _ rfl
 have zf4 := hx0.free 4
 have z5 := hx0.cell 5 _ rfl
 have zf5 := hx0.free 5
 have z6 := hx0.cell 6 _ rfl
 have zf6 := hx0.free 6
 go_wp2
 have x5 := hx0.put7 (.int .i64 ok) (.string ou) (.string oi) (.int .i64 od) (.string ofu) (.string oft) (.slice xa oits.length xc)
 have i5 := hI.other7 w.heap.size (Nat.lt_succ_self _) (.int .i64 ok) (.string ou) (.string oi) (.int .i64 od) (.string ofu) (.string oft) (.slice xa oits.length xc)
 have b5 := hB.trans (below7 WZ w.heap.size w.heap.size (Nat.le_refl _) (.int .i64 ok) (.string ou) (.string oi) (.int .i64 od) (.string ofu) (.string oft) (.slice xa oits.length xc))
 unfold put7 at x5 i5 b5
 have d0 := cell_of_cells (i := 0) x5 rfl
 have d1 := cell_of_cells (i := 1) x5 rfl
 have d2 := cell_of_cells (i := 2) x5 rfl
 have d3 := cell_of_cells (i := 3) x5 rfl
 have d4 := cell_of_cells (i := 4) x5 rfl
 have d5 := cell_of_cells (i := 5) x5 rfl
 have d6 := cell_of_cells (i := 6) x5 rfl
 exact bodyPost_ret (v := opV (⟨ok, ou, oi, od, ofu, oft, oits⟩ : OpD) (.slice xa oits.length xc)) (by simp [results, Tryz.results16, go_sem, d0, d1, d2, d3, d4, d5, d6]) rfl ⟨(⟨ok, ou, oi, od, ofu, oft, oits⟩ : OpD), _, rfl, hso, i5.base_mono (by omega), b5⟩
theorem drawReaderText_any (w : World) (cv : Value) (zs : List Int) (h : Cd w cv zs) :
  Calls Tryz.prog 19 #[cv] w fun e w' => ∃ (V : Value) (ss : List Sb), e = .returned (.agg #[V]) /\ (∀ s ∈ ss, SbSz s /\ ∀ x ∈ s.es, EnSz x) /\ OwnS w' w.heap.size V ss /\ Below w.heap.size w w' := by
 have hB0 : Below w.heap.size w (w.alloc (.cells #[.slice none 0 0] 42)) := (Below.refl _ _).alloc (Nat.le_refl _) _
 have hx0 := Box.new w #[.slice none 0 0] 42
 have hc0 := h.below hB0
 go_enter Tryz.func19, Tryz.ntmps19
 go_wp2_with fail
 refine (drawReaderOk_any _ cv zs hc0).mono ?_
 rintro e WZ ⟨V, ss, rfl, hsz, hS, hb⟩
 replace hx0 := hx0.keep hb hx0.lt
 have hB := hB0.trans (hb.mono hB0.size)
 rw [World.size_alloc] at hS
 obtain ⟨va, vc, rfl⟩ := hS.slice24
 have HZ := Lib.hid hsz
 clear hB0 hb hc0 hsz
 have z0 := hx0.cell 0 _ rfl
 have zf := hx0.free
 go_wp2
 have q5 := hx0.set 0 (.slice va ss.length vc)
 have o5 := hS.other24 ⟨w.heap.size, 0, none⟩ (.slice va ss.length vc) (Nat.lt_succ_self _)
 have b5 := hB.trans ((Below.refl w.heap.size WZ).setCell (p := ⟨w.heap.size, 0, none⟩) (Nat.le_refl _) (.slice va ss.length vc))
 have d0 := cell_of_cells (i := 0) q5 rfl
 obtain ⟨ps, h1, h2, h3⟩ := o5
 exact bodyPost_ret (v := .agg #[.slice va ss.length vc]) (by simp [results, Tryz.results19, go_sem, d0]) rfl ⟨_, ss, rfl, HZ.out, ⟨ps, h1, h2.base_mono (by omega), fun p hp => (h3 p hp).base_mono (by omega)⟩, b5⟩
theorem drawReadOp_any (w : World) (cv : Value) (zs : List Int) (h : Cd w cv zs) :
  Calls Tryz.prog 25 #[cv] w fun e w' => ∃ t : ByteArray, e = .returned (.string t) /\ t.size <= 100000 /\ Below w.heap.size w w' := by
 obtain ⟨a, len, cap, hcv⟩ := h.form
 have HV := Lib.hid hcv
 clear hcv
 go_enter Tryz.func25, Tryz.ntmps25
 go_wp2_with fail
 refine (open_any cv a len cap HV.out _).mono ?_
 rintro e w1 ⟨rfl, rfl⟩
 have hrd := h.rd
 have hgr := World.grownBy.refl (w.alloc (.cells #[cv, .int .i64 0] 114)) (some w.heap.size)
 generalize hW1 : w.alloc (.cells #[cv, .int .i64 0] 114) = W1 at hrd hgr ⊢
 have hgw : ∀ w', W1.grownBy w' (some w.heap.size) -> Below w.heap.size w w' := fun w' hg => below_open (by rw [hW1]; exact hg)
 have HG := Lib.hid hgw
 clear hgw hW1
 go_wp2_with fail
 refine (op_any _ _ cv zs _ hrd).mono ?_
 rintro e w2 ⟨o, x, rfl, hso, hO, hrd, hg2⟩
 replace hgr := grown_trans hgr hg2
 have hI : ItAt w2 w2.heap.size x o.its := ItAt.of_own hO (smO_sz hso).2
 have HSZ := Lib.hid (opX_small o)
 have HOz := Lib.hid (smO_sz hso).1
 obtain ⟨xa, xc, rfl⟩ := hO.slice
 clear hg2 hO hso
 go_wp2_with fail
 refine (specOpText_any o _ _ hI HOz.out).mono ?_
 rintro e w3 ⟨rfl, hb3⟩
 replace hrd := hrd.below hb3 hrd.lt
 replace hgr := gw_below hgr hb3 hgr.size
 generalize opX o = T at HSZ ⊢
 clear hb3 hI
 go_wp2_with fail
 refine (once_any 2 _ _ cv zs _ hrd (by omega) (by omega)).mono ?_
 rintro e w4 ⟨b, rfl, hrd, hg4⟩
 replace hgr := grown_trans hgr hg4
 clear hg4
 cases b with
 | true =>
  have hBe := HG.out _ hgr
  have hszT := HSZ.out
  go_wp2
  go_ret
  exact ⟨T, rfl, by omega, hBe⟩
 | false =>
  go_wp2_with fail
  refine (hurt_any T _ _ cv zs _ hrd (by have := HSZ.out; omega)).mono ?_
  rintro e w5 ⟨t5, rfl, hs5, hrd, hg5⟩
  have hBe := HG.out _ (grown_trans hgr hg5)
  have hszT := HSZ.out
  go_wp2
  go_ret
  exact ⟨t5, rfl, by omega, hBe⟩
end Go.Proofs.YtffkakpbelknaaaGreatDoor
namespace Go.Proofs.YtffkakpbelknaaaGreatDoor
open Go.ChangeShapes Go.WideShapes Go.ChangeAt Go.RowKit
set_option linter.unusedVariables false
set_option linter.unusedSimpArgs false
theorem wpIf_skipQ {P : Program} {ops : Array Oper} {C : World -> Prop} {R : Act -> Prop} {o : Oper} {l : List Oper} {a : Act} (hw : Region.wanted o (yielded ops a.tmps) = false) (h : wpIf P ops C R l (a.put o.dst undef)) : wpIf P ops C R (o :: l) a := ⟨undef, .inr ⟨hw, rfl⟩, h⟩
theorem wpAnyT_skipQ {P : Program} {md : Region.Mode} {Q : Exit -> Act -> World -> Prop} {A B : World -> Prop} {t : Nat} {l : List Oper} {L : Array Bool} {a : Act} {w : World} (i g : Nat) {o : Oper} (hr : Region.ready md l.toArray L = [i]) (ho : l[i]? = some o) (hw : Region.wanted o (yielded l.toArray a.tmps) = false)
  (hS : Sx A B t (L.setIfInBounds i true) w) (h : wpAnyT P md l.toArray Q A B t g (L.setIfInBounds i true) (a.put o.dst undef) w) : wpAnyT P md l.toArray Q A B t (g + 1) L a w := by
 refine ⟨fun h0 => (by rw [hr] at h0; cases h0), fun j hj => ?_⟩
 rw [hr] at hj
 have : j = i := by simpa using hj
 subst this
 unfold wpOp
 have ho' : l.toArray[j]? = some o := by simpa using ho
 simp only [ho']
 rw [if_neg (by rw [hw]; simp)]
 exact ⟨hS, h⟩
theorem walk_FnOps (aa : Option Addr) (len cap : Nat) (z : List Int) (w : World) (h : IsRow .u8 w aa len cap z) (hk : Tabs w /\ XTab w) :
  Calls Tryz.prog 4 #[.slice aa len cap] w fun e w' => e = .returned (.bool true) /\ Below w.heap.size w w' := by
 have hcd := Cd.of_row h
 have HK := Lib.hid hk
 clear h hk
 go_enter Tryz.func4, Tryz.ntmps4
 go_wp2_with fail
 refine (big_any _ _ _ hcd).mono ?_
 rintro e w1 ⟨⟨b, rfl⟩, rfl⟩
 cases b with
 | true =>
  go_wp2
  go_ret
  exact ⟨rfl, Below.refl _ _⟩
 | false =>
  go_wp2_with fail
  have HCD := Lib.hid hcd
  refine (drawOpText_any _ _ _ hcd).mono ?_
  rintro e v1 ⟨o, x, rfl, hso, hO, hd1⟩
  clear hcd
  obtain ⟨xa, xc, rfl⟩ := hO.slice
  have hI : ItAt v1 v1.heap.size (.slice xa o.its.length xc) o.its := ItAt.of_own hO (smO_sz hso).2
  have HF : Hid (∀ W, Below v1.heap.size v1 W -> ItAt W W.heap.size (.slice xa o.its.length xc) o.its) := Lib.hid (fun W hW => (hI.below hW).mono hW.size)
  have HBw0 := Lib.hid hd1
  have HT : Hid (∀ W, Below v1.heap.size v1 W -> Tabs W /\ XTab W) := Lib.hid (fun W hW => by
   have hB := hd1.trans (hW.mono hd1.size)
   exact ⟨HK.out.1.below hB (Nat.le_refl _), HK.out.2.below hB (Nat.le_refl _)⟩)
  have hz := (smO_sz hso).1
  have hfs := opX_small o
  obtain ⟨T, hT⟩ : ∃ T, T = opX o := ⟨_, rfl⟩
  obtain ⟨bb, hbb⟩ : ∃ bb, bb = opB o := ⟨_, rfl⟩
  have HIT := Lib.hid (fun (W : World) h1 h2 => implOpText_any o (.slice xa o.its.length xc) W h1 hz h2)
  have HST := Lib.hid (fun (W : World) h1 => specOpText_any o (.slice xa o.its.length xc) W h1 hz)
  have HIO := Lib.hid (fun (W : World) h1 => implOpOk_any o (.slice xa o.its.length xc) W h1 hz)
  rw [<- hT] at HIT HST
  rw [<- hbb] at HIO
  have HTs : Hid (T.size <= 2000000) := Lib.hid (by rw [hT]; omega)
  obtain ⟨q2, b2, hr2, hz2, hz2i, _, hs2⟩ := ro_uni2 T
  have HR2 := Lib.hid hr2
  have HZ2 := Lib.hid hz2i
  have HSame : Hid (bb = true -> b2 = true /\ o = q2) := Lib.hid (fun hb => hs2 o (rdO_of (by rw [<- hbb]; exact hb) hT.symm))
  clear hT hbb hfs hs2 hr2 hz2 hz2i hO hI hso hz hd1
  have hBw : Below v1.heap.size v1 v1 := Below.refl _ _
  have hxf := Box.new v1 #[.int .i64 o.k, .string o.u, .string o.i, .int .i64 o.d, .string o.fu, .string o.ft, .slice xa o.its.length xc] 35
  have hba : Below v1.heap.size v1 (v1.alloc (.cells #[.int .i64 o.k, .string o.u, .string o.i, .int .i64 o.d, .string o.fu, .string o.ft, .slice xa o.its.length xc] 35)) := (Below.refl _ _).alloc (Nat.le_refl _) _
  replace hBw := hBw.trans (hba.mono hBw.size)
  clear hba
  have p0 := hxf.cell 0 _ rfl
  have p1 := hxf.cell 1 _ rfl
  have p2 := hxf.cell 2 _ rfl
  have p3 := hxf.cell 3 _ rfl
  have p4 := hxf.cell 4 _ rfl
  have p5 := hxf.cell 5 _ rfl
  have p6 := hxf.cell 6 _ rfl
  go_wp2_with fail
  clear p0 p1 p2 p3 p4 p5 p6
  generalize v1.alloc (.cells #[.int .i64 o.k, .string o.u, .string o.i, .int .i64 o.d, .string o.fu, .string o.ft, .slice xa o.its.length xc] 35) = W1 at hxf hBw ⊢
  refine (HIT.out W1 (HF.out _ hBw) (HT.out _ hBw).1).mono ?_
  rintro e w2 ⟨rfl, hb2⟩
  replace hxf := hxf.keep hb2 hxf.lt
  replace hBw := hBw.trans (hb2.mono hBw.size)
  clear hb2
  go_wp2_with fail
  refine (implReadOp_any T _ HTs.out (HT.out _ hBw).1.2.2.2 (HT.out _ hBw).1.1 (HT.out _ hBw).2 (HT.out _ hBw).1.2.1).mono ?_
  rintro e w3 ⟨hrf, hb3⟩
  obtain ⟨V3, rfl, hO3⟩ := HR2.out _ _ _ hrf
  obtain ⟨a3, c3, rfl⟩ := hO3.slice
  have HS3 : Hid (ItAt w3 w3.heap.size (.slice a3 q2.its.length c3) q2.its) := Lib.hid (ItAt.of_own hO3 HZ2.out)
  replace hxf := hxf.keep hb3 hxf.lt
  replace hBw := hBw.trans (hb3.mono hBw.size)
  clear hb3 hrf hO3
  have hx3 := Box.new w3 #[.int .i64 q2.k, .string q2.u, .string q2.i, .int .i64 q2.d, .string q2.fu, .string q2.ft, .slice a3 q2.its.length c3] 35
  have hba : Below w3.heap.size w3 (w3.alloc (.cells #[.int .i64 q2.k, .string q2.u, .string q2.i, .int .i64 q2.d, .string q2.fu, .string q2.ft, .slice a3 q2.its.length c3] 35)) := (Below.refl _ _).alloc (Nat.le_refl _) _
  replace hxf := hxf.keep hba hxf.lt
  replace HS3 := Lib.hid ((HS3.out.below hba).mono hba.size)
  replace hBw := hBw.trans (hba.mono hBw.size)
  clear hba
  go_wp2_with fail
  generalize w3.alloc (.cells #[.int .i64 q2.k, .string q2.u, .string q2.i, .int .i64 q2.d, .string q2.fu, .string q2.ft, .slice a3 q2.its.length c3] 35) = W3 at hxf hx3 HS3 hBw ⊢
  generalize w3.heap.size = g3 at hx3 ⊢
  refine (drawReaderText_any _ _ _ (HCD.out.below (HBw0.out.trans (hBw.mono HBw0.out.size)))).mono ?_
  rintro e w20 ⟨V20, ss, rfl, hz20, hO20, hb20⟩
  obtain ⟨a20, c20, rfl⟩ := hO20.slice24
  have HS20 : Hid (SbAt w20 w20.heap.size (.slice a20 ss.length c20) ss) := Lib.hid (hO20.at hz20)
  replace hxf := hxf.keep hb20 hxf.lt
  replace hx3 := hx3.keep hb20 hx3.lt
  replace HS3 := Lib.hid ((HS3.out.below hb20).mono hb20.size)
  replace hBw := hBw.trans (hb20.mono hBw.size)
  clear hb20 hO20 hz20
  have hx20 := Box.new w20 #[.slice a20 ss.length c20] 42
  have hba : Below w20.heap.size w20 (w20.alloc (.cells #[.slice a20 ss.length c20] 42)) := (Below.refl _ _).alloc (Nat.le_refl _) _
  replace hxf := hxf.keep hba hxf.lt
  replace hx3 := hx3.keep hba hx3.lt
  replace HS3 := Lib.hid ((HS3.out.below hba).mono hba.size)
  replace HS20 := Lib.hid ((HS20.out.below hba).mono hba.size)
  replace hBw := hBw.trans (hba.mono hBw.size)
  clear hba
  have HRT := Lib.hid (fun (W : World) h1 h2 h3 => implReaderText_any (.slice a20 ss.length c20) ss W h1 h2 h3)
  have HRS := Lib.hid (fun (W : World) h1 => specReaderText_any (.slice a20 ss.length c20) ss W h1)
  generalize rdX ss = RX at HRT HRS
  go_wp2
  generalize w20.alloc (.cells #[.slice a20 ss.length c20] 42) = W20 at hxf hx3 hx20 HS3 HS20 hBw ⊢
  generalize w20.heap.size = g20 at hx20 ⊢
  cases bb with
  | false =>
   refine wp_region_T (fun w' => Box w' v1.heap.size #[.int .i64 o.k, .string o.u, .string o.i, .int .i64 o.d, .string o.fu, .string o.ft, .slice xa o.its.length xc] 35 /\ Box w' g3 #[.int .i64 q2.k, .string q2.u, .string q2.i, .int .i64 q2.d, .string q2.fu, .string q2.ft, .slice a3 q2.its.length c3] 35 /\ Box w' g20 #[.slice a20 ss.length c20] 42) (fun _ => True) 24 (by kernel_rfl) 25 rfl ?_
   have hbd : Below W20.heap.size W20 W20.drew := (Below.refl _ _).drew
   replace hxf := hxf.keep hbd hxf.lt
   replace hx3 := hx3.keep hbd hx3.lt
   replace hx20 := hx20.keep hbd hx20.lt
   replace HS3 := Lib.hid ((HS3.out.below hbd).mono hbd.size)
   replace HS20 := Lib.hid ((HS20.out.below hbd).mono hbd.size)
   replace hBw := hBw.trans (hbd.mono hBw.size)
   clear hbd
   generalize W20.drew = W20d at hxf hx3 hx20 HS3 HS20 hBw ⊢
   refine wA 23 [0, 1] ⟨⟨hxf, hx3, hx20⟩, fun _ => trivial⟩ ?_
   simp only [pick, List.filterMap_cons, List.filterMap_nil, List.getElem?_cons_zero, List.getElem?_cons_succ]
   refine wS (.string T) (fun w hw => by go_simp) ?_
   refine wS (opV o (.slice xa o.its.length xc)) (fun w hw => by have e0 := hw.1.cell 0 _ rfl; have e1 := hw.1.cell 1 _ rfl; have e2 := hw.1.cell 2 _ rfl; have e3 := hw.1.cell 3 _ rfl; have e4 := hw.1.cell 4 _ rfl; have e5 := hw.1.cell 5 _ rfl; have e6 := hw.1.cell 6 _ rfl; go_simp) ?_
   refine wpIf_nil (fun hS9 => ?_)
   clear hS9
   refine wO 2 22 (fun K hK => ?_)
   go_simp
   refine (HST.out _ (HF.out _ hBw)).mono ?_
   rintro e w4 ⟨rfl, hb4⟩
   replace hxf := hxf.keep hb4 hxf.lt
   replace hx3 := hx3.keep hb4 hx3.lt
   replace hx20 := hx20.keep hb4 hx20.lt
   replace HS3 := Lib.hid ((HS3.out.below hb4).mono hb4.size)
   replace HS20 := Lib.hid ((HS20.out.below hb4).mono hb4.size)
   replace hBw := hBw.trans (hb4.mono hBw.size)
   refine hK _ _ ⟨⟨hxf, hx3, hx20⟩, fun _ => trivial⟩ (fun hS9 => ?_)
   clear hK K hS9 hb4
   refine wA 18 [3, 4, 5, 7] ⟨⟨hxf, hx3, hx20⟩, fun _ => trivial⟩ ?_
   simp only [pick, List.filterMap_cons, List.filterMap_nil, List.getElem?_cons_zero, List.getElem?_cons_succ]
   refine wS (.bool false) (fun w hw => by go_simp) ?_
   refine wS (.bool false) (fun w hw => by go_simp) ?_
   refine wS (.agg #[.slice a20 ss.length c20]) (fun w hw => by have e0 := hw.2.2.cell 0 _ rfl; go_simp) ?_
   refine wS (.agg #[.slice a20 ss.length c20]) (fun w hw => by have e0 := hw.2.2.cell 0 _ rfl; go_simp) ?_
   refine wpIf_nil (fun hS9 => ?_)
   clear hS9
   refine wO 6 17 (fun K hK => ?_)
   go_simp
   refine (HRT.out _ HS20.out (HT.out _ hBw).1.2.1 (HT.out _ hBw).1.2.2.1).mono ?_
   rintro e w5 ⟨rfl, hb5⟩
   replace hxf := hxf.keep hb5 hxf.lt
   replace hx3 := hx3.keep hb5 hx3.lt
   replace hx20 := hx20.keep hb5 hx20.lt
   replace HS3 := Lib.hid ((HS3.out.below hb5).mono hb5.size)
   replace HS20 := Lib.hid ((HS20.out.below hb5).mono hb5.size)
   replace hBw := hBw.trans (hb5.mono hBw.size)
   refine hK _ _ ⟨⟨hxf, hx3, hx20⟩, fun _ => trivial⟩ (fun hS9 => ?_)
   clear hK K hS9 hb5
   refine wO 8 16 (fun K hK => ?_)
   go_simp
   refine (HRS.out _ HS20.out).mono ?_
   rintro e w6 ⟨rfl, hb6⟩
   replace hxf := hxf.keep hb6 hxf.lt
   replace hx3 := hx3.keep hb6 hx3.lt
   replace hx20 := hx20.keep hb6 hx20.lt
   replace HS3 := Lib.hid ((HS3.out.below hb6).mono hb6.size)
   replace HS20 := Lib.hid ((HS20.out.below hb6).mono hb6.size)
   replace hBw := hBw.trans (hb6.mono hBw.size)
   refine hK _ _ ⟨⟨hxf, hx3, hx20⟩, fun _ => trivial⟩ (fun hS9 => ?_)
   clear hK K hS9 hb6
   refine wA 12 [9, 10, 11, 12] ⟨⟨hxf, hx3, hx20⟩, fun _ => trivial⟩ ?_
   simp only [pick, List.filterMap_cons, List.filterMap_nil, List.getElem?_cons_zero, List.getElem?_cons_succ]
   refine wS (.bool false) (fun w hw => by go_simp) ?_
   refine wS (.bool false) (fun w hw => by go_simp) ?_
   refine wS (.bool false) (fun w hw => by go_simp) ?_
   refine wS (opV o (.slice xa o.its.length xc)) (fun w hw => by have e0 := hw.1.cell 0 _ rfl; have e1 := hw.1.cell 1 _ rfl; have e2 := hw.1.cell 2 _ rfl; have e3 := hw.1.cell 3 _ rfl; have e4 := hw.1.cell 4 _ rfl; have e5 := hw.1.cell 5 _ rfl; have e6 := hw.1.cell 6 _ rfl; go_simp) ?_
   refine wpIf_nil (fun hS9 => ?_)
   clear hS9
   refine wO 13 11 (fun K hK => ?_)
   go_simp
   refine (HIO.out _ (HF.out _ hBw)).mono ?_
   rintro e w7 ⟨rfl, hb7⟩
   replace hxf := hxf.keep hb7 hxf.lt
   replace hx3 := hx3.keep hb7 hx3.lt
   replace hx20 := hx20.keep hb7 hx20.lt
   replace HS3 := Lib.hid ((HS3.out.below hb7).mono hb7.size)
   replace HS20 := Lib.hid ((HS20.out.below hb7).mono hb7.size)
   replace hBw := hBw.trans (hb7.mono hBw.size)
   refine hK _ _ ⟨⟨hxf, hx3, hx20⟩, fun _ => trivial⟩ (fun hS9 => ?_)
   clear hK K hS9 hb7
   refine wA 5 [14, 15, 16, 17, 18, 19] ⟨⟨hxf, hx3, hx20⟩, fun _ => trivial⟩ ?_
   simp only [pick, List.filterMap_cons, List.filterMap_nil, List.getElem?_cons_zero, List.getElem?_cons_succ]
   refine wS (.bool false) (fun w hw => by go_simp) ?_
   refine wpIf_skipQ (by kernel_rfl) ?_
   refine wpIf_skipQ (by kernel_rfl) ?_
   refine wpIf_skipQ (by kernel_rfl) ?_
   refine wpIf_skipQ (by kernel_rfl) ?_
   refine wpIf_skipQ (by kernel_rfl) ?_
   refine wpIf_nil (fun hS9 => ?_)
   clear hS9
   refine wpAnyT_skipQ 20 4 (by kernel_rfl) rfl (by kernel_rfl) ⟨⟨hxf, hx3, hx20⟩, fun _ => trivial⟩ ?_
   refine wA 1 [21, 22, 23] ⟨⟨hxf, hx3, hx20⟩, fun _ => trivial⟩ ?_
   simp only [pick, List.filterMap_cons, List.filterMap_nil, List.getElem?_cons_zero, List.getElem?_cons_succ]
   refine wpIf_skipQ (by kernel_rfl) ?_
   refine wpIf_skipQ (by kernel_rfl) ?_
   refine wS (.bool false) (fun w hw => by go_simp) ?_
   refine wpIf_nil (fun hS9 => ?_)
   clear hS9
   refine wO 24 0 (fun K hK => ?_)
   go_simp
   refine hK _ _ ⟨⟨hxf, hx3, hx20⟩, fun _ => trivial⟩ (fun hS9 => ?_)
   clear hK K hS9
   refine wpAnyT_over (by kernel_rfl) ?_
   clear HSame
   go_wp2_with fail
   refine (drawReadOp_any _ _ _ (HCD.out.below (HBw0.out.trans (hBw.mono HBw0.out.size)))).mono ?_
   rintro e w9 ⟨t5, rfl, ht5, hb9⟩
   replace hxf := hxf.keep hb9 hxf.lt
   replace hx3 := hx3.keep hb9 hx3.lt
   replace hx20 := hx20.keep hb9 hx20.lt
   replace HS3 := Lib.hid ((HS3.out.below hb9).mono hb9.size)
   replace HS20 := Lib.hid ((HS20.out.below hb9).mono hb9.size)
   replace hBw := hBw.trans (hb9.mono hBw.size)
   clear hb9
   obtain ⟨q6, b6, hr6, hz6, hz6i, hf6, _⟩ := ro_uni2 t5
   have HT5 : Hid (t5.size <= 2000000) := Lib.hid (by omega)
   have HR6 := Lib.hid hr6
   have HZ6 := Lib.hid hz6i
   have HF6 := Lib.hid hf6
   have HU6 := Lib.hid hz6
   clear hr6 hz6i hf6 hz6
   go_wp2_with fail
   refine (implReadOp_any t5 _ HT5.out (HT.out _ hBw).1.2.2.2 (HT.out _ hBw).1.1 (HT.out _ hBw).2 (HT.out _ hBw).1.2.1).mono ?_
   rintro e w10 ⟨hrf, hb10⟩
   obtain ⟨V10, rfl, hO10⟩ := HR6.out _ _ _ hrf
   obtain ⟨a10, c10, rfl⟩ := hO10.slice
   have HS10 : Hid (ItAt w10 w10.heap.size (.slice a10 q6.its.length c10) q6.its) := Lib.hid (ItAt.of_own hO10 HZ6.out)
   replace hxf := hxf.keep hb10 hxf.lt
   replace hx3 := hx3.keep hb10 hx3.lt
   replace hx20 := hx20.keep hb10 hx20.lt
   replace HS3 := Lib.hid ((HS3.out.below hb10).mono hb10.size)
   replace HS20 := Lib.hid ((HS20.out.below hb10).mono hb10.size)
   replace hBw := hBw.trans (hb10.mono hBw.size)
   clear hb10 hrf hO10
   have hx10 := Box.new w10 #[.int .i64 q6.k, .string q6.u, .string q6.i, .int .i64 q6.d, .string q6.fu, .string q6.ft, .slice a10 q6.its.length c10] 35
   have hba : Below w10.heap.size w10 (w10.alloc (.cells #[.int .i64 q6.k, .string q6.u, .string q6.i, .int .i64 q6.d, .string q6.fu, .string q6.ft, .slice a10 q6.its.length c10] 35)) := (Below.refl _ _).alloc (Nat.le_refl _) _
   replace hxf := hxf.keep hba hxf.lt
   replace hx3 := hx3.keep hba hx3.lt
   replace hx20 := hx20.keep hba hx20.lt
   replace HS3 := Lib.hid ((HS3.out.below hba).mono hba.size)
   replace HS20 := Lib.hid ((HS20.out.below hba).mono hba.size)
   replace HS10 := Lib.hid ((HS10.out.below hba).mono hba.size)
   replace hBw := hBw.trans (hba.mono hBw.size)
   clear hba
   go_wp2_with fail
   generalize w10.alloc (.cells #[.int .i64 q6.k, .string q6.u, .string q6.i, .int .i64 q6.d, .string q6.fu, .string q6.ft, .slice a10 q6.its.length c10] 35) = W10 at hxf hx3 hx20 hx10 HS3 HS20 HS10 hBw ⊢
   generalize w10.heap.size = g10 at hx10 ⊢
   refine (specReadOp_any t5 _ HT5.out).mono ?_
   rintro e w11 ⟨hrf, hb11⟩
   obtain ⟨V11, rfl, hO11⟩ := HR6.out _ _ _ hrf
   obtain ⟨a11, c11, rfl⟩ := hO11.slice
   have HS11 : Hid (ItAt w11 w11.heap.size (.slice a11 q6.its.length c11) q6.its) := Lib.hid (ItAt.of_own hO11 HZ6.out)
   replace hxf := hxf.keep hb11 hxf.lt
   replace hx3 := hx3.keep hb11 hx3.lt
   replace hx20 := hx20.keep hb11 hx20.lt
   replace hx10 := hx10.keep hb11 hx10.lt
   replace HS3 := Lib.hid ((HS3.out.below hb11).mono hb11.size)
   replace HS20 := Lib.hid ((HS20.out.below hb11).mono hb11.size)
   replace HS10 := Lib.hid ((HS10.out.below hb11).mono hb11.size)
   replace hBw := hBw.trans (hb11.mono hBw.size)
   clear hb11 hrf hO11
   have hx11 := Box.new w11 #[.int .i64 q6.k, .string q6.u, .string q6.i, .int .i64 q6.d, .string q6.fu, .string q6.ft, .slice a11 q6.its.length c11] 35
   have hba : Below w11.heap.size w11 (w11.alloc (.cells #[.int .i64 q6.k, .string q6.u, .string q6.i, .int .i64 q6.d, .string q6.fu, .string q6.ft, .slice a11 q6.its.length c11] 35)) := (Below.refl _ _).alloc (Nat.le_refl _) _
   replace hxf := hxf.keep hba hxf.lt
   replace hx3 := hx3.keep hba hx3.lt
   replace hx20 := hx20.keep hba hx20.lt
   replace hx10 := hx10.keep hba hx10.lt
   replace HS3 := Lib.hid ((HS3.out.below hba).mono hba.size)
   replace HS20 := Lib.hid ((HS20.out.below hba).mono hba.size)
   replace HS10 := Lib.hid ((HS10.out.below hba).mono hba.size)
   replace HS11 := Lib.hid ((HS11.out.below hba).mono hba.size)
   replace hBw := hBw.trans (hba.mono hBw.size)
   clear hba
   cases b6 with
   | false =>
    go_wp2
    go_ret
    exact ⟨rfl, HBw0.out.trans (hBw.mono HBw0.out.size)⟩
   | true =>
    obtain ⟨hq1, hq2⟩ := HF6.out rfl
    have HIT6 := Lib.hid (fun (W : World) h1 h2 => implOpText_any q6 (.slice a10 q6.its.length c10) W h1 HU6.out h2)
    have HIO6 := Lib.hid (fun (W : World) h1 => implOpOk_any q6 (.slice a10 q6.its.length c10) W h1 HU6.out)
    rw [hq2] at HIT6
    rw [hq1] at HIO6
    clear hq1 hq2
    have xx100 := hx10.cell 0 _ rfl
    have xx101 := hx10.cell 1 _ rfl
    have xx102 := hx10.cell 2 _ rfl
    have xx103 := hx10.cell 3 _ rfl
    have xx104 := hx10.cell 4 _ rfl
    have xx105 := hx10.cell 5 _ rfl
    have xx106 := hx10.cell 6 _ rfl
    go_wp2_with fail
    clear xx100 xx101 xx102 xx103 xx104 xx105 xx106
    generalize w11.alloc (.cells #[.int .i64 q6.k, .string q6.u, .string q6.i, .int .i64 q6.d, .string q6.fu, .string q6.ft, .slice a11 q6.its.length c11] 35) = W11 at hxf hx3 hx20 hx10 hx11 HS3 HS20 HS10 HS11 hBw ⊢
    generalize w11.heap.size = g11 at hx11 ⊢
    refine (HIT6.out _ HS10.out (HT.out _ hBw).1).mono ?_
    rintro e w12 ⟨rfl, hb12⟩
    replace hxf := hxf.keep hb12 hxf.lt
    replace hx3 := hx3.keep hb12 hx3.lt
    replace hx20 := hx20.keep hb12 hx20.lt
    replace hx10 := hx10.keep hb12 hx10.lt
    replace hx11 := hx11.keep hb12 hx11.lt
    replace HS3 := Lib.hid ((HS3.out.below hb12).mono hb12.size)
    replace HS20 := Lib.hid ((HS20.out.below hb12).mono hb12.size)
    replace HS10 := Lib.hid ((HS10.out.below hb12).mono hb12.size)
    replace HS11 := Lib.hid ((HS11.out.below hb12).mono hb12.size)
    replace hBw := hBw.trans (hb12.mono hBw.size)
    clear hb12
    have xx100 := hx10.cell 0 _ rfl
    have xx101 := hx10.cell 1 _ rfl
    have xx102 := hx10.cell 2 _ rfl
    have xx103 := hx10.cell 3 _ rfl
    have xx104 := hx10.cell 4 _ rfl
    have xx105 := hx10.cell 5 _ rfl
    have xx106 := hx10.cell 6 _ rfl
    go_wp2_with fail
    clear xx100 xx101 xx102 xx103 xx104 xx105 xx106
    refine (HIO6.out _ HS10.out).mono ?_
    rintro e w13 ⟨rfl, hb13⟩
    replace hxf := hxf.keep hb13 hxf.lt
    replace hx3 := hx3.keep hb13 hx3.lt
    replace hx20 := hx20.keep hb13 hx20.lt
    replace hx10 := hx10.keep hb13 hx10.lt
    replace hx11 := hx11.keep hb13 hx11.lt
    replace HS3 := Lib.hid ((HS3.out.below hb13).mono hb13.size)
    replace HS20 := Lib.hid ((HS20.out.below hb13).mono hb13.size)
    replace HS10 := Lib.hid ((HS10.out.below hb13).mono hb13.size)
    replace HS11 := Lib.hid ((HS11.out.below hb13).mono hb13.size)
    replace hBw := hBw.trans (hb13.mono hBw.size)
    clear hb13
    go_wp2
    go_ret
    exact ⟨rfl, HBw0.out.trans (hBw.mono HBw0.out.size)⟩
  | true =>
   obtain ⟨rfl, rfl⟩ := HSame.out rfl
   refine wp_region_T (fun w' => Box w' v1.heap.size #[.int .i64 o.k, .string o.u, .string o.i, .int .i64 o.d, .string o.fu, .string o.ft, .slice xa o.its.length xc] 35 /\ Box w' g3 #[.int .i64 o.k, .string o.u, .string o.i, .int .i64 o.d, .string o.fu, .string o.ft, .slice a3 o.its.length c3] 35 /\ Box w' g20 #[.slice a20 ss.length c20] 42) (fun _ => True) 24 (by kernel_rfl) 25 rfl ?_
   have hbd : Below W20.heap.size W20 W20.drew := (Below.refl _ _).drew
   replace hxf := hxf.keep hbd hxf.lt
   replace hx3 := hx3.keep hbd hx3.lt
   replace hx20 := hx20.keep hbd hx20.lt
   replace HS3 := Lib.hid ((HS3.out.below hbd).mono hbd.size)
   replace HS20 := Lib.hid ((HS20.out.below hbd).mono hbd.size)
   replace hBw := hBw.trans (hbd.mono hBw.size)
   clear hbd
   generalize W20.drew = W20d at hxf hx3 hx20 HS3 HS20 hBw ⊢
   refine wA 23 [0, 1] ⟨⟨hxf, hx3, hx20⟩, fun _ => trivial⟩ ?_
   simp only [pick, List.filterMap_cons, List.filterMap_nil, List.getElem?_cons_zero, List.getElem?_cons_succ]
   refine wS (.string T) (fun w hw => by go_simp) ?_
   refine wS (opV o (.slice xa o.its.length xc)) (fun w hw => by have e0 := hw.1.cell 0 _ rfl; have e1 := hw.1.cell 1 _ rfl; have e2 := hw.1.cell 2 _ rfl; have e3 := hw.1.cell 3 _ rfl; have e4 := hw.1.cell 4 _ rfl; have e5 := hw.1.cell 5 _ rfl; have e6 := hw.1.cell 6 _ rfl; go_simp) ?_
   refine wpIf_nil (fun hS9 => ?_)
   clear hS9
   refine wO 2 22 (fun K hK => ?_)
   go_simp
   refine (HST.out _ (HF.out _ hBw)).mono ?_
   rintro e w4 ⟨rfl, hb4⟩
   replace hxf := hxf.keep hb4 hxf.lt
   replace hx3 := hx3.keep hb4 hx3.lt
   replace hx20 := hx20.keep hb4 hx20.lt
   replace HS3 := Lib.hid ((HS3.out.below hb4).mono hb4.size)
   replace HS20 := Lib.hid ((HS20.out.below hb4).mono hb4.size)
   replace hBw := hBw.trans (hb4.mono hBw.size)
   refine hK _ _ ⟨⟨hxf, hx3, hx20⟩, fun _ => trivial⟩ (fun hS9 => ?_)
   clear hK K hS9 hb4
   refine wA 18 [3, 4, 5, 7] ⟨⟨hxf, hx3, hx20⟩, fun _ => trivial⟩ ?_
   simp only [pick, List.filterMap_cons, List.filterMap_nil, List.getElem?_cons_zero, List.getElem?_cons_succ]
   refine wS (.bool false) (fun w hw => by go_simp) ?_
   refine wS (.bool false) (fun w hw => by go_simp) ?_
   refine wS (.agg #[.slice a20 ss.length c20]) (fun w hw => by have e0 := hw.2.2.cell 0 _ rfl; go_simp) ?_
   refine wS (.agg #[.slice a20 ss.length c20]) (fun w hw => by have e0 := hw.2.2.cell 0 _ rfl; go_simp) ?_
   refine wpIf_nil (fun hS9 => ?_)
   clear hS9
   refine wO 6 17 (fun K hK => ?_)
   go_simp
   refine (HRT.out _ HS20.out (HT.out _ hBw).1.2.1 (HT.out _ hBw).1.2.2.1).mono ?_
   rintro e w5 ⟨rfl, hb5⟩
   replace hxf := hxf.keep hb5 hxf.lt
   replace hx3 := hx3.keep hb5 hx3.lt
   replace hx20 := hx20.keep hb5 hx20.lt
   replace HS3 := Lib.hid ((HS3.out.below hb5).mono hb5.size)
   replace HS20 := Lib.hid ((HS20.out.below hb5).mono hb5.size)
   replace hBw := hBw.trans (hb5.mono hBw.size)
   refine hK _ _ ⟨⟨hxf, hx3, hx20⟩, fun _ => trivial⟩ (fun hS9 => ?_)
   clear hK K hS9 hb5
   refine wO 8 16 (fun K hK => ?_)
   go_simp
   refine (HRS.out _ HS20.out).mono ?_
   rintro e w6 ⟨rfl, hb6⟩
   replace hxf := hxf.keep hb6 hxf.lt
   replace hx3 := hx3.keep hb6 hx3.lt
   replace hx20 := hx20.keep hb6 hx20.lt
   replace HS3 := Lib.hid ((HS3.out.below hb6).mono hb6.size)
   replace HS20 := Lib.hid ((HS20.out.below hb6).mono hb6.size)
   replace hBw := hBw.trans (hb6.mono hBw.size)
   refine hK _ _ ⟨⟨hxf, hx3, hx20⟩, fun _ => trivial⟩ (fun hS9 => ?_)
   clear hK K hS9 hb6
   refine wA 12 [9, 10, 11, 12] ⟨⟨hxf, hx3, hx20⟩, fun _ => trivial⟩ ?_
   simp only [pick, List.filterMap_cons, List.filterMap_nil, List.getElem?_cons_zero, List.getElem?_cons_succ]
   refine wS (.bool false) (fun w hw => by go_simp) ?_
   refine wS (.bool false) (fun w hw => by go_simp) ?_
   refine wS (.bool false) (fun w hw => by go_simp) ?_
   refine wS (opV o (.slice xa o.its.length xc)) (fun w hw => by have e0 := hw.1.cell 0 _ rfl; have e1 := hw.1.cell 1 _ rfl; have e2 := hw.1.cell 2 _ rfl; have e3 := hw.1.cell 3 _ rfl; have e4 := hw.1.cell 4 _ rfl; have e5 := hw.1.cell 5 _ rfl; have e6 := hw.1.cell 6 _ rfl; go_simp) ?_
   refine wpIf_nil (fun hS9 => ?_)
   clear hS9
   refine wO 13 11 (fun K hK => ?_)
   go_simp
   refine (HIO.out _ (HF.out _ hBw)).mono ?_
   rintro e w7 ⟨rfl, hb7⟩
   replace hxf := hxf.keep hb7 hxf.lt
   replace hx3 := hx3.keep hb7 hx3.lt
   replace hx20 := hx20.keep hb7 hx20.lt
   replace HS3 := Lib.hid ((HS3.out.below hb7).mono hb7.size)
   replace HS20 := Lib.hid ((HS20.out.below hb7).mono hb7.size)
   replace hBw := hBw.trans (hb7.mono hBw.size)
   refine hK _ _ ⟨⟨hxf, hx3, hx20⟩, fun _ => trivial⟩ (fun hS9 => ?_)
   clear hK K hS9 hb7
   refine wA 5 [14, 15, 16, 17, 18, 19] ⟨⟨hxf, hx3, hx20⟩, fun _ => trivial⟩ ?_
   simp only [pick, List.filterMap_cons, List.filterMap_nil, List.getElem?_cons_zero, List.getElem?_cons_succ]
   refine wS (.bool true) (fun w hw => by go_simp) ?_
   refine wS (.bool true) (fun w hw => by go_simp) ?_
   refine wS (.bool false) (fun w hw => by go_simp) ?_
   refine wS (.bool false) (fun w hw => by go_simp) ?_
   refine wS (opV o (.slice a3 o.its.length c3)) (fun w hw => by have e0 := hw.2.1.cell 0 _ rfl; have e1 := hw.2.1.cell 1 _ rfl; have e2 := hw.2.1.cell 2 _ rfl; have e3 := hw.2.1.cell 3 _ rfl; have e4 := hw.2.1.cell 4 _ rfl; have e5 := hw.2.1.cell 5 _ rfl; have e6 := hw.2.1.cell 6 _ rfl; go_simp) ?_
   refine wS (opV o (.slice xa o.its.length xc)) (fun w hw => by have e0 := hw.1.cell 0 _ rfl; have e1 := hw.1.cell 1 _ rfl; have e2 := hw.1.cell 2 _ rfl; have e3 := hw.1.cell 3 _ rfl; have e4 := hw.1.cell 4 _ rfl; have e5 := hw.1.cell 5 _ rfl; have e6 := hw.1.cell 6 _ rfl; go_simp) ?_
   refine wpIf_nil (fun hS9 => ?_)
   clear hS9
   refine wO 20 4 (fun K hK => ?_)
   go_simp
   refine (sameOp_any _ _ _ _ HS3.out (HF.out _ hBw)).mono ?_
   rintro e w8 ⟨rfl, hb8⟩
   replace hxf := hxf.keep hb8 hxf.lt
   replace hx3 := hx3.keep hb8 hx3.lt
   replace hx20 := hx20.keep hb8 hx20.lt
   replace HS3 := Lib.hid ((HS3.out.below hb8).mono hb8.size)
   replace HS20 := Lib.hid ((HS20.out.below hb8).mono hb8.size)
   replace hBw := hBw.trans (hb8.mono hBw.size)
   refine hK _ _ ⟨⟨hxf, hx3, hx20⟩, fun _ => trivial⟩ (fun hS9 => ?_)
   clear hK K hS9 hb8
   refine wA 1 [21, 22, 23] ⟨⟨hxf, hx3, hx20⟩, fun _ => trivial⟩ ?_
   simp only [pick, List.filterMap_cons, List.filterMap_nil, List.getElem?_cons_zero, List.getElem?_cons_succ]
   refine wS (.bool false) (fun w hw => by go_simp) ?_
   refine wS (.bool false) (fun w hw => by go_simp) ?_
   refine wS (.bool false) (fun w hw => by go_simp) ?_
   refine wpIf_nil (fun hS9 => ?_)
   clear hS9
   refine wO 24 0 (fun K hK => ?_)
   go_simp
   refine hK _ _ ⟨⟨hxf, hx3, hx20⟩, fun _ => trivial⟩ (fun hS9 => ?_)
   clear hK K hS9
   refine wpAnyT_over (by kernel_rfl) ?_
   clear HSame
   go_wp2_with fail
   refine (drawReadOp_any _ _ _ (HCD.out.below (HBw0.out.trans (hBw.mono HBw0.out.size)))).mono ?_
   rintro e w9 ⟨t5, rfl, ht5, hb9⟩
   replace hxf := hxf.keep hb9 hxf.lt
   replace hx3 := hx3.keep hb9 hx3.lt
   replace hx20 := hx20.keep hb9 hx20.lt
   replace HS3 := Lib.hid ((HS3.out.below hb9).mono hb9.size)
   replace HS20 := Lib.hid ((HS20.out.below hb9).mono hb9.size)
   replace hBw := hBw.trans (hb9.mono hBw.size)
   clear hb9
   obtain ⟨q6, b6, hr6, hz6, hz6i, hf6, _⟩ := ro_uni2 t5
   have HT5 : Hid (t5.size <= 2000000) := Lib.hid (by omega)
   have HR6 := Lib.hid hr6
   have HZ6 := Lib.hid hz6i
   have HF6 := Lib.hid hf6
   have HU6 := Lib.hid hz6
   clear hr6 hz6i hf6 hz6
   go_wp2_with fail
   refine (implReadOp_any t5 _ HT5.out (HT.out _ hBw).1.2.2.2 (HT.out _ hBw).1.1 (HT.out _ hBw).2 (HT.out _ hBw).1.2.1).mono ?_
   rintro e w10 ⟨hrf, hb10⟩
   obtain ⟨V10, rfl, hO10⟩ := HR6.out _ _ _ hrf
   obtain ⟨a10, c10, rfl⟩ := hO10.slice
   have HS10 : Hid (ItAt w10 w10.heap.size (.slice a10 q6.its.length c10) q6.its) := Lib.hid (ItAt.of_own hO10 HZ6.out)
   replace hxf := hxf.keep hb10 hxf.lt
   replace hx3 := hx3.keep hb10 hx3.lt
   replace hx20 := hx20.keep hb10 hx20.lt
   replace HS3 := Lib.hid ((HS3.out.below hb10).mono hb10.size)
   replace HS20 := Lib.hid ((HS20.out.below hb10).mono hb10.size)
   replace hBw := hBw.trans (hb10.mono hBw.size)
   clear hb10 hrf hO10
   have hx10 := Box.new w10 #[.int .i64 q6.k, .string q6.u, .string q6.i, .int .i64 q6.d, .string q6.fu, .string q6.ft, .slice a10 q6.its.length c10] 35
   have hba : Below w10.heap.size w10 (w10.alloc (.cells #[.int .i64 q6.k, .string q6.u, .string q6.i, .int .i64 q6.d, .string q6.fu, .string q6.ft, .slice a10 q6.its.length c10] 35)) := (Below.refl _ _).alloc (Nat.le_refl _) _
   replace hxf := hxf.keep hba hxf.lt
   replace hx3 := hx3.keep hba hx3.lt
   replace hx20 := hx20.keep hba hx20.lt
   replace HS3 := Lib.hid ((HS3.out.below hba).mono hba.size)
   replace HS20 := Lib.hid ((HS20.out.below hba).mono hba.size)
   replace HS10 := Lib.hid ((HS10.out.below hba).mono hba.size)
   replace hBw := hBw.trans (hba.mono hBw.size)
   clear hba
   go_wp2_with fail
   generalize w10.alloc (.cells #[.int .i64 q6.k, .string q6.u, .string q6.i, .int .i64 q6.d, .string q6.fu, .string q6.ft, .slice a10 q6.its.length c10] 35) = W10 at hxf hx3 hx20 hx10 HS3 HS20 HS10 hBw ⊢
   generalize w10.heap.size = g10 at hx10 ⊢
   refine (specReadOp_any t5 _ HT5.out).mono ?_
   rintro e w11 ⟨hrf, hb11⟩
   obtain ⟨V11, rfl, hO11⟩ := HR6.out _ _ _ hrf
   obtain ⟨a11, c11, rfl⟩ := hO11.slice
   have HS11 : Hid (ItAt w11 w11.heap.size (.slice a11 q6.its.length c11) q6.its) := Lib.hid (ItAt.of_own hO11 HZ6.out)
   replace hxf := hxf.keep hb11 hxf.lt
   replace hx3 := hx3.keep hb11 hx3.lt
   replace hx20 := hx20.keep hb11 hx20.lt
   replace hx10 := hx10.keep hb11 hx10.lt
   replace HS3 := Lib.hid ((HS3.out.below hb11).mono hb11.size)
   replace HS20 := Lib.hid ((HS20.out.below hb11).mono hb11.size)
   replace HS10 := Lib.hid ((HS10.out.below hb11).mono hb11.size)
   replace hBw := hBw.trans (hb11.mono hBw.size)
   clear hb11 hrf hO11
   have hx11 := Box.new w11 #[.int .i64 q6.k, .string q6.u, .string q6.i, .int .i64 q6.d, .string q6.fu, .string q6.ft, .slice a11 q6.its.length c11] 35
   have hba : Below w11.heap.size w11 (w11.alloc (.cells #[.int .i64 q6.k, .string q6.u, .string q6.i, .int .i64 q6.d, .string q6.fu, .string q6.ft, .slice a11 q6.its.length c11] 35)) := (Below.refl _ _).alloc (Nat.le_refl _) _
   replace hxf := hxf.keep hba hxf.lt
   replace hx3 := hx3.keep hba hx3.lt
   replace hx20 := hx20.keep hba hx20.lt
   replace hx10 := hx10.keep hba hx10.lt
   replace HS3 := Lib.hid ((HS3.out.below hba).mono hba.size)
   replace HS20 := Lib.hid ((HS20.out.below hba).mono hba.size)
   replace HS10 := Lib.hid ((HS10.out.below hba).mono hba.size)
   replace HS11 := Lib.hid ((HS11.out.below hba).mono hba.size)
   replace hBw := hBw.trans (hba.mono hBw.size)
   clear hba
   cases b6 with
   | false =>
    go_wp2
    go_ret
    exact ⟨rfl, HBw0.out.trans (hBw.mono HBw0.out.size)⟩
   | true =>
    obtain ⟨hq1, hq2⟩ := HF6.out rfl
    have HIT6 := Lib.hid (fun (W : World) h1 h2 => implOpText_any q6 (.slice a10 q6.its.length c10) W h1 HU6.out h2)
    have HIO6 := Lib.hid (fun (W : World) h1 => implOpOk_any q6 (.slice a10 q6.its.length c10) W h1 HU6.out)
    rw [hq2] at HIT6
    rw [hq1] at HIO6
    clear hq1 hq2
    have xx100 := hx10.cell 0 _ rfl
    have xx101 := hx10.cell 1 _ rfl
    have xx102 := hx10.cell 2 _ rfl
    have xx103 := hx10.cell 3 _ rfl
    have xx104 := hx10.cell 4 _ rfl
    have xx105 := hx10.cell 5 _ rfl
    have xx106 := hx10.cell 6 _ rfl
    go_wp2_with fail
    clear xx100 xx101 xx102 xx103 xx104 xx105 xx106
    generalize w11.alloc (.cells #[.int .i64 q6.k, .string q6.u, .string q6.i, .int .i64 q6.d, .string q6.fu, .string q6.ft, .slice a11 q6.its.length c11] 35) = W11 at hxf hx3 hx20 hx10 hx11 HS3 HS20 HS10 HS11 hBw ⊢
    generalize w11.heap.size = g11 at hx11 ⊢
    refine (HIT6.out _ HS10.out (HT.out _ hBw).1).mono ?_
    rintro e w12 ⟨rfl, hb12⟩
    replace hxf := hxf.keep hb12 hxf.lt
    replace hx3 := hx3.keep hb12 hx3.lt
    replace hx20 := hx20.keep hb12 hx20.lt
    replace hx10 := hx10.keep hb12 hx10.lt
    replace hx11 := hx11.keep hb12 hx11.lt
    replace HS3 := Lib.hid ((HS3.out.below hb12).mono hb12.size)
    replace HS20 := Lib.hid ((HS20.out.below hb12).mono hb12.size)
    replace HS10 := Lib.hid ((HS10.out.below hb12).mono hb12.size)
    replace HS11 := Lib.hid ((HS11.out.below hb12).mono hb12.size)
    replace hBw := hBw.trans (hb12.mono hBw.size)
    clear hb12
    have xx100 := hx10.cell 0 _ rfl
    have xx101 := hx10.cell 1 _ rfl
    have xx102 := hx10.cell 2 _ rfl
    have xx103 := hx10.cell 3 _ rfl
    have xx104 := hx10.cell 4 _ rfl
    have xx105 := hx10.cell 5 _ rfl
    have xx106 := hx10.cell 6 _ rfl
    go_wp2_with fail
    clear xx100 xx101 xx102 xx103 xx104 xx105 xx106
    refine (HIO6.out _ HS10.out).mono ?_
    rintro e w13 ⟨rfl, hb13⟩
    replace hxf := hxf.keep hb13 hxf.lt
    replace hx3 := hx3.keep hb13 hx3.lt
    replace hx20 := hx20.keep hb13 hx20.lt
    replace hx10 := hx10.keep hb13 hx10.lt
    replace hx11 := hx11.keep hb13 hx11.lt
    replace HS3 := Lib.hid ((HS3.out.below hb13).mono hb13.size)
    replace HS20 := Lib.hid ((HS20.out.below hb13).mono hb13.size)
    replace HS10 := Lib.hid ((HS10.out.below hb13).mono hb13.size)
    replace HS11 := Lib.hid ((HS11.out.below hb13).mono hb13.size)
    replace hBw := hBw.trans (hb13.mono hBw.size)
    clear hb13
    go_wp2
    go_ret
    exact ⟨rfl, HBw0.out.trans (hBw.mono HBw0.out.size)⟩
end Go.Proofs.YtffkakpbelknaaaGreatDoor

/- What the laws on polls draw: polls. -/
import Derived.Test.YtlipgmaiooljkaaW16h
namespace Go.Proofs.Ytlipgmaiooljkaa
open Go.ChangeShapes Go.WideShapes Go.ChangeAt Go.RowKit
set_option linter.unusedVariables false
set_option linter.unusedSimpArgs false

/-- A poll that is drawn. -/
def PlD (q : PollD) : Prop := q.u.size ≤ 3 ∧ q.m.size ≤ 2 ∧ 0 ≤ q.n ∧ q.n ≤ 1000000000
theorem PlD.sz {q : PollD} (h : PlD q) : PkSz q := by obtain ⟨h1, h2, _⟩ := h; exact ⟨by unfold maxLen; omega, by unfold maxLen; omega⟩
theorem PlD.zero : PlD pk0 := ⟨Nat.zero_le _, Nat.zero_le _, Int.le_refl _, (show (0 : Int) ≤ 1000000000 by decide)⟩
theorem pnV_PlD {u : ByteArray} {n : Int} (hu : u.size ≤ 3) : PlD (pnV u n) := by
  unfold pnV
  split
  · rename_i h
    simp at h
    exact ⟨hu, Nat.zero_le _, h.2.1, h.2.2⟩
  · exact PlD.zero
theorem pkX_um (p : PollD) (a : AnsD) (hp : p.u.size ≤ 3 ∧ p.m.size ≤ 2) (ha : a.m.size ≤ 2 ∧ a.u.size ≤ 3) : (pkX p a).u.size ≤ 3 ∧ (pkX p a).m.size ≤ 2 := by
  unfold pkX flP
  split
  · exact ⟨hp.1, ha.1⟩
  · split
    · exact hp
    · split
      · split
        · exact hp
        · exact ⟨ha.2, Nat.zero_le _⟩
      · split
        · exact hp
        · exact hp
theorem paV_PlD {p : PollD} {now : Int} {a : AnsD} (hp : PlD p) (ha : AnD a) : PlD (paV p now a) := by
  unfold paV
  split
  · rename_i h
    obtain ⟨h1, h2, h3, h4⟩ := hp
    obtain ⟨a1, a2, a3, a4, a5⟩ := ha
    have hx := pkX_um p a ⟨h1, h2⟩ ⟨a1, a2⟩
    rw [paO_eq] at h
    simp only [Bool.and_eq_true, decide_eq_true_eq] at h
    obtain ⟨⟨⟨⟨hpk, _⟩, _⟩, hn1⟩, hn2⟩ := h
    obtain ⟨i1, i2, i3, i4, i5, i6⟩ := pkB_inv hpk
    have hw := pkX_wt (p := p) (a := a) i3 i4
    refine ⟨hx.1, hx.2, ?_, ?_⟩
    · show 0 ≤ now + paT p a
      unfold paT paW
      split <;> omega
    · show now + paT p a ≤ 1000000000
      unfold paT paW
      split <;> omega
  · exact PlD.zero

set_option maxRecDepth 100000 in
set_option maxHeartbeats 2000000 in
theorem poll_any (base rb : Nat) (cv : Value) (zs : List Int) (w : World) (h : Rd w base rb cv zs) :
    Calls Try.prog 56 #[.pointer (some ⟨rb, 0, none⟩)] w fun e w' => ∃ q : PollD, e = .returned (pkV q) ∧ PlD q ∧ Rd w' base rb cv zs ∧ w.grownBy w' (some rb) := by
  have hrb0 := h.lt
  have hrd := h.alloc (.cells pk0C 23)
  have hgr := World.grownBy_alloc w (.cells pk0C 23) (some rb)
  have hz := Box.new w pk0C 23
  clear h
  go_enter Try.func56, Try.ntmps56
  go_wp2_with fail
  generalize w.alloc (.cells pk0C 23) = W0 at hrd hgr hz ⊢
  refine (url_any base rb cv zs _ hrd).mono ?_
  rintro e w1 ⟨uu, rfl, huu, hrd, hg1⟩
  replace hz := hz.keepG hg1 (by omega)
  replace hgr := grown_trans hgr hg1
  clear hg1
  go_wp2_with fail
  refine (below_any 100 base rb cv zs _ hrd (by omega) (by omega)).mono ?_
  rintro e w2 ⟨nn, rfl, hn0, hn1, hrd, hg2⟩
  replace hz := hz.keepG hg2 (by omega)
  replace hgr := grown_trans hgr hg2
  clear hg2
  have HN := Lib.hid (fun w => specPollNew_any uu nn w (by unfold maxLen; omega))
  have HPl := Lib.hid (pnV_PlD (n := nn) huu)
  generalize pnV uu nn = q0 at HN HPl
  generalize pnO uu nn = O at HN
  obtain ⟨ua, ma, na, wa, fa, ga⟩ := q0
  go_wp2_with fail
  refine (HN.out _).mono ?_
  rintro e w3 ⟨rfl, hb3⟩
  replace hz := hz.keep hb3 hz.lt
  have hgr3 := gw_below16 hgr hb3 hgr.size
  replace hrd := hrd.below hb3 hrd.lt
  have hx := Box.new w3 #[.string ua, .string ma, .int .i64 na, .int .i64 wa, .int .i64 fa, .bool ga] 23
  have hS3 : w.heap.size < w3.heap.size := hz.lt
  replace hz := hz.alloc (.cells #[.string ua, .string ma, .int .i64 na, .int .i64 wa, .int .i64 fa, .bool ga] 23)
  have hgr4 := grown_trans hgr3 (World.grownBy_alloc w3 (.cells #[.string ua, .string ma, .int .i64 na, .int .i64 wa, .int .i64 fa, .bool ga] 23) (some rb))
  replace hrd := hrd.alloc (.cells #[.string ua, .string ma, .int .i64 na, .int .i64 wa, .int .i64 fa, .bool ga] 23)
  have hrb3 : rb < w3.heap.size := by omega
  clear hgr hgr3 hb3 HN
  go_wp2_with fail
  generalize w3.alloc (.cells #[.string ua, .string ma, .int .i64 na, .int .i64 wa, .int .i64 fa, .bool ga] 23) = W4 at hz hx hgr4 hrd ⊢
  generalize w3.heap.size = G at hx hS3 hrb3 ⊢
  refine (below_any 5 base rb cv zs _ hrd (by omega) (by omega)).mono ?_
  rintro e w5 ⟨y5, rfl, hy0, hy1, hrd, hg5⟩
  replace hz := hz.keepG hg5 (by omega)
  replace hx := hx.keepG hg5 (by omega)
  replace hgr4 := grown_trans hgr4 hg5
  clear hg5
  go_wp2
  go_loopw [5] (fun i wr => ∃ (k : Nat) (q : PollD), k ≤ 4 ∧ i = .int .i64 (k : Int) ∧ Hid (PlD q) ∧ Box wr G (pkC q) 23 ∧ Box wr w.heap.size pk0C 23 ∧ Rd wr base rb cv zs ∧ w.grownBy wr (some rb)) (fun i _ => (intOf i).toNat)
  case atStart => exact ⟨y5.toNat, ⟨ua, ma, na, wa, fa, ga⟩, by omega, by rw [Int.toNat_of_nonneg hy0], HPl, hx, hz, hrd, hgr4⟩
  case round =>
    clear hx hz hrd hgr4 HPl
    obtain ⟨k, q, hk, rfl, HP, hx, hz, hrd, hgr⟩ := hrel
    obtain ⟨u, m, n, wt, f, gg⟩ := q
    by_cases hk0 : k = 0
    case pos =>
      subst hk0
      go_wp2_with fail
      refine (once_any 30 base rb cv zs _ hrd (by omega) (by omega)).mono ?_
      rintro e w6 ⟨bb, rfl, hrd, hg6⟩
      replace hz := hz.keepG hg6 (by omega)
      replace hx := hx.keepG hg6 (by omega)
      replace hgr := grown_trans hgr hg6
      clear hg6
      cases bb with
      | false =>
        have y0 := hx.cell 0 _ rfl
        have y1 := hx.cell 1 _ rfl
        have y2 := hx.cell 2 _ rfl
        have y3 := hx.cell 3 _ rfl
        have y4 := hx.cell 4 _ rfl
        have y5 := hx.cell 5 _ rfl
        have z0 := hz.cell 0 _ rfl
        have z1 := hz.cell 1 _ rfl
        have z2 := hz.cell 2 _ rfl
        have z3 := hz.cell 3 _ rfl
        have z4 := hz.cell 4 _ rfl
        have z5 := hz.cell 5 _ rfl
        have g0 := hz.free 0
        have g1 := hz.free 1
        have g2 := hz.free 2
        have g3 := hz.free 3
        have g4 := hz.free 4
        have g5 := hz.free 5
        go_wp2
        refine bodyPost_ret (results_pk rfl _ _ _ _ rfl rfl (hz.put6 rfl _ _ _ _ _ _)) rfl ?_
        exact ⟨⟨u, m, n, wt, f, gg⟩, rfl, HP.out, hrd.below (below6 _ (rb + 1) _ (by omega) _ _ _ _ _ _) (Nat.lt_succ_self rb), gw_below16 hgr (below6 _ w.heap.size _ (Nat.le_refl _) _ _ _ _ _ _) (Nat.le_refl _)⟩
      | true =>
        go_wp2_with fail
        refine (off_any 10 1000 base rb cv zs _ hrd (by omega) (by omega) (by omega)).mono ?_
        rintro e w7 ⟨oo, rfl, hoo, hrd, hg7⟩
        replace hz := hz.keepG hg7 (by omega)
        replace hx := hx.keepG hg7 (by omega)
        replace hgr := grown_trans hgr hg7
        clear hg7
        have yk := hx.cell 3 _ rfl
        have fk := hx.free 3
        have hxs := hx.set 3 (.int .i64 oo)
        change Box _ G #[.string u, .string m, .int .i64 n, .int .i64 oo, .int .i64 f, .bool gg] _ at hxs
        have hbe : Below G w7 (w7.setCell ⟨G, 3, none⟩ (.int .i64 oo)) := (Below.refl _ _).setCell (p := ⟨G, 3, none⟩) (Nat.le_refl _) _
        have hrds := hrd.below (hbe.mono (show rb + 1 ≤ G by omega)) (Nat.lt_succ_self rb)
        have hzs := hz.keep hbe hS3
        have hgrs := gw_below16 hgr (hbe.mono (Nat.le_of_lt hS3)) (Nat.le_refl _)
        clear hx hz hrd hgr
        have hx := hxs
        have hz := hzs
        have hrd := hrds
        have hgr := hgrs
        clear hxs hzs hrds hgrs hbe
        have y0 := hx.cell 0 _ rfl
        have y1 := hx.cell 1 _ rfl
        have y2 := hx.cell 2 _ rfl
        have y3 := hx.cell 3 _ rfl
        have y4 := hx.cell 4 _ rfl
        have y5 := hx.cell 5 _ rfl
        have z0 := hz.cell 0 _ rfl
        have z1 := hz.cell 1 _ rfl
        have z2 := hz.cell 2 _ rfl
        have z3 := hz.cell 3 _ rfl
        have z4 := hz.cell 4 _ rfl
        have z5 := hz.cell 5 _ rfl
        have g0 := hz.free 0
        have g1 := hz.free 1
        have g2 := hz.free 2
        have g3 := hz.free 3
        have g4 := hz.free 4
        have g5 := hz.free 5
        go_wp2
        refine bodyPost_ret (results_pk rfl _ _ _ _ rfl rfl (hz.put6 rfl _ _ _ _ _ _)) rfl ?_
        exact ⟨⟨u, m, n, oo, f, gg⟩, rfl, HP.out, hrd.below (below6 _ (rb + 1) _ (by omega) _ _ _ _ _ _) (Nat.lt_succ_self rb), gw_below16 hgr (below6 _ w.heap.size _ (Nat.le_refl _) _ _ _ _ _ _) (Nat.le_refl _)⟩
    have hkp : decide (0 < (k : Int)) = true := decide_eq_true (by omega)
    have hrb : rb < wr.heap.size := hrd.lt
    have hxl := hx.lt
    have hzl := hz.lt
    have hPn := HP.out.2.2
    dsimp only at hPn
    obtain ⟨hPn0, hPn1⟩ := hPn
    go_wp2
    have hwr0 : Hid (w.grownBy wr (some rb)) := Lib.hid hgr
    generalize wr = wr0 at hx hz hrd hgr hrb hxl hzl hwr0 ⊢
    have hrd0 := hrd
    clear hgr hrd
    refine wp_region_T (fun _ => True) (fun _ => True) 14 (by kernel_rfl) 15 rfl ?_
    obtain ⟨kl, hkl⟩ : ∃ kl : List Ke, Hid (kl = [.val (.agg #[.string u, .string m, .int .i64 n, .int .i64 wt, .int .i64 f, .bool gg]), .val (.pointer (some ⟨G, 2, none⟩)), .val (.int .i64 n), .val (.pointer (some ⟨rb, 0, none⟩)), .ex (fun v w => ∃ y : Int, v = .int .i64 y ∧ 0 ≤ y ∧ y < 5), .ex (fun v w => ∃ y : Int, v = .int .i64 (n + y) ∧ 0 ≤ y ∧ y < 5), .val (.pointer (some ⟨rb, 0, none⟩)), .ex (fun v w => ∃ a : AnsD, v = anV a ∧ AnD a), .ex (fun v w => ∃ (q : PollD) (b : Bool), v = .tuple #[pkV q, .bool b] ∧ PlD q), .ex (fun v w => ∃ (q : PollD) (b : Bool), v = .tuple #[pkV q, .bool b] ∧ PlD q), .ex (fun v w => ∃ q : PollD, v = pkV q ∧ PlD q), .ex (fun v w => ∃ b : Bool, v = .bool b), .box 6 (23), .ex (fun v w => ∃ g, v = .pointer (some ⟨g, 0, none⟩) ∧ wr0.heap.size ≤ g ∧ ∃ q : PollD, PlD q ∧ Box w g (pkC q) (23)), .val undef]) := ⟨_, Lib.hid rfl⟩
    have hkB : Hid (∀ j, exG rb (kl.getD j (.val undef))) := Lib.hid (ke_of (by rw [hkl.out]; simp only [List.forall_mem_cons]; exact ⟨trivial, trivial, trivial, trivial, (by first | exact fun _ _ _ _ h => h | (rintro v w w' hg ⟨g, h1, h2, q, h3, h4⟩; exact ⟨g, h1, h2, q, h3, h4.keepG hg (by omega)⟩)), (by first | exact fun _ _ _ _ h => h | (rintro v w w' hg ⟨g, h1, h2, q, h3, h4⟩; exact ⟨g, h1, h2, q, h3, h4.keepG hg (by omega)⟩)), trivial, (by first | exact fun _ _ _ _ h => h | (rintro v w w' hg ⟨g, h1, h2, q, h3, h4⟩; exact ⟨g, h1, h2, q, h3, h4.keepG hg (by omega)⟩)), (by first | exact fun _ _ _ _ h => h | (rintro v w w' hg ⟨g, h1, h2, q, h3, h4⟩; exact ⟨g, h1, h2, q, h3, h4.keepG hg (by omega)⟩)), (by first | exact fun _ _ _ _ h => h | (rintro v w w' hg ⟨g, h1, h2, q, h3, h4⟩; exact ⟨g, h1, h2, q, h3, h4.keepG hg (by omega)⟩)), (by first | exact fun _ _ _ _ h => h | (rintro v w w' hg ⟨g, h1, h2, q, h3, h4⟩; exact ⟨g, h1, h2, q, h3, h4.keepG hg (by omega)⟩)), (by first | exact fun _ _ _ _ h => h | (rintro v w w' hg ⟨g, h1, h2, q, h3, h4⟩; exact ⟨g, h1, h2, q, h3, h4.keepG hg (by omega)⟩)), trivial, (by first | exact fun _ _ _ _ h => h | (rintro v w w' hg ⟨g, h1, h2, q, h3, h4⟩; exact ⟨g, h1, h2, q, h3, h4.keepG hg (by omega)⟩)), trivial, by simp⟩) trivial)
    have hkP13 : Hid (∀ j, j ≠ 13 → exP wr0.heap.size (23) (kl.getD j (.val undef))) := Lib.hid (fun j hj => by
  rcases Nat.lt_or_ge j 15 with hlt | hge
  · rcases (show j = 0 ∨ j = 1 ∨ j = 2 ∨ j = 3 ∨ j = 4 ∨ j = 5 ∨ j = 6 ∨ j = 7 ∨ j = 8 ∨ j = 9 ∨ j = 10 ∨ j = 11 ∨ j = 12 ∨ j = 14 by omega) with rfl | rfl | rfl | rfl | rfl | rfl | rfl | rfl | rfl | rfl | rfl | rfl | rfl | rfl
    · rw [hkl.out]; trivial
    · rw [hkl.out]; trivial
    · rw [hkl.out]; trivial
    · rw [hkl.out]; trivial
    · rw [hkl.out]; exact fun _ _ _ _ _ _ _ h => h
    · rw [hkl.out]; exact fun _ _ _ _ _ _ _ h => h
    · rw [hkl.out]; trivial
    · rw [hkl.out]; exact fun _ _ _ _ _ _ _ h => h
    · rw [hkl.out]; exact fun _ _ _ _ _ _ _ h => h
    · rw [hkl.out]; exact fun _ _ _ _ _ _ _ h => h
    · rw [hkl.out]; exact fun _ _ _ _ _ _ _ h => h
    · rw [hkl.out]; exact fun _ _ _ _ _ _ _ h => h
    · rw [hkl.out]; trivial
    · rw [hkl.out]; trivial
  · rw [hkl.out, List.getD_eq_getElem?_getD, List.getElem?_eq_none (by simpa using hge)]; trivial)
    refine wpAnyT_flo2 (fun i => decide (i < 14)) (by kernel_rfl) (by kernel_rfl) 1 (fun L a wr => ∃ (cQ : Nat → Bool) (sQ : Nat → Value), L = #[cQ 0, cQ 1, cQ 2, cQ 3, cQ 4, cQ 5, cQ 6, cQ 7, cQ 8, cQ 9, cQ 10, cQ 11, cQ 12, cQ 13, false] ∧ a = { tmps := #[Value.pointer (some { block := rb, off := 0 }), undef, Value.pointer (some { block := w.heap.size, off := 0 }), Value.pointer (some { block := G, off := 0 }), Value.bool O, Value.int IntKind.i64 ((k : Nat) : Int), slE (u6) cQ sQ 12, u7, Value.tuple #[pkV { u := ua, m := ma, n := na, wt := wa, f := fa, g := ga }, Value.bool O], Value.pointer (some { block := rb, off := 0 }), Value.string uu, Value.pointer (some { block := rb, off := 0 }), Value.int IntKind.i64 nn, Value.tuple #[pkV { u := ua, m := ma, n := na, wt := wa, f := fa, g := ga }, Value.bool O], pkV { u := ua, m := ma, n := na, wt := wa, f := fa, g := ga }, Value.bool O, Value.pointer (some { block := rb, off := 0 }), Value.int IntKind.i64 y5, Value.int IntKind.i64 ((k : Nat) : Int), Value.bool (decide (0 < k)), u20, u21, slE (u22) cQ sQ 9, slE (u23) cQ sQ 0, slE (u24) cQ sQ 1, slE (u25) cQ sQ 2, slE (u26) cQ sQ 3, slE (u27) cQ sQ 4, slE (u28) cQ sQ 5, slE (u29) cQ sQ 6, slE (u30) cQ sQ 7, slE (u31) cQ sQ 8, slE (u32) cQ sQ 10, slE (u33) cQ sQ 11, u34, u35, undef, undef, undef, undef, undef, undef], defers := [] } ∧ FloS (KeP wr0.heap.size (fun i => kl.getD i (.val undef))) (fun wr => Rd wr base rb cv zs ∧ wr0.grownBy wr (some rb)) cQ sQ wr ∧ (cQ 13 = true → sQ 13 = sQ 12 ∧ cQ 12 = true)) ?_ ?_ ?_ ?_ 14 _ _ _ ?_ ?_
    · rintro L a wr ⟨cQ, sQ, rfl, _, _⟩
      rfl
    · rintro L a wr ⟨cQ, sQ, rfl, _, _⟩ i hi hfi
      have hi' : i < 15 := hi
      rcases (show i = 0 ∨ i = 1 ∨ i = 2 ∨ i = 3 ∨ i = 4 ∨ i = 5 ∨ i = 6 ∨ i = 7 ∨ i = 8 ∨ i = 9 ∨ i = 10 ∨ i = 11 ∨ i = 12 ∨ i = 13 ∨ i = 14 by omega) with rfl | rfl | rfl | rfl | rfl | rfl | rfl | rfl | rfl | rfl | rfl | rfl | rfl | rfl | rfl
      · exact absurd hfi (by decide)
      · exact absurd hfi (by decide)
      · exact absurd hfi (by decide)
      · exact absurd hfi (by decide)
      · exact absurd hfi (by decide)
      · exact absurd hfi (by decide)
      · exact absurd hfi (by decide)
      · exact absurd hfi (by decide)
      · exact absurd hfi (by decide)
      · exact absurd hfi (by decide)
      · exact absurd hfi (by decide)
      · exact absurd hfi (by decide)
      · exact absurd hfi (by decide)
      · exact absurd hfi (by decide)
      · rfl
    · rintro L a wr i o ⟨cQ, sQ, rfl, rfl, hF, hT13⟩ ho hfl hL hdep
      obtain ⟨hrd, hgr⟩ := hF.fr
      have hkk : Hid (∀ j, KeP wr0.heap.size (fun i => kl.getD i (.val undef)) j = KeP wr0.heap.size (fun i => ([.val (.agg #[.string u, .string m, .int .i64 n, .int .i64 wt, .int .i64 f, .bool gg]), .val (.pointer (some ⟨G, 2, none⟩)), .val (.int .i64 n), .val (.pointer (some ⟨rb, 0, none⟩)), .ex (fun v w => ∃ y : Int, v = .int .i64 y ∧ 0 ≤ y ∧ y < 5), .ex (fun v w => ∃ y : Int, v = .int .i64 (n + y) ∧ 0 ≤ y ∧ y < 5), .val (.pointer (some ⟨rb, 0, none⟩)), .ex (fun v w => ∃ a : AnsD, v = anV a ∧ AnD a), .ex (fun v w => ∃ (q : PollD) (b : Bool), v = .tuple #[pkV q, .bool b] ∧ PlD q), .ex (fun v w => ∃ (q : PollD) (b : Bool), v = .tuple #[pkV q, .bool b] ∧ PlD q), .ex (fun v w => ∃ q : PollD, v = pkV q ∧ PlD q), .ex (fun v w => ∃ b : Bool, v = .bool b), .box 6 (23), .ex (fun v w => ∃ g, v = .pointer (some ⟨g, 0, none⟩) ∧ wr0.heap.size ≤ g ∧ ∃ q : PollD, PlD q ∧ Box w g (pkC q) (23)), .val undef] : List Ke).getD i (.val undef)) j) := Lib.hid (by intro j; rw [hkl.out])
      have hi : i < 14 := of_decide_eq_true hfl
      rcases (show i = 0 ∨ i = 1 ∨ i = 2 ∨ i = 3 ∨ i = 4 ∨ i = 5 ∨ i = 6 ∨ i = 7 ∨ i = 8 ∨ i = 9 ∨ i = 10 ∨ i = 11 ∨ i = 12 ∨ i = 13 by omega) with rfl | rfl | rfl | rfl | rfl | rfl | rfl | rfl | rfl | rfl | rfl | rfl | rfl | rfl
      · have ho' := Option.some.inj ho
        subst ho'
        refine ⟨by kernel_rfl, ?_⟩
        have hxx := hx.keepG hgr (by omega)
        have y0 := hxx.cell 0 _ rfl
        have y1 := hxx.cell 1 _ rfl
        have y2 := hxx.cell 2 _ rfl
        have y3 := hxx.cell 3 _ rfl
        have y4 := hxx.cell 4 _ rfl
        have y5 := hxx.cell 5 _ rfl
        go_simp
        exact ⟨up cQ 0 true, by simp [up], up sQ 0 (.agg #[.string u, .string m, .int .i64 n, .int .i64 wt, .int .i64 f, .bool gg]), by simp [up, sl, slE], hF.stepN 0 (.agg #[.string u, .string m, .int .i64 n, .int .i64 wt, .int .i64 f, .bool gg]) _ ⟨hrd, hgr⟩ (fun j u _ h => h) (by rw [hkk.out]; exact rfl), by simpa [up] using hT13⟩
      · have ho' := Option.some.inj ho
        subst ho'
        refine ⟨by kernel_rfl, ?_⟩
        go_simp
        exact ⟨up cQ 1 true, by simp [up], up sQ 1 (.pointer (some ⟨G, 2, none⟩)), by simp [up, sl, slE], hF.stepN 1 (.pointer (some ⟨G, 2, none⟩)) _ ⟨hrd, hgr⟩ (fun j u _ h => h) (by rw [hkk.out]; exact rfl), by simpa [up] using hT13⟩
      · have ho' := Option.some.inj ho
        subst ho'
        have h1 : cQ 1 = true := hdep ⟨1, .data⟩ (by simp) rfl
        have q1 := hF.k 1 h1
        rw [hkk.out] at q1
        have e1 : sQ 1 = .pointer (some ⟨G, 2, none⟩) := q1
        refine ⟨by kernel_rfl, ?_⟩
        rw [slE_on h1, e1]
        have hxx := hx.keepG hgr (by omega)
        have y0 := hxx.cell 0 _ rfl
        have y1 := hxx.cell 1 _ rfl
        have y2 := hxx.cell 2 _ rfl
        have y3 := hxx.cell 3 _ rfl
        have y4 := hxx.cell 4 _ rfl
        have y5 := hxx.cell 5 _ rfl
        go_simp
        exact ⟨up cQ 2 true, by simp [up, h1, e1], up sQ 2 (.int .i64 n), by simp [up, sl, slE, h1, e1], hF.stepN 2 (.int .i64 n) _ ⟨hrd, hgr⟩ (fun j u _ h => h) (by rw [hkk.out]; exact rfl), by simpa [up] using hT13⟩
      · have ho' := Option.some.inj ho
        subst ho'
        refine ⟨by kernel_rfl, ?_⟩
        go_simp
        exact ⟨up cQ 3 true, by simp [up], up sQ 3 (.pointer (some ⟨rb, 0, none⟩)), by simp [up, sl, slE], hF.stepN 3 (.pointer (some ⟨rb, 0, none⟩)) _ ⟨hrd, hgr⟩ (fun j u _ h => h) (by rw [hkk.out]; exact rfl), by simpa [up] using hT13⟩
      · have ho' := Option.some.inj ho
        subst ho'
        have h3 : cQ 3 = true := hdep ⟨3, .data⟩ (by simp) rfl
        have q3 := hF.k 3 h3
        rw [hkk.out] at q3
        have e3 : sQ 3 = .pointer (some ⟨rb, 0, none⟩) := q3
        refine ⟨by kernel_rfl, ?_⟩
        rw [slE_on h3, e3]
        go_simp
        refine (below_any 5 base rb cv zs _ hrd (by omega) (by omega)).mono ?_
        rintro e w2 ⟨y, rfl, hy0, hy1, hr2, hg2⟩
        go_simp
        exact ⟨up cQ 4 true, by simp [up, h3, e3], up sQ 4 (.int .i64 y), by simp [up, sl, slE, h3, e3], hF.stepN 4 (.int .i64 y) _ ⟨hr2, grown_trans hgr hg2⟩ (fun j u _ h => KeP.grow hkB.out hrb hg2 j u h) (by rw [hkk.out]; exact ⟨y, rfl, hy0, hy1⟩), by simpa [up] using hT13⟩
      · have ho' := Option.some.inj ho
        subst ho'
        have h2 : cQ 2 = true := hdep ⟨2, .data⟩ (by simp) rfl
        have q2 := hF.k 2 h2
        rw [hkk.out] at q2
        have e2 : sQ 2 = .int .i64 n := q2
        have h4 : cQ 4 = true := hdep ⟨4, .data⟩ (by simp) rfl
        have q4 := hF.k 4 h4
        rw [hkk.out] at q4
        obtain ⟨y4, e4, hy40, hy41⟩ := q4
        refine ⟨by kernel_rfl, ?_⟩
        rw [slE_on h2, slE_on h4, e2, e4]
        have hwr := IntWalk.i64_in (n + y4) (by omega)
        go_simp
        exact ⟨up cQ 5 true, by simp [up, h2, h4, e2, e4], up sQ 5 (.int .i64 (n + y4)), by simp [up, sl, slE, h2, h4, e2, e4], hF.stepN 5 (.int .i64 (n + y4)) _ ⟨hrd, hgr⟩ (fun j u _ h => h) (by rw [hkk.out]; exact ⟨y4, rfl, hy40, hy41⟩), by simpa [up] using hT13⟩
      · have ho' := Option.some.inj ho
        subst ho'
        refine ⟨by kernel_rfl, ?_⟩
        go_simp
        exact ⟨up cQ 6 true, by simp [up], up sQ 6 (.pointer (some ⟨rb, 0, none⟩)), by simp [up, sl, slE], hF.stepN 6 (.pointer (some ⟨rb, 0, none⟩)) _ ⟨hrd, hgr⟩ (fun j u _ h => h) (by rw [hkk.out]; exact rfl), by simpa [up] using hT13⟩
      · have ho' := Option.some.inj ho
        subst ho'
        have h6 : cQ 6 = true := hdep ⟨6, .data⟩ (by simp) rfl
        have q6 := hF.k 6 h6
        rw [hkk.out] at q6
        have e6 : sQ 6 = .pointer (some ⟨rb, 0, none⟩) := q6
        refine ⟨by kernel_rfl, ?_⟩
        rw [slE_on h6, e6]
        go_simp
        refine (answer_any base rb cv zs _ hrd).mono ?_
        rintro e w2 ⟨aa, rfl, haa, hr2, hg2⟩
        go_simp
        exact ⟨up cQ 7 true, by simp [up, h6, e6], up sQ 7 (anV aa), by simp [up, sl, slE, h6, e6], hF.stepN 7 (anV aa) _ ⟨hr2, grown_trans hgr hg2⟩ (fun j u _ h => KeP.grow hkB.out hrb hg2 j u h) (by rw [hkk.out]; exact ⟨aa, rfl, haa⟩), by simpa [up] using hT13⟩
      · have ho' := Option.some.inj ho
        subst ho'
        have h0 : cQ 0 = true := hdep ⟨0, .data⟩ (by simp) rfl
        have q0 := hF.k 0 h0
        rw [hkk.out] at q0
        have e0 : sQ 0 = .agg #[.string u, .string m, .int .i64 n, .int .i64 wt, .int .i64 f, .bool gg] := q0
        have h5 : cQ 5 = true := hdep ⟨5, .data⟩ (by simp) rfl
        have q5 := hF.k 5 h5
        rw [hkk.out] at q5
        obtain ⟨y5, e5, hy50, hy51⟩ := q5
        have h7 : cQ 7 = true := hdep ⟨7, .data⟩ (by simp) rfl
        have q7 := hF.k 7 h7
        rw [hkk.out] at q7
        obtain ⟨a7, e7, ha7⟩ := q7
        refine ⟨by kernel_rfl, ?_⟩
        rw [slE_on h0, slE_on h5, slE_on h7, e0, e5, e7]
        go_simp
        refine (specPollAfter_any ⟨u, m, n, wt, f, gg⟩ (n + y5) a7 _ HP.out.sz ha7.sz).mono ?_
        rintro e w2 ⟨rfl, hb⟩
        have hr2 := hrd.below hb hrd.lt
        have hg2 := gw_below16 (World.grownBy.refl wr (some rb)) hb (Nat.le_refl _)
        go_simp
        exact ⟨up cQ 8 true, by simp [up, h0, h5, h7, e0, e5, e7], up sQ 8 (.tuple #[pkV (paV ⟨u, m, n, wt, f, gg⟩ (n + y5) a7), .bool (paO ⟨u, m, n, wt, f, gg⟩ (n + y5) a7)]), by simp [up, sl, slE, h0, h5, h7, e0, e5, e7], hF.stepN 8 (.tuple #[pkV (paV ⟨u, m, n, wt, f, gg⟩ (n + y5) a7), .bool (paO ⟨u, m, n, wt, f, gg⟩ (n + y5) a7)]) _ ⟨hr2, grown_trans hgr hg2⟩ (fun j u _ h => KeP.grow hkB.out hrb hg2 j u h) (by rw [hkk.out]; exact ⟨_, _, rfl, paV_PlD HP.out ha7⟩), by simpa [up] using hT13⟩
      · have ho' := Option.some.inj ho
        subst ho'
        have h8 : cQ 8 = true := hdep ⟨8, .data⟩ (by simp) rfl
        have q8 := hF.k 8 h8
        rw [hkk.out] at q8
        obtain ⟨q8, b8, e8, hq8⟩ := q8
        refine ⟨by kernel_rfl, ?_⟩
        rw [slE_on h8, e8]
        go_simp
        exact ⟨up cQ 9 true, by simp [up, h8, e8], up sQ 9 (.tuple #[pkV q8, .bool b8]), by simp [up, sl, slE, h8, e8], hF.stepN 9 (.tuple #[pkV q8, .bool b8]) _ ⟨hrd, hgr⟩ (fun j u _ h => h) (by rw [hkk.out]; exact ⟨q8, b8, rfl, hq8⟩), by simpa [up] using hT13⟩
      · have ho' := Option.some.inj ho
        subst ho'
        have h9 : cQ 9 = true := hdep ⟨9, .data⟩ (by simp) rfl
        have q9 := hF.k 9 h9
        rw [hkk.out] at q9
        obtain ⟨q9, b9, e9, hq9⟩ := q9
        refine ⟨by kernel_rfl, ?_⟩
        rw [slE_on h9, e9]
        go_simp
        exact ⟨up cQ 10 true, by simp [up, h9, e9], up sQ 10 (pkV q9), by simp [up, sl, slE, h9, e9], hF.stepN 10 (pkV q9) _ ⟨hrd, hgr⟩ (fun j u _ h => h) (by rw [hkk.out]; exact ⟨q9, rfl, hq9⟩), by simpa [up] using hT13⟩
      · have ho' := Option.some.inj ho
        subst ho'
        have h9 : cQ 9 = true := hdep ⟨9, .data⟩ (by simp) rfl
        have q9 := hF.k 9 h9
        rw [hkk.out] at q9
        obtain ⟨q9, b9, e9, hq9⟩ := q9
        refine ⟨by kernel_rfl, ?_⟩
        rw [slE_on h9, e9]
        go_simp
        exact ⟨up cQ 11 true, by simp [up, h9, e9], up sQ 11 (.bool b9), by simp [up, sl, slE, h9, e9], hF.stepN 11 (.bool b9) _ ⟨hrd, hgr⟩ (fun j u _ h => h) (by rw [hkk.out]; exact ⟨b9, rfl⟩), by simpa [up] using hT13⟩
      · have ho' := Option.some.inj ho
        subst ho'
        refine ⟨by kernel_rfl, ?_⟩
        go_simp
        exact ⟨up cQ 12 true, by simp [up], up sQ 12 (.pointer (some ⟨wr.heap.size, 0, none⟩)), by simp [up, sl, slE], hF.stepN 12 (.pointer (some ⟨wr.heap.size, 0, none⟩)) _ ⟨hrd.alloc _, grown_trans hgr (World.grownBy_alloc wr _ (some rb))⟩ (fun j u _ h => KeP.grow hkB.out hrb (World.grownBy_alloc wr _ (some rb)) j u h) (by rw [hkk.out]; exact ⟨_, _, rfl, hgr.size, rfl, Box.new wr _ _⟩), fun h => absurd ((hT13 (by simpa [up] using h)).2.symm.trans (by simpa using hL)) (by decide)⟩
      · have ho' := Option.some.inj ho
        subst ho'
        have h12 : cQ 12 = true := hdep ⟨12, .data⟩ (by simp) rfl
        have q12 := hF.k 12 h12
        rw [hkk.out] at q12
        obtain ⟨gd12, cd12, e12, hgd12, hzd12, hxd12⟩ := q12
        have h10 : cQ 10 = true := hdep ⟨10, .data⟩ (by simp) rfl
        have q10 := hF.k 10 h10
        rw [hkk.out] at q10
        obtain ⟨q10, e10, hq10⟩ := q10
        refine ⟨by kernel_rfl, ?_⟩
        rw [slE_on h12, slE_on h10, e12, e10]
        obtain ⟨ld, rfl, hld⟩ := arrS hzd12
        obtain ⟨z0, l0, rfl, hl0⟩ := consS hld
        obtain ⟨z1, l1, rfl, hl1⟩ := consS hl0
        obtain ⟨z2, l2, rfl, hl2⟩ := consS hl1
        obtain ⟨z3, l3, rfl, hl3⟩ := consS hl2
        obtain ⟨z4, l4, rfl, hl4⟩ := consS hl3
        obtain ⟨z5, l5, rfl, hl5⟩ := consS hl4
        obtain rfl := List.eq_nil_of_length_eq_zero hl5
        have kz0 := hxd12.cell 0 _ rfl
        have fz0 := hxd12.free 0
        have kz1 := hxd12.cell 1 _ rfl
        have fz1 := hxd12.free 1
        have kz2 := hxd12.cell 2 _ rfl
        have fz2 := hxd12.free 2
        have kz3 := hxd12.cell 3 _ rfl
        have fz3 := hxd12.free 3
        have kz4 := hxd12.cell 4 _ rfl
        have fz4 := hxd12.free 4
        have kz5 := hxd12.cell 5 _ rfl
        have fz5 := hxd12.free 5
        go_simp
        have hch : ((((((wr.setCell ⟨gd12, 0, none⟩ (.string q10.u)).setCell ⟨gd12, 1, none⟩ (.string q10.m)).setCell ⟨gd12, 2, none⟩ (.int .i64 q10.n)).setCell ⟨gd12, 3, none⟩ (.int .i64 q10.wt)).setCell ⟨gd12, 4, none⟩ (.int .i64 q10.f)).setCell ⟨gd12, 5, none⟩ (.bool q10.g)) = putRow gd12 0 [.string q10.u, .string q10.m, .int .i64 q10.n, .int .i64 q10.wt, .int .i64 q10.f, .bool q10.g] wr := rfl
        rw [hch]
        have hfil := Box.fillAll (us := [.string q10.u, .string q10.m, .int .i64 q10.n, .int .i64 q10.wt, .int .i64 q10.f, .bool q10.g]) hxd12 rfl
        have hfr1 : Rd (putRow gd12 0 [.string q10.u, .string q10.m, .int .i64 q10.n, .int .i64 q10.wt, .int .i64 q10.f, .bool q10.g] wr) base rb cv zs := hrd.below (below_putRow gd12 (rb + 1) (by omega) [.string q10.u, .string q10.m, .int .i64 q10.n, .int .i64 q10.wt, .int .i64 q10.f, .bool q10.g] 0 wr) (Nat.lt_succ_self rb)
        have hfr2 : wr0.grownBy (putRow gd12 0 [.string q10.u, .string q10.m, .int .i64 q10.n, .int .i64 q10.wt, .int .i64 q10.f, .bool q10.g] wr) (some rb) := putRow_grown gd12 [.string q10.u, .string q10.m, .int .i64 q10.n, .int .i64 q10.wt, .int .i64 q10.f, .bool q10.g] wr0 wr rb hgd12 hgr
        have hfr := And.intro hfr1 hfr2
        have hst : ∀ j u, j ≠ 13 → KeP wr0.heap.size (fun i => kl.getD i (.val undef)) j u wr → KeP wr0.heap.size (fun i => kl.getD i (.val undef)) j u (putRow gd12 0 [.string q10.u, .string q10.m, .int .i64 q10.n, .int .i64 q10.wt, .int .i64 q10.f, .bool q10.g] wr) := fun j u hne h => KeP.filledN (us := [.string q10.u, .string q10.m, .int .i64 q10.n, .int .i64 q10.wt, .int .i64 q10.f, .bool q10.g]) hkP13.out hgd12 hxd12 rfl j hne u h
        have hpo : KeP wr0.heap.size (fun i => kl.getD i (.val undef)) 13 (.pointer (some ⟨gd12, 0, none⟩)) (putRow gd12 0 [.string q10.u, .string q10.m, .int .i64 q10.n, .int .i64 q10.wt, .int .i64 q10.f, .bool q10.g] wr) := by rw [hkk.out]; exact ⟨gd12, rfl, hgd12, q10, hq10, hfil⟩
        generalize (putRow gd12 0 [.string q10.u, .string q10.m, .int .i64 q10.n, .int .i64 q10.wt, .int .i64 q10.f, .bool q10.g] wr) = WP at hfr hst hpo ⊢
        exact ⟨up cQ 13 true, by simp [up, h12, h10, e12, e10], up sQ 13 (.pointer (some ⟨gd12, 0, none⟩)), by simp [up, sl, slE, h12, h10, e12, e10], hF.stepN 13 (.pointer (some ⟨gd12, 0, none⟩)) WP hfr hst hpo, fun _ => ⟨by simp [up, e12], by simp [up, h12]⟩⟩
    · rintro L a wr ⟨cQ, sQ, rfl, rfl, hF, hT13⟩ hall
      obtain ⟨hrd, hgr⟩ := hF.fr
      have hkk : Hid (∀ j, KeP wr0.heap.size (fun i => kl.getD i (.val undef)) j = KeP wr0.heap.size (fun i => ([.val (.agg #[.string u, .string m, .int .i64 n, .int .i64 wt, .int .i64 f, .bool gg]), .val (.pointer (some ⟨G, 2, none⟩)), .val (.int .i64 n), .val (.pointer (some ⟨rb, 0, none⟩)), .ex (fun v w => ∃ y : Int, v = .int .i64 y ∧ 0 ≤ y ∧ y < 5), .ex (fun v w => ∃ y : Int, v = .int .i64 (n + y) ∧ 0 ≤ y ∧ y < 5), .val (.pointer (some ⟨rb, 0, none⟩)), .ex (fun v w => ∃ a : AnsD, v = anV a ∧ AnD a), .ex (fun v w => ∃ (q : PollD) (b : Bool), v = .tuple #[pkV q, .bool b] ∧ PlD q), .ex (fun v w => ∃ (q : PollD) (b : Bool), v = .tuple #[pkV q, .bool b] ∧ PlD q), .ex (fun v w => ∃ q : PollD, v = pkV q ∧ PlD q), .ex (fun v w => ∃ b : Bool, v = .bool b), .box 6 (23), .ex (fun v w => ∃ g, v = .pointer (some ⟨g, 0, none⟩) ∧ wr0.heap.size ≤ g ∧ ∃ q : PollD, PlD q ∧ Box w g (pkC q) (23)), .val undef] : List Ke).getD i (.val undef)) j) := Lib.hid (by intro j; rw [hkl.out])
      have h0 : cQ 0 = true := hall 0 (by decide) rfl
      have h1 : cQ 1 = true := hall 1 (by decide) rfl
      have h2 : cQ 2 = true := hall 2 (by decide) rfl
      have h3 : cQ 3 = true := hall 3 (by decide) rfl
      have h4 : cQ 4 = true := hall 4 (by decide) rfl
      have h5 : cQ 5 = true := hall 5 (by decide) rfl
      have h6 : cQ 6 = true := hall 6 (by decide) rfl
      have h7 : cQ 7 = true := hall 7 (by decide) rfl
      have h8 : cQ 8 = true := hall 8 (by decide) rfl
      have h9 : cQ 9 = true := hall 9 (by decide) rfl
      have h10 : cQ 10 = true := hall 10 (by decide) rfl
      have h11 : cQ 11 = true := hall 11 (by decide) rfl
      have h12 : cQ 12 = true := hall 12 (by decide) rfl
      have h13 : cQ 13 = true := hall 13 (by decide) rfl
      have q11 := hF.k 11 h11
      rw [hkk.out] at q11
      obtain ⟨b11, e11⟩ := q11
      have q12 := hF.k 12 h12
      rw [hkk.out] at q12
      obtain ⟨g12, cd12, e12, hg12, hzd12, hx12⟩ := q12
      have q13 := hF.k 13 h13
      rw [hkk.out] at q13
      obtain ⟨gp13, e13, hgp13, q13, hq13, hxp13⟩ := q13
      have hq := (hT13 h13).1
      rw [e13, e12] at hq
      obtain rfl : g12 = gp13 := by simpa using hq.symm
      clear hx12 hzd12 hq
      rw [h0, h1, h2, h3, h4, h5, h6, h7, h8, h9, h10, h11, h12, h13, slE_on h11, slE_on h12, e11, e12]
      clear hall hF hkk hT13 h0 h1 h2 h3 h4 h5 h6 h7 h8 h9 h10 h11 h12 h13 e11 e12 e13
      generalize slE (u23) cQ sQ 0 = s0
      generalize slE (u24) cQ sQ 1 = s1
      generalize slE (u25) cQ sQ 2 = s2
      generalize slE (u26) cQ sQ 3 = s3
      generalize slE (u27) cQ sQ 4 = s4
      generalize slE (u28) cQ sQ 5 = s5
      generalize slE (u29) cQ sQ 6 = s6
      generalize slE (u30) cQ sQ 7 = s7
      generalize slE (u31) cQ sQ 8 = s8
      generalize slE (u22) cQ sQ 9 = s9
      generalize slE (u32) cQ sQ 10 = s10
      replace hx := hx.keepG hgr (by omega)
      replace hz := hz.keepG hgr (by omega)
      have hgw := grown_trans hwr0.out hgr
      have hgG : G < g12 := by omega
      refine wpAnyT_one 14 0 (by kernel_rfl) rfl (by kernel_rfl) ?_
      intro K hK
      go_simp
      refine hK _ _ ⟨trivial, fun _ => trivial⟩ (fun hS => ?_)
      clear hK K hS
      refine wpAnyT_over (by kernel_rfl) ?_
      clear hkB hkP13 hkl
      obtain ⟨qu, qm, qn, qw, qf, qg⟩ := q13
      cases b11 with
      | false =>
        go_wp2
        go_roundw
        case rel => exact ⟨k - 1, ⟨u, m, n, wt, f, gg⟩, by omega, by go_num, HP, hx, hz, hrd, hgw⟩
        case measure => simp [intOf]; omega
      | true =>
        have z0 := hxp13.cell 0 _ rfl
        have z1 := hxp13.cell 1 _ rfl
        have z2 := hxp13.cell 2 _ rfl
        have z3 := hxp13.cell 3 _ rfl
        have z4 := hxp13.cell 4 _ rfl
        have z5 := hxp13.cell 5 _ rfl
        have y0 := hx.cell 0 _ rfl
        have y1 := hx.cell 1 _ rfl
        have y2 := hx.cell 2 _ rfl
        have y3 := hx.cell 3 _ rfl
        have y4 := hx.cell 4 _ rfl
        have y5 := hx.cell 5 _ rfl
        have f0 := hx.free 0
        have f1 := hx.free 1
        have f2 := hx.free 2
        have f3 := hx.free 3
        have f4 := hx.free 4
        have f5 := hx.free 5
        go_wp2
        have hx9 := hx.put6 rfl (.string qu) (.string qm) (.int .i64 qn) (.int .i64 qw) (.int .i64 qf) (.bool qg)
        have hbe := below6 wr G G (Nat.le_refl _) (.string qu) (.string qm) (.int .i64 qn) (.int .i64 qw) (.int .i64 qf) (.bool qg)
        have hrd9 := hrd.below (hbe.mono (show rb + 1 ≤ G by omega)) (Nat.lt_succ_self rb)
        have hz9 := hz.keep hbe hS3
        have hgr9 := gw_below16 hgw (hbe.mono (Nat.le_of_lt hS3)) (Nat.le_refl _)
        go_roundw
        case rel => exact ⟨k - 1, ⟨qu, qm, qn, qw, qf, qg⟩, by omega, by go_num, Lib.hid hq13, hx9, hz9, hrd9, hgr9⟩
        case measure => simp [intOf]; omega
    · exact ⟨fun _ => false, fun _ => undef, rfl, rfl, ⟨⟨hrd0.drewN 1, grown_drewN (World.grownBy.refl _ _) 1⟩, fun i hi => by cases hi⟩, fun h => by cases h⟩
    · decide
end Go.Proofs.Ytlipgmaiooljkaa

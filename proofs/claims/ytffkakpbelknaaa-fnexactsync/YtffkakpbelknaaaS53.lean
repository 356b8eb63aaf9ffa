/- Joined: W14za. -/
import Derived.Test.YtffkakpbelknaaaS24
import Derived.Test.YtffkakpbelknaaaS45
import Derived.Test.YtffkakpbelknaaaS49
import Derived.Test.YtffkakpbelknaaaS51
import Derived.Test.YtffkakpbelknaaaS52
/- W14za -/
namespace Go.Proofs.Ytffkakpbelknaaa
open Go.ChangeShapes Go.WideShapes Go.ChangeAt Go.RowKit
set_option linter.unusedVariables false
set_option linter.unusedSimpArgs false

set_option maxRecDepth 100000 in
set_option maxHeartbeats 4000000 in
theorem specSync_any (vl vs vo : Value) (L S : List Fi) (os : List DOp) (w : World) (hL : FiAt w w.heap.size vl L) (hS : FiAt w w.heap.size vs S) (hO : OdAt w w.heap.size vo os) (hsL : fiSum L ≤ 100000000000) (hsS : fiSum S ≤ 100000000000) (nL : L.length ≤ 1048576) :
    Calls Try.prog 37 #[dkV vl vs vo] w (OutDk (syL L S os) (syL L S os) [] w) := by
  have HSy : Hid (syL L S os = if dkB L S os then L else []) := Lib.hid rfl
  generalize syL L S os = Y at HSy ⊢
  have HL := Lib.hid hL
  have HS := Lib.hid hS
  have HO := Lib.hid hO
  have hx0 := (Box.new w #[vl, vs, vo] 64).alloc (.cells #[.slice none 0 0, .slice none 0 0, .slice none 0 0] 64)
  have hy0 := Box.new (w.alloc (.cells #[vl, vs, vo] 64)) #[.slice none 0 0, .slice none 0 0, .slice none 0 0] 64
  have hb0 : Below w.heap.size w ((w.alloc (.cells #[vl, vs, vo] 64)).alloc (.cells #[.slice none 0 0, .slice none 0 0, .slice none 0 0] 64)) := ((Below.refl _ _).alloc (Nat.le_refl _) _).alloc (by simp) _
  rw [World.size_alloc] at hy0
  clear hL hS hO
  go_enter Try.func37, Try.ntmps37
  go_wp2_with fail
  generalize (w.alloc (.cells #[vl, vs, vo] 64)).alloc (.cells #[.slice none 0 0, .slice none 0 0, .slice none 0 0] 64) = W at hx0 hy0 hb0 ⊢
  refine (specDiskOk_any vl vs vo L S os W ((HL.out.below hb0).mono hb0.size) ((HS.out.below hb0).mono hb0.size) ((HO.out.below hb0).mono hb0.size) hsL hsS).mono ?_
  rintro e w1 ⟨rfl, hb1⟩
  have hx1 := hx0.keep hb1 hx0.lt
  have hy1 := hy0.keep hb1 hy0.lt
  have hB1 := hb0.trans (hb1.mono hb0.size)
  generalize dkB L S os = R at HSy ⊢
  clear hb1 hx0 hy0 hb0
  cases R with
  | false =>
    have hY : Y = [] := HSy.out
    subst hY
    have z0 := hy1.cell 0 _ rfl
    have z1 := hy1.cell 1 _ rfl
    have z2 := hy1.cell 2 _ rfl
    have zf := hy1.free
    have HY1 := Lib.hid hy1
    have HB1 := Lib.hid hB1
    clear hx1 hy1 hB1
    go_wp2
    have y4 := ((HY1.out.set 0 (.slice none 0 0)).set 1 (.slice none 0 0)).set 2 (.slice none 0 0)
    have hB4 := ((HB1.out.setCell (p := ⟨w.heap.size + 1, 0, none⟩) (Nat.le_succ _) (.slice none 0 0)).setCell (p := ⟨w.heap.size + 1, 1, none⟩) (Nat.le_succ _) (.slice none 0 0)).setCell (p := ⟨w.heap.size + 1, 2, none⟩) (Nat.le_succ _) (.slice none 0 0)
    exact bodyPost_ret (results_Dk rfl _ _ _ _ rfl rfl y4) rfl ⟨_, _, _, rfl, OwnR.nil _ _ _, OwnR.nil _ _ _, OwnR.nil _ _ _, hB4⟩
  | true =>
    have hY : L = Y := HSy.out.symm
    subst hY
    have HX1 := Lib.hid hx1
    have HY1 := Lib.hid hy1
    have HB1 := Lib.hid hB1
    have hsz := hy1.lt
    clear hx1 hy1 hB1
    go_wp2
    refine wp_region_T (fun _ => True) (fun _ => True) 9 (by kernel_rfl) 10 rfl ?_
    obtain ⟨kl, hkl⟩ : ∃ kl : List Ke, Hid (kl = [.ex (fun v wq => ∃ g : Nat, v = .slice (some ⟨g, 0, none⟩) 0 0 ∧ OwnR 167 2 fiC wq w1.heap.size (.slice (some ⟨g, 0, none⟩) 0 0) ([] : List Fi)), .val (.pointer (some ⟨w.heap.size, 0, none⟩)), .val (vl), .ex (fun v wq => ∃ (a : Option Addr) (c : Nat), v = .slice a L.length c ∧ OwnR 167 2 fiC wq w1.heap.size (.slice a L.length c) L), .ex (fun v wq => ∃ g : Nat, v = .slice (some ⟨g, 0, none⟩) 0 0 ∧ OwnR 167 2 fiC wq w1.heap.size (.slice (some ⟨g, 0, none⟩) 0 0) ([] : List Fi)), .val (.pointer (some ⟨w.heap.size, 0, none⟩)), .val (vl), .ex (fun v wq => ∃ (a : Option Addr) (c : Nat), v = .slice a L.length c ∧ OwnR 167 2 fiC wq w1.heap.size (.slice a L.length c) L), .ex (fun v wq => ∃ (a : Option Addr) (c : Nat) (b : Option Addr) (d : Nat), v = .agg #[.slice a L.length c, .slice b L.length d, .slice none 0 0] ∧ OwnR 167 2 fiC wq w1.heap.size (.slice a L.length c) L ∧ OwnR 167 2 fiC wq w1.heap.size (.slice b L.length d) L), .val undef]) := ⟨_, Lib.hid rfl⟩
    have hkB : Hid (∀ j, exB (kl.getD j (.val undef))) := Lib.hid (ke_of (by rw [hkl.out]; simp only [List.forall_mem_cons]; exact ⟨(by first | exact fun _ _ _ _ h => h | (rintro v wa wb hb ⟨g, e, o⟩; exact ⟨g, e, o.keep hb (Nat.le_refl _)⟩) | (rintro v wa wb hb ⟨a, c, e, o⟩; exact ⟨a, c, e, o.keep hb (Nat.le_refl _)⟩) | (rintro v wa wb hb ⟨a, c, b, d, e, o, u⟩; exact ⟨a, c, b, d, e, o.keep hb (Nat.le_refl _), u.keep hb (Nat.le_refl _)⟩)), trivial, trivial, (by first | exact fun _ _ _ _ h => h | (rintro v wa wb hb ⟨g, e, o⟩; exact ⟨g, e, o.keep hb (Nat.le_refl _)⟩) | (rintro v wa wb hb ⟨a, c, e, o⟩; exact ⟨a, c, e, o.keep hb (Nat.le_refl _)⟩) | (rintro v wa wb hb ⟨a, c, b, d, e, o, u⟩; exact ⟨a, c, b, d, e, o.keep hb (Nat.le_refl _), u.keep hb (Nat.le_refl _)⟩)), (by first | exact fun _ _ _ _ h => h | (rintro v wa wb hb ⟨g, e, o⟩; exact ⟨g, e, o.keep hb (Nat.le_refl _)⟩) | (rintro v wa wb hb ⟨a, c, e, o⟩; exact ⟨a, c, e, o.keep hb (Nat.le_refl _)⟩) | (rintro v wa wb hb ⟨a, c, b, d, e, o, u⟩; exact ⟨a, c, b, d, e, o.keep hb (Nat.le_refl _), u.keep hb (Nat.le_refl _)⟩)), trivial, trivial, (by first | exact fun _ _ _ _ h => h | (rintro v wa wb hb ⟨g, e, o⟩; exact ⟨g, e, o.keep hb (Nat.le_refl _)⟩) | (rintro v wa wb hb ⟨a, c, e, o⟩; exact ⟨a, c, e, o.keep hb (Nat.le_refl _)⟩) | (rintro v wa wb hb ⟨a, c, b, d, e, o, u⟩; exact ⟨a, c, b, d, e, o.keep hb (Nat.le_refl _), u.keep hb (Nat.le_refl _)⟩)), (by first | exact fun _ _ _ _ h => h | (rintro v wa wb hb ⟨g, e, o⟩; exact ⟨g, e, o.keep hb (Nat.le_refl _)⟩) | (rintro v wa wb hb ⟨a, c, e, o⟩; exact ⟨a, c, e, o.keep hb (Nat.le_refl _)⟩) | (rintro v wa wb hb ⟨a, c, b, d, e, o, u⟩; exact ⟨a, c, b, d, e, o.keep hb (Nat.le_refl _), u.keep hb (Nat.le_refl _)⟩)), trivial, by simp⟩) trivial)
    refine wpAnyT_flo2 (fun i => decide (i < 9)) (by kernel_rfl) (by kernel_rfl) 1 (fun L a wr => ∃ (cQ : Nat → Bool) (sQ : Nat → Value), L = #[cQ 0, cQ 1, cQ 2, cQ 3, cQ 4, cQ 5, cQ 6, cQ 7, cQ 8, false] ∧ a = { tmps := #[dkV vl vs vo, Value.pointer (some { block := w.heap.size, off := 0 }), Value.pointer (some { block := w.heap.size + 1, off := 0 }), Value.agg #[vl, vs, vo], Value.bool true, Value.bool false, undef, sl cQ sQ 0, sl cQ sQ 1, sl cQ sQ 2, sl cQ sQ 3, sl cQ sQ 4, sl cQ sQ 5, sl cQ sQ 6, sl cQ sQ 7, sl cQ sQ 8], defers := [] } ∧ FloS (KeP w1.heap.size (fun i => kl.getD i (.val undef))) (fun wr => Below w1.heap.size w1 wr) cQ sQ wr) ?_ ?_ ?_ ?_ 9 _ _ _ ?_ ?_
    · rintro L a wr ⟨cQ, sQ, rfl, _, _⟩
      rfl
    · rintro L a wr ⟨cQ, sQ, rfl, _, _⟩ i hi hfi
      have hi' : i < 10 := hi
      rcases (show i = 0 ∨ i = 1 ∨ i = 2 ∨ i = 3 ∨ i = 4 ∨ i = 5 ∨ i = 6 ∨ i = 7 ∨ i = 8 ∨ i = 9 by omega) with rfl | rfl | rfl | rfl | rfl | rfl | rfl | rfl | rfl | rfl
      · exact absurd hfi (by decide)
      · exact absurd hfi (by decide)
      · exact absurd hfi (by decide)
      · exact absurd hfi (by decide)
      · exact absurd hfi (by decide)
      · exact absurd hfi (by decide)
      · exact absurd hfi (by decide)
      · exact absurd hfi (by decide)
      · exact absurd hfi (by decide)
      · rfl
    · rintro L a wr i o ⟨cQ, sQ, rfl, rfl, hF⟩ ho hfl hL hdep
      have hB := hF.fr
      have hkk : Hid (∀ j, KeP w1.heap.size (fun i => kl.getD i (.val undef)) j = KeP w1.heap.size (fun i => ([.ex (fun v wq => ∃ g : Nat, v = .slice (some ⟨g, 0, none⟩) 0 0 ∧ OwnR 167 2 fiC wq w1.heap.size (.slice (some ⟨g, 0, none⟩) 0 0) ([] : List Fi)), .val (.pointer (some ⟨w.heap.size, 0, none⟩)), .val (vl), .ex (fun v wq => ∃ (a : Option Addr) (c : Nat), v = .slice a L.length c ∧ OwnR 167 2 fiC wq w1.heap.size (.slice a L.length c) L), .ex (fun v wq => ∃ g : Nat, v = .slice (some ⟨g, 0, none⟩) 0 0 ∧ OwnR 167 2 fiC wq w1.heap.size (.slice (some ⟨g, 0, none⟩) 0 0) ([] : List Fi)), .val (.pointer (some ⟨w.heap.size, 0, none⟩)), .val (vl), .ex (fun v wq => ∃ (a : Option Addr) (c : Nat), v = .slice a L.length c ∧ OwnR 167 2 fiC wq w1.heap.size (.slice a L.length c) L), .ex (fun v wq => ∃ (a : Option Addr) (c : Nat) (b : Option Addr) (d : Nat), v = .agg #[.slice a L.length c, .slice b L.length d, .slice none 0 0] ∧ OwnR 167 2 fiC wq w1.heap.size (.slice a L.length c) L ∧ OwnR 167 2 fiC wq w1.heap.size (.slice b L.length d) L), .val undef] : List Ke).getD i (.val undef)) j) := Lib.hid (by intro j; rw [hkl.out])
      have hi : i < 9 := of_decide_eq_true hfl
      rcases (show i = 0 ∨ i = 1 ∨ i = 2 ∨ i = 3 ∨ i = 4 ∨ i = 5 ∨ i = 6 ∨ i = 7 ∨ i = 8 by omega) with rfl | rfl | rfl | rfl | rfl | rfl | rfl | rfl | rfl
      · have ho' := Option.some.inj ho
        subst ho'
        refine ⟨by kernel_rfl, ?_⟩
        go_simp
        exact ⟨up cQ 0 true, by simp [up], up sQ 0 (.slice (some ⟨wr.heap.size, 0, none⟩) 0 0), by simp [up, sl, slE], hF.stepN 0 (.slice (some ⟨wr.heap.size, 0, none⟩) 0 0) _ (hB.alloc hB.size _) (fun j u _ h => KeP.keep hkB.out ((Below.refl _ _).alloc (Nat.le_refl _) _) j u h) (by rw [hkk.out]; exact ⟨_, rfl, OwnR.lit _ _ _ hB.size⟩)⟩
      · have ho' := Option.some.inj ho
        subst ho'
        refine ⟨by kernel_rfl, ?_⟩
        go_simp
        exact ⟨up cQ 1 true, by simp [up], up sQ 1 (.pointer (some ⟨w.heap.size, 0, none⟩)), by simp [up, sl, slE], hF.stepN 1 (.pointer (some ⟨w.heap.size, 0, none⟩)) _ hB (fun j u _ h => h) (by rw [hkk.out]; exact rfl)⟩
      · have ho' := Option.some.inj ho
        subst ho'
        have h1 : cQ 1 = true := hdep ⟨1, .data⟩ (by simp) rfl
        have q1 := hF.k 1 h1
        rw [hkk.out] at q1
        have e1 : sQ 1 = .pointer (some ⟨w.heap.size, 0, none⟩) := q1
        refine ⟨by kernel_rfl, ?_⟩
        rw [sl_on h1, e1]
        have e0x := (HX1.out.keep hB HX1.out.lt).cell 0 _ rfl
        go_simp
        exact ⟨up cQ 2 true, by simp [up, h1, e1], up sQ 2 (vl), by simp [up, sl, slE, h1, e1], hF.stepN 2 (vl) _ hB (fun j u _ h => h) (by rw [hkk.out]; exact rfl)⟩
      · have ho' := Option.some.inj ho
        subst ho'
        have h0 : cQ 0 = true := hdep ⟨0, .data⟩ (by simp) rfl
        have q0 := hF.k 0 h0
        rw [hkk.out] at q0
        obtain ⟨g0, e0, o0⟩ := q0
        have h2 : cQ 2 = true := hdep ⟨2, .data⟩ (by simp) rfl
        have q2 := hF.k 2 h2
        rw [hkk.out] at q2
        have e2 : sQ 2 = vl := q2
        refine ⟨by kernel_rfl, ?_⟩
        rw [sl_on h0, sl_on h2, e0, e2]
        obtain ⟨v2, w2, hrun, ho, hb⟩ := appL_run (P := Try.prog) (t := 61) fiC_len (by decide) Try.underlying61 Try.infoFile rfl (by decide) o0 ((HL.out.below (HB1.out.trans (hB.mono HB1.out.size))).1) (fun y _ => fiC_one y) (by omega) hB.size 61
        refine wp_appQ25 61 (.tmp 7) (.tmp 9) rfl _ _ v2 rfl rfl hrun ?_
        go_simp
        exact ⟨up cQ 3 true, by simp [up, h0, h2, e0, e2], up sQ 3 (v2), by simp [up, sl, slE, h0, h2, e0, e2], hF.stepN 3 (v2) _ (hB.trans (hb.mono hB.size)) (fun j u _ h => KeP.keep hkB.out hb j u h) (by rw [hkk.out]; exact by obtain ⟨p, q, h⟩ := ho.slice; rw [h] at ho; exact ⟨p, q, h, ho⟩)⟩
      · have ho' := Option.some.inj ho
        subst ho'
        refine ⟨by kernel_rfl, ?_⟩
        go_simp
        exact ⟨up cQ 4 true, by simp [up], up sQ 4 (.slice (some ⟨wr.heap.size, 0, none⟩) 0 0), by simp [up, sl, slE], hF.stepN 4 (.slice (some ⟨wr.heap.size, 0, none⟩) 0 0) _ (hB.alloc hB.size _) (fun j u _ h => KeP.keep hkB.out ((Below.refl _ _).alloc (Nat.le_refl _) _) j u h) (by rw [hkk.out]; exact ⟨_, rfl, OwnR.lit _ _ _ hB.size⟩)⟩
      · have ho' := Option.some.inj ho
        subst ho'
        refine ⟨by kernel_rfl, ?_⟩
        go_simp
        exact ⟨up cQ 5 true, by simp [up], up sQ 5 (.pointer (some ⟨w.heap.size, 0, none⟩)), by simp [up, sl, slE], hF.stepN 5 (.pointer (some ⟨w.heap.size, 0, none⟩)) _ hB (fun j u _ h => h) (by rw [hkk.out]; exact rfl)⟩
      · have ho' := Option.some.inj ho
        subst ho'
        have h5 : cQ 5 = true := hdep ⟨5, .data⟩ (by simp) rfl
        have q5 := hF.k 5 h5
        rw [hkk.out] at q5
        have e5 : sQ 5 = .pointer (some ⟨w.heap.size, 0, none⟩) := q5
        refine ⟨by kernel_rfl, ?_⟩
        rw [sl_on h5, e5]
        have e0x := (HX1.out.keep hB HX1.out.lt).cell 0 _ rfl
        go_simp
        exact ⟨up cQ 6 true, by simp [up, h5, e5], up sQ 6 (vl), by simp [up, sl, slE, h5, e5], hF.stepN 6 (vl) _ hB (fun j u _ h => h) (by rw [hkk.out]; exact rfl)⟩
      · have ho' := Option.some.inj ho
        subst ho'
        have h4 : cQ 4 = true := hdep ⟨4, .data⟩ (by simp) rfl
        have q4 := hF.k 4 h4
        rw [hkk.out] at q4
        obtain ⟨g4, e4, o4⟩ := q4
        have h6 : cQ 6 = true := hdep ⟨6, .data⟩ (by simp) rfl
        have q6 := hF.k 6 h6
        rw [hkk.out] at q6
        have e6 : sQ 6 = vl := q6
        refine ⟨by kernel_rfl, ?_⟩
        rw [sl_on h4, sl_on h6, e4, e6]
        obtain ⟨v2, w2, hrun, ho, hb⟩ := appL_run (P := Try.prog) (t := 61) fiC_len (by decide) Try.underlying61 Try.infoFile rfl (by decide) o4 ((HL.out.below (HB1.out.trans (hB.mono HB1.out.size))).1) (fun y _ => fiC_one y) (by omega) hB.size 61
        refine wp_appQ25 61 (.tmp 11) (.tmp 13) rfl _ _ v2 rfl rfl hrun ?_
        go_simp
        exact ⟨up cQ 7 true, by simp [up, h4, h6, e4, e6], up sQ 7 (v2), by simp [up, sl, slE, h4, h6, e4, e6], hF.stepN 7 (v2) _ (hB.trans (hb.mono hB.size)) (fun j u _ h => KeP.keep hkB.out hb j u h) (by rw [hkk.out]; exact by obtain ⟨p, q, h⟩ := ho.slice; rw [h] at ho; exact ⟨p, q, h, ho⟩)⟩
      · have ho' := Option.some.inj ho
        subst ho'
        have h3 : cQ 3 = true := hdep ⟨3, .data⟩ (by simp) rfl
        have q3 := hF.k 3 h3
        rw [hkk.out] at q3
        obtain ⟨a3, c3, e3, o3⟩ := q3
        have h7 : cQ 7 = true := hdep ⟨7, .data⟩ (by simp) rfl
        have q7 := hF.k 7 h7
        rw [hkk.out] at q7
        obtain ⟨a7, c7, e7, o7⟩ := q7
        refine ⟨by kernel_rfl, ?_⟩
        rw [sl_on h3, sl_on h7, e3, e7]
        go_simp
        exact ⟨up cQ 8 true, by simp [up, h3, h7, e3, e7], up sQ 8 (.agg #[.slice a3 L.length c3, .slice a7 L.length c7, .slice none 0 0]), by simp [up, sl, slE, h3, h7, e3, e7], hF.stepN 8 (.agg #[.slice a3 L.length c3, .slice a7 L.length c7, .slice none 0 0]) _ hB (fun j u _ h => h) (by rw [hkk.out]; exact ⟨_, _, _, _, rfl, o3, o7⟩)⟩
    · rintro L a wr ⟨cQ, sQ, rfl, rfl, hF⟩ hall
      have hB := hF.fr
      have hkk : Hid (∀ j, KeP w1.heap.size (fun i => kl.getD i (.val undef)) j = KeP w1.heap.size (fun i => ([.ex (fun v wq => ∃ g : Nat, v = .slice (some ⟨g, 0, none⟩) 0 0 ∧ OwnR 167 2 fiC wq w1.heap.size (.slice (some ⟨g, 0, none⟩) 0 0) ([] : List Fi)), .val (.pointer (some ⟨w.heap.size, 0, none⟩)), .val (vl), .ex (fun v wq => ∃ (a : Option Addr) (c : Nat), v = .slice a L.length c ∧ OwnR 167 2 fiC wq w1.heap.size (.slice a L.length c) L), .ex (fun v wq => ∃ g : Nat, v = .slice (some ⟨g, 0, none⟩) 0 0 ∧ OwnR 167 2 fiC wq w1.heap.size (.slice (some ⟨g, 0, none⟩) 0 0) ([] : List Fi)), .val (.pointer (some ⟨w.heap.size, 0, none⟩)), .val (vl), .ex (fun v wq => ∃ (a : Option Addr) (c : Nat), v = .slice a L.length c ∧ OwnR 167 2 fiC wq w1.heap.size (.slice a L.length c) L), .ex (fun v wq => ∃ (a : Option Addr) (c : Nat) (b : Option Addr) (d : Nat), v = .agg #[.slice a L.length c, .slice b L.length d, .slice none 0 0] ∧ OwnR 167 2 fiC wq w1.heap.size (.slice a L.length c) L ∧ OwnR 167 2 fiC wq w1.heap.size (.slice b L.length d) L), .val undef] : List Ke).getD i (.val undef)) j) := Lib.hid (by intro j; rw [hkl.out])
      have h0 : cQ 0 = true := hall 0 (by decide) rfl
      have h1 : cQ 1 = true := hall 1 (by decide) rfl
      have h2 : cQ 2 = true := hall 2 (by decide) rfl
      have h3 : cQ 3 = true := hall 3 (by decide) rfl
      have h4 : cQ 4 = true := hall 4 (by decide) rfl
      have h5 : cQ 5 = true := hall 5 (by decide) rfl
      have h6 : cQ 6 = true := hall 6 (by decide) rfl
      have h7 : cQ 7 = true := hall 7 (by decide) rfl
      have h8 : cQ 8 = true := hall 8 (by decide) rfl
      have q8 := hF.k 8 h8
      rw [hkk.out] at q8
      obtain ⟨a8, c8, b8, d8, e8, o8, u8⟩ := q8
      rw [h0, h1, h2, h3, h4, h5, h6, h7, h8, sl_on h8, e8]
      clear hall hF hkk  h0 h1 h2 h3 h4 h5 h6 h7 h8 e8
      generalize sl cQ sQ 0 = s0
      generalize sl cQ sQ 1 = s1
      generalize sl cQ sQ 2 = s2
      generalize sl cQ sQ 3 = s3
      generalize sl cQ sQ 4 = s4
      generalize sl cQ sQ 5 = s5
      generalize sl cQ sQ 6 = s6
      generalize sl cQ sQ 7 = s7
      have hy2 := HY1.out.keep hB HY1.out.lt
      have hB2 := HB1.out.trans (hB.mono HB1.out.size)
      have z0 := hy2.cell 0 _ rfl
      have z1 := hy2.cell 1 _ rfl
      have z2 := hy2.cell 2 _ rfl
      have zf := hy2.free
      refine wpAnyT_one 9 0 (by kernel_rfl) rfl (by kernel_rfl) (fun K hK => ?_)
      go_simp
      have y4 := ((hy2.set 0 (.slice a8 L.length c8)).set 1 (.slice b8 L.length d8)).set 2 (.slice none 0 0)
      have e3b := (((o8.other ⟨w.heap.size + 1, 0, none⟩ (.slice a8 L.length c8) hsz).other ⟨w.heap.size + 1, 1, none⟩ (.slice b8 L.length d8) hsz).other ⟨w.heap.size + 1, 2, none⟩ (.slice none 0 0) hsz).base_mono HB1.out.size
      have e7b := (((u8.other ⟨w.heap.size + 1, 0, none⟩ (.slice a8 L.length c8) hsz).other ⟨w.heap.size + 1, 1, none⟩ (.slice b8 L.length d8) hsz).other ⟨w.heap.size + 1, 2, none⟩ (.slice none 0 0) hsz).base_mono HB1.out.size
      have hB4 := ((hB2.setCell (p := ⟨w.heap.size + 1, 0, none⟩) (Nat.le_succ _) (.slice a8 L.length c8)).setCell (p := ⟨w.heap.size + 1, 1, none⟩) (Nat.le_succ _) (.slice b8 L.length d8)).setCell (p := ⟨w.heap.size + 1, 2, none⟩) (Nat.le_succ _) (.slice none 0 0)
      refine hK _ _ ⟨trivial, fun _ => trivial⟩ (fun hS => ?_)
      clear hK K hS
      refine wpAnyT_over (by kernel_rfl) ?_
      go_wp2
      exact bodyPost_ret (results_Dk rfl _ _ _ _ rfl rfl y4) rfl ⟨_, _, _, rfl, e3b, e7b, OwnR.nil _ _ _, hB4⟩
    · exact ⟨fun _ => false, fun _ => undef, rfl, rfl, ⟨below_drewN (Below.refl _ _) 1, fun i hi => by cases hi⟩⟩
    · decide
end Go.Proofs.Ytffkakpbelknaaa

/- What the laws on polls draw: answers. -/
import Derived.Test.YtlipgmaiooljkaaDraw14
import Derived.Test.YtlipgmaiooljkaaFloEx
import Derived.Test.YtlipgmaiooljkaaW16g
namespace Go.Proofs.Ytlipgmaiooljkaa
open Go.ChangeShapes Go.WideShapes Go.ChangeAt Go.RowKit
set_option linter.unusedVariables false
set_option linter.unusedSimpArgs false

abbrev cds9 : Array Value := #[.int .i64 200, .int .i64 304, .int .i64 301, .int .i64 308, .int .i64 410, .int .i64 429, .int .i64 503, .int .i64 500, .int .i64 404]
abbrev mks3 : Array Value := #[.string ⟨#[]⟩, .string ⟨#[118, 49]⟩, .string ⟨#[118, 50]⟩]
/-- An answer that is drawn. -/
def AnD (a : AnsD) : Prop := a.m.size ≤ 2 ∧ a.u.size ≤ 3 ∧ 0 ≤ a.af ∧ a.af < 3000 ∧ (Lit.int .i64 a.c).wf = true
theorem AnD.sz {a : AnsD} (h : AnD a) : AnSz a := by obtain ⟨h1, h2, _⟩ := h; exact ⟨by unfold maxLen; omega, by unfold maxLen; omega⟩
theorem put4an (w : World) (g : Nat) (a b c d : Value) {cs : Array Value} {t : TypeId} (h : Box w g cs t) (hz : cs.size = 4) : Box ((((w.setCell ⟨g, 0, none⟩ a).setCell ⟨g, 1, none⟩ b).setCell ⟨g, 2, none⟩ c).setCell ⟨g, 3, none⟩ d) g #[a, b, c, d] t := by
  obtain ⟨xs, rfl, hl⟩ := arrS hz
  exact Box.fillAll (us := [a, b, c, d]) h hl.symm
theorem below4an (w : World) (B g : Nat) (hB : B ≤ g) (a b c d : Value) : Below B w ((((w.setCell ⟨g, 0, none⟩ a).setCell ⟨g, 1, none⟩ b).setCell ⟨g, 2, none⟩ c).setCell ⟨g, 3, none⟩ d) := below_putRow g B hB [a, b, c, d] 0 w

set_option maxRecDepth 100000 in
set_option maxHeartbeats 2000000 in
theorem answer_any (base rb : Nat) (cv : Value) (zs : List Int) (w : World) (h : Rd w base rb cv zs) :
    Calls Try.prog 60 #[.pointer (some ⟨rb, 0, none⟩)] w fun e w' => ∃ a : AnsD, e = .returned (anV a) ∧ AnD a ∧ Rd w' base rb cv zs ∧ w.grownBy w' (some rb) := by
  have hrb0 := h.lt
  have hrd0 := h.alloc (.cells #[.int .i64 0, .string ⟨#[]⟩, .string ⟨#[]⟩, .int .i64 0] 37)
  have hg0 := World.grownBy_alloc w (.cells #[.int .i64 0, .string ⟨#[]⟩, .string ⟨#[]⟩, .int .i64 0] 37) (some rb)
  have hz0 := Box.new w #[.int .i64 0, .string ⟨#[]⟩, .string ⟨#[]⟩, .int .i64 0] 37
  clear h
  go_enter Try.func60, Try.ntmps60
  go_wp2
  generalize w.alloc (.cells #[.int .i64 0, .string ⟨#[]⟩, .string ⟨#[]⟩, .int .i64 0] 37) = W0 at hrd0 hg0 hz0 ⊢
  have hrb : rb < W0.heap.size := hrd0.lt
  refine wp_region_T (fun _ => True) (fun _ => True) 12 (by kernel_rfl) 13 rfl ?_
  obtain ⟨kl, hkl⟩ : ∃ kl : List Ke, Hid (kl = [.ex (fun v w => ∃ g, v = .slice (some ⟨g, 0, none⟩) 9 9 ∧ W0.heap.size ≤ g ∧ Box w g cds9 (2)), .val (.pointer (some ⟨rb, 0, none⟩)), .ex (fun v w => ∃ x : Nat, v = .int .i64 (x : Int) ∧ x < 9), .ex (fun v w => ∃ (g x : Nat), v = .pointer (some ⟨g, x, none⟩) ∧ (W0.heap.size ≤ g ∧ x < 9) ∧ Box w g cds9 (2)), .ex (fun v w => ∃ c : Int, v = .int .i64 c ∧ 200 ≤ c ∧ c ≤ 503), .ex (fun v w => ∃ g, v = .slice (some ⟨g, 0, none⟩) 3 3 ∧ W0.heap.size ≤ g ∧ Box w g mks3 (9)), .val (.pointer (some ⟨rb, 0, none⟩)), .ex (fun v w => ∃ x : Nat, v = .int .i64 (x : Int) ∧ x < 3), .ex (fun v w => ∃ (g x : Nat), v = .pointer (some ⟨g, x, none⟩) ∧ (W0.heap.size ≤ g ∧ x < 3) ∧ Box w g mks3 (9)), .ex (fun v w => ∃ t : ByteArray, v = .string t ∧ t.size ≤ 2), .ex (fun v w => ∃ (c : Int) (t : ByteArray), v = .agg #[.int .i64 c, .string t, .string ⟨#[]⟩, .int .i64 0] ∧ 200 ≤ c ∧ c ≤ 503 ∧ t.size ≤ 2), .box 4 (37), .val undef]) := ⟨_, Lib.hid rfl⟩
  have hkB : Hid (∀ j, exG rb (kl.getD j (.val undef))) := Lib.hid (ke_of (by rw [hkl.out]; simp only [List.forall_mem_cons]; exact ⟨(by first | exact fun _ _ _ _ h => h | (rintro v w w' hg ⟨g, h1, h2, h3⟩; exact ⟨g, h1, h2, h3.keepG hg (by omega)⟩) | (rintro v w w' hg ⟨g, x, h1, h2, h3⟩; exact ⟨g, x, h1, h2, h3.keepG hg (by omega)⟩)), trivial, (by first | exact fun _ _ _ _ h => h | (rintro v w w' hg ⟨g, h1, h2, h3⟩; exact ⟨g, h1, h2, h3.keepG hg (by omega)⟩) | (rintro v w w' hg ⟨g, x, h1, h2, h3⟩; exact ⟨g, x, h1, h2, h3.keepG hg (by omega)⟩)), (by first | exact fun _ _ _ _ h => h | (rintro v w w' hg ⟨g, h1, h2, h3⟩; exact ⟨g, h1, h2, h3.keepG hg (by omega)⟩) | (rintro v w w' hg ⟨g, x, h1, h2, h3⟩; exact ⟨g, x, h1, h2, h3.keepG hg (by omega)⟩)), (by first | exact fun _ _ _ _ h => h | (rintro v w w' hg ⟨g, h1, h2, h3⟩; exact ⟨g, h1, h2, h3.keepG hg (by omega)⟩) | (rintro v w w' hg ⟨g, x, h1, h2, h3⟩; exact ⟨g, x, h1, h2, h3.keepG hg (by omega)⟩)), (by first | exact fun _ _ _ _ h => h | (rintro v w w' hg ⟨g, h1, h2, h3⟩; exact ⟨g, h1, h2, h3.keepG hg (by omega)⟩) | (rintro v w w' hg ⟨g, x, h1, h2, h3⟩; exact ⟨g, x, h1, h2, h3.keepG hg (by omega)⟩)), trivial, (by first | exact fun _ _ _ _ h => h | (rintro v w w' hg ⟨g, h1, h2, h3⟩; exact ⟨g, h1, h2, h3.keepG hg (by omega)⟩) | (rintro v w w' hg ⟨g, x, h1, h2, h3⟩; exact ⟨g, x, h1, h2, h3.keepG hg (by omega)⟩)), (by first | exact fun _ _ _ _ h => h | (rintro v w w' hg ⟨g, h1, h2, h3⟩; exact ⟨g, h1, h2, h3.keepG hg (by omega)⟩) | (rintro v w w' hg ⟨g, x, h1, h2, h3⟩; exact ⟨g, x, h1, h2, h3.keepG hg (by omega)⟩)), (by first | exact fun _ _ _ _ h => h | (rintro v w w' hg ⟨g, h1, h2, h3⟩; exact ⟨g, h1, h2, h3.keepG hg (by omega)⟩) | (rintro v w w' hg ⟨g, x, h1, h2, h3⟩; exact ⟨g, x, h1, h2, h3.keepG hg (by omega)⟩)), (by first | exact fun _ _ _ _ h => h | (rintro v w w' hg ⟨g, h1, h2, h3⟩; exact ⟨g, h1, h2, h3.keepG hg (by omega)⟩) | (rintro v w w' hg ⟨g, x, h1, h2, h3⟩; exact ⟨g, x, h1, h2, h3.keepG hg (by omega)⟩)), trivial, trivial, by simp⟩) trivial)
  refine wpAnyT_flo2 (fun i => decide (i < 12)) (by kernel_rfl) (by kernel_rfl) 1 (fun L a wr => ∃ (cQ : Nat → Bool) (sQ : Nat → Value), L = #[cQ 0, cQ 1, cQ 2, cQ 3, cQ 4, cQ 5, cQ 6, cQ 7, cQ 8, cQ 9, cQ 10, cQ 11, false] ∧ a = { tmps := #[Value.pointer (some { block := rb, off := 0 }), undef, Value.pointer (some { block := w.heap.size, off := 0 }), sl cQ sQ 11, sl cQ sQ 0, sl cQ sQ 1, sl cQ sQ 2, sl cQ sQ 3, sl cQ sQ 4, sl cQ sQ 5, sl cQ sQ 6, sl cQ sQ 7, sl cQ sQ 8, sl cQ sQ 9, sl cQ sQ 10, undef, undef, undef, undef, undef, undef, undef, undef, undef, undef, undef, undef, undef, undef, undef, undef], defers := [] } ∧ FloS (KeP W0.heap.size (fun i => kl.getD i (.val undef))) (fun wr => Rd wr base rb cv zs ∧ W0.grownBy wr (some rb)) cQ sQ wr) ?_ ?_ ?_ ?_ 12 _ _ _ ?_ ?_
  · rintro L a wr ⟨cQ, sQ, rfl, _, _⟩
    rfl
  · rintro L a wr ⟨cQ, sQ, rfl, _, _⟩ i hi hfi
    have hi' : i < 13 := hi
    rcases (show i = 0 ∨ i = 1 ∨ i = 2 ∨ i = 3 ∨ i = 4 ∨ i = 5 ∨ i = 6 ∨ i = 7 ∨ i = 8 ∨ i = 9 ∨ i = 10 ∨ i = 11 ∨ i = 12 by omega) with rfl | rfl | rfl | rfl | rfl | rfl | rfl | rfl | rfl | rfl | rfl | rfl | rfl
    · exact absurd hfi (by decide)
    · exact absurd hfi (by decide)
    · exact absurd hfi (by decide)
    · exact absurd hfi (by decide)
    · exact absurd hfi (by decide)
    · exact absurd hfi (by decide)
    · exact absurd hfi (by decide)
    · exact absurd hfi (by decide)
    · exact absurd hfi (by decide)
    · exact absurd hfi (by decide)
    · exact absurd hfi (by decide)
    · exact absurd hfi (by decide)
    · rfl
  · rintro L a wr i o ⟨cQ, sQ, rfl, rfl, hF⟩ ho hfl hL hdep
    obtain ⟨hrd, hgr⟩ := hF.fr
    have hkk : Hid (∀ j, KeP W0.heap.size (fun i => kl.getD i (.val undef)) j = KeP W0.heap.size (fun i => ([.ex (fun v w => ∃ g, v = .slice (some ⟨g, 0, none⟩) 9 9 ∧ W0.heap.size ≤ g ∧ Box w g cds9 (2)), .val (.pointer (some ⟨rb, 0, none⟩)), .ex (fun v w => ∃ x : Nat, v = .int .i64 (x : Int) ∧ x < 9), .ex (fun v w => ∃ (g x : Nat), v = .pointer (some ⟨g, x, none⟩) ∧ (W0.heap.size ≤ g ∧ x < 9) ∧ Box w g cds9 (2)), .ex (fun v w => ∃ c : Int, v = .int .i64 c ∧ 200 ≤ c ∧ c ≤ 503), .ex (fun v w => ∃ g, v = .slice (some ⟨g, 0, none⟩) 3 3 ∧ W0.heap.size ≤ g ∧ Box w g mks3 (9)), .val (.pointer (some ⟨rb, 0, none⟩)), .ex (fun v w => ∃ x : Nat, v = .int .i64 (x : Int) ∧ x < 3), .ex (fun v w => ∃ (g x : Nat), v = .pointer (some ⟨g, x, none⟩) ∧ (W0.heap.size ≤ g ∧ x < 3) ∧ Box w g mks3 (9)), .ex (fun v w => ∃ t : ByteArray, v = .string t ∧ t.size ≤ 2), .ex (fun v w => ∃ (c : Int) (t : ByteArray), v = .agg #[.int .i64 c, .string t, .string ⟨#[]⟩, .int .i64 0] ∧ 200 ≤ c ∧ c ≤ 503 ∧ t.size ≤ 2), .box 4 (37), .val undef] : List Ke).getD i (.val undef)) j) := Lib.hid (by intro j; rw [hkl.out])
    have hi : i < 12 := of_decide_eq_true hfl
    rcases (show i = 0 ∨ i = 1 ∨ i = 2 ∨ i = 3 ∨ i = 4 ∨ i = 5 ∨ i = 6 ∨ i = 7 ∨ i = 8 ∨ i = 9 ∨ i = 10 ∨ i = 11 by omega) with rfl | rfl | rfl | rfl | rfl | rfl | rfl | rfl | rfl | rfl | rfl | rfl
    · have ho' := Option.some.inj ho
      subst ho'
      refine ⟨by kernel_rfl, ?_⟩
      go_simp
      have hr2 := hrd.alloc (.cells cds9 (2))
      have hg2 := World.grownBy_alloc wr (.cells cds9 (2)) (some rb)
      exact ⟨up cQ 0 true, by simp [up], up sQ 0 (.slice (some ⟨wr.heap.size, 0, none⟩) 9 9), by simp [up, sl], hF.stepN 0 (.slice (some ⟨wr.heap.size, 0, none⟩) 9 9) _ ⟨hr2, grown_trans hgr hg2⟩ (fun j u _ h => KeP.grow hkB.out hrb hg2 j u h) (by rw [hkk.out]; exact ⟨_, rfl, hgr.size, Box.new wr _ _⟩)⟩
    · have ho' := Option.some.inj ho
      subst ho'
      refine ⟨by kernel_rfl, ?_⟩
      go_simp
      exact ⟨up cQ 1 true, by simp [up], up sQ 1 (.pointer (some ⟨rb, 0, none⟩)), by simp [up, sl], hF.stepN 1 (.pointer (some ⟨rb, 0, none⟩)) _ ⟨hrd, hgr⟩ (fun j u _ h => h) (by rw [hkk.out]; exact rfl)⟩
    · have ho' := Option.some.inj ho
      subst ho'
      have h1 : cQ 1 = true := hdep ⟨1, .data⟩ (by simp) rfl
      have q1 := hF.k 1 h1
      rw [hkk.out] at q1
      have e1 : sQ 1 = .pointer (some ⟨rb, 0, none⟩) := q1
      refine ⟨by kernel_rfl, ?_⟩
      rw [sl_on h1, e1]
      go_simp
      refine (below_any 9 base rb cv zs _ hrd (by omega) (by omega)).mono ?_
      rintro e w2 ⟨y, rfl, hy0, hy1, hr2, hg2⟩
      go_simp
      exact ⟨up cQ 2 true, by simp [up, h1, e1], up sQ 2 (.int .i64 y), by simp [up, sl, h1, e1], hF.stepN 2 (.int .i64 y) _ ⟨hr2, grown_trans hgr hg2⟩ (fun j u _ h => KeP.grow hkB.out hrb hg2 j u h) (by rw [hkk.out]; exact ⟨y.toNat, by rw [Int.toNat_of_nonneg hy0], by omega⟩)⟩
    · have ho' := Option.some.inj ho
      subst ho'
      have h0 : cQ 0 = true := hdep ⟨0, .data⟩ (by simp) rfl
      have q0 := hF.k 0 h0
      rw [hkk.out] at q0
      obtain ⟨gs0, e0, hgs0, hbs0⟩ := q0
      have h2 : cQ 2 = true := hdep ⟨2, .data⟩ (by simp) rfl
      have q2 := hF.k 2 h2
      rw [hkk.out] at q2
      obtain ⟨x2, e2, hx2⟩ := q2
      refine ⟨by kernel_rfl, ?_⟩
      rw [sl_on h0, sl_on h2, e0, e2]
      have hlt1 : (x2 : Int) < 9 := by omega
      have hlt0 : (0 : Int) ≤ (x2 : Int) := by omega
      go_simp
      exact ⟨up cQ 3 true, by simp [up, h0, h2, e0, e2], up sQ 3 (.pointer (some ⟨gs0, x2, none⟩)), by simp [up, sl, h0, h2, e0, e2], hF.stepN 3 (.pointer (some ⟨gs0, x2, none⟩)) _ ⟨hrd, hgr⟩ (fun j u _ h => h) (by rw [hkk.out]; exact ⟨gs0, x2, rfl, ⟨hgs0, hx2⟩, hbs0⟩)⟩
    · have ho' := Option.some.inj ho
      subst ho'
      have h3 : cQ 3 = true := hdep ⟨3, .data⟩ (by simp) rfl
      have q3 := hF.k 3 h3
      rw [hkk.out] at q3
      obtain ⟨gi3, xi3, e3, hgi3, hbi3⟩ := q3
      refine ⟨by kernel_rfl, ?_⟩
      rw [sl_on h3, e3]
      have hc : ∃ c : Int, cds9[xi3]? = some (.int .i64 c) ∧ 200 ≤ c ∧ c ≤ 503 := by
        rcases (show xi3 = 0 ∨ xi3 = 1 ∨ xi3 = 2 ∨ xi3 = 3 ∨ xi3 = 4 ∨ xi3 = 5 ∨ xi3 = 6 ∨ xi3 = 7 ∨ xi3 = 8 by omega) with rfl | rfl | rfl | rfl | rfl | rfl | rfl | rfl | rfl
        all_goals exact ⟨_, rfl, by decide, by decide⟩
      obtain ⟨c, hcc, hcc1, hcc2⟩ := hc
      have hcell := cell_of_cells (i := xi3) hbi3 hcc
      go_simp
      exact ⟨up cQ 4 true, by simp [up, h3, e3], up sQ 4 (.int .i64 c), by simp [up, sl, h3, e3], hF.stepN 4 (.int .i64 c) _ ⟨hrd, hgr⟩ (fun j u _ h => h) (by rw [hkk.out]; exact ⟨c, rfl, hcc1, hcc2⟩)⟩
    · have ho' := Option.some.inj ho
      subst ho'
      refine ⟨by kernel_rfl, ?_⟩
      go_simp
      have hr2 := hrd.alloc (.cells mks3 (9))
      have hg2 := World.grownBy_alloc wr (.cells mks3 (9)) (some rb)
      exact ⟨up cQ 5 true, by simp [up], up sQ 5 (.slice (some ⟨wr.heap.size, 0, none⟩) 3 3), by simp [up, sl], hF.stepN 5 (.slice (some ⟨wr.heap.size, 0, none⟩) 3 3) _ ⟨hr2, grown_trans hgr hg2⟩ (fun j u _ h => KeP.grow hkB.out hrb hg2 j u h) (by rw [hkk.out]; exact ⟨_, rfl, hgr.size, Box.new wr _ _⟩)⟩
    · have ho' := Option.some.inj ho
      subst ho'
      refine ⟨by kernel_rfl, ?_⟩
      go_simp
      exact ⟨up cQ 6 true, by simp [up], up sQ 6 (.pointer (some ⟨rb, 0, none⟩)), by simp [up, sl], hF.stepN 6 (.pointer (some ⟨rb, 0, none⟩)) _ ⟨hrd, hgr⟩ (fun j u _ h => h) (by rw [hkk.out]; exact rfl)⟩
    · have ho' := Option.some.inj ho
      subst ho'
      have h6 : cQ 6 = true := hdep ⟨6, .data⟩ (by simp) rfl
      have q6 := hF.k 6 h6
      rw [hkk.out] at q6
      have e6 : sQ 6 = .pointer (some ⟨rb, 0, none⟩) := q6
      refine ⟨by kernel_rfl, ?_⟩
      rw [sl_on h6, e6]
      go_simp
      refine (below_any 3 base rb cv zs _ hrd (by omega) (by omega)).mono ?_
      rintro e w2 ⟨y, rfl, hy0, hy1, hr2, hg2⟩
      go_simp
      exact ⟨up cQ 7 true, by simp [up, h6, e6], up sQ 7 (.int .i64 y), by simp [up, sl, h6, e6], hF.stepN 7 (.int .i64 y) _ ⟨hr2, grown_trans hgr hg2⟩ (fun j u _ h => KeP.grow hkB.out hrb hg2 j u h) (by rw [hkk.out]; exact ⟨y.toNat, by rw [Int.toNat_of_nonneg hy0], by omega⟩)⟩
    · have ho' := Option.some.inj ho
      subst ho'
      have h5 : cQ 5 = true := hdep ⟨5, .data⟩ (by simp) rfl
      have q5 := hF.k 5 h5
      rw [hkk.out] at q5
      obtain ⟨gs5, e5, hgs5, hbs5⟩ := q5
      have h7 : cQ 7 = true := hdep ⟨7, .data⟩ (by simp) rfl
      have q7 := hF.k 7 h7
      rw [hkk.out] at q7
      obtain ⟨x7, e7, hx7⟩ := q7
      refine ⟨by kernel_rfl, ?_⟩
      rw [sl_on h5, sl_on h7, e5, e7]
      have hlt1 : (x7 : Int) < 3 := by omega
      have hlt0 : (0 : Int) ≤ (x7 : Int) := by omega
      go_simp
      exact ⟨up cQ 8 true, by simp [up, h5, h7, e5, e7], up sQ 8 (.pointer (some ⟨gs5, x7, none⟩)), by simp [up, sl, h5, h7, e5, e7], hF.stepN 8 (.pointer (some ⟨gs5, x7, none⟩)) _ ⟨hrd, hgr⟩ (fun j u _ h => h) (by rw [hkk.out]; exact ⟨gs5, x7, rfl, ⟨hgs5, hx7⟩, hbs5⟩)⟩
    · have ho' := Option.some.inj ho
      subst ho'
      have h8 : cQ 8 = true := hdep ⟨8, .data⟩ (by simp) rfl
      have q8 := hF.k 8 h8
      rw [hkk.out] at q8
      obtain ⟨gi8, xi8, e8, hgi8, hbi8⟩ := q8
      refine ⟨by kernel_rfl, ?_⟩
      rw [sl_on h8, e8]
      have hc : ∃ t : ByteArray, mks3[xi8]? = some (.string t) ∧ t.size ≤ 2 := by
        rcases (show xi8 = 0 ∨ xi8 = 1 ∨ xi8 = 2 by omega) with rfl | rfl | rfl
        all_goals exact ⟨_, rfl, by decide⟩
      obtain ⟨t, hcc, hcc1⟩ := hc
      have hcell := cell_of_cells (i := xi8) hbi8 hcc
      go_simp
      exact ⟨up cQ 9 true, by simp [up, h8, e8], up sQ 9 (.string t), by simp [up, sl, h8, e8], hF.stepN 9 (.string t) _ ⟨hrd, hgr⟩ (fun j u _ h => h) (by rw [hkk.out]; exact ⟨t, rfl, hcc1⟩)⟩
    · have ho' := Option.some.inj ho
      subst ho'
      have h4 : cQ 4 = true := hdep ⟨4, .data⟩ (by simp) rfl
      have q4 := hF.k 4 h4
      rw [hkk.out] at q4
      obtain ⟨c4, e4, hc40, hc41⟩ := q4
      have h9 : cQ 9 = true := hdep ⟨9, .data⟩ (by simp) rfl
      have q9 := hF.k 9 h9
      rw [hkk.out] at q9
      obtain ⟨t9, e9, ht9⟩ := q9
      refine ⟨by kernel_rfl, ?_⟩
      rw [sl_on h4, sl_on h9, e4, e9]
      go_simp
      exact ⟨up cQ 10 true, by simp [up, h4, h9, e4, e9], up sQ 10 (.agg #[.int .i64 c4, .string t9, .string ⟨#[]⟩, .int .i64 0]), by simp [up, sl, h4, h9, e4, e9], hF.stepN 10 (.agg #[.int .i64 c4, .string t9, .string ⟨#[]⟩, .int .i64 0]) _ ⟨hrd, hgr⟩ (fun j u _ h => h) (by rw [hkk.out]; exact ⟨c4, t9, rfl, hc40, hc41, ht9⟩)⟩
    · have ho' := Option.some.inj ho
      subst ho'
      refine ⟨by kernel_rfl, ?_⟩
      go_simp
      exact ⟨up cQ 11 true, by simp [up], up sQ 11 (.pointer (some ⟨wr.heap.size, 0, none⟩)), by simp [up, sl], hF.stepN 11 (.pointer (some ⟨wr.heap.size, 0, none⟩)) _ ⟨hrd.alloc _, grown_trans hgr (World.grownBy_alloc wr _ (some rb))⟩ (fun j u _ h => KeP.grow hkB.out hrb (World.grownBy_alloc wr _ (some rb)) j u h) (by rw [hkk.out]; exact ⟨_, _, rfl, hgr.size, rfl, Box.new wr _ _⟩)⟩
  · rintro L a wr ⟨cQ, sQ, rfl, rfl, hF⟩ hall
    obtain ⟨hrd, hgr⟩ := hF.fr
    have hkk : Hid (∀ j, KeP W0.heap.size (fun i => kl.getD i (.val undef)) j = KeP W0.heap.size (fun i => ([.ex (fun v w => ∃ g, v = .slice (some ⟨g, 0, none⟩) 9 9 ∧ W0.heap.size ≤ g ∧ Box w g cds9 (2)), .val (.pointer (some ⟨rb, 0, none⟩)), .ex (fun v w => ∃ x : Nat, v = .int .i64 (x : Int) ∧ x < 9), .ex (fun v w => ∃ (g x : Nat), v = .pointer (some ⟨g, x, none⟩) ∧ (W0.heap.size ≤ g ∧ x < 9) ∧ Box w g cds9 (2)), .ex (fun v w => ∃ c : Int, v = .int .i64 c ∧ 200 ≤ c ∧ c ≤ 503), .ex (fun v w => ∃ g, v = .slice (some ⟨g, 0, none⟩) 3 3 ∧ W0.heap.size ≤ g ∧ Box w g mks3 (9)), .val (.pointer (some ⟨rb, 0, none⟩)), .ex (fun v w => ∃ x : Nat, v = .int .i64 (x : Int) ∧ x < 3), .ex (fun v w => ∃ (g x : Nat), v = .pointer (some ⟨g, x, none⟩) ∧ (W0.heap.size ≤ g ∧ x < 3) ∧ Box w g mks3 (9)), .ex (fun v w => ∃ t : ByteArray, v = .string t ∧ t.size ≤ 2), .ex (fun v w => ∃ (c : Int) (t : ByteArray), v = .agg #[.int .i64 c, .string t, .string ⟨#[]⟩, .int .i64 0] ∧ 200 ≤ c ∧ c ≤ 503 ∧ t.size ≤ 2), .box 4 (37), .val undef] : List Ke).getD i (.val undef)) j) := Lib.hid (by intro j; rw [hkl.out])
    have h0 : cQ 0 = true := hall 0 (by decide) rfl
    have h1 : cQ 1 = true := hall 1 (by decide) rfl
    have h2 : cQ 2 = true := hall 2 (by decide) rfl
    have h3 : cQ 3 = true := hall 3 (by decide) rfl
    have h4 : cQ 4 = true := hall 4 (by decide) rfl
    have h5 : cQ 5 = true := hall 5 (by decide) rfl
    have h6 : cQ 6 = true := hall 6 (by decide) rfl
    have h7 : cQ 7 = true := hall 7 (by decide) rfl
    have h8 : cQ 8 = true := hall 8 (by decide) rfl
    have h9 : cQ 9 = true := hall 9 (by decide) rfl
    have h10 : cQ 10 = true := hall 10 (by decide) rfl
    have h11 : cQ 11 = true := hall 11 (by decide) rfl
    have q10 := hF.k 10 h10
    rw [hkk.out] at q10
    obtain ⟨c10, t10, e10, hc100, hc101, ht10⟩ := q10
    have q11 := hF.k 11 h11
    rw [hkk.out] at q11
    obtain ⟨g11, cd11, e11, hg11, hzd11, hx11⟩ := q11
    rw [h0, h1, h2, h3, h4, h5, h6, h7, h8, h9, h10, h11, sl_on h10, sl_on h11, e10, e11]
    clear hall hF hkk  h0 h1 h2 h3 h4 h5 h6 h7 h8 h9 h10 h11 e10 e11
    generalize sl cQ sQ 0 = s0
    generalize sl cQ sQ 1 = s1
    generalize sl cQ sQ 2 = s2
    generalize sl cQ sQ 3 = s3
    generalize sl cQ sQ 4 = s4
    generalize sl cQ sQ 5 = s5
    generalize sl cQ sQ 6 = s6
    generalize sl cQ sQ 7 = s7
    generalize sl cQ sQ 8 = s8
    generalize sl cQ sQ 9 = s9
    obtain ⟨ld, rfl, hld⟩ := arrS hzd11
    obtain ⟨z0, l0, rfl, hl0⟩ := consS hld
    obtain ⟨z1, l1, rfl, hl1⟩ := consS hl0
    obtain ⟨z2, l2, rfl, hl2⟩ := consS hl1
    obtain ⟨z3, l3, rfl, hl3⟩ := consS hl2
    obtain rfl := List.eq_nil_of_length_eq_zero hl3
    have k0 := hx11.cell 0 _ rfl
    have k1 := hx11.cell 1 _ rfl
    have k2 := hx11.cell 2 _ rfl
    have k3 := hx11.cell 3 _ rfl
    have f0 := hx11.free 0
    have f1 := hx11.free 1
    have f2 := hx11.free 2
    have f3 := hx11.free 3
    refine wpAnyT_one 12 0 (by kernel_rfl) rfl (by kernel_rfl) ?_
    intro K hK
    go_simp
    have hb := put4an wr g11 (.int .i64 c10) (.string t10) (.string ⟨#[]⟩) (.int .i64 0) hx11 rfl
    have hbe := below4an wr (rb + 1) g11 (by omega) (.int .i64 c10) (.string t10) (.string ⟨#[]⟩) (.int .i64 0)
    have hr1 := hrd.below hbe (Nat.lt_succ_self rb)
    have hg1 := gw_below16 hgr (below4an wr W0.heap.size g11 hg11 (.int .i64 c10) (.string t10) (.string ⟨#[]⟩) (.int .i64 0)) (Nat.le_refl _)
    have hz1 := hz0.keepG hg1 (by omega)
    have hgw := grown_trans hg0 hg1
    have hgne : g11 ≠ rb := by omega
    have hgw2 : w.heap.size < g11 := by have := hz0.lt; omega
    clear k0 k1 k2 k3 f0 f1 f2 f3 hbe hrd hgr hg1 hx11
    generalize ((((wr.setCell ⟨g11, 0, none⟩ (.int .i64 c10)).setCell ⟨g11, 1, none⟩ (.string t10)).setCell ⟨g11, 2, none⟩ (.string ⟨#[]⟩)).setCell ⟨g11, 3, none⟩ (.int .i64 0)) = W1 at hb hr1 hz1 hgw ⊢
    refine hK _ _ ⟨trivial, fun _ => trivial⟩ (fun hS => ?_)
    clear hK K hS
    refine wpAnyT_over (by kernel_rfl) ?_
    clear hkB hkl hz0 hg0 hrd0
    have hcwf : (Lit.int .i64 c10).wf = true := by simp [Lit.wf, IntKind.min, IntKind.max, IntKind.signed, IntKind.bits]; omega
    clear hc100 hc101
    go_wp2_with fail
    refine (once_any 2 base rb cv zs _ hr1 (by omega) (by omega)).mono ?_
    rintro e w0a ⟨b0, rfl, hr1, hg0a⟩
    replace hb := hb.keepG hg0a hgne
    replace hz1 := hz1.keepG hg0a (by omega)
    replace hgw := grown_trans hgw hg0a
    clear hg0a
    cases b0 with
    | false =>
      go_wp2_with fail
      refine (once_any 2 base rb cv zs _ hr1 (by omega) (by omega)).mono ?_
      rintro e w1a ⟨b1, rfl, hr1, hg1a⟩
      replace hb := hb.keepG hg1a hgne
      replace hz1 := hz1.keepG hg1a (by omega)
      replace hgw := grown_trans hgw hg1a
      clear hg1a
      cases b1 with
      | false =>
        go_wp2_with fail
        refine (once_any 40 base rb cv zs _ hr1 (by omega) (by omega)).mono ?_
        rintro e w2a ⟨b2, rfl, hr1, hg2a⟩
        replace hb := hb.keepG hg2a hgne
        replace hz1 := hz1.keepG hg2a (by omega)
        replace hgw := grown_trans hgw hg2a
        clear hg2a
        cases b2 with
        | false =>
          have y0 := hb.cell 0 _ rfl
          have y1 := hb.cell 1 _ rfl
          have y2 := hb.cell 2 _ rfl
          have y3 := hb.cell 3 _ rfl
          have z0 := hz1.cell 0 _ rfl
          have z1 := hz1.cell 1 _ rfl
          have z2 := hz1.cell 2 _ rfl
          have z3 := hz1.cell 3 _ rfl
          have f0 := hz1.free 0
          have f1 := hz1.free 1
          have f2 := hz1.free 2
          have f3 := hz1.free 3
          go_wp2
          refine bodyPost_ret (results_an rfl _ _ _ _ rfl rfl (put4an _ _ _ _ _ _ hz1 rfl)) rfl ?_
          exact ⟨⟨c10, t10, ⟨#[]⟩, 0⟩, rfl, ⟨ht10, Nat.zero_le 3, Int.le_refl 0, (show (0 : Int) < 3000 by decide), hcwf⟩, hr1.below (below4an _ (rb + 1) _ (by omega) _ _ _ _) (Nat.lt_succ_self rb), gw_below16 hgw (below4an _ w.heap.size _ (Nat.le_refl _) _ _ _ _) (Nat.le_refl _)⟩
        | true =>
          go_wp2_with fail
          refine (off_any 100 599 base rb cv zs _ hr1 (by omega) (by omega) (by omega)).mono ?_
          rintro e w2b ⟨cc, rfl, hcc, hr1, hg2b⟩
          replace hb := hb.keepG hg2b hgne
          replace hz1 := hz1.keepG hg2b (by omega)
          replace hgw := grown_trans hgw hg2b
          clear hg2b
          have yk := hb.cell 0 _ rfl
          have fk := hb.free 0
          have hbs := hb.set 0 (.int .i64 cc)
          change Box _ g11 #[.int .i64 cc, .string t10, .string ⟨#[]⟩, .int .i64 0] _ at hbs
          have hbe : Below g11 w2b (w2b.setCell ⟨g11, 0, none⟩ (.int .i64 cc)) := (Below.refl _ _).setCell (p := ⟨g11, 0, none⟩) (Nat.le_refl _) _
          have hr1s := hr1.below (hbe.mono (show rb + 1 ≤ g11 by omega)) (Nat.lt_succ_self rb)
          have hz1s := hz1.keep hbe hgw2
          have hgws := gw_below16 hgw (hbe.mono (Nat.le_of_lt hgw2)) (Nat.le_refl _)
          clear hb hz1 hgw hr1
          have hb := hbs
          have hz1 := hz1s
          have hgw := hgws
          have hr1 := hr1s
          clear hbs hz1s hgws hr1s hbe
          have y0 := hb.cell 0 _ rfl
          have y1 := hb.cell 1 _ rfl
          have y2 := hb.cell 2 _ rfl
          have y3 := hb.cell 3 _ rfl
          have z0 := hz1.cell 0 _ rfl
          have z1 := hz1.cell 1 _ rfl
          have z2 := hz1.cell 2 _ rfl
          have z3 := hz1.cell 3 _ rfl
          have f0 := hz1.free 0
          have f1 := hz1.free 1
          have f2 := hz1.free 2
          have f3 := hz1.free 3
          go_wp2
          refine bodyPost_ret (results_an rfl _ _ _ _ rfl rfl (put4an _ _ _ _ _ _ hz1 rfl)) rfl ?_
          exact ⟨⟨cc, t10, ⟨#[]⟩, 0⟩, rfl, ⟨ht10, Nat.zero_le 3, Int.le_refl 0, (show (0 : Int) < 3000 by decide), hcc⟩, hr1.below (below4an _ (rb + 1) _ (by omega) _ _ _ _) (Nat.lt_succ_self rb), gw_below16 hgw (below4an _ w.heap.size _ (Nat.le_refl _) _ _ _ _) (Nat.le_refl _)⟩
      | true =>
        go_wp2_with fail
        refine (below_any 3000 base rb cv zs _ hr1 (by omega) (by omega)).mono ?_
        rintro e w1b ⟨aa, rfl, haa0, haa1, hr1, hg1b⟩
        replace hb := hb.keepG hg1b hgne
        replace hz1 := hz1.keepG hg1b (by omega)
        replace hgw := grown_trans hgw hg1b
        clear hg1b
        have yk := hb.cell 3 _ rfl
        have fk := hb.free 3
        have hbs := hb.set 3 (.int .i64 aa)
        change Box _ g11 #[.int .i64 c10, .string t10, .string ⟨#[]⟩, .int .i64 aa] _ at hbs
        have hbe : Below g11 w1b (w1b.setCell ⟨g11, 3, none⟩ (.int .i64 aa)) := (Below.refl _ _).setCell (p := ⟨g11, 3, none⟩) (Nat.le_refl _) _
        have hr1s := hr1.below (hbe.mono (show rb + 1 ≤ g11 by omega)) (Nat.lt_succ_self rb)
        have hz1s := hz1.keep hbe hgw2
        have hgws := gw_below16 hgw (hbe.mono (Nat.le_of_lt hgw2)) (Nat.le_refl _)
        clear hb hz1 hgw hr1
        have hb := hbs
        have hz1 := hz1s
        have hgw := hgws
        have hr1 := hr1s
        clear hbs hz1s hgws hr1s hbe
        go_wp2_with fail
        refine (once_any 40 base rb cv zs _ hr1 (by omega) (by omega)).mono ?_
        rintro e w2a ⟨b2, rfl, hr1, hg2a⟩
        replace hb := hb.keepG hg2a hgne
        replace hz1 := hz1.keepG hg2a (by omega)
        replace hgw := grown_trans hgw hg2a
        clear hg2a
        cases b2 with
        | false =>
          have y0 := hb.cell 0 _ rfl
          have y1 := hb.cell 1 _ rfl
          have y2 := hb.cell 2 _ rfl
          have y3 := hb.cell 3 _ rfl
          have z0 := hz1.cell 0 _ rfl
          have z1 := hz1.cell 1 _ rfl
          have z2 := hz1.cell 2 _ rfl
          have z3 := hz1.cell 3 _ rfl
          have f0 := hz1.free 0
          have f1 := hz1.free 1
          have f2 := hz1.free 2
          have f3 := hz1.free 3
          go_wp2
          refine bodyPost_ret (results_an rfl _ _ _ _ rfl rfl (put4an _ _ _ _ _ _ hz1 rfl)) rfl ?_
          exact ⟨⟨c10, t10, ⟨#[]⟩, aa⟩, rfl, ⟨ht10, Nat.zero_le 3, haa0, haa1, hcwf⟩, hr1.below (below4an _ (rb + 1) _ (by omega) _ _ _ _) (Nat.lt_succ_self rb), gw_below16 hgw (below4an _ w.heap.size _ (Nat.le_refl _) _ _ _ _) (Nat.le_refl _)⟩
        | true =>
          go_wp2_with fail
          refine (off_any 100 599 base rb cv zs _ hr1 (by omega) (by omega) (by omega)).mono ?_
          rintro e w2b ⟨cc, rfl, hcc, hr1, hg2b⟩
          replace hb := hb.keepG hg2b hgne
          replace hz1 := hz1.keepG hg2b (by omega)
          replace hgw := grown_trans hgw hg2b
          clear hg2b
          have yk := hb.cell 0 _ rfl
          have fk := hb.free 0
          have hbs := hb.set 0 (.int .i64 cc)
          change Box _ g11 #[.int .i64 cc, .string t10, .string ⟨#[]⟩, .int .i64 aa] _ at hbs
          have hbe : Below g11 w2b (w2b.setCell ⟨g11, 0, none⟩ (.int .i64 cc)) := (Below.refl _ _).setCell (p := ⟨g11, 0, none⟩) (Nat.le_refl _) _
          have hr1s := hr1.below (hbe.mono (show rb + 1 ≤ g11 by omega)) (Nat.lt_succ_self rb)
          have hz1s := hz1.keep hbe hgw2
          have hgws := gw_below16 hgw (hbe.mono (Nat.le_of_lt hgw2)) (Nat.le_refl _)
          clear hb hz1 hgw hr1
          have hb := hbs
          have hz1 := hz1s
          have hgw := hgws
          have hr1 := hr1s
          clear hbs hz1s hgws hr1s hbe
          have y0 := hb.cell 0 _ rfl
          have y1 := hb.cell 1 _ rfl
          have y2 := hb.cell 2 _ rfl
          have y3 := hb.cell 3 _ rfl
          have z0 := hz1.cell 0 _ rfl
          have z1 := hz1.cell 1 _ rfl
          have z2 := hz1.cell 2 _ rfl
          have z3 := hz1.cell 3 _ rfl
          have f0 := hz1.free 0
          have f1 := hz1.free 1
          have f2 := hz1.free 2
          have f3 := hz1.free 3
          go_wp2
          refine bodyPost_ret (results_an rfl _ _ _ _ rfl rfl (put4an _ _ _ _ _ _ hz1 rfl)) rfl ?_
          exact ⟨⟨cc, t10, ⟨#[]⟩, aa⟩, rfl, ⟨ht10, Nat.zero_le 3, haa0, haa1, hcc⟩, hr1.below (below4an _ (rb + 1) _ (by omega) _ _ _ _) (Nat.lt_succ_self rb), gw_below16 hgw (below4an _ w.heap.size _ (Nat.le_refl _) _ _ _ _) (Nat.le_refl _)⟩
    | true =>
      go_wp2_with fail
      refine (url_any base rb cv zs _ hr1).mono ?_
      rintro e w0b ⟨uu, rfl, huu, hr1, hg0b⟩
      replace hb := hb.keepG hg0b hgne
      replace hz1 := hz1.keepG hg0b (by omega)
      replace hgw := grown_trans hgw hg0b
      clear hg0b
      have yk := hb.cell 2 _ rfl
      have fk := hb.free 2
      have hbs := hb.set 2 (.string uu)
      change Box _ g11 #[.int .i64 c10, .string t10, .string uu, .int .i64 0] _ at hbs
      have hbe : Below g11 w0b (w0b.setCell ⟨g11, 2, none⟩ (.string uu)) := (Below.refl _ _).setCell (p := ⟨g11, 2, none⟩) (Nat.le_refl _) _
      have hr1s := hr1.below (hbe.mono (show rb + 1 ≤ g11 by omega)) (Nat.lt_succ_self rb)
      have hz1s := hz1.keep hbe hgw2
      have hgws := gw_below16 hgw (hbe.mono (Nat.le_of_lt hgw2)) (Nat.le_refl _)
      clear hb hz1 hgw hr1
      have hb := hbs
      have hz1 := hz1s
      have hgw := hgws
      have hr1 := hr1s
      clear hbs hz1s hgws hr1s hbe
      go_wp2_with fail
      refine (once_any 2 base rb cv zs _ hr1 (by omega) (by omega)).mono ?_
      rintro e w1a ⟨b1, rfl, hr1, hg1a⟩
      replace hb := hb.keepG hg1a hgne
      replace hz1 := hz1.keepG hg1a (by omega)
      replace hgw := grown_trans hgw hg1a
      clear hg1a
      cases b1 with
      | false =>
        go_wp2_with fail
        refine (once_any 40 base rb cv zs _ hr1 (by omega) (by omega)).mono ?_
        rintro e w2a ⟨b2, rfl, hr1, hg2a⟩
        replace hb := hb.keepG hg2a hgne
        replace hz1 := hz1.keepG hg2a (by omega)
        replace hgw := grown_trans hgw hg2a
        clear hg2a
        cases b2 with
        | false =>
          have y0 := hb.cell 0 _ rfl
          have y1 := hb.cell 1 _ rfl
          have y2 := hb.cell 2 _ rfl
          have y3 := hb.cell 3 _ rfl
          have z0 := hz1.cell 0 _ rfl
          have z1 := hz1.cell 1 _ rfl
          have z2 := hz1.cell 2 _ rfl
          have z3 := hz1.cell 3 _ rfl
          have f0 := hz1.free 0
          have f1 := hz1.free 1
          have f2 := hz1.free 2
          have f3 := hz1.free 3
          go_wp2
          refine bodyPost_ret (results_an rfl _ _ _ _ rfl rfl (put4an _ _ _ _ _ _ hz1 rfl)) rfl ?_
          exact ⟨⟨c10, t10, uu, 0⟩, rfl, ⟨ht10, huu, Int.le_refl 0, (show (0 : Int) < 3000 by decide), hcwf⟩, hr1.below (below4an _ (rb + 1) _ (by omega) _ _ _ _) (Nat.lt_succ_self rb), gw_below16 hgw (below4an _ w.heap.size _ (Nat.le_refl _) _ _ _ _) (Nat.le_refl _)⟩
        | true =>
          go_wp2_with fail
          refine (off_any 100 599 base rb cv zs _ hr1 (by omega) (by omega) (by omega)).mono ?_
          rintro e w2b ⟨cc, rfl, hcc, hr1, hg2b⟩
          replace hb := hb.keepG hg2b hgne
          replace hz1 := hz1.keepG hg2b (by omega)
          replace hgw := grown_trans hgw hg2b
          clear hg2b
          have yk := hb.cell 0 _ rfl
          have fk := hb.free 0
          have hbs := hb.set 0 (.int .i64 cc)
          change Box _ g11 #[.int .i64 cc, .string t10, .string uu, .int .i64 0] _ at hbs
          have hbe : Below g11 w2b (w2b.setCell ⟨g11, 0, none⟩ (.int .i64 cc)) := (Below.refl _ _).setCell (p := ⟨g11, 0, none⟩) (Nat.le_refl _) _
          have hr1s := hr1.below (hbe.mono (show rb + 1 ≤ g11 by omega)) (Nat.lt_succ_self rb)
          have hz1s := hz1.keep hbe hgw2
          have hgws := gw_below16 hgw (hbe.mono (Nat.le_of_lt hgw2)) (Nat.le_refl _)
          clear hb hz1 hgw hr1
          have hb := hbs
          have hz1 := hz1s
          have hgw := hgws
          have hr1 := hr1s
          clear hbs hz1s hgws hr1s hbe
          have y0 := hb.cell 0 _ rfl
          have y1 := hb.cell 1 _ rfl
          have y2 := hb.cell 2 _ rfl
          have y3 := hb.cell 3 _ rfl
          have z0 := hz1.cell 0 _ rfl
          have z1 := hz1.cell 1 _ rfl
          have z2 := hz1.cell 2 _ rfl
          have z3 := hz1.cell 3 _ rfl
          have f0 := hz1.free 0
          have f1 := hz1.free 1
          have f2 := hz1.free 2
          have f3 := hz1.free 3
          go_wp2
          refine bodyPost_ret (results_an rfl _ _ _ _ rfl rfl (put4an _ _ _ _ _ _ hz1 rfl)) rfl ?_
          exact ⟨⟨cc, t10, uu, 0⟩, rfl, ⟨ht10, huu, Int.le_refl 0, (show (0 : Int) < 3000 by decide), hcc⟩, hr1.below (below4an _ (rb + 1) _ (by omega) _ _ _ _) (Nat.lt_succ_self rb), gw_below16 hgw (below4an _ w.heap.size _ (Nat.le_refl _) _ _ _ _) (Nat.le_refl _)⟩
      | true =>
        go_wp2_with fail
        refine (below_any 3000 base rb cv zs _ hr1 (by omega) (by omega)).mono ?_
        rintro e w1b ⟨aa, rfl, haa0, haa1, hr1, hg1b⟩
        replace hb := hb.keepG hg1b hgne
        replace hz1 := hz1.keepG hg1b (by omega)
        replace hgw := grown_trans hgw hg1b
        clear hg1b
        have yk := hb.cell 3 _ rfl
        have fk := hb.free 3
        have hbs := hb.set 3 (.int .i64 aa)
        change Box _ g11 #[.int .i64 c10, .string t10, .string uu, .int .i64 aa] _ at hbs
        have hbe : Below g11 w1b (w1b.setCell ⟨g11, 3, none⟩ (.int .i64 aa)) := (Below.refl _ _).setCell (p := ⟨g11, 3, none⟩) (Nat.le_refl _) _
        have hr1s := hr1.below (hbe.mono (show rb + 1 ≤ g11 by omega)) (Nat.lt_succ_self rb)
        have hz1s := hz1.keep hbe hgw2
        have hgws := gw_below16 hgw (hbe.mono (Nat.le_of_lt hgw2)) (Nat.le_refl _)
        clear hb hz1 hgw hr1
        have hb := hbs
        have hz1 := hz1s
        have hgw := hgws
        have hr1 := hr1s
        clear hbs hz1s hgws hr1s hbe
        go_wp2_with fail
        refine (once_any 40 base rb cv zs _ hr1 (by omega) (by omega)).mono ?_
        rintro e w2a ⟨b2, rfl, hr1, hg2a⟩
        replace hb := hb.keepG hg2a hgne
        replace hz1 := hz1.keepG hg2a (by omega)
        replace hgw := grown_trans hgw hg2a
        clear hg2a
        cases b2 with
        | false =>
          have y0 := hb.cell 0 _ rfl
          have y1 := hb.cell 1 _ rfl
          have y2 := hb.cell 2 _ rfl
          have y3 := hb.cell 3 _ rfl
          have z0 := hz1.cell 0 _ rfl
          have z1 := hz1.cell 1 _ rfl
          have z2 := hz1.cell 2 _ rfl
          have z3 := hz1.cell 3 _ rfl
          have f0 := hz1.free 0
          have f1 := hz1.free 1
          have f2 := hz1.free 2
          have f3 := hz1.free 3
          go_wp2
          refine bodyPost_ret (results_an rfl _ _ _ _ rfl rfl (put4an _ _ _ _ _ _ hz1 rfl)) rfl ?_
          exact ⟨⟨c10, t10, uu, aa⟩, rfl, ⟨ht10, huu, haa0, haa1, hcwf⟩, hr1.below (below4an _ (rb + 1) _ (by omega) _ _ _ _) (Nat.lt_succ_self rb), gw_below16 hgw (below4an _ w.heap.size _ (Nat.le_refl _) _ _ _ _) (Nat.le_refl _)⟩
        | true =>
          go_wp2_with fail
          refine (off_any 100 599 base rb cv zs _ hr1 (by omega) (by omega) (by omega)).mono ?_
          rintro e w2b ⟨cc, rfl, hcc, hr1, hg2b⟩
          replace hb := hb.keepG hg2b hgne
          replace hz1 := hz1.keepG hg2b (by omega)
          replace hgw := grown_trans hgw hg2b
          clear hg2b
          have yk := hb.cell 0 _ rfl
          have fk := hb.free 0
          have hbs := hb.set 0 (.int .i64 cc)
          change Box _ g11 #[.int .i64 cc, .string t10, .string uu, .int .i64 aa] _ at hbs
          have hbe : Below g11 w2b (w2b.setCell ⟨g11, 0, none⟩ (.int .i64 cc)) := (Below.refl _ _).setCell (p := ⟨g11, 0, none⟩) (Nat.le_refl _) _
          have hr1s := hr1.below (hbe.mono (show rb + 1 ≤ g11 by omega)) (Nat.lt_succ_self rb)
          have hz1s := hz1.keep hbe hgw2
          have hgws := gw_below16 hgw (hbe.mono (Nat.le_of_lt hgw2)) (Nat.le_refl _)
          clear hb hz1 hgw hr1
          have hb := hbs
          have hz1 := hz1s
          have hgw := hgws
          have hr1 := hr1s
          clear hbs hz1s hgws hr1s hbe
          have y0 := hb.cell 0 _ rfl
          have y1 := hb.cell 1 _ rfl
          have y2 := hb.cell 2 _ rfl
          have y3 := hb.cell 3 _ rfl
          have z0 := hz1.cell 0 _ rfl
          have z1 := hz1.cell 1 _ rfl
          have z2 := hz1.cell 2 _ rfl
          have z3 := hz1.cell 3 _ rfl
          have f0 := hz1.free 0
          have f1 := hz1.free 1
          have f2 := hz1.free 2
          have f3 := hz1.free 3
          go_wp2
          refine bodyPost_ret (results_an rfl _ _ _ _ rfl rfl (put4an _ _ _ _ _ _ hz1 rfl)) rfl ?_
          exact ⟨⟨cc, t10, uu, aa⟩, rfl, ⟨ht10, huu, haa0, haa1, hcc⟩, hr1.below (below4an _ (rb + 1) _ (by omega) _ _ _ _) (Nat.lt_succ_self rb), gw_below16 hgw (below4an _ w.heap.size _ (Nat.le_refl _) _ _ _ _) (Nat.le_refl _)⟩
  · exact ⟨fun _ => false, fun _ => undef, rfl, rfl, ⟨⟨hrd0.drewN 1, grown_drewN (World.grownBy.refl _ _) 1⟩, fun i hi => by cases hi⟩⟩
  · decide
end Go.Proofs.Ytlipgmaiooljkaa

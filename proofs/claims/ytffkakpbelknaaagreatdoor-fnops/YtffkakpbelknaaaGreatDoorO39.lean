/- Parts of the proof. -/
import Derived.Deep.CutBlock
import Derived.Test.YtffkakpbelknaaaGreatDoorO23
import Derived.Test.YtffkakpbelknaaaGreatDoorO38
set_option maxHeartbeats 4000000
set_option maxRecDepth 100000
namespace Go.Proofs.YtffkakpbelknaaaGreatDoor
open Go.ChangeShapes Go.WideShapes Go.ChangeAt Go.RowKit
set_option linter.unusedVariables false
set_option linter.unusedSimpArgs false
abbrev opZ : Array Value := #[.int .i64 0, .string ⟨#[]⟩, .string ⟨#[]⟩, .int .i64 0, .string ⟨#[]⟩, .string ⟨#[]⟩, .slice none 0 0]
abbrev ids4 : Array Value := #[.string ⟨#[49]⟩, .string ⟨#[50]⟩, .string ⟨#[51]⟩, .string ⟨#[52]⟩]
def smO (o : OpD) : Prop := o.u.size <= 3 /\ o.i.size <= 1 /\ o.fu.size <= 3 /\ o.ft.size <= 8 /\ o.its.length <= 4 /\ ∀ y ∈ o.its, smI y
structure OpDr (base rb : Nat) (cv : Value) (zs : List Int) (w : World) (F : Nat) (wx : World) (o : OpD) (x : Value) : Prop where
 sm : smO o
 own : OwnR 55 3 itC wx (F + 1) x o.its
 bx : Box wx F #[.int .i64 o.k, .string o.u, .string o.i, .int .i64 o.d, .string o.fu, .string o.ft, x] 35
 z : Box wx w.heap.size opZ 35
 rd : Rd wx base rb cv zs
 g : w.grownBy wx (some rb)
def OutOp (base rb : Nat) (cv : Value) (zs : List Int) (w : World) (e : Ending) (w' : World) : Prop :=
 ∃ (o : OpD) (x : Value), e = .returned (opV o x) /\ smO o /\ OwnR 55 3 itC w' w.heap.size x o.its /\ Rd w' base rb cv zs /\ w.grownBy w' (some rb)
abbrev put7 (w : World) (g : Nat) (a b c d e f h : Value) : World := (((((((w.setCell ⟨g, 0, none⟩ a).setCell ⟨g, 1, none⟩ b).setCell ⟨g, 2, none⟩ c).setCell ⟨g, 3, none⟩ d).setCell ⟨g, 4, none⟩ e).setCell ⟨g, 5, none⟩ f).setCell ⟨g, 6, none⟩ h)
theorem below7 (w : World) (B g : Nat) (hB : B <= g) (a b c d e f h : Value) : Below B w (put7 w g a b c d e f h) := (((((((Below.refl B w).setCell (p := ⟨g, 0, none⟩) hB a).setCell (p := ⟨g, 1, none⟩) hB b).setCell (p := ⟨g, 2, none⟩) hB c).setCell (p := ⟨g, 3, none⟩) hB d).setCell (p := ⟨g, 4, none⟩) hB e).setCell (p := ⟨g, 5, none⟩) hB f).setCell (p := ⟨g, 6, none⟩) hB h
theorem OwnR.other7 {α : Type} {k : Nat} {C : α -> List Value} {ty : TypeId} {w : World} {base : Nat} {v : Value} {l : List α} (h0 : OwnR ty k C w base v l) (g : Nat) (hB : g < base) (a b c d e f h : Value) : OwnR ty k C (put7 w g a b c d e f h) base v l := (((((((h0).other ⟨g, 0, none⟩ a hB).other ⟨g, 1, none⟩ b hB).other ⟨g, 2, none⟩ c hB).other ⟨g, 3, none⟩ d hB).other ⟨g, 4, none⟩ e hB).other ⟨g, 5, none⟩ f hB).other ⟨g, 6, none⟩ h hB
theorem Box.put7 {w : World} {g : Nat} {x0 x1 x2 x3 x4 x5 x6 : Value} {t : TypeId} (h0 : Box w g #[x0, x1, x2, x3, x4, x5, x6] t) (a b c d e f h : Value) : Box (put7 w g a b c d e f h) g #[a, b, c, d, e, f, h] t := by
 have b0 : Box (w.setCell ⟨g, 0, none⟩ a) g #[a, x1, x2, x3, x4, x5, x6] t := Box.set h0 0 a
 have b1 : Box ((w.setCell ⟨g, 0, none⟩ a).setCell ⟨g, 1, none⟩ b) g #[a, b, x2, x3, x4, x5, x6] t := Box.set b0 1 b
 have b2 : Box (((w.setCell ⟨g, 0, none⟩ a).setCell ⟨g, 1, none⟩ b).setCell ⟨g, 2, none⟩ c) g #[a, b, c, x3, x4, x5, x6] t := Box.set b1 2 c
 have b3 : Box ((((w.setCell ⟨g, 0, none⟩ a).setCell ⟨g, 1, none⟩ b).setCell ⟨g, 2, none⟩ c).setCell ⟨g, 3, none⟩ d) g #[a, b, c, d, x4, x5, x6] t := Box.set b2 3 d
 have b4 : Box (((((w.setCell ⟨g, 0, none⟩ a).setCell ⟨g, 1, none⟩ b).setCell ⟨g, 2, none⟩ c).setCell ⟨g, 3, none⟩ d).setCell ⟨g, 4, none⟩ e) g #[a, b, c, d, e, x5, x6] t := Box.set b3 4 e
 have b5 : Box ((((((w.setCell ⟨g, 0, none⟩ a).setCell ⟨g, 1, none⟩ b).setCell ⟨g, 2, none⟩ c).setCell ⟨g, 3, none⟩ d).setCell ⟨g, 4, none⟩ e).setCell ⟨g, 5, none⟩ f) g #[a, b, c, d, e, f, x6] t := Box.set b4 5 f
 have b6 : Box (((((((w.setCell ⟨g, 0, none⟩ a).setCell ⟨g, 1, none⟩ b).setCell ⟨g, 2, none⟩ c).setCell ⟨g, 3, none⟩ d).setCell ⟨g, 4, none⟩ e).setCell ⟨g, 5, none⟩ f).setCell ⟨g, 6, none⟩ h) g #[a, b, c, d, e, f, h] t := Box.set b5 6 h
 exact b6
theorem OpDr.put {base rb : Nat} {cv : Value} {zs : List Int} {w : World} {F : Nat} {wx : World} {o : OpD} {x : Value} (h : OpDr base rb cv zs w F wx o x) (hF : w.heap.size < F) (hrb : rb < w.heap.size) (o' : OpD) (x' : Value) (hs : smO o') (ho : OwnR 55 3 itC wx (F + 1) x' o'.its) :
  OpDr base rb cv zs w F (put7 wx F (.int .i64 o'.k) (.string o'.u) (.string o'.i) (.int .i64 o'.d) (.string o'.fu) (.string o'.ft) x') o' x' := by
 have hb := below7 wx F F (Nat.le_refl _) (.int .i64 o'.k) (.string o'.u) (.string o'.i) (.int .i64 o'.d) (.string o'.fu) (.string o'.ft) x'
 exact ⟨hs, ho.other7 F (Nat.lt_succ_self _) _ _ _ _ _ _ _, h.bx.put7 _ _ _ _ _ _ _, h.z.keep hb hF, h.rd.below hb (by omega), gw_below h.g hb (by omega)⟩
theorem OpDr.grow {base rb : Nat} {cv : Value} {zs : List Int} {w : World} {F : Nat} {wx w' : World} {o : OpD} {x : Value} (h : OpDr base rb cv zs w F wx o x) (hF : w.heap.size < F) (hrb : rb < w.heap.size) (hr : Rd w' base rb cv zs) (hg : wx.grownBy w' (some rb)) : OpDr base rb cv zs w F w' o x :=
 ⟨h.sm, h.own.keepG hg (by omega), h.bx.keepG hg (by omega), h.z.keepG hg (by omega), hr, grown_trans h.g hg⟩
theorem OpDr.setK {base rb : Nat} {cv : Value} {zs : List Int} {w : World} {F : Nat} {wx : World} {o : OpD} {x : Value} (h : OpDr base rb cv zs w F wx o x) (hF : w.heap.size < F) (hrb : rb < w.heap.size) (n : Int) : OpDr base rb cv zs w F (wx.setCell ⟨F, 0, none⟩ (.int .i64 n)) ⟨n, o.u, o.i, o.d, o.fu, o.ft, o.its⟩ x := by
 have hb : Below F wx (wx.setCell ⟨F, 0, none⟩ (.int .i64 n)) := (Below.refl F wx).setCell (p := ⟨F, 0, none⟩) (Nat.le_refl _) _
 exact ⟨h.sm, h.own.other ⟨F, 0, none⟩ _ (Nat.lt_succ_self _), Box.set h.bx 0 (.int .i64 n), h.z.keep hb hF, h.rd.below hb (by omega), gw_below h.g hb (by omega)⟩
abbrev kinds3 : Array Value := #[.int .i64 2, .int .i64 8, .int .i64 8]
def opP (rb : Nat) (i : Nat) (v : Value) (wr : World) : Prop := match i with
 | 0 => ∃ g, v = .slice (some ⟨g, 0, none⟩) 3 3 /\ g ≠ rb /\ Box wr g kinds3 2
 | 2 => ∃ x : Nat, v = .int .i64 (x : Int) /\ x < 3
 | 3 => ∃ g x : Nat, v = .pointer (some ⟨g, x, none⟩) /\ x < 3 /\ g ≠ rb /\ Box wr g kinds3 2
 | 4 => ∃ n : Int, v = .int .i64 n
 | 6 => ∃ t : ByteArray, v = .string t /\ t.size <= 3
 | 7 => ∃ (n : Int) (t : ByteArray), v = opV ⟨n, t, ⟨#[]⟩, 0, ⟨#[]⟩, ⟨#[]⟩, []⟩ (.slice none 0 0) /\ t.size <= 3
 | _ => True
theorem opP_keep {rb : Nat} {w w' : World} (hb : ∀ g cs t, g ≠ rb -> Box w g cs t -> Box w' g cs t) (i : Nat) (v : Value) (h : opP rb i v w) : opP rb i v w' := by
 unfold opP at h ⊢
 split at h
 ·obtain ⟨g, h1, h2, h3⟩ := h; exact ⟨g, h1, h2, hb _ _ _ h2 h3⟩
 ·exact h
 ·obtain ⟨g, x, h1, h2, h3, h4⟩ := h; exact ⟨g, x, h1, h2, h3, hb _ _ _ h3 h4⟩
 ·exact h
 ·exact h
 ·exact h
 ·trivial
theorem op_any (base rb : Nat) (cv : Value) (zs : List Int) (w : World) (h : Rd w base rb cv zs) :
  Calls Tryz.prog 70 #[.pointer (some ⟨rb, 0, none⟩)] w (OutOp base rb cv zs w) := by
 have hrb := h.lt
 have hr0 := h.alloc (.cells opZ 35)
 have hg0 := World.grownBy_alloc w (.cells opZ 35) (some rb)
 have hz0 := Box.new w opZ 35
 clear h
 go_enter Tryz.func70, Tryz.ntmps70
 go_wp2_with fail
 refine (below_any 4 base rb cv zs _ hr0 (by omega) (by omega)).mono ?_
 rintro e w1 ⟨k, rfl, hk0, hk1, hr1, hg1⟩
 have hz1 := hz0.keepG hg1 (by omega)
 have g1 := grown_trans hg0 hg1
 clear hz0 hg0 hg1 hr0
 have hkw : IntKind.i64.wrap (4 + k) = 4 + k := IntWalk.i64_in _ (by omega)
 go_wp2_with fail
 refine (url_any base rb cv zs _ hr1).mono ?_
 rintro e w2 ⟨u, rfl, hu, hr2, hg2⟩
 have hz2 := hz1.keepG hg2 (by omega)
 have g2 := grown_trans g1 hg2
 clear hz1 hg2 hr1 g1
 go_wp2_with fail
 refine (below_any 4 base rb cv zs _ (hr2.alloc _) (by omega) (by omega)).mono ?_
 rintro e w3 ⟨x, rfl, hx0, hx1, hr3, hg3⟩
 have hi3 := (Box.new w2 ids4 9).keepG hg3 (by have := hr2.lt; omega)
 have hz3 := (hz2.alloc (.cells ids4 9)).keepG hg3 (by omega)
 have g3 := grown_trans (grown_trans g2 (World.grownBy_alloc w2 (.cells ids4 9) (some rb))) hg3
 clear hz2 g2 hg3 hr2
 obtain ⟨x, rfl⟩ : ∃ n : Nat, x = n := ⟨x.toNat, by omega⟩
 have hc : ∃ t : ByteArray, ids4[x]? = some (.string t) /\ t.size <= 1 := by
  rcases (show x = 0 \/ x = 1 \/ x = 2 \/ x = 3 by omega) with rfl | rfl | rfl | rfl
  all_goals exact ⟨_, rfl, by decide⟩
 obtain ⟨t, hc1, hc2⟩ := hc
 have hcell := cell_of_cells (i := x) hi3 hc1
 clear hi3 hc1
 go_wp2_with fail
 have hr4 := hr3.alloc (.cells #[.int .i64 (4 + k), .string u, .string t, .int .i64 0, .string ⟨#[]⟩, .string ⟨#[]⟩, .slice none 0 0] 35)
 have hb4 := Box.new w3 #[.int .i64 (4 + k), .string u, .string t, .int .i64 0, .string ⟨#[]⟩, .string ⟨#[]⟩, .slice none 0 0] 35
 have hz4 := hz3.alloc (.cells #[.int .i64 (4 + k), .string u, .string t, .int .i64 0, .string ⟨#[]⟩, .string ⟨#[]⟩, .slice none 0 0] 35)
 have g4 := grown_trans g3 (World.grownBy_alloc w3 (.cells #[.int .i64 (4 + k), .string u, .string t, .int .i64 0, .string ⟨#[]⟩, .string ⟨#[]⟩, .slice none 0 0] 35) (some rb))
 have hF := hz3.lt
 have hFr := hr3.lt
 refine (below_any 7 base rb cv zs _ hr4 (by omega) (by omega)).mono ?_
 rintro e w5 ⟨y, rfl, hy0, hy1, hr5, hg5⟩
 have hD : OpDr base rb cv zs w w3.heap.size w5 ⟨4 + k, u, t, 0, ⟨#[]⟩, ⟨#[]⟩, []⟩ (.slice none 0 0) := ⟨⟨hu, hc2, (by show (0 : Nat) <= 3; omega), (by show (0 : Nat) <= 8; omega), by simp, by simp⟩, OwnR.nil _ _ _, hb4.keepG hg5 (by omega), hz4.keepG hg5 (by omega), hr5, grown_trans g4 hg5⟩
 clear hr4 hb4 hz4 g4 hr5 hg5 hz3 g3 hr3 hcell
 generalize w3.heap.size = F at hD hF hFr ⊢
 obtain ⟨o, xv, hD⟩ : ∃ (o : OpD) (xv : Value), OpDr base rb cv zs w F w5 o xv := ⟨_, _, hD⟩
 go_upto_block 0 with fail
 go_cut [3] from 17 to 44 (fun s3 wx => s3 = .pointer (some ⟨F, 0, none⟩) /\ ∃ (o : OpD) (x : Value), OpDr base rb cv zs w F wx o x)
 case first =>
  have hE : OwnR 55 3 itC w5 (F + 1) (.slice none 0 0) [] := OwnR.nil _ _ _
  rcases (show y = 0 \/ y = 1 \/ y = 2 \/ y = 3 \/ y = 4 \/ y = 5 \/ y = 6 by omega) with rfl | rfl | rfl | rfl | rfl | rfl | rfl
  ·go_wp2_with fail
   refine (url_any base rb cv zs _ hD.rd).mono ?_
   rintro e w6 ⟨u6, rfl, hu6, hr6, hg6⟩
   have hD6 := hD.grow hF hrb hr6 hg6
   have q0 := hD6.bx.cell 0 _ rfl
   have qf0 := hD6.bx.free 0
   have q1 := hD6.bx.cell 1 _ rfl
   have qf1 := hD6.bx.free 1
   have q2 := hD6.bx.cell 2 _ rfl
   have qf2 := hD6.bx.free 2
   have q3 := hD6.bx.cell 3 _ rfl
   have qf3 := hD6.bx.free 3
   have q4 := hD6.bx.cell 4 _ rfl
   have qf4 := hD6.bx.free 4
   have q5 := hD6.bx.cell 5 _ rfl
   have qf5 := hD6.bx.free 5
   have q6 := hD6.bx.cell 6 _ rfl
   have qf6 := hD6.bx.free 6
   go_wp2_with fail
   go_meet
   exact ⟨rfl, ⟨1, u6, ⟨#[]⟩, 0, ⟨#[]⟩, ⟨#[]⟩, []⟩, .slice none 0 0, hD6.put hF hrb ⟨1, u6, ⟨#[]⟩, 0, ⟨#[]⟩, ⟨#[]⟩, []⟩ (.slice none 0 0) ⟨hu6, (by show (0 : Nat) <= 1; omega), (by show (0 : Nat) <= 3; omega), (by show (0 : Nat) <= 8; omega), by simp, by simp⟩ (OwnR.nil _ _ _)⟩
  ·go_wp2_with fail
   refine (url_any base rb cv zs _ hD.rd).mono ?_
   rintro e w6 ⟨u6, rfl, hu6, hr6, hg6⟩
   have hD6 := hD.grow hF hrb hr6 hg6
   have q0 := hD6.bx.cell 0 _ rfl
   have qf0 := hD6.bx.free 0
   have q1 := hD6.bx.cell 1 _ rfl
   have qf1 := hD6.bx.free 1
   have q2 := hD6.bx.cell 2 _ rfl
   have qf2 := hD6.bx.free 2
   have q3 := hD6.bx.cell 3 _ rfl
   have qf3 := hD6.bx.free 3
   have q4 := hD6.bx.cell 4 _ rfl
   have qf4 := hD6.bx.free 4
   have q5 := hD6.bx.cell 5 _ rfl
   have qf5 := hD6.bx.free 5
   have q6 := hD6.bx.cell 6 _ rfl
   have qf6 := hD6.bx.free 6
   go_wp2_with fail
   go_meet
   exact ⟨rfl, ⟨1, u6, ⟨#[]⟩, 0, ⟨#[]⟩, ⟨#[]⟩, []⟩, .slice none 0 0, hD6.put hF hrb ⟨1, u6, ⟨#[]⟩, 0, ⟨#[]⟩, ⟨#[]⟩, []⟩ (.slice none 0 0) ⟨hu6, (by show (0 : Nat) <= 1; omega), (by show (0 : Nat) <= 3; omega), (by show (0 : Nat) <= 8; omega), by simp, by simp⟩ (OwnR.nil _ _ _)⟩
  ·go_wp2_with fail
   refine (feed_any base rb cv zs _ hD.rd).mono ?_
   rintro e w6 ⟨fu, ft, fx, its, rfl, hf1, hf2, hf3, hf4, hf5, hr6, hg6⟩
   have hD6 := hD.grow hF hrb hr6 hg6
   have hFw := hD.bx.lt
   obtain ⟨fa, fc, rfl⟩ := hf5.slice
   have q0 := hD6.bx.cell 0 _ rfl
   have qf0 := hD6.bx.free 0
   have q1 := hD6.bx.cell 1 _ rfl
   have qf1 := hD6.bx.free 1
   have q2 := hD6.bx.cell 2 _ rfl
   have qf2 := hD6.bx.free 2
   have q3 := hD6.bx.cell 3 _ rfl
   have qf3 := hD6.bx.free 3
   have q4 := hD6.bx.cell 4 _ rfl
   have qf4 := hD6.bx.free 4
   have q5 := hD6.bx.cell 5 _ rfl
   have qf5 := hD6.bx.free 5
   have q6 := hD6.bx.cell 6 _ rfl
   have qf6 := hD6.bx.free 6
   go_wp2_with fail
   go_meet
   exact ⟨rfl, ⟨3, ⟨#[]⟩, ⟨#[]⟩, 0, fu, ft, its⟩, .slice fa its.length fc, hD6.put hF hrb ⟨3, ⟨#[]⟩, ⟨#[]⟩, 0, fu, ft, its⟩ (.slice fa its.length fc) ⟨(by show (0 : Nat) <= 3; omega), (by show (0 : Nat) <= 1; omega), hf1, hf2, hf3, hf4⟩ (hf5.base_mono (by omega))⟩
  ·go_wp2_with fail
   refine (feed_any base rb cv zs _ hD.rd).mono ?_
   rintro e w6 ⟨fu, ft, fx, its, rfl, hf1, hf2, hf3, hf4, hf5, hr6, hg6⟩
   have hD6 := hD.grow hF hrb hr6 hg6
   have hFw := hD.bx.lt
   obtain ⟨fa, fc, rfl⟩ := hf5.slice
   have q0 := hD6.bx.cell 0 _ rfl
   have qf0 := hD6.bx.free 0
   have q1 := hD6.bx.cell 1 _ rfl
   have qf1 := hD6.bx.free 1
   have q2 := hD6.bx.cell 2 _ rfl
   have qf2 := hD6.bx.free 2
   have q3 := hD6.bx.cell 3 _ rfl
   have qf3 := hD6.bx.free 3
   have q4 := hD6.bx.cell 4 _ rfl
   have qf4 := hD6.bx.free 4
   have q5 := hD6.bx.cell 5 _ rfl
   have qf5 := hD6.bx.free 5
   have q6 := hD6.bx.cell 6 _ rfl
   have qf6 := hD6.bx.free 6
   go_wp2_with fail
   go_meet
   exact ⟨rfl, ⟨3, ⟨#[]⟩, ⟨#[]⟩, 0, fu, ft, its⟩, .slice fa its.length fc, hD6.put hF hrb ⟨3, ⟨#[]⟩, ⟨#[]⟩, 0, fu, ft, its⟩ (.slice fa its.length fc) ⟨(by show (0 : Nat) <= 3; omega), (by show (0 : Nat) <= 1; omega), hf1, hf2, hf3, hf4⟩ (hf5.base_mono (by omega))⟩
  ·go_wp2_with fail
   refine wp_region_T (fun _ => True) (fun _ => True) 8 (by kernel_rfl) 9 rfl ?_
   refine wA 7 [1, 5] ⟨trivial, fun _ => trivial⟩ ?_
   simp only [pick, List.filterMap_cons, List.filterMap_nil, List.getElem?_cons_zero, List.getElem?_cons_succ]
   refine wS (.pointer (some ⟨rb, 0, none⟩)) (fun w hw => by go_simp) ?_
   refine wS (.pointer (some ⟨rb, 0, none⟩)) (fun w hw => by go_simp) ?_
   refine wpIf_nil (fun hS => ?_)
   clear hS
   refine wpAnyT_flo (fun i => decide (i < 8)) (by kernel_rfl) (by kernel_rfl) 1 (fun L a wr => ∃ (c : Nat -> Bool) (s : Nat -> Value), L = #[c 0, true, c 2, c 3, c 4, true, c 6, c 7, false] /\ a = { tmps := #[.pointer (some ⟨rb, 0, none⟩), undef, .pointer (some ⟨w.heap.size, 0, none⟩), .pointer (some ⟨F, 0, none⟩), .pointer (some ⟨rb, 0, none⟩), .int .i64 k, .int .i64 (4 + k), .pointer (some ⟨rb, 0, none⟩), .string u, .slice (some ⟨w2.heap.size, 0, none⟩) 4 4, .pointer (some ⟨rb, 0, none⟩), .int .i64 (x : Int), .pointer (some ⟨w2.heap.size, x, none⟩), .string t, .agg #[.int .i64 (4 + k), .string u, .string t, .int .i64 0, .string ⟨#[]⟩, .string ⟨#[]⟩, .slice none 0 0], .pointer (some ⟨rb, 0, none⟩), .int .i64 4, .bool false, .bool false, .bool false, undef, undef, undef, .bool false, .bool false, .bool false, undef, undef, undef, .bool true, .bool true, sl c s 0, .pointer (some ⟨rb, 0, none⟩), sl c s 2, sl c s 3, sl c s 4, .pointer (some ⟨rb, 0, none⟩), sl c s 6, sl c s 7, undef, undef, undef, undef, undef, undef, undef, undef, undef, undef, undef, undef], defers := [] } /\ FloS (opP rb) (fun wr => OpDr base rb cv zs w F wr o xv) c s wr) ?_ ?_ ?_ 6 _ _ _ ?_ ?_
   ·rintro L a wr ⟨c, s, rfl, _, _⟩
    rfl
   ·rintro L a wr i oi ⟨c, s, rfl, rfl, hF'⟩ ho hfl hL hdep
    have hi : i < 8 := of_decide_eq_true hfl
    have hD := hF'.fr
    have hF2 := hF
    clear hF
    have hF := hF'
    clear hF'
    rcases (show i = 0 \/ i = 1 \/ i = 2 \/ i = 3 \/ i = 4 \/ i = 5 \/ i = 6 \/ i = 7 by omega) with rfl | rfl | rfl | rfl | rfl | rfl | rfl | rfl
    ·have ho' := Option.some.inj ho
     subst ho'
     refine ⟨by kernel_rfl, ?_⟩
     go_simp
     exact ⟨up c 0 true, by simp [up], up s 0 (.slice (some ⟨wr.heap.size, 0, none⟩) 3 3), by simp [up, sl], hF.step 0 (.slice (some ⟨wr.heap.size, 0, none⟩) 3 3) _ (hD.grow hF2 hrb (hD.rd.alloc _) (World.grownBy_alloc wr _ (some rb))) (opP_keep (fun g cs t hne hb => hb.keepG (World.grownBy_alloc wr _ (some rb)) hne)) ⟨wr.heap.size, rfl, by have := hD.rd.lt; omega, Box.new wr kinds3 2⟩⟩
    ·cases hL
    ·have ho' := Option.some.inj ho
     subst ho'
     refine ⟨by kernel_rfl, ?_⟩
     go_simp
     refine (below_any 3 base rb cv zs _ hD.rd (by omega) (by omega)).mono ?_
     rintro e w6 ⟨y, rfl, hy0, hy1, hr6, hg6⟩
     go_simp
     exact ⟨up c 2 true, by simp [up], up s 2 (.int .i64 y), by simp [up, sl], hF.step 2 (.int .i64 y) _ (hD.grow hF2 hrb hr6 hg6) (opP_keep (fun g cs t hne hb => hb.keepG hg6 hne)) ⟨y.toNat, by rw [Int.toNat_of_nonneg hy0], by omega⟩⟩
    ·have ho' := Option.some.inj ho
     subst ho'
     have h0 : c 0 = true := hdep ⟨0, .data⟩ (by simp) rfl
     have h2 : c 2 = true := hdep ⟨2, .data⟩ (by simp) rfl
     refine ⟨by kernel_rfl, ?_⟩
     obtain ⟨g, e0, hg1, hg2⟩ := hF.k 0 h0
     obtain ⟨x, e2, hx⟩ := hF.k 2 h2
     have hx1 : (x : Int) < 3 := by omega
     have hx0 : (0 : Int) <= (x : Int) := by omega
     rw [sl_on h0, sl_on h2, e0, e2]
     go_simp
     exact ⟨up c 3 true, by simp [up, h0, h2, e0, e2], up s 3 (.pointer (some ⟨g, x, none⟩)), by simp [up, sl, h0, h2, e0, e2], hF.step 3 (.pointer (some ⟨g, x, none⟩)) _ hD (fun j u h => h) ⟨g, x, rfl, hx, hg1, hg2⟩⟩
    ·have ho' := Option.some.inj ho
     subst ho'
     have h3 : c 3 = true := hdep ⟨3, .data⟩ (by simp) rfl
     refine ⟨by kernel_rfl, ?_⟩
     obtain ⟨g, x, e3, hx, hg1, hg2⟩ := hF.k 3 h3
     rw [sl_on h3, e3]
     have hc : ∃ n : Int, kinds3[x]? = some (.int .i64 n) := by
      rcases (show x = 0 \/ x = 1 \/ x = 2 by omega) with rfl | rfl | rfl
      all_goals exact ⟨_, rfl⟩
     obtain ⟨n, hc1⟩ := hc
     have hcell := cell_of_cells (i := x) hg2 hc1
     go_simp
     exact ⟨up c 4 true, by simp [up, h3, e3], up s 4 (.int .i64 n), by simp [up, sl, h3, e3], hF.step 4 (.int .i64 n) _ hD (fun j u h => h) ⟨n, rfl⟩⟩
    ·cases hL
    ·have ho' := Option.some.inj ho
     subst ho'
     refine ⟨by kernel_rfl, ?_⟩
     go_simp
     refine (url_any base rb cv zs _ hD.rd).mono ?_
     rintro e w6 ⟨y, rfl, hy, hr6, hg6⟩
     go_simp
     exact ⟨up c 6 true, by simp [up], up s 6 (.string y), by simp [up, sl], hF.step 6 (.string y) _ (hD.grow hF2 hrb hr6 hg6) (opP_keep (fun g cs t hne hb => hb.keepG hg6 hne)) ⟨y, rfl, hy⟩⟩
    ·have ho' := Option.some.inj ho
     subst ho'
     have h4 : c 4 = true := hdep ⟨4, .data⟩ (by simp) rfl
     have h6 : c 6 = true := hdep ⟨6, .data⟩ (by simp) rfl
     refine ⟨by kernel_rfl, ?_⟩
     obtain ⟨n, e4⟩ := hF.k 4 h4
     obtain ⟨y, e6, hy⟩ := hF.k 6 h6
     rw [sl_on h4, sl_on h6, e4, e6]
     go_simp
     exact ⟨up c 7 true, by simp [up, h4, h6, e4, e6], up s 7 (opV ⟨n, y, ⟨#[]⟩, 0, ⟨#[]⟩, ⟨#[]⟩, []⟩ (.slice none 0 0)), by simp [up, sl, h4, h6, e4, e6], hF.step 7 (opV ⟨n, y, ⟨#[]⟩, 0, ⟨#[]⟩, ⟨#[]⟩, []⟩ (.slice none 0 0)) _ hD (fun j u h => h) ⟨n, y, rfl, hy⟩⟩
   ·rintro L a wr ⟨c, s, rfl, rfl, hF'⟩ hall
    have h0 : c 0 = true := hall 0 (by decide) rfl
    have h2 : c 2 = true := hall 2 (by decide) rfl
    have h3 : c 3 = true := hall 3 (by decide) rfl
    have h4 : c 4 = true := hall 4 (by decide) rfl
    have h6 : c 6 = true := hall 6 (by decide) rfl
    have h7 : c 7 = true := hall 7 (by decide) rfl
    obtain ⟨n, y, e7, hy⟩ := hF'.k 7 h7
    have hD6 := hF'.fr
    rw [h0, h2, h3, h4, h6, h7, sl_on h7, e7]
    clear hall hF' h0 h2 h3 h4 h6 h7 e7
    generalize sl c s 0 = s0
    generalize sl c s 2 = s2
    generalize sl c s 3 = s3
    generalize sl c s 4 = s4
    generalize sl c s 6 = s6
    have q0 := hD6.bx.cell 0 _ rfl
    have qf0 := hD6.bx.free 0
    have q1 := hD6.bx.cell 1 _ rfl
    have qf1 := hD6.bx.free 1
    have q2 := hD6.bx.cell 2 _ rfl
    have qf2 := hD6.bx.free 2
    have q3 := hD6.bx.cell 3 _ rfl
    have qf3 := hD6.bx.free 3
    have q4 := hD6.bx.cell 4 _ rfl
    have qf4 := hD6.bx.free 4
    have q5 := hD6.bx.cell 5 _ rfl
    have qf5 := hD6.bx.free 5
    have q6 := hD6.bx.cell 6 _ rfl
    have qf6 := hD6.bx.free 6
    refine wpAnyT_one 8 0 (by kernel_rfl) rfl (by kernel_rfl) ?_
    intro K hK
    go_simp
    refine hK _ _ ⟨trivial, fun _ => trivial⟩ (fun hS => ?_)
    clear hK K hS
    refine wpAnyT_over (by kernel_rfl) ?_
    go_wp2_with fail
    go_meet
    exact ⟨rfl, ⟨n, y, ⟨#[]⟩, 0, ⟨#[]⟩, ⟨#[]⟩, []⟩, .slice none 0 0, hD6.put hF hrb ⟨n, y, ⟨#[]⟩, 0, ⟨#[]⟩, ⟨#[]⟩, []⟩ (.slice none 0 0) ⟨hy, (by show (0 : Nat) <= 1; omega), (by show (0 : Nat) <= 3; omega), (by show (0 : Nat) <= 8; omega), by simp, by simp⟩ (OwnR.nil _ _ _)⟩
   ·exact ⟨fun _ => false, fun _ => undef, rfl, rfl, hD.grow hF hrb (hD.rd.drewN 1) (grown_drewN (World.grownBy.refl w5 (some rb)) 1), fun i hi => by cases hi⟩
   ·decide
  ·go_wp2_with fail
   refine (below_any 9 base rb cv zs _ hD.rd (by omega) (by omega)).mono ?_
   rintro e w6 ⟨d, rfl, hd0, hd1, hr6, hg6⟩
   have hD6 := hD.grow hF hrb hr6 hg6
   have hdw : IntKind.i64.wrap (20000 + d) = 20000 + d := IntWalk.i64_in _ (by omega)
   have q0 := hD6.bx.cell 0 _ rfl
   have qf0 := hD6.bx.free 0
   have q1 := hD6.bx.cell 1 _ rfl
   have qf1 := hD6.bx.free 1
   have q2 := hD6.bx.cell 2 _ rfl
   have qf2 := hD6.bx.free 2
   have q3 := hD6.bx.cell 3 _ rfl
   have qf3 := hD6.bx.free 3
   have q4 := hD6.bx.cell 4 _ rfl
   have qf4 := hD6.bx.free 4
   have q5 := hD6.bx.cell 5 _ rfl
   have qf5 := hD6.bx.free 5
   have q6 := hD6.bx.cell 6 _ rfl
   have qf6 := hD6.bx.free 6
   go_wp2_with fail
   go_meet
   exact ⟨rfl, ⟨9, ⟨#[]⟩, ⟨#[]⟩, 20000 + d, ⟨#[]⟩, ⟨#[]⟩, []⟩, .slice none 0 0, hD6.put hF hrb ⟨9, ⟨#[]⟩, ⟨#[]⟩, 20000 + d, ⟨#[]⟩, ⟨#[]⟩, []⟩ (.slice none 0 0) ⟨(by show (0 : Nat) <= 3; omega), (by show (0 : Nat) <= 1; omega), (by show (0 : Nat) <= 3; omega), (by show (0 : Nat) <= 8; omega), by simp, by simp⟩ (OwnR.nil _ _ _)⟩
  ·go_wp2_with fail
   go_meet
   exact ⟨rfl, _, _, hD⟩
 case rest =>
  obtain ⟨rfl, o, xv, hD⟩ := hcut
  go_wp2_with fail
  refine (once_any 40 base rb cv zs _ hD.rd (by omega) (by omega)).mono ?_
  rintro e w6 ⟨b, rfl, hr6, hg6⟩
  have hD6 := hD.grow hF hrb hr6 hg6
  clear hD hg6 hr6
  cases b with
  | false =>
   obtain ⟨xa, xc, rfl⟩ := hD6.own.slice
   have q0 := hD6.bx.cell 0 _ rfl
   have qf0 := hD6.bx.free 0
   have q1 := hD6.bx.cell 1 _ rfl
   have qf1 := hD6.bx.free 1
   have q2 := hD6.bx.cell 2 _ rfl
   have qf2 := hD6.bx.free 2
   have q3 := hD6.bx.cell 3 _ rfl
   have qf3 := hD6.bx.free 3
   have q4 := hD6.bx.cell 4 _ rfl
   have qf4 := hD6.bx.free 4
   have q5 := hD6.bx.cell 5 _ rfl
   have qf5 := hD6.bx.free 5
   have q6 := hD6.bx.cell 6 _ rfl
   have qf6 := hD6.bx.free 6
   have z0 := hD6.z.cell 0 _ rfl
   have zf0 := hD6.z.free 0
   have z1 := hD6.z.cell 1 _ rfl
   have zf1 := hD6.z.free 1
   have z2 := hD6.z.cell 2 _ rfl
   have zf2 := hD6.z.free 2
   have z3 := hD6.z.cell 3 _ rfl
   have zf3 := hD6.z.free 3
   have z4 := hD6.z.cell 4 _ rfl
   have zf4 := hD6.z.free 4
   have z5 := hD6.z.cell 5 _ rfl
   have zf5 := hD6.z.free 5
   have z6 := hD6.z.cell 6 _ rfl
   have zf6 := hD6.z.free 6
   go_wp2_with fail
   have hb := below7 w6 w.heap.size w.heap.size (Nat.le_refl _) (.int .i64 o.k) (.string o.u) (.string o.i) (.int .i64 o.d) (.string o.fu) (.string o.ft) (.slice xa o.its.length xc)
   have r3 := hD6.rd.below hb hrb
   have g3 := gw_below hD6.g hb (Nat.le_refl _)
   have o3 := hD6.own.other7 w.heap.size (by omega) (.int .i64 o.k) (.string o.u) (.string o.i) (.int .i64 o.d) (.string o.fu) (.string o.ft) (.slice xa o.its.length xc)
   have b3 := hD6.z.put7 (.int .i64 o.k) (.string o.u) (.string o.i) (.int .i64 o.d) (.string o.fu) (.string o.ft) (.slice xa o.its.length xc)
   have d0 := cell_of_cells (i := 0) b3 rfl
   have d1 := cell_of_cells (i := 1) b3 rfl
   have d2 := cell_of_cells (i := 2) b3 rfl
   have d3 := cell_of_cells (i := 3) b3 rfl
   have d4 := cell_of_cells (i := 4) b3 rfl
   have d5 := cell_of_cells (i := 5) b3 rfl
   have d6 := cell_of_cells (i := 6) b3 rfl
   exact bodyPost_ret (v := opV o (.slice xa o.its.length xc)) (by simp [results, Tryz.results70, go_sem, d0, d1, d2, d3, d4, d5, d6]) rfl ⟨o, _, rfl, hD6.sm, o3.base_mono (by omega), r3, g3⟩
  | true =>
   go_wp2_with fail
   refine (off_any 1 9 base rb cv zs _ hD6.rd (by omega) (by omega) (by omega)).mono ?_
   rintro e w7 ⟨n, rfl, hn, hr7, hg7⟩
   have hD7 := hD6.grow hF hrb hr7 hg7
   clear hD6 hr7 hg7
   obtain ⟨ok, ou, oi, od, ofu, oft, oits⟩ := o
   obtain ⟨xa, xc, hxa⟩ := hD7.own.slice
   simp only at hxa
   subst hxa
   have hfb := hD7.bx.free 0
   have hfc := hD7.bx.cell 0 _ rfl
   have hD8 := hD7.setK hF hrb n
   have q0 := hD8.bx.cell 0 _ rfl
   have qf0 := hD8.bx.free 0
   have q1 := hD8.bx.cell 1 _ rfl
   have qf1 := hD8.bx.free 1
   have q2 := hD8.bx.cell 2 _ rfl
   have qf2 := hD8.bx.free 2
   have q3 := hD8.bx.cell 3 _ rfl
   have qf3 := hD8.bx.free 3
   have q4 := hD8.bx.cell 4 _ rfl
   have qf4 := hD8.bx.free 4
   have q5 := hD8.bx.cell 5 _ rfl
   have qf5 := hD8.bx.free 5
   have q6 := hD8.bx.cell 6 _ rfl
   have qf6 := hD8.bx.free 6
   have z0 := hD8.z.cell 0 _ rfl
   have zf0 := hD8.z.free 0
   have z1 := hD8.z.cell 1 _ rfl
   have zf1 := hD8.z.free 1
   have z2 := hD8.z.cell 2 _ rfl
   have zf2 := hD8.z.free 2
   have z3 := hD8.z.cell 3 _ rfl
   have zf3 := hD8.z.free 3
   have z4 := hD8.z.cell 4 _ rfl
   have zf4 := hD8.z.free 4
   have z5 := hD8.z.cell 5 _ rfl
   have zf5 := hD8.z.free 5
   have z6 := hD8.z.cell 6 _ rfl
   have zf6 := hD8.z.free 6
   go_wp2_with fail
   have hb := below7 (w7.setCell ⟨F, 0, none⟩ (.int .i64 n)) w.heap.size w.heap.size (Nat.le_refl _) (.int .i64 n) (.string ou) (.string oi) (.int .i64 od) (.string ofu) (.string oft) (.slice xa oits.length xc)
   have r3 := hD8.rd.below hb hrb
   have g3 := gw_below hD8.g hb (Nat.le_refl _)
   have o3 := hD8.own.other7 w.heap.size (by omega) (.int .i64 n) (.string ou) (.string oi) (.int .i64 od) (.string ofu) (.string oft) (.slice xa oits.length xc)
   have b3 := hD8.z.put7 (.int .i64 n) (.string ou) (.string oi) (.int .i64 od) (.string ofu) (.string oft) (.slice xa oits.length xc)
   have d0 := cell_of_cells (i := 0) b3 rfl
   have d1 := cell_of_cells (i := 1) b3 rfl
   have d2 := cell_of_cells (i := 2) b3 rfl
   have d3 := cell_of_cells (i := 3) b3 rfl
   have d4 := cell_of_cells (i := 4) b3 rfl
   have d5 := cell_of_cells (i := 5) b3 rfl
   have d6 := cell_of_cells (i := 6) b3 rfl
   exact bodyPost_ret (v := opV (⟨n, ou, oi, od, ofu, oft, oits⟩ : OpD) (.slice xa oits.length xc)) (by simp [results, Tryz.results70, go_sem, d0, d1, d2, d3, d4, d5, d6]) rfl ⟨(⟨n, ou, oi, od, ofu, oft, oits⟩ : OpD), _, rfl, hD8.sm, o3.base_mono (by omega), r3, g3⟩
end Go.Proofs.YtffkakpbelknaaaGreatDoor

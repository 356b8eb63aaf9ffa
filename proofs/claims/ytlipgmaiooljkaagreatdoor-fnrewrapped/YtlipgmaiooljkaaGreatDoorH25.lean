/- Joined: W5d. -/
import Derived.Test.YtlipgmaiooljkaaGreatDoorH24
/- W5d -/
namespace Go.Proofs.YtlipgmaiooljkaaGreatDoor
open Go.ChangeShapes Go.WideShapes Go.ChangeAt Go.RowKit Go.Shelf
set_option linter.unusedVariables false

attribute [local go_sem] Oper.semAt_some

theorem OwnFrom.mono {β : Type} {B B' : Nat} {I : β → World → Prop} (h : OwnFrom B I) (hB : B ≤ B') : OwnFrom B' I := fun s W W' row hs hg hr => h s W W' row hs hg (fun r e => ⟨Nat.le_trans hB (hr r e).1, (hr r e).2⟩)
theorem ownFrom_comp {β γ : Type} {B : Nat} {I : β → World → Prop} (h : OwnFrom B I) (f : γ → β) : OwnFrom B (fun s W => I (f s) W) := fun s W W' row hs hg hr => h (f s) W W' row hs hg hr

set_option maxRecDepth 100000 in
set_option maxHeartbeats 2000000 in
theorem beWords1_thru (Bn : Nat) (s : ByteArray) (hs : s.size ≤ 1000000000) (w0 : World) (hc : Boxed w0 Bn 9 (.string s)) :
    SeqThru Fence.wide 6 Tryz.prog 187 #[.pointer (some ⟨Bn, 0, none⟩)] (fun x : PW (s.size / 4) => #[Value.int .i64 (x.1.1 : Int), Value.int .u32 x.1.2]) (fun xs => xs = (pws s (s.size / 4) (s.size / 4)).map rvP) (s.size / 4) w0 := by
  intro l J W hW hl hJ hY h0
  have hBW : Boxed W Bn 9 (.string s) := (hW.block Bn hc.lt).trans hc
  have hBc := (hBW.alloc (.cells #[.func (.yield l) #[] #[]] 180)).cell
  have hmix : Tryz.prog.follows .mixedOrders = true := by kernel_rfl
  have hF1 : Fence.wide.fn 154 := trivial
  have hF2 : Fence.wide.fn 172 := trivial
  have hF3 : Fence.wide.fn 183 := trivial
  refine callsIn_of_wp_marks Tryz.func187 rfl trivial ?_ rfl
  simp only [Tryz.ntmps187, List.size_toArray, List.length_cons, List.length_nil, Nat.reduceAdd, Nat.reduceSub, Array.replicate_succ, Array.replicate_zero, List.push_toArray, List.append_toArray, List.nil_append, List.cons_append]
  gi_wp2_with fail
  refine ((callsIn_wide (n := 5)).2 (leWords_any s _)).mono ?_
  rintro e w' ⟨rfl, rfl⟩
  gi_wp2
  have bY := Boxed.new W 180 (.func (.yield l) #[] #[])
  have bN := Boxed.new (W.alloc (.cells #[.func (.yield l) #[] #[]] 180)) 9 (.string s)
  rw [World.size_alloc] at bN
  have bY2 := bY.alloc (.cells #[.string s] 9)
  have hJ0 : J [] ((W.alloc (.cells #[.func (.yield l) #[] #[]] 180)).alloc (.cells #[.string s] 9)) := hJ.alloc _ (hJ.alloc _ h0)
  obtain ⟨V0, hV0⟩ : ∃ V0, V0 = (W.alloc (.cells #[.func (.yield l) #[] #[]] 180)).alloc (.cells #[.string s] 9) := ⟨_, rfl⟩
  have hVs : V0.heap.size = W.heap.size + 2 := by rw [hV0]; simp
  rw [← hV0] at bN bY2 hJ0 ⊢
  clear bY hBc hV0
  refine wpIn_rangeFunc_ownG rfl (by decide) (gf := 172) (lb := #[.pointer (some ⟨W.heap.size + 1, 0, none⟩)]) rfl trivial (enters_of Tryz.func172 (by kernel_rfl) rfl)
    (leWords_stops 5 (by decide) (W.heap.size + 1) s hs _ bN) keepB_t (keepB_b (by omega)) (Below.refl _ _) (fun _ => rfl)
    (fun (pre : List (PW (s.size / 4))) V => (J (pre.map rvP) V ∧ Boxed V W.heap.size 180 (.func (.yield l) #[] #[])) ∧ Boxed V (W.heap.size + 1) 9 (.string s))
    (fun _ _ _ => False)
    (OwnFrom.and (OwnFrom.and (OwnFrom.mono (ownFrom_comp hJ (fun pre : List (PW (s.size / 4)) => pre.map rvP)) (by omega)) (Own.from (boxed_own _ _ _) _)) (Own.from (boxed_own _ _ _) _))
    (fun _ _ _ _ _ hs _ _ => hs)
    ⟨⟨hJ0, bY2⟩, bN⟩
    (fun x => { tmps := #[Value.func (Fn.yield l) #[] #[], Value.pointer (some { block := Bn, off := 0 }),
          Value.pointer (some { block := W.heap.size, off := 0 }), .int .i64 (x.1.1 : Int), .int .u32 x.1.2, .string s, .func (.func 172) #[] #[.pointer (some ⟨W.heap.size + 1, 0, none⟩)], .int .i64 (x.1.1 : Int), .int .u32 x.1.2, undef,
          undef, undef, undef, undef, undef], defers := [] }) ?assign ?body ?done ?stop
  case assign =>
    intro l x W K hK
    gi_wp2
    exact hK
  case body =>
    rintro l2 pre x V ⟨⟨hJp, hb1⟩, hb2⟩ hlt
    have hJd : J (pre.map rvP) V.drew := hJ _ V V.drew none hJp ⟨rfl, rfl, rfl, Nat.le_refl _, fun _ _ _ => rfl⟩ (fun r e => by cases e)
    obtain ⟨fn, tmps, assign, body, hy, hR⟩ := hY (pre.map rvP) (rvP x) V.drew hJd (by simpa using hlt)
    have HR2 := Lib.hid (roundAny (l' := l2) (m' := 6 - 1 - 1 - 1) hR)
    dsimp only [rvP] at hy
    have hcy : V.cell? ⟨W.heap.size, 0, none⟩ = some (.func (.yield l) #[] #[]) := hb1.cell
    have hx0 := x.2.2.1
    have hx1 := x.2.2.2
    have HV := Lib.hid (fun w => rev_any x.1.2 w hx0 hx1)
    clear hY hR
    gi_wp2
    gi_region_with_o (first | (gi_at_call 183; refine (CallsIn.inRound l2 (callsIn_wide.2 (HV.out _))).mono ?_; rintro e w' ⟨rfl, rfl⟩) | (refine HR2.out.mono ?_; rintro e W3 ⟨rfl, hJ3, hA3⟩))
    all_goals
      have hA : Above l V W3 := ⟨hA3.size, hA3.same⟩
      have hmap : J ((pre ++ [x]).map rvP) W3 := by rw [List.map_append]; exact hJ3
      gi_wp2
      exact ⟨hA.from (by omega), (hA.same _ _ (by omega) hb2).trans hb2.symm, ⟨hmap, hA.same _ _ (by omega) hb1⟩, hA.same _ _ (by omega) hb2⟩
  case done =>
    rintro D ys Wd hD rfl ⟨⟨hJd, _⟩, _⟩ hK
    gi_wp2
    refine ⟨by simp, .inl ⟨_, _, rfl, run_takeDeferred hK, ?_⟩⟩
    exact ⟨_, results_none rfl _ _ _, ⟨_, rfl⟩, _, rfl, hJ.putObj _ hJd (by omega) hK rfl⟩
  case stop =>
    rintro D c pre W _ _ h _
    exact h.elim
end Go.Proofs.YtlipgmaiooljkaaGreatDoor

/- What a poll is behind an answer (plain); a new poll of both sides. -/
import Derived.Test.YtlipgmaiooljkaaW16a
import Derived.Laws.ResultCell
namespace Go.Proofs.Ytlipgmaiooljkaa
open Go.ChangeShapes Go.WideShapes Go.ChangeAt Go.RowKit
set_option linter.unusedVariables false

def pk0 : PollD := ⟨⟨#[]⟩, ⟨#[]⟩, 0, 0, 0, false⟩
def pnV (u : ByteArray) (n : Int) : PollD := if (nmB u 20 && (decide (0 ≤ n) && decide (n ≤ 1000000000))) = true then ⟨u, ⟨#[]⟩, n, 10, 0, false⟩ else pk0
def pnO (u : ByteArray) (n : Int) : Bool := nmB u 20 && (decide (0 ≤ n) && decide (n ≤ 1000000000))
theorem pnV_true {u : ByteArray} {n : Int} (h : pnO u n = true) : pnV u n = ⟨u, ⟨#[]⟩, n, 10, 0, false⟩ := if_pos h
theorem pnV_false {u : ByteArray} {n : Int} (h : pnO u n = false) : pnV u n = pk0 := if_neg (by unfold pnO at h; rw [h]; simp)
theorem mkB_nil : mkB ⟨#[]⟩ = true := by unfold mkB; rw [(str_empty _).2 rfl]; rfl
theorem pkB_new (u : ByteArray) (n : Int) : pkB ⟨u, ⟨#[]⟩, n, 10, 0, false⟩ = pnO u n := by
  unfold pkB pnO
  rw [mkB_nil, pnB_eq]
  simp

theorem Try.infPk : (Try.prog.info? 23).map (·.size) = some 6 := by kernel_rfl
theorem results_pk {fn : Func} {p : Tmp} (h : fn.results = #[.cell p 23]) (tmps : Array Value) (w : World) (g : Nat) (cs : Array Value) (hz : cs.size = 6)
    (hp : tmps.getD p undef = .pointer (some ⟨g, 0, none⟩)) (hA : Box w g cs 23) : (results fn tmps).run Try.prog w = .ok (.agg cs) w :=
  results_cell_row h tmps w g _ _ _ _ hp hA Try.underlying23 rfl (by rw [hz]; exact Try.infPk)
theorem results_pk2 {fn : Func} {p u : Tmp} (h : fn.results = #[.cell p 23, .tmp u]) (tmps : Array Value) (w : World) (g : Nat) (cs : Array Value) (v : Value) (hz : cs.size = 6)
    (hp : tmps.getD p undef = .pointer (some ⟨g, 0, none⟩)) (hu : tmps.getD u undef = v) (hA : Box w g cs 23) : (results fn tmps).run Try.prog w = .ok (.tuple #[.agg cs, v]) w := by
  rw [results_cell_tmp h, hp, hu]
  have := run_loadVar_row (P := Try.prog) w g _ 23 _ _ _ hA Try.underlying23 rfl (by rw [hz]; exact Try.infPk)
  simp [asAddr, this, Result.andThen]

theorem Box.putL16 {g : Nat} {t : TypeId} (us : List Value) : ∀ (o : Nat) (w : World) (xs : List Value), Box w g xs.toArray t → Box (putRow g o us w) g (setL o us xs).toArray t := by
  induction us with
  | nil => intro o w xs h; exact h
  | cons u us ih =>
    intro o w xs h
    refine ih (o + 1) _ _ ?_
    have := h.set o u
    rw [List.setIfInBounds_toArray] at this
    exact this
theorem Box.put6 {w : World} {g : Nat} {t : TypeId} {cs : Array Value} (h : Box w g cs t) (hz : cs.size = 6) (a b c d e f : Value) :
    Box ((((((w.setCell ⟨g, 0, none⟩ a).setCell ⟨g, 1, none⟩ b).setCell ⟨g, 2, none⟩ c).setCell ⟨g, 3, none⟩ d).setCell ⟨g, 4, none⟩ e).setCell ⟨g, 5, none⟩ f) g #[a, b, c, d, e, f] t := by
  obtain ⟨xs⟩ := cs
  have hl : xs.length = 6 := by simpa using hz
  have := Box.putL16 [a, b, c, d, e, f] 0 w xs h
  rw [setL_eq _ 0 xs (by simp [hl]), List.take_zero, List.nil_append, List.drop_of_length_le (by simp [hl]), List.append_nil] at this
  exact this
theorem below6 (w : World) (B g : Nat) (hB : B ≤ g) (a b c d e f : Value) : Below B w ((((((w.setCell ⟨g, 0, none⟩ a).setCell ⟨g, 1, none⟩ b).setCell ⟨g, 2, none⟩ c).setCell ⟨g, 3, none⟩ d).setCell ⟨g, 4, none⟩ e).setCell ⟨g, 5, none⟩ f) :=
  ((((((Below.refl B w).setCell (p := ⟨g, 0, none⟩) hB a).setCell (p := ⟨g, 1, none⟩) hB b).setCell (p := ⟨g, 2, none⟩) hB c).setCell (p := ⟨g, 3, none⟩) hB d).setCell (p := ⟨g, 4, none⟩) hB e).setCell (p := ⟨g, 5, none⟩) hB f
abbrev pk0C : Array Value := #[.string ⟨#[]⟩, .string ⟨#[]⟩, .int .i64 0, .int .i64 0, .int .i64 0, .bool false]

set_option maxRecDepth 100000 in
set_option maxHeartbeats 1600000 in
theorem specPollNew_any (u : ByteArray) (n : Int) (w : World) (hu : u.size ≤ maxLen) :
    Calls Try.prog 12 #[.string u, .int .i64 n] w fun e w' => e = .returned (.tuple #[pkV (pnV u n), .bool (pnO u n)]) ∧ Below w.heap.size w w' := by
  have HN := Lib.hid (fun w => l8Name_any u 20 w hu)
  have HD := Lib.hid (fun w => l16Time_any n w)
  have HB := Lib.hid (fun cs => (Below.refl w.heap.size w).alloc (Nat.le_refl _) (.cells cs 23))
  have HZ := Lib.hid (fun h => pnV_true (u := u) (n := n) h)
  have HF := Lib.hid (fun h => pnV_false (u := u) (n := n) h)
  have HO : Hid (pnO u n = (nmB u 20 && (decide (0 ≤ n) && decide (n ≤ 1000000000)))) := Lib.hid rfl
  rw [HO.out] at HZ HF ⊢
  generalize nmB u 20 = A at HN HZ HF ⊢
  generalize (decide (0 ≤ n) && decide (n ≤ 1000000000)) = C at HD HZ HF ⊢
  clear HO hu
  go_enter Try.func12, Try.ntmps12
  go_wp2_with fail
  refine (HN.out _).mono ?_
  rintro e w1 ⟨rfl, rfl⟩
  cases A with
  | false =>
    have HV := Lib.hid (HF.out rfl)
    clear HZ HF HD HN
    go_wp2
    refine bodyPost_ret (results_pk2 rfl _ _ _ _ _ rfl rfl rfl (Box.new w pk0C 23)) rfl ?_
    exact ⟨by rw [HV.out]; rfl, HB.out _⟩
  | true =>
    go_wp2_with fail
    refine (HD.out _).mono ?_
    rintro e w2 ⟨rfl, rfl⟩
    cases C with
    | false =>
      have HV := Lib.hid (HF.out rfl)
      clear HZ HF HD HN
      go_wp2
      refine bodyPost_ret (results_pk2 rfl _ _ _ _ _ rfl rfl rfl (Box.new w pk0C 23)) rfl ?_
      exact ⟨by rw [HV.out]; rfl, HB.out _⟩
    | true =>
      have HV := Lib.hid (HZ.out rfl)
      clear HZ HF HD HN
      go_wp2
      refine bodyPost_ret (results_pk2 rfl _ _ _ _ _ rfl rfl rfl (Box.new w #[.string u, .string ⟨#[]⟩, .int .i64 n, .int .i64 10, .int .i64 0, .bool false] 23)) rfl ?_
      exact ⟨by rw [HV.out]; rfl, HB.out _⟩

set_option maxRecDepth 100000 in
set_option maxHeartbeats 1600000 in
theorem implPollNew_any (u : ByteArray) (n : Int) (w : World) (hu : u.size ≤ maxLen) :
    Calls Try.prog 13 #[.string u, .int .i64 n] w fun e w' => e = .returned (.tuple #[pkV (pnV u n), .bool (pnO u n)]) ∧ Below w.heap.size w w' := by
  have HP := Lib.hid (fun w => implPollOk_any ⟨u, ⟨#[]⟩, n, 10, 0, false⟩ w ⟨hu, by unfold maxLen; exact Nat.zero_le _⟩)
  rw [pkB_new] at HP
  have HZ := Lib.hid (fun h => pnV_true (u := u) (n := n) h)
  have HF := Lib.hid (fun h => pnV_false (u := u) (n := n) h)
  generalize pnO u n = O at HP HZ HF ⊢
  clear hu
  obtain ⟨W2, hW2⟩ : ∃ W2, W2 = (w.alloc (.cells pk0C 23)).alloc (.cells #[.string u, .string ⟨#[]⟩, .int .i64 n, .int .i64 10, .int .i64 0, .bool false] 23) := ⟨_, rfl⟩
  have hB0 : Below w.heap.size w W2 := by rw [hW2]; exact ((Below.refl _ _).alloc (Nat.le_refl _) _).alloc (by simp) _
  have hx0 : Box W2 w.heap.size pk0C 23 := by rw [hW2]; exact (Box.new w _ _).alloc _
  have hy0 : Box W2 (w.heap.size + 1) #[.string u, .string ⟨#[]⟩, .int .i64 n, .int .i64 10, .int .i64 0, .bool false] 23 := by
    rw [hW2]
    have := Box.new (w.alloc (.cells pk0C 23)) #[.string u, .string ⟨#[]⟩, .int .i64 n, .int .i64 10, .int .i64 0, .bool false] 23
    simpa using this
  go_enter Try.func13, Try.ntmps13
  go_wp2_with fail
  rw [← hW2]
  clear hW2
  refine (HP.out _).mono ?_
  rintro e w1 ⟨rfl, hb1⟩
  have hx1 := hx0.keep hb1 hx0.lt
  have hy1 := hy0.keep hb1 hy0.lt
  have hB1 := hB0.trans (hb1.mono hB0.size)
  clear hb1 hB0 HP
  have x0 := hx1.cell 0 _ rfl
  have x1 := hx1.cell 1 _ rfl
  have x2 := hx1.cell 2 _ rfl
  have x3 := hx1.cell 3 _ rfl
  have x4 := hx1.cell 4 _ rfl
  have x5 := hx1.cell 5 _ rfl
  have f0 := hx1.free 0
  have f1 := hx1.free 1
  have f2 := hx1.free 2
  have f3 := hx1.free 3
  have f4 := hx1.free 4
  have f5 := hx1.free 5
  cases O with
  | false =>
    have HV := Lib.hid (HF.out rfl)
    clear HZ HF hy1 hy0 hx0
    go_wp2
    refine bodyPost_ret (results_pk2 rfl _ _ _ _ _ rfl rfl rfl (hx1.put6 rfl _ _ _ _ _ _)) rfl ?_
    exact ⟨by rw [HV.out]; rfl, hB1.trans (below6 _ _ _ (Nat.le_refl _) _ _ _ _ _ _)⟩
  | true =>
    have HV := Lib.hid (HZ.out rfl)
    have y0 := hy1.cell 0 _ rfl
    have y1 := hy1.cell 1 _ rfl
    have y2 := hy1.cell 2 _ rfl
    have y3 := hy1.cell 3 _ rfl
    have y4 := hy1.cell 4 _ rfl
    have y5 := hy1.cell 5 _ rfl
    clear HZ HF hy0 hx0
    go_wp2
    refine bodyPost_ret (results_pk2 rfl _ _ _ _ _ rfl rfl rfl (hx1.put6 rfl _ _ _ _ _ _)) rfl ?_
    exact ⟨by rw [HV.out]; rfl, hB1.trans (below6 _ _ _ (Nat.le_refl _) _ _ _ _ _ _)⟩
end Go.Proofs.Ytlipgmaiooljkaa

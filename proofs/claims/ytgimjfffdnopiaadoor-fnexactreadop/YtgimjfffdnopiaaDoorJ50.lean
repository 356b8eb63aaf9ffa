/- Joined: W11e. -/
import Derived.Test.YtgimjfffdnopiaaDoorJ49
/- W11e -/
namespace Go.Proofs.YtgimjfffdnopiaaDoor
open Go.ChangeShapes Go.WideShapes Go.ChangeAt Go.RowKit Go.Shelf
set_option linter.unusedVariables false
set_option linter.unusedSimpArgs false

theorem Tryd.infOpR : (Tryd.prog.info? 44).map (·.size) = some 7 := by kernel_rfl
theorem put7o (w : World) (gg : Nat) (a b c d e f h : Value) {cs : Array Value} {t : TypeId} (hx : Box w gg cs t) (hz : cs.size = 7) : Box (((((((w.setCell ⟨gg, 0, none⟩ a).setCell ⟨gg, 1, none⟩ b).setCell ⟨gg, 2, none⟩ c).setCell ⟨gg, 3, none⟩ d).setCell ⟨gg, 4, none⟩ e).setCell ⟨gg, 5, none⟩ f).setCell ⟨gg, 6, none⟩ h) gg #[a, b, c, d, e, f, h] t := by
  obtain ⟨xs, rfl, hl⟩ := arrS hz
  exact Box.fillAll (us := [a, b, c, d, e, f, h]) hx hl.symm
theorem below7o (w : World) (B gg : Nat) (hB : B ≤ gg) (a b c d e f h : Value) : Below B w (((((((w.setCell ⟨gg, 0, none⟩ a).setCell ⟨gg, 1, none⟩ b).setCell ⟨gg, 2, none⟩ c).setCell ⟨gg, 3, none⟩ d).setCell ⟨gg, 4, none⟩ e).setCell ⟨gg, 5, none⟩ f).setCell ⟨gg, 6, none⟩ h) := below_putRow gg B hB [a, b, c, d, e, f, h] 0 w
theorem results_op1 {fn : Func} {p : Tmp} (h : fn.results = #[.cell p 44]) (tmps : Array Value) (w : World) (g : Nat) (k : Int) (u i : ByteArray) (d : Int) (fu ft : ByteArray) (x : Value)
    (hp : tmps.getD p undef = .pointer (some ⟨g, 0, none⟩)) (hA : Box w g #[.int .i64 k, .string u, .string i, .int .i64 d, .string fu, .string ft, x] 44) : (results fn tmps).run Tryd.prog w = .ok (opV ⟨k, u, i, d, fu, ft, []⟩ x) w :=
  results_cell_row h tmps w g _ _ _ _ hp hA Tryd.underlying44 rfl Tryd.infOpR
theorem results_op2 {fn : Func} {p q : Tmp} (h : fn.results = #[.cell p 44, .tmp q]) (tmps : Array Value) (w : World) (g : Nat) (k : Int) (u i : ByteArray) (d : Int) (fu ft : ByteArray) (x b : Value)
    (hp : tmps.getD p undef = .pointer (some ⟨g, 0, none⟩)) (hu : tmps.getD q undef = b) (hA : Box w g #[.int .i64 k, .string u, .string i, .int .i64 d, .string fu, .string ft, x] 44) : (results fn tmps).run Tryd.prog w = .ok (.tuple #[opV ⟨k, u, i, d, fu, ft, []⟩ x, b]) w := by
  have e := run_loadVar_row (P := Tryd.prog) w g _ 44 _ _ _ hA Tryd.underlying44 rfl Tryd.infOpR
  rw [results_cell_tmp h, hp, hu]
  simp [asAddr, e, Result.andThen]
theorem Tryd.mthF (v : Value) (w : World) : (method 291 117 v "loop.example/g00569/impl.op").run Tryd.prog w = .ok (180, v) w := by kernel_rfl
theorem Tryd.mthT (v : Value) (w : World) : (method 291 119 v "loop.example/g00569/impl.op").run Tryd.prog w = .ok (181, v) w := by kernel_rfl
theorem Tryd.mthE (v : Value) (w : World) : (method 291 121 v "loop.example/g00569/impl.op").run Tryd.prog w = .ok (182, v) w := by kernel_rfl
theorem Tryd.mthD (v : Value) (w : World) : (method 291 123 v "loop.example/g00569/impl.op").run Tryd.prog w = .ok (183, v) w := by kernel_rfl
theorem Tryd.asNF (w : World) : (Instr.typeAssert .nilIface 86 117 true).run Tryd.prog w = .ok (.tuple #[.agg #[.string ⟨#[]⟩], .bool false]) w := by kernel_rfl
theorem Tryd.asNT (w : World) : (Instr.typeAssert .nilIface 86 119 true).run Tryd.prog w = .ok (.tuple #[.agg #[.string ⟨#[]⟩, .string ⟨#[]⟩, .slice none 0 0], .bool false]) w := by kernel_rfl
theorem Tryd.asNE (w : World) : (Instr.typeAssert .nilIface 86 121 true).run Tryd.prog w = .ok (.tuple #[.agg #[.string ⟨#[]⟩, .string ⟨#[]⟩], .bool false]) w := by kernel_rfl
theorem Tryd.asND (w : World) : (Instr.typeAssert .nilIface 86 123 true).run Tryd.prog w = .ok (.tuple #[.agg #[.int .i64 0], .bool false]) w := by kernel_rfl

set_option maxRecDepth 100000 in
set_option maxHeartbeats 1600000 in
theorem readDeed_0 (s : ByteArray) (w : World) :
    Calls Tryd.prog 70 #[.nilIface, .string s] w fun e w' => e = .returned (.tuple #[.nilIface, .bool false]) ∧ Below w.heap.size w w' := by
  have e1 := Tryd.asNF
  have e2 := Tryd.asNT
  have e3 := Tryd.asNE
  have e4 := Tryd.asND
  go_enter Tryd.func70, Tryd.ntmps70
  go_wp2
  go_ret2
  exact ⟨rfl, Below.refl _ _⟩

set_option maxRecDepth 100000 in
set_option maxHeartbeats 1600000 in
theorem deedOf_0 (u i : ByteArray) (d : Int) (fu ft : ByteArray) (x : Value) (w : World) :
    Calls Tryd.prog 71 #[.agg #[.int .i64 0, .string u, .string i, .int .i64 d, .string fu, .string ft, x]] w fun e w' => e = .returned .nilIface ∧ Below w.heap.size w w' := by
  have hB0 : Below w.heap.size w (w.alloc (.cells #[.int .i64 0, .string u, .string i, .int .i64 d, .string fu, .string ft, x] 44)) := (Below.refl _ _).alloc (Nat.le_refl _) _
  go_enter Tryd.func71, Tryd.ntmps71
  go_wp2
  go_ret
  exact ⟨rfl, hB0⟩

set_option maxRecDepth 100000 in
set_option maxHeartbeats 1600000 in
theorem opF_any (k : Int) (u : ByteArray) (w : World) :
    Calls Tryd.prog 180 #[.agg #[.string u], .int .i64 k] w fun e w' => e = .returned (.agg #[.int .i64 k, .string u, .string ⟨#[]⟩, .int .i64 0, .string ⟨#[]⟩, .string ⟨#[]⟩, .slice none 0 0]) ∧ Below w.heap.size w w' := by
  have hB0 : Below w.heap.size w ((w.alloc (.cells #[.string u] 117)).alloc (.cells #[.int .i64 k, .string u, .string ⟨#[]⟩, .int .i64 0, .string ⟨#[]⟩, .string ⟨#[]⟩, .slice none 0 0] 44)) := ((Below.refl _ _).alloc (Nat.le_refl _) _).alloc (by simp) _
  have hx : Box ((w.alloc (.cells #[.string u] 117)).alloc (.cells #[.int .i64 k, .string u, .string ⟨#[]⟩, .int .i64 0, .string ⟨#[]⟩, .string ⟨#[]⟩, .slice none 0 0] 44)) (w.heap.size + 1) #[.int .i64 k, .string u, .string ⟨#[]⟩, .int .i64 0, .string ⟨#[]⟩, .string ⟨#[]⟩, .slice none 0 0] 44 := by
    have := Box.new (w.alloc (.cells #[.string u] 117)) #[.int .i64 k, .string u, .string ⟨#[]⟩, .int .i64 0, .string ⟨#[]⟩, .string ⟨#[]⟩, .slice none 0 0] 44
    simpa using this
  go_enter Tryd.func180, Tryd.ntmps180
  go_wp2
  exact bodyPost_ret (results_op1 rfl _ _ _ _ _ _ _ _ _ _ rfl hx) rfl ⟨rfl, hB0⟩

set_option maxRecDepth 100000 in
set_option maxHeartbeats 1600000 in
theorem opT_any (k : Int) (u t : ByteArray) (a : Option Addr) (n c : Nat) (w : World) :
    Calls Tryd.prog 181 #[.agg #[.string u, .string t, .slice a n c], .int .i64 k] w fun e w' => e = .returned (.agg #[.int .i64 k, .string ⟨#[]⟩, .string ⟨#[]⟩, .int .i64 0, .string u, .string t, .slice a n c]) ∧ Below w.heap.size w w' := by
  have hB0 : Below w.heap.size w ((w.alloc (.cells #[.string u, .string t, .slice a n c] 119)).alloc (.cells #[.int .i64 k, .string ⟨#[]⟩, .string ⟨#[]⟩, .int .i64 0, .string u, .string t, .slice a n c] 44)) := ((Below.refl _ _).alloc (Nat.le_refl _) _).alloc (by simp) _
  have hx : Box ((w.alloc (.cells #[.string u, .string t, .slice a n c] 119)).alloc (.cells #[.int .i64 k, .string ⟨#[]⟩, .string ⟨#[]⟩, .int .i64 0, .string u, .string t, .slice a n c] 44)) (w.heap.size + 1) #[.int .i64 k, .string ⟨#[]⟩, .string ⟨#[]⟩, .int .i64 0, .string u, .string t, .slice a n c] 44 := by
    have := Box.new (w.alloc (.cells #[.string u, .string t, .slice a n c] 119)) #[.int .i64 k, .string ⟨#[]⟩, .string ⟨#[]⟩, .int .i64 0, .string u, .string t, .slice a n c] 44
    simpa using this
  go_enter Tryd.func181, Tryd.ntmps181
  go_wp2
  exact bodyPost_ret (results_op1 rfl _ _ _ _ _ _ _ _ _ _ rfl hx) rfl ⟨rfl, hB0⟩

set_option maxRecDepth 100000 in
set_option maxHeartbeats 1600000 in
theorem opE_any (k : Int) (u i : ByteArray) (w : World) :
    Calls Tryd.prog 182 #[.agg #[.string u, .string i], .int .i64 k] w fun e w' => e = .returned (.agg #[.int .i64 k, .string u, .string i, .int .i64 0, .string ⟨#[]⟩, .string ⟨#[]⟩, .slice none 0 0]) ∧ Below w.heap.size w w' := by
  have hB0 : Below w.heap.size w ((w.alloc (.cells #[.string u, .string i] 121)).alloc (.cells #[.int .i64 k, .string u, .string i, .int .i64 0, .string ⟨#[]⟩, .string ⟨#[]⟩, .slice none 0 0] 44)) := ((Below.refl _ _).alloc (Nat.le_refl _) _).alloc (by simp) _
  have hx : Box ((w.alloc (.cells #[.string u, .string i] 121)).alloc (.cells #[.int .i64 k, .string u, .string i, .int .i64 0, .string ⟨#[]⟩, .string ⟨#[]⟩, .slice none 0 0] 44)) (w.heap.size + 1) #[.int .i64 k, .string u, .string i, .int .i64 0, .string ⟨#[]⟩, .string ⟨#[]⟩, .slice none 0 0] 44 := by
    have := Box.new (w.alloc (.cells #[.string u, .string i] 121)) #[.int .i64 k, .string u, .string i, .int .i64 0, .string ⟨#[]⟩, .string ⟨#[]⟩, .slice none 0 0] 44
    simpa using this
  go_enter Tryd.func182, Tryd.ntmps182
  go_wp2
  exact bodyPost_ret (results_op1 rfl _ _ _ _ _ _ _ _ _ _ rfl hx) rfl ⟨rfl, hB0⟩

set_option maxRecDepth 100000 in
set_option maxHeartbeats 1600000 in
theorem opD_any (k : Int) (d : Int) (w : World) :
    Calls Tryd.prog 183 #[.agg #[.int .i64 d], .int .i64 k] w fun e w' => e = .returned (.agg #[.int .i64 k, .string ⟨#[]⟩, .string ⟨#[]⟩, .int .i64 d, .string ⟨#[]⟩, .string ⟨#[]⟩, .slice none 0 0]) ∧ Below w.heap.size w w' := by
  have hB0 : Below w.heap.size w ((w.alloc (.cells #[.int .i64 d] 123)).alloc (.cells #[.int .i64 k, .string ⟨#[]⟩, .string ⟨#[]⟩, .int .i64 d, .string ⟨#[]⟩, .string ⟨#[]⟩, .slice none 0 0] 44)) := ((Below.refl _ _).alloc (Nat.le_refl _) _).alloc (by simp) _
  have hx : Box ((w.alloc (.cells #[.int .i64 d] 123)).alloc (.cells #[.int .i64 k, .string ⟨#[]⟩, .string ⟨#[]⟩, .int .i64 d, .string ⟨#[]⟩, .string ⟨#[]⟩, .slice none 0 0] 44)) (w.heap.size + 1) #[.int .i64 k, .string ⟨#[]⟩, .string ⟨#[]⟩, .int .i64 d, .string ⟨#[]⟩, .string ⟨#[]⟩, .slice none 0 0] 44 := by
    have := Box.new (w.alloc (.cells #[.int .i64 d] 123)) #[.int .i64 k, .string ⟨#[]⟩, .string ⟨#[]⟩, .int .i64 d, .string ⟨#[]⟩, .string ⟨#[]⟩, .slice none 0 0] 44
    simpa using this
  go_enter Tryd.func183, Tryd.ntmps183
  go_wp2
  exact bodyPost_ret (results_op1 rfl _ _ _ _ _ _ _ _ _ _ rfl hx) rfl ⟨rfl, hB0⟩

/-- What reading an operation answers. -/
def RoOut (S : Nat) (o : Option OpD) (e : Ending) (w' : World) : Prop := match o with
  | none => e = .returned (.tuple #[opV (o0 0) (.slice none 0 0), .bool false])
  | some q => ∃ v, e = .returned (.tuple #[opV q v, .bool true]) ∧ OwnR 71 3 itC w' S v q.its
theorem ro_zero {o : Option OpD} {S : Nat} {w' : World} (ho : o = none) : RoOut S o (.returned (.tuple #[opV (o0 0) (.slice none 0 0), .bool false])) w' := by
  rw [ho]; rfl
theorem ro_some {o : Option OpD} {S : Nat} {w' : World} {q : OpD} {v : Value} (ho : o = some q) (h : OwnR 71 3 itC w' S v q.its) : RoOut S o (.returned (.tuple #[opV q v, .bool true])) w' := by
  rw [ho]; exact ⟨v, rfl, h⟩

set_option maxRecDepth 100000 in
set_option maxHeartbeats 8000000 in
theorem implReadOp_any (s : ByteArray) (w : World) (hs : s.size ≤ 2000000) (hO : OTab w) (hE : ETab w) (hX : XTab w) (hM : MTab w) :
    Calls Tryd.prog 29 #[.string s] w fun e w' => RoOut w.heap.size (rdO s) e w' ∧ Below w.heap.size w w' := by
  obtain ⟨o, ho⟩ : ∃ o, o = rdO s := ⟨_, rfl⟩
  rw [← ho]
  have hz := Box.new w #[.int .i64 0, .string ⟨#[]⟩, .string ⟨#[]⟩, .int .i64 0, .string ⟨#[]⟩, .string ⟨#[]⟩, .slice none 0 0] 44
  have hB : Below w.heap.size w (w.alloc (.cells #[.int .i64 0, .string ⟨#[]⟩, .string ⟨#[]⟩, .int .i64 0, .string ⟨#[]⟩, .string ⟨#[]⟩, .slice none 0 0] 44)) := (Below.refl _ _).alloc (Nat.le_refl _) _
  have HO := Lib.hid hO
  have HE := Lib.hid hE
  have HX := Lib.hid hX
  have HM := Lib.hid hM
  have HT := Lib.hid (fun w h => cutm2_any s ⟨#[32]⟩ w (by omega) h)
  have hcl : (Lib.cut s.data.toList [32]).2.2 = true → (Lib.cut s.data.toList [32]).2.1.length ≤ 2000000 := fun h => by
    have e := congrArg List.length (cut_yes h)
    simp only [List.length_append] at e
    have k0 : s.data.toList.length = s.size := by simp
    omega
  have HC : Hid (o = (if (Lib.cut s.data.toList [32]).2.2 = true then dP (kdN (Lib.cut s.data.toList [32]).1) (Lib.cut s.data.toList [32]).2.1 else none).bind fun q => if opB q = true then some q else none) := Lib.hid ho
  generalize hc : Lib.cut s.data.toList (⟨#[32]⟩ : ByteArray).data.toList = c at HT
  have hc2 : Lib.cut s.data.toList [32] = c := hc
  rw [hc2] at HC hcl
  clear hc hc2 ho hs hO hE hX hM
  obtain ⟨wd, r, fd⟩ := c
  dsimp only at HT HC hcl
  go_enter Tryd.func29, Tryd.ntmps29
  go_wp2_with fail
  generalize w.alloc (.cells #[.int .i64 0, .string ⟨#[]⟩, .string ⟨#[]⟩, .int .i64 0, .string ⟨#[]⟩, .string ⟨#[]⟩, .slice none 0 0] 44) = W0 at hz hB ⊢
  refine (HT.out _ (HX.out.below hB (Nat.le_refl _))).mono ?_
  rintro e w1 ⟨rfl, hb⟩
  replace hz := hz.keep hb hz.lt
  replace hB := hB.trans (hb.mono hB.size)
  clear hb HT
  cases fd with
  | false =>
    have hO : o = none := HC.out
    clear HC
    have z0 := hz.cell 0 _ rfl
    have z1 := hz.cell 1 _ rfl
    have z2 := hz.cell 2 _ rfl
    have z3 := hz.cell 3 _ rfl
    have z4 := hz.cell 4 _ rfl
    have z5 := hz.cell 5 _ rfl
    have z6 := hz.cell 6 _ rfl
    have f0 := hz.free 0
    have f1 := hz.free 1
    have f2 := hz.free 2
    have f3 := hz.free 3
    have f4 := hz.free 4
    have f5 := hz.free 5
    have f6 := hz.free 6
    go_wp2
    refine bodyPost_ret (results_op2 rfl _ _ _ 0 ⟨#[]⟩ ⟨#[]⟩ 0 ⟨#[]⟩ ⟨#[]⟩ (.slice none 0 0) _ rfl rfl (put7o _ _ _ _ _ _ _ _ _ hz rfl)) rfl ?_
    exact ⟨ro_zero hO, hB.trans (below7o _ w.heap.size _ (Nat.le_refl _) _ _ _ _ _ _ _)⟩
  | true =>
    have hrl := hcl (by first | rfl | trivial)
    clear hcl
    have HKd := Lib.hid (fun w h => kindOf_any (bl wd) w h)
    have HC2 : Hid (o = (dP (kdN wd) r).bind fun q => if opB q = true then some q else none) := Lib.hid HC.out
    have hkc := kdN_cases wd
    have hkd : kdN (bl wd).data.toList = kdN wd := rfl
    rw [hkd] at HKd
    clear hkd HC
    generalize kdN wd = k at HKd HC2 hkc
    go_wp2_with fail
    refine (HKd.out _ (HO.out.below hB (Nat.le_refl _))).mono ?_
    rintro e w2 ⟨rfl, rfl⟩
    clear HKd
    have hrs : (bl r).size ≤ 2000000 := by rw [bl_size]; exact hrl
    rcases (show k = 0 ∨ (k = 1 ∨ k = 2 ∨ k = 8) ∨ k = 3 ∨ (k = 4 ∨ k = 5 ∨ k = 6 ∨ k = 7) ∨ k = 9 by omega) with rfl | hk | rfl | hk | rfl
    ·
      have hO : o = none := HC2.out
      clear HC2 hkc
      have HD := Lib.hid (fun w => deedOf_0 ⟨#[]⟩ ⟨#[]⟩ 0 ⟨#[]⟩ ⟨#[]⟩ (.slice none 0 0) w)
      have HR := Lib.hid (fun w => readDeed_0 (bl r) w)
      go_wp2_with fail
      refine (HD.out _).mono ?_
      rintro e w3 ⟨rfl, hb⟩
      replace hz := hz.keep hb hz.lt
      replace hB := Below.trans hB (hb.mono hB.size)
      clear hb
      go_wp2_with fail
      refine (HR.out _).mono ?_
      rintro e w4 ⟨rfl, hb⟩
      replace hz := hz.keep hb hz.lt
      replace hB := Below.trans hB (hb.mono hB.size)
      clear hb
      have z0 := hz.cell 0 _ rfl
      have z1 := hz.cell 1 _ rfl
      have z2 := hz.cell 2 _ rfl
      have z3 := hz.cell 3 _ rfl
      have z4 := hz.cell 4 _ rfl
      have z5 := hz.cell 5 _ rfl
      have z6 := hz.cell 6 _ rfl
      have f0 := hz.free 0
      have f1 := hz.free 1
      have f2 := hz.free 2
      have f3 := hz.free 3
      have f4 := hz.free 4
      have f5 := hz.free 5
      have f6 := hz.free 6
      go_wp2
      refine bodyPost_ret (results_op2 rfl _ _ _ 0 ⟨#[]⟩ ⟨#[]⟩ 0 ⟨#[]⟩ ⟨#[]⟩ (.slice none 0 0) _ rfl rfl (put7o _ _ _ _ _ _ _ _ _ hz rfl)) rfl ?_
      exact ⟨ro_zero hO, hB.trans (below7o _ w.heap.size _ (Nat.le_refl _) _ _ _ _ _ _ _)⟩
    ·
      have HD : Hid (∀ w, Calls Tryd.prog 71 #[.agg #[.int .i64 k, .string ⟨#[]⟩, .string ⟨#[]⟩, .int .i64 0, .string ⟨#[]⟩, .string ⟨#[]⟩, .slice none 0 0]] w fun e w' => e = .returned (.iface 117 (.agg #[.string ⟨#[]⟩])) ∧ Below w.heap.size w w') := Lib.hid (fun w => by
        have := deedOf_any (o0 k) (.slice none 0 0) w (by dsimp only; omega)
        have e : deV (o0 k) (.slice none 0 0) = .iface 117 (.agg #[.string ⟨#[]⟩]) := by unfold deV; (rw [if_neg (by dsimp only; omega), if_neg (by dsimp only; omega), if_pos hk])
        rwa [e] at this)
      clear hkc
      have HR := Lib.hid (fun w => readDeed_1 (bl r) w hrs)
      have HP := Lib.hid (fun w => opF_any k (bl r) w)
      go_wp2_with fail
      refine (HD.out _).mono ?_
      rintro e w3 ⟨rfl, hb⟩
      replace hz := hz.keep hb hz.lt
      replace hB := Below.trans hB (hb.mono hB.size)
      clear hb
      go_wp2_with fail
      refine (HR.out _).mono ?_
      rintro e w4 ⟨rfl, hb⟩
      replace hz := hz.keep hb hz.lt
      replace hB := Below.trans hB (hb.mono hB.size)
      clear hb
      have hM1 := fun v w => Tryd.mthF v w
      go_wp2_with fail
      clear hM1
      refine (HP.out _).mono ?_
      rintro e w5 ⟨rfl, hb⟩
      replace hz := hz.keep hb hz.lt
      replace hB := Below.trans hB (hb.mono hB.size)
      clear hb
      clear HD HR HP
      have hx := Box.new w5 #[.int .i64 k, .string (bl r), .string ⟨#[]⟩, .int .i64 0, .string ⟨#[]⟩, .string ⟨#[]⟩, .slice none 0 0] 44
      have hia : Below w5.heap.size w5 (w5.alloc (.cells #[.int .i64 k, .string (bl r), .string ⟨#[]⟩, .int .i64 0, .string ⟨#[]⟩, .string ⟨#[]⟩, .slice none 0 0] 44)) := (Below.refl _ _).alloc (Nat.le_refl _) _
      have hwl : w.heap.size < w5.heap.size := hz.lt
      replace hz := hz.keep hia hz.lt
      replace hB := hB.trans (hia.mono hB.size)
      clear hia
      have x0 := hx.cell 0 _ rfl
      have x1 := hx.cell 1 _ rfl
      have x2 := hx.cell 2 _ rfl
      have x3 := hx.cell 3 _ rfl
      have x4 := hx.cell 4 _ rfl
      have x5 := hx.cell 5 _ rfl
      have x6 := hx.cell 6 _ rfl
      go_wp2_with fail
      clear x0 x1 x2 x3 x4 x5 x6
      generalize w5.alloc (.cells #[.int .i64 k, .string (bl r), .string ⟨#[]⟩, .int .i64 0, .string ⟨#[]⟩, .string ⟨#[]⟩, .slice none 0 0] 44) = W6 at hx hz hB ⊢
      generalize w5.heap.size = GX at hx hwl ⊢
      refine (implOpOk_any (⟨k, (bl r), ⟨#[]⟩, 0, ⟨#[]⟩, ⟨#[]⟩, []⟩ : OpD) (.slice none 0 0) W6 ⟨⟨none, 0, rfl, Nat.le_refl _, Nat.zero_le _, fun h => absurd h (by simp)⟩, fun x hx => by cases hx⟩ ⟨by (show (bl r).size ≤ maxLen; unfold maxLen; omega), by exact Nat.zero_le _, Nat.zero_le _, Nat.zero_le _⟩).mono ?_
      rintro e w7 ⟨rfl, hb⟩
      replace hz := hz.keep hb hz.lt
      replace hx := hx.keep hb hx.lt
      replace hB := hB.trans (hb.mono hB.size)
      clear hb
      have HOe : Hid (o = if opB (⟨k, (bl r), ⟨#[]⟩, 0, ⟨#[]⟩, ⟨#[]⟩, []⟩ : OpD) = true then some (⟨k, (bl r), ⟨#[]⟩, 0, ⟨#[]⟩, ⟨#[]⟩, []⟩ : OpD) else none) := Lib.hid (by have h := HC2.out; unfold dP at h; rw [if_pos hk, Option.bind_some] at h; exact h)
      clear HC2
      generalize opB (⟨k, (bl r), ⟨#[]⟩, 0, ⟨#[]⟩, ⟨#[]⟩, []⟩ : OpD) = F at HOe ⊢
      cases F with
      | false =>
        have hO : o = none := HOe.out
        clear HOe
        have z0 := hz.cell 0 _ rfl
        have z1 := hz.cell 1 _ rfl
        have z2 := hz.cell 2 _ rfl
        have z3 := hz.cell 3 _ rfl
        have z4 := hz.cell 4 _ rfl
        have z5 := hz.cell 5 _ rfl
        have z6 := hz.cell 6 _ rfl
        have f0 := hz.free 0
        have f1 := hz.free 1
        have f2 := hz.free 2
        have f3 := hz.free 3
        have f4 := hz.free 4
        have f5 := hz.free 5
        have f6 := hz.free 6
        go_wp2
        refine bodyPost_ret (results_op2 rfl _ _ _ 0 ⟨#[]⟩ ⟨#[]⟩ 0 ⟨#[]⟩ ⟨#[]⟩ (.slice none 0 0) _ rfl rfl (put7o _ _ _ _ _ _ _ _ _ hz rfl)) rfl ?_
        exact ⟨ro_zero hO, hB.trans (below7o _ w.heap.size _ (Nat.le_refl _) _ _ _ _ _ _ _)⟩
      | true =>
        have hO : o = some (⟨k, (bl r), ⟨#[]⟩, 0, ⟨#[]⟩, ⟨#[]⟩, []⟩ : OpD) := HOe.out
        clear HOe
        have x0 := hx.cell 0 _ rfl
        have x1 := hx.cell 1 _ rfl
        have x2 := hx.cell 2 _ rfl
        have x3 := hx.cell 3 _ rfl
        have x4 := hx.cell 4 _ rfl
        have x5 := hx.cell 5 _ rfl
        have x6 := hx.cell 6 _ rfl
        have z0 := hz.cell 0 _ rfl
        have z1 := hz.cell 1 _ rfl
        have z2 := hz.cell 2 _ rfl
        have z3 := hz.cell 3 _ rfl
        have z4 := hz.cell 4 _ rfl
        have z5 := hz.cell 5 _ rfl
        have z6 := hz.cell 6 _ rfl
        have f0 := hz.free 0
        have f1 := hz.free 1
        have f2 := hz.free 2
        have f3 := hz.free 3
        have f4 := hz.free 4
        have f5 := hz.free 5
        have f6 := hz.free 6
        go_wp2
        refine bodyPost_ret (results_op2 rfl _ _ _ k (bl r) ⟨#[]⟩ 0 ⟨#[]⟩ ⟨#[]⟩ (.slice none 0 0) _ rfl rfl (put7o _ _ _ _ _ _ _ _ _ hz rfl)) rfl ?_
        exact ⟨ro_some (q := (⟨k, (bl r), ⟨#[]⟩, 0, ⟨#[]⟩, ⟨#[]⟩, []⟩ : OpD)) hO (OwnR.nil _ _ _), hB.trans (below7o _ w.heap.size _ (Nat.le_refl _) _ _ _ _ _ _ _)⟩
    ·
      have HD : Hid (∀ w, Calls Tryd.prog 71 #[.agg #[.int .i64 3, .string ⟨#[]⟩, .string ⟨#[]⟩, .int .i64 0, .string ⟨#[]⟩, .string ⟨#[]⟩, .slice none 0 0]] w fun e w' => e = .returned (.iface 119 (.agg #[.string ⟨#[]⟩, .string ⟨#[]⟩, .slice none 0 0])) ∧ Below w.heap.size w w') := Lib.hid (fun w => by
        have := deedOf_any (o0 3) (.slice none 0 0) w (by dsimp only; omega)
        have e : deV (o0 3) (.slice none 0 0) = .iface 119 (.agg #[.string ⟨#[]⟩, .string ⟨#[]⟩, .slice none 0 0]) := by unfold deV; (rw [if_pos rfl])
        rwa [e] at this)
      clear hkc
      have HR := Lib.hid (fun w h1 h2 h3 => readDeed_3 (bl r) w h1 h2 h3)
      go_wp2_with fail
      refine (HD.out _).mono ?_
      rintro e w3 ⟨rfl, hb⟩
      replace hz := hz.keep hb hz.lt
      replace hB := Below.trans hB (hb.mono hB.size)
      clear hb
      have hw3 : w.heap.size + 1 ≤ w3.heap.size := hz.lt
      go_wp2_with fail
      refine (HR.out _ (HE.out.below hB (Nat.le_refl _)) (HX.out.below hB (Nat.le_refl _)) (HM.out.below hB (Nat.le_refl _))).mono ?_
      rintro e w4 ⟨⟨fu, ft, v, its, F, rfl, hcs⟩, hb⟩
      replace hz := hz.keep hb hz.lt
      replace hB := Below.trans hB (hb.mono hB.size)
      clear hb
      clear HD HR
      rcases hcs with ⟨rfl, hrf⟩ | ⟨rfl, hrf, hown⟩
      · have hO : o = none := by
          have h := HC2.out
          unfold dP at h
          rw [if_neg (by omega), if_pos rfl, hrf] at h
          exact h
        clear HC2 hrf
        have z0 := hz.cell 0 _ rfl
        have z1 := hz.cell 1 _ rfl
        have z2 := hz.cell 2 _ rfl
        have z3 := hz.cell 3 _ rfl
        have z4 := hz.cell 4 _ rfl
        have z5 := hz.cell 5 _ rfl
        have z6 := hz.cell 6 _ rfl
        have f0 := hz.free 0
        have f1 := hz.free 1
        have f2 := hz.free 2
        have f3 := hz.free 3
        have f4 := hz.free 4
        have f5 := hz.free 5
        have f6 := hz.free 6
        go_wp2
        refine bodyPost_ret (results_op2 rfl _ _ _ 0 ⟨#[]⟩ ⟨#[]⟩ 0 ⟨#[]⟩ ⟨#[]⟩ (.slice none 0 0) _ rfl rfl (put7o _ _ _ _ _ _ _ _ _ hz rfl)) rfl ?_
        exact ⟨ro_zero hO, hB.trans (below7o _ w.heap.size _ (Nat.le_refl _) _ _ _ _ _ _ _)⟩
      ·
        have HRf := Lib.hid hrf
        have HZs : Hid (fu.size ≤ maxLen ∧ ft.size ≤ maxLen ∧ ∀ x ∈ its, x.id.size ≤ maxLen ∧ x.ti.size ≤ maxLen) := Lib.hid (by
          obtain ⟨h1, h2, h3⟩ := fdB_parts8 (rdF_some hrf).1
          dsimp only at h1 h2 h3
          refine ⟨by unfold maxLen; omega, by unfold maxLen; omega, fun x hx => ?_⟩
          obtain ⟨a, b, _⟩ := h3 x hx
          unfold maxLen
          exact ⟨by omega, by omega⟩)
        clear hrf
        replace hown := hown.base_mono hw3
        have hgl : w.heap.size < w.heap.size + 1 := Nat.lt_succ_self _
        obtain ⟨va, vc, rfl⟩ := hown.slice
        have HP := Lib.hid (fun w => opT_any 3 fu ft va its.length vc w)
        have hM1 := fun v w => Tryd.mthT v w
        go_wp2_with fail
        clear hM1
        refine (HP.out _).mono ?_
        rintro e w5 ⟨rfl, hb⟩
        replace hz := hz.keep hb hz.lt
        replace hown := hown.keep hb (Nat.le_refl _)
        replace hB := Below.trans hB (hb.mono hB.size)
        clear hb HP
        have hx := Box.new w5 #[.int .i64 3, .string ⟨#[]⟩, .string ⟨#[]⟩, .int .i64 0, .string fu, .string ft, .slice va its.length vc] 44
        have hia : Below w5.heap.size w5 (w5.alloc (.cells #[.int .i64 3, .string ⟨#[]⟩, .string ⟨#[]⟩, .int .i64 0, .string fu, .string ft, .slice va its.length vc] 44)) := (Below.refl _ _).alloc (Nat.le_refl _) _
        have hwl : w.heap.size < w5.heap.size := hz.lt
        replace hz := hz.keep hia hz.lt
        replace hB := hB.trans (hia.mono hB.size)
        replace hown := hown.keep hia (Nat.le_refl _)
        clear hia
        have x0 := hx.cell 0 _ rfl
        have x1 := hx.cell 1 _ rfl
        have x2 := hx.cell 2 _ rfl
        have x3 := hx.cell 3 _ rfl
        have x4 := hx.cell 4 _ rfl
        have x5 := hx.cell 5 _ rfl
        have x6 := hx.cell 6 _ rfl
        go_wp2_with fail
        clear x0 x1 x2 x3 x4 x5 x6
        generalize w5.alloc (.cells #[.int .i64 3, .string ⟨#[]⟩, .string ⟨#[]⟩, .int .i64 0, .string fu, .string ft, .slice va its.length vc] 44) = W6 at hx hz hB hown ⊢
        generalize w5.heap.size = GX at hx hwl ⊢
        refine (implOpOk_any (⟨3, ⟨#[]⟩, ⟨#[]⟩, 0, fu, ft, its⟩ : OpD) (.slice va its.length vc) W6 ⟨hown.at itC_len, HZs.out.2.2⟩ ⟨Nat.zero_le _, Nat.zero_le _, HZs.out.1, HZs.out.2.1⟩).mono ?_
        rintro e w7 ⟨rfl, hb⟩
        replace hz := hz.keep hb hz.lt
        replace hx := hx.keep hb hx.lt
        replace hB := hB.trans (hb.mono hB.size)
        replace hown := hown.keep hb (Nat.le_refl _)
        clear hb
        have HOe : Hid (o = if opB (⟨3, ⟨#[]⟩, ⟨#[]⟩, 0, fu, ft, its⟩ : OpD) = true then some (⟨3, ⟨#[]⟩, ⟨#[]⟩, 0, fu, ft, its⟩ : OpD) else none) := Lib.hid (by have h := HC2.out; unfold dP at h; rw [if_neg (by omega), if_pos rfl, HRf.out, Option.map_some, Option.bind_some] at h; exact h)
        clear HC2
        generalize opB (⟨3, ⟨#[]⟩, ⟨#[]⟩, 0, fu, ft, its⟩ : OpD) = F at HOe ⊢
        cases F with
        | false =>
          have hO : o = none := HOe.out
          clear HOe
          have z0 := hz.cell 0 _ rfl
          have z1 := hz.cell 1 _ rfl
          have z2 := hz.cell 2 _ rfl
          have z3 := hz.cell 3 _ rfl
          have z4 := hz.cell 4 _ rfl
          have z5 := hz.cell 5 _ rfl
          have z6 := hz.cell 6 _ rfl
          have f0 := hz.free 0
          have f1 := hz.free 1
          have f2 := hz.free 2
          have f3 := hz.free 3
          have f4 := hz.free 4
          have f5 := hz.free 5
          have f6 := hz.free 6
          go_wp2
          refine bodyPost_ret (results_op2 rfl _ _ _ 0 ⟨#[]⟩ ⟨#[]⟩ 0 ⟨#[]⟩ ⟨#[]⟩ (.slice none 0 0) _ rfl rfl (put7o _ _ _ _ _ _ _ _ _ hz rfl)) rfl ?_
          exact ⟨ro_zero hO, hB.trans (below7o _ w.heap.size _ (Nat.le_refl _) _ _ _ _ _ _ _)⟩
        | true =>
          have hO : o = some (⟨3, ⟨#[]⟩, ⟨#[]⟩, 0, fu, ft, its⟩ : OpD) := HOe.out
          clear HOe
          have x0 := hx.cell 0 _ rfl
          have x1 := hx.cell 1 _ rfl
          have x2 := hx.cell 2 _ rfl
          have x3 := hx.cell 3 _ rfl
          have x4 := hx.cell 4 _ rfl
          have x5 := hx.cell 5 _ rfl
          have x6 := hx.cell 6 _ rfl
          have z0 := hz.cell 0 _ rfl
          have z1 := hz.cell 1 _ rfl
          have z2 := hz.cell 2 _ rfl
          have z3 := hz.cell 3 _ rfl
          have z4 := hz.cell 4 _ rfl
          have z5 := hz.cell 5 _ rfl
          have z6 := hz.cell 6 _ rfl
          have f0 := hz.free 0
          have f1 := hz.free 1
          have f2 := hz.free 2
          have f3 := hz.free 3
          have f4 := hz.free 4
          have f5 := hz.free 5
          have f6 := hz.free 6
          have hown2 := ((((((hown.other ⟨w.heap.size, 0, none⟩ (.int .i64 3) hgl).other ⟨w.heap.size, 1, none⟩ (.string ⟨#[]⟩) hgl).other ⟨w.heap.size, 2, none⟩ (.string ⟨#[]⟩) hgl).other ⟨w.heap.size, 3, none⟩ (.int .i64 0) hgl).other ⟨w.heap.size, 4, none⟩ (.string fu) hgl).other ⟨w.heap.size, 5, none⟩ (.string ft) hgl).other ⟨w.heap.size, 6, none⟩ (.slice va its.length vc) hgl
          replace hown2 := hown2.base_mono (Nat.le_of_lt hgl)
          go_wp2
          refine bodyPost_ret (results_op2 rfl _ _ _ 3 ⟨#[]⟩ ⟨#[]⟩ 0 fu ft (.slice va its.length vc) _ rfl rfl (put7o _ _ _ _ _ _ _ _ _ hz rfl)) rfl ?_
          exact ⟨ro_some (q := (⟨3, ⟨#[]⟩, ⟨#[]⟩, 0, fu, ft, its⟩ : OpD)) hO (hown2), hB.trans (below7o _ w.heap.size _ (Nat.le_refl _) _ _ _ _ _ _ _)⟩
    ·
      have HD : Hid (∀ w, Calls Tryd.prog 71 #[.agg #[.int .i64 k, .string ⟨#[]⟩, .string ⟨#[]⟩, .int .i64 0, .string ⟨#[]⟩, .string ⟨#[]⟩, .slice none 0 0]] w fun e w' => e = .returned (.iface 121 (.agg #[.string ⟨#[]⟩, .string ⟨#[]⟩])) ∧ Below w.heap.size w w') := Lib.hid (fun w => by
        have := deedOf_any (o0 k) (.slice none 0 0) w (by dsimp only; omega)
        have e : deV (o0 k) (.slice none 0 0) = .iface 121 (.agg #[.string ⟨#[]⟩, .string ⟨#[]⟩]) := by unfold deV; (rw [if_neg (by dsimp only; omega), if_neg (by dsimp only; omega), if_neg (by dsimp only; omega)])
        rwa [e] at this)
      clear hkc
      have HR := Lib.hid (fun w h => readDeed_4 (bl r) w hrs h)
      have hcr : Lib.cut (bl r).data.toList [32] = Lib.cut r [32] := rfl
      rw [hcr] at HR
      have HC4 : Hid (o = (if (Lib.cut r [32]).2.2 = true then some (⟨k, bl (Lib.cut r [32]).1, bl (Lib.cut r [32]).2.1, 0, ⟨#[]⟩, ⟨#[]⟩, []⟩ : OpD) else none).bind fun q => if opB q = true then some q else none) := Lib.hid (by have h := HC2.out; unfold dP at h; rw [if_neg (by omega), if_neg (by omega), if_pos hk] at h; exact h)
      have HZc : Hid ((Lib.cut r [32]).2.2 = true → (bl (Lib.cut r [32]).1).size ≤ maxLen ∧ (bl (Lib.cut r [32]).2.1).size ≤ maxLen) := Lib.hid (fun h => by
        have e := congrArg List.length (cut_yes h)
        simp only [List.length_append] at e
        rw [bl_size, bl_size]
        unfold maxLen
        exact ⟨by omega, by omega⟩)
      generalize Lib.cut r [32] = c2 at HR HC4 HZc
      obtain ⟨cu, ci, cf⟩ := c2
      dsimp only at HR HC4 HZc
      clear hcr HC2
      go_wp2_with fail
      refine (HD.out _).mono ?_
      rintro e w3 ⟨rfl, hb⟩
      replace hz := hz.keep hb hz.lt
      replace hB := Below.trans hB (hb.mono hB.size)
      clear hb
      go_wp2_with fail
      refine (HR.out _ (HX.out.below hB (Nat.le_refl _))).mono ?_
      rintro e w4 ⟨rfl, hb⟩
      replace hz := hz.keep hb hz.lt
      replace hB := Below.trans hB (hb.mono hB.size)
      clear hb
      clear HD HR
      cases cf with
      | false =>
        have hO : o = none := HC4.out
        clear HC4 HZc
        have z0 := hz.cell 0 _ rfl
        have z1 := hz.cell 1 _ rfl
        have z2 := hz.cell 2 _ rfl
        have z3 := hz.cell 3 _ rfl
        have z4 := hz.cell 4 _ rfl
        have z5 := hz.cell 5 _ rfl
        have z6 := hz.cell 6 _ rfl
        have f0 := hz.free 0
        have f1 := hz.free 1
        have f2 := hz.free 2
        have f3 := hz.free 3
        have f4 := hz.free 4
        have f5 := hz.free 5
        have f6 := hz.free 6
        go_wp2
        refine bodyPost_ret (results_op2 rfl _ _ _ 0 ⟨#[]⟩ ⟨#[]⟩ 0 ⟨#[]⟩ ⟨#[]⟩ (.slice none 0 0) _ rfl rfl (put7o _ _ _ _ _ _ _ _ _ hz rfl)) rfl ?_
        exact ⟨ro_zero hO, hB.trans (below7o _ w.heap.size _ (Nat.le_refl _) _ _ _ _ _ _ _)⟩
      | true =>
        have HZ4 := Lib.hid (HZc.out (by first | rfl | trivial))
        have HC3 : Hid (o = if opB (⟨k, bl cu, bl ci, 0, ⟨#[]⟩, ⟨#[]⟩, []⟩ : OpD) = true then some (⟨k, bl cu, bl ci, 0, ⟨#[]⟩, ⟨#[]⟩, []⟩ : OpD) else none) := Lib.hid HC4.out
        clear HC4 HZc
        have HC2 := HC3
        have HP := Lib.hid (fun w => opE_any k (bl cu) (bl ci) w)
        have hM1 := fun v w => Tryd.mthE v w
        go_wp2_with fail
        clear hM1
        refine (HP.out _).mono ?_
        rintro e w5 ⟨rfl, hb⟩
        replace hz := hz.keep hb hz.lt
        replace hB := Below.trans hB (hb.mono hB.size)
        clear hb
        clear HP
        have hx := Box.new w5 #[.int .i64 k, .string (bl cu), .string (bl ci), .int .i64 0, .string ⟨#[]⟩, .string ⟨#[]⟩, .slice none 0 0] 44
        have hia : Below w5.heap.size w5 (w5.alloc (.cells #[.int .i64 k, .string (bl cu), .string (bl ci), .int .i64 0, .string ⟨#[]⟩, .string ⟨#[]⟩, .slice none 0 0] 44)) := (Below.refl _ _).alloc (Nat.le_refl _) _
        have hwl : w.heap.size < w5.heap.size := hz.lt
        replace hz := hz.keep hia hz.lt
        replace hB := hB.trans (hia.mono hB.size)
        clear hia
        have x0 := hx.cell 0 _ rfl
        have x1 := hx.cell 1 _ rfl
        have x2 := hx.cell 2 _ rfl
        have x3 := hx.cell 3 _ rfl
        have x4 := hx.cell 4 _ rfl
        have x5 := hx.cell 5 _ rfl
        have x6 := hx.cell 6 _ rfl
        go_wp2_with fail
        clear x0 x1 x2 x3 x4 x5 x6
        generalize w5.alloc (.cells #[.int .i64 k, .string (bl cu), .string (bl ci), .int .i64 0, .string ⟨#[]⟩, .string ⟨#[]⟩, .slice none 0 0] 44) = W6 at hx hz hB ⊢
        generalize w5.heap.size = GX at hx hwl ⊢
        refine (implOpOk_any (⟨k, (bl cu), (bl ci), 0, ⟨#[]⟩, ⟨#[]⟩, []⟩ : OpD) (.slice none 0 0) W6 ⟨⟨none, 0, rfl, Nat.le_refl _, Nat.zero_le _, fun h => absurd h (by simp)⟩, fun x hx => by cases hx⟩ ⟨HZ4.out.1, HZ4.out.2, Nat.zero_le _, Nat.zero_le _⟩).mono ?_
        rintro e w7 ⟨rfl, hb⟩
        replace hz := hz.keep hb hz.lt
        replace hx := hx.keep hb hx.lt
        replace hB := hB.trans (hb.mono hB.size)
        clear hb
        have HOe : Hid (o = if opB (⟨k, (bl cu), (bl ci), 0, ⟨#[]⟩, ⟨#[]⟩, []⟩ : OpD) = true then some (⟨k, (bl cu), (bl ci), 0, ⟨#[]⟩, ⟨#[]⟩, []⟩ : OpD) else none) := Lib.hid HC3.out
        clear HC2
        generalize opB (⟨k, (bl cu), (bl ci), 0, ⟨#[]⟩, ⟨#[]⟩, []⟩ : OpD) = F at HOe ⊢
        cases F with
        | false =>
          have hO : o = none := HOe.out
          clear HOe
          have z0 := hz.cell 0 _ rfl
          have z1 := hz.cell 1 _ rfl
          have z2 := hz.cell 2 _ rfl
          have z3 := hz.cell 3 _ rfl
          have z4 := hz.cell 4 _ rfl
          have z5 := hz.cell 5 _ rfl
          have z6 := hz.cell 6 _ rfl
          have f0 := hz.free 0
          have f1 := hz.free 1
          have f2 := hz.free 2
          have f3 := hz.free 3
          have f4 := hz.free 4
          have f5 := hz.free 5
          have f6 := hz.free 6
          go_wp2
          refine bodyPost_ret (results_op2 rfl _ _ _ 0 ⟨#[]⟩ ⟨#[]⟩ 0 ⟨#[]⟩ ⟨#[]⟩ (.slice none 0 0) _ rfl rfl (put7o _ _ _ _ _ _ _ _ _ hz rfl)) rfl ?_
          exact ⟨ro_zero hO, hB.trans (below7o _ w.heap.size _ (Nat.le_refl _) _ _ _ _ _ _ _)⟩
        | true =>
          have hO : o = some (⟨k, (bl cu), (bl ci), 0, ⟨#[]⟩, ⟨#[]⟩, []⟩ : OpD) := HOe.out
          clear HOe
          have x0 := hx.cell 0 _ rfl
          have x1 := hx.cell 1 _ rfl
          have x2 := hx.cell 2 _ rfl
          have x3 := hx.cell 3 _ rfl
          have x4 := hx.cell 4 _ rfl
          have x5 := hx.cell 5 _ rfl
          have x6 := hx.cell 6 _ rfl
          have z0 := hz.cell 0 _ rfl
          have z1 := hz.cell 1 _ rfl
          have z2 := hz.cell 2 _ rfl
          have z3 := hz.cell 3 _ rfl
          have z4 := hz.cell 4 _ rfl
          have z5 := hz.cell 5 _ rfl
          have z6 := hz.cell 6 _ rfl
          have f0 := hz.free 0
          have f1 := hz.free 1
          have f2 := hz.free 2
          have f3 := hz.free 3
          have f4 := hz.free 4
          have f5 := hz.free 5
          have f6 := hz.free 6
          go_wp2
          refine bodyPost_ret (results_op2 rfl _ _ _ k (bl cu) (bl ci) 0 ⟨#[]⟩ ⟨#[]⟩ (.slice none 0 0) _ rfl rfl (put7o _ _ _ _ _ _ _ _ _ hz rfl)) rfl ?_
          exact ⟨ro_some (q := (⟨k, (bl cu), (bl ci), 0, ⟨#[]⟩, ⟨#[]⟩, []⟩ : OpD)) hO (OwnR.nil _ _ _), hB.trans (below7o _ w.heap.size _ (Nat.le_refl _) _ _ _ _ _ _ _)⟩
    ·
      have HD : Hid (∀ w, Calls Tryd.prog 71 #[.agg #[.int .i64 9, .string ⟨#[]⟩, .string ⟨#[]⟩, .int .i64 0, .string ⟨#[]⟩, .string ⟨#[]⟩, .slice none 0 0]] w fun e w' => e = .returned (.iface 123 (.agg #[.int .i64 0])) ∧ Below w.heap.size w w') := Lib.hid (fun w => by
        have := deedOf_any (o0 9) (.slice none 0 0) w (by dsimp only; omega)
        have e : deV (o0 9) (.slice none 0 0) = .iface 123 (.agg #[.int .i64 0]) := by unfold deV; (rw [if_neg (by dsimp only; omega), if_pos rfl])
        rwa [e] at this)
      clear hkc
      have HR := Lib.hid (fun w h => readDeed_9 (bl r) w h)
      have HC4 : Hid (o = (if rdOk (bl r) = true then some (⟨9, ⟨#[]⟩, ⟨#[]⟩, dN (rY (bl r)) (rM (bl r)) (rD (bl r)), ⟨#[]⟩, ⟨#[]⟩, []⟩ : OpD) else none).bind fun q => if opB q = true then some q else none) := Lib.hid (by have h := HC2.out; unfold dP at h; rw [if_neg (by omega), if_neg (by omega), if_neg (by omega), if_pos rfl] at h; exact h)
      clear HC2
      generalize dN (rY (bl r)) (rM (bl r)) (rD (bl r)) = dn at HR HC4
      generalize rdOk (bl r) = F9 at HR HC4
      go_wp2_with fail
      refine (HD.out _).mono ?_
      rintro e w3 ⟨rfl, hb⟩
      replace hz := hz.keep hb hz.lt
      replace hB := Below.trans hB (hb.mono hB.size)
      clear hb
      go_wp2_with fail
      refine (HR.out _ (HM.out.below hB (Nat.le_refl _))).mono ?_
      rintro e w4 ⟨⟨n, rfl, hn⟩, hb⟩
      replace hz := hz.keep hb hz.lt
      replace hB := Below.trans hB (hb.mono hB.size)
      clear hb
      clear HD HR
      cases F9 with
      | false =>
        have hO : o = none := HC4.out
        clear HC4 hn
        have z0 := hz.cell 0 _ rfl
        have z1 := hz.cell 1 _ rfl
        have z2 := hz.cell 2 _ rfl
        have z3 := hz.cell 3 _ rfl
        have z4 := hz.cell 4 _ rfl
        have z5 := hz.cell 5 _ rfl
        have z6 := hz.cell 6 _ rfl
        have f0 := hz.free 0
        have f1 := hz.free 1
        have f2 := hz.free 2
        have f3 := hz.free 3
        have f4 := hz.free 4
        have f5 := hz.free 5
        have f6 := hz.free 6
        go_wp2
        refine bodyPost_ret (results_op2 rfl _ _ _ 0 ⟨#[]⟩ ⟨#[]⟩ 0 ⟨#[]⟩ ⟨#[]⟩ (.slice none 0 0) _ rfl rfl (put7o _ _ _ _ _ _ _ _ _ hz rfl)) rfl ?_
        exact ⟨ro_zero hO, hB.trans (below7o _ w.heap.size _ (Nat.le_refl _) _ _ _ _ _ _ _)⟩
      | true =>
        obtain rfl := hn (by first | rfl | trivial)
        have HC3 : Hid (o = if opB (⟨9, ⟨#[]⟩, ⟨#[]⟩, n, ⟨#[]⟩, ⟨#[]⟩, []⟩ : OpD) = true then some (⟨9, ⟨#[]⟩, ⟨#[]⟩, n, ⟨#[]⟩, ⟨#[]⟩, []⟩ : OpD) else none) := Lib.hid HC4.out
        clear HC4 hn
        have HC2 := HC3
        have HP := Lib.hid (fun w => opD_any 9 n w)
        have hM1 := fun v w => Tryd.mthD v w
        go_wp2_with fail
        clear hM1
        refine (HP.out _).mono ?_
        rintro e w5 ⟨rfl, hb⟩
        replace hz := hz.keep hb hz.lt
        replace hB := Below.trans hB (hb.mono hB.size)
        clear hb
        clear HP
        have hx := Box.new w5 #[.int .i64 9, .string ⟨#[]⟩, .string ⟨#[]⟩, .int .i64 n, .string ⟨#[]⟩, .string ⟨#[]⟩, .slice none 0 0] 44
        have hia : Below w5.heap.size w5 (w5.alloc (.cells #[.int .i64 9, .string ⟨#[]⟩, .string ⟨#[]⟩, .int .i64 n, .string ⟨#[]⟩, .string ⟨#[]⟩, .slice none 0 0] 44)) := (Below.refl _ _).alloc (Nat.le_refl _) _
        have hwl : w.heap.size < w5.heap.size := hz.lt
        replace hz := hz.keep hia hz.lt
        replace hB := hB.trans (hia.mono hB.size)
        clear hia
        have x0 := hx.cell 0 _ rfl
        have x1 := hx.cell 1 _ rfl
        have x2 := hx.cell 2 _ rfl
        have x3 := hx.cell 3 _ rfl
        have x4 := hx.cell 4 _ rfl
        have x5 := hx.cell 5 _ rfl
        have x6 := hx.cell 6 _ rfl
        go_wp2_with fail
        clear x0 x1 x2 x3 x4 x5 x6
        generalize w5.alloc (.cells #[.int .i64 9, .string ⟨#[]⟩, .string ⟨#[]⟩, .int .i64 n, .string ⟨#[]⟩, .string ⟨#[]⟩, .slice none 0 0] 44) = W6 at hx hz hB ⊢
        generalize w5.heap.size = GX at hx hwl ⊢
        refine (implOpOk_any (⟨9, ⟨#[]⟩, ⟨#[]⟩, n, ⟨#[]⟩, ⟨#[]⟩, []⟩ : OpD) (.slice none 0 0) W6 ⟨⟨none, 0, rfl, Nat.le_refl _, Nat.zero_le _, fun h => absurd h (by simp)⟩, fun x hx => by cases hx⟩ ⟨Nat.zero_le _, Nat.zero_le _, Nat.zero_le _, Nat.zero_le _⟩).mono ?_
        rintro e w7 ⟨rfl, hb⟩
        replace hz := hz.keep hb hz.lt
        replace hx := hx.keep hb hx.lt
        replace hB := hB.trans (hb.mono hB.size)
        clear hb
        have HOe : Hid (o = if opB (⟨9, ⟨#[]⟩, ⟨#[]⟩, n, ⟨#[]⟩, ⟨#[]⟩, []⟩ : OpD) = true then some (⟨9, ⟨#[]⟩, ⟨#[]⟩, n, ⟨#[]⟩, ⟨#[]⟩, []⟩ : OpD) else none) := Lib.hid HC3.out
        clear HC2
        generalize opB (⟨9, ⟨#[]⟩, ⟨#[]⟩, n, ⟨#[]⟩, ⟨#[]⟩, []⟩ : OpD) = F at HOe ⊢
        cases F with
        | false =>
          have hO : o = none := HOe.out
          clear HOe
          have z0 := hz.cell 0 _ rfl
          have z1 := hz.cell 1 _ rfl
          have z2 := hz.cell 2 _ rfl
          have z3 := hz.cell 3 _ rfl
          have z4 := hz.cell 4 _ rfl
          have z5 := hz.cell 5 _ rfl
          have z6 := hz.cell 6 _ rfl
          have f0 := hz.free 0
          have f1 := hz.free 1
          have f2 := hz.free 2
          have f3 := hz.free 3
          have f4 := hz.free 4
          have f5 := hz.free 5
          have f6 := hz.free 6
          go_wp2
          refine bodyPost_ret (results_op2 rfl _ _ _ 0 ⟨#[]⟩ ⟨#[]⟩ 0 ⟨#[]⟩ ⟨#[]⟩ (.slice none 0 0) _ rfl rfl (put7o _ _ _ _ _ _ _ _ _ hz rfl)) rfl ?_
          exact ⟨ro_zero hO, hB.trans (below7o _ w.heap.size _ (Nat.le_refl _) _ _ _ _ _ _ _)⟩
        | true =>
          have hO : o = some (⟨9, ⟨#[]⟩, ⟨#[]⟩, n, ⟨#[]⟩, ⟨#[]⟩, []⟩ : OpD) := HOe.out
          clear HOe
          have x0 := hx.cell 0 _ rfl
          have x1 := hx.cell 1 _ rfl
          have x2 := hx.cell 2 _ rfl
          have x3 := hx.cell 3 _ rfl
          have x4 := hx.cell 4 _ rfl
          have x5 := hx.cell 5 _ rfl
          have x6 := hx.cell 6 _ rfl
          have z0 := hz.cell 0 _ rfl
          have z1 := hz.cell 1 _ rfl
          have z2 := hz.cell 2 _ rfl
          have z3 := hz.cell 3 _ rfl
          have z4 := hz.cell 4 _ rfl
          have z5 := hz.cell 5 _ rfl
          have z6 := hz.cell 6 _ rfl
          have f0 := hz.free 0
          have f1 := hz.free 1
          have f2 := hz.free 2
          have f3 := hz.free 3
          have f4 := hz.free 4
          have f5 := hz.free 5
          have f6 := hz.free 6
          go_wp2
          refine bodyPost_ret (results_op2 rfl _ _ _ 9 ⟨#[]⟩ ⟨#[]⟩ n ⟨#[]⟩ ⟨#[]⟩ (.slice none 0 0) _ rfl rfl (put7o _ _ _ _ _ _ _ _ _ hz rfl)) rfl ?_
          exact ⟨ro_some (q := (⟨9, ⟨#[]⟩, ⟨#[]⟩, n, ⟨#[]⟩, ⟨#[]⟩, []⟩ : OpD)) hO (OwnR.nil _ _ _), hB.trans (below7o _ w.heap.size _ (Nat.le_refl _) _ _ _ _ _ _ _)⟩
end Go.Proofs.YtgimjfffdnopiaaDoor

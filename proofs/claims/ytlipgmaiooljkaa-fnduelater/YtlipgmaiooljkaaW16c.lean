/- What each answer makes of a poll: the program's five changes. -/
import Derived.Test.YtlipgmaiooljkaaW16b
import Derived.Maps.OwnSet
namespace Go.Proofs.Ytlipgmaiooljkaa
open Go.ChangeShapes Go.WideShapes Go.ChangeAt Go.RowKit
set_option linter.unusedVariables false

abbrev pkC (p : PollD) : Array Value := #[.string p.u, .string p.m, .int .i64 p.n, .int .i64 p.wt, .int .i64 p.f, .bool p.g]
abbrev anC (a : AnsD) : Array Value := #[.int .i64 a.c, .string a.m, .string a.u, .int .i64 a.af]
theorem below3a (w : World) (x y z : Obj) : Below w.heap.size w (((w.alloc x).alloc y).alloc z) := (((Below.refl _ _).alloc (Nat.le_refl _) _).alloc (by simp) _).alloc (by simp; omega) _
theorem Box.third (w : World) (x y : Obj) (cs : Array Value) (t : TypeId) : Box (((w.alloc x).alloc y).alloc (.cells cs t)) (w.heap.size + 1 + 1) cs t := by
  have := Box.new ((w.alloc x).alloc y) cs t
  simpa using this
theorem out_pk {fn : Func} {p : Tmp} (h : fn.results = #[.cell p 23]) (tmps : Array Value) (w w' : World) (x y : Obj) (q : PollD) (cs : Array Value)
    (hp : tmps.getD p undef = .pointer (some ⟨w.heap.size + 1 + 1, 0, none⟩)) (hw : w' = ((w.alloc x).alloc y).alloc (.cells cs 23)) (hq : cs = pkC q) :
    bodyPost Try.prog fn (fun e w'' => e = .returned (pkV q) ∧ Below w.heap.size w w'') Exit.ret ⟨tmps, []⟩ w' := by
  subst hw hq
  exact bodyPost_ret (results_pk h _ _ _ _ rfl hp (Box.third _ _ _ _ _)) rfl ⟨rfl, below3a _ _ _ _⟩

set_option maxRecDepth 100000 in
set_option maxHeartbeats 1600000 in
theorem refreshed_any (u m am au : ByteArray) (n wt f c af : Int) (g : Bool) (w : World) (h0 : 10 ≤ wt) (h1 : wt ≤ 1000) :
    Calls Try.prog 71 #[pkV ⟨u, m, n, wt, f, g⟩, anV ⟨c, am, au, af⟩] w fun e w' => e = .returned (pkV ⟨u, am, n, max (wt / 2) 10, 0, g⟩) ∧ Below w.heap.size w w' := by
  have HM := Lib.hid (fun h : wt / 2 < 10 => (show max (wt / 2) 10 = 10 by omega))
  have HN := Lib.hid (fun h : 10 ≤ wt / 2 => (show max (wt / 2) 10 = wt / 2 by omega))
  generalize max (wt / 2) 10 = Z at HM HN ⊢
  go_enter Try.func71, Try.ntmps71
  go_wp2
  · exact out_pk rfl _ _ _ _ _ _ _ rfl rfl (by rw [HM.out (by assumption)])
  · exact out_pk rfl _ _ _ _ _ _ _ rfl rfl (by rw [HN.out (by assumption)])

set_option maxRecDepth 100000 in
set_option maxHeartbeats 1600000 in
theorem unchanged_any (u m am au : ByteArray) (n wt f c af : Int) (g : Bool) (w : World) (h0 : 10 ≤ wt) (h1 : wt ≤ 1000) :
    Calls Try.prog 72 #[pkV ⟨u, m, n, wt, f, g⟩, anV ⟨c, am, au, af⟩] w fun e w' => e = .returned (pkV ⟨u, m, n, wt + 10, 0, g⟩) ∧ Below w.heap.size w w' := by
  go_enter Try.func72, Try.ntmps72
  go_wp2
  exact out_pk rfl _ _ _ _ _ _ _ rfl rfl rfl

set_option maxRecDepth 100000 in
set_option maxHeartbeats 1600000 in
theorem ended_any (u m am au : ByteArray) (n wt f c af : Int) (g : Bool) (w : World) :
    Calls Try.prog 74 #[pkV ⟨u, m, n, wt, f, g⟩, anV ⟨c, am, au, af⟩] w fun e w' => e = .returned (pkV ⟨u, m, n, wt, 0, true⟩) ∧ Below w.heap.size w w' := by
  go_enter Try.func74, Try.ntmps74
  go_wp2
  exact out_pk rfl _ _ _ _ _ _ _ rfl rfl rfl

set_option maxRecDepth 100000 in
set_option maxHeartbeats 1600000 in
theorem failed_any (u m am au : ByteArray) (n wt f c af : Int) (g : Bool) (w : World) (h0 : 10 ≤ wt) (h1 : wt ≤ 1000) (hf0 : 0 ≤ f) (hf1 : f ≤ 20) :
    Calls Try.prog 75 #[pkV ⟨u, m, n, wt, f, g⟩, anV ⟨c, am, au, af⟩] w fun e w' => e = .returned (pkV ⟨u, m, n, wt * 2, min (f + 1) 20, g⟩) ∧ Below w.heap.size w w' := by
  have HM := Lib.hid (fun h : f + 1 ≤ 20 => (show min (f + 1) 20 = f + 1 by omega))
  have HN := Lib.hid (fun h : 20 < f + 1 => (show min (f + 1) 20 = 20 by omega))
  generalize min (f + 1) 20 = Z at HM HN ⊢
  by_cases hc : f + 1 ≤ 20
  · have HZ := Lib.hid (HM.out hc)
    clear HM HN
    go_enter Try.func75, Try.ntmps75
    go_wp2
    exact out_pk rfl _ _ _ _ _ _ _ rfl rfl (by rw [HZ.out])
  · have HZ := Lib.hid (HN.out (by omega))
    clear HM HN
    go_enter Try.func75, Try.ntmps75
    go_wp2
    exact out_pk rfl _ _ _ _ _ _ _ rfl rfl (by rw [HZ.out])

set_option maxRecDepth 100000 in
set_option maxHeartbeats 1600000 in
theorem relocated_any (u m am au : ByteArray) (n wt f c af : Int) (g : Bool) (w : World) (h0 : 10 ≤ wt) (h1 : wt ≤ 1000) (hf0 : 0 ≤ f) (hf1 : f ≤ 20) :
    Calls Try.prog 73 #[pkV ⟨u, m, n, wt, f, g⟩, anV ⟨c, am, au, af⟩] w fun e w' => e = .returned (pkV (if au.toList.isEmpty = true then ⟨u, m, n, wt * 2, min (f + 1) 20, g⟩ else ⟨au, ⟨#[]⟩, n, wt, 0, g⟩)) ∧ Below w.heap.size w w' := by
  have HF := Lib.hid (fun w => failed_any u m am au n wt f c af g w h0 h1 hf0 hf1)
  generalize min (f + 1) 20 = Z at HF ⊢
  cases he : au.toList.isEmpty with
  | false =>
    go_enter Try.func73, Try.ntmps73
    go_wp2
    exact out_pk rfl _ _ _ _ _ _ _ rfl rfl rfl
  | true =>
    obtain ⟨W2, hW2⟩ : ∃ W2, W2 = ((w.alloc (.cells #[.string u, .string m, .int .i64 n, .int .i64 wt, .int .i64 f, .bool g] 23)).alloc (.cells #[.int .i64 c, .string am, .string au, .int .i64 af] 37)).alloc (.cells pk0C 23) := ⟨_, rfl⟩
    have hB0 : Below w.heap.size w W2 := by rw [hW2]; exact below3a _ _ _ _
    have hx0 : Box W2 (w.heap.size + 1 + 1) pk0C 23 := by rw [hW2]; exact Box.third _ _ _ _ _
    go_enter Try.func73, Try.ntmps73
    go_wp2_with fail
    rw [← hW2]
    clear hW2
    refine (HF.out _).mono ?_
    rintro e w1 ⟨rfl, hb1⟩
    have hx1 := hx0.keep hb1 hx0.lt
    have hB1 := hB0.trans (hb1.mono hB0.size)
    have x0 := hx1.cell 0 _ rfl
    have x1 := hx1.cell 1 _ rfl
    have x2 := hx1.cell 2 _ rfl
    have x3 := hx1.cell 3 _ rfl
    have x4 := hx1.cell 4 _ rfl
    have x5 := hx1.cell 5 _ rfl
    have f0 := hx1.free 0
    have f1 := hx1.free 1
    have f2 := hx1.free 2
    have f3 := hx1.free 3
    have f4 := hx1.free 4
    have f5 := hx1.free 5
    clear hb1 hx0 hB0 HF
    go_wp2
    refine bodyPost_ret (results_pk rfl _ _ _ _ rfl rfl (hx1.put6 rfl _ _ _ _ _ _)) rfl ?_
    exact ⟨rfl, hB1.trans (below6 _ _ _ (by omega) _ _ _ _ _ _)⟩

/-- How a value that is a named function reads. -/
def fnElem (v : Value) : Option (DataW Unit × List MemPlace) :=
  match v with
  | .nilFunc => some (.lit (.int .i64 (-1)), [])
  | .func (.func n) cs ts => if cs = #[] ∧ ts = #[] then some (.lit (.int .i64 (n : Int)), []) else none
  | _ => none
theorem fnElem_inv {v : Value} {n : Nat} {ps : List MemPlace} (h : fnElem v = some (.lit (.int .i64 (n : Int)), ps)) : v = .func (.func n) #[] #[] := by
  unfold fnElem at h
  split at h
  · simp at h
  · rename_i k cs ts
    split at h
    · rename_i hh
      obtain ⟨rfl, rfl⟩ := hh
      simp at h
      have h2 : k = n := Int.ofNat.inj h.1
      rw [h2]
    · cases h
  · cases h

theorem wpList_insert_own {H : Type} {P : Program} (w : World) {ops : Array Oper} {rest : List Oper} {o : Oper} {a : Act} {Q : Exit → Act → World → Prop}
    (hg : o.guard = none) (m x v : Operand) (t : TypeId) (hop : o.op = Op.insert t m x v)
    (k e : TypeId) (K : Maps.Keyed P k) (ht : P.underlying t = some (.map k e)) (R : Value → Option (DataW H × List MemPlace)) (b n : Nat) (D : DataW H)
    (hm : a.eval m = .map (some b)) (hown : w.ownsMap P k R b n D) (hn : n < maxLen) (key val : Value) (kl : Lit) (hx : a.eval x = key) (hv : a.eval v = val) (hkey : keyOf P k key = some kl)
    (d : DataW H) (ps : List MemPlace) (hval : R val = some (d, ps))
    (hK : ∀ w', w'.ownsMap P k R b (n + 1) (D.put kl d) → w.grownBy w' (some b) → wpList P ops Q rest (a.put o.dst undef) w') :
    wpList P ops Q (o :: rest) a w := by
  refine wpList_plain hg fun K' hK' => ?_
  obtain ⟨w', hrun, r1, r2⟩ := hown.update K ht hn hkey hval
  unfold Oper.wp
  simp [execOp, hop, hm, hx, hv, hrun, Result.andThen]
  exact hK' _ _ (hK w' r1 r2)
/-- The function that a code leads to. -/
def chF (c : Int) : Nat := if c = 200 then 71 else if c = 304 then 72 else if c = 301 ∨ c = 308 then 73 else if c = 410 then 74 else 75
abbrev chD (n : Nat) : DataW Unit := .lit (.int .i64 (n : Int))
abbrev kL (c : Int) : Lit := .int .i64 c
abbrev chM : DataW Unit := (((((DataW.map []).put (kL 200) (chD 71)).put (kL 304) (chD 72)).put (kL 301) (chD 73)).put (kL 308) (chD 73)).put (kL 410) (chD 74)
theorem kL_ne {a b : Int} (h : a ≠ b) : kL a ≠ kL b := fun e => h (by injection e)
theorem ch_none (c : Int) (h1 : c ≠ 200) (h2 : c ≠ 304) (h3 : c ≠ 301) (h4 : c ≠ 308) (h5 : c ≠ 410) : Maps.has chM (kL c) = false := by
  unfold chM
  rw [Maps.has_put_other (kL_ne h5), Maps.has_put_other (kL_ne h4), Maps.has_put_other (kL_ne h3), Maps.has_put_other (kL_ne h2), Maps.has_put_other (kL_ne h1)]
  rfl
theorem im0 : Maps.IsMap (.map [] : DataW Unit) := Maps.isMap_empty
theorem keyL (c : Int) : WideAt.IsKeyLit (kL c) := by simp [WideAt.IsKeyLit]
theorem ch_200 (z : DataW Unit) : Maps.has chM (kL 200) = true ∧ chM.atKey (kL 200) z = chD 71 := by
  unfold chM
  constructor
  · rw [Maps.has_put_other (kL_ne (by decide)), Maps.has_put_other (kL_ne (by decide)), Maps.has_put_other (kL_ne (by decide)), Maps.has_put_other (kL_ne (by decide)), Maps.has_put_same im0 (keyL _)]
  · rw [Maps.atKey_put_other (kL_ne (by decide)), Maps.atKey_put_other (kL_ne (by decide)), Maps.atKey_put_other (kL_ne (by decide)), Maps.atKey_put_other (kL_ne (by decide)), Maps.atKey_put_same im0 (keyL _)]
theorem ch_304 (z : DataW Unit) : Maps.has chM (kL 304) = true ∧ chM.atKey (kL 304) z = chD 72 := by
  unfold chM
  constructor
  · rw [Maps.has_put_other (kL_ne (by decide)), Maps.has_put_other (kL_ne (by decide)), Maps.has_put_other (kL_ne (by decide)), Maps.has_put_same (im0.put _ _) (keyL _)]
  · rw [Maps.atKey_put_other (kL_ne (by decide)), Maps.atKey_put_other (kL_ne (by decide)), Maps.atKey_put_other (kL_ne (by decide)), Maps.atKey_put_same (im0.put _ _) (keyL _)]
theorem ch_301 (z : DataW Unit) : Maps.has chM (kL 301) = true ∧ chM.atKey (kL 301) z = chD 73 := by
  unfold chM
  constructor
  · rw [Maps.has_put_other (kL_ne (by decide)), Maps.has_put_other (kL_ne (by decide)), Maps.has_put_same ((im0.put _ _).put _ _) (keyL _)]
  · rw [Maps.atKey_put_other (kL_ne (by decide)), Maps.atKey_put_other (kL_ne (by decide)), Maps.atKey_put_same ((im0.put _ _).put _ _) (keyL _)]
theorem ch_308 (z : DataW Unit) : Maps.has chM (kL 308) = true ∧ chM.atKey (kL 308) z = chD 73 := by
  unfold chM
  constructor
  · rw [Maps.has_put_other (kL_ne (by decide)), Maps.has_put_same (((im0.put _ _).put _ _).put _ _) (keyL _)]
  · rw [Maps.atKey_put_other (kL_ne (by decide)), Maps.atKey_put_same (((im0.put _ _).put _ _).put _ _) (keyL _)]
theorem ch_410 (z : DataW Unit) : Maps.has chM (kL 410) = true ∧ chM.atKey (kL 410) z = chD 74 := by
  unfold chM
  exact ⟨Maps.has_put_same ((((im0.put _ _).put _ _).put _ _).put _ _) (keyL _) _, Maps.atKey_put_same ((((im0.put _ _).put _ _).put _ _).put _ _) (keyL _) _ _⟩
theorem ch_has (c : Int) (z : DataW Unit) : (Maps.has chM (kL c) = true ∧ chM.atKey (kL c) z = chD (chF c)) ∨ (Maps.has chM (kL c) = false ∧ chF c = 75) := by
  by_cases h1 : c = 200
  · subst h1; exact .inl (ch_200 z)
  · by_cases h2 : c = 304
    · subst h2; exact .inl (ch_304 z)
    · by_cases h3 : c = 301
      · subst h3; exact .inl (ch_301 z)
      · by_cases h4 : c = 308
        · subst h4; exact .inl (ch_308 z)
        · by_cases h5 : c = 410
          · subst h5; exact .inl (ch_410 z)
          · refine .inr ⟨ch_none c h1 h2 h3 h4 h5, ?_⟩
            unfold chF
            rw [if_neg h1, if_neg h2, if_neg (by omega), if_neg h5]
theorem lawK : Maps.Keyed Try.prog 2 := Maps.int_keyed Try.underlying2
theorem Try.zeroFn (w : World) : (zeroValue 82).run Try.prog w = .ok .nilFunc w := by kernel_rfl
theorem below_grown16 {w w0 w' : World} {b : Nat} (h : Below w.heap.size w w0) (hg : w0.grownBy w' (some b)) (hb : w.heap.size ≤ b) : Below w.heap.size w w' :=
  h.grown hg h.size (fun j hj => by cases hj; exact hb)

set_option maxRecDepth 100000 in
set_option maxHeartbeats 1600000 in
theorem changeBy_any (c : Int) (w : World) (hc : (Lit.int .i64 c).wf = true) :
    Calls Try.prog 52 #[.int .i64 c] w fun e w' => e = .returned (.func (.func (chF c)) #[] #[]) ∧ Below w.heap.size w w' := by
  have hmm := @run_makeMap Try.prog
  have h0 : (w.alloc (.map #[] 0)).ownsMap Try.prog 2 fnElem w.heap.size 0 (.map []) := World.ownsMap_made _ _ _ _
  have HB := Lib.hid ((Below.refl w.heap.size w).alloc (Nat.le_refl _) (.map #[] 0))
  have HK := Lib.hid hc
  have hkc : keyOf Try.prog 2 (.int .i64 c) = some (kL c) := Maps.keyOf_int_mk Try.underlying2 hc
  have HH := Lib.hid (ch_has c (.lit (.int .i64 (-1))))
  clear hc
  generalize chF c = F at HH ⊢
  go_enter Try.func52, Try.ntmps52
  go_wp2_with (first | (refine wpList_insert_own _ rfl _ _ _ 111 rfl 2 82 lawK Try.underlying111 fnElem w.heap.size 0 ((DataW.map [] : DataW Unit)) rfl h0 (by decide) (.int .i64 200) (.func (.func 71) #[] #[]) (kL 200) rfl rfl (Maps.keyOf_int_mk Try.underlying2 (by decide)) (chD 71) [] rfl ?_; intro w1 h1 hg1) | (refine wpList_insert_own _ rfl _ _ _ 111 rfl 2 82 lawK Try.underlying111 fnElem w.heap.size 1 (((DataW.map [] : DataW Unit)).put (kL 200) (chD 71)) rfl h1 (by decide) (.int .i64 304) (.func (.func 72) #[] #[]) (kL 304) rfl rfl (Maps.keyOf_int_mk Try.underlying2 (by decide)) (chD 72) [] rfl ?_; intro w2 h2 hg2) | (refine wpList_insert_own _ rfl _ _ _ 111 rfl 2 82 lawK Try.underlying111 fnElem w.heap.size 2 ((((DataW.map [] : DataW Unit)).put (kL 200) (chD 71)).put (kL 304) (chD 72)) rfl h2 (by decide) (.int .i64 301) (.func (.func 73) #[] #[]) (kL 301) rfl rfl (Maps.keyOf_int_mk Try.underlying2 (by decide)) (chD 73) [] rfl ?_; intro w3 h3 hg3) | (refine wpList_insert_own _ rfl _ _ _ 111 rfl 2 82 lawK Try.underlying111 fnElem w.heap.size 3 (((((DataW.map [] : DataW Unit)).put (kL 200) (chD 71)).put (kL 304) (chD 72)).put (kL 301) (chD 73)) rfl h3 (by decide) (.int .i64 308) (.func (.func 73) #[] #[]) (kL 308) rfl rfl (Maps.keyOf_int_mk Try.underlying2 (by decide)) (chD 73) [] rfl ?_; intro w4 h4 hg4) | (refine wpList_insert_own _ rfl _ _ _ 111 rfl 2 82 lawK Try.underlying111 fnElem w.heap.size 4 ((((((DataW.map [] : DataW Unit)).put (kL 200) (chD 71)).put (kL 304) (chD 72)).put (kL 301) (chD 73)).put (kL 308) (chD 73)) rfl h4 (by decide) (.int .i64 410) (.func (.func 74) #[] #[]) (kL 410) rfl rfl (Maps.keyOf_int_mk Try.underlying2 (by decide)) (chD 74) [] rfl ?_; intro w5 h5 hg5) | (refine wpList_lookup_own_ok _ rfl _ _ 111 rfl 2 82 lawK Try.underlying111 fnElem (Try.zeroFn _) (.lit (.int .i64 (-1))) [] rfl w.heap.size 5 chM rfl h5 (.int .i64 c) (kL c) rfl hkc ?_; intro v ps hv))
  all_goals
    have hB5 := below_grown16 (below_grown16 (below_grown16 (below_grown16 (below_grown16 HB.out hg1 (Nat.le_refl _)) hg2 (Nat.le_refl _)) hg3 (Nat.le_refl _)) hg4 (Nat.le_refl _)) hg5 (Nat.le_refl _)
    rename_i hx
    clear h0 h1 h2 h3 h4 h5 hg1 hg2 hg3 hg4 hg5 hmm hkc
    rcases HH.out with ⟨hh, hat⟩ | ⟨hh, hf⟩
  · rw [hat] at hv
    obtain rfl := fnElem_inv hv
    go_ret
    exact ⟨rfl, hB5⟩
  · rw [hh] at hx
    cases hx
  · rw [hh] at hx
    cases hx
  · subst hf
    go_ret
    exact ⟨rfl, hB5⟩
end Go.Proofs.Ytlipgmaiooljkaa

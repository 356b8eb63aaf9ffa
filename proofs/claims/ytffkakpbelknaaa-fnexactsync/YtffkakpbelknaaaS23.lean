/- Joined: RecsB, MarkP. -/
import Derived.Deep.Upon
import Derived.Lib.AppendZerosOnto
import Derived.Test.YtffkakpbelknaaaS3
/- RecsB -/
namespace Go.Proofs.Ytffkakpbelknaaa
open Go.RowKit
set_option linter.unusedVariables false

theorem app_nothing {P : Program} (w : World) (t ty e : TypeId) (i : TypeInfo) (ht : P.underlying t = some (.slice e)) (hi : P.info? e = some i) (base : Option Addr) (sLen sCap : Nat) (hle : sLen ≤ sCap) (a' : Option Addr) (c' : Nat) :
    (Builtin.append_ #[t, t] ty #[.slice base sLen sCap, .slice a' 0 c']).run P w = .ok (.slice base sLen sCap) w := by
  cases base <;> cases a' <;> simp [Builtin.append_, run_underlying ht, sizeOf, typeInfo, hi, Builtin.lenOf, Builtin.firstCells, hle, storeCells, loadCells, loadCellsFrom, Result.andThen]

section
variable {α : Type} {k : Nat} {C : α → List Value}
theorem OwnR.lit (e : TypeId) (w : World) (base : Nat) (hb : base ≤ w.heap.size) : OwnR e k C (w.alloc (.cells #[] e)) base (.slice (some ⟨w.heap.size, 0, none⟩) 0 0) ([] : List α) :=
  World.ownsRow_made w #[] 0 hb (Nat.zero_le _) (by simp)
theorem OwnR.len {e : TypeId} {w : World} {base : Nat} {v : Value} {l : List α} (h : OwnR e k C w base v l) : ∃ a cap, v = .slice a l.length cap ∧ l.length ≤ cap := by
  rcases h.2 with ⟨rfl, hn⟩ | ⟨g, cap, cur, rfl, _, _, hnc, _⟩
  · exact ⟨none, 0, by rw [hn], by omega⟩
  · exact ⟨_, _, rfl, hnc⟩
theorem RecAt.cells {w : World} {B : Nat} {v : Value} {l : List α} (hk : ∀ x, (C x).length = k) (h : RecAt k C w B v l) (hp : 0 < l.length) : ∃ b off cap, v = .slice (some ⟨b, off, none⟩) l.length cap ∧ b < B ∧ ∀ j u, (l.flatMap C)[j]? = some u → w.cell? (Addr.add ⟨b, off, none⟩ j) = some u := by
  obtain ⟨a, cap, hv, h1, h2, hc⟩ := h
  obtain ⟨b, off, rfl, hB, hr⟩ := hc hp
  refine ⟨b, off, cap, hv, hB, fun j u hu => ?_⟩
  have hj : j < l.length * k := by have := (List.getElem?_eq_some_iff.1 hu).1; rwa [flat_len hk] at this
  have h0 : 0 < k := by
    rcases Nat.eq_zero_or_pos k with h | h
    · subst h; omega
    · exact h
  have hd : j / k < l.length := (Nat.div_lt_iff_lt_mul h0).2 hj
  have hm : j % k < k := Nat.mod_lt _ h0
  have e : j = j / k * k + j % k := by rw [Nat.mul_comm]; exact (Nat.div_add_mod j k).symm
  rw [e, flat_get hk l _ _ hd hm] at hu
  have := hr (j / k) hd (j % k) u hu
  rw [Addr.add_lit]
  rw [e, ← Nat.add_assoc]
  exact this
theorem appR_run {P : Program} {t e : TypeId} {by' : Nat} {zv : Value} (hk : ∀ x, (C x).length = k) (h0 : 0 < k) (hu : P.underlying t = some (.slice e)) (hinfo : (P.info? e).map (fun i => (i.zero, i.size, i.bytes)) = some (some zv, k, by')) (hz : zv.cells.size = k) (hby : by' ≤ 1000)
    {w : World} {base B : Nat} {v x : Value} {l l2 : List α} (hown : OwnR e k C w base v l) (hx : RecAt k C w B x l2) (hone : ∀ y ∈ l2, ∀ u ∈ C y, u.oneCell' = true) (hn : l.length + l2.length ≤ 100000000) (hbase : base ≤ w.heap.size) (ty : TypeId) :
    ∃ v' w', (Builtin.append_ #[t, t] ty #[v, x]).run P w = .ok v' w' ∧ OwnR e k C w' base v' (l ++ l2) ∧ w.grownBy w' v.ownBlock := by
  obtain ⟨i0, hi, hz0, hz1, hz2⟩ := info_parts hinfo
  rcases Nat.eq_zero_or_pos l2.length with hl | hl
  · have : l2 = [] := List.eq_nil_of_length_eq_zero hl
    subst this
    obtain ⟨a, cap, rfl, hle⟩ := hown.len
    obtain ⟨a2, cap2, hv2, _⟩ := hx
    subst hv2
    refine ⟨_, w, app_nothing w t ty e i0 hu hi a l.length cap hle a2 cap2, by rw [List.append_nil]; exact hown, World.grownBy.refl _ _⟩
  · obtain ⟨b, off, cap, rfl, hB, hc⟩ := hx.cells hk hl
    have hb8 : (l.length + l2.length) * by' ≤ (l.length + l2.length) * 1000 := Nat.mul_le_mul_left _ hby
    obtain ⟨v', w', hr, ho, hg, _⟩ := run_append_own w base t ty e i0 zv k by' hu hi hz0 hz1 hz2 hz h0 v l.length (l.flatMap C) hown ⟨b, off, none⟩ l2.length cap (l2.flatMap C) (flat_len hk l2) hc (fun u hu => by
      obtain ⟨y, hm, hy⟩ := List.mem_flatMap.1 hu
      exact hone y hm u hy) (by unfold maxLen; omega) (by omega) hbase
    refine ⟨v', w', hr, ?_, hg⟩
    unfold OwnR
    rw [List.length_append, List.flatMap_append]
    exact ho
/-- append(out, s...) of records. -/
theorem wpList_appR {P : Program} {t e : TypeId} {by' : Nat} {zv : Value} (hk : ∀ x, (C x).length = k) (h0 : 0 < k) (hu : P.underlying t = some (.slice e)) (hinfo : (P.info? e).map (fun i => (i.zero, i.size, i.bytes)) = some (some zv, k, by')) (hz : zv.cells.size = k) (hby : by' ≤ 1000)
    {w : World} {ops : Array Oper} {rest : List Oper} {o : Oper} {a : Act} {Q : Exit → Act → World → Prop} (hgd : o.guard = none) (s x : Operand)
    (ho : o.op = .call { callee := .builtin .append, args := #[s, x], argTypes := #[t, t] })
    (base B : Nat) (v xv : Value) (l l2 : List α) (hs : a.eval s = v) (hxe : a.eval x = xv) (hown : OwnR e k C w base v l) (hx : RecAt k C w B xv l2) (hone : ∀ y ∈ l2, ∀ u ∈ C y, u.oneCell' = true) (hn : l.length + l2.length ≤ 100000000) (hbase : base ≤ w.heap.size)
    (h : ∀ v' w', OwnR e k C w' base v' (l ++ l2) → w.grownBy w' v.ownBlock → wpList P ops Q rest (a.put o.dst v') w') :
    wpList P ops Q (o :: rest) a w := by
  refine wpList_plain hgd fun K hK' => ?_
  obtain ⟨v', w', hrun, r1, r2⟩ := appR_run (P := P) (t := t) hk h0 hu hinfo hz hby hown hx hone hn hbase o.type
  unfold Oper.wp
  simp [execOp, ho, resolve, invoke, builtin, hs, hxe, hrun, Result.andThen]
  exact hK' _ _ (h v' w' r1 r2)
end
end Go.Proofs.Ytffkakpbelknaaa

/- MarkP -/
namespace Go.Proofs.Ytffkakpbelknaaa
open Go.ChangeShapes Go.WideShapes Go.ChangeAt Go.RowKit
set_option linter.unusedVariables false

section
variable {α : Type} {k : Nat} {C : α → List Value}

theorem flat_set1 (hk : ∀ x, (C x).length = k) (l : List α) (i j : Nat) (x : α) (u : Value) (hi : i < l.length) (hj : j < k) (hx : C x = (C l[i]).set j u) : (l.flatMap C).set (i * k + j) u = (l.set i x).flatMap C := by
  have h0 : 0 < k := by omega
  apply List.ext_getElem?
  intro m
  by_cases hm : m < l.length * k
  · have hd : m / k < l.length := (Nat.div_lt_iff_lt_mul h0).2 hm
    have hr : m % k < k := Nat.mod_lt _ h0
    have e : m = m / k * k + m % k := by rw [Nat.mul_comm]; exact (Nat.div_add_mod m k).symm
    have hR : ((l.set i x).flatMap C)[m]? = (C ((l.set i x)[m / k]'(by rw [List.length_set]; exact hd)))[m % k]? := by
      have := flat_get hk (l.set i x) (m / k) (m % k) (by rw [List.length_set]; exact hd) hr
      rw [← e] at this
      exact this
    have hL : (l.flatMap C)[m]? = (C l[m / k])[m % k]? := by
      have := flat_get hk l (m / k) (m % k) hd hr
      rw [← e] at this
      exact this
    rw [hR, List.getElem?_set, List.getElem_set]
    by_cases ha : i = m / k
    · subst ha
      rw [if_pos rfl, hx, List.getElem?_set]
      by_cases hb : j = m % k
      · have hmm : m / k * k + j = m := by rw [hb]; exact e.symm
        rw [if_pos hmm, if_pos hb, if_pos (by rw [flat_len hk, hmm]; exact hm), if_pos (by rw [hk]; exact hj)]
      · rw [if_neg (by intro h; apply hb; omega), if_neg hb, hL]
    · rw [if_neg (fun h => ha h)]
      have hne : i * k + j ≠ m := by
        intro h
        apply ha
        have this : (i * k + j) / k = m / k := by rw [h]
        rw [← this, Nat.mul_comm, Nat.mul_add_div h0, Nat.div_eq_of_lt hj, Nat.add_zero]
      rw [if_neg hne, hL]
  · rw [List.getElem?_eq_none (by rw [List.length_set, flat_len hk]; omega), List.getElem?_eq_none (by rw [flat_len hk, List.length_set]; omega)]
theorem OwnR.setF {e : TypeId} {w : World} {base g n cap : Nat} {l : List α} (hk : ∀ x, (C x).length = k) (h : OwnR e k C w base (.slice (some ⟨g, 0, none⟩) n cap) l) (hn : n = l.length) (i j : Nat) (x : α) (u : Value) (hi : i < l.length) (hj : j < k) (hx : C x = (C l[i]).set j u) :
    OwnR e k C (w.setCell ⟨g, i * k + j, none⟩ u) base (.slice (some ⟨g, 0, none⟩) n cap) (l.set i x) := by
  subst hn
  have := (World.ownsRow.stored h (i * k + j) u).1
  rw [flat_set1 hk l i j x u hi hj hx] at this
  unfold OwnR
  rw [List.length_set]
  exact this
theorem OwnR.val {e : TypeId} {w : World} {base g n cap : Nat} {l : List α} (hk : ∀ x, (C x).length = k) (h : OwnR e k C w base (.slice (some ⟨g, 0, none⟩) n cap) l) (hn : n = l.length) (i j : Nat) (u : Value) (hi : i < l.length) (hu : (C l[i])[j]? = some u) : w.cell? ⟨g, i * k + j, none⟩ = some u := by
  subst hn
  have hj : j < k := by have := (List.getElem?_eq_some_iff.1 hu).1; rwa [hk] at this
  have hlt : i * k + j < l.length * k := by
    have hm' : (i + 1) * k ≤ l.length * k := Nat.mul_le_mul_right _ hi
    have e : (i + 1) * k = i * k + k := Nat.succ_mul i k
    omega
  rw [World.ownsRow.cellAt h (i * k + j) hlt, flat_get hk l i j hi hj]
  exact hu
end
theorem gb_set1 {w w1 : World} (b o : Nat) (u : Value) (h : w.grownBy w1 (some b)) : w.grownBy (w1.setCell ⟨b, o, none⟩ u) (some b) :=
  ⟨h.os, h.tape, h.output, by simpa [World.setCell] using h.size, fun k hk hn => (Below.heap_setCell _ _ _ _ (fun e => hn (by rw [e]))).trans (h.block k hk hn)⟩
theorem OwnR.form {α : Type} {k : Nat} {C : α → List Value} {e : TypeId} {w : World} {B n cap : Nat} {a : Option Addr} {l : List α} (h : OwnR e k C w B (.slice a n cap) l) (h0 : 0 < l.length) : ∃ g, a = some ⟨g, 0, none⟩ ∧ B ≤ g ∧ g < w.heap.size ∧ n = l.length := by
  rcases h.2 with ⟨hv, hn⟩ | ⟨g, cap', cur, hv, hb, hg, rest⟩
  · omega
  · cases hv
    exact ⟨g, rfl, hb, (Array.getElem?_eq_some_iff.1 hg).1, rfl⟩

def mtD (k : Nat) : ByteArray := ⟨#[UInt8.ofNat (48 + k % 10)]⟩
/-- Digits ahead of what is there. -/
def mtF : Nat → Nat → ByteArray → ByteArray
  | 0, _, o => o
  | f + 1, k, o => if k = 0 then o else mtF f (k / 10) (mtD k ++ o)
theorem mtF_none (f : Nat) (o : ByteArray) : mtF f 0 o = o := by cases f <;> rfl
theorem mtF_step (f k : Nat) (o : ByteArray) (h : 0 < k) : mtF (f + 1) k o = mtF f (k / 10) (mtD k ++ o) := by
  show (if k = 0 then o else mtF f (k / 10) (mtD k ++ o)) = _
  rw [if_neg (by omega)]
theorem mtF_size (f : Nat) : ∀ (k : Nat) (o : ByteArray), (mtF f k o).size ≤ o.size + f := by
  induction f with
  | zero => intro k o; exact Nat.le_refl _
  | succ f ih =>
    intro k o
    by_cases h : k = 0
    · subst h; rw [mtF_none]; omega
    · rw [mtF_step f k o (by omega)]
      have := ih (k / 10) (mtD k ++ o)
      have h2 : (mtD k ++ o).size = 1 + o.size := by rw [ByteArray.size_append]; rfl
      omega
theorem mt_div {f n : Nat} (h : n < 10 ^ (f + 1)) : n / 10 < 10 ^ f := by
  rw [Nat.pow_succ] at h
  omega
/-- The text of a mark. -/
def mtX (k : Int) : ByteArray := ⟨#[109]⟩ ++ mtF 19 k.toNat ⟨#[]⟩
theorem mtX_size (k : Int) : (mtX k).size ≤ 20 := by
  unfold mtX
  rw [ByteArray.size_append]
  have := mtF_size 19 k.toNat ⟨#[]⟩
  have h1 : (⟨#[109]⟩ : ByteArray).size = 1 := rfl
  have h2 : (⟨#[]⟩ : ByteArray).size = 0 := rfl
  omega

theorem byte_cellsM (x : Int) (h0 : 0 ≤ x) (h1 : x < 256) : (#[Value.int .u8 x] : Array Value).toList = [UInt8.ofNat x.toNat].map bc := by
  have : ((UInt8.ofNat x.toNat).toNat : Int) = x := by
    rw [UInt8.toNat_ofNat', Nat.mod_eq_of_lt (by simp; omega)]; omega
  show [Value.int .u8 x] = [bc _]
  unfold bc; rw [this]
theorem conv_oneM (w : World) (z : Int) (h0 : 0 ≤ z) (h1 : z < 256) :
    (convert 22 9 (.slice (some ⟨w.heap.size, 0, none⟩) 1 1)).run Try.prog (w.alloc (.cells #[.int .u8 z] 5)) = .ok (.string ⟨[UInt8.ofNat z.toNat].toArray⟩) (w.alloc (.cells #[.int .u8 z] 5)) := by
  refine conv_ownB (base := w.heap.size) ?_
  have := World.ownsRow_lit (base := w.heap.size) (e := 5) (size := 1) w #[.int .u8 z] 1 (Nat.le_refl _) (by decide) rfl
  rw [byte_cellsM z h0 h1] at this
  exact this

set_option maxRecDepth 100000 in
set_option maxHeartbeats 1600000 in
theorem markText_any (k : Int) (w : World) (h0 : 0 < k) (h1 : k < 1000000000000000000) :
    Calls Try.prog 134 #[.int .i64 k] w fun e w' => e = .returned (.string (mtX k)) ∧ Below w.heap.size w w' := by
  have HR : Hid (∀ o, mtF 19 k.toNat ⟨#[]⟩ = o → mtX k = ⟨#[109]⟩ ++ o) := Lib.hid (fun o h => by rw [← h]; rfl)
  have HN : Hid (k.toNat < 10 ^ 19) := Lib.hid (by have : (10 : Nat) ^ 19 = 10000000000000000000 := rfl; omega)
  have HM : Hid (0 ≤ k ∧ k ≤ 1000000000000000000) := Lib.hid ⟨by omega, by omega⟩
  obtain ⟨R, hR⟩ : ∃ R, mtF 19 k.toNat ⟨#[]⟩ = R := ⟨_, rfl⟩
  have HX := Lib.hid (HR.out R hR)
  have HG := Lib.hid hR
  have hRs : R.size ≤ 19 := by
    have := mtF_size 19 k.toNat ⟨#[]⟩
    rw [hR] at this
    have h2 : (⟨#[]⟩ : ByteArray).size = 0 := rfl
    omega
  rw [HX.out]
  have hpos : decide (k ≤ 0) = false := decide_eq_false (by omega)
  clear hR HR HX h0 h1
  go_enter Try.func134, Try.ntmps134
  go_wp2
  go_loopw [0, 3] (fun i s wr => ∃ (q : Int) (f : Nat) (o : ByteArray), i = .int .i64 q ∧ s = .string o ∧ Hid (0 ≤ q ∧ q ≤ 1000000000000000000) ∧ Hid (q.toNat < 10 ^ f) ∧ o.size + f ≤ 19 ∧ Hid (mtF f q.toNat o = R) ∧ Below w.heap.size w wr) (fun i _ _ => (intOf i).toNat)
  case atStart => exact ⟨k, 19, ⟨#[]⟩, rfl, rfl, HM, HN, Nat.le_refl _, HG, Below.refl _ _⟩
  case round =>
    obtain ⟨q, f, o, rfl, rfl, HM, HQ, hos, HE, hB⟩ := hrel
    by_cases hq : 0 < q
    · have hd : decide (0 < q) = true := decide_eq_true hq
      cases f with
      | zero =>
        have := HQ.out
        simp at this
        omega
      | succ f =>
        have HQ2 : Hid ((q.tdiv 10).toNat < 10 ^ f) := Lib.hid (by
          have e : (q.tdiv 10).toNat = q.toNat / 10 := by rw [Int.tdiv_eq_ediv_of_nonneg (by omega)]; omega
          rw [e]; exact mt_div HQ.out)
        have HE2 : Hid (mtF f (q.tdiv 10).toNat (mtD q.toNat ++ o) = R) := Lib.hid (by
          have e : (q.tdiv 10).toNat = q.toNat / 10 := by rw [Int.tdiv_eq_ediv_of_nonneg (by omega)]; omega
          rw [e, ← mtF_step f q.toNat o (by omega)]; exact HE.out)
        have HM2 : Hid (0 ≤ q.tdiv 10 ∧ q.tdiv 10 ≤ 1000000000000000000) := Lib.hid (by
          have := HM.out
          rw [Int.tdiv_eq_ediv_of_nonneg (by omega)]; omega)
        have hw : IntKind.i64.wrap (q.tdiv 10) = q.tdiv 10 := by
          have := HM2.out
          rw [IntKind.wrap_i64]; omega
        have hw2 : IntKind.i64.wrap (q.tmod 10) = q.tmod 10 := by
          have := HM.out
          rw [IntKind.wrap_i64, Int.tmod_eq_emod_of_nonneg (by omega)]; omega
        have hw3 : IntKind.i64.wrap (48 + q.tmod 10) = 48 + q.tmod 10 := by
          have := HM.out
          rw [IntKind.wrap_i64, Int.tmod_eq_emod_of_nonneg (by omega)]; omega
        have hcv : (convert 22 9 (.slice (some ⟨wr.heap.size, 0, none⟩) 1 1)).run Try.prog (wr.alloc (.cells #[.int .u8 (48 + q % 10)] 5)) = .ok (.string (mtD q.toNat)) (wr.alloc (.cells #[.int .u8 (48 + q % 10)] 5)) := by
          have := HM.out
          have h := conv_oneM wr (48 + q % 10) (by omega) (by omega)
          have e : (⟨[UInt8.ofNat (48 + q % 10).toNat].toArray⟩ : ByteArray) = mtD q.toNat := by
            unfold mtD
            rw [show (48 + q % 10).toNat = 48 + q.toNat % 10 by omega]
          rw [e] at h
          exact h
        obtain ⟨dD, hdD⟩ : ∃ d, d = mtD q.toNat := ⟨_, rfl⟩
        have hds : dD.size = 1 := by rw [hdD]; rfl
        rw [← hdD] at hcv HE2
        clear hdD
        have hsz : dD.size + o.size ≤ 9223372036854775807 := by omega
        have hB2 : Below w.heap.size w (wr.alloc (.cells #[.int .u8 (48 + q % 10)] 5)) := hB.alloc hB.size _
        go_wp2
        refine ⟨⟨q.tdiv 10, f, dD ++ o, rfl, rfl, HM2, HQ2, by rw [ByteArray.size_append]; omega, HE2, hB2⟩, ?_⟩
        have := HM.out
        simp only [intOf]
        rw [Int.tdiv_eq_ediv_of_nonneg (by omega)]; omega
    · have hd : decide (0 < q) = false := decide_eq_false hq
      have HO : Hid (o = R) := Lib.hid (by
        have h := HE.out
        rw [show q.toNat = 0 by omega, mtF_none] at h
        exact h)
      have hsz : (⟨#[109]⟩ : ByteArray).size + o.size ≤ 9223372036854775807 := by
        have : (⟨#[109]⟩ : ByteArray).size = 1 := rfl
        omega
      go_wp2
      go_ret
      exact ⟨by rw [HO.out]; rfl, hB⟩

theorem gb_Below {w w' : World} {row : Option Nat} {B : Nat} (h : w.grownBy w' row) (hB : B ≤ w.heap.size) (hr : ∀ b, row = some b → B ≤ b) : Below B w w' :=
  ⟨h.os, h.tape, h.output, h.size, fun k hk => h.block k (by omega) (fun e => by have := hr k e.symm; omega)⟩
def Mid (B S : Nat) (w w' : World) : Prop := Below B w w' ∧ ∀ g, S ≤ g → g < w.heap.size → w'.heap[g]? = w.heap[g]?
theorem Mid.refl {B S : Nat} (w : World) : Mid B S w w := ⟨Below.refl _ _, fun _ _ _ => rfl⟩
theorem Mid.trans {B S : Nat} {w w' w'' : World} (h : Mid B S w w') (h' : Mid B S w' w'') : Mid B S w w'' :=
  ⟨h.1.trans h'.1, fun g hg hw => (h'.2 g hg (by have := h.1.size; omega)).trans (h.2 g hg hw)⟩
theorem Mid.below {B S : Nat} {w w' : World} (h : Below w.heap.size w w') (hB : B ≤ w.heap.size) : Mid B S w w' :=
  ⟨h.mono hB, fun g _ hw => h.block g hw⟩
theorem Mid.gb {B S : Nat} {w w' : World} {row : Option Nat} (h : w.grownBy w' row) (hB : B ≤ w.heap.size) (hr : ∀ b, row = some b → B ≤ b ∧ b < S) : Mid B S w w' :=
  ⟨gb_Below h hB (fun b hb => (hr b hb).1), fun g hg hw => h.block g hw (fun e => by have := hr g e.symm; omega)⟩
theorem Mid.setCell {B S : Nat} {w w' : World} (h : Mid B S w w') (p : Addr) (x : Value) (h1 : B ≤ p.block) (h2 : p.block < S) : Mid B S w (w'.setCell p x) :=
  ⟨h.1.setCell h1 x, fun g hg hw => (Below.heap_setCell _ _ _ _ (by omega)).trans (h.2 g hg hw)⟩
theorem OwnR.mid {α : Type} {k : Nat} {C : α → List Value} {e : TypeId} {w w' : World} {B S base : Nat} {v : Value} {l : List α} (h : OwnR e k C w base v l) (hm : Mid B S w w') (hS : S ≤ base) : OwnR e k C w' base v l := by
  refine ⟨h.1, ?_⟩
  rcases h.2 with hn | ⟨g, cap, cur, rfl, hb', hg, rest⟩
  · exact .inl hn
  · refine .inr ⟨g, cap, cur, rfl, hb', ?_, rest⟩
    rw [hm.2 g (by omega) (Array.getElem?_eq_some_iff.1 hg).1]
    exact hg
section
variable {α : Type} {k : Nat} {C : α → List Value}
/-- One field of a record that was put into a row. -/
theorem own_fld {e : TypeId} {w : World} {base g n cap : Nat} {L : List α} {x x' : α} (hk : ∀ x, (C x).length = k) {i : Nat} (h : OwnR e k C w base (.slice (some ⟨g, 0, none⟩) n cap) (L.set i x)) (hn : n = L.length) (hi : i < L.length) (j : Nat) (u : Value) (hj : j < k) (hx : C x' = (C x).set j u) :
    OwnR e k C (w.setCell ⟨g, i * k + j, none⟩ u) base (.slice (some ⟨g, 0, none⟩) n cap) (L.set i x') := by
  have e1 : (L.set i x)[i]'(by rw [List.length_set]; exact hi) = x := List.getElem_set_self _
  have := h.setF hk (by rw [List.length_set]; exact hn) i j x' u (by rw [List.length_set]; exact hi) hj (by rw [e1]; exact hx)
  rw [List.set_set] at this
  exact this
theorem own_start {e : TypeId} {w : World} {base : Nat} {v : Value} {L : List α} {i : Nat} (h : OwnR e k C w base v L) (hi : i < L.length) : OwnR e k C w base v (L.set i L[i]) := by
  rw [List.set_getElem_self]
  exact h
theorem own_cell {e : TypeId} {w : World} {base g n cap : Nat} {L : List α} {x : α} (hk : ∀ x, (C x).length = k) {i : Nat} (h : OwnR e k C w base (.slice (some ⟨g, 0, none⟩) n cap) (L.set i x)) (hn : n = L.length) (hi : i < L.length) (j : Nat) (u : Value) (hu : (C x)[j]? = some u) : w.cell? ⟨g, i * k + j, none⟩ = some u := by
  have e1 : (L.set i x)[i]'(by rw [List.length_set]; exact hi) = x := List.getElem_set_self _
  exact h.val hk (by rw [List.length_set]; exact hn) i j u (by rw [List.length_set]; exact hi) (by rw [e1]; exact hu)
theorem own_free {e : TypeId} {w : World} {base g n cap : Nat} {L : List α} {x : α} {i : Nat} (h : OwnR e k C w base (.slice (some ⟨g, 0, none⟩) n cap) (L.set i x)) (hn : n = L.length) (j : Nat) : w.frozen? ⟨g, j, none⟩ = false :=
  h.free (by rw [List.length_set]; exact hn) j
end

theorem gb_any {w w' : World} {row : Option Nat} (h : Below w.heap.size w w') : w.grownBy w' row := ⟨h.os, h.tape, h.output, h.size, fun k hk _ => h.block k hk⟩
end Go.Proofs.Ytffkakpbelknaaa

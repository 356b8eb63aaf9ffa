/- Joined: M9a, M9b, M9c, W9zr. -/
import Derived.Test.YtffkakpbelknaaaH23
import Derived.Test.YtffkakpbelknaaaH35
import Derived.Test.YtffkakpbelknaaaH36
/- M9a -/
namespace Go.Proofs.Ytffkakpbelknaaa
open Go.ChangeShapes Go.WideShapes Go.ChangeAt Go.RowKit
set_option linter.unusedVariables false

theorem apart_snoc {qs : List (Sb × Value)} {g0 B : Nat} {q : Sb × Value} (h : ApartD (some g0 :: qs.map fun p => p.2.ownBlock)) (hg : g0 < B) (hq : q.2.ownBlock = none ∨ ∃ g, q.2.ownBlock = some g ∧ B ≤ g) (hp : ∀ p ∈ qs, p.2.ownBlock = none ∨ ∃ g, p.2.ownBlock = some g ∧ g < B) : ApartD (some g0 :: (qs ++ [q]).map fun p => p.2.ownBlock) := by
  unfold ApartD at h ⊢
  rw [List.map_append, ← List.cons_append, List.pairwise_append]
  refine ⟨h, by simp, fun a ha b hb => ?_⟩
  obtain rfl : b = q.2.ownBlock := by simpa using hb
  rcases List.mem_cons.1 ha with rfl | h1
  · right
    rcases hq with h2 | ⟨g, h2, h3⟩
    · rw [h2]; intro h4; cases h4
    · rw [h2]; intro h4; cases h4; omega
  · obtain ⟨p, hp1, rfl⟩ := List.mem_map.1 h1
    rcases hp p hp1 with h5 | ⟨g1, h5, h6⟩
    · exact .inl h5
    · right
      rcases hq with h2 | ⟨g, h2, h3⟩
      · rw [h2, h5]; intro h4; cases h4
      · rw [h2, h5]; intro h4; cases h4; omega
def OutSD (ss : List Sb) (w : World) (e : Ending) (w' : World) : Prop := ∃ v qs, e = .returned v ∧ qs.map Prod.fst = ss ∧ OwnD w' w.heap.size v qs ∧ Below w.heap.size w w'
def OutRD (ss : List Sb) (w : World) (e : Ending) (w' : World) : Prop := ∃ v qs, e = .returned (.agg #[v]) ∧ qs.map Prod.fst = ss ∧ OwnD w' w.heap.size v qs ∧ Below w.heap.size w w'


end Go.Proofs.Ytffkakpbelknaaa

/- M9b -/
namespace Go.Proofs.Ytffkakpbelknaaa
open Go.ChangeShapes Go.WideShapes Go.ChangeAt Go.RowKit
set_option linter.unusedVariables false

def mtD (k : Nat) : ByteArray := ⟨#[UInt8.ofNat (48 + k % 10)]⟩
/-- Digits ahead of what is there. -/
def mtF : Nat → Nat → ByteArray → ByteArray
  | 0, _, o => o
  | f + 1, k, o => if k = 0 then o else mtF f (k / 10) (mtD k ++ o)
theorem mtF_none (f : Nat) (o : ByteArray) : mtF f 0 o = o := by cases f <;> rfl
theorem mtF_step (f k : Nat) (o : ByteArray) (h : 0 < k) : mtF (f + 1) k o = mtF f (k / 10) (mtD k ++ o) := by
  show (if k = 0 then o else mtF f (k / 10) (mtD k ++ o)) = _
  rw [if_neg (by omega)]
theorem mtF_size (f : Nat) : ∀ (k : Nat) (o : ByteArray), (mtF f k o).size ≤ o.size + f := by
  induction f with
  | zero => intro k o; exact Nat.le_refl _
  | succ f ih =>
    intro k o
    by_cases h : k = 0
    · subst h; rw [mtF_none]; omega
    · rw [mtF_step f k o (by omega)]
      have := ih (k / 10) (mtD k ++ o)
      have h2 : (mtD k ++ o).size = 1 + o.size := by rw [ByteArray.size_append]; rfl
      omega
theorem mt_div {f n : Nat} (h : n < 10 ^ (f + 1)) : n / 10 < 10 ^ f := by
  rw [Nat.pow_succ] at h
  omega
/-- The text of a mark. -/
def mtX (k : Int) : ByteArray := ⟨#[109]⟩ ++ mtF 19 k.toNat ⟨#[]⟩
theorem mtX_size (k : Int) : (mtX k).size ≤ 20 := by
  unfold mtX
  rw [ByteArray.size_append]
  have := mtF_size 19 k.toNat ⟨#[]⟩
  have h1 : (⟨#[109]⟩ : ByteArray).size = 1 := rfl
  have h2 : (⟨#[]⟩ : ByteArray).size = 0 := rfl
  omega

/-- An entry with marks from k on. -/
def maE (k : Int) : En := ⟨⟨mtX k, mtX (k + 1), k + 1 + 1⟩, (k + 1 + 1 + 1) % 3 == 0, (k + 1 + 1 + 1 + 1) % 3 == 0⟩
def maEs (n : Nat) (m : Int) : List En := (List.range n).map fun i : Nat => maE (m + 5 * (i : Int))
theorem maEs_len (n : Nat) (m : Int) : (maEs n m).length = n := by simp [maEs]
theorem maEs_get (n : Nat) (m : Int) (i : Nat) (h : i < (maEs n m).length) : (maEs n m)[i] = maE (m + 5 * (i : Int)) := by simp [maEs]
theorem maEs_snoc (n : Nat) (m : Int) : maEs (n + 1) m = maEs n m ++ [maE (m + 5 * (n : Int))] := by
  unfold maEs
  rw [List.range_succ, List.map_append]
  rfl
theorem maEs_set (es : List En) (m : Int) (k : Nat) (h : k < es.length) : (maEs k m ++ es.drop k).set k (maE (m + 5 * (k : Int))) = maEs (k + 1) m ++ es.drop (k + 1) := by
  rw [List.set_append_right _ _ (by rw [maEs_len]; exact Nat.le_refl _), maEs_len, Nat.sub_self, List.drop_eq_getElem_cons h, List.set_cons_zero, maEs_snoc, List.append_assoc]
  rfl
theorem maEs_sz (n : Nat) (m : Int) : ∀ x ∈ maEs n m, EnSz x := by
  intro x hx
  obtain ⟨i, hi, rfl⟩ := List.getElem_of_mem hx
  rw [maEs_get]
  have h1 := mtX_size (m + 5 * (i : Int))
  have h2 := mtX_size (m + 5 * (i : Int) + 1)
  unfold EnSz maE maxLen
  simp only
  omega
/-- A feed with marks; where they end. -/
def maS1 (s : Sb) (m : Int) : Sb := ⟨mtX m, mtX (m + 1), maEs s.es.length (m + 1 + 1)⟩
def maN1 (s : Sb) (m : Int) : Int := m + 1 + 1 + 5 * (s.es.length : Int)
def maS : List Sb → Int → List Sb
  | [], _ => []
  | s :: ss, m => maS1 s m :: maS ss (maN1 s m)
def maN : List Sb → Int → Int
  | [], m => m
  | s :: ss, m => maN ss (maN1 s m)
theorem maN_app (a b : List Sb) (m : Int) : maN (a ++ b) m = maN b (maN a m) := by
  induction a generalizing m with
  | nil => rfl
  | cons s a ih => exact ih _
theorem maS_app (a b : List Sb) (m : Int) : maS (a ++ b) m = maS a m ++ maS b (maN a m) := by
  induction a generalizing m with
  | nil => rfl
  | cons s a ih =>
    show maS1 s m :: maS (a ++ b) (maN1 s m) = _
    rw [ih]
    rfl
theorem maS_len (a : List Sb) (m : Int) : (maS a m).length = a.length := by
  induction a generalizing m with
  | nil => rfl
  | cons s a ih => exact congrArg Nat.succ (ih _)
theorem maN_take (ss : List Sb) (m : Int) (k : Nat) (h : k < ss.length) : maN (ss.take (k + 1)) m = maN1 ss[k] (maN (ss.take k) m) := by
  rw [List.take_succ_eq_append_getElem h, maN_app]
  rfl
theorem maS_take (ss : List Sb) (m : Int) (k : Nat) (h : k < ss.length) : maS (ss.take (k + 1)) m = maS (ss.take k) m ++ [maS1 ss[k] (maN (ss.take k) m)] := by
  rw [List.take_succ_eq_append_getElem h, maS_app]
  rfl
theorem maN_le (ss : List Sb) (m : Int) (q : Nat) (hq : ∀ s ∈ ss, s.es.length ≤ q) : m ≤ maN ss m ∧ maN ss m ≤ m + (ss.length : Int) * (2 + 5 * (q : Int)) := by
  induction ss generalizing m with
  | nil => unfold maN; simp
  | cons s ss ih =>
    have h1 := ih (maN1 s m) (fun x hx => hq x (List.mem_cons_of_mem _ hx))
    have h2 := hq s List.mem_cons_self
    have h3 : maN (s :: ss) m = maN ss (maN1 s m) := rfl
    rw [h3, List.length_cons]
    have h4 : m ≤ maN1 s m ∧ maN1 s m ≤ m + (2 + 5 * (q : Int)) := by unfold maN1; omega
    have h5 : (((ss.length + 1 : Nat) : Int)) * (2 + 5 * (q : Int)) = (ss.length : Int) * (2 + 5 * (q : Int)) + (2 + 5 * (q : Int)) := by
      rw [Int.natCast_add, Int.add_mul]; simp
    omega
theorem maS_sz (ss : List Sb) (m : Int) : ∀ s ∈ maS ss m, SbSz s ∧ ∀ x ∈ s.es, EnSz x := by
  induction ss generalizing m with
  | nil => intro s hs; cases hs
  | cons a ss ih =>
    intro s hs
    rcases List.mem_cons.1 hs with rfl | h
    · refine ⟨?_, maEs_sz a.es.length (m + 1 + 1)⟩
      have h1 := mtX_size m
      have h2 := mtX_size (m + 1)
      unfold SbSz maS1 maxLen
      simp only
      omega
    · exact ih _ s h
/-- Items with marks. -/
def maI (k : Int) : It := ⟨mtX k, mtX (k + 1), k + 1 + 1⟩
def maIs (n : Nat) (m : Int) : List It := (List.range n).map fun i : Nat => maI (m + 3 * (i : Int))
theorem maIs_len (n : Nat) (m : Int) : (maIs n m).length = n := by simp [maIs]
theorem maIs_get (n : Nat) (m : Int) (i : Nat) (h : i < (maIs n m).length) : (maIs n m)[i] = maI (m + 3 * (i : Int)) := by simp [maIs]
theorem maIs_snoc (n : Nat) (m : Int) : maIs (n + 1) m = maIs n m ++ [maI (m + 3 * (n : Int))] := by
  unfold maIs
  rw [List.range_succ, List.map_append]
  rfl
theorem maIs_set (es : List It) (m : Int) (k : Nat) (h : k < es.length) : (maIs k m ++ es.drop k).set k (maI (m + 3 * (k : Int))) = maIs (k + 1) m ++ es.drop (k + 1) := by
  rw [List.set_append_right _ _ (by rw [maIs_len]; exact Nat.le_refl _), maIs_len, Nat.sub_self, List.drop_eq_getElem_cons h, List.set_cons_zero, maIs_snoc, List.append_assoc]
  rfl
end Go.Proofs.Ytffkakpbelknaaa

/- M9c -/
namespace Go.Proofs.Ytffkakpbelknaaa
open Go.ChangeShapes Go.WideShapes Go.ChangeAt Go.RowKit
set_option linter.unusedVariables false

theorem byte_cellsM (x : Int) (h0 : 0 ≤ x) (h1 : x < 256) : (#[Value.int .u8 x] : Array Value).toList = [UInt8.ofNat x.toNat].map bc := by
  have : ((UInt8.ofNat x.toNat).toNat : Int) = x := by
    rw [UInt8.toNat_ofNat', Nat.mod_eq_of_lt (by simp; omega)]; omega
  show [Value.int .u8 x] = [bc _]
  unfold bc; rw [this]
theorem conv_oneM (w : World) (z : Int) (h0 : 0 ≤ z) (h1 : z < 256) :
    (convert 22 9 (.slice (some ⟨w.heap.size, 0, none⟩) 1 1)).run Try.prog (w.alloc (.cells #[.int .u8 z] 5)) = .ok (.string ⟨[UInt8.ofNat z.toNat].toArray⟩) (w.alloc (.cells #[.int .u8 z] 5)) := by
  refine conv_ownB (base := w.heap.size) ?_
  have := World.ownsRow_lit (base := w.heap.size) (e := 5) (size := 1) w #[.int .u8 z] 1 (Nat.le_refl _) (by decide) rfl
  rw [byte_cellsM z h0 h1] at this
  exact this

set_option maxRecDepth 100000 in
set_option maxHeartbeats 1600000 in
theorem markText_any (k : Int) (w : World) (h0 : 0 < k) (h1 : k < 1000000000000000000) :
    Calls Try.prog 134 #[.int .i64 k] w fun e w' => e = .returned (.string (mtX k)) ∧ Below w.heap.size w w' := by
  have HR : Hid (∀ o, mtF 19 k.toNat ⟨#[]⟩ = o → mtX k = ⟨#[109]⟩ ++ o) := Lib.hid (fun o h => by rw [← h]; rfl)
  have HN : Hid (k.toNat < 10 ^ 19) := Lib.hid (by have : (10 : Nat) ^ 19 = 10000000000000000000 := rfl; omega)
  have HM : Hid (0 ≤ k ∧ k ≤ 1000000000000000000) := Lib.hid ⟨by omega, by omega⟩
  obtain ⟨R, hR⟩ : ∃ R, mtF 19 k.toNat ⟨#[]⟩ = R := ⟨_, rfl⟩
  have HX := Lib.hid (HR.out R hR)
  have HG := Lib.hid hR
  have hRs : R.size ≤ 19 := by
    have := mtF_size 19 k.toNat ⟨#[]⟩
    rw [hR] at this
    have h2 : (⟨#[]⟩ : ByteArray).size = 0 := rfl
    omega
  rw [HX.out]
  have hpos : decide (k ≤ 0) = false := decide_eq_false (by omega)
  clear hR HR HX h0 h1
  go_enter Try.func134, Try.ntmps134
  go_wp2
  go_loopw [0, 3] (fun i s wr => ∃ (q : Int) (f : Nat) (o : ByteArray), i = .int .i64 q ∧ s = .string o ∧ Hid (0 ≤ q ∧ q ≤ 1000000000000000000) ∧ Hid (q.toNat < 10 ^ f) ∧ o.size + f ≤ 19 ∧ Hid (mtF f q.toNat o = R) ∧ Below w.heap.size w wr) (fun i _ _ => (intOf i).toNat)
  case atStart => exact ⟨k, 19, ⟨#[]⟩, rfl, rfl, HM, HN, Nat.le_refl _, HG, Below.refl _ _⟩
  case round =>
    obtain ⟨q, f, o, rfl, rfl, HM, HQ, hos, HE, hB⟩ := hrel
    by_cases hq : 0 < q
    · have hd : decide (0 < q) = true := decide_eq_true hq
      cases f with
      | zero =>
        have := HQ.out
        simp at this
        omega
      | succ f =>
        have HQ2 : Hid ((q.tdiv 10).toNat < 10 ^ f) := Lib.hid (by
          have e : (q.tdiv 10).toNat = q.toNat / 10 := by rw [Int.tdiv_eq_ediv_of_nonneg (by omega)]; omega
          rw [e]; exact mt_div HQ.out)
        have HE2 : Hid (mtF f (q.tdiv 10).toNat (mtD q.toNat ++ o) = R) := Lib.hid (by
          have e : (q.tdiv 10).toNat = q.toNat / 10 := by rw [Int.tdiv_eq_ediv_of_nonneg (by omega)]; omega
          rw [e, ← mtF_step f q.toNat o (by omega)]; exact HE.out)
        have HM2 : Hid (0 ≤ q.tdiv 10 ∧ q.tdiv 10 ≤ 1000000000000000000) := Lib.hid (by
          have := HM.out
          rw [Int.tdiv_eq_ediv_of_nonneg (by omega)]; omega)
        have hw : IntKind.i64.wrap (q.tdiv 10) = q.tdiv 10 := by
          have := HM2.out
          rw [IntKind.wrap_i64]; omega
        have hw2 : IntKind.i64.wrap (q.tmod 10) = q.tmod 10 := by
          have := HM.out
          rw [IntKind.wrap_i64, Int.tmod_eq_emod_of_nonneg (by omega)]; omega
        have hw3 : IntKind.i64.wrap (48 + q.tmod 10) = 48 + q.tmod 10 := by
          have := HM.out
          rw [IntKind.wrap_i64, Int.tmod_eq_emod_of_nonneg (by omega)]; omega
        have hcv : (convert 22 9 (.slice (some ⟨wr.heap.size, 0, none⟩) 1 1)).run Try.prog (wr.alloc (.cells #[.int .u8 (48 + q % 10)] 5)) = .ok (.string (mtD q.toNat)) (wr.alloc (.cells #[.int .u8 (48 + q % 10)] 5)) := by
          have := HM.out
          have h := conv_oneM wr (48 + q % 10) (by omega) (by omega)
          have e : (⟨[UInt8.ofNat (48 + q % 10).toNat].toArray⟩ : ByteArray) = mtD q.toNat := by
            unfold mtD
            rw [show (48 + q % 10).toNat = 48 + q.toNat % 10 by omega]
          rw [e] at h
          exact h
        obtain ⟨dD, hdD⟩ : ∃ d, d = mtD q.toNat := ⟨_, rfl⟩
        have hds : dD.size = 1 := by rw [hdD]; rfl
        rw [← hdD] at hcv HE2
        clear hdD
        have hsz : dD.size + o.size ≤ 9223372036854775807 := by omega
        have hB2 : Below w.heap.size w (wr.alloc (.cells #[.int .u8 (48 + q % 10)] 5)) := hB.alloc hB.size _
        go_wp2
        refine ⟨⟨q.tdiv 10, f, dD ++ o, rfl, rfl, HM2, HQ2, by rw [ByteArray.size_append]; omega, HE2, hB2⟩, ?_⟩
        have := HM.out
        simp only [intOf]
        rw [Int.tdiv_eq_ediv_of_nonneg (by omega)]; omega
    · have hd : decide (0 < q) = false := decide_eq_false hq
      have HO : Hid (o = R) := Lib.hid (by
        have h := HE.out
        rw [show q.toNat = 0 by omega, mtF_none] at h
        exact h)
      have hsz : (⟨#[109]⟩ : ByteArray).size + o.size ≤ 9223372036854775807 := by
        have : (⟨#[109]⟩ : ByteArray).size = 1 := rfl
        omega
      go_wp2
      go_ret
      exact ⟨by rw [HO.out]; rfl, hB⟩
end Go.Proofs.Ytffkakpbelknaaa

/- W9zr -/
namespace Go.Proofs.Ytffkakpbelknaaa
open Go.ChangeShapes Go.WideShapes Go.ChangeAt Go.RowKit
set_option linter.unusedVariables false

set_option maxRecDepth 100000 in
set_option maxHeartbeats 1600000 in
theorem l9Find_any (v : Value) (es : List En) (x : ByteArray) (w : World) (h : EnAt w w.heap.size v es) :
    Calls Try.prog 113 #[v, .string x] w fun e w' => e = .returned (.int .i64 (atK (enKs es) x)) ∧ Below w.heap.size w w' := by
  have HI := Lib.hid h
  obtain ⟨a, cap, rfl, hl, hm, hc⟩ := h.raw
  clear hc h
  unfold maxLen at hm
  have HL : Hid ((enKs es).length = es.length) := Lib.hid (by simp [enKs])
  have HX : Hid (∀ k (hk : k < es.length), (es[k].it.id.toList == x.toList) = true → (∀ j (hj : j < es.length), j < k → (es[j].it.id.toList == x.toList) = false) → atK (enKs es) x = (k : Int)) := Lib.hid (fun k hk h1 h2 => by
    have : ixK (enKs es) x = some k := by
      unfold ixK
      rw [List.findIdx?_eq_some_iff_getElem]
      refine ⟨by rw [HL.out]; exact hk, by simpa [enKs] using h1, fun j hj => ?_⟩
      have := h2 j (by omega) hj
      simpa [enKs] using this
    unfold atK
    rw [this])
  have HD : Hid ((∀ j (hj : j < es.length), (es[j].it.id.toList == x.toList) = false) → atK (enKs es) x = -1) := Lib.hid (fun h2 => by
    have : ixK (enKs es) x = none := by
      unfold ixK
      rw [List.findIdx?_eq_none_iff]
      intro k hk
      obtain ⟨s, hs, rfl⟩ := List.mem_map.1 hk
      obtain ⟨j, hj, rfl⟩ := List.getElem_of_mem hs
      exact h2 j hj
    unfold atK
    rw [this])
  generalize atK (enKs es) x = R at HX HD ⊢
  go_enter Try.func113, Try.ntmps113
  go_wp2
  go_loop [5] (fun i => ∃ k : Nat, k ≤ es.length ∧ i = .int .i64 (k : Int) ∧ Hid (∀ j (hj : j < es.length), j < k → (es[j].it.id.toList == x.toList) = false)) (fun i => es.length - (intOf i).toNat)
  case atStart => exact ⟨0, Nat.zero_le _, rfl, Lib.hid (fun j hj h => by omega)⟩
  case round =>
    obtain ⟨k, hk, rfl, HO⟩ := hrel
    by_cases hlt : k < es.length
    · obtain ⟨a', cap', hv, _, _, hc⟩ := HI.out.raw
      cases hv
      obtain ⟨b, off, rfl, hb, hr⟩ := hc k hlt
      obtain ⟨c0, c1, c2, c3, c4, _, _⟩ := hr k hlt
      have HK := Lib.hid (HX.out k hlt)
      have HN : Hid ((es[k].it.id.toList == x.toList) = false → ∀ j (hj : j < es.length), j < k + 1 → (es[j].it.id.toList == x.toList) = false) := Lib.hid (fun h j hj hjk => by
        by_cases e : j = k
        · subst e; exact h
        · exact HO.out j hj (by omega))
      obtain ⟨U, hU⟩ : ∃ U, U = es[k].it.id := ⟨_, rfl⟩
      rw [← hU] at c0 HK HN
      clear hr hc hU c1 c2 c3 c4
      obtain ⟨e, he⟩ : ∃ e, (U.toList == x.toList) = e := ⟨_, rfl⟩
      rw [he] at HK HN
      cases e with
      | true =>
        have HZ : Hid (R = (k : Int)) := Lib.hid (HK.out rfl HO.out)
        go_wp2
        go_ret
        exact ⟨ret_int HZ.out.symm, Below.refl _ _⟩
      | false =>
        have HO' := Lib.hid (HN.out rfl)
        go_wp2
        refine ⟨⟨k + 1, by omega, by simp, HO'⟩, ?_⟩
        simp [intOf]; omega
    · have HZ : Hid (R = -1) := Lib.hid (HD.out (fun j hj => HO.out j hj (by omega)))
      go_wp2
      go_ret
      exact ⟨ret_int HZ.out.symm, Below.refl _ _⟩

theorem pgL_snoc (es : List En) (d : Int) (k : Nat) (h : k < es.length) : pgL (es.take (k + 1)) d = pgL (es.take k) d ++ (if pgB es[k] d then [] else [es[k]]) := by
  unfold pgL
  rw [List.take_succ_eq_append_getElem h, List.filter_append]
  congr 1
  cases hh : pgB es[k] d with
  | true => simp [hh]
  | false => simp [hh]
theorem pgL_len (es : List En) (d : Int) (k : Nat) : (pgL (es.take k) d).length ≤ k := by
  unfold pgL
  have := List.length_filter_le (fun x => !pgB x d) (es.take k)
  rw [List.length_take] at this
  omega

set_option maxRecDepth 100000 in
set_option maxHeartbeats 1600000 in
theorem l9Purge_any (v : Value) (es : List En) (d : Int) (w : World) (h : EnAt w w.heap.size v es) (hn : es.length ≤ 100000) :
    Calls Try.prog 111 #[v, .int .i64 d] w (OutB 47 5 enC (pgL es d) w.heap.size w) := by
  have HI := Lib.hid h
  obtain ⟨a, cap, rfl, hl, hm, hc⟩ := h.raw
  clear hc h
  unfold maxLen at hm
  have ho0 := OwnR.lit (k := 5) (C := enC) 47 w w.heap.size (Nat.le_refl _)
  have hb0 : Below w.heap.size w (w.alloc (.cells #[] 47)) := (Below.refl _ _).alloc (Nat.le_refl _) _
  go_enter Try.func111, Try.ntmps111
  go_wp2
  go_loopw [5, 6] (fun o i wr => ∃ k : Nat, k ≤ es.length ∧ i = .int .i64 (k : Int) ∧ OwnR 47 5 enC wr w.heap.size o (pgL (es.take k) d) ∧ Below w.heap.size w wr) (fun _ i _ => es.length - (intOf i).toNat)
  case atStart => exact ⟨0, Nat.zero_le _, rfl, ho0, hb0⟩
  case round =>
    obtain ⟨k, hk, rfl, hown, hB⟩ := hrel
    clear ho0 hb0
    by_cases hlt : k < es.length
    · obtain ⟨a', cap', hv, _, _, hc⟩ := (HI.out.below hB).raw
      cases hv
      obtain ⟨b, off, rfl, hb, hr⟩ := hc k hlt
      obtain ⟨c0, c1, c2, c3, c4, _, _⟩ := hr k hlt
      have HS := Lib.hid (pgL_snoc es d k hlt)
      have hpl := pgL_len es d k
      obtain ⟨x, hx⟩ : ∃ x, x = es[k] := ⟨_, rfl⟩
      rw [← hx] at c0 c1 c2 c3 c4 HS
      have HPg : Hid (pgB x d = (x.rd && (!x.st) && decide (x.it.da < d))) := Lib.hid rfl
      obtain ⟨oa, oc, rfl⟩ := hown.slice
      generalize pgL (es.take k) d = LL at hown HS hpl
      have ho1 := hown.alloc (.cells #[.string x.it.id, .string x.it.ti, .int .i64 x.it.da, .bool x.rd, .bool x.st] 47)
      have hone := one_rec enC_len wr 47 x #[.string x.it.id, .string x.it.ti, .int .i64 x.it.da, .bool x.rd, .bool x.st] rfl
      have hba := hB.alloc hB.size (.cells #[.string x.it.id, .string x.it.ti, .int .i64 x.it.da, .bool x.rd, .bool x.st] 47)
      obtain ⟨⟨S0, S1, S2⟩, S3, S4⟩ := x
      simp only at c0 c1 c2 c3 c4 HPg ho1 hone hba
      have HOw := Lib.hid hown
      have HO1 := Lib.hid ho1
      have HOn := Lib.hid hone
      have HBa := Lib.hid hba
      have HBs := Lib.hid hB
      have hsz : w.heap.size ≤ wr.heap.size := hB.size
      clear hr hc hx hown ho1 hone hba hB
      by_cases hp : pgB ⟨⟨S0, S1, S2⟩, S3, S4⟩ d = true
      · rw [hp, if_pos rfl, List.append_nil] at HS
        have hq := HPg.out
        rw [hp] at hq
        obtain ⟨rfl, rfl, hd⟩ : S3 = true ∧ S4 = false ∧ S2 < d := by
          cases S3 <;> cases S4 <;> simp at hq
          exact ⟨rfl, rfl, hq⟩
        have hdd : decide (d ≤ S2) = false := decide_eq_false (by omega)
        have HN : Hid (OwnR 47 5 enC wr w.heap.size (.slice oa LL.length oc) (pgL (es.take (k + 1)) d)) := Lib.hid (by rw [HS.out]; exact HOw.out)
        clear hp hq HPg HS HO1 HOn HBa HOw
        go_wp2
        go_roundw
        case rel => exact ⟨k + 1, by omega, by go_num, HN.out, HBs.out⟩
        case measure => simp [intOf]; omega
      · rw [if_neg hp] at HS
        have HN : Hid (∀ v' w', OwnR 47 5 enC w' w.heap.size v' (LL ++ [⟨⟨S0, S1, S2⟩, S3, S4⟩]) → OwnR 47 5 enC w' w.heap.size v' (pgL (es.take (k + 1)) d)) := Lib.hid (fun v' w' h => by rw [HS.out]; exact h)
        have hq : (S3 && (!S4) && decide (S2 < d)) = false := by rw [← HPg.out]; simpa using hp
        clear hp HPg HS
        cases S3 with
        | false =>
          clear hq
          go_wp2_with (at_builtin; refine wpList_appR enC_len (by decide) Try.underlying41 Try.infoEntry rfl (by decide) rfl (.tmp 37) (.tmp 42) rfl w.heap.size (wr.heap.size + 1) _ _ _ [⟨⟨S0, S1, S2⟩, false, S4⟩] rfl rfl HO1.out HOn.out (fun y _ => enC_one y) (by simp; omega) (by simp; omega) ?_; intro v1 w1 hown1 hg1)
          have hown2 := HN.out _ _ hown1
          have hB2 := HBa.out.trans (gb_Below hg1 (by simp; omega) (ownBlock_base HOw.out))
          clear hown1 hg1
          go_wp2
          go_roundw
          case rel => exact ⟨k + 1, by omega, by go_num, hown2, hB2⟩
          case measure => simp [intOf]; omega
        | true =>
          cases S4 with
          | true =>
            clear hq
            go_wp2_with (at_builtin; refine wpList_appR enC_len (by decide) Try.underlying41 Try.infoEntry rfl (by decide) rfl (.tmp 37) (.tmp 42) rfl w.heap.size (wr.heap.size + 1) _ _ _ [⟨⟨S0, S1, S2⟩, true, true⟩] rfl rfl HO1.out HOn.out (fun y _ => enC_one y) (by simp; omega) (by simp; omega) ?_; intro v1 w1 hown1 hg1)
            have hown2 := HN.out _ _ hown1
            have hB2 := HBa.out.trans (gb_Below hg1 (by simp; omega) (ownBlock_base HOw.out))
            clear hown1 hg1
            go_wp2
            go_roundw
            case rel => exact ⟨k + 1, by omega, by go_num, hown2, hB2⟩
            case measure => simp [intOf]; omega
          | false =>
            have hdd : decide (d ≤ S2) = true := decide_eq_true (by simp at hq; omega)
            clear hq
            go_wp2_with (at_builtin; refine wpList_appR enC_len (by decide) Try.underlying41 Try.infoEntry rfl (by decide) rfl (.tmp 37) (.tmp 42) rfl w.heap.size (wr.heap.size + 1) _ _ _ [⟨⟨S0, S1, S2⟩, true, false⟩] rfl rfl HO1.out HOn.out (fun y _ => enC_one y) (by simp; omega) (by simp; omega) ?_; intro v1 w1 hown1 hg1)
            have hown2 := HN.out _ _ hown1
            have hB2 := HBa.out.trans (gb_Below hg1 (by simp; omega) (ownBlock_base HOw.out))
            clear hown1 hg1
            go_wp2
            go_roundw
            case rel => exact ⟨k + 1, by omega, by go_num, hown2, hB2⟩
            case measure => simp [intOf]; omega
    · have hke : k = es.length := by omega
      subst hke
      rw [List.take_length] at hown
      go_wp2
      go_ret
      exact ⟨_, rfl, hown, hB⟩
end Go.Proofs.Ytffkakpbelknaaa

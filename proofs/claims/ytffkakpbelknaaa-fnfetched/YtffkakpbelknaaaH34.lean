/- Joined: W9zh, W9zi, W9zj, W9zk, W9zl. -/
import Derived.Test.YtffkakpbelknaaaH29
import Derived.Test.YtffkakpbelknaaaH32
/- W9zh -/
namespace Go.Proofs.Ytffkakpbelknaaa
open Go.ChangeShapes Go.WideShapes Go.ChangeAt Go.RowKit
set_option linter.unusedVariables false

/-- A new outer list over some of the lists of before. -/
theorem OwnD.outer {w w' : World} {B : Nat} {v v' : Value} {ps qs : List (Sb × Value)} (h : OwnD w B v ps) (hB : B ≤ w.heap.size) (hb : Below w.heap.size w w') (ho : OwnR 43 3 sbC w' w.heap.size v' qs) (hs : qs.Sublist ps) : OwnD w' B v' qs := by
  refine ⟨ho.base_mono hB, fun p hp => (h.2.1 p (hs.subset hp)).keep hb (Nat.le_refl _), ?_⟩
  unfold ApartD
  rw [List.pairwise_cons]
  refine ⟨fun c hc => ?_, (List.pairwise_cons.1 h.2.2).2.sublist (hs.map _)⟩
  obtain ⟨p, hp, rfl⟩ := List.mem_map.1 hc
  rcases ho.blk with h1 | ⟨g, h1, h2, _⟩
  · exact .inl h1
  · right
    rw [h1]
    intro h3
    have := (World.ownsRow.lt (h.2.1 p (hs.subset hp)) g h3.symm).2
    omega
/-- The feed that an operation speaks of. -/
def opU (o : OpD) : ByteArray := if o.k = 3 then o.fu else o.u
def OutNo (w : World) (e : Ending) (w' : World) : Prop := e = .returned (.tuple #[.slice none 0 0, .bool false]) ∧ Below w.heap.size w w'
def OutCh (ss : List Sb) (B : Nat) (w : World) (e : Ending) (w' : World) : Prop := ∃ v qs, e = .returned (.tuple #[v, .bool true]) ∧ qs.map Prod.fst = ss ∧ OwnD w' B v qs ∧ Below B w w'

set_option maxRecDepth 100000 in
set_option maxHeartbeats 1600000 in
theorem withChange_none (v x : Value) (ps : List (Sb × Value)) (o : OpD) (B : Nat) (w : World) (h : OwnD w B v ps) (hsz : ∀ s ∈ ps.map Prod.fst, SbSz s ∧ ∀ x ∈ s.es, EnSz x) (hr : risB (sbKs (ps.map Prod.fst)) = true) (hn : ps.length ≤ 900) (hx : ItAt w w.heap.size x o.its) (hf : fnB (sbKs (ps.map Prod.fst)) (opU o) = false) :
    Calls Try.prog 52 #[v, opV o x] w (OutNo w) := by
  have HU : Hid (opU o = if o.k = 3 then o.fu else o.u) := Lib.hid rfl
  have HP := Lib.hid (fun w h => placeOfS_any v (ps.map Prod.fst) (opU o) w h (by rw [List.length_map]; omega) (ris_mono hr (opU o)))
  rw [hf] at HP
  have HI := Lib.hid (OwnS.at h.ownS hsz)
  obtain ⟨vc, vcap, rfl⟩ := h.1.slice
  obtain ⟨xa, xc, rfl⟩ := hx.1.slice
  generalize plK (sbKs (ps.map Prod.fst)) (opU o) = P at HP
  generalize opU o = U at HU HP
  obtain ⟨k, u, i, d, fu, ft, its⟩ := o
  simp only at HU ⊢
  clear h hsz hr hf hx
  have hB0 : Below w.heap.size w (w.alloc (.cells #[.int .i64 k, .string u, .string i, .int .i64 d, .string fu, .string ft, .slice xa its.length xc] 31)) := (Below.refl _ _).alloc (Nat.le_refl _) _
  by_cases hk : k = 3
  · obtain rfl : U = fu := by rw [HU.out, if_pos hk]
    subst hk
    clear HU
    go_enter Try.func52, Try.ntmps52
    go_wp2_with fail
    refine (HP.out _ ((HI.out.below hB0).mono hB0.size)).mono ?_
    rintro e w1 ⟨rfl, hb1⟩
    have hB1 := hB0.trans (hb1.mono hB0.size)
    clear hb1 hB0
    go_wp2
    go_ret2
    exact ⟨rfl, hB1⟩
  · obtain rfl : U = u := by rw [HU.out, if_neg hk]
    have hk1 : (k == 3) = false := by rw [beq_eq_false_iff_ne]; exact hk
    clear HU
    go_enter Try.func52, Try.ntmps52
    go_wp2_with fail
    refine (HP.out _ ((HI.out.below hB0).mono hB0.size)).mono ?_
    rintro e w1 ⟨rfl, hb1⟩
    have hB1 := hB0.trans (hb1.mono hB0.size)
    clear hb1 hB0
    go_wp2
    go_ret2
    exact ⟨rfl, hB1⟩
end Go.Proofs.Ytffkakpbelknaaa

/- W9zi -/
namespace Go.Proofs.Ytffkakpbelknaaa
open Go.ChangeShapes Go.WideShapes Go.ChangeAt Go.RowKit
set_option linter.unusedVariables false

theorem found_lt {ps : List (Sb × Value)} {x : ByteArray} (hf : fnB (sbKs (ps.map Prod.fst)) x = true) : plK (sbKs (ps.map Prod.fst)) x < ps.length := by
  unfold fnB at hf
  rcases Nat.lt_or_ge (plK (sbKs (ps.map Prod.fst)) x) (sbKs (ps.map Prod.fst)).length with h | h
  · simpa [sbKs] using h
  · rw [List.getElem?_eq_none h] at hf; cases hf
theorem OwnD.some {w : World} {B : Nat} {v : Value} {ps : List (Sb × Value)} (h : OwnD w B v ps) (hp : 0 < ps.length) : ∃ g cap, v = .slice (some ⟨g, 0, none⟩) ps.length cap ∧ g < w.heap.size ∧ B ≤ g ∧ cap ≤ 9223372036854775807 ∧ ps.length ≤ cap := by
  rcases h.1.2 with ⟨h1, h2⟩ | ⟨g, c, cur, h1, h2, h3, h4, h5, _⟩
  · omega
  · unfold maxLen at h5
    exact ⟨g, c, h1, (World.ownsRow.lt h.1 g (by rw [h1]; rfl)).2, h2, by omega, h4⟩

set_option maxRecDepth 100000 in
set_option maxHeartbeats 1600000 in
theorem withChange_drop (v x : Value) (ps : List (Sb × Value)) (o : OpD) (B : Nat) (w : World) (h : OwnD w B v ps) (hB : B ≤ w.heap.size) (hsz : ∀ s ∈ ps.map Prod.fst, SbSz s ∧ ∀ x ∈ s.es, EnSz x) (hr : risB (sbKs (ps.map Prod.fst)) = true) (hn : ps.length ≤ 900) (hx : ItAt w w.heap.size x o.its) (hk : o.k = 2) (hf : fnB (sbKs (ps.map Prod.fst)) o.u = true) :
    Calls Try.prog 52 #[v, opV o x] w (OutCh (((ps.take (plK (sbKs (ps.map Prod.fst)) o.u)) ++ ps.drop (plK (sbKs (ps.map Prod.fst)) o.u + 1)).map Prod.fst) B w) := by
  have hPl := found_lt hf
  have HP := Lib.hid (fun w h => placeOfS_any v (ps.map Prod.fst) o.u w h (by rw [List.length_map]; omega) (ris_mono hr o.u))
  rw [hf] at HP
  have HI := Lib.hid (OwnS.at h.ownS hsz)
  have HD := Lib.hid h
  have HOn := Lib.hid h.one
  obtain ⟨g, cap, rfl, hg, hBg, hcm, hcl⟩ := h.some (by omega)
  obtain ⟨xa, xc, rfl⟩ := hx.1.slice
  generalize plK (sbKs (ps.map Prod.fst)) o.u = P at HP hPl ⊢
  obtain ⟨k, u, i, d, fu, ft, its⟩ := o
  simp only at hk HP ⊢
  subst hk
  have HW := Lib.hid (fun w h => withoutS_any (.slice (some ⟨g, 0, none⟩) ps.length cap) ps P w h HOn.out hPl hn)
  have HCe : Hid (∀ w2, OwnR 43 3 sbC w2 B (.slice (some ⟨g, 0, none⟩) ps.length cap) ps → w2.cell? ⟨g, P * 3, none⟩ = some (.string ps[P].1.u) ∧ w2.cell? ⟨g, P * 3 + 1, none⟩ = some (.string ps[P].1.t) ∧ w2.cell? ⟨g, P * 3 + 2, none⟩ = some ps[P].2) := Lib.hid (fun w2 h => ⟨h.val sbC_len rfl P 0 _ hPl rfl, h.val sbC_len rfl P 1 _ hPl rfl, h.val sbC_len rfl P 2 _ hPl rfl⟩)
  obtain ⟨ya, yc, hye⟩ := (h.2.1 _ (List.getElem_mem hPl)).slice
  obtain ⟨m, hm⟩ : ∃ m, m = ps[P].1.es.length := ⟨_, rfl⟩
  rw [hye, ← hm] at HCe
  obtain ⟨S0, hS0⟩ : ∃ z, z = ps[P].1.u := ⟨_, rfl⟩
  obtain ⟨S1, hS1⟩ : ∃ z, z = ps[P].1.t := ⟨_, rfl⟩
  rw [← hS0, ← hS1] at HCe
  have HZ : Hid (∀ w1 w2 y, Below w.heap.size w w1 → Below w1.heap.size w1 w2 → OwnR 43 3 sbC w2 w1.heap.size y (ps.take P ++ ps.drop (P + 1)) → OutCh ((ps.take P ++ ps.drop (P + 1)).map Prod.fst) B w (.returned (.tuple #[y, .bool true])) w2) := Lib.hid (fun w1 w2 y h1 h2 h3 => ⟨y, _, rfl, rfl, (HD.out.keep h1 (Nat.le_refl _)).outer (Nat.le_trans hB h1.size) h2 h3 (by rw [← List.eraseIdx_eq_take_drop_succ]; exact List.eraseIdx_sublist _ _), (h1.trans (h2.mono h1.size)).mono hB⟩)
  clear h hsz hr hf hx hye hm hS0 hS1
  have hB0 : Below w.heap.size w (w.alloc (.cells #[.int .i64 2, .string u, .string i, .int .i64 d, .string fu, .string ft, .slice xa its.length xc] 31)) := (Below.refl _ _).alloc (Nat.le_refl _) _
  have hX0 := Box.new w #[.int .i64 2, .string u, .string i, .int .i64 d, .string fu, .string ft, .slice xa its.length xc] 31
  go_enter Try.func52, Try.ntmps52
  go_wp2_with fail
  refine (HP.out _ ((HI.out.below hB0).mono hB0.size)).mono ?_
  rintro e w1 ⟨rfl, hb1⟩
  have hB1 := hB0.trans (hb1.mono hB0.size)
  have hX1 := hX0.keep hb1 hX0.lt
  obtain ⟨c0, c1, c2⟩ := HCe.out _ (HD.out.1.keep hB1 (Nat.le_refl _))
  have f0 := hX1.cell 0 _ rfl
  have f0' : (w1.alloc (.cells #[.string S0, .string S1, .slice ya m yc] 43)).cell? ⟨w.heap.size, 0, none⟩ = some (.int .i64 2) := (hX1.alloc _).cell 0 _ rfl
  have hB2 : Below w.heap.size w (w1.alloc (.cells #[.string S0, .string S1, .slice ya m yc] 43)) := hB1.alloc hB1.size _
  have HR2 := Lib.hid ((HD.out.1.keep hB2 (Nat.le_refl _)).at sbC_len)
  clear hb1 hB0 hB1 hX0 hX1
  go_wp2_with fail
  refine (HW.out _ HR2.out).mono ?_
  rintro e w2 ⟨y, rfl, ho2, hb2⟩
  have HE := Lib.hid (HZ.out _ w2 y hB2 hb2 ho2)
  clear ho2 hb2 hB2 c0 c1 c2 f0 f0' HR2
  go_wp2
  go_ret2
  exact HE.out
end Go.Proofs.Ytffkakpbelknaaa

/- W9zj -/
namespace Go.Proofs.Ytffkakpbelknaaa
open Go.ChangeShapes Go.WideShapes Go.ChangeAt Go.RowKit
set_option linter.unusedVariables false

theorem putP_set {α : Type} (l : List α) (p : Nat) (x : α) (h : p < l.length) : putP l p true x = l.set p x := by
  unfold putP
  rw [if_pos rfl, List.set_eq_take_append_cons_drop, if_pos h]
theorem flat_same (ps : List (Sb × Value)) (P : Nat) (hP : P < ps.length) (s : Sb) (hu : s.u = ps[P].1.u) (ht : s.t = ps[P].1.t) : (ps.set P (s, ps[P].2)).flatMap sbC = ps.flatMap sbC := by
  have e : (ps.set P (s, ps[P].2)).map sbC = ps.map sbC := by
    rw [List.map_set]
    apply List.ext_getElem?
    intro j
    rw [List.getElem?_set]
    by_cases e : P = j
    · subst e
      simp only [List.length_map, hP, if_true, List.getElem?_map, List.getElem?_eq_getElem hP, Option.map_some]
      unfold sbC
      rw [hu, ht]
    · rw [if_neg e]
  rw [List.flatMap_def, List.flatMap_def, e]
theorem keys_same (ps : List (Sb × Value)) (P : Nat) (hP : P < ps.length) (s : Sb) (y : Value) (hu : s.u = ps[P].1.u) : sbKs ((ps.set P (s, y)).map Prod.fst) = sbKs (ps.map Prod.fst) := by
  unfold sbKs
  rw [List.map_map, List.map_map, List.map_set]
  apply List.ext_getElem?
  intro j
  rw [List.getElem?_set]
  by_cases e : P = j
  · subst e; simp [hP, hu]
  · rw [if_neg e]
theorem OwnD.inplace {w w2 : World} {B : Nat} {v : Value} {ps : List (Sb × Value)} (h : OwnD w B v ps) (P : Nat) (hP : P < ps.length) (s : Sb) (hu : s.u = ps[P].1.u) (ht : s.t = ps[P].1.t) (hg : w.grownBy w2 ps[P].2.ownBlock) (ho : OwnR 47 5 enC w2 B ps[P].2 s.es) : OwnD w2 B v (ps.set P (s, ps[P].2)) := by
  have hap := h.2.2
  have hv : v.ownBlock = none ∨ v.ownBlock ≠ ps[P].2.ownBlock := apart_head hap (List.mem_map.2 ⟨_, List.getElem_mem hP, rfl⟩)
  refine ⟨?_, ?_, ?_⟩
  · have h1 : OwnR 43 3 sbC w2 B v ps := World.ownsRow.kept h.1 hg hv
    unfold OwnR at h1 ⊢
    rw [List.length_set, flat_same ps P hP s hu ht]
    exact h1
  · intro p hp
    obtain ⟨i, hi, rfl⟩ := List.getElem_of_mem hp
    rw [List.length_set] at hi
    by_cases e : i = P
    · subst e
      simp only [List.getElem_set_self]
      exact ho
    · rw [List.getElem_set_ne (fun h => e h.symm)]
      have h2 := apart_two (List.pairwise_cons.1 hap).2 i P (by rw [List.length_map]; exact hi) (by rw [List.length_map]; exact hP) e
      simp only [List.getElem_map] at h2
      exact World.ownsRow.kept (h.2.1 _ (List.getElem_mem hi)) hg h2
  · have e : (ps.set P (s, ps[P].2)).map (fun p => p.2.ownBlock) = ps.map (fun p => p.2.ownBlock) := by
      rw [List.map_set]
      apply List.ext_getElem?
      intro j
      rw [List.getElem?_set]
      by_cases e : P = j
      · subst e; simp [hP]
      · rw [if_neg e]
    rw [e]
    exact hap
/-- A block of no list is written. -/
theorem OwnD.off {w : World} {B : Nat} {v : Value} {ps : List (Sb × Value)} (h : OwnD w B v ps) (p : Addr) (z : Value) (hv : v.ownBlock ≠ Option.some p.block) (hp : ∀ q ∈ ps, q.2.ownBlock ≠ Option.some p.block) : OwnD (w.setCell p z) B v ps :=
  ⟨h.1.off _ _ hv, fun q hq => (h.2.1 q hq).off _ _ (hp q hq), h.2.2⟩
end Go.Proofs.Ytffkakpbelknaaa

/- W9zk -/
namespace Go.Proofs.Ytffkakpbelknaaa
open Go.ChangeShapes Go.WideShapes Go.ChangeAt Go.RowKit
set_option linter.unusedVariables false

theorem found_key {ps : List (Sb × Value)} {x : ByteArray} (hf : fnB (sbKs (ps.map Prod.fst)) x = true) (h : plK (sbKs (ps.map Prod.fst)) x < ps.length) : ps[plK (sbKs (ps.map Prod.fst)) x].1.u = x := by
  unfold fnB at hf
  have hl : plK (sbKs (ps.map Prod.fst)) x < (sbKs (ps.map Prod.fst)).length := by simpa [sbKs] using h
  rw [List.getElem?_eq_getElem hl] at hf
  have := (cmpB_zero _ _).1 (by simpa using hf)
  refine Eq.trans ?_ this
  simp only [sbKs, List.getElem_map]
theorem sz_set {ps : List (Sb × Value)} (hsz : ∀ s ∈ ps.map Prod.fst, SbSz s ∧ ∀ x ∈ s.es, EnSz x) (P : Nat) (s : Sb) (y : Value) (hs : SbSz s ∧ ∀ x ∈ s.es, EnSz x) : ∀ z ∈ (ps.set P (s, y)).map Prod.fst, SbSz z ∧ ∀ x ∈ z.es, EnSz x := by
  intro z hz
  rw [List.map_set] at hz
  rcases List.mem_or_eq_of_mem_set hz with h | h
  · exact hsz z h
  · rw [h]; exact hs
/-- The feed put back among the others: a new outer list over lists that lie as they do. -/
theorem with_back (v : Value) (qs : List (Sb × Value)) (P : Nat) (hP : P < qs.length) (x : ByteArray) (B : Nat) (w3 : World) (h : OwnD w3 B v qs) (hB : B ≤ w3.heap.size) (hsz : ∀ s ∈ qs.map Prod.fst, SbSz s ∧ ∀ x ∈ s.es, EnSz x) (hr : risB (sbKs (qs.map Prod.fst)) = true) (hn : qs.length ≤ 900) (hpl : plK (sbKs (qs.map Prod.fst)) qs[P].1.u = P) (hf : fnB (sbKs (qs.map Prod.fst)) qs[P].1.u = true) :
    Calls Try.prog 102 #[v, sbV qs[P].1.u qs[P].1.t qs[P].2] w3 fun e w' => ∃ y, e = .returned y ∧ OwnD w' B y qs ∧ Below w3.heap.size w3 w' := by
  refine (withS_any v qs qs[P] w3 (h.1.at sbC_len) (OwnS.at h.ownS hsz) h.one (h.one _ (List.getElem_mem hP)) hr hn).mono ?_
  rintro e w' ⟨y, rfl, ho, hb⟩
  rw [hpl, hf, putP_set _ _ _ hP] at ho
  rw [List.set_getElem_self] at ho
  exact ⟨y, rfl, h.outer hB hb ho (List.Sublist.refl _), hb⟩
end Go.Proofs.Ytffkakpbelknaaa

/- W9zl -/
namespace Go.Proofs.Ytffkakpbelknaaa
open Go.ChangeShapes Go.WideShapes Go.ChangeAt Go.RowKit
set_option linter.unusedVariables false

def alS (s : Sb) : Sb := { s with es := rdAll s.es }
theorem alS_sz {s : Sb} (h : SbSz s ∧ ∀ x ∈ s.es, EnSz x) : SbSz (alS s) ∧ ∀ x ∈ (alS s).es, EnSz x := by
  refine ⟨h.1, fun x hx => ?_⟩
  obtain ⟨y, hy, rfl⟩ := List.mem_map.1 hx
  exact h.2 y hy

set_option maxRecDepth 100000 in
set_option maxHeartbeats 1600000 in
theorem withChange_all (v x : Value) (ps : List (Sb × Value)) (o : OpD) (B P : Nat) (w : World) (h : OwnD w B v ps) (hB : B ≤ w.heap.size) (hsz : ∀ s ∈ ps.map Prod.fst, SbSz s ∧ ∀ x ∈ s.es, EnSz x) (hr : risB (sbKs (ps.map Prod.fst)) = true) (hn : ps.length ≤ 900) (hx : ItAt w w.heap.size x o.its) (hk : o.k = 8) (hf : fnB (sbKs (ps.map Prod.fst)) o.u = true) (hpl : plK (sbKs (ps.map Prod.fst)) o.u = P) (hP : P < ps.length) (hne : ps[P].1.es.length ≤ 1000) :
    Calls Try.prog 52 #[v, opV o x] w (OutCh ((ps.map Prod.fst).set P (alS ps[P].1)) B w) := by
  have HP := Lib.hid (fun w h => placeOfS_any v (ps.map Prod.fst) o.u w h (by rw [List.length_map]; omega) (ris_mono hr o.u))
  have hkey : ps[P].1.u = o.u := by subst hpl; exact found_key hf hP
  have HI := Lib.hid (OwnS.at h.ownS hsz)
  have HD := Lib.hid h
  obtain ⟨qs, hqs⟩ : ∃ qs, qs = ps.set P (alS ps[P].1, ps[P].2) := ⟨_, rfl⟩
  have hql : P < qs.length := by rw [hqs, List.length_set]; exact hP
  have hq1 : qs[P] = (alS ps[P].1, ps[P].2) := by subst hqs; exact List.getElem_set_self _
  have HKs : Hid (sbKs (qs.map Prod.fst) = sbKs (ps.map Prod.fst)) := Lib.hid (by rw [hqs]; exact keys_same ps P hP _ _ rfl)
  have HW : Hid (∀ w3, B ≤ w3.heap.size → OwnD w3 B v qs → Calls Try.prog 102 #[v, sbV ps[P].1.u ps[P].1.t ps[P].2] w3 fun e w' => ∃ y, e = .returned y ∧ OwnD w' B y qs ∧ Below w3.heap.size w3 w') := Lib.hid (fun w3 hB3 h3 => by
    have := with_back v qs P hql o.u B w3 h3 hB3 (by rw [hqs]; exact sz_set hsz P _ _ (alS_sz (hsz _ (List.mem_map.2 ⟨_, List.getElem_mem hP, rfl⟩)))) (by rw [HKs.out]; exact hr) (by rw [hqs, List.length_set]; exact hn) (by rw [HKs.out, hq1]; show plK _ ps[P].1.u = P; rw [hkey]; exact hpl) (by rw [HKs.out, hq1]; show fnB _ ps[P].1.u = true; rw [hkey]; exact hf)
    rw [hq1] at this
    exact this)
  rw [hf, hpl] at HP
  have hXb : ∀ b, ps[P].2.ownBlock = some b → B ≤ b ∧ b < w.heap.size := fun b hb => World.ownsRow.lt (h.2.1 _ (List.getElem_mem hP)) b hb
  have HIn : Hid (∀ w1 w2, Below w.heap.size w w1 → w1.grownBy w2 ps[P].2.ownBlock → OwnR 47 5 enC w2 B ps[P].2 (rdAll ps[P].1.es) → OwnD w2 B v qs ∧ Below B w w2) := Lib.hid (fun w1 w2 h1 h2 h3 => by
    refine ⟨?_, (h1.mono hB).trans (gb_Below h2 (Nat.le_trans hB h1.size) (fun b hb => (hXb b hb).1))⟩
    rw [hqs]
    exact (HD.out.keep h1 (Nat.le_refl _)).inplace P hP (alS ps[P].1) rfl rfl h2 h3)
  have HOf : Hid (∀ w2 p z, w.heap.size ≤ p.block → OwnD w2 B v qs → OwnD (w2.setCell p z) B v qs) := Lib.hid (fun w2 p z hp h2 => by
    refine h2.off p z (fun e => ?_) (fun q hq e => ?_)
    · have := (World.ownsRow.lt HD.out.1 _ e).2; omega
    · have hq2 : ∃ q' ∈ ps, q'.2 = q.2 := by
        rw [hqs] at hq
        rcases List.mem_or_eq_of_mem_set hq with h | h
        · exact ⟨q, h, rfl⟩
        · exact ⟨_, List.getElem_mem hP, by rw [h]⟩
      obtain ⟨q', hq', e2⟩ := hq2
      have := (World.ownsRow.lt (HD.out.2.1 q' hq') p.block (by rw [e2]; exact e)).2
      omega)
  have HZ : Hid (qs.map Prod.fst = (ps.map Prod.fst).set P (alS ps[P].1)) := Lib.hid (by rw [hqs, List.map_set])
  have HA := Lib.hid (fun (w : World) (h : OwnR 47 5 enC w B ps[P].2 ps[P].1.es) => allRead_any ps[P].1 ps[P].2 B w h hne)
  obtain ⟨g, cap, rfl, hg, hBg, hcm, hcl⟩ := h.some (by omega)
  obtain ⟨xa, xc, rfl⟩ := hx.1.slice
  have HCe : Hid (∀ w2, OwnR 43 3 sbC w2 B (.slice (some ⟨g, 0, none⟩) ps.length cap) ps → w2.cell? ⟨g, P * 3, none⟩ = some (.string ps[P].1.u) ∧ w2.cell? ⟨g, P * 3 + 1, none⟩ = some (.string ps[P].1.t) ∧ w2.cell? ⟨g, P * 3 + 2, none⟩ = some ps[P].2) := Lib.hid (fun w2 h => ⟨h.val sbC_len rfl P 0 _ hP rfl, h.val sbC_len rfl P 1 _ hP rfl, h.val sbC_len rfl P 2 _ hP rfl⟩)
  have HEo : Hid (∀ w1, Below w.heap.size w w1 → OwnR 47 5 enC w1 B ps[P].2 ps[P].1.es) := Lib.hid (fun w1 h1 => (HD.out.2.1 _ (List.getElem_mem hP)).keep h1 (Nat.le_refl _))
  have HXb : Hid (ps[P].2.ownBlock ≠ some w.heap.size ∧ ∀ w1 : World, w.heap.size ≤ w1.heap.size → ps[P].2.ownBlock ≠ some w1.heap.size) := Lib.hid ⟨fun e => by have := (hXb _ e).2; omega, fun w1 h1 e => by have := (hXb _ e).2; omega⟩
  obtain ⟨ya, yc, hye⟩ := (h.2.1 _ (List.getElem_mem hP)).slice
  obtain ⟨i, u, k, d, fu, ft, its⟩ := o
  simp only at hk HP ⊢
  subst hk
  rw [← HZ.out]
  unfold OutAR at HA
  generalize ps[P].1.es = E at HA HEo HIn hye
  generalize ps[P].1.u = S0 at HA HCe HW
  generalize ps[P].1.t = S1 at HA HCe HW
  generalize ps[P].2 = X at HA HCe HW HEo HIn HXb hye
  subst hye
  clear h hsz hr hf hx hpl hkey hqs hql hq1 HKs hXb hne HZ
  have hB0 : Below w.heap.size w (w.alloc (.cells #[.int .i64 8, .string u, .string k, .int .i64 d, .string fu, .string ft, .slice xa its.length xc] 31)) := (Below.refl _ _).alloc (Nat.le_refl _) _
  have hX0 := Box.new w #[.int .i64 8, .string u, .string k, .int .i64 d, .string fu, .string ft, .slice xa its.length xc] 31
  go_enter Try.func52, Try.ntmps52
  go_wp2_with fail
  refine (HP.out _ ((HI.out.below hB0).mono hB0.size)).mono ?_
  rintro e w1 ⟨rfl, hb1⟩
  have hB1 := hB0.trans (hb1.mono hB0.size)
  have hX1 := hX0.keep hb1 hX0.lt
  obtain ⟨c0, c1, c2⟩ := HCe.out _ (HD.out.1.keep hB1 (Nat.le_refl _))
  have f0 := hX1.cell 0 _ rfl
  have f0' : (w1.alloc (.cells #[.string S0, .string S1, .slice ya E.length yc] 43)).cell? ⟨w.heap.size, 0, none⟩ = some (.int .i64 8) := (hX1.alloc _).cell 0 _ rfl
  have hB2 : Below w.heap.size w (w1.alloc (.cells #[.string S0, .string S1, .slice ya E.length yc] 43)) := hB1.alloc hB1.size _
  have hS := Box.new w1 #[.string S0, .string S1, .slice ya E.length yc] 43
  have hw1 : w.heap.size ≤ w1.heap.size := hB1.size
  clear hb1 hB0 hB1 hX0
  go_wp2_with fail
  refine (HA.out _ (HEo.out _ hB2)).mono ?_
  rintro e w2 ⟨rfl, ho2, hg2⟩
  obtain ⟨hO2, hBe2⟩ := HIn.out _ w2 hB2 hg2 ho2
  have hS2 : Box w2 w1.heap.size #[.string S0, .string S1, .slice ya E.length yc] 43 := (hg2.block _ hS.lt (fun e => HXb.out.2 w1 hw1 e.symm)).trans hS
  have hsf := hS2.free
  have s0 := hS2.cell 0 _ rfl
  have s1 := hS2.cell 1 _ rfl
  have s2 := hS2.cell 2 _ rfl
  have HO2 := Lib.hid hO2
  have HS2 := Lib.hid hS2
  have HB2 := Lib.hid hBe2
  clear hO2 hBe2 hg2 ho2 c0 c1 c2 f0 f0' hB2 hS hX1 hS2 HA HIn HCe HEo
  go_wp2_with fail
  have hO3 := HOf.out _ ⟨w1.heap.size, 2, none⟩ (.slice ya E.length yc) hw1 (HOf.out _ ⟨w1.heap.size, 1, none⟩ (.string S1) hw1 (HOf.out _ ⟨w1.heap.size, 0, none⟩ (.string S0) hw1 HO2.out))
  have hBe3 : Below B w (((w2.setCell ⟨w1.heap.size, 0, none⟩ (.string S0)).setCell ⟨w1.heap.size, 1, none⟩ (.string S1)).setCell ⟨w1.heap.size, 2, none⟩ (.slice ya E.length yc)) := ((HB2.out.setCell (p := ⟨w1.heap.size, 0, none⟩) (by show B ≤ w1.heap.size; omega) _).setCell (p := ⟨w1.heap.size, 1, none⟩) (by show B ≤ w1.heap.size; omega) _).setCell (p := ⟨w1.heap.size, 2, none⟩) (by show B ≤ w1.heap.size; omega) _
  generalize ((w2.setCell ⟨w1.heap.size, 0, none⟩ (.string S0)).setCell ⟨w1.heap.size, 1, none⟩ (.string S1)).setCell ⟨w1.heap.size, 2, none⟩ (.slice ya E.length yc) = W3 at hO3 hBe3 ⊢
  refine (HW.out W3 (Nat.le_trans hB hBe3.size) hO3).mono ?_
  rintro e w4 ⟨y, rfl, hO4, hb4⟩
  have HE : Hid (OutCh (qs.map Prod.fst) B w (.returned (.tuple #[y, .bool true])) w4) := Lib.hid ⟨y, qs, rfl, rfl, hO4, hBe3.trans (hb4.mono (Nat.le_trans hB hBe3.size))⟩
  clear hO3 hO4 hb4 hBe3 hsf s0 s1 s2
  go_wp2
  go_ret2
  exact HE.out
end Go.Proofs.Ytffkakpbelknaaa

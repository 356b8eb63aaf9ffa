/- Joined: W9ent, V9m. -/
import Derived.Test.YtffkakpbelknaaaH50
import Derived.Test.YtffkakpbelknaaaH24
import Derived.Test.YtffkakpbelknaaaH52
/- W9ent -/
namespace Go.Proofs.Ytffkakpbelknaaa
open Go.ChangeShapes Go.WideShapes Go.ChangeAt Go.RowKit
set_option linter.unusedVariables false

def etV : Option En → Value
  | none => enV ⟨#[]⟩ ⟨#[]⟩ 0 false false
  | some e => enV e.it.id e.it.ti e.it.da e.rd e.st
abbrev en0A : Array Value := #[.string ⟨#[]⟩, .string ⟨#[]⟩, .int .i64 0, .bool false, .bool false]
theorem take_next {α : Type} {P : α → Prop} {l : List α} {k : Nat} (hk : k < l.length) (h : ∀ x ∈ l.take k, P x) (hx : P l[k]) : ∀ x ∈ l.take (k + 1), P x := by
  intro x hx2
  rw [List.take_succ_eq_append_getElem hk] at hx2
  rcases List.mem_append.1 hx2 with h1 | h1
  · exact h x h1
  · rw [List.mem_singleton.1 h1]; exact hx
theorem takeAll9 {α : Type} {P : α → Prop} {l : List α} {k : Nat} (hk : ¬ k < l.length) (h : ∀ x ∈ l.take k, P x) : ∀ x ∈ l, P x := by
  rw [List.take_of_length_le (by omega)] at h
  exact h

set_option maxRecDepth 100000 in
set_option maxHeartbeats 3000000 in
theorem entry_any (v : Value) (ss : List Sb) (U I : ByteArray) (w : World) (h : SbAt w w.heap.size v ss) :
    Calls Try.prog 25 #[.agg #[v], .string U, .string I] w fun e w' => ∃ r : Option En, EtR ss U I r ∧ e = .returned (.tuple #[etV r, .bool r.isSome]) ∧ Below w.heap.size w w' := by
  have HI := Lib.hid h
  obtain ⟨a, cap, rfl, hl, hm, hc⟩ := h.raw
  unfold maxLen at hm
  clear hc h
  obtain ⟨W0, hW0⟩ : ∃ W0, W0 = (w.alloc (.cells #[.slice a ss.length cap] 26)).alloc (.cells en0A 47) := ⟨_, rfl⟩
  have hb0 : Below w.heap.size w W0 := by rw [hW0]; exact ((Below.refl _ _).alloc (Nat.le_refl _) _).alloc (by simp) _
  have hx0 : Box W0 w.heap.size #[.slice a ss.length cap] 26 := by rw [hW0]; exact (Box.new w #[.slice a ss.length cap] 26).alloc _
  have hy0 : Box W0 (w.heap.size + 1) en0A 47 := by
    rw [hW0]
    have := Box.new (w.alloc (.cells #[.slice a ss.length cap] 26)) en0A 47
    simpa using this
  have p0 := hx0.cell 0 _ rfl
  have z0 : W0.cell? ⟨w.heap.size + 1, 0, none⟩ = some (.string ⟨#[]⟩) := hy0.cell 0 _ rfl
  have z1 : W0.cell? ⟨w.heap.size + 1, 1, none⟩ = some (.string ⟨#[]⟩) := hy0.cell 1 _ rfl
  have z2 : W0.cell? ⟨w.heap.size + 1, 2, none⟩ = some (.int .i64 0) := hy0.cell 2 _ rfl
  have z3 : W0.cell? ⟨w.heap.size + 1, 3, none⟩ = some (.bool false) := hy0.cell 3 _ rfl
  have z4 : W0.cell? ⟨w.heap.size + 1, 4, none⟩ = some (.bool false) := hy0.cell 4 _ rfl
  have f0 := hy0.free 0
  have f1 := hy0.free 1
  have f2 := hy0.free 2
  have f3 := hy0.free 3
  have f4 := hy0.free 4
  go_enter Try.func25, Try.ntmps25
  go_wp2
  rw [← hW0]
  clear hW0
  go_loopw [8] (fun i wr => ∃ p : Nat, p ≤ ss.length ∧ i = .int .i64 (p : Int) ∧ W0 = wr ∧ Hid (∀ s ∈ ss.take p, s.u = U → ∀ e ∈ s.es, e.it.id ≠ I)) (fun i _ => ss.length - (intOf i).toNat)
  case atStart => exact ⟨0, Nat.zero_le _, rfl, rfl, Lib.hid (fun s hs => by simp at hs)⟩
  case round =>
    obtain ⟨p, hp, rfl, rfl, HP⟩ := hrel
    by_cases hlt : p < ss.length
    · obtain ⟨a1, cap1, hv, _, _, hc⟩ := (HI.out.below hb0).raw
      cases hv
      obtain ⟨b, off, rfl, hb, hr⟩ := hc p hlt
      obtain ⟨x, c0, c1, c2, hx, _⟩ := hr p hlt
      have HN := Lib.hid (fun hh => take_next (P := fun s : Sb => s.u = U → ∀ e ∈ s.es, e.it.id ≠ I) hlt HP.out hh)
      have HM := Lib.hid (List.getElem_mem hlt)
      obtain ⟨sb, hsb⟩ : ∃ sb, sb = ss[p] := ⟨_, rfl⟩
      rw [← hsb] at c0 c1 hx HN HM
      obtain ⟨xa, xc, rfl, hxl, hxm, _⟩ := hx.1
      unfold maxLen at hxm
      have hkl : decide ((p : Int) < (ss.length : Int)) = true := decide_eq_true (by omega)
      have hkl2 : (p : Int) < (ss.length : Int) := by omega
      have hk0 : (0 : Int) ≤ (p : Int) := by omega
      have HX := Lib.hid hx
      clear hr hc hx hsb
      by_cases hu : sb.u = U
      · have hU : (sb.u.toList == U.toList) = true := by rw [hu]; simp
        have HU := Lib.hid hu
        clear hu
        go_wp2
        go_loopw [9] (fun j wq => ∃ q : Nat, q ≤ sb.es.length ∧ j = .int .i64 (q : Int) ∧ W0 = wq ∧ Hid (∀ e ∈ sb.es.take q, e.it.id ≠ I)) (fun j _ => sb.es.length - (intOf j).toNat)
        case atStart => exact ⟨0, Nat.zero_le _, rfl, rfl, Lib.hid (fun s hs => by simp at hs)⟩
        case round =>
          obtain ⟨q, hq, rfl, rfl, HQ⟩ := hrel
          by_cases hql : q < sb.es.length
          · obtain ⟨a3, cap3, hv, _, _, hc⟩ := HX.out.raw
            cases hv
            obtain ⟨b3, off3, rfl, hb3, hr⟩ := hc q hql
            obtain ⟨d0, d1, d2, d3, d4, _⟩ := hr q hql
            have HN2 := Lib.hid (fun hh => take_next (P := fun e : En => e.it.id ≠ I) hql HQ.out hh)
            have HM2 := Lib.hid (List.getElem_mem hql)
            obtain ⟨en, hen⟩ : ∃ en, en = sb.es[q] := ⟨_, rfl⟩
            rw [← hen] at d0 d1 d2 d3 d4 HN2 HM2
            have hjd : decide ((q : Int) < (sb.es.length : Int)) = true := decide_eq_true (by omega)
            have hjd2 : (q : Int) < (sb.es.length : Int) := by omega
            have hj0 : (0 : Int) ≤ (q : Int) := by omega
            clear hr hc hen
            by_cases hi : en.it.id = I
            · have hI : (en.it.id.toList == I.toList) = true := by rw [hi]; simp
              have HII := Lib.hid hi
              clear hi
              go_wp2
              have y5 := ((((hy0.set 0 (.string en.it.id)).set 1 (.string en.it.ti)).set 2 (.int .i64 en.it.da)).set 3 (.bool en.rd)).set 4 (.bool en.st)
              change Box _ (w.heap.size + 1) #[.string en.it.id, .string en.it.ti, .int .i64 en.it.da, .bool en.rd, .bool en.st] _ at y5
              have hB5 := ((((hb0.setCell (p := ⟨w.heap.size + 1, 0, none⟩) (by show w.heap.size ≤ w.heap.size + 1; omega) (.string en.it.id)).setCell (p := ⟨w.heap.size + 1, 1, none⟩) (by show w.heap.size ≤ w.heap.size + 1; omega) (.string en.it.ti)).setCell (p := ⟨w.heap.size + 1, 2, none⟩) (by show w.heap.size ≤ w.heap.size + 1; omega) (.int .i64 en.it.da)).setCell (p := ⟨w.heap.size + 1, 3, none⟩) (by show w.heap.size ≤ w.heap.size + 1; omega) (.bool en.rd)).setCell (p := ⟨w.heap.size + 1, 4, none⟩) (by show w.heap.size ≤ w.heap.size + 1; omega) (.bool en.st)
              have e0 := y5.cell 0 _ rfl
              have e1 := y5.cell 1 _ rfl
              have e2 := y5.cell 2 _ rfl
              have e3 := y5.cell 3 _ rfl
              have e4 := y5.cell 4 _ rfl
              exact bodyPost_ret (v := .tuple #[etV (some en), .bool true]) (by simp [results, Try.results25, go_sem, e0, e1, e2, e3, e4, etV]) rfl ⟨some en, ⟨sb, HM.out, HU.out, HM2.out, HII.out⟩, rfl, hB5⟩
            · have hI : (en.it.id.toList == I.toList) = false := by rw [str_eq]; exact decide_eq_false hi
              have HN3 := Lib.hid (HN2.out hi)
              clear hi
              go_wp2
              go_roundw
              case rel => exact ⟨q + 1, by omega, by go_num, by trivial, HN3⟩
              case measure => simp [intOf]; omega
          · have hjd : decide ((q : Int) < (sb.es.length : Int)) = false := decide_eq_false (by omega)
            have HN3 := Lib.hid (HN.out (fun _ => takeAll9 (P := fun e : En => e.it.id ≠ I) hql HQ.out))
            go_wp2
            go_roundw
            case rel => exact ⟨p + 1, by omega, by go_num, by trivial, HN3⟩
            case measure => simp [intOf]; omega
      · have hU : (sb.u.toList == U.toList) = false := by rw [str_eq]; exact decide_eq_false hu
        have HN3 := Lib.hid (HN.out (fun h => absurd h hu))
        clear hu
        go_wp2
        go_loopw [9] (fun j wq => ∃ q : Nat, q ≤ sb.es.length ∧ j = .int .i64 (q : Int) ∧ W0 = wq) (fun j _ => sb.es.length - (intOf j).toNat)
        case atStart => exact ⟨0, Nat.zero_le _, rfl, rfl⟩
        case round =>
          obtain ⟨q, hq, rfl, rfl⟩ := hrel
          by_cases hql : q < sb.es.length
          · have hjd : decide ((q : Int) < (sb.es.length : Int)) = true := decide_eq_true (by omega)
            go_wp2
            go_roundw
            case rel => exact ⟨q + 1, by omega, by go_num, by trivial⟩
            case measure => simp [intOf]; omega
          · have hjd : decide ((q : Int) < (sb.es.length : Int)) = false := decide_eq_false (by omega)
            go_wp2
            go_roundw
            case rel => exact ⟨p + 1, by omega, by go_num, by trivial, HN3⟩
            case measure => simp [intOf]; omega
    · have hkl : decide ((p : Int) < (ss.length : Int)) = false := decide_eq_false (by omega)
      have HA := Lib.hid (takeAll9 (P := fun s : Sb => s.u = U → ∀ e ∈ s.es, e.it.id ≠ I) hlt HP.out)
      go_wp2
      have y5 := ((((hy0.set 0 (.string ⟨#[]⟩)).set 1 (.string ⟨#[]⟩)).set 2 (.int .i64 0)).set 3 (.bool false)).set 4 (.bool false)
      change Box _ (w.heap.size + 1) #[.string ⟨#[]⟩, .string ⟨#[]⟩, .int .i64 0, .bool false, .bool false] _ at y5
      have hB5 := ((((hb0.setCell (p := ⟨w.heap.size + 1, 0, none⟩) (by show w.heap.size ≤ w.heap.size + 1; omega) (.string ⟨#[]⟩)).setCell (p := ⟨w.heap.size + 1, 1, none⟩) (by show w.heap.size ≤ w.heap.size + 1; omega) (.string ⟨#[]⟩)).setCell (p := ⟨w.heap.size + 1, 2, none⟩) (by show w.heap.size ≤ w.heap.size + 1; omega) (.int .i64 0)).setCell (p := ⟨w.heap.size + 1, 3, none⟩) (by show w.heap.size ≤ w.heap.size + 1; omega) (.bool false)).setCell (p := ⟨w.heap.size + 1, 4, none⟩) (by show w.heap.size ≤ w.heap.size + 1; omega) (.bool false)
      have e0 := y5.cell 0 _ rfl
      have e1 := y5.cell 1 _ rfl
      have e2 := y5.cell 2 _ rfl
      have e3 := y5.cell 3 _ rfl
      have e4 := y5.cell 4 _ rfl
      exact bodyPost_ret (v := .tuple #[etV none, .bool false]) (by simp [results, Try.results25, go_sem, e0, e1, e2, e3, e4, etV]) rfl ⟨none, HA.out, rfl, hB5⟩
end Go.Proofs.Ytffkakpbelknaaa

/- V9m -/
namespace Go.Proofs.Ytffkakpbelknaaa
open Go.ChangeShapes Go.WideShapes Go.ChangeAt Go.RowKit
set_option linter.unusedVariables false
set_option linter.unusedSimpArgs false

set_option maxRecDepth 100000 in
set_option maxHeartbeats 3000000 in
theorem walk_FnMarked (aa : Option Addr) (len cap : Nat) (z : List Int) (w : World) (h : IsRow .u8 w aa len cap z) :
    Calls Try.prog 4 #[.slice aa len cap] w fun e w' => e = .returned (.bool true) ∧ Below w.heap.size w w' := by
  have hcd := Cd.of_row h
  clear h
  go_enter Try.func4, Try.ntmps4
  go_wp2_with fail
  refine (big_any _ _ _ hcd).mono ?_
  rintro e w1 ⟨⟨b, rfl⟩, rfl⟩
  cases b with
  | true =>
    go_wp2
    go_ret
    exact ⟨rfl, Below.refl _ _⟩
  | false =>
    go_wp2_with fail
    refine (drawDone_any _ _ _ hcd).mono ?_
    rintro e v1 ⟨V, ss, o, x, rfl, hsz, hso, hS, hI, hd1⟩
    clear hcd
    obtain ⟨ra, rc, hV, hrl, hrm, _⟩ := hS.raw
    subst hV
    unfold maxLen at hrm
    obtain ⟨xa, xc, rfl⟩ := hI.1.slice
    have HSs : Hid (∀ W, Below v1.heap.size v1 W → SbAt W W.heap.size (.slice ra ss.length rc) ss) := Lib.hid (fun W hW => (hS.below hW).mono hW.size)
    have HIs : Hid (∀ W, Below v1.heap.size v1 W → ItAt W W.heap.size (.slice xa o.its.length xc) o.its) := Lib.hid (fun W hW => (hI.below hW).mono hW.size)
    have HSz := Lib.hid hsz
    have HOz : Hid (OpSz o) := Lib.hid (smO_sz hso).1
    have HBw0 := Lib.hid hd1
    clear hS hI hsz hso hd1
    have hxr0 := Box.new v1 #[.slice ra ss.length rc] 26
    have hxr := hxr0.alloc (.cells #[.int .i64 o.k, .string o.u, .string o.i, .int .i64 o.d, .string o.fu, .string o.ft, (.slice xa o.its.length xc)] 31)
    have hxo := Box.new (v1.alloc (.cells #[.slice ra ss.length rc] 26)) #[.int .i64 o.k, .string o.u, .string o.i, .int .i64 o.d, .string o.fu, .string o.ft, (.slice xa o.its.length xc)] 31
    have hBw : Below v1.heap.size v1 ((v1.alloc (.cells #[.slice ra ss.length rc] 26)).alloc (.cells #[.int .i64 o.k, .string o.u, .string o.i, .int .i64 o.d, .string o.fu, .string o.ft, (.slice xa o.its.length xc)] 31)) := ((Below.refl _ _).alloc (Nat.le_refl _) _).alloc (by simp) _
    rw [World.size_alloc] at hxo
    clear hxr0
    obtain ⟨ok, ou, oi, od, ofu, oft, oits⟩ := o
    try dsimp only at HIs
    try dsimp only at hxr
    try dsimp only at hxo
    try dsimp only at hBw
    cases hA : doV ss (⟨ok, ou, oi, od, ofu, oft, oits⟩ : OpD) with
    | none =>
      have xxr0 := hxr.cell 0 _ rfl
      have xxo0 := hxo.cell 0 _ rfl
      have xxo1 := hxo.cell 1 _ rfl
      have xxo2 := hxo.cell 2 _ rfl
      have xxo3 := hxo.cell 3 _ rfl
      have xxo4 := hxo.cell 4 _ rfl
      have xxo5 := hxo.cell 5 _ rfl
      have xxo6 := hxo.cell 6 _ rfl
      go_wp2_with fail
      clear xxr0 xxo0 xxo1 xxo2 xxo3 xxo4 xxo5 xxo6
      refine (implDone_no _ _ ss (⟨ok, ou, oi, od, ofu, oft, oits⟩ : OpD) _ (HSs.out _ hBw) (HIs.out _ hBw) HOz.out hA).mono ?_
      rintro e w2 ⟨V2, q2, rfl, hq2, hD2, hb2⟩
      obtain ⟨a2, c2, hV2⟩ := hD2.1.slice
      have hL2 : q2.length = ([] : List Sb).length := by rw [← hq2, List.length_map]
      rw [hL2] at hV2
      subst hV2
      have HS2 : Hid (SbAt w2 w2.heap.size (.slice a2 ([] : List Sb).length c2) ([] : List Sb)) := Lib.hid (hD2.at hq2 (by simp))
      replace hxr := hxr.keep hb2 hxr.lt
      replace hxo := hxo.keep hb2 hxo.lt
      replace hBw := hBw.trans (hb2.mono hBw.size)
      clear hb2 hq2 hD2 hL2
      have hl02 : ([] : List Sb).length = 0 := rfl
      rw [hl02] at HS2 ⊢
      clear hl02
      have hxa := Box.new w2 #[.slice a2 0 c2] 26
      have hba : Below w2.heap.size w2 (w2.alloc (.cells #[.slice a2 0 c2] 26)) := (Below.refl _ _).alloc (Nat.le_refl _) _
      replace hxr := hxr.keep hba hxr.lt
      replace hxo := hxo.keep hba hxo.lt
      replace HS2 := Lib.hid ((HS2.out.below hba).mono hba.size)
      replace hBw := hBw.trans (hba.mono hBw.size)
      clear hba
      have xxr0 := hxr.cell 0 _ rfl
      have xxo0 := hxo.cell 0 _ rfl
      have xxo1 := hxo.cell 1 _ rfl
      have xxo2 := hxo.cell 2 _ rfl
      have xxo3 := hxo.cell 3 _ rfl
      have xxo4 := hxo.cell 4 _ rfl
      have xxo5 := hxo.cell 5 _ rfl
      have xxo6 := hxo.cell 6 _ rfl
      go_wp2_with fail
      clear xxr0 xxo0 xxo1 xxo2 xxo3 xxo4 xxo5 xxo6
      generalize w2.alloc (.cells #[.slice a2 0 c2] 26) = W2 at hxr hxo hxa HS2 hBw ⊢
      generalize w2.heap.size = g2 at hxa ⊢
      refine (specDone_no _ _ ss (⟨ok, ou, oi, od, ofu, oft, oits⟩ : OpD) _ (HSs.out _ hBw) (HIs.out _ hBw) HOz.out hA).mono ?_
      rintro e w3 ⟨V3, q3, rfl, hq3, hD3, hb3⟩
      obtain ⟨a3, c3, hV3⟩ := hD3.1.slice
      have hL3 : q3.length = ([] : List Sb).length := by rw [← hq3, List.length_map]
      rw [hL3] at hV3
      subst hV3
      have HS3 : Hid (SbAt w3 w3.heap.size (.slice a3 ([] : List Sb).length c3) ([] : List Sb)) := Lib.hid (hD3.at hq3 (by simp))
      replace hxr := hxr.keep hb3 hxr.lt
      replace hxo := hxo.keep hb3 hxo.lt
      replace hxa := hxa.keep hb3 hxa.lt
      replace HS2 := Lib.hid ((HS2.out.below hb3).mono hb3.size)
      replace hBw := hBw.trans (hb3.mono hBw.size)
      clear hb3 hq3 hD3 hL3
      have hl03 : ([] : List Sb).length = 0 := rfl
      rw [hl03] at HS3 ⊢
      clear hl03
      have hxw := Box.new w3 #[.slice a3 0 c3] 26
      have hba : Below w3.heap.size w3 (w3.alloc (.cells #[.slice a3 0 c3] 26)) := (Below.refl _ _).alloc (Nat.le_refl _) _
      replace hxr := hxr.keep hba hxr.lt
      replace hxo := hxo.keep hba hxo.lt
      replace hxa := hxa.keep hba hxa.lt
      replace HS2 := Lib.hid ((HS2.out.below hba).mono hba.size)
      replace HS3 := Lib.hid ((HS3.out.below hba).mono hba.size)
      replace hBw := hBw.trans (hba.mono hBw.size)
      clear hba
      have xxa0 := hxa.cell 0 _ rfl
      have xxw0 := hxw.cell 0 _ rfl
      go_wp2_with fail
      clear xxa0 xxw0
      generalize w3.alloc (.cells #[.slice a3 0 c3] 26) = W3 at hxr hxo hxa hxw HS2 HS3 hBw ⊢
      generalize w3.heap.size = g3 at hxw ⊢
      refine (sameReader_any _ _ [] _ HS2.out HS3.out).mono ?_
      rintro e w4 ⟨rfl, hb4⟩
      replace hxr := hxr.keep hb4 hxr.lt
      replace hxo := hxo.keep hb4 hxo.lt
      replace hxa := hxa.keep hb4 hxa.lt
      replace hxw := hxw.keep hb4 hxw.lt
      replace HS2 := Lib.hid ((HS2.out.below hb4).mono hb4.size)
      replace HS3 := Lib.hid ((HS3.out.below hb4).mono hb4.size)
      replace hBw := hBw.trans (hb4.mono hBw.size)
      clear hb4
      have xxa0 := hxa.cell 0 _ rfl
      have xxw0 := hxw.cell 0 _ rfl
      go_wp2_with fail
      clear xxa0 xxw0
      refine (sameReader_any _ _ [] _ HS2.out HS3.out).mono ?_
      rintro e w5 ⟨rfl, hb5⟩
      replace hxr := hxr.keep hb5 hxr.lt
      replace hxo := hxo.keep hb5 hxo.lt
      replace hxa := hxa.keep hb5 hxa.lt
      replace hxw := hxw.keep hb5 hxw.lt
      replace HS2 := Lib.hid ((HS2.out.below hb5).mono hb5.size)
      replace HS3 := Lib.hid ((HS3.out.below hb5).mono hb5.size)
      replace hBw := hBw.trans (hb5.mono hBw.size)
      clear hb5
      go_wp2
      go_ret
      exact ⟨rfl, HBw0.out.trans (hBw.mono HBw0.out.size)⟩
    | some rs =>
      have HA := Lib.hid hA
      have HZR := Lib.hid (rd_sz (doV_rd hA))
      have HF := Lib.hid (fun hk => doV_mk hA hk)
      clear hA
      have xxr0 := hxr.cell 0 _ rfl
      have xxo0 := hxo.cell 0 _ rfl
      have xxo1 := hxo.cell 1 _ rfl
      have xxo2 := hxo.cell 2 _ rfl
      have xxo3 := hxo.cell 3 _ rfl
      have xxo4 := hxo.cell 4 _ rfl
      have xxo5 := hxo.cell 5 _ rfl
      have xxo6 := hxo.cell 6 _ rfl
      go_wp2_with fail
      clear xxr0 xxo0 xxo1 xxo2 xxo3 xxo4 xxo5 xxo6
      refine (implDone_some _ _ ss rs (⟨ok, ou, oi, od, ofu, oft, oits⟩ : OpD) _ (HSs.out _ hBw) (HIs.out _ hBw) HOz.out HA.out).mono ?_
      rintro e w2 ⟨V2, q2, rfl, hq2, hD2, hb2⟩
      obtain ⟨a2, c2, hV2⟩ := hD2.1.slice
      have hL2 : q2.length = rs.length := by rw [← hq2, List.length_map]
      rw [hL2] at hV2
      subst hV2
      have HS2 : Hid (SbAt w2 w2.heap.size (.slice a2 rs.length c2) rs) := Lib.hid (hD2.at hq2 HZR.out)
      replace hxr := hxr.keep hb2 hxr.lt
      replace hxo := hxo.keep hb2 hxo.lt
      replace hBw := hBw.trans (hb2.mono hBw.size)
      clear hb2 hq2 hD2 hL2
      have hxa := Box.new w2 #[.slice a2 rs.length c2] 26
      have hba : Below w2.heap.size w2 (w2.alloc (.cells #[.slice a2 rs.length c2] 26)) := (Below.refl _ _).alloc (Nat.le_refl _) _
      replace hxr := hxr.keep hba hxr.lt
      replace hxo := hxo.keep hba hxo.lt
      replace HS2 := Lib.hid ((HS2.out.below hba).mono hba.size)
      replace hBw := hBw.trans (hba.mono hBw.size)
      clear hba
      have xxr0 := hxr.cell 0 _ rfl
      have xxo0 := hxo.cell 0 _ rfl
      have xxo1 := hxo.cell 1 _ rfl
      have xxo2 := hxo.cell 2 _ rfl
      have xxo3 := hxo.cell 3 _ rfl
      have xxo4 := hxo.cell 4 _ rfl
      have xxo5 := hxo.cell 5 _ rfl
      have xxo6 := hxo.cell 6 _ rfl
      go_wp2_with fail
      clear xxr0 xxo0 xxo1 xxo2 xxo3 xxo4 xxo5 xxo6
      generalize w2.alloc (.cells #[.slice a2 rs.length c2] 26) = W2 at hxr hxo hxa HS2 hBw ⊢
      generalize w2.heap.size = g2 at hxa ⊢
      refine (specDone_some _ _ ss rs (⟨ok, ou, oi, od, ofu, oft, oits⟩ : OpD) _ (HSs.out _ hBw) (HIs.out _ hBw) HOz.out HA.out).mono ?_
      rintro e w3 ⟨V3, q3, rfl, hq3, hD3, hb3⟩
      obtain ⟨a3, c3, hV3⟩ := hD3.1.slice
      have hL3 : q3.length = rs.length := by rw [← hq3, List.length_map]
      rw [hL3] at hV3
      subst hV3
      have HS3 : Hid (SbAt w3 w3.heap.size (.slice a3 rs.length c3) rs) := Lib.hid (hD3.at hq3 HZR.out)
      replace hxr := hxr.keep hb3 hxr.lt
      replace hxo := hxo.keep hb3 hxo.lt
      replace hxa := hxa.keep hb3 hxa.lt
      replace HS2 := Lib.hid ((HS2.out.below hb3).mono hb3.size)
      replace hBw := hBw.trans (hb3.mono hBw.size)
      clear hb3 hq3 hD3 hL3
      have hxw := Box.new w3 #[.slice a3 rs.length c3] 26
      have hba : Below w3.heap.size w3 (w3.alloc (.cells #[.slice a3 rs.length c3] 26)) := (Below.refl _ _).alloc (Nat.le_refl _) _
      replace hxr := hxr.keep hba hxr.lt
      replace hxo := hxo.keep hba hxo.lt
      replace hxa := hxa.keep hba hxa.lt
      replace HS2 := Lib.hid ((HS2.out.below hba).mono hba.size)
      replace HS3 := Lib.hid ((HS3.out.below hba).mono hba.size)
      replace hBw := hBw.trans (hba.mono hBw.size)
      clear hba
      have xxa0 := hxa.cell 0 _ rfl
      have xxw0 := hxw.cell 0 _ rfl
      go_wp2_with fail
      clear xxa0 xxw0
      generalize w3.alloc (.cells #[.slice a3 rs.length c3] 26) = W3 at hxr hxo hxa hxw HS2 HS3 hBw ⊢
      generalize w3.heap.size = g3 at hxw ⊢
      refine (sameReader_any _ _ rs _ HS2.out HS3.out).mono ?_
      rintro e w4 ⟨rfl, hb4⟩
      replace hxr := hxr.keep hb4 hxr.lt
      replace hxo := hxo.keep hb4 hxo.lt
      replace hxa := hxa.keep hb4 hxa.lt
      replace hxw := hxw.keep hb4 hxw.lt
      replace HS2 := Lib.hid ((HS2.out.below hb4).mono hb4.size)
      replace HS3 := Lib.hid ((HS3.out.below hb4).mono hb4.size)
      replace hBw := hBw.trans (hb4.mono hBw.size)
      clear hb4
      by_cases hk : 4 ≤ ok ∧ ok ≤ 7
      case neg =>
        clear HF
        by_cases hk4 : ok < 4
        case pos =>
          have hk5 : decide (ok < 4) = true := decide_eq_true hk4
          clear hk
          have xxa0 := hxa.cell 0 _ rfl
          have xxw0 := hxw.cell 0 _ rfl
          have xxo0 := hxo.cell 0 _ rfl
          go_wp2_with fail
          clear xxa0 xxw0 xxo0
          refine (sameReader_any _ _ rs _ HS2.out HS3.out).mono ?_
          rintro e w5 ⟨rfl, hb5⟩
          replace hxr := hxr.keep hb5 hxr.lt
          replace hxo := hxo.keep hb5 hxo.lt
          replace hxa := hxa.keep hb5 hxa.lt
          replace hxw := hxw.keep hb5 hxw.lt
          replace HS2 := Lib.hid ((HS2.out.below hb5).mono hb5.size)
          replace HS3 := Lib.hid ((HS3.out.below hb5).mono hb5.size)
          replace hBw := hBw.trans (hb5.mono hBw.size)
          clear hb5
          go_wp2
          go_ret
          exact ⟨rfl, HBw0.out.trans (hBw.mono HBw0.out.size)⟩
        have hk5 : decide (ok < 4) = false := decide_eq_false hk4
        have hk7 : 7 < ok := by omega
        have hk6 : decide (7 < ok) = true := decide_eq_true hk7
        clear hk
        have xxa0 := hxa.cell 0 _ rfl
        have xxw0 := hxw.cell 0 _ rfl
        have xxo0 := hxo.cell 0 _ rfl
        go_wp2_with fail
        clear xxa0 xxw0 xxo0
        refine (sameReader_any _ _ rs _ HS2.out HS3.out).mono ?_
        rintro e w5 ⟨rfl, hb5⟩
        replace hxr := hxr.keep hb5 hxr.lt
        replace hxo := hxo.keep hb5 hxo.lt
        replace hxa := hxa.keep hb5 hxa.lt
        replace hxw := hxw.keep hb5 hxw.lt
        replace HS2 := Lib.hid ((HS2.out.below hb5).mono hb5.size)
        replace HS3 := Lib.hid ((HS3.out.below hb5).mono hb5.size)
        replace hBw := hBw.trans (hb5.mono hBw.size)
        clear hb5
        go_wp2
        go_ret
        exact ⟨rfl, HBw0.out.trans (hBw.mono HBw0.out.size)⟩
      obtain ⟨en, hez, hr1, hr2, hdd, hbk⟩ := HF.out hk
      have HR1 := Lib.hid hr1
      have HR2 := Lib.hid hr2
      have HDD := Lib.hid hdd
      have HBK := Lib.hid hbk
      clear hr1 hr2 hdd hbk HF hez
      obtain ⟨⟨eid, eti, eda⟩, erd, est⟩ := en
      try dsimp only at HR1
      try dsimp only at HR2
      try dsimp only at HBK
      rcases (show ok = 4 ∨ ok = 5 ∨ ok = 6 ∨ ok = 7 by omega) with rfl | rfl | rfl | rfl
      ·
        clear hk
        obtain ⟨bs, hdb, hbs⟩ := HBK.out 5 (by omega)
        have HDB := Lib.hid hdb
        have HBS := Lib.hid hbs
        have HZB := Lib.hid (rd_sz (doV_rd hdb))
        clear hdb hbs HBK
        have xxr0 := hxr.cell 0 _ rfl
        have xxo1 := hxo.cell 1 _ rfl
        have xxo2 := hxo.cell 2 _ rfl
        have xxo0 := hxo.cell 0 _ rfl
        go_wp2_with fail
        clear xxr0 xxo1 xxo2 xxo0
        refine (entry_any _ ss ou oi _ (HSs.out _ hBw)).mono ?_
        rintro e w5 ⟨r5, hE5, rfl, hb5⟩
        have hr5 := HR1.out _ hE5
        subst hr5
        replace hxr := hxr.keep hb5 hxr.lt
        replace hxo := hxo.keep hb5 hxo.lt
        replace hxa := hxa.keep hb5 hxa.lt
        replace hxw := hxw.keep hb5 hxw.lt
        replace HS2 := Lib.hid ((HS2.out.below hb5).mono hb5.size)
        replace HS3 := Lib.hid ((HS3.out.below hb5).mono hb5.size)
        replace hBw := hBw.trans (hb5.mono hBw.size)
        clear hb5 hE5
        simp only [etV, Option.isSome_some]
        have hye := Box.new w5 #[.string eid, .string eti, .int .i64 eda, .bool erd, .bool est] 47
        have hba : Below w5.heap.size w5 (w5.alloc (.cells #[.string eid, .string eti, .int .i64 eda, .bool erd, .bool est] 47)) := (Below.refl _ _).alloc (Nat.le_refl _) _
        replace hxr := hxr.keep hba hxr.lt
        replace hxo := hxo.keep hba hxo.lt
        replace hxa := hxa.keep hba hxa.lt
        replace hxw := hxw.keep hba hxw.lt
        replace HS2 := Lib.hid ((HS2.out.below hba).mono hba.size)
        replace HS3 := Lib.hid ((HS3.out.below hba).mono hba.size)
        replace hBw := hBw.trans (hba.mono hBw.size)
        clear hba
        have xxa0 := hxa.cell 0 _ rfl
        have xxo1 := hxo.cell 1 _ rfl
        have xxo2 := hxo.cell 2 _ rfl
        go_wp2_with fail
        clear xxa0 xxo1 xxo2
        generalize w5.alloc (.cells #[.string eid, .string eti, .int .i64 eda, .bool erd, .bool est] 47) = W5 at hxr hxo hxa hxw hye HS2 HS3 hBw ⊢
        generalize w5.heap.size = g5 at hye ⊢
        refine (entry_any _ rs ou oi _ HS2.out).mono ?_
        rintro e w6 ⟨r6, hE6, rfl, hb6⟩
        have hr6 := HR2.out _ hE6
        subst hr6
        replace hxr := hxr.keep hb6 hxr.lt
        replace hxo := hxo.keep hb6 hxo.lt
        replace hxa := hxa.keep hb6 hxa.lt
        replace hxw := hxw.keep hb6 hxw.lt
        replace hye := hye.keep hb6 hye.lt
        replace HS2 := Lib.hid ((HS2.out.below hb6).mono hb6.size)
        replace HS3 := Lib.hid ((HS3.out.below hb6).mono hb6.size)
        replace hBw := hBw.trans (hb6.mono hBw.size)
        clear hb6 hE6
        simp only [etV, Option.isSome_some, mkE]
        simp only [show ((4 : Int) = 4) = True from by simp, show ((4 : Int) = 5) = False from by simp, show ((4 : Int) = 6) = False from by simp, if_true, if_false]
        have hyf := Box.new w6 #[.string eid, .string eti, .int .i64 eda, .bool true, .bool est] 47
        have hba : Below w6.heap.size w6 (w6.alloc (.cells #[.string eid, .string eti, .int .i64 eda, .bool true, .bool est] 47)) := (Below.refl _ _).alloc (Nat.le_refl _) _
        replace hxr := hxr.keep hba hxr.lt
        replace hxo := hxo.keep hba hxo.lt
        replace hxa := hxa.keep hba hxa.lt
        replace hxw := hxw.keep hba hxw.lt
        replace hye := hye.keep hba hye.lt
        replace HS2 := Lib.hid ((HS2.out.below hba).mono hba.size)
        replace HS3 := Lib.hid ((HS3.out.below hba).mono hba.size)
        replace hBw := hBw.trans (hba.mono hBw.size)
        clear hba
        have xxa0 := hxa.cell 0 _ rfl
        have xxo0 := hxo.cell 0 _ rfl
        have xxo1 := hxo.cell 1 _ rfl
        have xxo2 := hxo.cell 2 _ rfl
        have xxo3 := hxo.cell 3 _ rfl
        have xxo4 := hxo.cell 4 _ rfl
        have xxo5 := hxo.cell 5 _ rfl
        have xxo6 := hxo.cell 6 _ rfl
        go_wp2_with fail
        clear xxa0 xxo0 xxo1 xxo2 xxo3 xxo4 xxo5 xxo6
        generalize w6.alloc (.cells #[.string eid, .string eti, .int .i64 eda, .bool true, .bool est] 47) = W6 at hxr hxo hxa hxw hye hyf HS2 HS3 hBw ⊢
        generalize w6.heap.size = g6 at hyf ⊢
        refine (implDone_some _ _ rs rs (⟨4, ou, oi, od, ofu, oft, oits⟩ : OpD) _ HS2.out (HIs.out _ hBw) HOz.out HDD.out).mono ?_
        rintro e w7 ⟨V7, q7, rfl, hq7, hD7, hb7⟩
        obtain ⟨a7, c7, hV7⟩ := hD7.1.slice
        have hL7 : q7.length = rs.length := by rw [← hq7, List.length_map]
        rw [hL7] at hV7
        subst hV7
        have HS7 : Hid (SbAt w7 w7.heap.size (.slice a7 rs.length c7) rs) := Lib.hid (hD7.at hq7 HZR.out)
        replace hxr := hxr.keep hb7 hxr.lt
        replace hxo := hxo.keep hb7 hxo.lt
        replace hxa := hxa.keep hb7 hxa.lt
        replace hxw := hxw.keep hb7 hxw.lt
        replace hye := hye.keep hb7 hye.lt
        replace hyf := hyf.keep hb7 hyf.lt
        replace HS2 := Lib.hid ((HS2.out.below hb7).mono hb7.size)
        replace HS3 := Lib.hid ((HS3.out.below hb7).mono hb7.size)
        replace hBw := hBw.trans (hb7.mono hBw.size)
        clear hb7 hq7 hD7 hL7
        have hxg := Box.new w7 #[.slice a7 rs.length c7] 26
        have hba : Below w7.heap.size w7 (w7.alloc (.cells #[.slice a7 rs.length c7] 26)) := (Below.refl _ _).alloc (Nat.le_refl _) _
        replace hxr := hxr.keep hba hxr.lt
        replace hxo := hxo.keep hba hxo.lt
        replace hxa := hxa.keep hba hxa.lt
        replace hxw := hxw.keep hba hxw.lt
        replace hye := hye.keep hba hye.lt
        replace hyf := hyf.keep hba hyf.lt
        replace HS2 := Lib.hid ((HS2.out.below hba).mono hba.size)
        replace HS3 := Lib.hid ((HS3.out.below hba).mono hba.size)
        replace HS7 := Lib.hid ((HS7.out.below hba).mono hba.size)
        replace hBw := hBw.trans (hba.mono hBw.size)
        clear hba
        have xxg0 := hxg.cell 0 _ rfl
        have xxa0 := hxa.cell 0 _ rfl
        go_wp2_with fail
        clear xxg0 xxa0
        generalize w7.alloc (.cells #[.slice a7 rs.length c7] 26) = W7 at hxr hxo hxa hxw hye hyf hxg HS2 HS3 HS7 hBw ⊢
        generalize w7.heap.size = g7 at hxg ⊢
        refine (sameReader_any _ _ rs _ HS7.out HS2.out).mono ?_
        rintro e w8 ⟨rfl, hb8⟩
        replace hxr := hxr.keep hb8 hxr.lt
        replace hxo := hxo.keep hb8 hxo.lt
        replace hxa := hxa.keep hb8 hxa.lt
        replace hxw := hxw.keep hb8 hxw.lt
        replace hye := hye.keep hb8 hye.lt
        replace hyf := hyf.keep hb8 hyf.lt
        replace hxg := hxg.keep hb8 hxg.lt
        replace HS2 := Lib.hid ((HS2.out.below hb8).mono hb8.size)
        replace HS3 := Lib.hid ((HS3.out.below hb8).mono hb8.size)
        replace HS7 := Lib.hid ((HS7.out.below hb8).mono hb8.size)
        replace hBw := hBw.trans (hb8.mono hBw.size)
        clear hb8
        have xye0 := hye.cell 0 _ rfl
        have xye1 := hye.cell 1 _ rfl
        have xye2 := hye.cell 2 _ rfl
        have xye3 := hye.cell 3 _ rfl
        have xye4 := hye.cell 4 _ rfl
        have xyf0 := hyf.cell 0 _ rfl
        have xyf1 := hyf.cell 1 _ rfl
        have xyf2 := hyf.cell 2 _ rfl
        have xyf3 := hyf.cell 3 _ rfl
        have xyf4 := hyf.cell 4 _ rfl
        have xxo0 := hxo.cell 0 _ rfl
        have xxo1 := hxo.cell 1 _ rfl
        have xxo2 := hxo.cell 2 _ rfl
        have xxo3 := hxo.cell 3 _ rfl
        have xxo4 := hxo.cell 4 _ rfl
        have xxo5 := hxo.cell 5 _ rfl
        have xxo6 := hxo.cell 6 _ rfl
        have xxa0 := hxa.cell 0 _ rfl
        have ha0 : Below w8.heap.size w8 (w8.alloc (.cells #[.int .i64 4, .string ou, .string oi, .int .i64 od, .string ofu, .string oft, (.slice xa oits.length xc)] 31)) := (Below.refl _ _).alloc (Nat.le_refl _) _
        have s0 : (w8.alloc (.cells #[.int .i64 4, .string ou, .string oi, .int .i64 od, .string ofu, .string oft, (.slice xa oits.length xc)] 31)).cell? ⟨v1.heap.size + 1, 0, none⟩ = some (.int .i64 4) := (hxo.keep ha0 hxo.lt).cell 0 _ rfl
        have sa0 : (w8.alloc (.cells #[.int .i64 4, .string ou, .string oi, .int .i64 od, .string ofu, .string oft, (.slice xa oits.length xc)] 31)).cell? ⟨g2, 0, none⟩ = some (.slice a2 rs.length c2) := (hxa.keep ha0 hxa.lt).cell 0 _ rfl
        clear ha0
        have ha1 : Below w8.heap.size w8 (w8.alloc (.cells #[.int .i64 5, .string ou, .string oi, .int .i64 od, .string ofu, .string oft, (.slice xa oits.length xc)] 31)) := (Below.refl _ _).alloc (Nat.le_refl _) _
        have s1 : (w8.alloc (.cells #[.int .i64 5, .string ou, .string oi, .int .i64 od, .string ofu, .string oft, (.slice xa oits.length xc)] 31)).cell? ⟨v1.heap.size + 1, 0, none⟩ = some (.int .i64 4) := (hxo.keep ha1 hxo.lt).cell 0 _ rfl
        have sa1 : (w8.alloc (.cells #[.int .i64 5, .string ou, .string oi, .int .i64 od, .string ofu, .string oft, (.slice xa oits.length xc)] 31)).cell? ⟨g2, 0, none⟩ = some (.slice a2 rs.length c2) := (hxa.keep ha1 hxa.lt).cell 0 _ rfl
        clear ha1
        go_wp2_with fail
        clear xye0 xye1 xye2 xye3 xye4 xyf0 xyf1 xyf2 xyf3 xyf4 xxo0 xxo1 xxo2 xxo3 xxo4 xxo5 xxo6 xxa0 s0 s1 sa0 sa1
        have hxp := Box.new w8 #[.int .i64 5, .string ou, .string oi, .int .i64 od, .string ofu, .string oft, (.slice xa oits.length xc)] 31
        have hba : Below w8.heap.size w8 (w8.alloc (.cells #[.int .i64 5, .string ou, .string oi, .int .i64 od, .string ofu, .string oft, (.slice xa oits.length xc)] 31)) := (Below.refl _ _).alloc (Nat.le_refl _) _
        replace hxr := hxr.keep hba hxr.lt
        replace hxo := hxo.keep hba hxo.lt
        replace hxa := hxa.keep hba hxa.lt
        replace hxw := hxw.keep hba hxw.lt
        replace hye := hye.keep hba hye.lt
        replace hyf := hyf.keep hba hyf.lt
        replace hxg := hxg.keep hba hxg.lt
        replace HS2 := Lib.hid ((HS2.out.below hba).mono hba.size)
        replace HS3 := Lib.hid ((HS3.out.below hba).mono hba.size)
        replace HS7 := Lib.hid ((HS7.out.below hba).mono hba.size)
        replace hBw := hBw.trans (hba.mono hBw.size)
        clear hba
        generalize w8.alloc (.cells #[.int .i64 5, .string ou, .string oi, .int .i64 od, .string ofu, .string oft, (.slice xa oits.length xc)] 31) = W8 at hxr hxo hxa hxw hye hyf hxg hxp HS2 HS3 HS7 hBw ⊢
        generalize w8.heap.size = g8 at hxp ⊢
        refine (implDone_some _ _ rs bs (⟨5, ou, oi, od, ofu, oft, oits⟩ : OpD) _ HS2.out (HIs.out _ hBw) HOz.out HDB.out).mono ?_
        rintro e w9 ⟨V9, q9, rfl, hq9, hD9, hb9⟩
        obtain ⟨a9, c9, hV9⟩ := hD9.1.slice
        have hL9 : q9.length = bs.length := by rw [← hq9, List.length_map]
        rw [hL9] at hV9
        subst hV9
        have HS9 : Hid (SbAt w9 w9.heap.size (.slice a9 bs.length c9) bs) := Lib.hid (hD9.at hq9 HZB.out)
        replace hxr := hxr.keep hb9 hxr.lt
        replace hxo := hxo.keep hb9 hxo.lt
        replace hxa := hxa.keep hb9 hxa.lt
        replace hxw := hxw.keep hb9 hxw.lt
        replace hye := hye.keep hb9 hye.lt
        replace hyf := hyf.keep hb9 hyf.lt
        replace hxg := hxg.keep hb9 hxg.lt
        replace hxp := hxp.keep hb9 hxp.lt
        replace HS2 := Lib.hid ((HS2.out.below hb9).mono hb9.size)
        replace HS3 := Lib.hid ((HS3.out.below hb9).mono hb9.size)
        replace HS7 := Lib.hid ((HS7.out.below hb9).mono hb9.size)
        replace hBw := hBw.trans (hb9.mono hBw.size)
        clear hb9 hq9 hD9 hL9
        have hxq := Box.new w9 #[.slice a9 bs.length c9] 26
        have hba : Below w9.heap.size w9 (w9.alloc (.cells #[.slice a9 bs.length c9] 26)) := (Below.refl _ _).alloc (Nat.le_refl _) _
        replace hxr := hxr.keep hba hxr.lt
        replace hxo := hxo.keep hba hxo.lt
        replace hxa := hxa.keep hba hxa.lt
        replace hxw := hxw.keep hba hxw.lt
        replace hye := hye.keep hba hye.lt
        replace hyf := hyf.keep hba hyf.lt
        replace hxg := hxg.keep hba hxg.lt
        replace hxp := hxp.keep hba hxp.lt
        replace HS2 := Lib.hid ((HS2.out.below hba).mono hba.size)
        replace HS3 := Lib.hid ((HS3.out.below hba).mono hba.size)
        replace HS7 := Lib.hid ((HS7.out.below hba).mono hba.size)
        replace HS9 := Lib.hid ((HS9.out.below hba).mono hba.size)
        replace hBw := hBw.trans (hba.mono hBw.size)
        clear hba
        cases erd with
        | true =>
          have xye0 := hye.cell 0 _ rfl
          have xye1 := hye.cell 1 _ rfl
          have xye2 := hye.cell 2 _ rfl
          have xye3 := hye.cell 3 _ rfl
          have xye4 := hye.cell 4 _ rfl
          have xyf0 := hyf.cell 0 _ rfl
          have xyf1 := hyf.cell 1 _ rfl
          have xyf2 := hyf.cell 2 _ rfl
          have xyf3 := hyf.cell 3 _ rfl
          have xyf4 := hyf.cell 4 _ rfl
          go_wp2
          go_ret
          exact ⟨rfl, HBw0.out.trans (hBw.mono HBw0.out.size)⟩
        | false =>
          have e9 := HBS.out (by intro hc; simp [mkE] at hc)
          subst e9
          have HSr := Lib.hid (HSs.out _ hBw)
          have xye0 := hye.cell 0 _ rfl
          have xye1 := hye.cell 1 _ rfl
          have xye2 := hye.cell 2 _ rfl
          have xye3 := hye.cell 3 _ rfl
          have xye4 := hye.cell 4 _ rfl
          have xyf0 := hyf.cell 0 _ rfl
          have xyf1 := hyf.cell 1 _ rfl
          have xyf2 := hyf.cell 2 _ rfl
          have xyf3 := hyf.cell 3 _ rfl
          have xyf4 := hyf.cell 4 _ rfl
          have xxq0 := hxq.cell 0 _ rfl
          have xxr0 := hxr.cell 0 _ rfl
          go_wp2_with fail
          clear xye0 xye1 xye2 xye3 xye4 xyf0 xyf1 xyf2 xyf3 xyf4 xxq0 xxr0
          generalize w9.alloc (.cells #[.slice a9 bs.length c9] 26) = W9 at hxr hxo hxa hxw hye hyf hxg hxp hxq HS2 HS3 HS7 HS9 HSr hBw ⊢
          generalize w9.heap.size = g9 at hxq ⊢
          refine (sameReader_any _ _ bs _ HS9.out HSr.out).mono ?_
          rintro e w10 ⟨rfl, hb10⟩
          replace hxr := hxr.keep hb10 hxr.lt
          replace hxo := hxo.keep hb10 hxo.lt
          replace hxa := hxa.keep hb10 hxa.lt
          replace hxw := hxw.keep hb10 hxw.lt
          replace hye := hye.keep hb10 hye.lt
          replace hyf := hyf.keep hb10 hyf.lt
          replace hxg := hxg.keep hb10 hxg.lt
          replace hxp := hxp.keep hb10 hxp.lt
          replace hxq := hxq.keep hb10 hxq.lt
          replace HS2 := Lib.hid ((HS2.out.below hb10).mono hb10.size)
          replace HS3 := Lib.hid ((HS3.out.below hb10).mono hb10.size)
          replace HS7 := Lib.hid ((HS7.out.below hb10).mono hb10.size)
          replace HS9 := Lib.hid ((HS9.out.below hb10).mono hb10.size)
          replace HSr := Lib.hid ((HSr.out.below hb10).mono hb10.size)
          replace hBw := hBw.trans (hb10.mono hBw.size)
          clear hb10
          go_wp2
          go_ret
          exact ⟨rfl, HBw0.out.trans (hBw.mono HBw0.out.size)⟩
      ·
        clear hk
        obtain ⟨bs, hdb, hbs⟩ := HBK.out 4 (by omega)
        have HDB := Lib.hid hdb
        have HBS := Lib.hid hbs
        have HZB := Lib.hid (rd_sz (doV_rd hdb))
        clear hdb hbs HBK
        have xxr0 := hxr.cell 0 _ rfl
        have xxo1 := hxo.cell 1 _ rfl
        have xxo2 := hxo.cell 2 _ rfl
        have xxo0 := hxo.cell 0 _ rfl
        go_wp2_with fail
        clear xxr0 xxo1 xxo2 xxo0
        refine (entry_any _ ss ou oi _ (HSs.out _ hBw)).mono ?_
        rintro e w5 ⟨r5, hE5, rfl, hb5⟩
        have hr5 := HR1.out _ hE5
        subst hr5
        replace hxr := hxr.keep hb5 hxr.lt
        replace hxo := hxo.keep hb5 hxo.lt
        replace hxa := hxa.keep hb5 hxa.lt
        replace hxw := hxw.keep hb5 hxw.lt
        replace HS2 := Lib.hid ((HS2.out.below hb5).mono hb5.size)
        replace HS3 := Lib.hid ((HS3.out.below hb5).mono hb5.size)
        replace hBw := hBw.trans (hb5.mono hBw.size)
        clear hb5 hE5
        simp only [etV, Option.isSome_some]
        have hye := Box.new w5 #[.string eid, .string eti, .int .i64 eda, .bool erd, .bool est] 47
        have hba : Below w5.heap.size w5 (w5.alloc (.cells #[.string eid, .string eti, .int .i64 eda, .bool erd, .bool est] 47)) := (Below.refl _ _).alloc (Nat.le_refl _) _
        replace hxr := hxr.keep hba hxr.lt
        replace hxo := hxo.keep hba hxo.lt
        replace hxa := hxa.keep hba hxa.lt
        replace hxw := hxw.keep hba hxw.lt
        replace HS2 := Lib.hid ((HS2.out.below hba).mono hba.size)
        replace HS3 := Lib.hid ((HS3.out.below hba).mono hba.size)
        replace hBw := hBw.trans (hba.mono hBw.size)
        clear hba
        have xxa0 := hxa.cell 0 _ rfl
        have xxo1 := hxo.cell 1 _ rfl
        have xxo2 := hxo.cell 2 _ rfl
        go_wp2_with fail
        clear xxa0 xxo1 xxo2
        generalize w5.alloc (.cells #[.string eid, .string eti, .int .i64 eda, .bool erd, .bool est] 47) = W5 at hxr hxo hxa hxw hye HS2 HS3 hBw ⊢
        generalize w5.heap.size = g5 at hye ⊢
        refine (entry_any _ rs ou oi _ HS2.out).mono ?_
        rintro e w6 ⟨r6, hE6, rfl, hb6⟩
        have hr6 := HR2.out _ hE6
        subst hr6
        replace hxr := hxr.keep hb6 hxr.lt
        replace hxo := hxo.keep hb6 hxo.lt
        replace hxa := hxa.keep hb6 hxa.lt
        replace hxw := hxw.keep hb6 hxw.lt
        replace hye := hye.keep hb6 hye.lt
        replace HS2 := Lib.hid ((HS2.out.below hb6).mono hb6.size)
        replace HS3 := Lib.hid ((HS3.out.below hb6).mono hb6.size)
        replace hBw := hBw.trans (hb6.mono hBw.size)
        clear hb6 hE6
        simp only [etV, Option.isSome_some, mkE]
        simp only [show ((5 : Int) = 4) = False from by simp, show ((5 : Int) = 5) = True from by simp, show ((5 : Int) = 6) = False from by simp, if_true, if_false]
        have hyf := Box.new w6 #[.string eid, .string eti, .int .i64 eda, .bool false, .bool est] 47
        have hba : Below w6.heap.size w6 (w6.alloc (.cells #[.string eid, .string eti, .int .i64 eda, .bool false, .bool est] 47)) := (Below.refl _ _).alloc (Nat.le_refl _) _
        replace hxr := hxr.keep hba hxr.lt
        replace hxo := hxo.keep hba hxo.lt
        replace hxa := hxa.keep hba hxa.lt
        replace hxw := hxw.keep hba hxw.lt
        replace hye := hye.keep hba hye.lt
        replace HS2 := Lib.hid ((HS2.out.below hba).mono hba.size)
        replace HS3 := Lib.hid ((HS3.out.below hba).mono hba.size)
        replace hBw := hBw.trans (hba.mono hBw.size)
        clear hba
        have xxa0 := hxa.cell 0 _ rfl
        have xxo0 := hxo.cell 0 _ rfl
        have xxo1 := hxo.cell 1 _ rfl
        have xxo2 := hxo.cell 2 _ rfl
        have xxo3 := hxo.cell 3 _ rfl
        have xxo4 := hxo.cell 4 _ rfl
        have xxo5 := hxo.cell 5 _ rfl
        have xxo6 := hxo.cell 6 _ rfl
        go_wp2_with fail
        clear xxa0 xxo0 xxo1 xxo2 xxo3 xxo4 xxo5 xxo6
        generalize w6.alloc (.cells #[.string eid, .string eti, .int .i64 eda, .bool false, .bool est] 47) = W6 at hxr hxo hxa hxw hye hyf HS2 HS3 hBw ⊢
        generalize w6.heap.size = g6 at hyf ⊢
        refine (implDone_some _ _ rs rs (⟨5, ou, oi, od, ofu, oft, oits⟩ : OpD) _ HS2.out (HIs.out _ hBw) HOz.out HDD.out).mono ?_
        rintro e w7 ⟨V7, q7, rfl, hq7, hD7, hb7⟩
        obtain ⟨a7, c7, hV7⟩ := hD7.1.slice
        have hL7 : q7.length = rs.length := by rw [← hq7, List.length_map]
        rw [hL7] at hV7
        subst hV7
        have HS7 : Hid (SbAt w7 w7.heap.size (.slice a7 rs.length c7) rs) := Lib.hid (hD7.at hq7 HZR.out)
        replace hxr := hxr.keep hb7 hxr.lt
        replace hxo := hxo.keep hb7 hxo.lt
        replace hxa := hxa.keep hb7 hxa.lt
        replace hxw := hxw.keep hb7 hxw.lt
        replace hye := hye.keep hb7 hye.lt
        replace hyf := hyf.keep hb7 hyf.lt
        replace HS2 := Lib.hid ((HS2.out.below hb7).mono hb7.size)
        replace HS3 := Lib.hid ((HS3.out.below hb7).mono hb7.size)
        replace hBw := hBw.trans (hb7.mono hBw.size)
        clear hb7 hq7 hD7 hL7
        have hxg := Box.new w7 #[.slice a7 rs.length c7] 26
        have hba : Below w7.heap.size w7 (w7.alloc (.cells #[.slice a7 rs.length c7] 26)) := (Below.refl _ _).alloc (Nat.le_refl _) _
        replace hxr := hxr.keep hba hxr.lt
        replace hxo := hxo.keep hba hxo.lt
        replace hxa := hxa.keep hba hxa.lt
        replace hxw := hxw.keep hba hxw.lt
        replace hye := hye.keep hba hye.lt
        replace hyf := hyf.keep hba hyf.lt
        replace HS2 := Lib.hid ((HS2.out.below hba).mono hba.size)
        replace HS3 := Lib.hid ((HS3.out.below hba).mono hba.size)
        replace HS7 := Lib.hid ((HS7.out.below hba).mono hba.size)
        replace hBw := hBw.trans (hba.mono hBw.size)
        clear hba
        have xxg0 := hxg.cell 0 _ rfl
        have xxa0 := hxa.cell 0 _ rfl
        go_wp2_with fail
        clear xxg0 xxa0
        generalize w7.alloc (.cells #[.slice a7 rs.length c7] 26) = W7 at hxr hxo hxa hxw hye hyf hxg HS2 HS3 HS7 hBw ⊢
        generalize w7.heap.size = g7 at hxg ⊢
        refine (sameReader_any _ _ rs _ HS7.out HS2.out).mono ?_
        rintro e w8 ⟨rfl, hb8⟩
        replace hxr := hxr.keep hb8 hxr.lt
        replace hxo := hxo.keep hb8 hxo.lt
        replace hxa := hxa.keep hb8 hxa.lt
        replace hxw := hxw.keep hb8 hxw.lt
        replace hye := hye.keep hb8 hye.lt
        replace hyf := hyf.keep hb8 hyf.lt
        replace hxg := hxg.keep hb8 hxg.lt
        replace HS2 := Lib.hid ((HS2.out.below hb8).mono hb8.size)
        replace HS3 := Lib.hid ((HS3.out.below hb8).mono hb8.size)
        replace HS7 := Lib.hid ((HS7.out.below hb8).mono hb8.size)
        replace hBw := hBw.trans (hb8.mono hBw.size)
        clear hb8
        have xye0 := hye.cell 0 _ rfl
        have xye1 := hye.cell 1 _ rfl
        have xye2 := hye.cell 2 _ rfl
        have xye3 := hye.cell 3 _ rfl
        have xye4 := hye.cell 4 _ rfl
        have xyf0 := hyf.cell 0 _ rfl
        have xyf1 := hyf.cell 1 _ rfl
        have xyf2 := hyf.cell 2 _ rfl
        have xyf3 := hyf.cell 3 _ rfl
        have xyf4 := hyf.cell 4 _ rfl
        have xxo0 := hxo.cell 0 _ rfl
        have xxo1 := hxo.cell 1 _ rfl
        have xxo2 := hxo.cell 2 _ rfl
        have xxo3 := hxo.cell 3 _ rfl
        have xxo4 := hxo.cell 4 _ rfl
        have xxo5 := hxo.cell 5 _ rfl
        have xxo6 := hxo.cell 6 _ rfl
        have xxa0 := hxa.cell 0 _ rfl
        have ha0 : Below w8.heap.size w8 (w8.alloc (.cells #[.int .i64 5, .string ou, .string oi, .int .i64 od, .string ofu, .string oft, (.slice xa oits.length xc)] 31)) := (Below.refl _ _).alloc (Nat.le_refl _) _
        have s0 : (w8.alloc (.cells #[.int .i64 5, .string ou, .string oi, .int .i64 od, .string ofu, .string oft, (.slice xa oits.length xc)] 31)).cell? ⟨v1.heap.size + 1, 0, none⟩ = some (.int .i64 5) := (hxo.keep ha0 hxo.lt).cell 0 _ rfl
        have sa0 : (w8.alloc (.cells #[.int .i64 5, .string ou, .string oi, .int .i64 od, .string ofu, .string oft, (.slice xa oits.length xc)] 31)).cell? ⟨g2, 0, none⟩ = some (.slice a2 rs.length c2) := (hxa.keep ha0 hxa.lt).cell 0 _ rfl
        clear ha0
        have ha1 : Below w8.heap.size w8 (w8.alloc (.cells #[.int .i64 6, .string ou, .string oi, .int .i64 od, .string ofu, .string oft, (.slice xa oits.length xc)] 31)) := (Below.refl _ _).alloc (Nat.le_refl _) _
        have s1 : (w8.alloc (.cells #[.int .i64 6, .string ou, .string oi, .int .i64 od, .string ofu, .string oft, (.slice xa oits.length xc)] 31)).cell? ⟨v1.heap.size + 1, 0, none⟩ = some (.int .i64 5) := (hxo.keep ha1 hxo.lt).cell 0 _ rfl
        have sa1 : (w8.alloc (.cells #[.int .i64 6, .string ou, .string oi, .int .i64 od, .string ofu, .string oft, (.slice xa oits.length xc)] 31)).cell? ⟨g2, 0, none⟩ = some (.slice a2 rs.length c2) := (hxa.keep ha1 hxa.lt).cell 0 _ rfl
        clear ha1
        have ha2 : Below w8.heap.size w8 (w8.alloc (.cells #[.int .i64 4, .string ou, .string oi, .int .i64 od, .string ofu, .string oft, (.slice xa oits.length xc)] 31)) := (Below.refl _ _).alloc (Nat.le_refl _) _
        have s2 : (w8.alloc (.cells #[.int .i64 4, .string ou, .string oi, .int .i64 od, .string ofu, .string oft, (.slice xa oits.length xc)] 31)).cell? ⟨v1.heap.size + 1, 0, none⟩ = some (.int .i64 5) := (hxo.keep ha2 hxo.lt).cell 0 _ rfl
        have sa2 : (w8.alloc (.cells #[.int .i64 4, .string ou, .string oi, .int .i64 od, .string ofu, .string oft, (.slice xa oits.length xc)] 31)).cell? ⟨g2, 0, none⟩ = some (.slice a2 rs.length c2) := (hxa.keep ha2 hxa.lt).cell 0 _ rfl
        clear ha2
        go_wp2_with fail
        clear xye0 xye1 xye2 xye3 xye4 xyf0 xyf1 xyf2 xyf3 xyf4 xxo0 xxo1 xxo2 xxo3 xxo4 xxo5 xxo6 xxa0 s0 s1 s2 sa0 sa1 sa2
        have hxp := Box.new w8 #[.int .i64 4, .string ou, .string oi, .int .i64 od, .string ofu, .string oft, (.slice xa oits.length xc)] 31
        have hba : Below w8.heap.size w8 (w8.alloc (.cells #[.int .i64 4, .string ou, .string oi, .int .i64 od, .string ofu, .string oft, (.slice xa oits.length xc)] 31)) := (Below.refl _ _).alloc (Nat.le_refl _) _
        replace hxr := hxr.keep hba hxr.lt
        replace hxo := hxo.keep hba hxo.lt
        replace hxa := hxa.keep hba hxa.lt
        replace hxw := hxw.keep hba hxw.lt
        replace hye := hye.keep hba hye.lt
        replace hyf := hyf.keep hba hyf.lt
        replace hxg := hxg.keep hba hxg.lt
        replace HS2 := Lib.hid ((HS2.out.below hba).mono hba.size)
        replace HS3 := Lib.hid ((HS3.out.below hba).mono hba.size)
        replace HS7 := Lib.hid ((HS7.out.below hba).mono hba.size)
        replace hBw := hBw.trans (hba.mono hBw.size)
        clear hba
        generalize w8.alloc (.cells #[.int .i64 4, .string ou, .string oi, .int .i64 od, .string ofu, .string oft, (.slice xa oits.length xc)] 31) = W8 at hxr hxo hxa hxw hye hyf hxg hxp HS2 HS3 HS7 hBw ⊢
        generalize w8.heap.size = g8 at hxp ⊢
        refine (implDone_some _ _ rs bs (⟨4, ou, oi, od, ofu, oft, oits⟩ : OpD) _ HS2.out (HIs.out _ hBw) HOz.out HDB.out).mono ?_
        rintro e w9 ⟨V9, q9, rfl, hq9, hD9, hb9⟩
        obtain ⟨a9, c9, hV9⟩ := hD9.1.slice
        have hL9 : q9.length = bs.length := by rw [← hq9, List.length_map]
        rw [hL9] at hV9
        subst hV9
        have HS9 : Hid (SbAt w9 w9.heap.size (.slice a9 bs.length c9) bs) := Lib.hid (hD9.at hq9 HZB.out)
        replace hxr := hxr.keep hb9 hxr.lt
        replace hxo := hxo.keep hb9 hxo.lt
        replace hxa := hxa.keep hb9 hxa.lt
        replace hxw := hxw.keep hb9 hxw.lt
        replace hye := hye.keep hb9 hye.lt
        replace hyf := hyf.keep hb9 hyf.lt
        replace hxg := hxg.keep hb9 hxg.lt
        replace hxp := hxp.keep hb9 hxp.lt
        replace HS2 := Lib.hid ((HS2.out.below hb9).mono hb9.size)
        replace HS3 := Lib.hid ((HS3.out.below hb9).mono hb9.size)
        replace HS7 := Lib.hid ((HS7.out.below hb9).mono hb9.size)
        replace hBw := hBw.trans (hb9.mono hBw.size)
        clear hb9 hq9 hD9 hL9
        have hxq := Box.new w9 #[.slice a9 bs.length c9] 26
        have hba : Below w9.heap.size w9 (w9.alloc (.cells #[.slice a9 bs.length c9] 26)) := (Below.refl _ _).alloc (Nat.le_refl _) _
        replace hxr := hxr.keep hba hxr.lt
        replace hxo := hxo.keep hba hxo.lt
        replace hxa := hxa.keep hba hxa.lt
        replace hxw := hxw.keep hba hxw.lt
        replace hye := hye.keep hba hye.lt
        replace hyf := hyf.keep hba hyf.lt
        replace hxg := hxg.keep hba hxg.lt
        replace hxp := hxp.keep hba hxp.lt
        replace HS2 := Lib.hid ((HS2.out.below hba).mono hba.size)
        replace HS3 := Lib.hid ((HS3.out.below hba).mono hba.size)
        replace HS7 := Lib.hid ((HS7.out.below hba).mono hba.size)
        replace HS9 := Lib.hid ((HS9.out.below hba).mono hba.size)
        replace hBw := hBw.trans (hba.mono hBw.size)
        clear hba
        cases erd with
        | false =>
          have xye0 := hye.cell 0 _ rfl
          have xye1 := hye.cell 1 _ rfl
          have xye2 := hye.cell 2 _ rfl
          have xye3 := hye.cell 3 _ rfl
          have xye4 := hye.cell 4 _ rfl
          have xyf0 := hyf.cell 0 _ rfl
          have xyf1 := hyf.cell 1 _ rfl
          have xyf2 := hyf.cell 2 _ rfl
          have xyf3 := hyf.cell 3 _ rfl
          have xyf4 := hyf.cell 4 _ rfl
          go_wp2
          go_ret
          exact ⟨rfl, HBw0.out.trans (hBw.mono HBw0.out.size)⟩
        | true =>
          have e9 := HBS.out (by intro hc; simp [mkE] at hc)
          subst e9
          have HSr := Lib.hid (HSs.out _ hBw)
          have xye0 := hye.cell 0 _ rfl
          have xye1 := hye.cell 1 _ rfl
          have xye2 := hye.cell 2 _ rfl
          have xye3 := hye.cell 3 _ rfl
          have xye4 := hye.cell 4 _ rfl
          have xyf0 := hyf.cell 0 _ rfl
          have xyf1 := hyf.cell 1 _ rfl
          have xyf2 := hyf.cell 2 _ rfl
          have xyf3 := hyf.cell 3 _ rfl
          have xyf4 := hyf.cell 4 _ rfl
          have xxq0 := hxq.cell 0 _ rfl
          have xxr0 := hxr.cell 0 _ rfl
          go_wp2_with fail
          clear xye0 xye1 xye2 xye3 xye4 xyf0 xyf1 xyf2 xyf3 xyf4 xxq0 xxr0
          generalize w9.alloc (.cells #[.slice a9 bs.length c9] 26) = W9 at hxr hxo hxa hxw hye hyf hxg hxp hxq HS2 HS3 HS7 HS9 HSr hBw ⊢
          generalize w9.heap.size = g9 at hxq ⊢
          refine (sameReader_any _ _ bs _ HS9.out HSr.out).mono ?_
          rintro e w10 ⟨rfl, hb10⟩
          replace hxr := hxr.keep hb10 hxr.lt
          replace hxo := hxo.keep hb10 hxo.lt
          replace hxa := hxa.keep hb10 hxa.lt
          replace hxw := hxw.keep hb10 hxw.lt
          replace hye := hye.keep hb10 hye.lt
          replace hyf := hyf.keep hb10 hyf.lt
          replace hxg := hxg.keep hb10 hxg.lt
          replace hxp := hxp.keep hb10 hxp.lt
          replace hxq := hxq.keep hb10 hxq.lt
          replace HS2 := Lib.hid ((HS2.out.below hb10).mono hb10.size)
          replace HS3 := Lib.hid ((HS3.out.below hb10).mono hb10.size)
          replace HS7 := Lib.hid ((HS7.out.below hb10).mono hb10.size)
          replace HS9 := Lib.hid ((HS9.out.below hb10).mono hb10.size)
          replace HSr := Lib.hid ((HSr.out.below hb10).mono hb10.size)
          replace hBw := hBw.trans (hb10.mono hBw.size)
          clear hb10
          go_wp2
          go_ret
          exact ⟨rfl, HBw0.out.trans (hBw.mono HBw0.out.size)⟩
      ·
        clear hk
        obtain ⟨bs, hdb, hbs⟩ := HBK.out 7 (by omega)
        have HDB := Lib.hid hdb
        have HBS := Lib.hid hbs
        have HZB := Lib.hid (rd_sz (doV_rd hdb))
        clear hdb hbs HBK
        have xxr0 := hxr.cell 0 _ rfl
        have xxo1 := hxo.cell 1 _ rfl
        have xxo2 := hxo.cell 2 _ rfl
        have xxo0 := hxo.cell 0 _ rfl
        go_wp2_with fail
        clear xxr0 xxo1 xxo2 xxo0
        refine (entry_any _ ss ou oi _ (HSs.out _ hBw)).mono ?_
        rintro e w5 ⟨r5, hE5, rfl, hb5⟩
        have hr5 := HR1.out _ hE5
        subst hr5
        replace hxr := hxr.keep hb5 hxr.lt
        replace hxo := hxo.keep hb5 hxo.lt
        replace hxa := hxa.keep hb5 hxa.lt
        replace hxw := hxw.keep hb5 hxw.lt
        replace HS2 := Lib.hid ((HS2.out.below hb5).mono hb5.size)
        replace HS3 := Lib.hid ((HS3.out.below hb5).mono hb5.size)
        replace hBw := hBw.trans (hb5.mono hBw.size)
        clear hb5 hE5
        simp only [etV, Option.isSome_some]
        have hye := Box.new w5 #[.string eid, .string eti, .int .i64 eda, .bool erd, .bool est] 47
        have hba : Below w5.heap.size w5 (w5.alloc (.cells #[.string eid, .string eti, .int .i64 eda, .bool erd, .bool est] 47)) := (Below.refl _ _).alloc (Nat.le_refl _) _
        replace hxr := hxr.keep hba hxr.lt
        replace hxo := hxo.keep hba hxo.lt
        replace hxa := hxa.keep hba hxa.lt
        replace hxw := hxw.keep hba hxw.lt
        replace HS2 := Lib.hid ((HS2.out.below hba).mono hba.size)
        replace HS3 := Lib.hid ((HS3.out.below hba).mono hba.size)
        replace hBw := hBw.trans (hba.mono hBw.size)
        clear hba
        have xxa0 := hxa.cell 0 _ rfl
        have xxo1 := hxo.cell 1 _ rfl
        have xxo2 := hxo.cell 2 _ rfl
        go_wp2_with fail
        clear xxa0 xxo1 xxo2
        generalize w5.alloc (.cells #[.string eid, .string eti, .int .i64 eda, .bool erd, .bool est] 47) = W5 at hxr hxo hxa hxw hye HS2 HS3 hBw ⊢
        generalize w5.heap.size = g5 at hye ⊢
        refine (entry_any _ rs ou oi _ HS2.out).mono ?_
        rintro e w6 ⟨r6, hE6, rfl, hb6⟩
        have hr6 := HR2.out _ hE6
        subst hr6
        replace hxr := hxr.keep hb6 hxr.lt
        replace hxo := hxo.keep hb6 hxo.lt
        replace hxa := hxa.keep hb6 hxa.lt
        replace hxw := hxw.keep hb6 hxw.lt
        replace hye := hye.keep hb6 hye.lt
        replace HS2 := Lib.hid ((HS2.out.below hb6).mono hb6.size)
        replace HS3 := Lib.hid ((HS3.out.below hb6).mono hb6.size)
        replace hBw := hBw.trans (hb6.mono hBw.size)
        clear hb6 hE6
        simp only [etV, Option.isSome_some, mkE]
        simp only [show ((6 : Int) = 4) = False from by simp, show ((6 : Int) = 5) = False from by simp, show ((6 : Int) = 6) = True from by simp, if_true, if_false]
        have hyf := Box.new w6 #[.string eid, .string eti, .int .i64 eda, .bool erd, .bool true] 47
        have hba : Below w6.heap.size w6 (w6.alloc (.cells #[.string eid, .string eti, .int .i64 eda, .bool erd, .bool true] 47)) := (Below.refl _ _).alloc (Nat.le_refl _) _
        replace hxr := hxr.keep hba hxr.lt
        replace hxo := hxo.keep hba hxo.lt
        replace hxa := hxa.keep hba hxa.lt
        replace hxw := hxw.keep hba hxw.lt
        replace hye := hye.keep hba hye.lt
        replace HS2 := Lib.hid ((HS2.out.below hba).mono hba.size)
        replace HS3 := Lib.hid ((HS3.out.below hba).mono hba.size)
        replace hBw := hBw.trans (hba.mono hBw.size)
        clear hba
        have xxa0 := hxa.cell 0 _ rfl
        have xxo0 := hxo.cell 0 _ rfl
        have xxo1 := hxo.cell 1 _ rfl
        have xxo2 := hxo.cell 2 _ rfl
        have xxo3 := hxo.cell 3 _ rfl
        have xxo4 := hxo.cell 4 _ rfl
        have xxo5 := hxo.cell 5 _ rfl
        have xxo6 := hxo.cell 6 _ rfl
        go_wp2_with fail
        clear xxa0 xxo0 xxo1 xxo2 xxo3 xxo4 xxo5 xxo6
        generalize w6.alloc (.cells #[.string eid, .string eti, .int .i64 eda, .bool erd, .bool true] 47) = W6 at hxr hxo hxa hxw hye hyf HS2 HS3 hBw ⊢
        generalize w6.heap.size = g6 at hyf ⊢
        refine (implDone_some _ _ rs rs (⟨6, ou, oi, od, ofu, oft, oits⟩ : OpD) _ HS2.out (HIs.out _ hBw) HOz.out HDD.out).mono ?_
        rintro e w7 ⟨V7, q7, rfl, hq7, hD7, hb7⟩
        obtain ⟨a7, c7, hV7⟩ := hD7.1.slice
        have hL7 : q7.length = rs.length := by rw [← hq7, List.length_map]
        rw [hL7] at hV7
        subst hV7
        have HS7 : Hid (SbAt w7 w7.heap.size (.slice a7 rs.length c7) rs) := Lib.hid (hD7.at hq7 HZR.out)
        replace hxr := hxr.keep hb7 hxr.lt
        replace hxo := hxo.keep hb7 hxo.lt
        replace hxa := hxa.keep hb7 hxa.lt
        replace hxw := hxw.keep hb7 hxw.lt
        replace hye := hye.keep hb7 hye.lt
        replace hyf := hyf.keep hb7 hyf.lt
        replace HS2 := Lib.hid ((HS2.out.below hb7).mono hb7.size)
        replace HS3 := Lib.hid ((HS3.out.below hb7).mono hb7.size)
        replace hBw := hBw.trans (hb7.mono hBw.size)
        clear hb7 hq7 hD7 hL7
        have hxg := Box.new w7 #[.slice a7 rs.length c7] 26
        have hba : Below w7.heap.size w7 (w7.alloc (.cells #[.slice a7 rs.length c7] 26)) := (Below.refl _ _).alloc (Nat.le_refl _) _
        replace hxr := hxr.keep hba hxr.lt
        replace hxo := hxo.keep hba hxo.lt
        replace hxa := hxa.keep hba hxa.lt
        replace hxw := hxw.keep hba hxw.lt
        replace hye := hye.keep hba hye.lt
        replace hyf := hyf.keep hba hyf.lt
        replace HS2 := Lib.hid ((HS2.out.below hba).mono hba.size)
        replace HS3 := Lib.hid ((HS3.out.below hba).mono hba.size)
        replace HS7 := Lib.hid ((HS7.out.below hba).mono hba.size)
        replace hBw := hBw.trans (hba.mono hBw.size)
        clear hba
        have xxg0 := hxg.cell 0 _ rfl
        have xxa0 := hxa.cell 0 _ rfl
        go_wp2_with fail
        clear xxg0 xxa0
        generalize w7.alloc (.cells #[.slice a7 rs.length c7] 26) = W7 at hxr hxo hxa hxw hye hyf hxg HS2 HS3 HS7 hBw ⊢
        generalize w7.heap.size = g7 at hxg ⊢
        refine (sameReader_any _ _ rs _ HS7.out HS2.out).mono ?_
        rintro e w8 ⟨rfl, hb8⟩
        replace hxr := hxr.keep hb8 hxr.lt
        replace hxo := hxo.keep hb8 hxo.lt
        replace hxa := hxa.keep hb8 hxa.lt
        replace hxw := hxw.keep hb8 hxw.lt
        replace hye := hye.keep hb8 hye.lt
        replace hyf := hyf.keep hb8 hyf.lt
        replace hxg := hxg.keep hb8 hxg.lt
        replace HS2 := Lib.hid ((HS2.out.below hb8).mono hb8.size)
        replace HS3 := Lib.hid ((HS3.out.below hb8).mono hb8.size)
        replace HS7 := Lib.hid ((HS7.out.below hb8).mono hb8.size)
        replace hBw := hBw.trans (hb8.mono hBw.size)
        clear hb8
        have xye0 := hye.cell 0 _ rfl
        have xye1 := hye.cell 1 _ rfl
        have xye2 := hye.cell 2 _ rfl
        have xye3 := hye.cell 3 _ rfl
        have xye4 := hye.cell 4 _ rfl
        have xyf0 := hyf.cell 0 _ rfl
        have xyf1 := hyf.cell 1 _ rfl
        have xyf2 := hyf.cell 2 _ rfl
        have xyf3 := hyf.cell 3 _ rfl
        have xyf4 := hyf.cell 4 _ rfl
        have xxo0 := hxo.cell 0 _ rfl
        have xxo1 := hxo.cell 1 _ rfl
        have xxo2 := hxo.cell 2 _ rfl
        have xxo3 := hxo.cell 3 _ rfl
        have xxo4 := hxo.cell 4 _ rfl
        have xxo5 := hxo.cell 5 _ rfl
        have xxo6 := hxo.cell 6 _ rfl
        have xxa0 := hxa.cell 0 _ rfl
        have ha0 : Below w8.heap.size w8 (w8.alloc (.cells #[.int .i64 6, .string ou, .string oi, .int .i64 od, .string ofu, .string oft, (.slice xa oits.length xc)] 31)) := (Below.refl _ _).alloc (Nat.le_refl _) _
        have s0 : (w8.alloc (.cells #[.int .i64 6, .string ou, .string oi, .int .i64 od, .string ofu, .string oft, (.slice xa oits.length xc)] 31)).cell? ⟨v1.heap.size + 1, 0, none⟩ = some (.int .i64 6) := (hxo.keep ha0 hxo.lt).cell 0 _ rfl
        have sa0 : (w8.alloc (.cells #[.int .i64 6, .string ou, .string oi, .int .i64 od, .string ofu, .string oft, (.slice xa oits.length xc)] 31)).cell? ⟨g2, 0, none⟩ = some (.slice a2 rs.length c2) := (hxa.keep ha0 hxa.lt).cell 0 _ rfl
        clear ha0
        have ha1 : Below w8.heap.size w8 (w8.alloc (.cells #[.int .i64 7, .string ou, .string oi, .int .i64 od, .string ofu, .string oft, (.slice xa oits.length xc)] 31)) := (Below.refl _ _).alloc (Nat.le_refl _) _
        have s1 : (w8.alloc (.cells #[.int .i64 7, .string ou, .string oi, .int .i64 od, .string ofu, .string oft, (.slice xa oits.length xc)] 31)).cell? ⟨v1.heap.size + 1, 0, none⟩ = some (.int .i64 6) := (hxo.keep ha1 hxo.lt).cell 0 _ rfl
        have sa1 : (w8.alloc (.cells #[.int .i64 7, .string ou, .string oi, .int .i64 od, .string ofu, .string oft, (.slice xa oits.length xc)] 31)).cell? ⟨g2, 0, none⟩ = some (.slice a2 rs.length c2) := (hxa.keep ha1 hxa.lt).cell 0 _ rfl
        clear ha1
        go_wp2_with fail
        clear xye0 xye1 xye2 xye3 xye4 xyf0 xyf1 xyf2 xyf3 xyf4 xxo0 xxo1 xxo2 xxo3 xxo4 xxo5 xxo6 xxa0 s0 s1 sa0 sa1
        have hxp := Box.new w8 #[.int .i64 7, .string ou, .string oi, .int .i64 od, .string ofu, .string oft, (.slice xa oits.length xc)] 31
        have hba : Below w8.heap.size w8 (w8.alloc (.cells #[.int .i64 7, .string ou, .string oi, .int .i64 od, .string ofu, .string oft, (.slice xa oits.length xc)] 31)) := (Below.refl _ _).alloc (Nat.le_refl _) _
        replace hxr := hxr.keep hba hxr.lt
        replace hxo := hxo.keep hba hxo.lt
        replace hxa := hxa.keep hba hxa.lt
        replace hxw := hxw.keep hba hxw.lt
        replace hye := hye.keep hba hye.lt
        replace hyf := hyf.keep hba hyf.lt
        replace hxg := hxg.keep hba hxg.lt
        replace HS2 := Lib.hid ((HS2.out.below hba).mono hba.size)
        replace HS3 := Lib.hid ((HS3.out.below hba).mono hba.size)
        replace HS7 := Lib.hid ((HS7.out.below hba).mono hba.size)
        replace hBw := hBw.trans (hba.mono hBw.size)
        clear hba
        generalize w8.alloc (.cells #[.int .i64 7, .string ou, .string oi, .int .i64 od, .string ofu, .string oft, (.slice xa oits.length xc)] 31) = W8 at hxr hxo hxa hxw hye hyf hxg hxp HS2 HS3 HS7 hBw ⊢
        generalize w8.heap.size = g8 at hxp ⊢
        refine (implDone_some _ _ rs bs (⟨7, ou, oi, od, ofu, oft, oits⟩ : OpD) _ HS2.out (HIs.out _ hBw) HOz.out HDB.out).mono ?_
        rintro e w9 ⟨V9, q9, rfl, hq9, hD9, hb9⟩
        obtain ⟨a9, c9, hV9⟩ := hD9.1.slice
        have hL9 : q9.length = bs.length := by rw [← hq9, List.length_map]
        rw [hL9] at hV9
        subst hV9
        have HS9 : Hid (SbAt w9 w9.heap.size (.slice a9 bs.length c9) bs) := Lib.hid (hD9.at hq9 HZB.out)
        replace hxr := hxr.keep hb9 hxr.lt
        replace hxo := hxo.keep hb9 hxo.lt
        replace hxa := hxa.keep hb9 hxa.lt
        replace hxw := hxw.keep hb9 hxw.lt
        replace hye := hye.keep hb9 hye.lt
        replace hyf := hyf.keep hb9 hyf.lt
        replace hxg := hxg.keep hb9 hxg.lt
        replace hxp := hxp.keep hb9 hxp.lt
        replace HS2 := Lib.hid ((HS2.out.below hb9).mono hb9.size)
        replace HS3 := Lib.hid ((HS3.out.below hb9).mono hb9.size)
        replace HS7 := Lib.hid ((HS7.out.below hb9).mono hb9.size)
        replace hBw := hBw.trans (hb9.mono hBw.size)
        clear hb9 hq9 hD9 hL9
        have hxq := Box.new w9 #[.slice a9 bs.length c9] 26
        have hba : Below w9.heap.size w9 (w9.alloc (.cells #[.slice a9 bs.length c9] 26)) := (Below.refl _ _).alloc (Nat.le_refl _) _
        replace hxr := hxr.keep hba hxr.lt
        replace hxo := hxo.keep hba hxo.lt
        replace hxa := hxa.keep hba hxa.lt
        replace hxw := hxw.keep hba hxw.lt
        replace hye := hye.keep hba hye.lt
        replace hyf := hyf.keep hba hyf.lt
        replace hxg := hxg.keep hba hxg.lt
        replace hxp := hxp.keep hba hxp.lt
        replace HS2 := Lib.hid ((HS2.out.below hba).mono hba.size)
        replace HS3 := Lib.hid ((HS3.out.below hba).mono hba.size)
        replace HS7 := Lib.hid ((HS7.out.below hba).mono hba.size)
        replace HS9 := Lib.hid ((HS9.out.below hba).mono hba.size)
        replace hBw := hBw.trans (hba.mono hBw.size)
        clear hba
        cases est with
        | true =>
          have xye0 := hye.cell 0 _ rfl
          have xye1 := hye.cell 1 _ rfl
          have xye2 := hye.cell 2 _ rfl
          have xye3 := hye.cell 3 _ rfl
          have xye4 := hye.cell 4 _ rfl
          have xyf0 := hyf.cell 0 _ rfl
          have xyf1 := hyf.cell 1 _ rfl
          have xyf2 := hyf.cell 2 _ rfl
          have xyf3 := hyf.cell 3 _ rfl
          have xyf4 := hyf.cell 4 _ rfl
          go_wp2
          go_ret
          exact ⟨rfl, HBw0.out.trans (hBw.mono HBw0.out.size)⟩
        | false =>
          have e9 := HBS.out (by intro hc; simp [mkE] at hc)
          subst e9
          have HSr := Lib.hid (HSs.out _ hBw)
          have xye0 := hye.cell 0 _ rfl
          have xye1 := hye.cell 1 _ rfl
          have xye2 := hye.cell 2 _ rfl
          have xye3 := hye.cell 3 _ rfl
          have xye4 := hye.cell 4 _ rfl
          have xyf0 := hyf.cell 0 _ rfl
          have xyf1 := hyf.cell 1 _ rfl
          have xyf2 := hyf.cell 2 _ rfl
          have xyf3 := hyf.cell 3 _ rfl
          have xyf4 := hyf.cell 4 _ rfl
          have xxq0 := hxq.cell 0 _ rfl
          have xxr0 := hxr.cell 0 _ rfl
          go_wp2_with fail
          clear xye0 xye1 xye2 xye3 xye4 xyf0 xyf1 xyf2 xyf3 xyf4 xxq0 xxr0
          generalize w9.alloc (.cells #[.slice a9 bs.length c9] 26) = W9 at hxr hxo hxa hxw hye hyf hxg hxp hxq HS2 HS3 HS7 HS9 HSr hBw ⊢
          generalize w9.heap.size = g9 at hxq ⊢
          refine (sameReader_any _ _ bs _ HS9.out HSr.out).mono ?_
          rintro e w10 ⟨rfl, hb10⟩
          replace hxr := hxr.keep hb10 hxr.lt
          replace hxo := hxo.keep hb10 hxo.lt
          replace hxa := hxa.keep hb10 hxa.lt
          replace hxw := hxw.keep hb10 hxw.lt
          replace hye := hye.keep hb10 hye.lt
          replace hyf := hyf.keep hb10 hyf.lt
          replace hxg := hxg.keep hb10 hxg.lt
          replace hxp := hxp.keep hb10 hxp.lt
          replace hxq := hxq.keep hb10 hxq.lt
          replace HS2 := Lib.hid ((HS2.out.below hb10).mono hb10.size)
          replace HS3 := Lib.hid ((HS3.out.below hb10).mono hb10.size)
          replace HS7 := Lib.hid ((HS7.out.below hb10).mono hb10.size)
          replace HS9 := Lib.hid ((HS9.out.below hb10).mono hb10.size)
          replace HSr := Lib.hid ((HSr.out.below hb10).mono hb10.size)
          replace hBw := hBw.trans (hb10.mono hBw.size)
          clear hb10
          go_wp2
          go_ret
          exact ⟨rfl, HBw0.out.trans (hBw.mono HBw0.out.size)⟩
      ·
        clear hk
        obtain ⟨bs, hdb, hbs⟩ := HBK.out 6 (by omega)
        have HDB := Lib.hid hdb
        have HBS := Lib.hid hbs
        have HZB := Lib.hid (rd_sz (doV_rd hdb))
        clear hdb hbs HBK
        have xxr0 := hxr.cell 0 _ rfl
        have xxo1 := hxo.cell 1 _ rfl
        have xxo2 := hxo.cell 2 _ rfl
        have xxo0 := hxo.cell 0 _ rfl
        go_wp2_with fail
        clear xxr0 xxo1 xxo2 xxo0
        refine (entry_any _ ss ou oi _ (HSs.out _ hBw)).mono ?_
        rintro e w5 ⟨r5, hE5, rfl, hb5⟩
        have hr5 := HR1.out _ hE5
        subst hr5
        replace hxr := hxr.keep hb5 hxr.lt
        replace hxo := hxo.keep hb5 hxo.lt
        replace hxa := hxa.keep hb5 hxa.lt
        replace hxw := hxw.keep hb5 hxw.lt
        replace HS2 := Lib.hid ((HS2.out.below hb5).mono hb5.size)
        replace HS3 := Lib.hid ((HS3.out.below hb5).mono hb5.size)
        replace hBw := hBw.trans (hb5.mono hBw.size)
        clear hb5 hE5
        simp only [etV, Option.isSome_some]
        have hye := Box.new w5 #[.string eid, .string eti, .int .i64 eda, .bool erd, .bool est] 47
        have hba : Below w5.heap.size w5 (w5.alloc (.cells #[.string eid, .string eti, .int .i64 eda, .bool erd, .bool est] 47)) := (Below.refl _ _).alloc (Nat.le_refl _) _
        replace hxr := hxr.keep hba hxr.lt
        replace hxo := hxo.keep hba hxo.lt
        replace hxa := hxa.keep hba hxa.lt
        replace hxw := hxw.keep hba hxw.lt
        replace HS2 := Lib.hid ((HS2.out.below hba).mono hba.size)
        replace HS3 := Lib.hid ((HS3.out.below hba).mono hba.size)
        replace hBw := hBw.trans (hba.mono hBw.size)
        clear hba
        have xxa0 := hxa.cell 0 _ rfl
        have xxo1 := hxo.cell 1 _ rfl
        have xxo2 := hxo.cell 2 _ rfl
        go_wp2_with fail
        clear xxa0 xxo1 xxo2
        generalize w5.alloc (.cells #[.string eid, .string eti, .int .i64 eda, .bool erd, .bool est] 47) = W5 at hxr hxo hxa hxw hye HS2 HS3 hBw ⊢
        generalize w5.heap.size = g5 at hye ⊢
        refine (entry_any _ rs ou oi _ HS2.out).mono ?_
        rintro e w6 ⟨r6, hE6, rfl, hb6⟩
        have hr6 := HR2.out _ hE6
        subst hr6
        replace hxr := hxr.keep hb6 hxr.lt
        replace hxo := hxo.keep hb6 hxo.lt
        replace hxa := hxa.keep hb6 hxa.lt
        replace hxw := hxw.keep hb6 hxw.lt
        replace hye := hye.keep hb6 hye.lt
        replace HS2 := Lib.hid ((HS2.out.below hb6).mono hb6.size)
        replace HS3 := Lib.hid ((HS3.out.below hb6).mono hb6.size)
        replace hBw := hBw.trans (hb6.mono hBw.size)
        clear hb6 hE6
        simp only [etV, Option.isSome_some, mkE]
        simp only [show ((7 : Int) = 4) = False from by simp, show ((7 : Int) = 5) = False from by simp, show ((7 : Int) = 6) = False from by simp, if_true, if_false]
        have hyf := Box.new w6 #[.string eid, .string eti, .int .i64 eda, .bool erd, .bool false] 47
        have hba : Below w6.heap.size w6 (w6.alloc (.cells #[.string eid, .string eti, .int .i64 eda, .bool erd, .bool false] 47)) := (Below.refl _ _).alloc (Nat.le_refl _) _
        replace hxr := hxr.keep hba hxr.lt
        replace hxo := hxo.keep hba hxo.lt
        replace hxa := hxa.keep hba hxa.lt
        replace hxw := hxw.keep hba hxw.lt
        replace hye := hye.keep hba hye.lt
        replace HS2 := Lib.hid ((HS2.out.below hba).mono hba.size)
        replace HS3 := Lib.hid ((HS3.out.below hba).mono hba.size)
        replace hBw := hBw.trans (hba.mono hBw.size)
        clear hba
        have xxa0 := hxa.cell 0 _ rfl
        have xxo0 := hxo.cell 0 _ rfl
        have xxo1 := hxo.cell 1 _ rfl
        have xxo2 := hxo.cell 2 _ rfl
        have xxo3 := hxo.cell 3 _ rfl
        have xxo4 := hxo.cell 4 _ rfl
        have xxo5 := hxo.cell 5 _ rfl
        have xxo6 := hxo.cell 6 _ rfl
        go_wp2_with fail
        clear xxa0 xxo0 xxo1 xxo2 xxo3 xxo4 xxo5 xxo6
        generalize w6.alloc (.cells #[.string eid, .string eti, .int .i64 eda, .bool erd, .bool false] 47) = W6 at hxr hxo hxa hxw hye hyf HS2 HS3 hBw ⊢
        generalize w6.heap.size = g6 at hyf ⊢
        refine (implDone_some _ _ rs rs (⟨7, ou, oi, od, ofu, oft, oits⟩ : OpD) _ HS2.out (HIs.out _ hBw) HOz.out HDD.out).mono ?_
        rintro e w7 ⟨V7, q7, rfl, hq7, hD7, hb7⟩
        obtain ⟨a7, c7, hV7⟩ := hD7.1.slice
        have hL7 : q7.length = rs.length := by rw [← hq7, List.length_map]
        rw [hL7] at hV7
        subst hV7
        have HS7 : Hid (SbAt w7 w7.heap.size (.slice a7 rs.length c7) rs) := Lib.hid (hD7.at hq7 HZR.out)
        replace hxr := hxr.keep hb7 hxr.lt
        replace hxo := hxo.keep hb7 hxo.lt
        replace hxa := hxa.keep hb7 hxa.lt
        replace hxw := hxw.keep hb7 hxw.lt
        replace hye := hye.keep hb7 hye.lt
        replace hyf := hyf.keep hb7 hyf.lt
        replace HS2 := Lib.hid ((HS2.out.below hb7).mono hb7.size)
        replace HS3 := Lib.hid ((HS3.out.below hb7).mono hb7.size)
        replace hBw := hBw.trans (hb7.mono hBw.size)
        clear hb7 hq7 hD7 hL7
        have hxg := Box.new w7 #[.slice a7 rs.length c7] 26
        have hba : Below w7.heap.size w7 (w7.alloc (.cells #[.slice a7 rs.length c7] 26)) := (Below.refl _ _).alloc (Nat.le_refl _) _
        replace hxr := hxr.keep hba hxr.lt
        replace hxo := hxo.keep hba hxo.lt
        replace hxa := hxa.keep hba hxa.lt
        replace hxw := hxw.keep hba hxw.lt
        replace hye := hye.keep hba hye.lt
        replace hyf := hyf.keep hba hyf.lt
        replace HS2 := Lib.hid ((HS2.out.below hba).mono hba.size)
        replace HS3 := Lib.hid ((HS3.out.below hba).mono hba.size)
        replace HS7 := Lib.hid ((HS7.out.below hba).mono hba.size)
        replace hBw := hBw.trans (hba.mono hBw.size)
        clear hba
        have xxg0 := hxg.cell 0 _ rfl
        have xxa0 := hxa.cell 0 _ rfl
        go_wp2_with fail
        clear xxg0 xxa0
        generalize w7.alloc (.cells #[.slice a7 rs.length c7] 26) = W7 at hxr hxo hxa hxw hye hyf hxg HS2 HS3 HS7 hBw ⊢
        generalize w7.heap.size = g7 at hxg ⊢
        refine (sameReader_any _ _ rs _ HS7.out HS2.out).mono ?_
        rintro e w8 ⟨rfl, hb8⟩
        replace hxr := hxr.keep hb8 hxr.lt
        replace hxo := hxo.keep hb8 hxo.lt
        replace hxa := hxa.keep hb8 hxa.lt
        replace hxw := hxw.keep hb8 hxw.lt
        replace hye := hye.keep hb8 hye.lt
        replace hyf := hyf.keep hb8 hyf.lt
        replace hxg := hxg.keep hb8 hxg.lt
        replace HS2 := Lib.hid ((HS2.out.below hb8).mono hb8.size)
        replace HS3 := Lib.hid ((HS3.out.below hb8).mono hb8.size)
        replace HS7 := Lib.hid ((HS7.out.below hb8).mono hb8.size)
        replace hBw := hBw.trans (hb8.mono hBw.size)
        clear hb8
        have xye0 := hye.cell 0 _ rfl
        have xye1 := hye.cell 1 _ rfl
        have xye2 := hye.cell 2 _ rfl
        have xye3 := hye.cell 3 _ rfl
        have xye4 := hye.cell 4 _ rfl
        have xyf0 := hyf.cell 0 _ rfl
        have xyf1 := hyf.cell 1 _ rfl
        have xyf2 := hyf.cell 2 _ rfl
        have xyf3 := hyf.cell 3 _ rfl
        have xyf4 := hyf.cell 4 _ rfl
        have xxo0 := hxo.cell 0 _ rfl
        have xxo1 := hxo.cell 1 _ rfl
        have xxo2 := hxo.cell 2 _ rfl
        have xxo3 := hxo.cell 3 _ rfl
        have xxo4 := hxo.cell 4 _ rfl
        have xxo5 := hxo.cell 5 _ rfl
        have xxo6 := hxo.cell 6 _ rfl
        have xxa0 := hxa.cell 0 _ rfl
        have ha0 : Below w8.heap.size w8 (w8.alloc (.cells #[.int .i64 7, .string ou, .string oi, .int .i64 od, .string ofu, .string oft, (.slice xa oits.length xc)] 31)) := (Below.refl _ _).alloc (Nat.le_refl _) _
        have s0 : (w8.alloc (.cells #[.int .i64 7, .string ou, .string oi, .int .i64 od, .string ofu, .string oft, (.slice xa oits.length xc)] 31)).cell? ⟨v1.heap.size + 1, 0, none⟩ = some (.int .i64 7) := (hxo.keep ha0 hxo.lt).cell 0 _ rfl
        have sa0 : (w8.alloc (.cells #[.int .i64 7, .string ou, .string oi, .int .i64 od, .string ofu, .string oft, (.slice xa oits.length xc)] 31)).cell? ⟨g2, 0, none⟩ = some (.slice a2 rs.length c2) := (hxa.keep ha0 hxa.lt).cell 0 _ rfl
        clear ha0
        have ha1 : Below w8.heap.size w8 (w8.alloc (.cells #[.int .i64 8, .string ou, .string oi, .int .i64 od, .string ofu, .string oft, (.slice xa oits.length xc)] 31)) := (Below.refl _ _).alloc (Nat.le_refl _) _
        have s1 : (w8.alloc (.cells #[.int .i64 8, .string ou, .string oi, .int .i64 od, .string ofu, .string oft, (.slice xa oits.length xc)] 31)).cell? ⟨v1.heap.size + 1, 0, none⟩ = some (.int .i64 7) := (hxo.keep ha1 hxo.lt).cell 0 _ rfl
        have sa1 : (w8.alloc (.cells #[.int .i64 8, .string ou, .string oi, .int .i64 od, .string ofu, .string oft, (.slice xa oits.length xc)] 31)).cell? ⟨g2, 0, none⟩ = some (.slice a2 rs.length c2) := (hxa.keep ha1 hxa.lt).cell 0 _ rfl
        clear ha1
        have ha2 : Below w8.heap.size w8 (w8.alloc (.cells #[.int .i64 6, .string ou, .string oi, .int .i64 od, .string ofu, .string oft, (.slice xa oits.length xc)] 31)) := (Below.refl _ _).alloc (Nat.le_refl _) _
        have s2 : (w8.alloc (.cells #[.int .i64 6, .string ou, .string oi, .int .i64 od, .string ofu, .string oft, (.slice xa oits.length xc)] 31)).cell? ⟨v1.heap.size + 1, 0, none⟩ = some (.int .i64 7) := (hxo.keep ha2 hxo.lt).cell 0 _ rfl
        have sa2 : (w8.alloc (.cells #[.int .i64 6, .string ou, .string oi, .int .i64 od, .string ofu, .string oft, (.slice xa oits.length xc)] 31)).cell? ⟨g2, 0, none⟩ = some (.slice a2 rs.length c2) := (hxa.keep ha2 hxa.lt).cell 0 _ rfl
        clear ha2
        go_wp2_with fail
        clear xye0 xye1 xye2 xye3 xye4 xyf0 xyf1 xyf2 xyf3 xyf4 xxo0 xxo1 xxo2 xxo3 xxo4 xxo5 xxo6 xxa0 s0 s1 s2 sa0 sa1 sa2
        have hxp := Box.new w8 #[.int .i64 6, .string ou, .string oi, .int .i64 od, .string ofu, .string oft, (.slice xa oits.length xc)] 31
        have hba : Below w8.heap.size w8 (w8.alloc (.cells #[.int .i64 6, .string ou, .string oi, .int .i64 od, .string ofu, .string oft, (.slice xa oits.length xc)] 31)) := (Below.refl _ _).alloc (Nat.le_refl _) _
        replace hxr := hxr.keep hba hxr.lt
        replace hxo := hxo.keep hba hxo.lt
        replace hxa := hxa.keep hba hxa.lt
        replace hxw := hxw.keep hba hxw.lt
        replace hye := hye.keep hba hye.lt
        replace hyf := hyf.keep hba hyf.lt
        replace hxg := hxg.keep hba hxg.lt
        replace HS2 := Lib.hid ((HS2.out.below hba).mono hba.size)
        replace HS3 := Lib.hid ((HS3.out.below hba).mono hba.size)
        replace HS7 := Lib.hid ((HS7.out.below hba).mono hba.size)
        replace hBw := hBw.trans (hba.mono hBw.size)
        clear hba
        generalize w8.alloc (.cells #[.int .i64 6, .string ou, .string oi, .int .i64 od, .string ofu, .string oft, (.slice xa oits.length xc)] 31) = W8 at hxr hxo hxa hxw hye hyf hxg hxp HS2 HS3 HS7 hBw ⊢
        generalize w8.heap.size = g8 at hxp ⊢
        refine (implDone_some _ _ rs bs (⟨6, ou, oi, od, ofu, oft, oits⟩ : OpD) _ HS2.out (HIs.out _ hBw) HOz.out HDB.out).mono ?_
        rintro e w9 ⟨V9, q9, rfl, hq9, hD9, hb9⟩
        obtain ⟨a9, c9, hV9⟩ := hD9.1.slice
        have hL9 : q9.length = bs.length := by rw [← hq9, List.length_map]
        rw [hL9] at hV9
        subst hV9
        have HS9 : Hid (SbAt w9 w9.heap.size (.slice a9 bs.length c9) bs) := Lib.hid (hD9.at hq9 HZB.out)
        replace hxr := hxr.keep hb9 hxr.lt
        replace hxo := hxo.keep hb9 hxo.lt
        replace hxa := hxa.keep hb9 hxa.lt
        replace hxw := hxw.keep hb9 hxw.lt
        replace hye := hye.keep hb9 hye.lt
        replace hyf := hyf.keep hb9 hyf.lt
        replace hxg := hxg.keep hb9 hxg.lt
        replace hxp := hxp.keep hb9 hxp.lt
        replace HS2 := Lib.hid ((HS2.out.below hb9).mono hb9.size)
        replace HS3 := Lib.hid ((HS3.out.below hb9).mono hb9.size)
        replace HS7 := Lib.hid ((HS7.out.below hb9).mono hb9.size)
        replace hBw := hBw.trans (hb9.mono hBw.size)
        clear hb9 hq9 hD9 hL9
        have hxq := Box.new w9 #[.slice a9 bs.length c9] 26
        have hba : Below w9.heap.size w9 (w9.alloc (.cells #[.slice a9 bs.length c9] 26)) := (Below.refl _ _).alloc (Nat.le_refl _) _
        replace hxr := hxr.keep hba hxr.lt
        replace hxo := hxo.keep hba hxo.lt
        replace hxa := hxa.keep hba hxa.lt
        replace hxw := hxw.keep hba hxw.lt
        replace hye := hye.keep hba hye.lt
        replace hyf := hyf.keep hba hyf.lt
        replace hxg := hxg.keep hba hxg.lt
        replace hxp := hxp.keep hba hxp.lt
        replace HS2 := Lib.hid ((HS2.out.below hba).mono hba.size)
        replace HS3 := Lib.hid ((HS3.out.below hba).mono hba.size)
        replace HS7 := Lib.hid ((HS7.out.below hba).mono hba.size)
        replace HS9 := Lib.hid ((HS9.out.below hba).mono hba.size)
        replace hBw := hBw.trans (hba.mono hBw.size)
        clear hba
        cases est with
        | false =>
          have xye0 := hye.cell 0 _ rfl
          have xye1 := hye.cell 1 _ rfl
          have xye2 := hye.cell 2 _ rfl
          have xye3 := hye.cell 3 _ rfl
          have xye4 := hye.cell 4 _ rfl
          have xyf0 := hyf.cell 0 _ rfl
          have xyf1 := hyf.cell 1 _ rfl
          have xyf2 := hyf.cell 2 _ rfl
          have xyf3 := hyf.cell 3 _ rfl
          have xyf4 := hyf.cell 4 _ rfl
          go_wp2
          go_ret
          exact ⟨rfl, HBw0.out.trans (hBw.mono HBw0.out.size)⟩
        | true =>
          have e9 := HBS.out (by intro hc; simp [mkE] at hc)
          subst e9
          have HSr := Lib.hid (HSs.out _ hBw)
          have xye0 := hye.cell 0 _ rfl
          have xye1 := hye.cell 1 _ rfl
          have xye2 := hye.cell 2 _ rfl
          have xye3 := hye.cell 3 _ rfl
          have xye4 := hye.cell 4 _ rfl
          have xyf0 := hyf.cell 0 _ rfl
          have xyf1 := hyf.cell 1 _ rfl
          have xyf2 := hyf.cell 2 _ rfl
          have xyf3 := hyf.cell 3 _ rfl
          have xyf4 := hyf.cell 4 _ rfl
          have xxq0 := hxq.cell 0 _ rfl
          have xxr0 := hxr.cell 0 _ rfl
          go_wp2_with fail
          clear xye0 xye1 xye2 xye3 xye4 xyf0 xyf1 xyf2 xyf3 xyf4 xxq0 xxr0
          generalize w9.alloc (.cells #[.slice a9 bs.length c9] 26) = W9 at hxr hxo hxa hxw hye hyf hxg hxp hxq HS2 HS3 HS7 HS9 HSr hBw ⊢
          generalize w9.heap.size = g9 at hxq ⊢
          refine (sameReader_any _ _ bs _ HS9.out HSr.out).mono ?_
          rintro e w10 ⟨rfl, hb10⟩
          replace hxr := hxr.keep hb10 hxr.lt
          replace hxo := hxo.keep hb10 hxo.lt
          replace hxa := hxa.keep hb10 hxa.lt
          replace hxw := hxw.keep hb10 hxw.lt
          replace hye := hye.keep hb10 hye.lt
          replace hyf := hyf.keep hb10 hyf.lt
          replace hxg := hxg.keep hb10 hxg.lt
          replace hxp := hxp.keep hb10 hxp.lt
          replace hxq := hxq.keep hb10 hxq.lt
          replace HS2 := Lib.hid ((HS2.out.below hb10).mono hb10.size)
          replace HS3 := Lib.hid ((HS3.out.below hb10).mono hb10.size)
          replace HS7 := Lib.hid ((HS7.out.below hb10).mono hb10.size)
          replace HS9 := Lib.hid ((HS9.out.below hb10).mono hb10.size)
          replace HSr := Lib.hid ((HSr.out.below hb10).mono hb10.size)
          replace hBw := hBw.trans (hb10.mono hBw.size)
          clear hb10
          go_wp2
          go_ret
          exact ⟨rfl, HBw0.out.trans (hBw.mono HBw0.out.size)⟩
end Go.Proofs.Ytffkakpbelknaaa

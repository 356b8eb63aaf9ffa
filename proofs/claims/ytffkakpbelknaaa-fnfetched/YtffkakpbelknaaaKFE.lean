/- Joined: W9ent, V9h. -/
import Derived.Test.YtffkakpbelknaaaH50
import Derived.Test.YtffkakpbelknaaaH24
import Derived.Test.YtffkakpbelknaaaH52
import Derived.Test.YtffkakpbelknaaaH23
/- W9ent -/
namespace Go.Proofs.Ytffkakpbelknaaa
open Go.ChangeShapes Go.WideShapes Go.ChangeAt Go.RowKit
set_option linter.unusedVariables false

def etV : Option En → Value
  | none => enV ⟨#[]⟩ ⟨#[]⟩ 0 false false
  | some e => enV e.it.id e.it.ti e.it.da e.rd e.st
abbrev en0A : Array Value := #[.string ⟨#[]⟩, .string ⟨#[]⟩, .int .i64 0, .bool false, .bool false]
theorem take_next {α : Type} {P : α → Prop} {l : List α} {k : Nat} (hk : k < l.length) (h : ∀ x ∈ l.take k, P x) (hx : P l[k]) : ∀ x ∈ l.take (k + 1), P x := by
  intro x hx2
  rw [List.take_succ_eq_append_getElem hk] at hx2
  rcases List.mem_append.1 hx2 with h1 | h1
  · exact h x h1
  · rw [List.mem_singleton.1 h1]; exact hx
theorem takeAll9 {α : Type} {P : α → Prop} {l : List α} {k : Nat} (hk : ¬ k < l.length) (h : ∀ x ∈ l.take k, P x) : ∀ x ∈ l, P x := by
  rw [List.take_of_length_le (by omega)] at h
  exact h

set_option maxRecDepth 100000 in
set_option maxHeartbeats 3000000 in
theorem entry_any (v : Value) (ss : List Sb) (U I : ByteArray) (w : World) (h : SbAt w w.heap.size v ss) :
    Calls Try.prog 25 #[.agg #[v], .string U, .string I] w fun e w' => ∃ r : Option En, EtR ss U I r ∧ e = .returned (.tuple #[etV r, .bool r.isSome]) ∧ Below w.heap.size w w' := by
  have HI := Lib.hid h
  obtain ⟨a, cap, rfl, hl, hm, hc⟩ := h.raw
  unfold maxLen at hm
  clear hc h
  obtain ⟨W0, hW0⟩ : ∃ W0, W0 = (w.alloc (.cells #[.slice a ss.length cap] 26)).alloc (.cells en0A 47) := ⟨_, rfl⟩
  have hb0 : Below w.heap.size w W0 := by rw [hW0]; exact ((Below.refl _ _).alloc (Nat.le_refl _) _).alloc (by simp) _
  have hx0 : Box W0 w.heap.size #[.slice a ss.length cap] 26 := by rw [hW0]; exact (Box.new w #[.slice a ss.length cap] 26).alloc _
  have hy0 : Box W0 (w.heap.size + 1) en0A 47 := by
    rw [hW0]
    have := Box.new (w.alloc (.cells #[.slice a ss.length cap] 26)) en0A 47
    simpa using this
  have p0 := hx0.cell 0 _ rfl
  have z0 : W0.cell? ⟨w.heap.size + 1, 0, none⟩ = some (.string ⟨#[]⟩) := hy0.cell 0 _ rfl
  have z1 : W0.cell? ⟨w.heap.size + 1, 1, none⟩ = some (.string ⟨#[]⟩) := hy0.cell 1 _ rfl
  have z2 : W0.cell? ⟨w.heap.size + 1, 2, none⟩ = some (.int .i64 0) := hy0.cell 2 _ rfl
  have z3 : W0.cell? ⟨w.heap.size + 1, 3, none⟩ = some (.bool false) := hy0.cell 3 _ rfl
  have z4 : W0.cell? ⟨w.heap.size + 1, 4, none⟩ = some (.bool false) := hy0.cell 4 _ rfl
  have f0 := hy0.free 0
  have f1 := hy0.free 1
  have f2 := hy0.free 2
  have f3 := hy0.free 3
  have f4 := hy0.free 4
  go_enter Try.func25, Try.ntmps25
  go_wp2
  rw [← hW0]
  clear hW0
  go_loopw [8] (fun i wr => ∃ p : Nat, p ≤ ss.length ∧ i = .int .i64 (p : Int) ∧ W0 = wr ∧ Hid (∀ s ∈ ss.take p, s.u = U → ∀ e ∈ s.es, e.it.id ≠ I)) (fun i _ => ss.length - (intOf i).toNat)
  case atStart => exact ⟨0, Nat.zero_le _, rfl, rfl, Lib.hid (fun s hs => by simp at hs)⟩
  case round =>
    obtain ⟨p, hp, rfl, rfl, HP⟩ := hrel
    by_cases hlt : p < ss.length
    · obtain ⟨a1, cap1, hv, _, _, hc⟩ := (HI.out.below hb0).raw
      cases hv
      obtain ⟨b, off, rfl, hb, hr⟩ := hc p hlt
      obtain ⟨x, c0, c1, c2, hx, _⟩ := hr p hlt
      have HN := Lib.hid (fun hh => take_next (P := fun s : Sb => s.u = U → ∀ e ∈ s.es, e.it.id ≠ I) hlt HP.out hh)
      have HM := Lib.hid (List.getElem_mem hlt)
      obtain ⟨sb, hsb⟩ : ∃ sb, sb = ss[p] := ⟨_, rfl⟩
      rw [← hsb] at c0 c1 hx HN HM
      obtain ⟨xa, xc, rfl, hxl, hxm, _⟩ := hx.1
      unfold maxLen at hxm
      have hkl : decide ((p : Int) < (ss.length : Int)) = true := decide_eq_true (by omega)
      have hkl2 : (p : Int) < (ss.length : Int) := by omega
      have hk0 : (0 : Int) ≤ (p : Int) := by omega
      have HX := Lib.hid hx
      clear hr hc hx hsb
      by_cases hu : sb.u = U
      · have hU : (sb.u.toList == U.toList) = true := by rw [hu]; simp
        have HU := Lib.hid hu
        clear hu
        go_wp2
        go_loopw [9] (fun j wq => ∃ q : Nat, q ≤ sb.es.length ∧ j = .int .i64 (q : Int) ∧ W0 = wq ∧ Hid (∀ e ∈ sb.es.take q, e.it.id ≠ I)) (fun j _ => sb.es.length - (intOf j).toNat)
        case atStart => exact ⟨0, Nat.zero_le _, rfl, rfl, Lib.hid (fun s hs => by simp at hs)⟩
        case round =>
          obtain ⟨q, hq, rfl, rfl, HQ⟩ := hrel
          by_cases hql : q < sb.es.length
          · obtain ⟨a3, cap3, hv, _, _, hc⟩ := HX.out.raw
            cases hv
            obtain ⟨b3, off3, rfl, hb3, hr⟩ := hc q hql
            obtain ⟨d0, d1, d2, d3, d4, _⟩ := hr q hql
            have HN2 := Lib.hid (fun hh => take_next (P := fun e : En => e.it.id ≠ I) hql HQ.out hh)
            have HM2 := Lib.hid (List.getElem_mem hql)
            obtain ⟨en, hen⟩ : ∃ en, en = sb.es[q] := ⟨_, rfl⟩
            rw [← hen] at d0 d1 d2 d3 d4 HN2 HM2
            have hjd : decide ((q : Int) < (sb.es.length : Int)) = true := decide_eq_true (by omega)
            have hjd2 : (q : Int) < (sb.es.length : Int) := by omega
            have hj0 : (0 : Int) ≤ (q : Int) := by omega
            clear hr hc hen
            by_cases hi : en.it.id = I
            · have hI : (en.it.id.toList == I.toList) = true := by rw [hi]; simp
              have HII := Lib.hid hi
              clear hi
              go_wp2
              have y5 := ((((hy0.set 0 (.string en.it.id)).set 1 (.string en.it.ti)).set 2 (.int .i64 en.it.da)).set 3 (.bool en.rd)).set 4 (.bool en.st)
              change Box _ (w.heap.size + 1) #[.string en.it.id, .string en.it.ti, .int .i64 en.it.da, .bool en.rd, .bool en.st] _ at y5
              have hB5 := ((((hb0.setCell (p := ⟨w.heap.size + 1, 0, none⟩) (by show w.heap.size ≤ w.heap.size + 1; omega) (.string en.it.id)).setCell (p := ⟨w.heap.size + 1, 1, none⟩) (by show w.heap.size ≤ w.heap.size + 1; omega) (.string en.it.ti)).setCell (p := ⟨w.heap.size + 1, 2, none⟩) (by show w.heap.size ≤ w.heap.size + 1; omega) (.int .i64 en.it.da)).setCell (p := ⟨w.heap.size + 1, 3, none⟩) (by show w.heap.size ≤ w.heap.size + 1; omega) (.bool en.rd)).setCell (p := ⟨w.heap.size + 1, 4, none⟩) (by show w.heap.size ≤ w.heap.size + 1; omega) (.bool en.st)
              have e0 := y5.cell 0 _ rfl
              have e1 := y5.cell 1 _ rfl
              have e2 := y5.cell 2 _ rfl
              have e3 := y5.cell 3 _ rfl
              have e4 := y5.cell 4 _ rfl
              exact bodyPost_ret (v := .tuple #[etV (some en), .bool true]) (by simp [results, Try.results25, go_sem, e0, e1, e2, e3, e4, etV]) rfl ⟨some en, ⟨sb, HM.out, HU.out, HM2.out, HII.out⟩, rfl, hB5⟩
            · have hI : (en.it.id.toList == I.toList) = false := by rw [str_eq]; exact decide_eq_false hi
              have HN3 := Lib.hid (HN2.out hi)
              clear hi
              go_wp2
              go_roundw
              case rel => exact ⟨q + 1, by omega, by go_num, by trivial, HN3⟩
              case measure => simp [intOf]; omega
          · have hjd : decide ((q : Int) < (sb.es.length : Int)) = false := decide_eq_false (by omega)
            have HN3 := Lib.hid (HN.out (fun _ => takeAll9 (P := fun e : En => e.it.id ≠ I) hql HQ.out))
            go_wp2
            go_roundw
            case rel => exact ⟨p + 1, by omega, by go_num, by trivial, HN3⟩
            case measure => simp [intOf]; omega
      · have hU : (sb.u.toList == U.toList) = false := by rw [str_eq]; exact decide_eq_false hu
        have HN3 := Lib.hid (HN.out (fun h => absurd h hu))
        clear hu
        go_wp2
        go_loopw [9] (fun j wq => ∃ q : Nat, q ≤ sb.es.length ∧ j = .int .i64 (q : Int) ∧ W0 = wq) (fun j _ => sb.es.length - (intOf j).toNat)
        case atStart => exact ⟨0, Nat.zero_le _, rfl, rfl⟩
        case round =>
          obtain ⟨q, hq, rfl, rfl⟩ := hrel
          by_cases hql : q < sb.es.length
          · have hjd : decide ((q : Int) < (sb.es.length : Int)) = true := decide_eq_true (by omega)
            go_wp2
            go_roundw
            case rel => exact ⟨q + 1, by omega, by go_num, by trivial⟩
            case measure => simp [intOf]; omega
          · have hjd : decide ((q : Int) < (sb.es.length : Int)) = false := decide_eq_false (by omega)
            go_wp2
            go_roundw
            case rel => exact ⟨p + 1, by omega, by go_num, by trivial, HN3⟩
            case measure => simp [intOf]; omega
    · have hkl : decide ((p : Int) < (ss.length : Int)) = false := decide_eq_false (by omega)
      have HA := Lib.hid (takeAll9 (P := fun s : Sb => s.u = U → ∀ e ∈ s.es, e.it.id ≠ I) hlt HP.out)
      go_wp2
      have y5 := ((((hy0.set 0 (.string ⟨#[]⟩)).set 1 (.string ⟨#[]⟩)).set 2 (.int .i64 0)).set 3 (.bool false)).set 4 (.bool false)
      change Box _ (w.heap.size + 1) #[.string ⟨#[]⟩, .string ⟨#[]⟩, .int .i64 0, .bool false, .bool false] _ at y5
      have hB5 := ((((hb0.setCell (p := ⟨w.heap.size + 1, 0, none⟩) (by show w.heap.size ≤ w.heap.size + 1; omega) (.string ⟨#[]⟩)).setCell (p := ⟨w.heap.size + 1, 1, none⟩) (by show w.heap.size ≤ w.heap.size + 1; omega) (.string ⟨#[]⟩)).setCell (p := ⟨w.heap.size + 1, 2, none⟩) (by show w.heap.size ≤ w.heap.size + 1; omega) (.int .i64 0)).setCell (p := ⟨w.heap.size + 1, 3, none⟩) (by show w.heap.size ≤ w.heap.size + 1; omega) (.bool false)).setCell (p := ⟨w.heap.size + 1, 4, none⟩) (by show w.heap.size ≤ w.heap.size + 1; omega) (.bool false)
      have e0 := y5.cell 0 _ rfl
      have e1 := y5.cell 1 _ rfl
      have e2 := y5.cell 2 _ rfl
      have e3 := y5.cell 3 _ rfl
      have e4 := y5.cell 4 _ rfl
      exact bodyPost_ret (v := .tuple #[etV none, .bool false]) (by simp [results, Try.results25, go_sem, e0, e1, e2, e3, e4, etV]) rfl ⟨none, HA.out, rfl, hB5⟩
end Go.Proofs.Ytffkakpbelknaaa

/- V9h -/
namespace Go.Proofs.Ytffkakpbelknaaa
open Go.ChangeShapes Go.WideShapes Go.ChangeAt Go.RowKit
set_option linter.unusedVariables false
set_option linter.unusedSimpArgs false

/-- What the loops of FnFetched find. -/
def FtW (v1 : World) (ss rs : List Sb) (o : OpD) (ra a2 xa : Option Addr) (rc c2 xc : Nat) (g2 : Nat) (W : World) : Prop :=
  Box W v1.heap.size #[.slice ra ss.length rc] 26 ∧ Box W (v1.heap.size + 1) #[.int .i64 o.k, .string o.u, .string o.i, .int .i64 o.d, .string o.fu, .string o.ft, (.slice xa o.its.length xc)] 31 ∧ Box W g2 #[.slice a2 rs.length c2] 26 ∧ SbAt W W.heap.size (.slice a2 rs.length c2) rs ∧ Below v1.heap.size v1 W
theorem FtW.below {v1 : World} {ss rs : List Sb} {o : OpD} {ra a2 xa : Option Addr} {rc c2 xc : Nat} {g2 : Nat} {W W' : World} (h : FtW v1 ss rs o ra a2 xa rc c2 xc g2 W) (hb : Below W.heap.size W W') : FtW v1 ss rs o ra a2 xa rc c2 xc g2 W' :=
  ⟨h.1.keep hb h.1.lt, h.2.1.keep hb h.2.1.lt, h.2.2.1.keep hb h.2.2.1.lt, (h.2.2.2.1.below hb).mono hb.size, h.2.2.2.2.trans (hb.mono h.2.2.2.2.size)⟩
def etB : Option En → Array Value
  | none => en0A
  | some e => #[.string e.it.id, .string e.it.ti, .int .i64 e.it.da, .bool e.rd, .bool e.st]

set_option maxRecDepth 100000 in
set_option maxHeartbeats 1600000 in
theorem plain_any (v : Value) (ss : List Sb) (u : ByteArray) (a b c : Nat) (w : World) (h : SbAt w w.heap.size v ss) (hc : ctV ss u = (a, b, c)) :
    Calls Try.prog 27 #[.agg #[v], .string u] w fun e w' => e = .returned (.bool (decide (c < a))) ∧ Below w.heap.size w w' := by
  obtain ⟨va, cap, rfl, _⟩ := h.raw
  have hx := Box.new w #[.slice va ss.length cap] 26
  have hba : Below w.heap.size w (w.alloc (.cells #[.slice va ss.length cap] 26)) := (Below.refl _ _).alloc (Nat.le_refl _) _
  have h2 := (h.below hba).mono hba.size
  have x0 := hx.cell 0 _ rfl
  have hct := implCounts_any _ ss u _ h2
  rw [hc] at hct
  simp only [c3V] at hct
  clear h h2 hx
  go_enter Try.func27, Try.ntmps27
  go_wp2_with fail
  refine hct.mono ?_
  rintro e w1 ⟨rfl, hb⟩
  have hB := hba.trans (hb.mono hba.size)
  clear hb hba x0 hct
  go_wp2
  go_ret
  exact ⟨rfl, hB⟩

set_option maxRecDepth 100000 in
set_option maxHeartbeats 3000000 in
theorem walk_FnFetched (aa : Option Addr) (len cap : Nat) (z : List Int) (w : World) (h : IsRow .u8 w aa len cap z) :
    Calls Try.prog 7 #[.slice aa len cap] w fun e w' => e = .returned (.bool true) ∧ Below w.heap.size w w' := by
  have hcd := Cd.of_row h
  clear h
  go_enter Try.func7, Try.ntmps7
  go_wp2_with fail
  refine (big_any _ _ _ hcd).mono ?_
  rintro e w1 ⟨⟨b, rfl⟩, rfl⟩
  cases b with
  | true =>
    go_wp2
    go_ret
    exact ⟨rfl, Below.refl _ _⟩
  | false =>
    go_wp2_with fail
    refine (drawDone_any _ _ _ hcd).mono ?_
    rintro e v1 ⟨V, ss, o, x, rfl, hsz, hso, hS, hI, hd1⟩
    clear hcd
    obtain ⟨ra, rc, hV, hrl, hrm, _⟩ := hS.raw
    subst hV
    unfold maxLen at hrm
    obtain ⟨xa, xc, rfl⟩ := hI.1.slice
    have HSs : Hid (∀ W, Below v1.heap.size v1 W → SbAt W W.heap.size (.slice ra ss.length rc) ss) := Lib.hid (fun W hW => (hS.below hW).mono hW.size)
    have HIs : Hid (∀ W, Below v1.heap.size v1 W → ItAt W W.heap.size (.slice xa o.its.length xc) o.its) := Lib.hid (fun W hW => (hI.below hW).mono hW.size)
    have HSz := Lib.hid hsz
    have HOz : Hid (OpSz o) := Lib.hid (smO_sz hso).1
    have HBw0 := Lib.hid hd1
    clear hS hI hsz hso hd1
    have hxr0 := Box.new v1 #[.slice ra ss.length rc] 26
    have hxr := hxr0.alloc (.cells #[.int .i64 o.k, .string o.u, .string o.i, .int .i64 o.d, .string o.fu, .string o.ft, (.slice xa o.its.length xc)] 31)
    have hxo := Box.new (v1.alloc (.cells #[.slice ra ss.length rc] 26)) #[.int .i64 o.k, .string o.u, .string o.i, .int .i64 o.d, .string o.fu, .string o.ft, (.slice xa o.its.length xc)] 31
    have hBw : Below v1.heap.size v1 ((v1.alloc (.cells #[.slice ra ss.length rc] 26)).alloc (.cells #[.int .i64 o.k, .string o.u, .string o.i, .int .i64 o.d, .string o.fu, .string o.ft, (.slice xa o.its.length xc)] 31)) := ((Below.refl _ _).alloc (Nat.le_refl _) _).alloc (by simp) _
    rw [World.size_alloc] at hxo
    clear hxr0
    cases hA : doV ss o with
    | none =>
      have xxr0 := hxr.cell 0 _ rfl
      have xxo0 := hxo.cell 0 _ rfl
      have xxo1 := hxo.cell 1 _ rfl
      have xxo2 := hxo.cell 2 _ rfl
      have xxo3 := hxo.cell 3 _ rfl
      have xxo4 := hxo.cell 4 _ rfl
      have xxo5 := hxo.cell 5 _ rfl
      have xxo6 := hxo.cell 6 _ rfl
      go_wp2_with fail
      clear xxr0 xxo0 xxo1 xxo2 xxo3 xxo4 xxo5 xxo6
      refine (implDone_no _ _ ss o _ (HSs.out _ hBw) (HIs.out _ hBw) HOz.out hA).mono ?_
      rintro e w2 ⟨V2, q2, rfl, hq2, hD2, hb2⟩
      obtain ⟨a2, c2, hV2⟩ := hD2.1.slice
      have hL2 : q2.length = ([] : List Sb).length := by rw [← hq2, List.length_map]
      rw [hL2] at hV2
      subst hV2
      have HS2 : Hid (SbAt w2 w2.heap.size (.slice a2 ([] : List Sb).length c2) ([] : List Sb)) := Lib.hid (hD2.at hq2 (by simp))
      replace hxr := hxr.keep hb2 hxr.lt
      replace hxo := hxo.keep hb2 hxo.lt
      replace hBw := hBw.trans (hb2.mono hBw.size)
      clear hb2 hq2 hD2 hL2
      have hl02 : ([] : List Sb).length = 0 := rfl
      rw [hl02] at HS2 ⊢
      clear hl02
      have hxa := Box.new w2 #[.slice a2 0 c2] 26
      have hba : Below w2.heap.size w2 (w2.alloc (.cells #[.slice a2 0 c2] 26)) := (Below.refl _ _).alloc (Nat.le_refl _) _
      replace hxr := hxr.keep hba hxr.lt
      replace hxo := hxo.keep hba hxo.lt
      replace HS2 := Lib.hid ((HS2.out.below hba).mono hba.size)
      replace hBw := hBw.trans (hba.mono hBw.size)
      clear hba
      have xxr0 := hxr.cell 0 _ rfl
      have xxo0 := hxo.cell 0 _ rfl
      have xxo1 := hxo.cell 1 _ rfl
      have xxo2 := hxo.cell 2 _ rfl
      have xxo3 := hxo.cell 3 _ rfl
      have xxo4 := hxo.cell 4 _ rfl
      have xxo5 := hxo.cell 5 _ rfl
      have xxo6 := hxo.cell 6 _ rfl
      go_wp2_with fail
      clear xxr0 xxo0 xxo1 xxo2 xxo3 xxo4 xxo5 xxo6
      generalize w2.alloc (.cells #[.slice a2 0 c2] 26) = W2 at hxr hxo hxa HS2 hBw ⊢
      generalize w2.heap.size = g2 at hxa ⊢
      refine (specDone_no _ _ ss o _ (HSs.out _ hBw) (HIs.out _ hBw) HOz.out hA).mono ?_
      rintro e w3 ⟨V3, q3, rfl, hq3, hD3, hb3⟩
      obtain ⟨a3, c3, hV3⟩ := hD3.1.slice
      have hL3 : q3.length = ([] : List Sb).length := by rw [← hq3, List.length_map]
      rw [hL3] at hV3
      subst hV3
      have HS3 : Hid (SbAt w3 w3.heap.size (.slice a3 ([] : List Sb).length c3) ([] : List Sb)) := Lib.hid (hD3.at hq3 (by simp))
      replace hxr := hxr.keep hb3 hxr.lt
      replace hxo := hxo.keep hb3 hxo.lt
      replace hxa := hxa.keep hb3 hxa.lt
      replace HS2 := Lib.hid ((HS2.out.below hb3).mono hb3.size)
      replace hBw := hBw.trans (hb3.mono hBw.size)
      clear hb3 hq3 hD3 hL3
      have hl03 : ([] : List Sb).length = 0 := rfl
      rw [hl03] at HS3 ⊢
      clear hl03
      have hxw := Box.new w3 #[.slice a3 0 c3] 26
      have hba : Below w3.heap.size w3 (w3.alloc (.cells #[.slice a3 0 c3] 26)) := (Below.refl _ _).alloc (Nat.le_refl _) _
      replace hxr := hxr.keep hba hxr.lt
      replace hxo := hxo.keep hba hxo.lt
      replace hxa := hxa.keep hba hxa.lt
      replace HS2 := Lib.hid ((HS2.out.below hba).mono hba.size)
      replace HS3 := Lib.hid ((HS3.out.below hba).mono hba.size)
      replace hBw := hBw.trans (hba.mono hBw.size)
      clear hba
      have xxa0 := hxa.cell 0 _ rfl
      have xxw0 := hxw.cell 0 _ rfl
      go_wp2_with fail
      clear xxa0 xxw0
      generalize w3.alloc (.cells #[.slice a3 0 c3] 26) = W3 at hxr hxo hxa hxw HS2 HS3 hBw ⊢
      generalize w3.heap.size = g3 at hxw ⊢
      refine (sameReader_any _ _ [] _ HS2.out HS3.out).mono ?_
      rintro e w4 ⟨rfl, hb4⟩
      replace hxr := hxr.keep hb4 hxr.lt
      replace hxo := hxo.keep hb4 hxo.lt
      replace hxa := hxa.keep hb4 hxa.lt
      replace hxw := hxw.keep hb4 hxw.lt
      replace HS2 := Lib.hid ((HS2.out.below hb4).mono hb4.size)
      replace HS3 := Lib.hid ((HS3.out.below hb4).mono hb4.size)
      replace hBw := hBw.trans (hb4.mono hBw.size)
      clear hb4
      have xxa0 := hxa.cell 0 _ rfl
      have xxw0 := hxw.cell 0 _ rfl
      go_wp2_with fail
      clear xxa0 xxw0
      refine (sameReader_any _ _ [] _ HS2.out HS3.out).mono ?_
      rintro e w5 ⟨rfl, hb5⟩
      replace hxr := hxr.keep hb5 hxr.lt
      replace hxo := hxo.keep hb5 hxo.lt
      replace hxa := hxa.keep hb5 hxa.lt
      replace hxw := hxw.keep hb5 hxw.lt
      replace HS2 := Lib.hid ((HS2.out.below hb5).mono hb5.size)
      replace HS3 := Lib.hid ((HS3.out.below hb5).mono hb5.size)
      replace hBw := hBw.trans (hb5.mono hBw.size)
      clear hb5
      go_wp2
      go_ret
      exact ⟨rfl, HBw0.out.trans (hBw.mono HBw0.out.size)⟩
    | some rs =>
      have HA := Lib.hid hA
      have HZR := Lib.hid (rd_sz (doV_rd hA))
      have HF := Lib.hid (fun hk => doV_fetch hA hk)
      have hsl : ss.length ≤ 6 := by
        have h5 := hA
        unfold doV at h5
        split at h5
        · rename_i h6; exact rd_len h6.1
        · cases h5
      clear hA
      have xxr0 := hxr.cell 0 _ rfl
      have xxo0 := hxo.cell 0 _ rfl
      have xxo1 := hxo.cell 1 _ rfl
      have xxo2 := hxo.cell 2 _ rfl
      have xxo3 := hxo.cell 3 _ rfl
      have xxo4 := hxo.cell 4 _ rfl
      have xxo5 := hxo.cell 5 _ rfl
      have xxo6 := hxo.cell 6 _ rfl
      go_wp2_with fail
      clear xxr0 xxo0 xxo1 xxo2 xxo3 xxo4 xxo5 xxo6
      refine (implDone_some _ _ ss rs o _ (HSs.out _ hBw) (HIs.out _ hBw) HOz.out HA.out).mono ?_
      rintro e w2 ⟨V2, q2, rfl, hq2, hD2, hb2⟩
      obtain ⟨a2, c2, hV2⟩ := hD2.1.slice
      have hL2 : q2.length = rs.length := by rw [← hq2, List.length_map]
      rw [hL2] at hV2
      subst hV2
      have HS2 : Hid (SbAt w2 w2.heap.size (.slice a2 rs.length c2) rs) := Lib.hid (hD2.at hq2 HZR.out)
      replace hxr := hxr.keep hb2 hxr.lt
      replace hxo := hxo.keep hb2 hxo.lt
      replace hBw := hBw.trans (hb2.mono hBw.size)
      clear hb2 hq2 hD2 hL2
      have hxa := Box.new w2 #[.slice a2 rs.length c2] 26
      have hba : Below w2.heap.size w2 (w2.alloc (.cells #[.slice a2 rs.length c2] 26)) := (Below.refl _ _).alloc (Nat.le_refl _) _
      replace hxr := hxr.keep hba hxr.lt
      replace hxo := hxo.keep hba hxo.lt
      replace HS2 := Lib.hid ((HS2.out.below hba).mono hba.size)
      replace hBw := hBw.trans (hba.mono hBw.size)
      clear hba
      have xxr0 := hxr.cell 0 _ rfl
      have xxo0 := hxo.cell 0 _ rfl
      have xxo1 := hxo.cell 1 _ rfl
      have xxo2 := hxo.cell 2 _ rfl
      have xxo3 := hxo.cell 3 _ rfl
      have xxo4 := hxo.cell 4 _ rfl
      have xxo5 := hxo.cell 5 _ rfl
      have xxo6 := hxo.cell 6 _ rfl
      go_wp2_with fail
      clear xxr0 xxo0 xxo1 xxo2 xxo3 xxo4 xxo5 xxo6
      generalize w2.alloc (.cells #[.slice a2 rs.length c2] 26) = W2 at hxr hxo hxa HS2 hBw ⊢
      generalize w2.heap.size = g2 at hxa ⊢
      refine (specDone_some _ _ ss rs o _ (HSs.out _ hBw) (HIs.out _ hBw) HOz.out HA.out).mono ?_
      rintro e w3 ⟨V3, q3, rfl, hq3, hD3, hb3⟩
      obtain ⟨a3, c3, hV3⟩ := hD3.1.slice
      have hL3 : q3.length = rs.length := by rw [← hq3, List.length_map]
      rw [hL3] at hV3
      subst hV3
      have HS3 : Hid (SbAt w3 w3.heap.size (.slice a3 rs.length c3) rs) := Lib.hid (hD3.at hq3 HZR.out)
      replace hxr := hxr.keep hb3 hxr.lt
      replace hxo := hxo.keep hb3 hxo.lt
      replace hxa := hxa.keep hb3 hxa.lt
      replace HS2 := Lib.hid ((HS2.out.below hb3).mono hb3.size)
      replace hBw := hBw.trans (hb3.mono hBw.size)
      clear hb3 hq3 hD3 hL3
      have hxw := Box.new w3 #[.slice a3 rs.length c3] 26
      have hba : Below w3.heap.size w3 (w3.alloc (.cells #[.slice a3 rs.length c3] 26)) := (Below.refl _ _).alloc (Nat.le_refl _) _
      replace hxr := hxr.keep hba hxr.lt
      replace hxo := hxo.keep hba hxo.lt
      replace hxa := hxa.keep hba hxa.lt
      replace HS2 := Lib.hid ((HS2.out.below hba).mono hba.size)
      replace HS3 := Lib.hid ((HS3.out.below hba).mono hba.size)
      replace hBw := hBw.trans (hba.mono hBw.size)
      clear hba
      have xxa0 := hxa.cell 0 _ rfl
      have xxw0 := hxw.cell 0 _ rfl
      go_wp2_with fail
      clear xxa0 xxw0
      generalize w3.alloc (.cells #[.slice a3 rs.length c3] 26) = W3 at hxr hxo hxa hxw HS2 HS3 hBw ⊢
      generalize w3.heap.size = g3 at hxw ⊢
      refine (sameReader_any _ _ rs _ HS2.out HS3.out).mono ?_
      rintro e w4 ⟨rfl, hb4⟩
      replace hxr := hxr.keep hb4 hxr.lt
      replace hxo := hxo.keep hb4 hxo.lt
      replace hxa := hxa.keep hb4 hxa.lt
      replace hxw := hxw.keep hb4 hxw.lt
      replace HS2 := Lib.hid ((HS2.out.below hb4).mono hb4.size)
      replace HS3 := Lib.hid ((HS3.out.below hb4).mono hb4.size)
      replace hBw := hBw.trans (hb4.mono hBw.size)
      clear hb4
      by_cases hk : o.k = 3
      case neg =>
        have hk3 : (o.k != 3) = true := by simp [hk]
        clear hk HF
        have xxa0 := hxa.cell 0 _ rfl
        have xxw0 := hxw.cell 0 _ rfl
        have xxo0 := hxo.cell 0 _ rfl
        go_wp2_with fail
        clear xxa0 xxw0 xxo0
        refine (sameReader_any _ _ rs _ HS2.out HS3.out).mono ?_
        rintro e w5 ⟨rfl, hb5⟩
        replace hxr := hxr.keep hb5 hxr.lt
        replace hxo := hxo.keep hb5 hxo.lt
        replace hxa := hxa.keep hb5 hxa.lt
        replace hxw := hxw.keep hb5 hxw.lt
        replace HS2 := Lib.hid ((HS2.out.below hb5).mono hb5.size)
        replace HS3 := Lib.hid ((HS3.out.below hb5).mono hb5.size)
        replace hBw := hBw.trans (hb5.mono hBw.size)
        clear hb5
        go_wp2
        go_ret
        exact ⟨rfl, HBw0.out.trans (hBw.mono HBw0.out.size)⟩
      have hk3 : (o.k != 3) = false := by simp [hk]
      obtain ⟨hq1, hq2, hq3, hq4⟩ := HF.out hk
      obtain ⟨m0, m1, m2, hm⟩ : ∃ a b c, ctV rs o.fu = (a, b, c) := ⟨_, _, _, rfl⟩
      rw [hm] at hq1 hq2 hq3 hq4
      dsimp only at hq1 hq2 hq3 hq4
      have HM := Lib.hid hm
      have HQ1 := Lib.hid hq1
      have HQ2 := Lib.hid hq2
      have hle1 : decide ((m0 : Int) ≤ 12) = true := decide_eq_true (by omega)
      have hle2 : m1 ≤ m0 := by omega
      have hle3 : m0 ≤ 12 := by omega
      clear hm hk HF hq1 hq2 hq3 hq4
      have xxa0 := hxa.cell 0 _ rfl
      have xxo0 := hxo.cell 0 _ rfl
      have xxo4 := hxo.cell 4 _ rfl
      go_wp2_with fail
      clear xxa0 xxo0 xxo4
      have hct5 := implCounts_any _ rs o.fu _ HS2.out
      rw [HM.out] at hct5
      simp only [c3V] at hct5
      refine hct5.mono ?_
      rintro e w5 ⟨rfl, hb5⟩
      clear hct5
      replace hxr := hxr.keep hb5 hxr.lt
      replace hxo := hxo.keep hb5 hxo.lt
      replace hxa := hxa.keep hb5 hxa.lt
      replace hxw := hxw.keep hb5 hxw.lt
      replace HS2 := Lib.hid ((HS2.out.below hb5).mono hb5.size)
      replace HS3 := Lib.hid ((HS3.out.below hb5).mono hb5.size)
      replace hBw := hBw.trans (hb5.mono hBw.size)
      clear hb5
      have HPW : Hid (FtW v1 ss rs o ra a2 xa rc c2 xc g2 w5) := Lib.hid ⟨hxr, hxo, hxa, HS2.out, hBw⟩
      obtain ⟨_, _, _, hil, him, _⟩ := (HIs.out v1 (Below.refl _ _)).1
      unfold maxLen at him
      clear hxr hxo hxa hxw HS2 HS3 hBw
      go_wp2
      generalize w5 = wz at HPW ⊢
      go_loopw [12] (fun i wr => ∃ p : Nat, p ≤ o.its.length ∧ i = .int .i64 (p : Int) ∧ Hid (FtW v1 ss rs o ra a2 xa rc c2 xc g2 wr)) (fun i _ => o.its.length - (intOf i).toNat)
      case atStart => exact ⟨0, Nat.zero_le _, rfl, HPW⟩
      case round =>
        clear HPW
        obtain ⟨p, hp, rfl, HPW⟩ := hrel
        have hxo := HPW.out.2.1
        have ko4 := hxo.cell 4 _ rfl
        have ko6 := hxo.cell 6 _ rfl
        by_cases hlt : p < o.its.length
        case pos =>
          have hkl : decide ((p : Int) < (o.its.length : Int)) = true := decide_eq_true (by omega)
          have hkl2 : (p : Int) < (o.its.length : Int) := by omega
          have hk0 : (0 : Int) ≤ (p : Int) := by omega
          obtain ⟨it, hit⟩ : ∃ it, it = o.its[p] := ⟨_, rfl⟩
          have HMI : Hid (it ∈ o.its) := Lib.hid (by rw [hit]; exact List.getElem_mem hlt)
          obtain ⟨a3, cap3, hv, _, _, hc⟩ := (HIs.out wr HPW.out.2.2.2.2).1
          cases hv
          obtain ⟨b, off, rfl, hb, hr⟩ := hc (by omega)
          have c0x : wr.cell? ⟨b, off + p * 3, none⟩ = some (.string it.id) := hr p hlt 0 _ (by rw [← hit]; rfl)
          have c1x : wr.cell? ⟨b, off + p * 3 + 1, none⟩ = some (.string it.ti) := hr p hlt 1 _ (by rw [← hit]; rfl)
          have c2x : wr.cell? ⟨b, off + p * 3 + 2, none⟩ = some (.int .i64 it.da) := hr p hlt 2 _ (by rw [← hit]; rfl)
          clear hr hc hit
          have hxr := HPW.out.1
          have hxa := HPW.out.2.2.1
          have HS2 := Lib.hid HPW.out.2.2.2.1
          have hBw := HPW.out.2.2.2.2
          clear HPW
          have hxi := Box.new wr #[.string it.id, .string it.ti, .int .i64 it.da] 45
          have hba : Below wr.heap.size wr (wr.alloc (.cells #[.string it.id, .string it.ti, .int .i64 it.da] 45)) := (Below.refl _ _).alloc (Nat.le_refl _) _
          replace hxr := hxr.keep hba hxr.lt
          replace hxo := hxo.keep hba hxo.lt
          replace hxa := hxa.keep hba hxa.lt
          replace HS2 := Lib.hid ((HS2.out.below hba).mono hba.size)
          replace hBw := hBw.trans (hba.mono hBw.size)
          clear hba
          have xxr0 := hxr.cell 0 _ rfl
          have xxo4 := hxo.cell 4 _ rfl
          have xxi0 := hxi.cell 0 _ rfl
          go_wp2_with fail
          clear ko4 ko6 c0x c1x c2x
          clear xxr0 xxo4 xxi0
          generalize wr.alloc (.cells #[.string it.id, .string it.ti, .int .i64 it.da] 45) = W6 at hxr hxo hxa hxi HS2 hBw ⊢
          generalize wr.heap.size = g6 at hxi ⊢
          refine (entry_any _ ss o.fu it.id _ (HSs.out _ hBw)).mono ?_
          rintro e w7 ⟨r7, hE7, rfl, hb7⟩
          replace hxr := hxr.keep hb7 hxr.lt
          replace hxo := hxo.keep hb7 hxo.lt
          replace hxa := hxa.keep hb7 hxa.lt
          replace hxi := hxi.keep hb7 hxi.lt
          replace HS2 := Lib.hid ((HS2.out.below hb7).mono hb7.size)
          replace hBw := hBw.trans (hb7.mono hBw.size)
          clear hb7
          have HE7 := Lib.hid hE7
          clear hE7
          obtain ⟨e71, e72, e73, e74, e75, hev, hea⟩ : ∃ (a b : ByteArray) (c : Int) (d e : Bool), etV r7 = enV a b c d e ∧ (match r7 with | none => a = ⟨#[]⟩ ∧ b = ⟨#[]⟩ ∧ c = 0 ∧ d = false ∧ e = false | some f => f = (⟨⟨a, b, c⟩, d, e⟩ : En)) := by cases r7 with | none => exact ⟨_, _, _, _, _, rfl, rfl, rfl, rfl, rfl, rfl⟩ | some y => exact ⟨_, _, _, _, _, rfl, rfl⟩
          rw [hev]
          have HEA7 := Lib.hid hea
          clear hev hea
          have hye := Box.new w7 #[.string e71, .string e72, .int .i64 e73, .bool e74, .bool e75] 47
          have hba : Below w7.heap.size w7 (w7.alloc (.cells #[.string e71, .string e72, .int .i64 e73, .bool e74, .bool e75] 47)) := (Below.refl _ _).alloc (Nat.le_refl _) _
          replace hxr := hxr.keep hba hxr.lt
          replace hxo := hxo.keep hba hxo.lt
          replace hxa := hxa.keep hba hxa.lt
          replace hxi := hxi.keep hba hxi.lt
          replace HS2 := Lib.hid ((HS2.out.below hba).mono hba.size)
          replace hBw := hBw.trans (hba.mono hBw.size)
          clear hba
          have xxa0 := hxa.cell 0 _ rfl
          have xxo4 := hxo.cell 4 _ rfl
          have xxi0 := hxi.cell 0 _ rfl
          go_wp2_with fail
          clear xxa0 xxo4 xxi0
          generalize w7.alloc (.cells #[.string e71, .string e72, .int .i64 e73, .bool e74, .bool e75] 47) = W7 at hxr hxo hxa hxi hye HS2 hBw ⊢
          generalize w7.heap.size = g7 at hye ⊢
          refine (entry_any _ rs o.fu it.id _ HS2.out).mono ?_
          rintro e w8 ⟨r8, hE8, rfl, hb8⟩
          replace hxr := hxr.keep hb8 hxr.lt
          replace hxo := hxo.keep hb8 hxo.lt
          replace hxa := hxa.keep hb8 hxa.lt
          replace hxi := hxi.keep hb8 hxi.lt
          replace hye := hye.keep hb8 hye.lt
          replace HS2 := Lib.hid ((HS2.out.below hb8).mono hb8.size)
          replace hBw := hBw.trans (hb8.mono hBw.size)
          clear hb8
          have HE8 := Lib.hid hE8
          clear hE8
          obtain ⟨e81, e82, e83, e84, e85, hev, hea⟩ : ∃ (a b : ByteArray) (c : Int) (d e : Bool), etV r8 = enV a b c d e ∧ (match r8 with | none => a = ⟨#[]⟩ ∧ b = ⟨#[]⟩ ∧ c = 0 ∧ d = false ∧ e = false | some f => f = (⟨⟨a, b, c⟩, d, e⟩ : En)) := by cases r8 with | none => exact ⟨_, _, _, _, _, rfl, rfl, rfl, rfl, rfl, rfl⟩ | some y => exact ⟨_, _, _, _, _, rfl, rfl⟩
          rw [hev]
          have HEA8 := Lib.hid hea
          clear hev hea
          have hyf := Box.new w8 #[.string e81, .string e82, .int .i64 e83, .bool e84, .bool e85] 47
          have hba : Below w8.heap.size w8 (w8.alloc (.cells #[.string e81, .string e82, .int .i64 e83, .bool e84, .bool e85] 47)) := (Below.refl _ _).alloc (Nat.le_refl _) _
          replace hxr := hxr.keep hba hxr.lt
          replace hxo := hxo.keep hba hxo.lt
          replace hxa := hxa.keep hba hxa.lt
          replace hxi := hxi.keep hba hxi.lt
          replace hye := hye.keep hba hye.lt
          replace HS2 := Lib.hid ((HS2.out.below hba).mono hba.size)
          replace hBw := hBw.trans (hba.mono hBw.size)
          clear hba
          have hP8 := HQ1.out it HMI.out r7 r8 HE7.out HE8.out
          have HPW : Hid (FtW v1 ss rs o ra a2 (some ⟨b, off, none⟩) rc c2 xc g2 (w8.alloc (.cells #[.string e81, .string e82, .int .i64 e83, .bool e84, .bool e85] 47))) := Lib.hid ⟨hxr, hxo, hxa, HS2.out, hBw⟩
          have hea8 := HEA8.out
          have hea7 := HEA7.out
          cases r8 with
          | none =>
            have hm12 : m0 = 12 := hP8.1 rfl
            have hm12b : decide ((m0 : Int) < 12) = false := decide_eq_false (by omega)
            clear hP8 hm12 hea7 hea8 HE7 HE8 HEA7 HEA8 hxr hxa hBw HS2
            go_wp2
            go_roundw
            case rel => exact ⟨p + 1, by omega, by go_num, HPW⟩
            case measure => simp [intOf]; omega
          | some f =>
            obtain ⟨hfi, hfo⟩ := hP8.2 f rfl
            dsimp only at hea8
            subst hea8
            dsimp only at hfi hfo
            have hfi1 : e81 = it.id := by rw [← hfi]
            have hfi2 : e82 = it.ti := by rw [← hfi]
            have hfi3 : e83 = it.da := by rw [← hfi]
            subst hfi1 hfi2 hfi3
            cases r7 with
            | none =>
              obtain ⟨rfl, rfl, rfl, rfl, rfl⟩ := hea7
              clear hP8 hfo hfi HE7 HE8 HEA7 HEA8 hxr hxa hBw HS2
              cases e84 <;> cases e85
              all_goals
                have xi0 := hxi.cell 0 _ rfl
                have xi1 := hxi.cell 1 _ rfl
                have xi2 := hxi.cell 2 _ rfl
                have xe0 := hye.cell 0 _ rfl
                have xf0 := hyf.cell 0 _ rfl
                have xe1 := hye.cell 1 _ rfl
                have xf1 := hyf.cell 1 _ rfl
                have xe2 := hye.cell 2 _ rfl
                have xf2 := hyf.cell 2 _ rfl
                have xe3 := hye.cell 3 _ rfl
                have xf3 := hyf.cell 3 _ rfl
                have xe4 := hye.cell 4 _ rfl
                have xf4 := hyf.cell 4 _ rfl
                go_wp2
                go_roundw
                case rel => exact ⟨p + 1, by omega, by go_num, HPW⟩
                case measure => simp [intOf]; omega
            | some e =>
              dsimp only at hea7
              obtain ⟨h5, h6⟩ := hfo e rfl
              subst hea7
              dsimp only at h5 h6
              subst h5 h6
              clear hP8 hfo hfi HE7 HE8 HEA7 HEA8 hxr hxa hBw HS2
              have xi0 := hxi.cell 0 _ rfl
              have xi1 := hxi.cell 1 _ rfl
              have xi2 := hxi.cell 2 _ rfl
              have xe0 := hye.cell 0 _ rfl
              have xf0 := hyf.cell 0 _ rfl
              have xe1 := hye.cell 1 _ rfl
              have xf1 := hyf.cell 1 _ rfl
              have xe2 := hye.cell 2 _ rfl
              have xf2 := hyf.cell 2 _ rfl
              have xe3 := hye.cell 3 _ rfl
              have xf3 := hyf.cell 3 _ rfl
              have xe4 := hye.cell 4 _ rfl
              have xf4 := hyf.cell 4 _ rfl
              go_wp2
              go_roundw
              case rel => exact ⟨p + 1, by omega, by go_num, HPW⟩
              case measure => simp [intOf]; omega
        have hkl : decide ((p : Int) < (o.its.length : Int)) = false := decide_eq_false (by omega)
        clear hxo
        go_wp2
        clear ko4 ko6 hkl
        generalize wr = wy at HPW ⊢
        go_loopw [18] (fun i wr => ∃ p : Nat, p ≤ ss.length ∧ i = .int .i64 (p : Int) ∧ Hid (FtW v1 ss rs o ra a2 xa rc c2 xc g2 wr)) (fun i _ => ss.length - (intOf i).toNat)
        case atStart => exact ⟨0, Nat.zero_le _, rfl, HPW⟩
        case round =>
          clear HPW hp hlt
          obtain ⟨p, hp, rfl, HPW⟩ := hrel
          have hxr := HPW.out.1
          have kr := hxr.cell 0 _ rfl
          by_cases hlt : p < ss.length
          case neg =>
            have hkl : decide ((p : Int) < (ss.length : Int)) = false := decide_eq_false (by omega)
            go_wp2
            go_ret
            exact ⟨rfl, HBw0.out.trans (HPW.out.2.2.2.2.mono HBw0.out.size)⟩
          have hkl : decide ((p : Int) < (ss.length : Int)) = true := decide_eq_true (by omega)
          have hkl2 : (p : Int) < (ss.length : Int) := by omega
          have hk0 : (0 : Int) ≤ (p : Int) := by omega
          obtain ⟨sb, hsb⟩ : ∃ sb, sb = ss[p] := ⟨_, rfl⟩
          have HMS : Hid (sb ∈ ss) := Lib.hid (by rw [hsb]; exact List.getElem_mem hlt)
          have HC : Hid (∀ W, Below v1.heap.size v1 W → ∃ b off ea ec, ra = some ⟨b, off, none⟩ ∧ b < W.heap.size ∧ W.cell? ⟨b, off + p * 3, none⟩ = some (.string sb.u) ∧ W.cell? ⟨b, off + p * 3 + 2, none⟩ = some (.slice ea sb.es.length ec) ∧ EnAt W W.heap.size (.slice ea sb.es.length ec) sb.es) := Lib.hid (fun W hW => by
              obtain ⟨a1, cap1, hv, _, _, hc⟩ := (HSs.out W hW).raw
              cases hv
              obtain ⟨b, off, rfl, hb, hr⟩ := hc p hlt
              obtain ⟨x, c0, _, c2, hx, _⟩ := hr p hlt
              rw [← hsb] at c0 hx
              obtain ⟨ya, yc, rfl, _⟩ := hx.1
              exact ⟨b, off, ya, yc, rfl, hb, c0, c2, hx⟩)
          clear hsb
          go_wp2
          go_loopw [19] (fun j wq => ∃ q : Nat, q ≤ sb.es.length ∧ j = .int .i64 (q : Int) ∧ Hid (FtW v1 ss rs o ra a2 xa rc c2 xc g2 wq)) (fun j _ => sb.es.length - (intOf j).toNat)
          case atStart => exact ⟨0, Nat.zero_le _, rfl, HPW⟩
          case round =>
            clear HPW hxr kr
            obtain ⟨q, hq, rfl, HPW⟩ := hrel
            have hxr := HPW.out.1
            have kr := hxr.cell 0 _ rfl
            obtain ⟨b, off, ea, ec, rfl, hb, k0, k2, hx⟩ := HC.out wr HPW.out.2.2.2.2
            obtain ⟨a3, cap3, hv, hxl, hxm, hc⟩ := hx.raw
            cases hv
            unfold maxLen at hxm
            by_cases hql : q < sb.es.length
            case neg =>
              have hjd : decide ((q : Int) < (sb.es.length : Int)) = false := decide_eq_false (by omega)
              go_wp2
              go_roundw
              case rel => exact ⟨p + 1, by omega, by go_num, HPW⟩
              case measure => simp [intOf]; omega
            obtain ⟨b3, off3, rfl, hb3, hr⟩ := hc q hql
            obtain ⟨d0, d1, d2, d3, d4, _⟩ := hr q hql
            obtain ⟨en, hen⟩ : ∃ en, en = sb.es[q] := ⟨_, rfl⟩
            rw [← hen] at d0 d1 d2 d3 d4
            have HM2 : Hid (en ∈ sb.es) := Lib.hid (by rw [hen]; exact List.getElem_mem hql)
            have hjd : decide ((q : Int) < (sb.es.length : Int)) = true := decide_eq_true (by omega)
            have hjd2 : (q : Int) < (sb.es.length : Int) := by omega
            have hj0 : (0 : Int) ≤ (q : Int) := by omega
            clear hr hc hen hx
            have hy := Box.new wr #[.string en.it.id, .string en.it.ti, .int .i64 en.it.da, .bool en.rd, .bool en.st] 47
            have hba : Below wr.heap.size wr (wr.alloc (.cells #[.string en.it.id, .string en.it.ti, .int .i64 en.it.da, .bool en.rd, .bool en.st] 47)) := (Below.refl _ _).alloc (Nat.le_refl _) _
            have HPW2 := Lib.hid (HPW.out.below hba)
            have c0b : (wr.alloc (.cells #[.string en.it.id, .string en.it.ti, .int .i64 en.it.da, .bool en.rd, .bool en.st] 47)).cell? ⟨b, off + p * 3, none⟩ = some (.string sb.u) := (hba.cell (p := ⟨b, off + p * 3, none⟩) hb).trans k0
            have HBL : b < wr.heap.size := hb
            go_upto_region 24 with fail
            generalize wr.alloc (.cells #[.string en.it.id, .string en.it.ti, .int .i64 en.it.da, .bool en.rd, .bool en.st] 47) = WA at hy HPW2 c0b ⊢
            generalize wr.heap.size = gy at hy HBL ⊢
            go_cut [21, 22] from 173 to 186 (fun s13 s14 wx => ∃ (r : Option En) (gf : Nat), s13 = .pointer (some ⟨gf, 0, none⟩) ∧ s14 = .bool r.isSome ∧ EtR rs sb.u en.it.id r ∧ Box wx gf (etB r) 47 ∧ Below WA.heap.size WA wx)
            case first =>
              have hg2 := HPW2.out.2.2.1
              have hr2 := HPW2.out.1
              have HS := Lib.hid HPW2.out.2.2.2.1
              have hgl : b < WA.heap.size := by have := HPW2.out.2.2.2.2.size; have h2 := hy.lt; have h3 := HBL; omega
              clear HPW2
              refine wp_region_T (fun w => Box w g2 #[.slice a2 rs.length c2] 26 ∧ Box w v1.heap.size #[.slice (some ⟨b, off, none⟩) ss.length rc] 26 ∧ w.cell? ⟨b, off + p * 3, none⟩ = some (.string sb.u) ∧ Box w gy #[.string en.it.id, .string en.it.ti, .int .i64 en.it.da, .bool en.rd, .bool en.st] 47) (fun _ => True) 16 (by kernel_rfl) 17 rfl ?_
              have hI0 : (fun w => Box w g2 #[.slice a2 rs.length c2] 26 ∧ Box w v1.heap.size #[.slice (some ⟨b, off, none⟩) ss.length rc] 26 ∧ w.cell? ⟨b, off + p * 3, none⟩ = some (.string sb.u) ∧ Box w gy #[.string en.it.id, .string en.it.ti, .int .i64 en.it.da, .bool en.rd, .bool en.st] 47) WA.drew := ⟨hg2.drew, hr2.drew, c0b, hy.drew⟩
              have HKI : Hid (∀ w1 w2 : World, WA.heap.size ≤ w1.heap.size → Below w1.heap.size w1 w2 → (fun w => Box w g2 #[.slice a2 rs.length c2] 26 ∧ Box w v1.heap.size #[.slice (some ⟨b, off, none⟩) ss.length rc] 26 ∧ w.cell? ⟨b, off + p * 3, none⟩ = some (.string sb.u) ∧ Box w gy #[.string en.it.id, .string en.it.ti, .int .i64 en.it.da, .bool en.rd, .bool en.st] 47) w1 → (fun w => Box w g2 #[.slice a2 rs.length c2] 26 ∧ Box w v1.heap.size #[.slice (some ⟨b, off, none⟩) ss.length rc] 26 ∧ w.cell? ⟨b, off + p * 3, none⟩ = some (.string sb.u) ∧ Box w gy #[.string en.it.id, .string en.it.ti, .int .i64 en.it.da, .bool en.rd, .bool en.st] 47) w2) := Lib.hid (fun w1 w2 hs hb1 h => ⟨h.1.keep hb1 h.1.lt, h.2.1.keep hb1 h.2.1.lt, (hb1.cell (p := ⟨b, off + p * 3, none⟩) (show b < w1.heap.size by omega)).trans h.2.2.1, h.2.2.2.keep hb1 h.2.2.2.lt⟩)
              have HKS : Hid (∀ (w1 : World) (g k : Nat) (z : Value), g2 ≠ g → v1.heap.size ≠ g → b ≠ g → gy ≠ g → (fun w => Box w g2 #[.slice a2 rs.length c2] 26 ∧ Box w v1.heap.size #[.slice (some ⟨b, off, none⟩) ss.length rc] 26 ∧ w.cell? ⟨b, off + p * 3, none⟩ = some (.string sb.u) ∧ Box w gy #[.string en.it.id, .string en.it.ti, .int .i64 en.it.da, .bool en.rd, .bool en.st] 47) w1 → (fun w => Box w g2 #[.slice a2 rs.length c2] 26 ∧ Box w v1.heap.size #[.slice (some ⟨b, off, none⟩) ss.length rc] 26 ∧ w.cell? ⟨b, off + p * 3, none⟩ = some (.string sb.u) ∧ Box w gy #[.string en.it.id, .string en.it.ti, .int .i64 en.it.da, .bool en.rd, .bool en.st] 47) (w1.setCell ⟨g, k, none⟩ z)) := Lib.hid (fun w1 g k z n1 n2 n3 n4 h => ⟨h.1.other ⟨g, k, none⟩ z n1, h.2.1.other ⟨g, k, none⟩ z n2, by rw [World.cell?_setCell_other _ _ _ _ (show (⟨g, k, none⟩ : Addr) ≠ ⟨b, off + p * 3, none⟩ from fun e => n3 (congrArg Addr.block e).symm)]; exact h.2.2.1, h.2.2.2.other ⟨g, k, none⟩ z n4⟩)
              have hlg2 := hg2.lt
              have hlr := hr2.lt
              have hly := hy.lt
              have hBd : Below WA.heap.size WA WA.drew := (Below.refl _ _).drew
              have HS1 : Hid (∀ W, Below WA.heap.size WA W → SbAt W W.heap.size (.slice a2 rs.length c2) rs) := Lib.hid (fun W hW => (HS.out.below hW).mono hW.size)
              clear hg2 hr2 HS hy c0b
              have hs0 : WA.heap.size ≤ WA.drew.heap.size := Nat.le_refl _
              generalize WA.drew = WD at hI0 hBd hs0 ⊢
              refine wpAnyT_takesA (md := .any) 7 (by kernel_rfl) (by intro d v c a w h; cases d <;> exact h) [0, 1, 2, 3, 4, 5, 6, 7, 8, 9] _ _ _ (by decide) (by kernel_rfl) ⟨hI0, fun _ => trivial⟩ ?_
              simp only [pick, List.filterMap_cons, List.filterMap_nil, List.getElem?_cons_zero, List.getElem?_cons_succ]
              refine wpIf_step (.agg #[.slice a2 rs.length c2]) (by kernel_rfl) (fun w hw => by have e0 := hw.1.cell 0 _ rfl; go_simp) ?_
              refine wpIf_step (.pointer (some ⟨v1.heap.size, 0, none⟩)) (by kernel_rfl) (fun w hw => by go_simp) ?_
              refine wpIf_step (.slice (some ⟨b, off, none⟩) ss.length rc) (by kernel_rfl) (fun w hw => by have e0 := hw.2.1.cell 0 _ rfl; go_simp) ?_
              refine wpIf_step (.int .i64 (p : Int)) (by kernel_rfl) (fun w hw => by go_simp) ?_
              refine wpIf_step (.pointer (some ⟨b, off + p * 3, none⟩)) (by kernel_rfl) (fun w hw => by go_simp) ?_
              refine wpIf_step (.pointer (some ⟨b, off + p * 3, none⟩)) (by kernel_rfl) (fun w hw => by go_simp) ?_
              refine wpIf_step (.string sb.u) (by kernel_rfl) (fun w hw => by have e0 := hw.2.2.1; go_simp) ?_
              refine wpIf_step (.pointer (some ⟨gy, 0, none⟩)) (by kernel_rfl) (fun w hw => by go_simp) ?_
              refine wpIf_step (.pointer (some ⟨gy, 0, none⟩)) (by kernel_rfl) (fun w hw => by go_simp) ?_
              refine wpIf_step (.string en.it.id) (by kernel_rfl) (fun w hw => by have e0 := hw.2.2.2.cell 0 _ rfl; go_simp) ?_
              refine wpIf_nil (fun hS9 => ?_)
              clear hS9
              refine wpAnyT_pair 10 14 6 (by kernel_rfl) rfl rfl (by kernel_rfl) (by kernel_rfl) (fun K hK => ?_) (fun K hK => ?_)
              ·
                go_simp
                refine (entry_any _ rs sb.u en.it.id _ (HS1.out _ hBd)).mono ?_
                rintro e w5 ⟨r, hEt, rfl, hb5⟩
                obtain ⟨e1, e2, e3, e4, e5, hev, hea⟩ : ∃ (a b : ByteArray) (c : Int) (d e : Bool), etV r = enV a b c d e ∧ etB r = #[.string a, .string b, .int .i64 c, .bool d, .bool e] := by cases r with | none => exact ⟨_, _, _, _, _, rfl, rfl⟩ | some y => exact ⟨_, _, _, _, _, rfl, rfl⟩
                rw [hev]
                have HEA := Lib.hid hea
                have HET2 := Lib.hid hEt
                clear hev hea hEt
                have hI1 := HKI.out _ _ hs0 hb5 hI0
                have hB1 := hBd.trans (hb5.mono hs0)
                have hs1 : WA.heap.size ≤ w5.heap.size := hB1.size
                refine hK _ _ ⟨hI1, fun _ => trivial⟩ (fun hS9 => ?_)
                clear hK K hS9 hb5 hI0 hBd hs0
                refine wpAnyT_takesA (md := .any) 3 (by kernel_rfl) (by intro d v c a w h; cases d <;> exact h) [11, 12, 13] _ _ _ (by decide) (by kernel_rfl) ⟨hI1, fun _ => trivial⟩ ?_
                simp only [pick, List.filterMap_cons, List.filterMap_nil, List.getElem?_cons_zero, List.getElem?_cons_succ]
                refine wpIf_step (.tuple #[enV e1 e2 e3 e4 e5, .bool r.isSome]) (by kernel_rfl) (fun w hw => by go_simp) ?_
                refine wpIf_step (enV e1 e2 e3 e4 e5) (by kernel_rfl) (fun w hw => by go_simp) ?_
                refine wpIf_step (.bool r.isSome) (by kernel_rfl) (fun w hw => by go_simp) ?_
                refine wpIf_nil (fun hS9 => ?_)
                clear hS9
                refine wpAnyT_one 14 2 (by kernel_rfl) rfl (by kernel_rfl) (fun K hK => ?_)
                go_simp
                have hz := Box.new w5 #[.string ⟨#[]⟩, .string ⟨#[]⟩, .int .i64 0, .bool false, .bool false] 47
                have hba : Below w5.heap.size w5 (w5.alloc (.cells #[.string ⟨#[]⟩, .string ⟨#[]⟩, .int .i64 0, .bool false, .bool false] 47)) := (Below.refl _ _).alloc (Nat.le_refl _) _
                have hg6 : WA.heap.size ≤ w5.heap.size := hs1
                replace hI1 := HKI.out _ _ hs1 hba hI1
                replace hB1 := hB1.trans (hba.mono hs1)
                refine hK _ _ ⟨hI1, fun _ => trivial⟩ (fun hS9 => ?_)
                clear hK K hS9 hba hs1
                generalize w5.alloc (.cells #[.string ⟨#[]⟩, .string ⟨#[]⟩, .int .i64 0, .bool false, .bool false] 47) = W5 at hI1 hB1 hz ⊢
                generalize w5.heap.size = g6 at hz hg6 ⊢
                have z0 : W5.cell? ⟨g6, 0, none⟩ = some (.string ⟨#[]⟩) := hz.cell 0 _ rfl
                have f0 := hz.free 0
                have z1 : W5.cell? ⟨g6, 1, none⟩ = some (.string ⟨#[]⟩) := hz.cell 1 _ rfl
                have f1 := hz.free 1
                have z2 : W5.cell? ⟨g6, 2, none⟩ = some (.int .i64 0) := hz.cell 2 _ rfl
                have f2 := hz.free 2
                have z3 : W5.cell? ⟨g6, 3, none⟩ = some (.bool false) := hz.cell 3 _ rfl
                have f3 := hz.free 3
                have z4 : W5.cell? ⟨g6, 4, none⟩ = some (.bool false) := hz.cell 4 _ rfl
                have f4 := hz.free 4
                refine wpAnyT_one 15 1 (by kernel_rfl) rfl (by kernel_rfl) (fun K hK => ?_)
                go_simp
                have hI2 := (HKS.out _ g6 4 (.bool e5) (by omega) (by omega) (by omega) (by omega) (HKS.out _ g6 3 (.bool e4) (by omega) (by omega) (by omega) (by omega) (HKS.out _ g6 2 (.int .i64 e3) (by omega) (by omega) (by omega) (by omega) (HKS.out _ g6 1 (.string e2) (by omega) (by omega) (by omega) (by omega) (HKS.out _ g6 0 (.string e1) (by omega) (by omega) (by omega) (by omega) hI1)))))
                have hz2 := (((((hz.set 0 (.string e1)).set 1 (.string e2)).set 2 (.int .i64 e3)).set 3 (.bool e4)).set 4 (.bool e5))
                have hB2 := (((((hB1.setCell (p := ⟨g6, 0, none⟩) (show WA.heap.size ≤ g6 by omega) (.string e1)).setCell (p := ⟨g6, 1, none⟩) (show WA.heap.size ≤ g6 by omega) (.string e2)).setCell (p := ⟨g6, 2, none⟩) (show WA.heap.size ≤ g6 by omega) (.int .i64 e3)).setCell (p := ⟨g6, 3, none⟩) (show WA.heap.size ≤ g6 by omega) (.bool e4)).setCell (p := ⟨g6, 4, none⟩) (show WA.heap.size ≤ g6 by omega) (.bool e5))
                change Box _ g6 #[.string e1, .string e2, .int .i64 e3, .bool e4, .bool e5] _ at hz2
                generalize (((((W5.setCell ⟨g6, 0, none⟩ (.string e1)).setCell ⟨g6, 1, none⟩ (.string e2)).setCell ⟨g6, 2, none⟩ (.int .i64 e3)).setCell ⟨g6, 3, none⟩ (.bool e4)).setCell ⟨g6, 4, none⟩ (.bool e5)) = W6 at hI2 hz2 hB2 ⊢
                refine hK _ _ ⟨hI2, fun _ => trivial⟩ (fun hS9 => ?_)
                clear hK K hS9 hI1 hz hB1 z0 z1 z2 z3 z4 f0 f1 f2 f3 f4
                refine wpAnyT_one 16 0 (by kernel_rfl) rfl (by kernel_rfl) (fun K hK => ?_)
                go_simp
                refine hK _ _ ⟨hI2, fun _ => trivial⟩ (fun hS9 => ?_)
                clear hK K hS9
                refine wpAnyT_over (by kernel_rfl) ?_
                go_wp2_with fail
                go_meet
                exact ⟨r, g6, rfl, rfl, HET2.out, by rw [HEA.out]; exact hz2, hB2⟩
              ·
                go_simp
                have hz := Box.new WD #[.string ⟨#[]⟩, .string ⟨#[]⟩, .int .i64 0, .bool false, .bool false] 47
                have hba : Below WD.heap.size WD (WD.alloc (.cells #[.string ⟨#[]⟩, .string ⟨#[]⟩, .int .i64 0, .bool false, .bool false] 47)) := (Below.refl _ _).alloc (Nat.le_refl _) _
                have hI1 := HKI.out _ _ hs0 hba hI0
                have hB1 := hBd.trans (hba.mono hs0)
                have hg6 : WA.heap.size ≤ WD.heap.size := hs0
                refine hK _ _ ⟨hI1, fun _ => trivial⟩ (fun hS9 => ?_)
                clear hK K hS9 hba hI0 hBd
                generalize WD.alloc (.cells #[.string ⟨#[]⟩, .string ⟨#[]⟩, .int .i64 0, .bool false, .bool false] 47) = W5 at hI1 hB1 hz ⊢
                generalize WD.heap.size = g6 at hz hg6 ⊢
                refine wpAnyT_one 10 5 (by kernel_rfl) rfl (by kernel_rfl) (fun K hK => ?_)
                go_simp
                refine (entry_any _ rs sb.u en.it.id _ (HS1.out _ hB1)).mono ?_
                rintro e w5 ⟨r, hEt, rfl, hb5⟩
                obtain ⟨e1, e2, e3, e4, e5, hev, hea⟩ : ∃ (a b : ByteArray) (c : Int) (d e : Bool), etV r = enV a b c d e ∧ etB r = #[.string a, .string b, .int .i64 c, .bool d, .bool e] := by cases r with | none => exact ⟨_, _, _, _, _, rfl, rfl⟩ | some y => exact ⟨_, _, _, _, _, rfl, rfl⟩
                rw [hev]
                have HEA := Lib.hid hea
                have HET2 := Lib.hid hEt
                clear hev hea hEt
                replace hI1 := HKI.out _ _ hB1.size hb5 hI1
                have hgl6 := hz.lt
                replace hz := hz.keep hb5 hz.lt
                replace hB1 := hB1.trans (hb5.mono hB1.size)
                refine hK _ _ ⟨hI1, fun _ => trivial⟩ (fun hS9 => ?_)
                clear hK K hS9 hb5
                refine wpAnyT_takesA (md := .any) 2 (by kernel_rfl) (by intro d v c a w h; cases d <;> exact h) [11, 12, 13] _ _ _ (by decide) (by kernel_rfl) ⟨hI1, fun _ => trivial⟩ ?_
                simp only [pick, List.filterMap_cons, List.filterMap_nil, List.getElem?_cons_zero, List.getElem?_cons_succ]
                refine wpIf_step (.tuple #[enV e1 e2 e3 e4 e5, .bool r.isSome]) (by kernel_rfl) (fun w hw => by go_simp) ?_
                refine wpIf_step (enV e1 e2 e3 e4 e5) (by kernel_rfl) (fun w hw => by go_simp) ?_
                refine wpIf_step (.bool r.isSome) (by kernel_rfl) (fun w hw => by go_simp) ?_
                refine wpIf_nil (fun hS9 => ?_)
                clear hS9
                have z0 : w5.cell? ⟨g6, 0, none⟩ = some (.string ⟨#[]⟩) := hz.cell 0 _ rfl
                have f0 := hz.free 0
                have z1 : w5.cell? ⟨g6, 1, none⟩ = some (.string ⟨#[]⟩) := hz.cell 1 _ rfl
                have f1 := hz.free 1
                have z2 : w5.cell? ⟨g6, 2, none⟩ = some (.int .i64 0) := hz.cell 2 _ rfl
                have f2 := hz.free 2
                have z3 : w5.cell? ⟨g6, 3, none⟩ = some (.bool false) := hz.cell 3 _ rfl
                have f3 := hz.free 3
                have z4 : w5.cell? ⟨g6, 4, none⟩ = some (.bool false) := hz.cell 4 _ rfl
                have f4 := hz.free 4
                refine wpAnyT_one 15 1 (by kernel_rfl) rfl (by kernel_rfl) (fun K hK => ?_)
                go_simp
                have hI2 := (HKS.out _ g6 4 (.bool e5) (by omega) (by omega) (by omega) (by omega) (HKS.out _ g6 3 (.bool e4) (by omega) (by omega) (by omega) (by omega) (HKS.out _ g6 2 (.int .i64 e3) (by omega) (by omega) (by omega) (by omega) (HKS.out _ g6 1 (.string e2) (by omega) (by omega) (by omega) (by omega) (HKS.out _ g6 0 (.string e1) (by omega) (by omega) (by omega) (by omega) hI1)))))
                have hz2 := (((((hz.set 0 (.string e1)).set 1 (.string e2)).set 2 (.int .i64 e3)).set 3 (.bool e4)).set 4 (.bool e5))
                have hB2 := (((((hB1.setCell (p := ⟨g6, 0, none⟩) (show WA.heap.size ≤ g6 by omega) (.string e1)).setCell (p := ⟨g6, 1, none⟩) (show WA.heap.size ≤ g6 by omega) (.string e2)).setCell (p := ⟨g6, 2, none⟩) (show WA.heap.size ≤ g6 by omega) (.int .i64 e3)).setCell (p := ⟨g6, 3, none⟩) (show WA.heap.size ≤ g6 by omega) (.bool e4)).setCell (p := ⟨g6, 4, none⟩) (show WA.heap.size ≤ g6 by omega) (.bool e5))
                change Box _ g6 #[.string e1, .string e2, .int .i64 e3, .bool e4, .bool e5] _ at hz2
                generalize (((((w5.setCell ⟨g6, 0, none⟩ (.string e1)).setCell ⟨g6, 1, none⟩ (.string e2)).setCell ⟨g6, 2, none⟩ (.int .i64 e3)).setCell ⟨g6, 3, none⟩ (.bool e4)).setCell ⟨g6, 4, none⟩ (.bool e5)) = W6 at hI2 hz2 hB2 ⊢
                refine hK _ _ ⟨hI2, fun _ => trivial⟩ (fun hS9 => ?_)
                clear hK K hS9 hI1 hz hB1 z0 z1 z2 z3 z4 f0 f1 f2 f3 f4
                refine wpAnyT_one 16 0 (by kernel_rfl) rfl (by kernel_rfl) (fun K hK => ?_)
                go_simp
                refine hK _ _ ⟨hI2, fun _ => trivial⟩ (fun hS9 => ?_)
                clear hK K hS9
                refine wpAnyT_over (by kernel_rfl) ?_
                go_wp2_with fail
                go_meet
                exact ⟨r, g6, rfl, rfl, HET2.out, by rw [HEA.out]; exact hz2, hB2⟩
            case rest =>
              obtain ⟨r, gf, rfl, rfl, hEt, hf, hbx⟩ := hcut
              have HPW3 := Lib.hid (HPW2.out.below hbx)
              have hy3 := hy.keep hbx hy.lt
              have HQ := Lib.hid (HQ2.out sb HMS.out en HM2.out)
              clear HPW2 hbx hy hf
              obtain ⟨⟨eid, eti, eda⟩, erd, est⟩ := en
              dsimp only at hy3
              have y4 : wc.cell? ⟨gy, 4, none⟩ = some (.bool est) := hy3.cell 4 _ rfl
              cases r with
              | some f =>
                clear HQ hEt hy3
                go_wp2
                go_roundw
                case rel => exact ⟨q + 1, by omega, by go_num, HPW3⟩
                case measure => simp [intOf]; omega
              | none =>
                obtain ⟨hm1, hm2⟩ := HQ.out hEt
                have hm12b : decide ((m0 : Int) < 12) = false := decide_eq_false (by omega)
                cases est with
                | false =>
                  clear HQ hEt hy3 hm1 hm2
                  go_wp2
                  go_roundw
                  case rel => exact ⟨q + 1, by omega, by go_num, HPW3⟩
                  case measure => simp [intOf]; omega
                | true =>
                  have hm3 := hm2 rfl
                  try dsimp only at hm3
                  have hdp : decide (m2 < m0) = false := decide_eq_false (by omega)
                  clear HQ hEt hy3 hm1 hm2 hm3
                  have hxa := HPW3.out.2.2.1
                  have hxo := HPW3.out.2.1
                  have ka := hxa.cell 0 _ rfl
                  have ko := hxo.cell 4 _ rfl
                  have hpl := plain_any _ rs o.fu m0 m1 m2 wc HPW3.out.2.2.2.1 HM.out
                  rw [hdp] at hpl
                  clear hxa hxo
                  go_wp2_with fail
                  refine hpl.mono ?_
                  rintro e w9 ⟨rfl, hb9⟩
                  have HPW4 := Lib.hid (HPW3.out.below hb9)
                  clear hb9 hpl ka ko
                  go_wp2
                  go_roundw
                  case rel => exact ⟨q + 1, by omega, by go_num, HPW4⟩
                  case measure => simp [intOf]; omega
end Go.Proofs.Ytffkakpbelknaaa

/- Joined: W9ent, V9s. -/
import Derived.Test.YtffkakpbelknaaaH50
import Derived.Test.YtffkakpbelknaaaH24
import Derived.Test.YtffkakpbelknaaaH52
/- W9ent -/
namespace Go.Proofs.Ytffkakpbelknaaa
open Go.ChangeShapes Go.WideShapes Go.ChangeAt Go.RowKit
set_option linter.unusedVariables false

def etV : Option En → Value
  | none => enV ⟨#[]⟩ ⟨#[]⟩ 0 false false
  | some e => enV e.it.id e.it.ti e.it.da e.rd e.st
abbrev en0A : Array Value := #[.string ⟨#[]⟩, .string ⟨#[]⟩, .int .i64 0, .bool false, .bool false]
theorem take_next {α : Type} {P : α → Prop} {l : List α} {k : Nat} (hk : k < l.length) (h : ∀ x ∈ l.take k, P x) (hx : P l[k]) : ∀ x ∈ l.take (k + 1), P x := by
  intro x hx2
  rw [List.take_succ_eq_append_getElem hk] at hx2
  rcases List.mem_append.1 hx2 with h1 | h1
  · exact h x h1
  · rw [List.mem_singleton.1 h1]; exact hx
theorem takeAll9 {α : Type} {P : α → Prop} {l : List α} {k : Nat} (hk : ¬ k < l.length) (h : ∀ x ∈ l.take k, P x) : ∀ x ∈ l, P x := by
  rw [List.take_of_length_le (by omega)] at h
  exact h

set_option maxRecDepth 100000 in
set_option maxHeartbeats 3000000 in
theorem entry_any (v : Value) (ss : List Sb) (U I : ByteArray) (w : World) (h : SbAt w w.heap.size v ss) :
    Calls Try.prog 25 #[.agg #[v], .string U, .string I] w fun e w' => ∃ r : Option En, EtR ss U I r ∧ e = .returned (.tuple #[etV r, .bool r.isSome]) ∧ Below w.heap.size w w' := by
  have HI := Lib.hid h
  obtain ⟨a, cap, rfl, hl, hm, hc⟩ := h.raw
  unfold maxLen at hm
  clear hc h
  obtain ⟨W0, hW0⟩ : ∃ W0, W0 = (w.alloc (.cells #[.slice a ss.length cap] 26)).alloc (.cells en0A 47) := ⟨_, rfl⟩
  have hb0 : Below w.heap.size w W0 := by rw [hW0]; exact ((Below.refl _ _).alloc (Nat.le_refl _) _).alloc (by simp) _
  have hx0 : Box W0 w.heap.size #[.slice a ss.length cap] 26 := by rw [hW0]; exact (Box.new w #[.slice a ss.length cap] 26).alloc _
  have hy0 : Box W0 (w.heap.size + 1) en0A 47 := by
    rw [hW0]
    have := Box.new (w.alloc (.cells #[.slice a ss.length cap] 26)) en0A 47
    simpa using this
  have p0 := hx0.cell 0 _ rfl
  have z0 : W0.cell? ⟨w.heap.size + 1, 0, none⟩ = some (.string ⟨#[]⟩) := hy0.cell 0 _ rfl
  have z1 : W0.cell? ⟨w.heap.size + 1, 1, none⟩ = some (.string ⟨#[]⟩) := hy0.cell 1 _ rfl
  have z2 : W0.cell? ⟨w.heap.size + 1, 2, none⟩ = some (.int .i64 0) := hy0.cell 2 _ rfl
  have z3 : W0.cell? ⟨w.heap.size + 1, 3, none⟩ = some (.bool false) := hy0.cell 3 _ rfl
  have z4 : W0.cell? ⟨w.heap.size + 1, 4, none⟩ = some (.bool false) := hy0.cell 4 _ rfl
  have f0 := hy0.free 0
  have f1 := hy0.free 1
  have f2 := hy0.free 2
  have f3 := hy0.free 3
  have f4 := hy0.free 4
  go_enter Try.func25, Try.ntmps25
  go_wp2
  rw [← hW0]
  clear hW0
  go_loopw [8] (fun i wr => ∃ p : Nat, p ≤ ss.length ∧ i = .int .i64 (p : Int) ∧ W0 = wr ∧ Hid (∀ s ∈ ss.take p, s.u = U → ∀ e ∈ s.es, e.it.id ≠ I)) (fun i _ => ss.length - (intOf i).toNat)
  case atStart => exact ⟨0, Nat.zero_le _, rfl, rfl, Lib.hid (fun s hs => by simp at hs)⟩
  case round =>
    obtain ⟨p, hp, rfl, rfl, HP⟩ := hrel
    by_cases hlt : p < ss.length
    · obtain ⟨a1, cap1, hv, _, _, hc⟩ := (HI.out.below hb0).raw
      cases hv
      obtain ⟨b, off, rfl, hb, hr⟩ := hc p hlt
      obtain ⟨x, c0, c1, c2, hx, _⟩ := hr p hlt
      have HN := Lib.hid (fun hh => take_next (P := fun s : Sb => s.u = U → ∀ e ∈ s.es, e.it.id ≠ I) hlt HP.out hh)
      have HM := Lib.hid (List.getElem_mem hlt)
      obtain ⟨sb, hsb⟩ : ∃ sb, sb = ss[p] := ⟨_, rfl⟩
      rw [← hsb] at c0 c1 hx HN HM
      obtain ⟨xa, xc, rfl, hxl, hxm, _⟩ := hx.1
      unfold maxLen at hxm
      have hkl : decide ((p : Int) < (ss.length : Int)) = true := decide_eq_true (by omega)
      have hkl2 : (p : Int) < (ss.length : Int) := by omega
      have hk0 : (0 : Int) ≤ (p : Int) := by omega
      have HX := Lib.hid hx
      clear hr hc hx hsb
      by_cases hu : sb.u = U
      · have hU : (sb.u.toList == U.toList) = true := by rw [hu]; simp
        have HU := Lib.hid hu
        clear hu
        go_wp2
        go_loopw [9] (fun j wq => ∃ q : Nat, q ≤ sb.es.length ∧ j = .int .i64 (q : Int) ∧ W0 = wq ∧ Hid (∀ e ∈ sb.es.take q, e.it.id ≠ I)) (fun j _ => sb.es.length - (intOf j).toNat)
        case atStart => exact ⟨0, Nat.zero_le _, rfl, rfl, Lib.hid (fun s hs => by simp at hs)⟩
        case round =>
          obtain ⟨q, hq, rfl, rfl, HQ⟩ := hrel
          by_cases hql : q < sb.es.length
          · obtain ⟨a3, cap3, hv, _, _, hc⟩ := HX.out.raw
            cases hv
            obtain ⟨b3, off3, rfl, hb3, hr⟩ := hc q hql
            obtain ⟨d0, d1, d2, d3, d4, _⟩ := hr q hql
            have HN2 := Lib.hid (fun hh => take_next (P := fun e : En => e.it.id ≠ I) hql HQ.out hh)
            have HM2 := Lib.hid (List.getElem_mem hql)
            obtain ⟨en, hen⟩ : ∃ en, en = sb.es[q] := ⟨_, rfl⟩
            rw [← hen] at d0 d1 d2 d3 d4 HN2 HM2
            have hjd : decide ((q : Int) < (sb.es.length : Int)) = true := decide_eq_true (by omega)
            have hjd2 : (q : Int) < (sb.es.length : Int) := by omega
            have hj0 : (0 : Int) ≤ (q : Int) := by omega
            clear hr hc hen
            by_cases hi : en.it.id = I
            · have hI : (en.it.id.toList == I.toList) = true := by rw [hi]; simp
              have HII := Lib.hid hi
              clear hi
              go_wp2
              have y5 := ((((hy0.set 0 (.string en.it.id)).set 1 (.string en.it.ti)).set 2 (.int .i64 en.it.da)).set 3 (.bool en.rd)).set 4 (.bool en.st)
              change Box _ (w.heap.size + 1) #[.string en.it.id, .string en.it.ti, .int .i64 en.it.da, .bool en.rd, .bool en.st] _ at y5
              have hB5 := ((((hb0.setCell (p := ⟨w.heap.size + 1, 0, none⟩) (by show w.heap.size ≤ w.heap.size + 1; omega) (.string en.it.id)).setCell (p := ⟨w.heap.size + 1, 1, none⟩) (by show w.heap.size ≤ w.heap.size + 1; omega) (.string en.it.ti)).setCell (p := ⟨w.heap.size + 1, 2, none⟩) (by show w.heap.size ≤ w.heap.size + 1; omega) (.int .i64 en.it.da)).setCell (p := ⟨w.heap.size + 1, 3, none⟩) (by show w.heap.size ≤ w.heap.size + 1; omega) (.bool en.rd)).setCell (p := ⟨w.heap.size + 1, 4, none⟩) (by show w.heap.size ≤ w.heap.size + 1; omega) (.bool en.st)
              have e0 := y5.cell 0 _ rfl
              have e1 := y5.cell 1 _ rfl
              have e2 := y5.cell 2 _ rfl
              have e3 := y5.cell 3 _ rfl
              have e4 := y5.cell 4 _ rfl
              exact bodyPost_ret (v := .tuple #[etV (some en), .bool true]) (by simp [results, Try.results25, go_sem, e0, e1, e2, e3, e4, etV]) rfl ⟨some en, ⟨sb, HM.out, HU.out, HM2.out, HII.out⟩, rfl, hB5⟩
            · have hI : (en.it.id.toList == I.toList) = false := by rw [str_eq]; exact decide_eq_false hi
              have HN3 := Lib.hid (HN2.out hi)
              clear hi
              go_wp2
              go_roundw
              case rel => exact ⟨q + 1, by omega, by go_num, by trivial, HN3⟩
              case measure => simp [intOf]; omega
          · have hjd : decide ((q : Int) < (sb.es.length : Int)) = false := decide_eq_false (by omega)
            have HN3 := Lib.hid (HN.out (fun _ => takeAll9 (P := fun e : En => e.it.id ≠ I) hql HQ.out))
            go_wp2
            go_roundw
            case rel => exact ⟨p + 1, by omega, by go_num, by trivial, HN3⟩
            case measure => simp [intOf]; omega
      · have hU : (sb.u.toList == U.toList) = false := by rw [str_eq]; exact decide_eq_false hu
        have HN3 := Lib.hid (HN.out (fun h => absurd h hu))
        clear hu
        go_wp2
        go_loopw [9] (fun j wq => ∃ q : Nat, q ≤ sb.es.length ∧ j = .int .i64 (q : Int) ∧ W0 = wq) (fun j _ => sb.es.length - (intOf j).toNat)
        case atStart => exact ⟨0, Nat.zero_le _, rfl, rfl⟩
        case round =>
          obtain ⟨q, hq, rfl, rfl⟩ := hrel
          by_cases hql : q < sb.es.length
          · have hjd : decide ((q : Int) < (sb.es.length : Int)) = true := decide_eq_true (by omega)
            go_wp2
            go_roundw
            case rel => exact ⟨q + 1, by omega, by go_num, by trivial⟩
            case measure => simp [intOf]; omega
          · have hjd : decide ((q : Int) < (sb.es.length : Int)) = false := decide_eq_false (by omega)
            go_wp2
            go_roundw
            case rel => exact ⟨p + 1, by omega, by go_num, by trivial, HN3⟩
            case measure => simp [intOf]; omega
    · have hkl : decide ((p : Int) < (ss.length : Int)) = false := decide_eq_false (by omega)
      have HA := Lib.hid (takeAll9 (P := fun s : Sb => s.u = U → ∀ e ∈ s.es, e.it.id ≠ I) hlt HP.out)
      go_wp2
      have y5 := ((((hy0.set 0 (.string ⟨#[]⟩)).set 1 (.string ⟨#[]⟩)).set 2 (.int .i64 0)).set 3 (.bool false)).set 4 (.bool false)
      change Box _ (w.heap.size + 1) #[.string ⟨#[]⟩, .string ⟨#[]⟩, .int .i64 0, .bool false, .bool false] _ at y5
      have hB5 := ((((hb0.setCell (p := ⟨w.heap.size + 1, 0, none⟩) (by show w.heap.size ≤ w.heap.size + 1; omega) (.string ⟨#[]⟩)).setCell (p := ⟨w.heap.size + 1, 1, none⟩) (by show w.heap.size ≤ w.heap.size + 1; omega) (.string ⟨#[]⟩)).setCell (p := ⟨w.heap.size + 1, 2, none⟩) (by show w.heap.size ≤ w.heap.size + 1; omega) (.int .i64 0)).setCell (p := ⟨w.heap.size + 1, 3, none⟩) (by show w.heap.size ≤ w.heap.size + 1; omega) (.bool false)).setCell (p := ⟨w.heap.size + 1, 4, none⟩) (by show w.heap.size ≤ w.heap.size + 1; omega) (.bool false)
      have e0 := y5.cell 0 _ rfl
      have e1 := y5.cell 1 _ rfl
      have e2 := y5.cell 2 _ rfl
      have e3 := y5.cell 3 _ rfl
      have e4 := y5.cell 4 _ rfl
      exact bodyPost_ret (v := .tuple #[etV none, .bool false]) (by simp [results, Try.results25, go_sem, e0, e1, e2, e3, e4, etV]) rfl ⟨none, HA.out, rfl, hB5⟩
end Go.Proofs.Ytffkakpbelknaaa

/- V9s -/
namespace Go.Proofs.Ytffkakpbelknaaa
open Go.ChangeShapes Go.WideShapes Go.ChangeAt Go.RowKit
set_option linter.unusedVariables false
set_option linter.unusedSimpArgs false

/-- What the loops of FnPurged find. -/
def PgW (v1 : World) (ss A : List Sb) (ra a2 : Option Addr) (rc c2 : Nat) (E : Int) (g2 : Nat) (W : World) : Prop :=
  Box W v1.heap.size #[.slice ra ss.length rc] 26 ∧ Box W (v1.heap.size + 1 + 1) #[.int .i64 9, .string ⟨#[]⟩, .string ⟨#[]⟩, .int .i64 E, .string ⟨#[]⟩, .string ⟨#[]⟩, .slice none 0 0] 31 ∧ Box W g2 #[.slice a2 A.length c2] 26 ∧ SbAt W W.heap.size (.slice a2 A.length c2) A ∧ Below v1.heap.size v1 W
theorem PgW.below {v1 : World} {ss A : List Sb} {ra a2 : Option Addr} {rc c2 : Nat} {E : Int} {g2 : Nat} {W W' : World} (h : PgW v1 ss A ra a2 rc c2 E g2 W) (hb : Below W.heap.size W W') : PgW v1 ss A ra a2 rc c2 E g2 W' :=
  ⟨h.1.keep hb h.1.lt, h.2.1.keep hb h.2.1.lt, h.2.2.1.keep hb h.2.2.1.lt, (h.2.2.2.1.below hb).mono hb.size, h.2.2.2.2.trans (hb.mono h.2.2.2.2.size)⟩
def etA : Option En → Array Value
  | none => en0A
  | some e => #[.string e.it.id, .string e.it.ti, .int .i64 e.it.da, .bool e.rd, .bool e.st]

set_option maxRecDepth 100000 in
set_option maxHeartbeats 3000000 in
theorem walk_FnPurged (aa : Option Addr) (len cap : Nat) (z : List Int) (w : World) (h : IsRow .u8 w aa len cap z) :
    Calls Try.prog 5 #[.slice aa len cap] w fun e w' => e = .returned (.bool true) ∧ Below w.heap.size w w' := by
  have hcd := Cd.of_row h
  clear h
  go_enter Try.func5, Try.ntmps5
  go_wp2_with fail
  refine (big_any _ _ _ hcd).mono ?_
  rintro e w1 ⟨⟨b, rfl⟩, rfl⟩
  cases b with
  | true =>
    go_wp2
    go_ret
    exact ⟨rfl, Below.refl _ _⟩
  | false =>
    go_wp2_with fail
    refine (drawDone_any _ _ _ hcd).mono ?_
    rintro e v1 ⟨V, ss, o, x, rfl, hsz, hso, hS, hI, hd1⟩
    clear hcd
    obtain ⟨ra, rc, hV, hrl, hrm, _⟩ := hS.raw
    subst hV
    unfold maxLen at hrm
    obtain ⟨xa, xc, rfl⟩ := hI.1.slice
    have HSs : Hid (∀ W, Below v1.heap.size v1 W → SbAt W W.heap.size (.slice ra ss.length rc) ss) := Lib.hid (fun W hW => (hS.below hW).mono hW.size)
    have HIs : Hid (∀ W, Below v1.heap.size v1 W → ItAt W W.heap.size (.slice xa o.its.length xc) o.its) := Lib.hid (fun W hW => (hI.below hW).mono hW.size)
    have HSz := Lib.hid hsz
    have HOz : Hid (OpSz o) := Lib.hid (smO_sz hso).1
    have HBw0 := Lib.hid hd1
    clear hS hI hsz hso hd1
    have hxr0 := Box.new v1 #[.slice ra ss.length rc] 26
    have hxr := hxr0.alloc (.cells #[.int .i64 o.k, .string o.u, .string o.i, .int .i64 o.d, .string o.fu, .string o.ft, (.slice xa o.its.length xc)] 31)
    have hxo := Box.new (v1.alloc (.cells #[.slice ra ss.length rc] 26)) #[.int .i64 o.k, .string o.u, .string o.i, .int .i64 o.d, .string o.fu, .string o.ft, (.slice xa o.its.length xc)] 31
    have hBw : Below v1.heap.size v1 ((v1.alloc (.cells #[.slice ra ss.length rc] 26)).alloc (.cells #[.int .i64 o.k, .string o.u, .string o.i, .int .i64 o.d, .string o.fu, .string o.ft, (.slice xa o.its.length xc)] 31)) := ((Below.refl _ _).alloc (Nat.le_refl _) _).alloc (by simp) _
    rw [World.size_alloc] at hxo
    clear hxr0
    have hxe := Box.new ((v1.alloc (.cells #[.slice ra ss.length rc] 26)).alloc (.cells #[.int .i64 o.k, .string o.u, .string o.i, .int .i64 o.d, .string o.fu, .string o.ft, (.slice xa o.its.length xc)] 31)) #[.int .i64 9, .string ⟨#[]⟩, .string ⟨#[]⟩, .int .i64 (20000 + (len : Int) % 9), .string ⟨#[]⟩, .string ⟨#[]⟩, .slice none 0 0] 31
    rw [World.size_alloc, World.size_alloc] at hxe
    replace hxr := hxr.alloc (.cells #[.int .i64 9, .string ⟨#[]⟩, .string ⟨#[]⟩, .int .i64 (20000 + (len : Int) % 9), .string ⟨#[]⟩, .string ⟨#[]⟩, .slice none 0 0] 31)
    replace hxo := hxo.alloc (.cells #[.int .i64 9, .string ⟨#[]⟩, .string ⟨#[]⟩, .int .i64 (20000 + (len : Int) % 9), .string ⟨#[]⟩, .string ⟨#[]⟩, .slice none 0 0] 31)
    replace hBw := hBw.alloc hBw.size (.cells #[.int .i64 9, .string ⟨#[]⟩, .string ⟨#[]⟩, .int .i64 (20000 + (len : Int) % 9), .string ⟨#[]⟩, .string ⟨#[]⟩, .slice none 0 0] 31)
    have hE0 : 0 ≤ (20000 + (len : Int) % 9) := by omega
    have hE1 : (20000 + (len : Int) % 9) ≤ 200000 := by omega
    cases hrB : rdB ss with
    | false =>
      have hNo := doV_bad (o := (opPg (20000 + (len : Int) % 9))) hrB
      have xxr0 := hxr.cell 0 _ rfl
      have xxe0 := hxe.cell 0 _ rfl
      have xxe1 := hxe.cell 1 _ rfl
      have xxe2 := hxe.cell 2 _ rfl
      have xxe3 := hxe.cell 3 _ rfl
      have xxe4 := hxe.cell 4 _ rfl
      have xxe5 := hxe.cell 5 _ rfl
      have xxe6 := hxe.cell 6 _ rfl
      go_wp2_with fail
      clear xxr0 xxe0 xxe1 xxe2 xxe3 xxe4 xxe5 xxe6
      refine (implDone_no _ _ ss (opPg (20000 + (len : Int) % 9)) _ (HSs.out _ hBw) (itAt_nil _ _) (opSz_pg _) hNo).mono ?_
      rintro e w2 ⟨V2, q2, rfl, hq2, hD2, hb2⟩
      obtain ⟨a2, c2, hV2⟩ := hD2.1.slice
      have hL2 : q2.length = ([] : List Sb).length := by rw [← hq2, List.length_map]
      rw [hL2] at hV2
      subst hV2
      have HS2 : Hid (SbAt w2 w2.heap.size (.slice a2 ([] : List Sb).length c2) ([] : List Sb)) := Lib.hid (hD2.at hq2 (by simp))
      replace hxr := hxr.keep hb2 hxr.lt
      replace hxo := hxo.keep hb2 hxo.lt
      replace hxe := hxe.keep hb2 hxe.lt
      replace hBw := hBw.trans (hb2.mono hBw.size)
      clear hb2 hq2 hD2 hL2
      have hl02 : ([] : List Sb).length = 0 := rfl
      rw [hl02] at HS2 ⊢
      clear hl02
      have hxa := Box.new w2 #[.slice a2 0 c2] 26
      have hba : Below w2.heap.size w2 (w2.alloc (.cells #[.slice a2 0 c2] 26)) := (Below.refl _ _).alloc (Nat.le_refl _) _
      replace hxr := hxr.keep hba hxr.lt
      replace hxo := hxo.keep hba hxo.lt
      replace hxe := hxe.keep hba hxe.lt
      replace HS2 := Lib.hid ((HS2.out.below hba).mono hba.size)
      replace hBw := hBw.trans (hba.mono hBw.size)
      clear hba
      have xxr0 := hxr.cell 0 _ rfl
      have xxe0 := hxe.cell 0 _ rfl
      have xxe1 := hxe.cell 1 _ rfl
      have xxe2 := hxe.cell 2 _ rfl
      have xxe3 := hxe.cell 3 _ rfl
      have xxe4 := hxe.cell 4 _ rfl
      have xxe5 := hxe.cell 5 _ rfl
      have xxe6 := hxe.cell 6 _ rfl
      go_wp2_with fail
      clear xxr0 xxe0 xxe1 xxe2 xxe3 xxe4 xxe5 xxe6
      generalize w2.alloc (.cells #[.slice a2 0 c2] 26) = W2 at hxr hxo hxe hxa HS2 hBw ⊢
      generalize w2.heap.size = g2 at hxa ⊢
      refine (specDone_no _ _ ss (opPg (20000 + (len : Int) % 9)) _ (HSs.out _ hBw) (itAt_nil _ _) (opSz_pg _) hNo).mono ?_
      rintro e w3 ⟨V3, q3, rfl, hq3, hD3, hb3⟩
      obtain ⟨a3, c3, hV3⟩ := hD3.1.slice
      have hL3 : q3.length = ([] : List Sb).length := by rw [← hq3, List.length_map]
      rw [hL3] at hV3
      subst hV3
      have HS3 : Hid (SbAt w3 w3.heap.size (.slice a3 ([] : List Sb).length c3) ([] : List Sb)) := Lib.hid (hD3.at hq3 (by simp))
      replace hxr := hxr.keep hb3 hxr.lt
      replace hxo := hxo.keep hb3 hxo.lt
      replace hxe := hxe.keep hb3 hxe.lt
      replace hxa := hxa.keep hb3 hxa.lt
      replace HS2 := Lib.hid ((HS2.out.below hb3).mono hb3.size)
      replace hBw := hBw.trans (hb3.mono hBw.size)
      clear hb3 hq3 hD3 hL3
      have hl03 : ([] : List Sb).length = 0 := rfl
      rw [hl03] at HS3 ⊢
      clear hl03
      have hxw := Box.new w3 #[.slice a3 0 c3] 26
      have hba : Below w3.heap.size w3 (w3.alloc (.cells #[.slice a3 0 c3] 26)) := (Below.refl _ _).alloc (Nat.le_refl _) _
      replace hxr := hxr.keep hba hxr.lt
      replace hxo := hxo.keep hba hxo.lt
      replace hxe := hxe.keep hba hxe.lt
      replace hxa := hxa.keep hba hxa.lt
      replace HS2 := Lib.hid ((HS2.out.below hba).mono hba.size)
      replace HS3 := Lib.hid ((HS3.out.below hba).mono hba.size)
      replace hBw := hBw.trans (hba.mono hBw.size)
      clear hba
      have xxa0 := hxa.cell 0 _ rfl
      have xxw0 := hxw.cell 0 _ rfl
      go_wp2_with fail
      clear xxa0 xxw0
      generalize w3.alloc (.cells #[.slice a3 0 c3] 26) = W3 at hxr hxo hxe hxa hxw HS2 HS3 hBw ⊢
      generalize w3.heap.size = g3 at hxw ⊢
      refine (sameReader_any _ _ [] _ HS2.out HS3.out).mono ?_
      rintro e w4 ⟨rfl, hb4⟩
      replace hxr := hxr.keep hb4 hxr.lt
      replace hxo := hxo.keep hb4 hxo.lt
      replace hxe := hxe.keep hb4 hxe.lt
      replace hxa := hxa.keep hb4 hxa.lt
      replace hxw := hxw.keep hb4 hxw.lt
      replace HS2 := Lib.hid ((HS2.out.below hb4).mono hb4.size)
      replace HS3 := Lib.hid ((HS3.out.below hb4).mono hb4.size)
      replace hBw := hBw.trans (hb4.mono hBw.size)
      clear hb4
      have xxa0 := hxa.cell 0 _ rfl
      have xxw0 := hxw.cell 0 _ rfl
      go_wp2_with fail
      clear xxa0 xxw0
      refine (sameReader_any _ _ [] _ HS2.out HS3.out).mono ?_
      rintro e w5 ⟨rfl, hb5⟩
      replace hxr := hxr.keep hb5 hxr.lt
      replace hxo := hxo.keep hb5 hxo.lt
      replace hxe := hxe.keep hb5 hxe.lt
      replace hxa := hxa.keep hb5 hxa.lt
      replace hxw := hxw.keep hb5 hxw.lt
      replace HS2 := Lib.hid ((HS2.out.below hb5).mono hb5.size)
      replace HS3 := Lib.hid ((HS3.out.below hb5).mono hb5.size)
      replace hBw := hBw.trans (hb5.mono hBw.size)
      clear hb5
      go_wp2
      go_ret
      exact ⟨rfl, HBw0.out.trans (hBw.mono HBw0.out.size)⟩
    | true =>
      obtain ⟨A, hA⟩ : ∃ A, doV ss (opPg (20000 + (len : Int) % 9)) = some A := ⟨_, doV_pg hE0 hE1 hrB⟩
      have eA : A = pgS ss (20000 + (len : Int) % 9) := by rw [doV_pg hE0 hE1 hrB] at hA; exact (Option.some.inj hA).symm
      have hAA : doV A (opPg (20000 + (len : Int) % 9)) = some A := by rw [doV_pg hE0 hE1 (doV_rd hA), eA, pgS_up ss (Int.le_refl _)]
      have HA := Lib.hid hA
      have HAA := Lib.hid hAA
      have HZA := Lib.hid (rd_sz (doV_rd hA))
      have hlA : A.length = ss.length := by rw [eA, pgS_len]
      have hs6 : ss.length ≤ 6 := rd_len hrB
      have HET : Hid (∀ s ∈ ss, ∀ e ∈ s.es, ∀ r, EtR A s.u e.it.id r → (pgB e (20000 + (len : Int) % 9) = true ∧ r = none) ∨ (pgB e (20000 + (len : Int) % 9) = false ∧ r = some e)) := Lib.hid (fun s hs e he r hr => et_pg hrB hs he (by rw [← eA]; exact hr))
      have HLA := Lib.hid hlA
      clear hA eA hAA hrB hE0 hE1 hlA
      have xxr0 := hxr.cell 0 _ rfl
      have xxe0 := hxe.cell 0 _ rfl
      have xxe1 := hxe.cell 1 _ rfl
      have xxe2 := hxe.cell 2 _ rfl
      have xxe3 := hxe.cell 3 _ rfl
      have xxe4 := hxe.cell 4 _ rfl
      have xxe5 := hxe.cell 5 _ rfl
      have xxe6 := hxe.cell 6 _ rfl
      go_wp2_with fail
      clear xxr0 xxe0 xxe1 xxe2 xxe3 xxe4 xxe5 xxe6
      refine (implDone_some _ _ ss A (opPg (20000 + (len : Int) % 9)) _ (HSs.out _ hBw) (itAt_nil _ _) (opSz_pg _) HA.out).mono ?_
      rintro e w2 ⟨V2, q2, rfl, hq2, hD2, hb2⟩
      obtain ⟨a2, c2, hV2⟩ := hD2.1.slice
      have hL2 : q2.length = A.length := by rw [← hq2, List.length_map]
      rw [hL2] at hV2
      subst hV2
      have HS2 : Hid (SbAt w2 w2.heap.size (.slice a2 A.length c2) A) := Lib.hid (hD2.at hq2 HZA.out)
      replace hxr := hxr.keep hb2 hxr.lt
      replace hxo := hxo.keep hb2 hxo.lt
      replace hxe := hxe.keep hb2 hxe.lt
      replace hBw := hBw.trans (hb2.mono hBw.size)
      clear hb2 hq2 hD2 hL2
      have hxa := Box.new w2 #[.slice a2 A.length c2] 26
      have hba : Below w2.heap.size w2 (w2.alloc (.cells #[.slice a2 A.length c2] 26)) := (Below.refl _ _).alloc (Nat.le_refl _) _
      replace hxr := hxr.keep hba hxr.lt
      replace hxo := hxo.keep hba hxo.lt
      replace hxe := hxe.keep hba hxe.lt
      replace HS2 := Lib.hid ((HS2.out.below hba).mono hba.size)
      replace hBw := hBw.trans (hba.mono hBw.size)
      clear hba
      have xxr0 := hxr.cell 0 _ rfl
      have xxe0 := hxe.cell 0 _ rfl
      have xxe1 := hxe.cell 1 _ rfl
      have xxe2 := hxe.cell 2 _ rfl
      have xxe3 := hxe.cell 3 _ rfl
      have xxe4 := hxe.cell 4 _ rfl
      have xxe5 := hxe.cell 5 _ rfl
      have xxe6 := hxe.cell 6 _ rfl
      go_wp2_with fail
      clear xxr0 xxe0 xxe1 xxe2 xxe3 xxe4 xxe5 xxe6
      generalize w2.alloc (.cells #[.slice a2 A.length c2] 26) = W2 at hxr hxo hxe hxa HS2 hBw ⊢
      generalize w2.heap.size = g2 at hxa ⊢
      refine (specDone_some _ _ ss A (opPg (20000 + (len : Int) % 9)) _ (HSs.out _ hBw) (itAt_nil _ _) (opSz_pg _) HA.out).mono ?_
      rintro e w3 ⟨V3, q3, rfl, hq3, hD3, hb3⟩
      obtain ⟨a3, c3, hV3⟩ := hD3.1.slice
      have hL3 : q3.length = A.length := by rw [← hq3, List.length_map]
      rw [hL3] at hV3
      subst hV3
      have HS3 : Hid (SbAt w3 w3.heap.size (.slice a3 A.length c3) A) := Lib.hid (hD3.at hq3 HZA.out)
      replace hxr := hxr.keep hb3 hxr.lt
      replace hxo := hxo.keep hb3 hxo.lt
      replace hxe := hxe.keep hb3 hxe.lt
      replace hxa := hxa.keep hb3 hxa.lt
      replace HS2 := Lib.hid ((HS2.out.below hb3).mono hb3.size)
      replace hBw := hBw.trans (hb3.mono hBw.size)
      clear hb3 hq3 hD3 hL3
      have hxw := Box.new w3 #[.slice a3 A.length c3] 26
      have hba : Below w3.heap.size w3 (w3.alloc (.cells #[.slice a3 A.length c3] 26)) := (Below.refl _ _).alloc (Nat.le_refl _) _
      replace hxr := hxr.keep hba hxr.lt
      replace hxo := hxo.keep hba hxo.lt
      replace hxe := hxe.keep hba hxe.lt
      replace hxa := hxa.keep hba hxa.lt
      replace HS2 := Lib.hid ((HS2.out.below hba).mono hba.size)
      replace HS3 := Lib.hid ((HS3.out.below hba).mono hba.size)
      replace hBw := hBw.trans (hba.mono hBw.size)
      clear hba
      have xxa0 := hxa.cell 0 _ rfl
      have xxw0 := hxw.cell 0 _ rfl
      go_wp2_with fail
      clear xxa0 xxw0
      generalize w3.alloc (.cells #[.slice a3 A.length c3] 26) = W3 at hxr hxo hxe hxa hxw HS2 HS3 hBw ⊢
      generalize w3.heap.size = g3 at hxw ⊢
      refine (sameReader_any _ _ A _ HS2.out HS3.out).mono ?_
      rintro e w4 ⟨rfl, hb4⟩
      replace hxr := hxr.keep hb4 hxr.lt
      replace hxo := hxo.keep hb4 hxo.lt
      replace hxe := hxe.keep hb4 hxe.lt
      replace hxa := hxa.keep hb4 hxa.lt
      replace hxw := hxw.keep hb4 hxw.lt
      replace HS2 := Lib.hid ((HS2.out.below hb4).mono hb4.size)
      replace HS3 := Lib.hid ((HS3.out.below hb4).mono hb4.size)
      replace hBw := hBw.trans (hb4.mono hBw.size)
      clear hb4
      have HPW : Hid (PgW v1 ss A ra a2 rc c2 (20000 + (len : Int) % 9) g2 w4) := Lib.hid ⟨hxr, hxe, hxa, HS2.out, hBw⟩
      clear hxr hxo hxe hxa hxw HS2 HS3 hBw
      go_wp2
      generalize w4 = wz at HPW ⊢
      go_loopw [10] (fun i wr => ∃ p : Nat, p ≤ ss.length ∧ i = .int .i64 (p : Int) ∧ Hid (PgW v1 ss A ra a2 rc c2 (20000 + (len : Int) % 9) g2 wr)) (fun i _ => ss.length - (intOf i).toNat)
      case atStart => exact ⟨0, Nat.zero_le _, rfl, HPW⟩
      case round =>
        clear HPW
        obtain ⟨p, hp, rfl, HPW⟩ := hrel
        have hxr := HPW.out.1
        have kr := hxr.cell 0 _ rfl
        by_cases hlt : p < ss.length
        case neg =>
          have hkl : decide ((p : Int) < (ss.length : Int)) = false := decide_eq_false (by omega)
          clear hxr
          obtain ⟨hxr, hxe, hxa, hS2, hBw⟩ := HPW.out
          have HS2 := Lib.hid hS2
          clear hS2 HPW HET
          generalize wr = w5 at hxr hxe hxa HS2 hBw kr ⊢
          have xxa0 := hxa.cell 0 _ rfl
          have xxe0 := hxe.cell 0 _ rfl
          have xxe1 := hxe.cell 1 _ rfl
          have xxe2 := hxe.cell 2 _ rfl
          have xxe3 := hxe.cell 3 _ rfl
          have xxe4 := hxe.cell 4 _ rfl
          have xxe5 := hxe.cell 5 _ rfl
          have xxe6 := hxe.cell 6 _ rfl
          go_wp2_with fail
          clear xxa0 xxe0 xxe1 xxe2 xxe3 xxe4 xxe5 xxe6
          refine (implDone_some _ _ A A (opPg (20000 + (len : Int) % 9)) _ HS2.out (itAt_nil _ _) (opSz_pg _) HAA.out).mono ?_
          rintro e w6 ⟨V6, q6, rfl, hq6, hD6, hb6⟩
          obtain ⟨a6, c6, hV6⟩ := hD6.1.slice
          have hL6 : q6.length = A.length := by rw [← hq6, List.length_map]
          rw [hL6] at hV6
          subst hV6
          have HS6 : Hid (SbAt w6 w6.heap.size (.slice a6 A.length c6) A) := Lib.hid (hD6.at hq6 HZA.out)
          replace hxr := hxr.keep hb6 hxr.lt
          replace hxe := hxe.keep hb6 hxe.lt
          replace hxa := hxa.keep hb6 hxa.lt
          replace HS2 := Lib.hid ((HS2.out.below hb6).mono hb6.size)
          replace hBw := hBw.trans (hb6.mono hBw.size)
          clear hb6 hq6 hD6 hL6
          have hxb := Box.new w6 #[.slice a6 A.length c6] 26
          have hba : Below w6.heap.size w6 (w6.alloc (.cells #[.slice a6 A.length c6] 26)) := (Below.refl _ _).alloc (Nat.le_refl _) _
          replace hxr := hxr.keep hba hxr.lt
          replace hxe := hxe.keep hba hxe.lt
          replace hxa := hxa.keep hba hxa.lt
          replace HS2 := Lib.hid ((HS2.out.below hba).mono hba.size)
          replace HS6 := Lib.hid ((HS6.out.below hba).mono hba.size)
          replace hBw := hBw.trans (hba.mono hBw.size)
          clear hba
          have xxb0 := hxb.cell 0 _ rfl
          have xxa0 := hxa.cell 0 _ rfl
          go_wp2_with fail
          clear xxb0 xxa0
          generalize w6.alloc (.cells #[.slice a6 A.length c6] 26) = W6 at hxr hxe hxa hxb HS2 HS6 hBw ⊢
          generalize w6.heap.size = g6 at hxb ⊢
          refine (sameReader_any _ _ A _ HS6.out HS2.out).mono ?_
          rintro e w7 ⟨rfl, hb7⟩
          replace hxr := hxr.keep hb7 hxr.lt
          replace hxe := hxe.keep hb7 hxe.lt
          replace hxa := hxa.keep hb7 hxa.lt
          replace hxb := hxb.keep hb7 hxb.lt
          replace HS2 := Lib.hid ((HS2.out.below hb7).mono hb7.size)
          replace HS6 := Lib.hid ((HS6.out.below hb7).mono hb7.size)
          replace hBw := hBw.trans (hb7.mono hBw.size)
          clear hb7
          have hle : ((A.length : Int) == (ss.length : Int)) = true := by rw [HLA.out]; simp
          have xxa0 := hxa.cell 0 _ rfl
          have xxr0 := hxr.cell 0 _ rfl
          go_wp2
          go_ret
          exact ⟨rfl, HBw0.out.trans (hBw.mono HBw0.out.size)⟩
        have hkl : decide ((p : Int) < (ss.length : Int)) = true := decide_eq_true (by omega)
        have hkl2 : (p : Int) < (ss.length : Int) := by omega
        have hk0 : (0 : Int) ≤ (p : Int) := by omega
        obtain ⟨sb, hsb⟩ : ∃ sb, sb = ss[p] := ⟨_, rfl⟩
        have HM : Hid (sb ∈ ss) := Lib.hid (by rw [hsb]; exact List.getElem_mem hlt)
        have HC : Hid (∀ W, Below v1.heap.size v1 W → ∃ b off xa xc, ra = some ⟨b, off, none⟩ ∧ b < W.heap.size ∧ W.cell? ⟨b, off + p * 3, none⟩ = some (.string sb.u) ∧ W.cell? ⟨b, off + p * 3 + 2, none⟩ = some (.slice xa sb.es.length xc) ∧ EnAt W W.heap.size (.slice xa sb.es.length xc) sb.es) := Lib.hid (fun W hW => by
          obtain ⟨a1, cap1, hv, _, _, hc⟩ := (HSs.out W hW).raw
          cases hv
          obtain ⟨b, off, rfl, hb, hr⟩ := hc p hlt
          obtain ⟨x, c0, _, c2, hx, _⟩ := hr p hlt
          rw [← hsb] at c0 hx
          obtain ⟨xa, xc, rfl, _⟩ := hx.1
          exact ⟨b, off, xa, xc, rfl, hb, c0, c2, hx⟩)
        clear hsb
        go_wp2
        go_loopw [11] (fun j wq => ∃ q : Nat, q ≤ sb.es.length ∧ j = .int .i64 (q : Int) ∧ Hid (PgW v1 ss A ra a2 rc c2 (20000 + (len : Int) % 9) g2 wq)) (fun j _ => sb.es.length - (intOf j).toNat)
        case atStart => exact ⟨0, Nat.zero_le _, rfl, HPW⟩
        case round =>
          clear HPW hxr kr
          obtain ⟨q, hq, rfl, HPW⟩ := hrel
          have hxr := HPW.out.1
          have kr := hxr.cell 0 _ rfl
          obtain ⟨b, off, ea, ec, rfl, hb, k0, k2, hx⟩ := HC.out wr HPW.out.2.2.2.2
          obtain ⟨a3, cap3, hv, hxl, hxm, hc⟩ := hx.raw
          cases hv
          unfold maxLen at hxm
          by_cases hql : q < sb.es.length
          case neg =>
            have hjd : decide ((q : Int) < (sb.es.length : Int)) = false := decide_eq_false (by omega)
            go_wp2
            go_roundw
            case rel => exact ⟨p + 1, by omega, by go_num, HPW⟩
            case measure => simp [intOf]; omega
          obtain ⟨b3, off3, rfl, hb3, hr⟩ := hc q hql
          obtain ⟨d0, d1, d2, d3, d4, _⟩ := hr q hql
          obtain ⟨en, hen⟩ : ∃ en, en = sb.es[q] := ⟨_, rfl⟩
          rw [← hen] at d0 d1 d2 d3 d4
          have HM2 : Hid (en ∈ sb.es) := Lib.hid (by rw [hen]; exact List.getElem_mem hql)
          have hjd : decide ((q : Int) < (sb.es.length : Int)) = true := decide_eq_true (by omega)
          have hjd2 : (q : Int) < (sb.es.length : Int) := by omega
          have hj0 : (0 : Int) ≤ (q : Int) := by omega
          clear hr hc hen hx
          have hy := Box.new wr #[.string en.it.id, .string en.it.ti, .int .i64 en.it.da, .bool en.rd, .bool en.st] 47
          have hba : Below wr.heap.size wr (wr.alloc (.cells #[.string en.it.id, .string en.it.ti, .int .i64 en.it.da, .bool en.rd, .bool en.st] 47)) := (Below.refl _ _).alloc (Nat.le_refl _) _
          have HPW2 := Lib.hid (HPW.out.below hba)
          have c0b : (wr.alloc (.cells #[.string en.it.id, .string en.it.ti, .int .i64 en.it.da, .bool en.rd, .bool en.st] 47)).cell? ⟨b, off + p * 3, none⟩ = some (.string sb.u) := (hba.cell (p := ⟨b, off + p * 3, none⟩) hb).trans k0
          have HBL : b < wr.heap.size := hb
          go_upto_region 16 with fail
          generalize wr.alloc (.cells #[.string en.it.id, .string en.it.ti, .int .i64 en.it.da, .bool en.rd, .bool en.st] 47) = WA at hy HPW2 c0b ⊢
          generalize wr.heap.size = gy at hy HBL ⊢
          go_cut [13, 14] from 89 to 102 (fun s13 s14 wx => ∃ (r : Option En) (gf : Nat), s13 = .pointer (some ⟨gf, 0, none⟩) ∧ s14 = .bool r.isSome ∧ EtR A sb.u en.it.id r ∧ Box wx gf (etA r) 47 ∧ Below WA.heap.size WA wx)
          case first =>
            have hg2 := HPW2.out.2.2.1
            have hr2 := HPW2.out.1
            have HS := Lib.hid HPW2.out.2.2.2.1
            have hgl : b < WA.heap.size := by have := HPW2.out.2.2.2.2.size; have h2 := hy.lt; have h3 := HBL; omega
            clear HPW2
            refine wp_region_T (fun w => Box w g2 #[.slice a2 A.length c2] 26 ∧ Box w v1.heap.size #[.slice (some ⟨b, off, none⟩) ss.length rc] 26 ∧ w.cell? ⟨b, off + p * 3, none⟩ = some (.string sb.u) ∧ Box w gy #[.string en.it.id, .string en.it.ti, .int .i64 en.it.da, .bool en.rd, .bool en.st] 47) (fun _ => True) 16 (by kernel_rfl) 17 rfl ?_
            have hI0 : (fun w => Box w g2 #[.slice a2 A.length c2] 26 ∧ Box w v1.heap.size #[.slice (some ⟨b, off, none⟩) ss.length rc] 26 ∧ w.cell? ⟨b, off + p * 3, none⟩ = some (.string sb.u) ∧ Box w gy #[.string en.it.id, .string en.it.ti, .int .i64 en.it.da, .bool en.rd, .bool en.st] 47) WA.drew := ⟨hg2.drew, hr2.drew, c0b, hy.drew⟩
            have HKI : Hid (∀ w1 w2 : World, WA.heap.size ≤ w1.heap.size → Below w1.heap.size w1 w2 → (fun w => Box w g2 #[.slice a2 A.length c2] 26 ∧ Box w v1.heap.size #[.slice (some ⟨b, off, none⟩) ss.length rc] 26 ∧ w.cell? ⟨b, off + p * 3, none⟩ = some (.string sb.u) ∧ Box w gy #[.string en.it.id, .string en.it.ti, .int .i64 en.it.da, .bool en.rd, .bool en.st] 47) w1 → (fun w => Box w g2 #[.slice a2 A.length c2] 26 ∧ Box w v1.heap.size #[.slice (some ⟨b, off, none⟩) ss.length rc] 26 ∧ w.cell? ⟨b, off + p * 3, none⟩ = some (.string sb.u) ∧ Box w gy #[.string en.it.id, .string en.it.ti, .int .i64 en.it.da, .bool en.rd, .bool en.st] 47) w2) := Lib.hid (fun w1 w2 hs hb1 h => ⟨h.1.keep hb1 h.1.lt, h.2.1.keep hb1 h.2.1.lt, (hb1.cell (p := ⟨b, off + p * 3, none⟩) (show b < w1.heap.size by omega)).trans h.2.2.1, h.2.2.2.keep hb1 h.2.2.2.lt⟩)
            have HKS : Hid (∀ (w1 : World) (g k : Nat) (z : Value), g2 ≠ g → v1.heap.size ≠ g → b ≠ g → gy ≠ g → (fun w => Box w g2 #[.slice a2 A.length c2] 26 ∧ Box w v1.heap.size #[.slice (some ⟨b, off, none⟩) ss.length rc] 26 ∧ w.cell? ⟨b, off + p * 3, none⟩ = some (.string sb.u) ∧ Box w gy #[.string en.it.id, .string en.it.ti, .int .i64 en.it.da, .bool en.rd, .bool en.st] 47) w1 → (fun w => Box w g2 #[.slice a2 A.length c2] 26 ∧ Box w v1.heap.size #[.slice (some ⟨b, off, none⟩) ss.length rc] 26 ∧ w.cell? ⟨b, off + p * 3, none⟩ = some (.string sb.u) ∧ Box w gy #[.string en.it.id, .string en.it.ti, .int .i64 en.it.da, .bool en.rd, .bool en.st] 47) (w1.setCell ⟨g, k, none⟩ z)) := Lib.hid (fun w1 g k z n1 n2 n3 n4 h => ⟨h.1.other ⟨g, k, none⟩ z n1, h.2.1.other ⟨g, k, none⟩ z n2, by rw [World.cell?_setCell_other _ _ _ _ (show (⟨g, k, none⟩ : Addr) ≠ ⟨b, off + p * 3, none⟩ from fun e => n3 (congrArg Addr.block e).symm)]; exact h.2.2.1, h.2.2.2.other ⟨g, k, none⟩ z n4⟩)
            have hlg2 := hg2.lt
            have hlr := hr2.lt
            have hly := hy.lt
            have hBd : Below WA.heap.size WA WA.drew := (Below.refl _ _).drew
            have HS1 : Hid (∀ W, Below WA.heap.size WA W → SbAt W W.heap.size (.slice a2 A.length c2) A) := Lib.hid (fun W hW => (HS.out.below hW).mono hW.size)
            clear hg2 hr2 HS hy c0b
            have hs0 : WA.heap.size ≤ WA.drew.heap.size := Nat.le_refl _
            generalize WA.drew = WD at hI0 hBd hs0 ⊢
            refine wpAnyT_takesA (md := .any) 7 (by kernel_rfl) (by intro d v c a w h; cases d <;> exact h) [0, 1, 2, 3, 4, 5, 6, 7, 8, 9] _ _ _ (by decide) (by kernel_rfl) ⟨hI0, fun _ => trivial⟩ ?_
            simp only [pick, List.filterMap_cons, List.filterMap_nil, List.getElem?_cons_zero, List.getElem?_cons_succ]
            refine wpIf_step (.agg #[.slice a2 A.length c2]) (by kernel_rfl) (fun w hw => by have e0 := hw.1.cell 0 _ rfl; go_simp) ?_
            refine wpIf_step (.pointer (some ⟨v1.heap.size, 0, none⟩)) (by kernel_rfl) (fun w hw => by go_simp) ?_
            refine wpIf_step (.slice (some ⟨b, off, none⟩) ss.length rc) (by kernel_rfl) (fun w hw => by have e0 := hw.2.1.cell 0 _ rfl; go_simp) ?_
            refine wpIf_step (.int .i64 (p : Int)) (by kernel_rfl) (fun w hw => by go_simp) ?_
            refine wpIf_step (.pointer (some ⟨b, off + p * 3, none⟩)) (by kernel_rfl) (fun w hw => by go_simp) ?_
            refine wpIf_step (.pointer (some ⟨b, off + p * 3, none⟩)) (by kernel_rfl) (fun w hw => by go_simp) ?_
            refine wpIf_step (.string sb.u) (by kernel_rfl) (fun w hw => by have e0 := hw.2.2.1; go_simp) ?_
            refine wpIf_step (.pointer (some ⟨gy, 0, none⟩)) (by kernel_rfl) (fun w hw => by go_simp) ?_
            refine wpIf_step (.pointer (some ⟨gy, 0, none⟩)) (by kernel_rfl) (fun w hw => by go_simp) ?_
            refine wpIf_step (.string en.it.id) (by kernel_rfl) (fun w hw => by have e0 := hw.2.2.2.cell 0 _ rfl; go_simp) ?_
            refine wpIf_nil (fun hS9 => ?_)
            clear hS9
            refine wpAnyT_pair 10 14 6 (by kernel_rfl) rfl rfl (by kernel_rfl) (by kernel_rfl) (fun K hK => ?_) (fun K hK => ?_)
            ·
              go_simp
              refine (entry_any _ A sb.u en.it.id _ (HS1.out _ hBd)).mono ?_
              rintro e w5 ⟨r, hEt, rfl, hb5⟩
              obtain ⟨e1, e2, e3, e4, e5, hev, hea⟩ : ∃ (a b : ByteArray) (c : Int) (d e : Bool), etV r = enV a b c d e ∧ etA r = #[.string a, .string b, .int .i64 c, .bool d, .bool e] := by cases r with | none => exact ⟨_, _, _, _, _, rfl, rfl⟩ | some y => exact ⟨_, _, _, _, _, rfl, rfl⟩
              rw [hev]
              have HEA := Lib.hid hea
              have HET2 := Lib.hid hEt
              clear hev hea hEt
              have hI1 := HKI.out _ _ hs0 hb5 hI0
              have hB1 := hBd.trans (hb5.mono hs0)
              have hs1 : WA.heap.size ≤ w5.heap.size := hB1.size
              refine hK _ _ ⟨hI1, fun _ => trivial⟩ (fun hS9 => ?_)
              clear hK K hS9 hb5 hI0 hBd hs0
              refine wpAnyT_takesA (md := .any) 3 (by kernel_rfl) (by intro d v c a w h; cases d <;> exact h) [11, 12, 13] _ _ _ (by decide) (by kernel_rfl) ⟨hI1, fun _ => trivial⟩ ?_
              simp only [pick, List.filterMap_cons, List.filterMap_nil, List.getElem?_cons_zero, List.getElem?_cons_succ]
              refine wpIf_step (.tuple #[enV e1 e2 e3 e4 e5, .bool r.isSome]) (by kernel_rfl) (fun w hw => by go_simp) ?_
              refine wpIf_step (enV e1 e2 e3 e4 e5) (by kernel_rfl) (fun w hw => by go_simp) ?_
              refine wpIf_step (.bool r.isSome) (by kernel_rfl) (fun w hw => by go_simp) ?_
              refine wpIf_nil (fun hS9 => ?_)
              clear hS9
              refine wpAnyT_one 14 2 (by kernel_rfl) rfl (by kernel_rfl) (fun K hK => ?_)
              go_simp
              have hz := Box.new w5 #[.string ⟨#[]⟩, .string ⟨#[]⟩, .int .i64 0, .bool false, .bool false] 47
              have hba : Below w5.heap.size w5 (w5.alloc (.cells #[.string ⟨#[]⟩, .string ⟨#[]⟩, .int .i64 0, .bool false, .bool false] 47)) := (Below.refl _ _).alloc (Nat.le_refl _) _
              have hg6 : WA.heap.size ≤ w5.heap.size := hs1
              replace hI1 := HKI.out _ _ hs1 hba hI1
              replace hB1 := hB1.trans (hba.mono hs1)
              refine hK _ _ ⟨hI1, fun _ => trivial⟩ (fun hS9 => ?_)
              clear hK K hS9 hba hs1
              generalize w5.alloc (.cells #[.string ⟨#[]⟩, .string ⟨#[]⟩, .int .i64 0, .bool false, .bool false] 47) = W5 at hI1 hB1 hz ⊢
              generalize w5.heap.size = g6 at hz hg6 ⊢
              have z0 : W5.cell? ⟨g6, 0, none⟩ = some (.string ⟨#[]⟩) := hz.cell 0 _ rfl
              have f0 := hz.free 0
              have z1 : W5.cell? ⟨g6, 1, none⟩ = some (.string ⟨#[]⟩) := hz.cell 1 _ rfl
              have f1 := hz.free 1
              have z2 : W5.cell? ⟨g6, 2, none⟩ = some (.int .i64 0) := hz.cell 2 _ rfl
              have f2 := hz.free 2
              have z3 : W5.cell? ⟨g6, 3, none⟩ = some (.bool false) := hz.cell 3 _ rfl
              have f3 := hz.free 3
              have z4 : W5.cell? ⟨g6, 4, none⟩ = some (.bool false) := hz.cell 4 _ rfl
              have f4 := hz.free 4
              refine wpAnyT_one 15 1 (by kernel_rfl) rfl (by kernel_rfl) (fun K hK => ?_)
              go_simp
              have hI2 := (HKS.out _ g6 4 (.bool e5) (by omega) (by omega) (by omega) (by omega) (HKS.out _ g6 3 (.bool e4) (by omega) (by omega) (by omega) (by omega) (HKS.out _ g6 2 (.int .i64 e3) (by omega) (by omega) (by omega) (by omega) (HKS.out _ g6 1 (.string e2) (by omega) (by omega) (by omega) (by omega) (HKS.out _ g6 0 (.string e1) (by omega) (by omega) (by omega) (by omega) hI1)))))
              have hz2 := (((((hz.set 0 (.string e1)).set 1 (.string e2)).set 2 (.int .i64 e3)).set 3 (.bool e4)).set 4 (.bool e5))
              have hB2 := (((((hB1.setCell (p := ⟨g6, 0, none⟩) (show WA.heap.size ≤ g6 by omega) (.string e1)).setCell (p := ⟨g6, 1, none⟩) (show WA.heap.size ≤ g6 by omega) (.string e2)).setCell (p := ⟨g6, 2, none⟩) (show WA.heap.size ≤ g6 by omega) (.int .i64 e3)).setCell (p := ⟨g6, 3, none⟩) (show WA.heap.size ≤ g6 by omega) (.bool e4)).setCell (p := ⟨g6, 4, none⟩) (show WA.heap.size ≤ g6 by omega) (.bool e5))
              change Box _ g6 #[.string e1, .string e2, .int .i64 e3, .bool e4, .bool e5] _ at hz2
              generalize (((((W5.setCell ⟨g6, 0, none⟩ (.string e1)).setCell ⟨g6, 1, none⟩ (.string e2)).setCell ⟨g6, 2, none⟩ (.int .i64 e3)).setCell ⟨g6, 3, none⟩ (.bool e4)).setCell ⟨g6, 4, none⟩ (.bool e5)) = W6 at hI2 hz2 hB2 ⊢
              refine hK _ _ ⟨hI2, fun _ => trivial⟩ (fun hS9 => ?_)
              clear hK K hS9 hI1 hz hB1 z0 z1 z2 z3 z4 f0 f1 f2 f3 f4
              refine wpAnyT_one 16 0 (by kernel_rfl) rfl (by kernel_rfl) (fun K hK => ?_)
              go_simp
              refine hK _ _ ⟨hI2, fun _ => trivial⟩ (fun hS9 => ?_)
              clear hK K hS9
              refine wpAnyT_over (by kernel_rfl) ?_
              go_wp2_with fail
              go_meet
              exact ⟨r, g6, rfl, rfl, HET2.out, by rw [HEA.out]; exact hz2, hB2⟩
            ·
              go_simp
              have hz := Box.new WD #[.string ⟨#[]⟩, .string ⟨#[]⟩, .int .i64 0, .bool false, .bool false] 47
              have hba : Below WD.heap.size WD (WD.alloc (.cells #[.string ⟨#[]⟩, .string ⟨#[]⟩, .int .i64 0, .bool false, .bool false] 47)) := (Below.refl _ _).alloc (Nat.le_refl _) _
              have hI1 := HKI.out _ _ hs0 hba hI0
              have hB1 := hBd.trans (hba.mono hs0)
              have hg6 : WA.heap.size ≤ WD.heap.size := hs0
              refine hK _ _ ⟨hI1, fun _ => trivial⟩ (fun hS9 => ?_)
              clear hK K hS9 hba hI0 hBd
              generalize WD.alloc (.cells #[.string ⟨#[]⟩, .string ⟨#[]⟩, .int .i64 0, .bool false, .bool false] 47) = W5 at hI1 hB1 hz ⊢
              generalize WD.heap.size = g6 at hz hg6 ⊢
              refine wpAnyT_one 10 5 (by kernel_rfl) rfl (by kernel_rfl) (fun K hK => ?_)
              go_simp
              refine (entry_any _ A sb.u en.it.id _ (HS1.out _ hB1)).mono ?_
              rintro e w5 ⟨r, hEt, rfl, hb5⟩
              obtain ⟨e1, e2, e3, e4, e5, hev, hea⟩ : ∃ (a b : ByteArray) (c : Int) (d e : Bool), etV r = enV a b c d e ∧ etA r = #[.string a, .string b, .int .i64 c, .bool d, .bool e] := by cases r with | none => exact ⟨_, _, _, _, _, rfl, rfl⟩ | some y => exact ⟨_, _, _, _, _, rfl, rfl⟩
              rw [hev]
              have HEA := Lib.hid hea
              have HET2 := Lib.hid hEt
              clear hev hea hEt
              replace hI1 := HKI.out _ _ hB1.size hb5 hI1
              have hgl6 := hz.lt
              replace hz := hz.keep hb5 hz.lt
              replace hB1 := hB1.trans (hb5.mono hB1.size)
              refine hK _ _ ⟨hI1, fun _ => trivial⟩ (fun hS9 => ?_)
              clear hK K hS9 hb5
              refine wpAnyT_takesA (md := .any) 2 (by kernel_rfl) (by intro d v c a w h; cases d <;> exact h) [11, 12, 13] _ _ _ (by decide) (by kernel_rfl) ⟨hI1, fun _ => trivial⟩ ?_
              simp only [pick, List.filterMap_cons, List.filterMap_nil, List.getElem?_cons_zero, List.getElem?_cons_succ]
              refine wpIf_step (.tuple #[enV e1 e2 e3 e4 e5, .bool r.isSome]) (by kernel_rfl) (fun w hw => by go_simp) ?_
              refine wpIf_step (enV e1 e2 e3 e4 e5) (by kernel_rfl) (fun w hw => by go_simp) ?_
              refine wpIf_step (.bool r.isSome) (by kernel_rfl) (fun w hw => by go_simp) ?_
              refine wpIf_nil (fun hS9 => ?_)
              clear hS9
              have z0 : w5.cell? ⟨g6, 0, none⟩ = some (.string ⟨#[]⟩) := hz.cell 0 _ rfl
              have f0 := hz.free 0
              have z1 : w5.cell? ⟨g6, 1, none⟩ = some (.string ⟨#[]⟩) := hz.cell 1 _ rfl
              have f1 := hz.free 1
              have z2 : w5.cell? ⟨g6, 2, none⟩ = some (.int .i64 0) := hz.cell 2 _ rfl
              have f2 := hz.free 2
              have z3 : w5.cell? ⟨g6, 3, none⟩ = some (.bool false) := hz.cell 3 _ rfl
              have f3 := hz.free 3
              have z4 : w5.cell? ⟨g6, 4, none⟩ = some (.bool false) := hz.cell 4 _ rfl
              have f4 := hz.free 4
              refine wpAnyT_one 15 1 (by kernel_rfl) rfl (by kernel_rfl) (fun K hK => ?_)
              go_simp
              have hI2 := (HKS.out _ g6 4 (.bool e5) (by omega) (by omega) (by omega) (by omega) (HKS.out _ g6 3 (.bool e4) (by omega) (by omega) (by omega) (by omega) (HKS.out _ g6 2 (.int .i64 e3) (by omega) (by omega) (by omega) (by omega) (HKS.out _ g6 1 (.string e2) (by omega) (by omega) (by omega) (by omega) (HKS.out _ g6 0 (.string e1) (by omega) (by omega) (by omega) (by omega) hI1)))))
              have hz2 := (((((hz.set 0 (.string e1)).set 1 (.string e2)).set 2 (.int .i64 e3)).set 3 (.bool e4)).set 4 (.bool e5))
              have hB2 := (((((hB1.setCell (p := ⟨g6, 0, none⟩) (show WA.heap.size ≤ g6 by omega) (.string e1)).setCell (p := ⟨g6, 1, none⟩) (show WA.heap.size ≤ g6 by omega) (.string e2)).setCell (p := ⟨g6, 2, none⟩) (show WA.heap.size ≤ g6 by omega) (.int .i64 e3)).setCell (p := ⟨g6, 3, none⟩) (show WA.heap.size ≤ g6 by omega) (.bool e4)).setCell (p := ⟨g6, 4, none⟩) (show WA.heap.size ≤ g6 by omega) (.bool e5))
              change Box _ g6 #[.string e1, .string e2, .int .i64 e3, .bool e4, .bool e5] _ at hz2
              generalize (((((w5.setCell ⟨g6, 0, none⟩ (.string e1)).setCell ⟨g6, 1, none⟩ (.string e2)).setCell ⟨g6, 2, none⟩ (.int .i64 e3)).setCell ⟨g6, 3, none⟩ (.bool e4)).setCell ⟨g6, 4, none⟩ (.bool e5)) = W6 at hI2 hz2 hB2 ⊢
              refine hK _ _ ⟨hI2, fun _ => trivial⟩ (fun hS9 => ?_)
              clear hK K hS9 hI1 hz hB1 z0 z1 z2 z3 z4 f0 f1 f2 f3 f4
              refine wpAnyT_one 16 0 (by kernel_rfl) rfl (by kernel_rfl) (fun K hK => ?_)
              go_simp
              refine hK _ _ ⟨hI2, fun _ => trivial⟩ (fun hS9 => ?_)
              clear hK K hS9
              refine wpAnyT_over (by kernel_rfl) ?_
              go_wp2_with fail
              go_meet
              exact ⟨r, g6, rfl, rfl, HET2.out, by rw [HEA.out]; exact hz2, hB2⟩
          case rest =>
            obtain ⟨r, gf, rfl, rfl, hEt, hf, hbx⟩ := hcut
            have HPW3 := Lib.hid (HPW2.out.below hbx)
            have hy3 := hy.keep hbx hy.lt
            have hcases := HET.out sb HM.out en HM2.out r hEt
            clear HPW2 hEt hbx hy
            obtain ⟨⟨eid, eti, eda⟩, erd, est⟩ := en
            dsimp only at hy3
            have hxe := HPW3.out.2.1
            have k3 : wc.cell? ⟨v1.heap.size + 1 + 1, 3, none⟩ = some (.int .i64 (20000 + (len : Int) % 9)) := hxe.cell 3 _ rfl
            rcases hcases with ⟨hpb, rfl⟩ | ⟨hpb, rfl⟩
            ·
              unfold pgB at hpb
              dsimp only at hpb
              cases erd with
              | false => simp at hpb
              | true =>
                cases est with
                | true => simp at hpb
                | false =>
                  have hlt3 : decide (eda < (20000 + (len : Int) % 9)) = true := by simpa using hpb
                  clear hpb
                  have y0 : wc.cell? ⟨gy, 0, none⟩ = some (.string eid) := hy3.cell 0 _ rfl
                  have y1 : wc.cell? ⟨gy, 1, none⟩ = some (.string eti) := hy3.cell 1 _ rfl
                  have y2 : wc.cell? ⟨gy, 2, none⟩ = some (.int .i64 eda) := hy3.cell 2 _ rfl
                  have y3 : wc.cell? ⟨gy, 3, none⟩ = some (.bool true) := hy3.cell 3 _ rfl
                  have y4 : wc.cell? ⟨gy, 4, none⟩ = some (.bool false) := hy3.cell 4 _ rfl
                  go_wp2
                  go_roundw
                  case rel => exact ⟨q + 1, by omega, by go_num, HPW3⟩
                  case measure => simp [intOf]; omega
            ·
              unfold pgB at hpb
              dsimp only at hpb
              have hf : Box wc gf #[.string eid, .string eti, .int .i64 eda, .bool erd, .bool est] 47 := hf
              cases erd with
              | false =>
                clear hpb
                have y0 : wc.cell? ⟨gy, 0, none⟩ = some (.string eid) := hy3.cell 0 _ rfl
                have y1 : wc.cell? ⟨gy, 1, none⟩ = some (.string eti) := hy3.cell 1 _ rfl
                have y2 : wc.cell? ⟨gy, 2, none⟩ = some (.int .i64 eda) := hy3.cell 2 _ rfl
                have y3 : wc.cell? ⟨gy, 3, none⟩ = some (.bool false) := hy3.cell 3 _ rfl
                have y4 : wc.cell? ⟨gy, 4, none⟩ = some (.bool est) := hy3.cell 4 _ rfl
                have f0 : wc.cell? ⟨gf, 0, none⟩ = some (.string eid) := hf.cell 0 _ rfl
                have f1 : wc.cell? ⟨gf, 1, none⟩ = some (.string eti) := hf.cell 1 _ rfl
                have f2 : wc.cell? ⟨gf, 2, none⟩ = some (.int .i64 eda) := hf.cell 2 _ rfl
                have f3 : wc.cell? ⟨gf, 3, none⟩ = some (.bool false) := hf.cell 3 _ rfl
                have f4 : wc.cell? ⟨gf, 4, none⟩ = some (.bool est) := hf.cell 4 _ rfl
                go_wp2
                go_roundw
                case rel => exact ⟨q + 1, by omega, by go_num, HPW3⟩
                case measure => simp [intOf]; omega
              | true =>
                cases est with
                | true =>
                  clear hpb
                  have y0 : wc.cell? ⟨gy, 0, none⟩ = some (.string eid) := hy3.cell 0 _ rfl
                  have y1 : wc.cell? ⟨gy, 1, none⟩ = some (.string eti) := hy3.cell 1 _ rfl
                  have y2 : wc.cell? ⟨gy, 2, none⟩ = some (.int .i64 eda) := hy3.cell 2 _ rfl
                  have y3 : wc.cell? ⟨gy, 3, none⟩ = some (.bool true) := hy3.cell 3 _ rfl
                  have y4 : wc.cell? ⟨gy, 4, none⟩ = some (.bool true) := hy3.cell 4 _ rfl
                  have f0 : wc.cell? ⟨gf, 0, none⟩ = some (.string eid) := hf.cell 0 _ rfl
                  have f1 : wc.cell? ⟨gf, 1, none⟩ = some (.string eti) := hf.cell 1 _ rfl
                  have f2 : wc.cell? ⟨gf, 2, none⟩ = some (.int .i64 eda) := hf.cell 2 _ rfl
                  have f3 : wc.cell? ⟨gf, 3, none⟩ = some (.bool true) := hf.cell 3 _ rfl
                  have f4 : wc.cell? ⟨gf, 4, none⟩ = some (.bool true) := hf.cell 4 _ rfl
                  go_wp2
                  go_roundw
                  case rel => exact ⟨q + 1, by omega, by go_num, HPW3⟩
                  case measure => simp [intOf]; omega
                | false =>
                  have hlt3 : decide (eda < (20000 + (len : Int) % 9)) = false := by simpa using hpb
                  clear hpb
                  have y0 : wc.cell? ⟨gy, 0, none⟩ = some (.string eid) := hy3.cell 0 _ rfl
                  have y1 : wc.cell? ⟨gy, 1, none⟩ = some (.string eti) := hy3.cell 1 _ rfl
                  have y2 : wc.cell? ⟨gy, 2, none⟩ = some (.int .i64 eda) := hy3.cell 2 _ rfl
                  have y3 : wc.cell? ⟨gy, 3, none⟩ = some (.bool true) := hy3.cell 3 _ rfl
                  have y4 : wc.cell? ⟨gy, 4, none⟩ = some (.bool false) := hy3.cell 4 _ rfl
                  have f0 : wc.cell? ⟨gf, 0, none⟩ = some (.string eid) := hf.cell 0 _ rfl
                  have f1 : wc.cell? ⟨gf, 1, none⟩ = some (.string eti) := hf.cell 1 _ rfl
                  have f2 : wc.cell? ⟨gf, 2, none⟩ = some (.int .i64 eda) := hf.cell 2 _ rfl
                  have f3 : wc.cell? ⟨gf, 3, none⟩ = some (.bool true) := hf.cell 3 _ rfl
                  have f4 : wc.cell? ⟨gf, 4, none⟩ = some (.bool false) := hf.cell 4 _ rfl
                  go_wp2
                  go_roundw
                  case rel => exact ⟨q + 1, by omega, by go_num, HPW3⟩
                  case measure => simp [intOf]; omega
end Go.Proofs.Ytffkakpbelknaaa

/- Parts of the proof. -/
import Derived.Test.YtffkakpbelknaaaGreatDoorO19
set_option maxHeartbeats 4000000
set_option maxRecDepth 100000
namespace Go.Proofs.YtffkakpbelknaaaGreatDoor
open Go.ChangeShapes Go.WideShapes Go.ChangeAt Go.RowKit
set_option linter.unusedVariables false
def allB (n : Nat) (f : Nat -> Bool) : Bool := (List.range n).all f
theorem allB_out {n : Nat} {f : Nat -> Bool} (k : Nat) (h : k < n) (hf : f k = false) : allB n f = false := by
 cases hw : allB n f with
 | false => rfl
 | true =>
  unfold allB at hw
  have := List.all_eq_true.1 hw k (List.mem_range.2 h)
  rw [hf] at this
  cases this
theorem allB_end {n : Nat} {f : Nat -> Bool} (k : Nat) (h : ¬ k < n) (hb : ∀ j, j < k -> f j = true) : allB n f = true := by
 unfold allB
 refine List.all_eq_true.2 (fun j hj => hb j ?_)
 have := List.mem_range.1 hj
 omega
theorem allB_at {n : Nat} {f : Nat -> Bool} (h : allB n f = true) (k : Nat) (hk : k < n) : f k = true := List.all_eq_true.1 h k (List.mem_range.2 hk)
theorem allB_and (n : Nat) (f g : Nat -> Bool) : allB n (fun k => f k && g k) = (allB n f && allB n g) := by
 rw [Bool.eq_iff_iff]
 simp only [allB, List.all_eq_true, Bool.and_eq_true]
 exact ⟨fun h => ⟨fun j hj => (h j hj).1, fun j hj => (h j hj).2⟩, fun h j hj => ⟨h.1 j hj, h.2 j hj⟩⟩
def ordK (ks : List ByteArray) (k : Nat) : Bool := match k with
 | 0 => true
 | q + 1 => match ks[q]?, ks[q + 1]? with
  | some x, some y => Op.bytesLess x.toList y.toList
  | _, _ => true
theorem ordK_at {α : Type} (f : α -> ByteArray) (l : List α) (q : Nat) (h : q + 1 < l.length) : ordK (l.map f) (q + 1) = Op.bytesLess (f l[q]).toList (f l[q + 1]).toList := by
 show (match (l.map f)[q]?, (l.map f)[q + 1]? with | some x, some y => Op.bytesLess x.toList y.toList | _, _ => true) = _
 rw [List.getElem?_map, List.getElem?_map, List.getElem?_eq_getElem h, List.getElem?_eq_getElem (show q < l.length by omega)]
 rfl
def risB (ks : List ByteArray) : Bool := allB ks.length (ordK ks)
structure En where
 it : It
 rd : Bool
 st : Bool
abbrev enV (s t : ByteArray) (d : Int) (r b : Bool) : Value := .agg #[.string s, .string t, .int .i64 d, .bool r, .bool b]
def enC (x : En) : List Value := [.string x.it.id, .string x.it.ti, .int .i64 x.it.da, .bool x.rd, .bool x.st]
theorem enC_len (x : En) : (enC x).length = 5 := rfl
abbrev en0 : En := ⟨⟨ByteArray.empty, ByteArray.empty, 0⟩, false, false⟩
def EnSz (x : En) : Prop := x.it.id.size <= maxLen /\ x.it.ti.size <= maxLen
def EnAt (w : World) (B : Nat) (v : Value) (es : List En) : Prop := RecAt 5 enC w B v es /\ ∀ x ∈ es, EnSz x
theorem EnAt.raw {w : World} {B : Nat} {v : Value} {es : List En} (h : EnAt w B v es) : ∃ a cap, v = .slice a es.length cap /\ es.length <= cap /\ cap <= maxLen /\
  ∀ j, j < es.length -> ∃ b off, a = some ⟨b, off, none⟩ /\ b < B /\ ∀ i (h : i < es.length), w.cell? ⟨b, off + i * 5, none⟩ = some (.string es[i].it.id) /\ w.cell? ⟨b, off + i * 5 + 1, none⟩ = some (.string es[i].it.ti) /\ w.cell? ⟨b, off + i * 5 + 2, none⟩ = some (.int .i64 es[i].it.da) /\ w.cell? ⟨b, off + i * 5 + 3, none⟩ = some (.bool es[i].rd) /\ w.cell? ⟨b, off + i * 5 + 4, none⟩ = some (.bool es[i].st) /\ es[i].it.id.size <= maxLen /\ es[i].it.ti.size <= maxLen := by
 obtain ⟨⟨a, cap, hv, h1, h2, hc⟩, hs⟩ := h
 refine ⟨a, cap, hv, h1, h2, fun j hj => ?_⟩
 obtain ⟨b, off, ha, hB, hr⟩ := hc (by omega)
 exact ⟨b, off, ha, hB, fun i hi => ⟨hr i hi 0 _ rfl, hr i hi 1 _ rfl, hr i hi 2 _ rfl, hr i hi 3 _ rfl, hr i hi 4 _ rfl, (hs _ (List.getElem_mem hi)).1, (hs _ (List.getElem_mem hi)).2⟩⟩
theorem EnAt.below {w w' : World} {B : Nat} {v : Value} {es : List En} (h : EnAt w B v es) (hb : Below B w w') : EnAt w' B v es := ⟨h.1.below hb, h.2⟩
theorem EnAt.mono {w : World} {B B' : Nat} {v : Value} {es : List En} (h : EnAt w B v es) (hb : B <= B') : EnAt w B' v es := ⟨h.1.mono hb, h.2⟩
theorem EnAt.drew {w : World} {B : Nat} {v : Value} {es : List En} (h : EnAt w B v es) : EnAt w.drew B v es := h
theorem EnAt.of_own {e : TypeId} {w : World} {base : Nat} {v : Value} {es : List En} (h : OwnR e 5 enC w base v es) (hs : ∀ x ∈ es, EnSz x) : EnAt w w.heap.size v es := ⟨h.at enC_len, hs⟩
structure Sb where
 u : ByteArray
 t : ByteArray
 es : List En
abbrev sbV (u t : ByteArray) (x : Value) : Value := .agg #[.string u, .string t, x]
def sbC (p : Sb × Value) : List Value := [.string p.1.u, .string p.1.t, p.2]
theorem sbC_len (p : Sb × Value) : (sbC p).length = 3 := rfl
def SbSz (s : Sb) : Prop := s.u.size <= maxLen /\ s.t.size <= maxLen
def SbAt (w : World) (B : Nat) (v : Value) (ss : List Sb) : Prop := ∃ ps : List (Sb × Value), ps.map Prod.fst = ss /\ RecAt 3 sbC w B v ps /\ ∀ p ∈ ps, EnAt w B p.2 p.1.es /\ SbSz p.1
theorem SbAt.raw {w : World} {B : Nat} {v : Value} {ss : List Sb} (h : SbAt w B v ss) : ∃ a cap, v = .slice a ss.length cap /\ ss.length <= cap /\ cap <= maxLen /\
  ∀ j, j < ss.length -> ∃ b off, a = some ⟨b, off, none⟩ /\ b < B /\ ∀ i (h : i < ss.length), ∃ x, w.cell? ⟨b, off + i * 3, none⟩ = some (.string ss[i].u) /\ w.cell? ⟨b, off + i * 3 + 1, none⟩ = some (.string ss[i].t) /\ w.cell? ⟨b, off + i * 3 + 2, none⟩ = some x /\ EnAt w B x ss[i].es /\ ss[i].u.size <= maxLen /\ ss[i].t.size <= maxLen := by
 obtain ⟨ps, rfl, ⟨a, cap, hv, h1, h2, hc⟩, hs⟩ := h
 refine ⟨a, cap, by rw [List.length_map]; exact hv, by rw [List.length_map]; exact h1, h2, fun j hj => ?_⟩
 rw [List.length_map] at hj
 obtain ⟨b, off, ha, hB, hr⟩ := hc (by omega)
 refine ⟨b, off, ha, hB, fun i hi => ?_⟩
 have hi' : i < ps.length := by rwa [List.length_map] at hi
 have hm := hs _ (List.getElem_mem hi')
 rw [List.getElem_map]
 exact ⟨_, hr i hi' 0 _ rfl, hr i hi' 1 _ rfl, hr i hi' 2 _ rfl, hm.1, hm.2.1, hm.2.2⟩
theorem SbAt.below {w w' : World} {B : Nat} {v : Value} {ss : List Sb} (h : SbAt w B v ss) (hb : Below B w w') : SbAt w' B v ss := by
 obtain ⟨ps, h1, h2, h3⟩ := h
 exact ⟨ps, h1, h2.below hb, fun p hp => ⟨(h3 p hp).1.below hb, (h3 p hp).2⟩⟩
theorem SbAt.mono {w : World} {B B' : Nat} {v : Value} {ss : List Sb} (h : SbAt w B v ss) (hb : B <= B') : SbAt w B' v ss := by
 obtain ⟨ps, h1, h2, h3⟩ := h
 exact ⟨ps, h1, h2.mono hb, fun p hp => ⟨(h3 p hp).1.mono hb, (h3 p hp).2⟩⟩
theorem SbAt.drew {w : World} {B : Nat} {v : Value} {ss : List Sb} (h : SbAt w B v ss) : SbAt w.drew B v ss := h
theorem SbAt.size {w : World} {B : Nat} {v : Value} {ss : List Sb} (h : SbAt w B v ss) : ∀ s ∈ ss, SbSz s /\ ∀ x ∈ s.es, EnSz x := by
 obtain ⟨ps, rfl, _, h3⟩ := h
 intro s hs
 obtain ⟨p, hp, rfl⟩ := List.mem_map.1 hs
 exact ⟨(h3 p hp).2, (h3 p hp).1.2⟩
def enB (es : List En) (k : Nat) : Bool := match es[k]? with
 | some x => itB x.it.id x.it.ti x.it.da
 | none => true
theorem enB_at (es : List En) (k : Nat) (h : k < es.length) : enB es k = itB es[k].it.id es[k].it.ti es[k].it.da := by
 unfold enB; rw [List.getElem?_eq_getElem h]
def enKs (es : List En) : List ByteArray := es.map fun x => x.it.id
def ensB (es : List En) : Bool := allB es.length (enB es) && risB (enKs es)
def sbB (s : Sb) : Bool := nmB s.u 20 && ttB s.t && decide (s.es.length <= 12) && ensB s.es
def sbsB (ss : List Sb) (k : Nat) : Bool := match ss[k]? with
 | some x => sbB x
 | none => true
theorem sbsB_at (ss : List Sb) (k : Nat) (h : k < ss.length) : sbsB ss k = sbB ss[k] := by
 unfold sbsB; rw [List.getElem?_eq_getElem h]
def sbKs (ss : List Sb) : List ByteArray := ss.map fun x => x.u
def rdB (ss : List Sb) : Bool := decide (ss.length <= 6) && (allB ss.length (sbsB ss) && risB (sbKs ss))
end Go.Proofs.YtffkakpbelknaaaGreatDoor
namespace Go.Proofs.YtffkakpbelknaaaGreatDoor
open Go.ChangeShapes Go.WideShapes Go.ChangeAt Go.RowKit
set_option linter.unusedVariables false
def enO (es : List En) (k : Nat) : Bool := enB es k && ordK (enKs es) k
theorem ensB_enO (es : List En) : ensB es = allB es.length (enO es) := by
 unfold ensB enO risB
 rw [allB_and]
 congr 2
 simp [enKs]
theorem l9Entries_any (v : Value) (es : List En) (w : World) (h : EnAt w w.heap.size v es) :
  Calls Tryz.prog 111 #[v] w fun e w' => e = .returned (.bool (ensB es && decide (es.length <= 12))) /\ Below w.heap.size w w' := by
 have HI := Lib.hid h
 obtain ⟨a, cap, rfl, hl, hm, hc⟩ := h.raw
 clear hc h
 unfold maxLen at hm
 have HX : Hid (∀ k, k < es.length -> enO es k = false -> ensB es = false) := Lib.hid (fun k hk h => by rw [ensB_enO]; exact allB_out k hk h)
 have HD : Hid (∀ k, ¬ k < es.length -> (∀ j, j < k -> enO es j = true) -> ensB es = true) := Lib.hid (fun k hk h => by rw [ensB_enO]; exact allB_end k hk h)
 generalize ensB es = R0 at HX HD ⊢
 go_enter Tryz.func111, Tryz.ntmps111
 go_wp2
 go_loopw [3] (fun i wr => ∃ k : Nat, k <= es.length /\ i = .int .i64 (k : Int) /\ Below w.heap.size w wr /\ Hid (∀ j, j < k -> enO es j = true)) (fun i _ => es.length - (intOf i).toNat)
 case atStart => exact ⟨0, Nat.zero_le _, rfl, Below.refl _ _, Lib.hid (fun j hj => by omega)⟩
 case round =>
  obtain ⟨k, hk, rfl, hB, HO⟩ := hrel
  by_cases hlt : k < es.length
  ·obtain ⟨a', cap', hv, _, _, hc⟩ := (HI.out.below hB).raw
   cases hv
   obtain ⟨b, off, rfl, hb, hr⟩ := hc k hlt
   obtain ⟨c0, c1, c2, _, _, s0, s1⟩ := hr k hlt
   have HC := Lib.hid (fun w => l8Item_any es[k].it.id es[k].it.ti es[k].it.da w s0 s1)
   have HK : Hid (enO es k = (itB es[k].it.id es[k].it.ti es[k].it.da && ordK (enKs es) k)) := Lib.hid (by unfold enO; rw [enB_at es k hlt])
   have HP : Hid (∀ q (hq : k = q + 1), wr.cell? ⟨b, off + q * 5, none⟩ = some (.string (es[q]'(by omega)).it.id) /\ ordK (enKs es) k = Op.bytesLess (es[q]'(by omega)).it.id.toList es[k].it.id.toList) := Lib.hid (fun q hq => by subst hq; exact ⟨(hr q (by omega)).1, ordK_at _ es q hlt⟩)
   generalize itB es[k].it.id es[k].it.ti es[k].it.da = R at HC HK
   obtain ⟨S, hS⟩ : ∃ S, S = es[k].it.id := ⟨_, rfl⟩
   obtain ⟨T, hT⟩ : ∃ T, T = es[k].it.ti := ⟨_, rfl⟩
   obtain ⟨D, hD⟩ : ∃ D, D = es[k].it.da := ⟨_, rfl⟩
   rw [<- hS] at c0 HC HP
   rw [<- hT] at c1 HC
   rw [<- hD] at c2 HC
   clear hr hc hS hT hD s0 s1
   cases R with
   | false =>
    have HZ : Hid (R0 = false) := Lib.hid (HX.out k hlt (by rw [HK.out]; rfl))
    go_wp2
    have hA2 : (fun w' => w'.cell? ⟨b, off + k * 5, none⟩ = some (.string S) /\ w'.cell? ⟨b, off + k * 5 + 1, none⟩ = some (.string T) /\ w'.cell? ⟨b, off + k * 5 + 2, none⟩ = some (.int .i64 D)) wr.drew := ⟨c0, c1, c2⟩
    have hB2 := hB.drew
    clear hB c0 c1 c2
    refine wp_region_T (fun w' => w'.cell? ⟨b, off + k * 5, none⟩ = some (.string S) /\ w'.cell? ⟨b, off + k * 5 + 1, none⟩ = some (.string T) /\ w'.cell? ⟨b, off + k * 5 + 2, none⟩ = some (.int .i64 D)) (fun _ => True) 26 (by kernel_rfl) 27 rfl ?_
    refine wA 22 [0, 1, 2, 3, 4] ⟨hA2, fun _ => trivial⟩ ?_
    simp only [pick, List.filterMap_cons, List.filterMap_nil, List.getElem?_cons_zero, List.getElem?_cons_succ]
    refine wS (.slice (some ⟨b, off, none⟩) es.length cap) (fun w hw => by go_simp) ?_
    refine wS (.int .i64 (k : Int)) (fun w hw => by go_simp) ?_
    refine wS (.pointer (some ⟨b, off + k * 5, none⟩)) (fun w hw => by go_simp) ?_
    refine wS (.pointer (some ⟨b, off + k * 5, none⟩)) (fun w hw => by go_simp) ?_
    refine wS (itV S T D) (fun w hw => by have e0 := hw.1; have e1 := hw.2.1; have e2 := hw.2.2; go_simp) ?_
    refine wpIf_nil (fun hS => ?_)
    refine wO 5 21 (fun K hK => ?_)
    go_simp
    refine (HC.out _).mono ?_
    rintro e v1 ⟨rfl, hb1⟩
    have hbl : b < wr.drew.heap.size := by have := hB2.size; omega
    have hkc : ∀ o x, wr.drew.cell? ⟨b, o, none⟩ = some x -> v1.cell? ⟨b, o, none⟩ = some x := fun o x hx => by rw [hb1.cell (p := ⟨b, o, none⟩) hbl]; exact hx
    have hA3 : (fun w' => w'.cell? ⟨b, off + k * 5, none⟩ = some (.string S) /\ w'.cell? ⟨b, off + k * 5 + 1, none⟩ = some (.string T) /\ w'.cell? ⟨b, off + k * 5 + 2, none⟩ = some (.int .i64 D)) v1 := ⟨hkc _ _ hA2.1, hkc _ _ hA2.2.1, hkc _ _ hA2.2.2⟩
    have hB3 := hB2.trans (hb1.mono hB2.size)
    refine hK _ _ ⟨hA3, fun _ => trivial⟩ (fun hS3 => ?_)
    clear hK K hS hb1 hA2 hB2 hkc hbl
    refine wA 1 [6, 7, 8, 9, 10, 11, 12, 13, 14, 15, 16, 17, 18, 19, 20, 21, 22, 23, 24, 25] hS3 ?_
    simp only [pick, List.filterMap_cons, List.filterMap_nil, List.getElem?_cons_zero, List.getElem?_cons_succ]
    refine wS (.bool true) (fun w hw => by go_simp) ?_
    refine wS (.bool true) (fun w hw => by go_simp) ?_
    iterate 18 (refine wpIf_skip (by kernel_rfl) ?_)
    refine wpIf_nil (fun hS => ?_)
    refine wO 26 0 (fun K hK => ?_)
    go_simp
    refine hK _ _ ⟨hA3, fun _ => trivial⟩ (fun hS4 => ?_)
    clear hK K
    refine wpAnyT_over (by kernel_rfl) ?_
    go_wp2
    go_ret
    exact ⟨ret_bool (by rw [HZ.out]; rfl), hB3⟩
   | true =>
    rcases Nat.eq_zero_or_pos k with hk0 | hk0
    ·have Hk0 : Hid (¬ (0 : Int) < (k : Int)) := Lib.hid (by omega)
     have HO' : Hid (∀ j, j < k + 1 -> enO es j = true) := Lib.hid (fun j hj => by
      have : j = k := by omega
      subst this; rw [HK.out]; subst hk0; rfl)
     clear hk0
     go_wp2
     have hA2 : (fun w' => w'.cell? ⟨b, off + k * 5, none⟩ = some (.string S) /\ w'.cell? ⟨b, off + k * 5 + 1, none⟩ = some (.string T) /\ w'.cell? ⟨b, off + k * 5 + 2, none⟩ = some (.int .i64 D)) wr.drew := ⟨c0, c1, c2⟩
     have hB2 := hB.drew
     clear hB c0 c1 c2
     refine wp_region_T (fun w' => w'.cell? ⟨b, off + k * 5, none⟩ = some (.string S) /\ w'.cell? ⟨b, off + k * 5 + 1, none⟩ = some (.string T) /\ w'.cell? ⟨b, off + k * 5 + 2, none⟩ = some (.int .i64 D)) (fun _ => True) 26 (by kernel_rfl) 27 rfl ?_
     refine wA 22 [0, 1, 2, 3, 4] ⟨hA2, fun _ => trivial⟩ ?_
     simp only [pick, List.filterMap_cons, List.filterMap_nil, List.getElem?_cons_zero, List.getElem?_cons_succ]
     refine wS (.slice (some ⟨b, off, none⟩) es.length cap) (fun w hw => by go_simp) ?_
     refine wS (.int .i64 (k : Int)) (fun w hw => by go_simp) ?_
     refine wS (.pointer (some ⟨b, off + k * 5, none⟩)) (fun w hw => by go_simp) ?_
     refine wS (.pointer (some ⟨b, off + k * 5, none⟩)) (fun w hw => by go_simp) ?_
     refine wS (itV S T D) (fun w hw => by have e0 := hw.1; have e1 := hw.2.1; have e2 := hw.2.2; go_simp) ?_
     refine wpIf_nil (fun hS => ?_)
     refine wO 5 21 (fun K hK => ?_)
     go_simp
     refine (HC.out _).mono ?_
     rintro e v1 ⟨rfl, hb1⟩
     have hbl : b < wr.drew.heap.size := by have := hB2.size; omega
     have hkc : ∀ o x, wr.drew.cell? ⟨b, o, none⟩ = some x -> v1.cell? ⟨b, o, none⟩ = some x := fun o x hx => by rw [hb1.cell (p := ⟨b, o, none⟩) hbl]; exact hx
     have hA3 : (fun w' => w'.cell? ⟨b, off + k * 5, none⟩ = some (.string S) /\ w'.cell? ⟨b, off + k * 5 + 1, none⟩ = some (.string T) /\ w'.cell? ⟨b, off + k * 5 + 2, none⟩ = some (.int .i64 D)) v1 := ⟨hkc _ _ hA2.1, hkc _ _ hA2.2.1, hkc _ _ hA2.2.2⟩
     have hB3 := hB2.trans (hb1.mono hB2.size)
     refine hK _ _ ⟨hA3, fun _ => trivial⟩ (fun hS3 => ?_)
     clear hK K hS hb1 hA2 hB2 hkc hbl
     refine wA 1 [6, 7, 8, 9, 10, 11, 12, 13, 14, 15, 16, 17, 18, 19, 20, 21, 22, 23, 24, 25] hS3 ?_
     simp only [pick, List.filterMap_cons, List.filterMap_nil, List.getElem?_cons_zero, List.getElem?_cons_succ]
     refine wS (.bool false) (fun w hw => by go_simp) ?_
     refine wS (.bool false) (fun w hw => by go_simp) ?_
     refine wS (.int .i64 (k : Int)) (fun w hw => by go_simp) ?_
     refine wS (.bool false) (fun w hw => by have hk0 := Hk0.out; go_simp; try omega) ?_
     refine wS (.bool false) (fun w hw => by go_simp) ?_
     iterate 14 (refine wpIf_skip (by kernel_rfl) ?_)
     refine wS (.bool false) (fun w hw => by go_simp) ?_
     refine wpIf_nil (fun hS => ?_)
     refine wO 26 0 (fun K hK => ?_)
     go_simp
     refine hK _ _ ⟨hA3, fun _ => trivial⟩ (fun hS4 => ?_)
     clear hK K
     refine wpAnyT_over (by kernel_rfl) ?_
     go_wp2
     go_roundw
     case rel => exact ⟨k + 1, by omega, by go_num, hB3, HO'⟩
     case measure => simp [intOf]; omega
    ·obtain ⟨q, hq⟩ : ∃ q, k = q + 1 := ⟨k - 1, by omega⟩
     obtain ⟨c4, hord⟩ := HP.out q hq
     have hql : q < es.length := by omega
     obtain ⟨P, hP⟩ : ∃ P, P = es[q].it.id := ⟨_, rfl⟩
     rw [<- hP] at c4 hord
     obtain ⟨L, hL⟩ : ∃ L, L = Op.bytesLess P.toList S.toList := ⟨_, rfl⟩
     rw [<- hL] at hord
     have HLO := Lib.hid hord
     have HL := Lib.hid hL.symm
     have Hk1 : Hid ((0 : Int) < (k : Int)) := Lib.hid (by omega)
     have Hk2 : Hid (IntKind.i64.wrap ((k : Int) - 1) = (q : Int)) := Lib.hid (by rw [hq]; simp; exact IntWalk.i64_in _ (by omega))
     clear hq hord hL hP hk0
     go_wp2
     have hA2 : (fun w' => w'.cell? ⟨b, off + k * 5, none⟩ = some (.string S) /\ w'.cell? ⟨b, off + k * 5 + 1, none⟩ = some (.string T) /\ w'.cell? ⟨b, off + k * 5 + 2, none⟩ = some (.int .i64 D) /\ w'.cell? ⟨b, off + q * 5, none⟩ = some (.string P)) wr.drew := ⟨c0, c1, c2, c4⟩
     have hB2 := hB.drew
     clear hB c0 c1 c2 c4
     refine wp_region_T (fun w' => w'.cell? ⟨b, off + k * 5, none⟩ = some (.string S) /\ w'.cell? ⟨b, off + k * 5 + 1, none⟩ = some (.string T) /\ w'.cell? ⟨b, off + k * 5 + 2, none⟩ = some (.int .i64 D) /\ w'.cell? ⟨b, off + q * 5, none⟩ = some (.string P)) (fun _ => True) 26 (by kernel_rfl) 27 rfl ?_
     refine wA 22 [0, 1, 2, 3, 4] ⟨hA2, fun _ => trivial⟩ ?_
     simp only [pick, List.filterMap_cons, List.filterMap_nil, List.getElem?_cons_zero, List.getElem?_cons_succ]
     refine wS (.slice (some ⟨b, off, none⟩) es.length cap) (fun w hw => by go_simp) ?_
     refine wS (.int .i64 (k : Int)) (fun w hw => by go_simp) ?_
     refine wS (.pointer (some ⟨b, off + k * 5, none⟩)) (fun w hw => by go_simp) ?_
     refine wS (.pointer (some ⟨b, off + k * 5, none⟩)) (fun w hw => by go_simp) ?_
     refine wS (itV S T D) (fun w hw => by have e0 := hw.1; have e1 := hw.2.1; have e2 := hw.2.2.1; have e4 := hw.2.2.2; go_simp) ?_
     refine wpIf_nil (fun hS => ?_)
     refine wO 5 21 (fun K hK => ?_)
     go_simp
     refine (HC.out _).mono ?_
     rintro e v1 ⟨rfl, hb1⟩
     have hbl : b < wr.drew.heap.size := by have := hB2.size; omega
     have hkc : ∀ o x, wr.drew.cell? ⟨b, o, none⟩ = some x -> v1.cell? ⟨b, o, none⟩ = some x := fun o x hx => by rw [hb1.cell (p := ⟨b, o, none⟩) hbl]; exact hx
     have hA3 : (fun w' => w'.cell? ⟨b, off + k * 5, none⟩ = some (.string S) /\ w'.cell? ⟨b, off + k * 5 + 1, none⟩ = some (.string T) /\ w'.cell? ⟨b, off + k * 5 + 2, none⟩ = some (.int .i64 D) /\ w'.cell? ⟨b, off + q * 5, none⟩ = some (.string P)) v1 := ⟨hkc _ _ hA2.1, hkc _ _ hA2.2.1, hkc _ _ hA2.2.2.1, hkc _ _ hA2.2.2.2⟩
     have hB3 := hB2.trans (hb1.mono hB2.size)
     refine hK _ _ ⟨hA3, fun _ => trivial⟩ (fun hS3 => ?_)
     clear hK K hS hb1 hA2 hB2 hkc hbl
     refine wA 1 [6, 7, 8, 9, 10, 11, 12, 13, 14, 15, 16, 17, 18, 19, 20, 21, 22, 23, 24, 25] hS3 ?_
     simp only [pick, List.filterMap_cons, List.filterMap_nil, List.getElem?_cons_zero, List.getElem?_cons_succ]
     refine wS (.bool false) (fun w hw => by go_simp) ?_
     refine wS (.bool false) (fun w hw => by go_simp) ?_
     refine wS (.int .i64 (k : Int)) (fun w hw => by go_simp) ?_
     refine wS (.bool true) (fun w hw => by have hk0 := Hk1.out; go_simp; try omega) ?_
     refine wS (.bool true) (fun w hw => by go_simp) ?_
     refine wS (.slice (some ⟨b, off, none⟩) es.length cap) (fun w hw => by go_simp) ?_
     refine wS (.int .i64 (k : Int)) (fun w hw => by go_simp) ?_
     refine wS (.int .i64 (q : Int)) (fun w hw => by have hk2 := Hk2.out; go_simp) ?_
     refine wS (.pointer (some ⟨b, off + q * 5, none⟩)) (fun w hw => by go_simp) ?_
     refine wS (.pointer (some ⟨b, off + q * 5, none⟩)) (fun w hw => by go_simp) ?_
     refine wS (.pointer (some ⟨b, off + q * 5, none⟩)) (fun w hw => by go_simp) ?_
     refine wS (.string P) (fun w hw => by have e0 := hw.1; have e1 := hw.2.1; have e2 := hw.2.2.1; have e4 := hw.2.2.2; go_simp) ?_
     refine wS (.slice (some ⟨b, off, none⟩) es.length cap) (fun w hw => by go_simp) ?_
     refine wS (.int .i64 (k : Int)) (fun w hw => by go_simp) ?_
     refine wS (.pointer (some ⟨b, off + k * 5, none⟩)) (fun w hw => by go_simp) ?_
     refine wS (.pointer (some ⟨b, off + k * 5, none⟩)) (fun w hw => by go_simp) ?_
     refine wS (.pointer (some ⟨b, off + k * 5, none⟩)) (fun w hw => by go_simp) ?_
     refine wS (.string S) (fun w hw => by have e0 := hw.1; have e1 := hw.2.1; have e2 := hw.2.2.1; have e4 := hw.2.2.2; go_simp) ?_
     refine wS (.bool (!L)) (fun w hw => by have hL := HL.out; go_simp) ?_
     refine wS (.bool (!L)) (fun w hw => by go_simp) ?_
     refine wpIf_nil (fun hS => ?_)
     refine wO 26 0 (fun K hK => ?_)
     go_simp
     refine hK _ _ ⟨hA3, fun _ => trivial⟩ (fun hS4 => ?_)
     clear hK K
     refine wpAnyT_over (by kernel_rfl) ?_
     cases L with
     | false =>
      have HZ : Hid (R0 = false) := Lib.hid (HX.out k hlt (by rw [HK.out, HLO.out]; rfl))
      go_wp2
      go_ret
      exact ⟨ret_bool (by rw [HZ.out]; rfl), hB3⟩
     | true =>
      have HO' : Hid (∀ j, j < k + 1 -> enO es j = true) := Lib.hid (fun j hj => by
       by_cases hjk : j = k
       ·subst hjk; rw [HK.out, HLO.out]; rfl
       ·exact HO.out j (by omega))
      go_wp2
      go_roundw
      case rel => exact ⟨k + 1, by omega, by go_num, hB3, HO'⟩
      case measure => simp [intOf]; omega
  ·have HZ : Hid (R0 = true) := Lib.hid (HD.out k hlt HO.out)
   by_cases h12 : es.length <= 12
   ·have h12' : decide ((es.length : Int) <= 12) = true := decide_eq_true (by omega)
    go_wp2
    go_ret
    exact ⟨ret_bool (by rw [HZ.out]; simp [h12]), hB⟩
   ·have h12' : decide ((es.length : Int) <= 12) = false := decide_eq_false (by omega)
    go_wp2
    go_ret
    exact ⟨ret_bool (by rw [HZ.out]; simp [h12]), hB⟩
end Go.Proofs.YtffkakpbelknaaaGreatDoor
namespace Go.Proofs.YtffkakpbelknaaaGreatDoor
open Go.ChangeShapes Go.WideShapes Go.ChangeAt Go.RowKit
set_option linter.unusedVariables false
theorem wpAnyT_skip {P : Program} {md : Region.Mode} {Q : Exit -> Act -> World -> Prop} {A B : World -> Prop} {t : Nat} {l : List Oper} {L : Array Bool} {a : Act} {w : World} (i g : Nat) {o : Oper} (hr : Region.ready md l.toArray L = [i]) (ho : l[i]? = some o) (hw : Region.wanted o (yielded l.toArray a.tmps) = false)
  (hS : Sx A B t (L.setIfInBounds i true) w) (h : wpAnyT P md l.toArray Q A B t g (L.setIfInBounds i true) (a.put o.dst undef) w) : wpAnyT P md l.toArray Q A B t (g + 1) L a w := by
 refine ⟨fun h0 => (by rw [hr] at h0; cases h0), fun j hj => ?_⟩
 rw [hr] at hj
 have : j = i := by simpa using hj
 subst this
 unfold wpOp
 have ho' : l.toArray[j]? = some o := by simpa using ho
 simp only [ho']
 rw [if_neg (by rw [hw]; simp)]
 exact ⟨hS, h⟩
def sbO (ss : List Sb) (k : Nat) : Bool := sbsB ss k && ordK (sbKs ss) k
theorem rdB_sbO (ss : List Sb) : rdB ss = (allB ss.length (sbO ss) && decide (ss.length <= 6)) := by
 unfold rdB sbO risB
 rw [allB_and]
 have : (sbKs ss).length = ss.length := by simp [sbKs]
 rw [this]
 cases decide (ss.length <= 6) <;> cases allB ss.length (sbsB ss) <;> cases allB ss.length (ordK (sbKs ss)) <;> rfl
theorem sbB_three (s : Sb) : sbB s = (nmB s.u 20 && ttB s.t && (ensB s.es && decide (s.es.length <= 12))) := by
 unfold sbB
 cases nmB s.u 20 <;> cases ttB s.t <;> cases ensB s.es <;> cases decide (s.es.length <= 12) <;> rfl
theorem specReaderOk_any (v : Value) (ss : List Sb) (w : World) (h : SbAt w w.heap.size v ss) :
  Calls Tryz.prog 67 #[.agg #[v]] w fun e w' => e = .returned (.bool (rdB ss)) /\ Below w.heap.size w w' := by
 have HI := Lib.hid h
 obtain ⟨a, cap, rfl, hl, hm, hc⟩ := h.raw
 clear hc h
 unfold maxLen at hm
 have HX : Hid (∀ k, k < ss.length -> sbO ss k = false -> allB ss.length (sbO ss) = false) := Lib.hid (fun k hk h => allB_out k hk h)
 have HD : Hid (∀ k, ¬ k < ss.length -> (∀ j, j < k -> sbO ss j = true) -> allB ss.length (sbO ss) = true) := Lib.hid (fun k hk h => allB_end k hk h)
 rw [rdB_sbO]
 generalize allB ss.length (sbO ss) = R0 at HX HD ⊢
 have hB0 : Below w.heap.size w (w.alloc (.cells #[.slice a ss.length cap] 42)) := (Below.refl _ _).alloc (Nat.le_refl _) _
 have hF0 := Box.new w #[.slice a ss.length cap] 42
 go_enter Tryz.func67, Tryz.ntmps67
 go_wp2
 go_loopw [3] (fun i wr => ∃ k : Nat, k <= ss.length /\ i = .int .i64 (k : Int) /\ Box wr w.heap.size #[.slice a ss.length cap] 42 /\ Below w.heap.size w wr /\ Hid (∀ j, j < k -> sbO ss j = true)) (fun i _ => ss.length - (intOf i).toNat)
 case atStart => exact ⟨0, Nat.zero_le _, rfl, hF0, hB0, Lib.hid (fun j hj => by omega)⟩
 case round =>
  obtain ⟨k, hk, rfl, hF, hB, HO⟩ := hrel
  have f0 := hF.cell 0 _ rfl
  clear hF0 hB0
  by_cases hlt : k < ss.length
  ·obtain ⟨a', cap', hv, _, _, hc⟩ := (HI.out.below hB).raw
   cases hv
   obtain ⟨b, off, rfl, hb, hr⟩ := hc k hlt
   obtain ⟨x, c0, c1, c2, hx, s0, s1⟩ := hr k hlt
   have HN := Lib.hid (fun w => l8Name_any ss[k].u 20 w s0)
   have HT := Lib.hid (fun w => l8Title_any ss[k].t w s1)
   have HC := Lib.hid (fun w (hy : EnAt w w.heap.size x ss[k].es) => l9Entries_any x ss[k].es w hy)
   have HK : Hid (sbO ss k = (nmB ss[k].u 20 && ttB ss[k].t && (ensB ss[k].es && decide (ss[k].es.length <= 12)) && ordK (sbKs ss) k)) := Lib.hid (by unfold sbO; rw [sbsB_at ss k hlt, sbB_three])
   have HP : Hid (∀ q (hq : k = q + 1), wr.cell? ⟨b, off + q * 3, none⟩ = some (.string (ss[q]'(by omega)).u) /\ ordK (sbKs ss) k = Op.bytesLess (ss[q]'(by omega)).u.toList ss[k].u.toList) := Lib.hid (fun q hq => by
    subst hq
    obtain ⟨_, hc0, _⟩ := hr q (by omega)
    exact ⟨hc0, ordK_at _ ss q hlt⟩)
   generalize nmB ss[k].u 20 = A at HN HK
   generalize ttB ss[k].t = B at HT HK
   generalize (ensB ss[k].es && decide (ss[k].es.length <= 12)) = D at HC HK
   obtain ⟨xa, xc, rfl⟩ := hx.1.slice
   obtain ⟨U, hU⟩ : ∃ x, x = ss[k].u := ⟨_, rfl⟩
   obtain ⟨T, hT⟩ : ∃ x, x = ss[k].t := ⟨_, rfl⟩
   obtain ⟨E, hE⟩ : ∃ x, x = ss[k].es := ⟨_, rfl⟩
   rw [<- hE] at hx c2 HC
   rw [<- hU] at c0 HN HP
   rw [<- hT] at c1 HT
   obtain ⟨n, hn⟩ : ∃ n, n = E.length := ⟨_, rfl⟩
   rw [<- hn] at c2 hx HC
   have hbl : b < wr.heap.size := by have := hB.size; omega
   have hba : Below wr.heap.size wr (wr.alloc (.cells #[.string U, .string T, .slice xa n xc] 94)) := (Below.refl _ _).alloc (Nat.le_refl _) _
   have hB1 := hB.trans (hba.mono hB.size)
   have hx1 := ((hx.mono hB.size).below hba).mono hba.size
   have hF1 := hF.keep hba hF.lt
   have hG1 := Box.new wr #[.string U, .string T, .slice xa n xc] 94
   have Hkc : Hid (∀ o x, wr.cell? ⟨b, o, none⟩ = some x -> (wr.alloc (.cells #[.string U, .string T, .slice xa n xc] 94)).cell? ⟨b, o, none⟩ = some x) := Lib.hid (fun o x hx => by
    rw [hba.cell (p := ⟨b, o, none⟩) hbl]; exact hx)
   clear hr hc hU hT hE hn s0 s1 hx hB hF hba
   cases A with
   | false =>
    have HZ : Hid (R0 = false) := Lib.hid (HX.out k hlt (by rw [HK.out]; rfl))
    go_wp2
    generalize wr.alloc (.cells #[.string U, .string T, .slice xa n xc] 94) = W at hB1 hx1 hF1 hG1 ⊢
    have hA2 : (fun w' => Box w' w.heap.size #[.slice (some ⟨b, off, none⟩) ss.length cap] 42 /\ Box w' wr.heap.size #[.string U, .string T, .slice xa n xc] 94) W.drew := ⟨hF1, hG1⟩
    have hB2 := hB1.drew
    have hx2 := hx1.drew
    clear hB1 hx1 hF1 hG1 c0 c1 c2 f0
    refine wp_region_T (fun w' => Box w' w.heap.size #[.slice (some ⟨b, off, none⟩) ss.length cap] 42 /\ Box w' wr.heap.size #[.string U, .string T, .slice xa n xc] 94) (fun _ => True) 31 (by kernel_rfl) 32 rfl ?_
    refine wA 30 [0, 1] ⟨hA2, fun _ => trivial⟩ ?_
    simp only [pick, List.filterMap_cons, List.filterMap_nil, List.getElem?_cons_zero, List.getElem?_cons_succ]
    refine wS (.pointer (some ⟨wr.heap.size, 0, none⟩)) (fun w hw => by go_simp) ?_
    refine wS (.string U) (fun w hw => by have e0 := hw.2.cell 0 _ rfl; have e1 := hw.2.cell 1 _ rfl; have e2 := hw.2.cell 2 _ rfl; go_simp) ?_
    refine wpIf_nil (fun hS => ?_)
    clear hS
    refine wO 2 29 (fun K hK => ?_)
    go_simp
    refine (HN.out _).mono ?_
    rintro e v1 ⟨rfl, rfl⟩
    refine hK _ _ ⟨hA2, fun _ => trivial⟩ (fun hS => ?_)
    clear hK K hS
    refine wA 25 [3, 4, 5, 6] ⟨hA2, fun _ => trivial⟩ ?_
    simp only [pick, List.filterMap_cons, List.filterMap_nil, List.getElem?_cons_zero, List.getElem?_cons_succ]
    refine wS (.bool true) (fun w hw => by go_simp) ?_
    refine wS (.bool true) (fun w hw => by go_simp) ?_
    refine wpIf_skip (by kernel_rfl) ?_
    refine wpIf_skip (by kernel_rfl) ?_
    refine wpIf_nil (fun hS => ?_)
    clear hS
    refine wpAnyT_skip 7 24 (by kernel_rfl) rfl (by kernel_rfl) ⟨hA2, fun _ => trivial⟩ ?_
    refine wA 19 [8, 9, 10, 11, 12] ⟨hA2, fun _ => trivial⟩ ?_
    simp only [pick, List.filterMap_cons, List.filterMap_nil, List.getElem?_cons_zero, List.getElem?_cons_succ]
    refine wpIf_skip (by kernel_rfl) ?_
    refine wS (.bool true) (fun w hw => by go_simp) ?_
    refine wS (.bool true) (fun w hw => by go_simp) ?_
    refine wpIf_skip (by kernel_rfl) ?_
    refine wpIf_skip (by kernel_rfl) ?_
    refine wpIf_nil (fun hS => ?_)
    clear hS
    refine wpAnyT_skip 13 18 (by kernel_rfl) rfl (by kernel_rfl) ⟨hA2, fun _ => trivial⟩ ?_
    refine wA 1 [14, 15, 16, 17, 18, 19, 20, 21, 22, 23, 24, 25, 26, 27, 28, 29, 30] ⟨hA2, fun _ => trivial⟩ ?_
    simp only [pick, List.filterMap_cons, List.filterMap_nil, List.getElem?_cons_zero, List.getElem?_cons_succ]
    refine wpIf_skip (by kernel_rfl) ?_
    refine wS (.bool true) (fun w hw => by go_simp) ?_
    refine wS (.bool true) (fun w hw => by go_simp) ?_
    refine wpIf_skip (by kernel_rfl) ?_
    refine wpIf_skip (by kernel_rfl) ?_
    refine wpIf_skip (by kernel_rfl) ?_
    refine wpIf_skip (by kernel_rfl) ?_
    refine wpIf_skip (by kernel_rfl) ?_
    refine wpIf_skip (by kernel_rfl) ?_
    refine wpIf_skip (by kernel_rfl) ?_
    refine wpIf_skip (by kernel_rfl) ?_
    refine wpIf_skip (by kernel_rfl) ?_
    refine wpIf_skip (by kernel_rfl) ?_
    refine wpIf_skip (by kernel_rfl) ?_
    refine wpIf_skip (by kernel_rfl) ?_
    refine wpIf_skip (by kernel_rfl) ?_
    refine wpIf_skip (by kernel_rfl) ?_
    refine wpIf_nil (fun hS => ?_)
    clear hS
    refine wO 31 0 (fun K hK => ?_)
    go_simp
    refine hK _ _ ⟨hA2, fun _ => trivial⟩ (fun hS => ?_)
    clear hK K hS
    refine wpAnyT_over (by kernel_rfl) ?_
    go_wp2
    go_ret
    exact ⟨ret_bool (by rw [HZ.out]; simp), hB2⟩
   | true =>
    cases B with
    | false =>
     have HZ : Hid (R0 = false) := Lib.hid (HX.out k hlt (by rw [HK.out]; rfl))
     go_wp2
     generalize wr.alloc (.cells #[.string U, .string T, .slice xa n xc] 94) = W at hB1 hx1 hF1 hG1 ⊢
     have hA2 : (fun w' => Box w' w.heap.size #[.slice (some ⟨b, off, none⟩) ss.length cap] 42 /\ Box w' wr.heap.size #[.string U, .string T, .slice xa n xc] 94) W.drew := ⟨hF1, hG1⟩
     have hB2 := hB1.drew
     have hx2 := hx1.drew
     clear hB1 hx1 hF1 hG1 c0 c1 c2 f0
     refine wp_region_T (fun w' => Box w' w.heap.size #[.slice (some ⟨b, off, none⟩) ss.length cap] 42 /\ Box w' wr.heap.size #[.string U, .string T, .slice xa n xc] 94) (fun _ => True) 31 (by kernel_rfl) 32 rfl ?_
     refine wA 30 [0, 1] ⟨hA2, fun _ => trivial⟩ ?_
     simp only [pick, List.filterMap_cons, List.filterMap_nil, List.getElem?_cons_zero, List.getElem?_cons_succ]
     refine wS (.pointer (some ⟨wr.heap.size, 0, none⟩)) (fun w hw => by go_simp) ?_
     refine wS (.string U) (fun w hw => by have e0 := hw.2.cell 0 _ rfl; have e1 := hw.2.cell 1 _ rfl; have e2 := hw.2.cell 2 _ rfl; go_simp) ?_
     refine wpIf_nil (fun hS => ?_)
     clear hS
     refine wO 2 29 (fun K hK => ?_)
     go_simp
     refine (HN.out _).mono ?_
     rintro e v1 ⟨rfl, rfl⟩
     refine hK _ _ ⟨hA2, fun _ => trivial⟩ (fun hS => ?_)
     clear hK K hS
     refine wA 25 [3, 4, 5, 6] ⟨hA2, fun _ => trivial⟩ ?_
     simp only [pick, List.filterMap_cons, List.filterMap_nil, List.getElem?_cons_zero, List.getElem?_cons_succ]
     refine wS (.bool false) (fun w hw => by go_simp) ?_
     refine wS (.bool false) (fun w hw => by go_simp) ?_
     refine wS (.pointer (some ⟨wr.heap.size, 1, none⟩)) (fun w hw => by go_simp) ?_
     refine wS (.string T) (fun w hw => by have e0 := hw.2.cell 0 _ rfl; have e1 := hw.2.cell 1 _ rfl; have e2 := hw.2.cell 2 _ rfl; go_simp) ?_
     refine wpIf_nil (fun hS => ?_)
     clear hS
     refine wO 7 24 (fun K hK => ?_)
     go_simp
     refine (HT.out _).mono ?_
     rintro e v1 ⟨rfl, rfl⟩
     refine hK _ _ ⟨hA2, fun _ => trivial⟩ (fun hS => ?_)
     clear hK K hS
     refine wA 19 [8, 9, 10, 11, 12] ⟨hA2, fun _ => trivial⟩ ?_
     simp only [pick, List.filterMap_cons, List.filterMap_nil, List.getElem?_cons_zero, List.getElem?_cons_succ]
     refine wS (.bool true) (fun w hw => by go_simp) ?_
     refine wS (.bool true) (fun w hw => by go_simp) ?_
     refine wS (.bool true) (fun w hw => by go_simp) ?_
     refine wpIf_skip (by kernel_rfl) ?_
     refine wpIf_skip (by kernel_rfl) ?_
     refine wpIf_nil (fun hS => ?_)
     clear hS
     refine wpAnyT_skip 13 18 (by kernel_rfl) rfl (by kernel_rfl) ⟨hA2, fun _ => trivial⟩ ?_
     refine wA 1 [14, 15, 16, 17, 18, 19, 20, 21, 22, 23, 24, 25, 26, 27, 28, 29, 30] ⟨hA2, fun _ => trivial⟩ ?_
     simp only [pick, List.filterMap_cons, List.filterMap_nil, List.getElem?_cons_zero, List.getElem?_cons_succ]
     refine wpIf_skip (by kernel_rfl) ?_
     refine wS (.bool true) (fun w hw => by go_simp) ?_
     refine wS (.bool true) (fun w hw => by go_simp) ?_
     refine wpIf_skip (by kernel_rfl) ?_
     refine wpIf_skip (by kernel_rfl) ?_
     refine wpIf_skip (by kernel_rfl) ?_
     refine wpIf_skip (by kernel_rfl) ?_
     refine wpIf_skip (by kernel_rfl) ?_
     refine wpIf_skip (by kernel_rfl) ?_
     refine wpIf_skip (by kernel_rfl) ?_
     refine wpIf_skip (by kernel_rfl) ?_
     refine wpIf_skip (by kernel_rfl) ?_
     refine wpIf_skip (by kernel_rfl) ?_
     refine wpIf_skip (by kernel_rfl) ?_
     refine wpIf_skip (by kernel_rfl) ?_
     refine wpIf_skip (by kernel_rfl) ?_
     refine wpIf_skip (by kernel_rfl) ?_
     refine wpIf_nil (fun hS => ?_)
     clear hS
     refine wO 31 0 (fun K hK => ?_)
     go_simp
     refine hK _ _ ⟨hA2, fun _ => trivial⟩ (fun hS => ?_)
     clear hK K hS
     refine wpAnyT_over (by kernel_rfl) ?_
     go_wp2
     go_ret
     exact ⟨ret_bool (by rw [HZ.out]; simp), hB2⟩
    | true =>
     cases D with
     | false =>
      have HZ : Hid (R0 = false) := Lib.hid (HX.out k hlt (by rw [HK.out]; rfl))
      go_wp2
      generalize wr.alloc (.cells #[.string U, .string T, .slice xa n xc] 94) = W at hB1 hx1 hF1 hG1 ⊢
      have hA2 : (fun w' => Box w' w.heap.size #[.slice (some ⟨b, off, none⟩) ss.length cap] 42 /\ Box w' wr.heap.size #[.string U, .string T, .slice xa n xc] 94) W.drew := ⟨hF1, hG1⟩
      have hB2 := hB1.drew
      have hx2 := hx1.drew
      clear hB1 hx1 hF1 hG1 c0 c1 c2 f0
      refine wp_region_T (fun w' => Box w' w.heap.size #[.slice (some ⟨b, off, none⟩) ss.length cap] 42 /\ Box w' wr.heap.size #[.string U, .string T, .slice xa n xc] 94) (fun _ => True) 31 (by kernel_rfl) 32 rfl ?_
      refine wA 30 [0, 1] ⟨hA2, fun _ => trivial⟩ ?_
      simp only [pick, List.filterMap_cons, List.filterMap_nil, List.getElem?_cons_zero, List.getElem?_cons_succ]
      refine wS (.pointer (some ⟨wr.heap.size, 0, none⟩)) (fun w hw => by go_simp) ?_
      refine wS (.string U) (fun w hw => by have e0 := hw.2.cell 0 _ rfl; have e1 := hw.2.cell 1 _ rfl; have e2 := hw.2.cell 2 _ rfl; go_simp) ?_
      refine wpIf_nil (fun hS => ?_)
      clear hS
      refine wO 2 29 (fun K hK => ?_)
      go_simp
      refine (HN.out _).mono ?_
      rintro e v1 ⟨rfl, rfl⟩
      refine hK _ _ ⟨hA2, fun _ => trivial⟩ (fun hS => ?_)
      clear hK K hS
      refine wA 25 [3, 4, 5, 6] ⟨hA2, fun _ => trivial⟩ ?_
      simp only [pick, List.filterMap_cons, List.filterMap_nil, List.getElem?_cons_zero, List.getElem?_cons_succ]
      refine wS (.bool false) (fun w hw => by go_simp) ?_
      refine wS (.bool false) (fun w hw => by go_simp) ?_
      refine wS (.pointer (some ⟨wr.heap.size, 1, none⟩)) (fun w hw => by go_simp) ?_
      refine wS (.string T) (fun w hw => by have e0 := hw.2.cell 0 _ rfl; have e1 := hw.2.cell 1 _ rfl; have e2 := hw.2.cell 2 _ rfl; go_simp) ?_
      refine wpIf_nil (fun hS => ?_)
      clear hS
      refine wO 7 24 (fun K hK => ?_)
      go_simp
      refine (HT.out _).mono ?_
      rintro e v1 ⟨rfl, rfl⟩
      refine hK _ _ ⟨hA2, fun _ => trivial⟩ (fun hS => ?_)
      clear hK K hS
      refine wA 19 [8, 9, 10, 11, 12] ⟨hA2, fun _ => trivial⟩ ?_
      simp only [pick, List.filterMap_cons, List.filterMap_nil, List.getElem?_cons_zero, List.getElem?_cons_succ]
      refine wS (.bool false) (fun w hw => by go_simp) ?_
      refine wS (.bool false) (fun w hw => by go_simp) ?_
      refine wS (.bool false) (fun w hw => by go_simp) ?_
      refine wS (.pointer (some ⟨wr.heap.size, 2, none⟩)) (fun w hw => by go_simp) ?_
      refine wS (.slice xa n xc) (fun w hw => by have e0 := hw.2.cell 0 _ rfl; have e1 := hw.2.cell 1 _ rfl; have e2 := hw.2.cell 2 _ rfl; go_simp) ?_
      refine wpIf_nil (fun hS => ?_)
      clear hS
      refine wO 13 18 (fun K hK => ?_)
      go_simp
      refine (HC.out _ hx2).mono ?_
      rintro e v1 ⟨rfl, hb1⟩
      have hF3 := hA2.1.keep hb1 hA2.1.lt
      have hG3 := hA2.2.keep hb1 hA2.2.lt
      have hA3 : (fun w' => Box w' w.heap.size #[.slice (some ⟨b, off, none⟩) ss.length cap] 42 /\ Box w' wr.heap.size #[.string U, .string T, .slice xa n xc] 94) v1 := ⟨hF3, hG3⟩
      have hB3 := hB2.trans (hb1.mono hB2.size)
      clear hb1 hB2 hA2 hx2
      refine hK _ _ ⟨hA3, fun _ => trivial⟩ (fun hS => ?_)
      clear hK K hS
      refine wA 1 [14, 15, 16, 17, 18, 19, 20, 21, 22, 23, 24, 25, 26, 27, 28, 29, 30] ⟨hA3, fun _ => trivial⟩ ?_
      simp only [pick, List.filterMap_cons, List.filterMap_nil, List.getElem?_cons_zero, List.getElem?_cons_succ]
      refine wS (.bool true) (fun w hw => by go_simp) ?_
      refine wS (.bool true) (fun w hw => by go_simp) ?_
      refine wS (.bool true) (fun w hw => by go_simp) ?_
      refine wpIf_skip (by kernel_rfl) ?_
      refine wpIf_skip (by kernel_rfl) ?_
      refine wpIf_skip (by kernel_rfl) ?_
      refine wpIf_skip (by kernel_rfl) ?_
      refine wpIf_skip (by kernel_rfl) ?_
      refine wpIf_skip (by kernel_rfl) ?_
      refine wpIf_skip (by kernel_rfl) ?_
      refine wpIf_skip (by kernel_rfl) ?_
      refine wpIf_skip (by kernel_rfl) ?_
      refine wpIf_skip (by kernel_rfl) ?_
      refine wpIf_skip (by kernel_rfl) ?_
      refine wpIf_skip (by kernel_rfl) ?_
      refine wpIf_skip (by kernel_rfl) ?_
      refine wpIf_skip (by kernel_rfl) ?_
      refine wpIf_nil (fun hS => ?_)
      clear hS
      refine wO 31 0 (fun K hK => ?_)
      go_simp
      refine hK _ _ ⟨hA3, fun _ => trivial⟩ (fun hS => ?_)
      clear hK K hS
      refine wpAnyT_over (by kernel_rfl) ?_
      go_wp2
      go_ret
      exact ⟨ret_bool (by rw [HZ.out]; simp), hB3⟩
     | true =>
      rcases Nat.eq_zero_or_pos k with hk0 | hk0
      ·have Hk0 : Hid (¬ (0 : Int) < (k : Int)) := Lib.hid (by omega)
       have HO' : Hid (∀ j, j < k + 1 -> sbO ss j = true) := Lib.hid (fun j hj => by
        have : j = k := by omega
        subst this; rw [HK.out]; subst hk0; rfl)
       clear hk0
       go_wp2
       generalize wr.alloc (.cells #[.string U, .string T, .slice xa n xc] 94) = W at hB1 hx1 hF1 hG1 ⊢
       have hA2 : (fun w' => Box w' w.heap.size #[.slice (some ⟨b, off, none⟩) ss.length cap] 42 /\ Box w' wr.heap.size #[.string U, .string T, .slice xa n xc] 94) W.drew := ⟨hF1, hG1⟩
       have hB2 := hB1.drew
       have hx2 := hx1.drew
       clear hB1 hx1 hF1 hG1 c0 c1 c2 f0
       refine wp_region_T (fun w' => Box w' w.heap.size #[.slice (some ⟨b, off, none⟩) ss.length cap] 42 /\ Box w' wr.heap.size #[.string U, .string T, .slice xa n xc] 94) (fun _ => True) 31 (by kernel_rfl) 32 rfl ?_
       refine wA 30 [0, 1] ⟨hA2, fun _ => trivial⟩ ?_
       simp only [pick, List.filterMap_cons, List.filterMap_nil, List.getElem?_cons_zero, List.getElem?_cons_succ]
       refine wS (.pointer (some ⟨wr.heap.size, 0, none⟩)) (fun w hw => by go_simp) ?_
       refine wS (.string U) (fun w hw => by have e0 := hw.2.cell 0 _ rfl; have e1 := hw.2.cell 1 _ rfl; have e2 := hw.2.cell 2 _ rfl; go_simp) ?_
       refine wpIf_nil (fun hS => ?_)
       clear hS
       refine wO 2 29 (fun K hK => ?_)
       go_simp
       refine (HN.out _).mono ?_
       rintro e v1 ⟨rfl, rfl⟩
       refine hK _ _ ⟨hA2, fun _ => trivial⟩ (fun hS => ?_)
       clear hK K hS
       refine wA 25 [3, 4, 5, 6] ⟨hA2, fun _ => trivial⟩ ?_
       simp only [pick, List.filterMap_cons, List.filterMap_nil, List.getElem?_cons_zero, List.getElem?_cons_succ]
       refine wS (.bool false) (fun w hw => by go_simp) ?_
       refine wS (.bool false) (fun w hw => by go_simp) ?_
       refine wS (.pointer (some ⟨wr.heap.size, 1, none⟩)) (fun w hw => by go_simp) ?_
       refine wS (.string T) (fun w hw => by have e0 := hw.2.cell 0 _ rfl; have e1 := hw.2.cell 1 _ rfl; have e2 := hw.2.cell 2 _ rfl; go_simp) ?_
       refine wpIf_nil (fun hS => ?_)
       clear hS
       refine wO 7 24 (fun K hK => ?_)
       go_simp
       refine (HT.out _).mono ?_
       rintro e v1 ⟨rfl, rfl⟩
       refine hK _ _ ⟨hA2, fun _ => trivial⟩ (fun hS => ?_)
       clear hK K hS
       refine wA 19 [8, 9, 10, 11, 12] ⟨hA2, fun _ => trivial⟩ ?_
       simp only [pick, List.filterMap_cons, List.filterMap_nil, List.getElem?_cons_zero, List.getElem?_cons_succ]
       refine wS (.bool false) (fun w hw => by go_simp) ?_
       refine wS (.bool false) (fun w hw => by go_simp) ?_
       refine wS (.bool false) (fun w hw => by go_simp) ?_
       refine wS (.pointer (some ⟨wr.heap.size, 2, none⟩)) (fun w hw => by go_simp) ?_
       refine wS (.slice xa n xc) (fun w hw => by have e0 := hw.2.cell 0 _ rfl; have e1 := hw.2.cell 1 _ rfl; have e2 := hw.2.cell 2 _ rfl; go_simp) ?_
       refine wpIf_nil (fun hS => ?_)
       clear hS
       refine wO 13 18 (fun K hK => ?_)
       go_simp
       refine (HC.out _ hx2).mono ?_
       rintro e v1 ⟨rfl, hb1⟩
       have hF3 := hA2.1.keep hb1 hA2.1.lt
       have hG3 := hA2.2.keep hb1 hA2.2.lt
       have hA3 : (fun w' => Box w' w.heap.size #[.slice (some ⟨b, off, none⟩) ss.length cap] 42 /\ Box w' wr.heap.size #[.string U, .string T, .slice xa n xc] 94) v1 := ⟨hF3, hG3⟩
       have hB3 := hB2.trans (hb1.mono hB2.size)
       clear hb1 hB2 hA2 hx2
       refine hK _ _ ⟨hA3, fun _ => trivial⟩ (fun hS => ?_)
       clear hK K hS
       refine wA 1 [14, 15, 16, 17, 18, 19, 20, 21, 22, 23, 24, 25, 26, 27, 28, 29, 30] ⟨hA3, fun _ => trivial⟩ ?_
       simp only [pick, List.filterMap_cons, List.filterMap_nil, List.getElem?_cons_zero, List.getElem?_cons_succ]
       refine wS (.bool false) (fun w hw => by go_simp) ?_
       refine wS (.bool false) (fun w hw => by go_simp) ?_
       refine wS (.bool false) (fun w hw => by go_simp) ?_
       refine wS (.int .i64 (k : Int)) (fun w hw => by go_simp) ?_
       refine wS (.bool false) (fun w hw => by have hk0 := Hk0.out; go_simp; try omega) ?_
       refine wS (.bool false) (fun w hw => by go_simp) ?_
       refine wpIf_skip (by kernel_rfl) ?_
       refine wpIf_skip (by kernel_rfl) ?_
       refine wpIf_skip (by kernel_rfl) ?_
       refine wpIf_skip (by kernel_rfl) ?_
       refine wpIf_skip (by kernel_rfl) ?_
       refine wpIf_skip (by kernel_rfl) ?_
       refine wpIf_skip (by kernel_rfl) ?_
       refine wpIf_skip (by kernel_rfl) ?_
       refine wpIf_skip (by kernel_rfl) ?_
       refine wpIf_skip (by kernel_rfl) ?_
       refine wS (.bool false) (fun w hw => by go_simp) ?_
       refine wpIf_nil (fun hS => ?_)
       clear hS
       refine wO 31 0 (fun K hK => ?_)
       go_simp
       refine hK _ _ ⟨hA3, fun _ => trivial⟩ (fun hS => ?_)
       clear hK K hS
       refine wpAnyT_over (by kernel_rfl) ?_
       go_wp2
       go_roundw
       case rel => exact ⟨k + 1, by omega, by go_num, hA3.1, hB3, HO'⟩
       case measure => simp [intOf]; omega
      ·obtain ⟨q, hq⟩ : ∃ q, k = q + 1 := ⟨k - 1, by omega⟩
       obtain ⟨c4', hord⟩ := HP.out q hq
       have hql : q < ss.length := by omega
       obtain ⟨P, hP⟩ : ∃ P, P = ss[q].u := ⟨_, rfl⟩
       rw [<- hP] at c4' hord
       have c4 := Hkc.out _ _ c4'
       obtain ⟨L, hL⟩ : ∃ L, L = Op.bytesLess P.toList U.toList := ⟨_, rfl⟩
       rw [<- hL] at hord
       have HLO := Lib.hid hord
       have HL := Lib.hid hL.symm
       have Hk1 : Hid ((0 : Int) < (k : Int)) := Lib.hid (by omega)
       have Hk2 : Hid (IntKind.i64.wrap ((k : Int) - 1) = (q : Int)) := Lib.hid (by rw [hq]; simp; exact IntWalk.i64_in _ (by omega))
       clear hq hord hL hP hk0 c4'
       go_wp2
       generalize wr.alloc (.cells #[.string U, .string T, .slice xa n xc] 94) = W at hB1 hx1 hF1 hG1 c4 ⊢
       have hA2 : (fun w' => Box w' w.heap.size #[.slice (some ⟨b, off, none⟩) ss.length cap] 42 /\ Box w' wr.heap.size #[.string U, .string T, .slice xa n xc] 94 /\ w'.cell? ⟨b, off + q * 3, none⟩ = some (.string P)) W.drew := ⟨hF1, hG1, c4⟩
       have hB2 := hB1.drew
       have hx2 := hx1.drew
       clear hB1 hx1 hF1 hG1 c0 c1 c2 f0 c4
       refine wp_region_T (fun w' => Box w' w.heap.size #[.slice (some ⟨b, off, none⟩) ss.length cap] 42 /\ Box w' wr.heap.size #[.string U, .string T, .slice xa n xc] 94 /\ w'.cell? ⟨b, off + q * 3, none⟩ = some (.string P)) (fun _ => True) 31 (by kernel_rfl) 32 rfl ?_
       refine wA 30 [0, 1] ⟨hA2, fun _ => trivial⟩ ?_
       simp only [pick, List.filterMap_cons, List.filterMap_nil, List.getElem?_cons_zero, List.getElem?_cons_succ]
       refine wS (.pointer (some ⟨wr.heap.size, 0, none⟩)) (fun w hw => by go_simp) ?_
       refine wS (.string U) (fun w hw => by have e0 := hw.2.1.cell 0 _ rfl; have e1 := hw.2.1.cell 1 _ rfl; have e2 := hw.2.1.cell 2 _ rfl; go_simp) ?_
       refine wpIf_nil (fun hS => ?_)
       clear hS
       refine wO 2 29 (fun K hK => ?_)
       go_simp
       refine (HN.out _).mono ?_
       rintro e v1 ⟨rfl, rfl⟩
       refine hK _ _ ⟨hA2, fun _ => trivial⟩ (fun hS => ?_)
       clear hK K hS
       refine wA 25 [3, 4, 5, 6] ⟨hA2, fun _ => trivial⟩ ?_
       simp only [pick, List.filterMap_cons, List.filterMap_nil, List.getElem?_cons_zero, List.getElem?_cons_succ]
       refine wS (.bool false) (fun w hw => by go_simp) ?_
       refine wS (.bool false) (fun w hw => by go_simp) ?_
       refine wS (.pointer (some ⟨wr.heap.size, 1, none⟩)) (fun w hw => by go_simp) ?_
       refine wS (.string T) (fun w hw => by have e0 := hw.2.1.cell 0 _ rfl; have e1 := hw.2.1.cell 1 _ rfl; have e2 := hw.2.1.cell 2 _ rfl; go_simp) ?_
       refine wpIf_nil (fun hS => ?_)
       clear hS
       refine wO 7 24 (fun K hK => ?_)
       go_simp
       refine (HT.out _).mono ?_
       rintro e v1 ⟨rfl, rfl⟩
       refine hK _ _ ⟨hA2, fun _ => trivial⟩ (fun hS => ?_)
       clear hK K hS
       refine wA 19 [8, 9, 10, 11, 12] ⟨hA2, fun _ => trivial⟩ ?_
       simp only [pick, List.filterMap_cons, List.filterMap_nil, List.getElem?_cons_zero, List.getElem?_cons_succ]
       refine wS (.bool false) (fun w hw => by go_simp) ?_
       refine wS (.bool false) (fun w hw => by go_simp) ?_
       refine wS (.bool false) (fun w hw => by go_simp) ?_
       refine wS (.pointer (some ⟨wr.heap.size, 2, none⟩)) (fun w hw => by go_simp) ?_
       refine wS (.slice xa n xc) (fun w hw => by have e0 := hw.2.1.cell 0 _ rfl; have e1 := hw.2.1.cell 1 _ rfl; have e2 := hw.2.1.cell 2 _ rfl; go_simp) ?_
       refine wpIf_nil (fun hS => ?_)
       clear hS
       refine wO 13 18 (fun K hK => ?_)
       go_simp
       refine (HC.out _ hx2).mono ?_
       rintro e v1 ⟨rfl, hb1⟩
       have hF3 := hA2.1.keep hb1 hA2.1.lt
       have hG3 := hA2.2.1.keep hb1 hA2.2.1.lt
       have c5 : v1.cell? ⟨b, off + q * 3, none⟩ = some (.string P) := by rw [hb1.cell (p := ⟨b, off + q * 3, none⟩) (show b < W.drew.heap.size by have := hB2.size; omega)]; exact hA2.2.2
       have hA3 : (fun w' => Box w' w.heap.size #[.slice (some ⟨b, off, none⟩) ss.length cap] 42 /\ Box w' wr.heap.size #[.string U, .string T, .slice xa n xc] 94 /\ w'.cell? ⟨b, off + q * 3, none⟩ = some (.string P)) v1 := ⟨hF3, hG3, c5⟩
       have hB3 := hB2.trans (hb1.mono hB2.size)
       clear hb1 hB2 hA2 hx2
       refine hK _ _ ⟨hA3, fun _ => trivial⟩ (fun hS => ?_)
       clear hK K hS
       refine wA 1 [14, 15, 16, 17, 18, 19, 20, 21, 22, 23, 24, 25, 26, 27, 28, 29, 30] ⟨hA3, fun _ => trivial⟩ ?_
       simp only [pick, List.filterMap_cons, List.filterMap_nil, List.getElem?_cons_zero, List.getElem?_cons_succ]
       refine wS (.bool false) (fun w hw => by go_simp) ?_
       refine wS (.bool false) (fun w hw => by go_simp) ?_
       refine wS (.bool false) (fun w hw => by go_simp) ?_
       refine wS (.int .i64 (k : Int)) (fun w hw => by go_simp) ?_
       refine wS (.bool true) (fun w hw => by have hk0 := Hk1.out; go_simp; try omega) ?_
       refine wS (.bool true) (fun w hw => by go_simp) ?_
       refine wS (.pointer (some ⟨w.heap.size, 0, none⟩)) (fun w hw => by go_simp) ?_
       refine wS (.slice (some ⟨b, off, none⟩) ss.length cap) (fun w hw => by have e0 := hw.1.cell 0 _ rfl; go_simp) ?_
       refine wS (.int .i64 (k : Int)) (fun w hw => by go_simp) ?_
       refine wS (.int .i64 (q : Int)) (fun w hw => by have hk2 := Hk2.out; go_simp) ?_
       refine wS (.pointer (some ⟨b, off + q * 3, none⟩)) (fun w hw => by go_simp) ?_
       refine wS (.pointer (some ⟨b, off + q * 3, none⟩)) (fun w hw => by go_simp) ?_
       refine wS (.string P) (fun w hw => by have e4 := hw.2.2; go_simp) ?_
       refine wS (.pointer (some ⟨wr.heap.size, 0, none⟩)) (fun w hw => by go_simp) ?_
       refine wS (.string U) (fun w hw => by have e0 := hw.2.1.cell 0 _ rfl; have e1 := hw.2.1.cell 1 _ rfl; have e2 := hw.2.1.cell 2 _ rfl; go_simp) ?_
       refine wS (.bool (!L)) (fun w hw => by have hL := HL.out; go_simp) ?_
       refine wS (.bool (!L)) (fun w hw => by go_simp) ?_
       refine wpIf_nil (fun hS => ?_)
       clear hS
       refine wO 31 0 (fun K hK => ?_)
       go_simp
       refine hK _ _ ⟨hA3, fun _ => trivial⟩ (fun hS => ?_)
       clear hK K hS
       refine wpAnyT_over (by kernel_rfl) ?_
       cases L with
       | false =>
        have HZ : Hid (R0 = false) := Lib.hid (HX.out k hlt (by rw [HK.out, HLO.out]; rfl))
        go_wp2
        go_ret
        exact ⟨ret_bool (by rw [HZ.out]; simp), hB3⟩
       | true =>
        have HO' : Hid (∀ j, j < k + 1 -> sbO ss j = true) := Lib.hid (fun j hj => by
         by_cases hjk : j = k
         ·subst hjk; rw [HK.out, HLO.out]; rfl
         ·exact HO.out j (by omega))
        go_wp2
        go_roundw
        case rel => exact ⟨k + 1, by omega, by go_num, hA3.1, hB3, HO'⟩
        case measure => simp [intOf]; omega
  ·have HZ : Hid (R0 = true) := Lib.hid (HD.out k hlt HO.out)
   by_cases h6 : ss.length <= 6
   ·have h6' : decide ((ss.length : Int) <= 6) = true := decide_eq_true (by omega)
    go_wp2
    go_ret
    exact ⟨ret_bool (by rw [HZ.out]; simp [h6]), hB⟩
   ·have h6' : decide ((ss.length : Int) <= 6) = false := decide_eq_false (by omega)
    go_wp2
    go_ret
    exact ⟨ret_bool (by rw [HZ.out]; simp [h6]), hB⟩
end Go.Proofs.YtffkakpbelknaaaGreatDoor
namespace Go.Proofs.YtffkakpbelknaaaGreatDoor
open Go.ChangeShapes Go.WideShapes Go.ChangeAt Go.RowKit
set_option linter.unusedVariables false
theorem Tryz.methodE (v : Value) (w : World) : (method 375 97 v "loop.example/g00569/impl.key").run Tryz.prog w = .ok (281, v) w := by kernel_rfl
theorem keyE_any (s t : ByteArray) (d : Int) (r b : Bool) (w : World) :
  Calls Tryz.prog 281 #[enV s t d r b] w fun e w' => e = .returned (.string s) /\ Below w.heap.size w w' := by
 go_enter Tryz.func281, Tryz.ntmps281
 go_wp2
 go_ret
 exact ⟨rfl, (Below.refl _ _).alloc (Nat.le_refl _) _⟩
theorem risesE_any (v : Value) (es : List En) (w : World) (h : EnAt w w.heap.size v es) :
  Calls Tryz.prog 165 #[v] w fun e w' => e = .returned (.bool (risB (enKs es))) /\ Below w.heap.size w w' := by
 have HI := Lib.hid h
 obtain ⟨a, cap, rfl, hl, hm, hc⟩ := h.raw
 clear hc h
 unfold maxLen at hm
 have HX : Hid (∀ k, k < es.length -> ordK (enKs es) k = false -> risB (enKs es) = false) := Lib.hid (fun k hk h => allB_out k (by simpa [enKs] using hk) h)
 have HD : Hid (∀ k, ¬ k < es.length -> (∀ j, j < k -> ordK (enKs es) j = true) -> risB (enKs es) = true) := Lib.hid (fun k hk h => allB_end k (by simpa [enKs] using hk) h)
 generalize risB (enKs es) = R at HX HD ⊢
 go_enter Tryz.func165, Tryz.ntmps165
 go_wp2
 go_loopw [3] (fun i wr => ∃ k : Nat, 1 <= k /\ k <= es.length + 1 /\ i = .int .i64 (k : Int) /\ Below w.heap.size w wr /\ Hid (∀ j, j < k -> ordK (enKs es) j = true)) (fun i _ => es.length - (intOf i).toNat)
 case atStart => exact ⟨1, by omega, by omega, rfl, Below.refl _ _, Lib.hid (fun j hj => by
  obtain rfl : j = 0 := by omega
  rfl)⟩
 case round =>
  obtain ⟨k, hk1, hk, rfl, hB, HO⟩ := hrel
  by_cases hlt : k < es.length
  ·obtain ⟨q, hq⟩ : ∃ q, k = q + 1 := ⟨k - 1, by omega⟩
   have hql : q < es.length := by omega
   obtain ⟨a', cap', hv, _, _, hc⟩ := (HI.out.below hB).raw
   cases hv
   obtain ⟨b, off, rfl, hb, hr⟩ := hc k hlt
   obtain ⟨p0, p1, p2, p3, p4, _, _⟩ := hr q hql
   obtain ⟨c0, c1, c2, c3, c4, _, _⟩ := hr k hlt
   have HK : Hid (ordK (enKs es) k = Op.bytesLess es[q].it.id.toList es[k].it.id.toList) := Lib.hid (by subst hq; exact ordK_at _ es q hlt)
   obtain ⟨S0, hS0⟩ : ∃ x, x = es[k].it.id := ⟨_, rfl⟩
   rw [<- hS0] at c0 HK
   obtain ⟨S1, hS1⟩ : ∃ x, x = es[k].it.ti := ⟨_, rfl⟩
   rw [<- hS1] at c1
   obtain ⟨S2, hS2⟩ : ∃ x, x = es[k].it.da := ⟨_, rfl⟩
   rw [<- hS2] at c2
   obtain ⟨S3, hS3⟩ : ∃ x, x = es[k].rd := ⟨_, rfl⟩
   rw [<- hS3] at c3
   obtain ⟨S4, hS4⟩ : ∃ x, x = es[k].st := ⟨_, rfl⟩
   rw [<- hS4] at c4
   obtain ⟨P0, hP0⟩ : ∃ x, x = es[q].it.id := ⟨_, rfl⟩
   rw [<- hP0] at p0 HK
   obtain ⟨P1, hP1⟩ : ∃ x, x = es[q].it.ti := ⟨_, rfl⟩
   rw [<- hP1] at p1
   obtain ⟨P2, hP2⟩ : ∃ x, x = es[q].it.da := ⟨_, rfl⟩
   rw [<- hP2] at p2
   obtain ⟨P3, hP3⟩ : ∃ x, x = es[q].rd := ⟨_, rfl⟩
   rw [<- hP3] at p3
   obtain ⟨P4, hP4⟩ : ∃ x, x = es[q].st := ⟨_, rfl⟩
   rw [<- hP4] at p4
   clear hr hc hS0 hS1 hS2 hS3 hS4 hP0 hP1 hP2 hP3 hP4
   obtain ⟨L, hL⟩ : ∃ L, Op.bytesLess P0.toList S0.toList = L := ⟨_, rfl⟩
   rw [hL] at HK
   have HL := Lib.hid hL
   have Hk2 : Hid (IntKind.i64.wrap ((k : Int) - 1) = (q : Int)) := Lib.hid (by rw [hq]; simp; exact IntWalk.i64_in _ (by omega))
   clear hq hL
   go_wp2
   have hA2 : (wr.drew.cell? ⟨b, off + q * 5, none⟩ = some (.string P0) /\ wr.drew.cell? ⟨b, off + q * 5 + 1, none⟩ = some (.string P1) /\ wr.drew.cell? ⟨b, off + q * 5 + 2, none⟩ = some (.int .i64 P2) /\ wr.drew.cell? ⟨b, off + q * 5 + 3, none⟩ = some (.bool P3) /\ wr.drew.cell? ⟨b, off + q * 5 + 4, none⟩ = some (.bool P4)) /\ (wr.drew.cell? ⟨b, off + k * 5, none⟩ = some (.string S0) /\ wr.drew.cell? ⟨b, off + k * 5 + 1, none⟩ = some (.string S1) /\ wr.drew.cell? ⟨b, off + k * 5 + 2, none⟩ = some (.int .i64 S2) /\ wr.drew.cell? ⟨b, off + k * 5 + 3, none⟩ = some (.bool S3) /\ wr.drew.cell? ⟨b, off + k * 5 + 4, none⟩ = some (.bool S4)) := ⟨⟨p0, p1, p2, p3, p4⟩, c0, c1, c2, c3, c4⟩
   have hB2 := hB.drew
   clear p0 c0 p1 c1 p2 c2 p3 c3 p4 c4
   refine wp_region_T (fun w' => (w'.cell? ⟨b, off + q * 5, none⟩ = some (.string P0) /\ w'.cell? ⟨b, off + q * 5 + 1, none⟩ = some (.string P1) /\ w'.cell? ⟨b, off + q * 5 + 2, none⟩ = some (.int .i64 P2) /\ w'.cell? ⟨b, off + q * 5 + 3, none⟩ = some (.bool P3) /\ w'.cell? ⟨b, off + q * 5 + 4, none⟩ = some (.bool P4)) /\ (w'.cell? ⟨b, off + k * 5, none⟩ = some (.string S0) /\ w'.cell? ⟨b, off + k * 5 + 1, none⟩ = some (.string S1) /\ w'.cell? ⟨b, off + k * 5 + 2, none⟩ = some (.int .i64 S2) /\ w'.cell? ⟨b, off + k * 5 + 3, none⟩ = some (.bool S3) /\ w'.cell? ⟨b, off + k * 5 + 4, none⟩ = some (.bool S4))) (fun _ => True) 13 (by kernel_rfl) 14 rfl ?_
   refine wA 3 [0, 1, 2, 3, 4, 5, 7, 8, 9, 10, 11] ⟨hA2, fun _ => trivial⟩ ?_
   simp only [pick, List.filterMap_cons, List.filterMap_nil, List.getElem?_cons_zero, List.getElem?_cons_succ]
   refine wS (.slice (some ⟨b, off, none⟩) es.length cap) (fun w hw => by go_simp) ?_
   refine wS (.int .i64 (k : Int)) (fun w hw => by go_simp) ?_
   refine wS (.int .i64 (q : Int)) (fun w hw => by have hk2 := Hk2.out; go_simp) ?_
   refine wS (.pointer (some ⟨b, off + q * 5, none⟩)) (fun w hw => by go_simp) ?_
   refine wS (enV P0 P1 P2 P3 P4) (fun w hw => by obtain ⟨⟨d0, d1, d2, d3, d4⟩, e0, e1, e2, e3, e4⟩ := hw; go_simp) ?_
   refine wS (.iface 97 (enV P0 P1 P2 P3 P4)) (fun w hw => by go_simp) ?_
   refine wS (.slice (some ⟨b, off, none⟩) es.length cap) (fun w hw => by go_simp) ?_
   refine wS (.int .i64 (k : Int)) (fun w hw => by go_simp) ?_
   refine wS (.pointer (some ⟨b, off + k * 5, none⟩)) (fun w hw => by go_simp) ?_
   refine wS (enV S0 S1 S2 S3 S4) (fun w hw => by obtain ⟨⟨d0, d1, d2, d3, d4⟩, e0, e1, e2, e3, e4⟩ := hw; go_simp) ?_
   refine wS (.iface 97 (enV S0 S1 S2 S3 S4)) (fun w hw => by go_simp) ?_
   refine wpIf_nil (fun hS => ?_)
   have hM := fun v w => Tryz.methodE v w
   have hbl : b < wr.drew.heap.size := by have := hB2.size; omega
   refine wO 6 2 (fun K hK => ?_)
   go_simp
   refine (keyE_any P0 P1 P2 P3 P4 _).mono ?_
   rintro e v1 ⟨rfl, hb1⟩
   have hkc : ∀ o x, wr.drew.cell? ⟨b, o, none⟩ = some x -> v1.cell? ⟨b, o, none⟩ = some x := fun o x hx => by rw [hb1.cell (p := ⟨b, o, none⟩) hbl]; exact hx
   have hA3 : (v1.cell? ⟨b, off + q * 5, none⟩ = some (.string P0) /\ v1.cell? ⟨b, off + q * 5 + 1, none⟩ = some (.string P1) /\ v1.cell? ⟨b, off + q * 5 + 2, none⟩ = some (.int .i64 P2) /\ v1.cell? ⟨b, off + q * 5 + 3, none⟩ = some (.bool P3) /\ v1.cell? ⟨b, off + q * 5 + 4, none⟩ = some (.bool P4)) /\ (v1.cell? ⟨b, off + k * 5, none⟩ = some (.string S0) /\ v1.cell? ⟨b, off + k * 5 + 1, none⟩ = some (.string S1) /\ v1.cell? ⟨b, off + k * 5 + 2, none⟩ = some (.int .i64 S2) /\ v1.cell? ⟨b, off + k * 5 + 3, none⟩ = some (.bool S3) /\ v1.cell? ⟨b, off + k * 5 + 4, none⟩ = some (.bool S4)) := ⟨⟨hkc _ _ hA2.1.1, hkc _ _ hA2.1.2.1, hkc _ _ hA2.1.2.2.1, hkc _ _ hA2.1.2.2.2.1, hkc _ _ hA2.1.2.2.2.2⟩, hkc _ _ hA2.2.1, hkc _ _ hA2.2.2.1, hkc _ _ hA2.2.2.2.1, hkc _ _ hA2.2.2.2.2.1, hkc _ _ hA2.2.2.2.2.2⟩
   have hB3 := hB2.trans (hb1.mono hB2.size)
   have hbl3 : b < v1.heap.size := by have := hB3.size; omega
   refine hK _ _ ⟨hA3, fun _ => trivial⟩ (fun hS3 => ?_)
   clear hK K hS hb1 hA2 hB2 hkc hbl hS3
   refine wO 12 1 (fun K hK => ?_)
   go_simp
   refine (keyE_any S0 S1 S2 S3 S4 _).mono ?_
   rintro e v2 ⟨rfl, hb2⟩
   have hkc : ∀ o x, v1.cell? ⟨b, o, none⟩ = some x -> v2.cell? ⟨b, o, none⟩ = some x := fun o x hx => by rw [hb2.cell (p := ⟨b, o, none⟩) hbl3]; exact hx
   have hA4 : (v2.cell? ⟨b, off + q * 5, none⟩ = some (.string P0) /\ v2.cell? ⟨b, off + q * 5 + 1, none⟩ = some (.string P1) /\ v2.cell? ⟨b, off + q * 5 + 2, none⟩ = some (.int .i64 P2) /\ v2.cell? ⟨b, off + q * 5 + 3, none⟩ = some (.bool P3) /\ v2.cell? ⟨b, off + q * 5 + 4, none⟩ = some (.bool P4)) /\ (v2.cell? ⟨b, off + k * 5, none⟩ = some (.string S0) /\ v2.cell? ⟨b, off + k * 5 + 1, none⟩ = some (.string S1) /\ v2.cell? ⟨b, off + k * 5 + 2, none⟩ = some (.int .i64 S2) /\ v2.cell? ⟨b, off + k * 5 + 3, none⟩ = some (.bool S3) /\ v2.cell? ⟨b, off + k * 5 + 4, none⟩ = some (.bool S4)) := ⟨⟨hkc _ _ hA3.1.1, hkc _ _ hA3.1.2.1, hkc _ _ hA3.1.2.2.1, hkc _ _ hA3.1.2.2.2.1, hkc _ _ hA3.1.2.2.2.2⟩, hkc _ _ hA3.2.1, hkc _ _ hA3.2.2.1, hkc _ _ hA3.2.2.2.1, hkc _ _ hA3.2.2.2.2.1, hkc _ _ hA3.2.2.2.2.2⟩
   have hB4 := hB3.trans (hb2.mono hB3.size)
   refine hK _ _ ⟨hA4, fun _ => trivial⟩ (fun hS3 => ?_)
   clear hK K hb2 hA3 hB3 hkc hbl3 hS3 hM
   have hL := HL.out
   refine wO 13 0 (fun K hK => ?_)
   go_simp
   refine hK _ _ ⟨hA4, fun _ => trivial⟩ (fun hS4 => ?_)
   clear hK K hS4 hA4
   refine wpAnyT_over (by kernel_rfl) ?_
   clear hL
   cases L with
   | false =>
    have HZ : Hid (R = false) := Lib.hid (HX.out k hlt HK.out)
    go_wp2
    go_ret
    exact ⟨ret_bool HZ.out.symm, hB4⟩
   | true =>
    have HO' : Hid (∀ j, j < k + 1 -> ordK (enKs es) j = true) := Lib.hid (fun j hj => by
     by_cases hjk : j = k
     ·subst hjk; exact HK.out
     ·exact HO.out j (by omega))
    go_wp2
    go_roundw
    case rel => exact ⟨k + 1, by omega, by omega, by go_num, hB4, HO'⟩
    case measure => simp [intOf]; omega
  ·have HZ : Hid (R = true) := Lib.hid (HD.out k hlt HO.out)
   go_wp2
   go_ret
   exact ⟨ret_bool HZ.out.symm, hB⟩
theorem Tryz.methodS (v : Value) (w : World) : (method 375 94 v "loop.example/g00569/impl.key").run Tryz.prog w = .ok (280, v) w := by kernel_rfl
theorem keyS_any (s t : ByteArray) (x : Value) (w : World) :
  Calls Tryz.prog 280 #[sbV s t x] w fun e w' => e = .returned (.string s) /\ Below w.heap.size w w' := by
 go_enter Tryz.func280, Tryz.ntmps280
 go_wp2
 go_ret
 exact ⟨rfl, (Below.refl _ _).alloc (Nat.le_refl _) _⟩
theorem risesS_any (v : Value) (ss : List Sb) (w : World) (h : SbAt w w.heap.size v ss) :
  Calls Tryz.prog 107 #[v] w fun e w' => e = .returned (.bool (risB (sbKs ss))) /\ Below w.heap.size w w' := by
 have HI := Lib.hid h
 obtain ⟨a, cap, rfl, hl, hm, hc⟩ := h.raw
 clear hc h
 unfold maxLen at hm
 have HX : Hid (∀ k, k < ss.length -> ordK (sbKs ss) k = false -> risB (sbKs ss) = false) := Lib.hid (fun k hk h => allB_out k (by simpa [sbKs] using hk) h)
 have HD : Hid (∀ k, ¬ k < ss.length -> (∀ j, j < k -> ordK (sbKs ss) j = true) -> risB (sbKs ss) = true) := Lib.hid (fun k hk h => allB_end k (by simpa [sbKs] using hk) h)
 generalize risB (sbKs ss) = R at HX HD ⊢
 go_enter Tryz.func107, Tryz.ntmps107
 go_wp2
 go_loopw [3] (fun i wr => ∃ k : Nat, 1 <= k /\ k <= ss.length + 1 /\ i = .int .i64 (k : Int) /\ Below w.heap.size w wr /\ Hid (∀ j, j < k -> ordK (sbKs ss) j = true)) (fun i _ => ss.length - (intOf i).toNat)
 case atStart => exact ⟨1, by omega, by omega, rfl, Below.refl _ _, Lib.hid (fun j hj => by
  obtain rfl : j = 0 := by omega
  rfl)⟩
 case round =>
  obtain ⟨k, hk1, hk, rfl, hB, HO⟩ := hrel
  by_cases hlt : k < ss.length
  ·obtain ⟨q, hq⟩ : ∃ q, k = q + 1 := ⟨k - 1, by omega⟩
   have hql : q < ss.length := by omega
   obtain ⟨a', cap', hv, _, _, hc⟩ := (HI.out.below hB).raw
   cases hv
   obtain ⟨b, off, rfl, hb, hr⟩ := hc k hlt
   obtain ⟨P2, p0, p1, p2, _, _, _⟩ := hr q hql
   obtain ⟨S2, c0, c1, c2, _, _, _⟩ := hr k hlt
   have HK : Hid (ordK (sbKs ss) k = Op.bytesLess ss[q].u.toList ss[k].u.toList) := Lib.hid (by subst hq; exact ordK_at _ ss q hlt)
   obtain ⟨S0, hS0⟩ : ∃ x, x = ss[k].u := ⟨_, rfl⟩
   rw [<- hS0] at c0 HK
   obtain ⟨S1, hS1⟩ : ∃ x, x = ss[k].t := ⟨_, rfl⟩
   rw [<- hS1] at c1
   obtain ⟨P0, hP0⟩ : ∃ x, x = ss[q].u := ⟨_, rfl⟩
   rw [<- hP0] at p0 HK
   obtain ⟨P1, hP1⟩ : ∃ x, x = ss[q].t := ⟨_, rfl⟩
   rw [<- hP1] at p1
   clear hr hc hS0 hS1 hP0 hP1
   obtain ⟨L, hL⟩ : ∃ L, Op.bytesLess P0.toList S0.toList = L := ⟨_, rfl⟩
   rw [hL] at HK
   have HL := Lib.hid hL
   have Hk2 : Hid (IntKind.i64.wrap ((k : Int) - 1) = (q : Int)) := Lib.hid (by rw [hq]; simp; exact IntWalk.i64_in _ (by omega))
   clear hq hL
   go_wp2
   have hA2 : (wr.drew.cell? ⟨b, off + q * 3, none⟩ = some (.string P0) /\ wr.drew.cell? ⟨b, off + q * 3 + 1, none⟩ = some (.string P1) /\ wr.drew.cell? ⟨b, off + q * 3 + 2, none⟩ = some (P2)) /\ (wr.drew.cell? ⟨b, off + k * 3, none⟩ = some (.string S0) /\ wr.drew.cell? ⟨b, off + k * 3 + 1, none⟩ = some (.string S1) /\ wr.drew.cell? ⟨b, off + k * 3 + 2, none⟩ = some (S2)) := ⟨⟨p0, p1, p2⟩, c0, c1, c2⟩
   have hB2 := hB.drew
   clear p0 c0 p1 c1 p2 c2
   refine wp_region_T (fun w' => (w'.cell? ⟨b, off + q * 3, none⟩ = some (.string P0) /\ w'.cell? ⟨b, off + q * 3 + 1, none⟩ = some (.string P1) /\ w'.cell? ⟨b, off + q * 3 + 2, none⟩ = some (P2)) /\ (w'.cell? ⟨b, off + k * 3, none⟩ = some (.string S0) /\ w'.cell? ⟨b, off + k * 3 + 1, none⟩ = some (.string S1) /\ w'.cell? ⟨b, off + k * 3 + 2, none⟩ = some (S2))) (fun _ => True) 13 (by kernel_rfl) 14 rfl ?_
   refine wA 3 [0, 1, 2, 3, 4, 5, 7, 8, 9, 10, 11] ⟨hA2, fun _ => trivial⟩ ?_
   simp only [pick, List.filterMap_cons, List.filterMap_nil, List.getElem?_cons_zero, List.getElem?_cons_succ]
   refine wS (.slice (some ⟨b, off, none⟩) ss.length cap) (fun w hw => by go_simp) ?_
   refine wS (.int .i64 (k : Int)) (fun w hw => by go_simp) ?_
   refine wS (.int .i64 (q : Int)) (fun w hw => by have hk2 := Hk2.out; go_simp) ?_
   refine wS (.pointer (some ⟨b, off + q * 3, none⟩)) (fun w hw => by go_simp) ?_
   refine wS (sbV P0 P1 P2) (fun w hw => by obtain ⟨⟨d0, d1, d2⟩, e0, e1, e2⟩ := hw; go_simp) ?_
   refine wS (.iface 94 (sbV P0 P1 P2)) (fun w hw => by go_simp) ?_
   refine wS (.slice (some ⟨b, off, none⟩) ss.length cap) (fun w hw => by go_simp) ?_
   refine wS (.int .i64 (k : Int)) (fun w hw => by go_simp) ?_
   refine wS (.pointer (some ⟨b, off + k * 3, none⟩)) (fun w hw => by go_simp) ?_
   refine wS (sbV S0 S1 S2) (fun w hw => by obtain ⟨⟨d0, d1, d2⟩, e0, e1, e2⟩ := hw; go_simp) ?_
   refine wS (.iface 94 (sbV S0 S1 S2)) (fun w hw => by go_simp) ?_
   refine wpIf_nil (fun hS => ?_)
   have hM := fun v w => Tryz.methodS v w
   have hbl : b < wr.drew.heap.size := by have := hB2.size; omega
   refine wO 6 2 (fun K hK => ?_)
   go_simp
   refine (keyS_any P0 P1 P2 _).mono ?_
   rintro e v1 ⟨rfl, hb1⟩
   have hkc : ∀ o x, wr.drew.cell? ⟨b, o, none⟩ = some x -> v1.cell? ⟨b, o, none⟩ = some x := fun o x hx => by rw [hb1.cell (p := ⟨b, o, none⟩) hbl]; exact hx
   have hA3 : (v1.cell? ⟨b, off + q * 3, none⟩ = some (.string P0) /\ v1.cell? ⟨b, off + q * 3 + 1, none⟩ = some (.string P1) /\ v1.cell? ⟨b, off + q * 3 + 2, none⟩ = some (P2)) /\ (v1.cell? ⟨b, off + k * 3, none⟩ = some (.string S0) /\ v1.cell? ⟨b, off + k * 3 + 1, none⟩ = some (.string S1) /\ v1.cell? ⟨b, off + k * 3 + 2, none⟩ = some (S2)) := ⟨⟨hkc _ _ hA2.1.1, hkc _ _ hA2.1.2.1, hkc _ _ hA2.1.2.2⟩, hkc _ _ hA2.2.1, hkc _ _ hA2.2.2.1, hkc _ _ hA2.2.2.2⟩
   have hB3 := hB2.trans (hb1.mono hB2.size)
   have hbl3 : b < v1.heap.size := by have := hB3.size; omega
   refine hK _ _ ⟨hA3, fun _ => trivial⟩ (fun hS3 => ?_)
   clear hK K hS hb1 hA2 hB2 hkc hbl hS3
   refine wO 12 1 (fun K hK => ?_)
   go_simp
   refine (keyS_any S0 S1 S2 _).mono ?_
   rintro e v2 ⟨rfl, hb2⟩
   have hkc : ∀ o x, v1.cell? ⟨b, o, none⟩ = some x -> v2.cell? ⟨b, o, none⟩ = some x := fun o x hx => by rw [hb2.cell (p := ⟨b, o, none⟩) hbl3]; exact hx
   have hA4 : (v2.cell? ⟨b, off + q * 3, none⟩ = some (.string P0) /\ v2.cell? ⟨b, off + q * 3 + 1, none⟩ = some (.string P1) /\ v2.cell? ⟨b, off + q * 3 + 2, none⟩ = some (P2)) /\ (v2.cell? ⟨b, off + k * 3, none⟩ = some (.string S0) /\ v2.cell? ⟨b, off + k * 3 + 1, none⟩ = some (.string S1) /\ v2.cell? ⟨b, off + k * 3 + 2, none⟩ = some (S2)) := ⟨⟨hkc _ _ hA3.1.1, hkc _ _ hA3.1.2.1, hkc _ _ hA3.1.2.2⟩, hkc _ _ hA3.2.1, hkc _ _ hA3.2.2.1, hkc _ _ hA3.2.2.2⟩
   have hB4 := hB3.trans (hb2.mono hB3.size)
   refine hK _ _ ⟨hA4, fun _ => trivial⟩ (fun hS3 => ?_)
   clear hK K hb2 hA3 hB3 hkc hbl3 hS3 hM
   have hL := HL.out
   refine wO 13 0 (fun K hK => ?_)
   go_simp
   refine hK _ _ ⟨hA4, fun _ => trivial⟩ (fun hS4 => ?_)
   clear hK K hS4 hA4
   refine wpAnyT_over (by kernel_rfl) ?_
   clear hL
   cases L with
   | false =>
    have HZ : Hid (R = false) := Lib.hid (HX.out k hlt HK.out)
    go_wp2
    go_ret
    exact ⟨ret_bool HZ.out.symm, hB4⟩
   | true =>
    have HO' : Hid (∀ j, j < k + 1 -> ordK (sbKs ss) j = true) := Lib.hid (fun j hj => by
     by_cases hjk : j = k
     ·subst hjk; exact HK.out
     ·exact HO.out j (by omega))
    go_wp2
    go_roundw
    case rel => exact ⟨k + 1, by omega, by omega, by go_num, hB4, HO'⟩
    case measure => simp [intOf]; omega
  ·have HZ : Hid (R = true) := Lib.hid (HD.out k hlt HO.out)
   go_wp2
   go_ret
   exact ⟨ret_bool HZ.out.symm, hB⟩
end Go.Proofs.YtffkakpbelknaaaGreatDoor
namespace Go.Proofs.YtffkakpbelknaaaGreatDoor
open Go.ChangeShapes Go.WideShapes Go.ChangeAt Go.RowKit
set_option linter.unusedVariables false
theorem entriesOk_any (v : Value) (es : List En) (w : World) (h : EnAt w w.heap.size v es) :
  Calls Tryz.prog 134 #[v] w fun e w' => e = .returned (.bool (ensB es)) /\ Below w.heap.size w w' := by
 have HI := Lib.hid h
 obtain ⟨a, cap, rfl, hl, hm, hc⟩ := h.raw
 clear hc h
 unfold maxLen at hm
 have HR := Lib.hid (fun w h => risesE_any (.slice a es.length cap) es w h)
 have HE : Hid (ensB es = (allB es.length (enB es) && risB (enKs es))) := Lib.hid rfl
 rw [HE.out]
 clear HE
 have HX : Hid (∀ k, k < es.length -> enB es k = false -> allB es.length (enB es) = false) := Lib.hid (fun k hk h => allB_out k hk h)
 have HD : Hid (∀ k, ¬ k < es.length -> (∀ j, j < k -> enB es j = true) -> allB es.length (enB es) = true) := Lib.hid (fun k hk h => allB_end k hk h)
 generalize allB es.length (enB es) = R at HX HD ⊢
 generalize risB (enKs es) = R2 at HR ⊢
 go_enter Tryz.func134, Tryz.ntmps134
 go_wp2
 go_loopw [7] (fun i wr => ∃ k : Nat, k <= es.length /\ i = .int .i64 (k : Int) /\ Below w.heap.size w wr /\ Hid (∀ j, j < k -> enB es j = true)) (fun i _ => es.length - (intOf i).toNat)
 case atStart => exact ⟨0, Nat.zero_le _, rfl, Below.refl _ _, Lib.hid (fun j hj => by omega)⟩
 case round =>
  obtain ⟨k, hk, rfl, hB, HO⟩ := hrel
  by_cases hlt : k < es.length
  ·obtain ⟨a', cap', hv, _, _, hc⟩ := (HI.out.below hB).raw
   cases hv
   obtain ⟨b, off, rfl, hb, hr⟩ := hc k hlt
   obtain ⟨c0, c1, c2, c3, c4, s0, s1⟩ := hr k hlt
   have HC := Lib.hid (fun w => itemOk_any es[k].it.id es[k].it.ti es[k].it.da w s0 s1)
   have HK := Lib.hid (enB_at es k hlt)
   generalize itB es[k].it.id es[k].it.ti es[k].it.da = Q at HC HK
   obtain ⟨S0, hS0⟩ : ∃ x, x = es[k].it.id := ⟨_, rfl⟩
   obtain ⟨S1, hS1⟩ : ∃ x, x = es[k].it.ti := ⟨_, rfl⟩
   obtain ⟨S2, hS2⟩ : ∃ x, x = es[k].it.da := ⟨_, rfl⟩
   obtain ⟨S3, hS3⟩ : ∃ x, x = es[k].rd := ⟨_, rfl⟩
   obtain ⟨S4, hS4⟩ : ∃ x, x = es[k].st := ⟨_, rfl⟩
   rw [<- hS0] at c0 HC
   rw [<- hS1] at c1 HC
   rw [<- hS2] at c2 HC
   rw [<- hS3] at c3
   rw [<- hS4] at c4
   have hB1 : Below w.heap.size w (wr.alloc (.cells #[.string S0, .string S1, .int .i64 S2, .bool S3, .bool S4] 97)) := hB.alloc hB.size _
   clear hr hc hS0 hS1 hS2 hS3 hS4 s0 s1
   go_wp2_with fail
   refine (HC.out _).mono ?_
   rintro e w1 ⟨rfl, hb1⟩
   have hB2 := hB1.trans (hb1.mono hB1.size)
   clear hb1 hB1 hB c0 c1 c2 c3 c4
   cases Q with
   | false =>
    have HZ : Hid (R = false) := Lib.hid (HX.out k hlt HK.out)
    go_wp2
    go_ret
    exact ⟨ret_bool (by rw [HZ.out]; rfl), hB2⟩
   | true =>
    have HO' : Hid (∀ j, j < k + 1 -> enB es j = true) := Lib.hid (fun j hj => by
     by_cases hjk : j = k
     ·subst hjk; exact HK.out
     ·exact HO.out j (by omega))
    go_wp2
    go_roundw
    case rel => exact ⟨k + 1, by omega, by go_num, hB2, HO'⟩
    case measure => simp [intOf]; omega
  ·have HZ : Hid (R = true) := Lib.hid (HD.out k hlt HO.out)
   go_wp2_with fail
   refine (HR.out _ ((HI.out.below hB).mono hB.size)).mono ?_
   rintro e w1 ⟨rfl, hb1⟩
   have hB2 := hB.trans (hb1.mono hB.size)
   clear hb1 hB
   go_wp2
   go_ret
   exact ⟨ret_bool (by rw [HZ.out]; rfl), hB2⟩
theorem subOk_any (s : Sb) (x : Value) (w : World) (hx : EnAt w w.heap.size x s.es) (hz : SbSz s) :
  Calls Tryz.prog 106 #[sbV s.u s.t x] w fun e w' => e = .returned (.bool (sbB s)) /\ Below w.heap.size w w' := by
 have HI := Lib.hid hx
 obtain ⟨a, cap, rfl, hl, hm, hc⟩ := hx.raw
 clear hc hx
 unfold maxLen at hm
 have HN := Lib.hid (fun w => isName_any s.u 20 w hz.1)
 have HT := Lib.hid (fun w => isTitle_any s.t w hz.2)
 have HC := Lib.hid (fun w h => entriesOk_any (.slice a s.es.length cap) s.es w h)
 have HE : Hid (sbB s = (nmB s.u 20 && ttB s.t && decide (s.es.length <= 12) && ensB s.es)) := Lib.hid rfl
 rw [HE.out]
 clear HE
 generalize nmB s.u 20 = A at HN ⊢
 generalize ttB s.t = B at HT ⊢
 generalize ensB s.es = D at HC ⊢
 obtain ⟨U, hU⟩ : ∃ U, U = s.u := ⟨_, rfl⟩
 obtain ⟨T, hT⟩ : ∃ T, T = s.t := ⟨_, rfl⟩
 rw [<- hU] at HN ⊢
 rw [<- hT] at HT ⊢
 obtain ⟨n, hn⟩ : ∃ n, n = s.es.length := ⟨_, rfl⟩
 rw [<- hn] at hl HC HI ⊢
 have hB1 : Below w.heap.size w (w.alloc (.cells #[.string U, .string T, .slice a n cap] 94)) := (Below.refl _ _).alloc (Nat.le_refl _) _
 clear hU hT hn
 go_enter Tryz.func106, Tryz.ntmps106
 go_wp2_with fail
 refine (HN.out _).mono ?_
 rintro e w1 ⟨rfl, rfl⟩
 cases A with
 | false =>
  go_wp2
  go_ret
  exact ⟨ret_bool (by simp), hB1⟩
 | true =>
  go_wp2_with fail
  refine (HT.out _).mono ?_
  rintro e w2 ⟨rfl, rfl⟩
  cases B with
  | false =>
   go_wp2
   go_ret
   exact ⟨ret_bool (by simp), hB1⟩
  | true =>
   by_cases h12 : n <= 12
   ·have h12' : decide ((n : Int) <= 12) = true := decide_eq_true (by omega)
    go_wp2_with fail
    refine (HC.out _ ((HI.out.below hB1).mono hB1.size)).mono ?_
    rintro e w3 ⟨rfl, hb3⟩
    have hB3 := hB1.trans (hb3.mono hB1.size)
    clear hB1 hb3
    go_wp2
    go_ret
    exact ⟨ret_bool (by simp [h12]), hB3⟩
   ·have h12' : decide ((n : Int) <= 12) = false := decide_eq_false (by omega)
    go_wp2
    go_ret
    exact ⟨ret_bool (by simp [h12]), hB1⟩
theorem implReaderOk_any (v : Value) (ss : List Sb) (w : World) (h : SbAt w w.heap.size v ss) :
  Calls Tryz.prog 63 #[.agg #[v]] w fun e w' => e = .returned (.bool (rdB ss)) /\ Below w.heap.size w w' := by
 have HI := Lib.hid h
 obtain ⟨a, cap, rfl, hl, hm, hc⟩ := h.raw
 clear hc h
 unfold maxLen at hm
 have HR := Lib.hid (fun w h => risesS_any (.slice a ss.length cap) ss w h)
 have HE : Hid (rdB ss = (decide (ss.length <= 6) && (allB ss.length (sbsB ss) && risB (sbKs ss)))) := Lib.hid rfl
 rw [HE.out]
 clear HE
 have HX : Hid (∀ k, k < ss.length -> sbsB ss k = false -> allB ss.length (sbsB ss) = false) := Lib.hid (fun k hk h => allB_out k hk h)
 have HD : Hid (∀ k, ¬ k < ss.length -> (∀ j, j < k -> sbsB ss j = true) -> allB ss.length (sbsB ss) = true) := Lib.hid (fun k hk h => allB_end k hk h)
 generalize allB ss.length (sbsB ss) = R at HX HD ⊢
 generalize risB (sbKs ss) = R2 at HR ⊢
 have hB0 : Below w.heap.size w (w.alloc (.cells #[.slice a ss.length cap] 42)) := (Below.refl _ _).alloc (Nat.le_refl _) _
 have hF0 := Box.new w #[.slice a ss.length cap] 42
 by_cases h6 : ss.length <= 6
 ·have h6' : decide ((6 : Int) < (ss.length : Int)) = false := decide_eq_false (by omega)
  go_enter Tryz.func63, Tryz.ntmps63
  go_wp2
  go_loopw [12] (fun i wr => ∃ k : Nat, k <= ss.length /\ i = .int .i64 (k : Int) /\ Box wr w.heap.size #[.slice a ss.length cap] 42 /\ Below w.heap.size w wr /\ Hid (∀ j, j < k -> sbsB ss j = true)) (fun i _ => ss.length - (intOf i).toNat)
  case atStart => exact ⟨0, Nat.zero_le _, rfl, hF0, hB0, Lib.hid (fun j hj => by omega)⟩
  case round =>
   obtain ⟨k, hk, rfl, hF, hB, HO⟩ := hrel
   by_cases hlt : k < ss.length
   ·obtain ⟨a', cap', hv, _, _, hc⟩ := (HI.out.below hB).raw
    cases hv
    obtain ⟨b, off, rfl, hb, hr⟩ := hc k hlt
    obtain ⟨x, c0, c1, c2, hx, s0, s1⟩ := hr k hlt
    have HC := Lib.hid (fun w (hy : EnAt w w.heap.size x ss[k].es) => subOk_any ss[k] x w hy ⟨s0, s1⟩)
    have HK := Lib.hid (sbsB_at ss k hlt)
    have HXx := Lib.hid hx
    obtain ⟨xa, xc, rfl⟩ := hx.1.slice
    generalize sbB ss[k] = Q at HC HK
    obtain ⟨S0, hS0⟩ : ∃ x, x = ss[k].u := ⟨_, rfl⟩
    obtain ⟨S1, hS1⟩ : ∃ x, x = ss[k].t := ⟨_, rfl⟩
    obtain ⟨S2, hS2⟩ : ∃ x, x = ss[k].es := ⟨_, rfl⟩
    rw [<- hS2] at HXx c2 HC
    rw [<- hS0] at c0 HC
    rw [<- hS1] at c1 HC
    obtain ⟨n, hn⟩ : ∃ n, n = S2.length := ⟨_, rfl⟩
    rw [<- hn] at c2 HXx HC
    have hB1 : Below wr.heap.size wr (wr.alloc (.cells #[.string S0, .string S1, .slice xa n xc] 94)) := (Below.refl _ _).alloc (Nat.le_refl _) _
    have hBw := hB.trans (hB1.mono hB.size)
    have HXx2 := Lib.hid ((HXx.out.mono hB.size).below hB1 |>.mono hB1.size)
    have hF1 := hF.keep hB1 hF.lt
    clear hr hc hS0 hS1 hS2 hn s0 s1 hx HXx hB hF
    go_wp2_with fail
    generalize wr.alloc (.cells #[.string S0, .string S1, .slice xa n xc] 94) = W at hB1 hBw HXx2 hF1 ⊢
    refine (HC.out _ HXx2.out).mono ?_
    rintro e w1 ⟨rfl, hb1⟩
    have hB2 := hBw.trans (hb1.mono hBw.size)
    have hF2 := hF1.keep hb1 hF1.lt
    clear hb1 hB1 hBw c0 c1 c2 HXx2 hF1
    cases Q with
    | false =>
     have HZ : Hid (R = false) := Lib.hid (HX.out k hlt HK.out)
     go_wp2
     go_ret
     exact ⟨ret_bool (by rw [HZ.out]; simp), hB2⟩
    | true =>
     have HO' : Hid (∀ j, j < k + 1 -> sbsB ss j = true) := Lib.hid (fun j hj => by
      by_cases hjk : j = k
      ·subst hjk; exact HK.out
      ·exact HO.out j (by omega))
     go_wp2
     go_roundw
     case rel => exact ⟨k + 1, by omega, by go_num, hF2, hB2, HO'⟩
     case measure => simp [intOf]; omega
   ·have HZ : Hid (R = true) := Lib.hid (HD.out k hlt HO.out)
    have f0 := hF.cell 0 _ rfl
    go_wp2_with fail
    refine (HR.out _ ((HI.out.below hB).mono hB.size)).mono ?_
    rintro e w1 ⟨rfl, hb1⟩
    have hB2 := hB.trans (hb1.mono hB.size)
    clear hb1 hB
    go_wp2
    go_ret
    exact ⟨ret_bool (by rw [HZ.out]; simp [h6]), hB2⟩
 ·have h6' : decide ((6 : Int) < (ss.length : Int)) = true := decide_eq_true (by omega)
  go_enter Tryz.func63, Tryz.ntmps63
  go_wp2
  go_ret
  exact ⟨ret_bool (by simp [h6]), hB0⟩
end Go.Proofs.YtffkakpbelknaaaGreatDoor

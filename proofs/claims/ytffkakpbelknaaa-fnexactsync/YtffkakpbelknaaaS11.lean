/- Joined: W9a. -/
import Derived.Test.YtffkakpbelknaaaS10
/- W9a -/
namespace Go.Proofs.Ytffkakpbelknaaa
open Go.ChangeShapes Go.WideShapes Go.ChangeAt Go.RowKit
set_option linter.unusedVariables false

def allB (n : Nat) (f : Nat → Bool) : Bool := (List.range n).all f
theorem allB_out {n : Nat} {f : Nat → Bool} (k : Nat) (h : k < n) (hf : f k = false) : allB n f = false := by
  cases hw : allB n f with
  | false => rfl
  | true =>
    unfold allB at hw
    have := List.all_eq_true.1 hw k (List.mem_range.2 h)
    rw [hf] at this
    cases this
theorem allB_end {n : Nat} {f : Nat → Bool} (k : Nat) (h : ¬ k < n) (hb : ∀ j, j < k → f j = true) : allB n f = true := by
  unfold allB
  refine List.all_eq_true.2 (fun j hj => hb j ?_)
  have := List.mem_range.1 hj
  omega
theorem allB_at {n : Nat} {f : Nat → Bool} (h : allB n f = true) (k : Nat) (hk : k < n) : f k = true := List.all_eq_true.1 h k (List.mem_range.2 hk)
theorem allB_and (n : Nat) (f g : Nat → Bool) : allB n (fun k => f k && g k) = (allB n f && allB n g) := by
  rw [Bool.eq_iff_iff]
  simp only [allB, List.all_eq_true, Bool.and_eq_true]
  exact ⟨fun h => ⟨fun j hj => (h j hj).1, fun j hj => (h j hj).2⟩, fun h j hj => ⟨h.1 j hj, h.2 j hj⟩⟩
theorem allB_congr (n : Nat) (f g : Nat → Bool) (h : ∀ k, k < n → f k = g k) : allB n f = allB n g := by
  rw [Bool.eq_iff_iff]
  simp only [allB, List.all_eq_true]
  exact ⟨fun a j hj => by rw [← h j (List.mem_range.1 hj)]; exact a j hj, fun a j hj => by rw [h j (List.mem_range.1 hj)]; exact a j hj⟩
/-- The k-th key is above the one ahead of it. -/
def ordK (ks : List ByteArray) (k : Nat) : Bool := match k with
  | 0 => true
  | q + 1 => match ks[q]?, ks[q + 1]? with
    | some x, some y => Op.bytesLess x.toList y.toList
    | _, _ => true
theorem ordK_at {α : Type} (f : α → ByteArray) (l : List α) (q : Nat) (h : q + 1 < l.length) : ordK (l.map f) (q + 1) = Op.bytesLess (f l[q]).toList (f l[q + 1]).toList := by
  show (match (l.map f)[q]?, (l.map f)[q + 1]? with | some x, some y => Op.bytesLess x.toList y.toList | _, _ => true) = _
  rw [List.getElem?_map, List.getElem?_map, List.getElem?_eq_getElem h, List.getElem?_eq_getElem (show q < l.length by omega)]
  rfl
def risB (ks : List ByteArray) : Bool := allB ks.length (ordK ks)

structure En where
  it : It
  rd : Bool
  st : Bool
abbrev enV (s t : ByteArray) (d : Int) (r b : Bool) : Value := .agg #[.string s, .string t, .int .i64 d, .bool r, .bool b]
def enC (x : En) : List Value := [.string x.it.id, .string x.it.ti, .int .i64 x.it.da, .bool x.rd, .bool x.st]
theorem enC_len (x : En) : (enC x).length = 5 := rfl
abbrev en0 : En := ⟨⟨ByteArray.empty, ByteArray.empty, 0⟩, false, false⟩
def EnSz (x : En) : Prop := x.it.id.size ≤ maxLen ∧ x.it.ti.size ≤ maxLen
def EnAt (w : World) (B : Nat) (v : Value) (es : List En) : Prop := RecAt 5 enC w B v es ∧ ∀ x ∈ es, EnSz x
theorem EnAt.raw {w : World} {B : Nat} {v : Value} {es : List En} (h : EnAt w B v es) : ∃ a cap, v = .slice a es.length cap ∧ es.length ≤ cap ∧ cap ≤ maxLen ∧
    ∀ j, j < es.length → ∃ b off, a = some ⟨b, off, none⟩ ∧ b < B ∧ ∀ i (h : i < es.length), w.cell? ⟨b, off + i * 5, none⟩ = some (.string es[i].it.id) ∧ w.cell? ⟨b, off + i * 5 + 1, none⟩ = some (.string es[i].it.ti) ∧ w.cell? ⟨b, off + i * 5 + 2, none⟩ = some (.int .i64 es[i].it.da) ∧ w.cell? ⟨b, off + i * 5 + 3, none⟩ = some (.bool es[i].rd) ∧ w.cell? ⟨b, off + i * 5 + 4, none⟩ = some (.bool es[i].st) ∧ es[i].it.id.size ≤ maxLen ∧ es[i].it.ti.size ≤ maxLen := by
  obtain ⟨⟨a, cap, hv, h1, h2, hc⟩, hs⟩ := h
  refine ⟨a, cap, hv, h1, h2, fun j hj => ?_⟩
  obtain ⟨b, off, ha, hB, hr⟩ := hc (by omega)
  exact ⟨b, off, ha, hB, fun i hi => ⟨hr i hi 0 _ rfl, hr i hi 1 _ rfl, hr i hi 2 _ rfl, hr i hi 3 _ rfl, hr i hi 4 _ rfl, (hs _ (List.getElem_mem hi)).1, (hs _ (List.getElem_mem hi)).2⟩⟩
theorem EnAt.below {w w' : World} {B : Nat} {v : Value} {es : List En} (h : EnAt w B v es) (hb : Below B w w') : EnAt w' B v es := ⟨h.1.below hb, h.2⟩
theorem EnAt.mono {w : World} {B B' : Nat} {v : Value} {es : List En} (h : EnAt w B v es) (hb : B ≤ B') : EnAt w B' v es := ⟨h.1.mono hb, h.2⟩
theorem EnAt.drew {w : World} {B : Nat} {v : Value} {es : List En} (h : EnAt w B v es) : EnAt w.drew B v es := h
theorem EnAt.of_own {e : TypeId} {w : World} {base : Nat} {v : Value} {es : List En} (h : OwnR e 5 enC w base v es) (hs : ∀ x ∈ es, EnSz x) : EnAt w w.heap.size v es := ⟨h.at enC_len, hs⟩

structure Sb where
  u : ByteArray
  t : ByteArray
  es : List En
abbrev sbV (u t : ByteArray) (x : Value) : Value := .agg #[.string u, .string t, x]
def sbC (p : Sb × Value) : List Value := [.string p.1.u, .string p.1.t, p.2]
theorem sbC_len (p : Sb × Value) : (sbC p).length = 3 := rfl
def SbSz (s : Sb) : Prop := s.u.size ≤ maxLen ∧ s.t.size ≤ maxLen
def SbAt (w : World) (B : Nat) (v : Value) (ss : List Sb) : Prop := ∃ ps : List (Sb × Value), ps.map Prod.fst = ss ∧ RecAt 3 sbC w B v ps ∧ ∀ p ∈ ps, EnAt w B p.2 p.1.es ∧ SbSz p.1
theorem SbAt.raw {w : World} {B : Nat} {v : Value} {ss : List Sb} (h : SbAt w B v ss) : ∃ a cap, v = .slice a ss.length cap ∧ ss.length ≤ cap ∧ cap ≤ maxLen ∧
    ∀ j, j < ss.length → ∃ b off, a = some ⟨b, off, none⟩ ∧ b < B ∧ ∀ i (h : i < ss.length), ∃ x, w.cell? ⟨b, off + i * 3, none⟩ = some (.string ss[i].u) ∧ w.cell? ⟨b, off + i * 3 + 1, none⟩ = some (.string ss[i].t) ∧ w.cell? ⟨b, off + i * 3 + 2, none⟩ = some x ∧ EnAt w B x ss[i].es ∧ ss[i].u.size ≤ maxLen ∧ ss[i].t.size ≤ maxLen := by
  obtain ⟨ps, rfl, ⟨a, cap, hv, h1, h2, hc⟩, hs⟩ := h
  refine ⟨a, cap, by rw [List.length_map]; exact hv, by rw [List.length_map]; exact h1, h2, fun j hj => ?_⟩
  rw [List.length_map] at hj
  obtain ⟨b, off, ha, hB, hr⟩ := hc (by omega)
  refine ⟨b, off, ha, hB, fun i hi => ?_⟩
  have hi' : i < ps.length := by rwa [List.length_map] at hi
  have hm := hs _ (List.getElem_mem hi')
  rw [List.getElem_map]
  exact ⟨_, hr i hi' 0 _ rfl, hr i hi' 1 _ rfl, hr i hi' 2 _ rfl, hm.1, hm.2.1, hm.2.2⟩
theorem SbAt.below {w w' : World} {B : Nat} {v : Value} {ss : List Sb} (h : SbAt w B v ss) (hb : Below B w w') : SbAt w' B v ss := by
  obtain ⟨ps, h1, h2, h3⟩ := h
  exact ⟨ps, h1, h2.below hb, fun p hp => ⟨(h3 p hp).1.below hb, (h3 p hp).2⟩⟩
theorem SbAt.mono {w : World} {B B' : Nat} {v : Value} {ss : List Sb} (h : SbAt w B v ss) (hb : B ≤ B') : SbAt w B' v ss := by
  obtain ⟨ps, h1, h2, h3⟩ := h
  exact ⟨ps, h1, h2.mono hb, fun p hp => ⟨(h3 p hp).1.mono hb, (h3 p hp).2⟩⟩
theorem SbAt.drew {w : World} {B : Nat} {v : Value} {ss : List Sb} (h : SbAt w B v ss) : SbAt w.drew B v ss := h
theorem SbAt.size {w : World} {B : Nat} {v : Value} {ss : List Sb} (h : SbAt w B v ss) : ∀ s ∈ ss, SbSz s ∧ ∀ x ∈ s.es, EnSz x := by
  obtain ⟨ps, rfl, _, h3⟩ := h
  intro s hs
  obtain ⟨p, hp, rfl⟩ := List.mem_map.1 hs
  exact ⟨(h3 p hp).2, (h3 p hp).1.2⟩

/-- What is right. -/
def enB (es : List En) (k : Nat) : Bool := match es[k]? with
  | some x => itB x.it.id x.it.ti x.it.da
  | none => true
theorem enB_at (es : List En) (k : Nat) (h : k < es.length) : enB es k = itB es[k].it.id es[k].it.ti es[k].it.da := by
  unfold enB; rw [List.getElem?_eq_getElem h]
def enKs (es : List En) : List ByteArray := es.map fun x => x.it.id
def ensB (es : List En) : Bool := allB es.length (enB es) && risB (enKs es)
def sbB (s : Sb) : Bool := nmB s.u 20 && ttB s.t && decide (s.es.length ≤ 12) && ensB s.es
def sbsB (ss : List Sb) (k : Nat) : Bool := match ss[k]? with
  | some x => sbB x
  | none => true
theorem sbsB_at (ss : List Sb) (k : Nat) (h : k < ss.length) : sbsB ss k = sbB ss[k] := by
  unfold sbsB; rw [List.getElem?_eq_getElem h]
def sbKs (ss : List Sb) : List ByteArray := ss.map fun x => x.u
def rdB (ss : List Sb) : Bool := decide (ss.length ≤ 6) && (allB ss.length (sbsB ss) && risB (sbKs ss))
end Go.Proofs.Ytffkakpbelknaaa

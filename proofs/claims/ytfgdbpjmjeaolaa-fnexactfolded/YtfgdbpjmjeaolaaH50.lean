/- Joined: M9f. -/
import Derived.Test.YtfgdbpjmjeaolaaH41
import Derived.Test.YtfgdbpjmjeaolaaH49
/- M9f -/
namespace Go.Proofs.Ytfgdbpjmjeaolaa
open Go.ChangeShapes Go.WideShapes Go.ChangeAt Go.RowKit
set_option linter.unusedVariables false

/-- What Done leaves, refused or not. -/
def OutDu (rs : List Sb) (b : Bool) (w : World) (e : Ending) (w' : World) : Prop := ∃ V qs, e = .returned (.tuple #[.agg #[V], .bool b]) ∧ qs.map Prod.fst = rs ∧ OwnD w' w.heap.size V qs ∧ Below w.heap.size w w'
theorem OwnD.none (w : World) (B : Nat) : OwnD w B (.slice Option.none 0 0) [] := ⟨OwnR.nil _ _ _, (fun p hp => by cases hp), by unfold ApartD; simp⟩
theorem OutDn.uni {R : Option (List Sb)} {w w' : World} {e : Ending} (h : OutDn R w e w') : OutDu (R.getD []) R.isSome w e w' := by
  cases R with
  | none =>
    obtain ⟨h1, h2⟩ := h
    exact ⟨_, [], h1, rfl, OwnD.none _ _, h2⟩
  | some rs => exact h
theorem specDone_uni (v x : Value) (ss : List Sb) (o : OpD) (w : World) (h : SbAt w w.heap.size v ss) (hx : ItAt w w.heap.size x o.its) (hz : OpSz o) :
    Calls Try.prog 54 #[.agg #[v], opV o x] w (OutDu ((doV ss o).getD []) (doV ss o).isSome w) := (specDone_any v x ss o w h hx hz).mono (fun e w' h => h.uni)
theorem implDone_uni (v x : Value) (ss : List Sb) (o : OpD) (w : World) (h : SbAt w w.heap.size v ss) (hx : ItAt w w.heap.size x o.its) (hz : OpSz o) :
    Calls Try.prog 26 #[.agg #[v], opV o x] w (OutDu ((doV ss o).getD []) (doV ss o).isSome w) := (implDone_any v x ss o w h hx hz).mono (fun e w' h => h.uni)
theorem doU_rd (ss : List Sb) (o : OpD) : rdB ((doV ss o).getD []) = true := by
  cases h : doV ss o with
  | none => rfl
  | some rs => exact doV_rd h
theorem rd_lens {ss : List Sb} (h : rdB ss = true) : ss.length ≤ 1048576 ∧ ∀ s ∈ ss, s.es.length ≤ 1048576 := ⟨by have := rd_len h; omega, fun s hs => by have := sb_len (rd_sub h s hs); omega⟩
theorem OwnD.at {w : World} {B : Nat} {v : Value} {qs : List (Sb × Value)} {ss : List Sb} (h : OwnD w B v qs) (hq : qs.map Prod.fst = ss) (hs : ∀ s ∈ ss, SbSz s ∧ ∀ x ∈ s.es, EnSz x) : SbAt w w.heap.size v ss := OwnS.at (show OwnS w B v ss from ⟨qs, hq, h.1, h.2.1⟩) hs
theorem OwnD.lt {w : World} {B : Nat} {v : Value} {qs : List (Sb × Value)} (h : OwnD w B v qs) : (∀ b, v.ownBlock = Option.some b → b < w.heap.size) ∧ ∀ p ∈ qs, ∀ b, p.2.ownBlock = Option.some b → b < w.heap.size := ⟨fun b hb => (World.ownsRow.lt h.1 b hb).2, fun p hp b hb => (World.ownsRow.lt (h.2.1 p hp) b hb).2⟩
theorem wpAnyT_pair {P : Program} {md : Region.Mode} {Q : Exit → Act → World → Prop} {A B : World → Prop} {t : Nat} {l : List Oper} {L : Array Bool} {a : Act} {w : World} (i j g : Nat) {oi oj : Oper} (hr : Region.ready md l.toArray L = [i, j])
    (hoi : l[i]? = some oi) (hoj : l[j]? = some oj) (hwi : Region.wanted oi (yielded l.toArray a.tmps) = true) (hwj : Region.wanted oj (yielded l.toArray a.tmps) = true)
    (hi : ∀ K : Act → World → Prop, (∀ a w, Sx A B t (L.setIfInBounds i true) w → (Sx A B t (L.setIfInBounds i true) w → wpAnyT P md l.toArray Q A B t g (L.setIfInBounds i true) a w) → K a w) → oi.wp P a w K Q)
    (hj : ∀ K : Act → World → Prop, (∀ a w, Sx A B t (L.setIfInBounds j true) w → (Sx A B t (L.setIfInBounds j true) w → wpAnyT P md l.toArray Q A B t g (L.setIfInBounds j true) a w) → K a w) → oj.wp P a w K Q) : wpAnyT P md l.toArray Q A B t (g + 1) L a w := by
  refine ⟨fun h0 => (by rw [hr] at h0; cases h0), fun k hk => ?_⟩
  rw [hr] at hk
  have hk' : k = i ∨ k = j := by simpa using hk
  rcases hk' with rfl | rfl
  · unfold wpOp
    have ho' : l.toArray[k]? = some oi := by simpa using hoi
    simp only [ho']
    rw [if_pos hwi]
    exact .inl (hi _ (fun _ _ h1 h2 => ⟨h1, h2 h1⟩))
  · unfold wpOp
    have ho' : l.toArray[k]? = some oj := by simpa using hoj
    simp only [ho']
    rw [if_pos hwj]
    exact .inl (hj _ (fun _ _ h1 h2 => ⟨h1, h2 h1⟩))
theorem box_row {α : Type} {k : Nat} {C : α → List Value} {e t : TypeId} {w : World} {B g : Nat} {cs : Array Value} {v : Value} {l : List α} (hZ : Box w g cs t) (h : OwnR e k C w B v l) (he : e ≠ t) : v.ownBlock ≠ Option.some g := by
  intro hb
  rcases h.2 with ⟨rfl, _⟩ | ⟨g', cap, cur, rfl, _, hg, _⟩
  · cases hb
  · have h2 : g' = g := by simpa [Value.ownBlock] using hb
    subst h2
    unfold Box at hZ
    rw [hZ] at hg
    have h3 := Option.some.inj hg
    injection h3 with _ h4
    exact he h4.symm
theorem OwnD.offBox {w : World} {B g : Nat} {cs : Array Value} {v : Value} {qs : List (Sb × Value)} (h : OwnD w B v qs) (hZ : Box w g cs 26) (z : Value) : OwnD (w.setCell ⟨g, 0, Option.none⟩ z) B v qs := h.off ⟨g, 0, Option.none⟩ z (box_row hZ h.1 (by decide)) (fun q hq => box_row hZ (h.2.1 q hq) (by decide))
theorem SbAt.mid {w w' : World} {B B' S : Nat} {v : Value} {ss : List Sb} (h : SbAt w B v ss) (hm : Mid B' S w w') (hB : B ≤ B') : SbAt w' B v ss := h.below (hm.1.mono hB)
end Go.Proofs.Ytfgdbpjmjeaolaa

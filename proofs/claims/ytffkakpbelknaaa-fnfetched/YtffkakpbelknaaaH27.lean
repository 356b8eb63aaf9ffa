/- Joined: W9y, W9z. -/
import Derived.Test.YtffkakpbelknaaaH26
/- W9y -/
namespace Go.Proofs.Ytffkakpbelknaaa
open Go.ChangeShapes Go.WideShapes Go.ChangeAt Go.RowKit
set_option linter.unusedVariables false

def mkE (x : En) (k : Int) : En := if k = 4 then { x with rd := true } else if k = 5 then { x with rd := false } else if k = 6 then { x with st := true } else { x with st := false }
def mkAt (es : List En) (p : Nat) (k : Int) : List En := match es[p]? with
  | some x => es.set p (mkE x k)
  | none => es
/-- What marked answers. -/
def OutMK (s : Sb) (x : Value) (B : Nat) (id : ByteArray) (k : Int) (w : World) (e : Ending) (w' : World) : Prop :=
  if fnB (enKs s.es) id = true then e = .returned (.tuple #[sbV s.u s.t x, .bool true]) ∧ OwnR 47 5 enC w' B x (mkAt s.es (plK (enKs s.es) id) k) ∧ w.grownBy w' x.ownBlock
  else e = .returned (.tuple #[sbV ⟨#[]⟩ ⟨#[]⟩ (.slice none 0 0), .bool false]) ∧ w.grownBy w' none

set_option maxRecDepth 100000 in
set_option maxHeartbeats 1600000 in
theorem marked_any (s : Sb) (x : Value) (B : Nat) (id : ByteArray) (k : Int) (w : World) (hk : k = 4 ∨ k = 5 ∨ k = 6 ∨ k = 7) (h : OwnR 47 5 enC w B x s.es) (hz : ∀ y ∈ s.es, EnSz y) (hr : risB (enKs s.es) = true) (hn : s.es.length ≤ 1000) :
    Calls Try.prog 108 #[sbV s.u s.t x, .string id, .int .i64 k] w (OutMK s x B id k w) := by
  have HA : Hid (EnAt w w.heap.size x s.es) := Lib.hid ⟨h.at enC_len, hz⟩
  have HB : Hid (∀ g, x.ownBlock = some g → g < w.heap.size) := Lib.hid (fun g hg => (World.ownsRow.lt h g hg).2)
  have HP := Lib.hid (fun w h => placeOfE_any x s.es id w h (by omega) (ris_mono hr id))
  have HI := Lib.hid h
  obtain ⟨a, cap, rfl, hle⟩ := h.len
  have HOt : Hid (fnB (enKs s.es) id = true → ∀ e w', e = .returned (.tuple #[sbV s.u s.t (.slice a s.es.length cap), .bool true]) → OwnR 47 5 enC w' B (.slice a s.es.length cap) (mkAt s.es (plK (enKs s.es) id) k) → w.grownBy w' (Value.slice a s.es.length cap).ownBlock → OutMK s (.slice a s.es.length cap) B id k w e w') := Lib.hid (fun hf e w' h1 h2 h3 => by unfold OutMK; rw [if_pos hf]; exact ⟨h1, h2, h3⟩)
  have HOf : Hid (fnB (enKs s.es) id = false → ∀ e w', e = .returned (.tuple #[sbV ⟨#[]⟩ ⟨#[]⟩ (.slice none 0 0), .bool false]) → w.grownBy w' none → OutMK s (.slice a s.es.length cap) B id k w e w') := Lib.hid (fun hf e w' h1 h2 => by unfold OutMK; rw [if_neg (by rw [hf]; simp)]; exact ⟨h1, h2⟩)
  have HFn : Hid (fnB (enKs s.es) id = true → plK (enKs s.es) id < s.es.length) := Lib.hid (fun h => by
    unfold fnB at h
    have hsl : (enKs s.es).length = s.es.length := by simp [enKs]
    by_cases hp : plK (enKs s.es) id < (enKs s.es).length
    · omega
    · rw [List.getElem?_eq_none (by omega)] at h
      cases h)
  generalize plK (enKs s.es) id = p at HP HOt HOf HFn
  generalize fnB (enKs s.es) id = f at HP HOt HOf HFn
  have hcm : cap ≤ 9223372036854775807 := by
    rcases h.2 with ⟨h1, _⟩ | ⟨g, c, cur, h1, _, _, _, h2, _⟩
    · obtain ⟨_, _, h3⟩ : a = none ∧ s.es.length = 0 ∧ cap = 0 := by simpa using h1
      omega
    · obtain ⟨_, h3⟩ : a = some ⟨g, 0, none⟩ ∧ cap = c := by simpa using h1
      unfold maxLen at h2
      omega
  obtain ⟨E, hE⟩ : ∃ E, E = s.es := ⟨_, rfl⟩
  rw [← hE] at HA HB HP HI HOt HOf HFn hn hle ⊢
  obtain ⟨n, hnn⟩ : ∃ n, n = E.length := ⟨_, rfl⟩
  have HN := Lib.hid hnn
  rw [← hnn] at HA HB HP HI HOt HOf HFn hn hle ⊢
  clear h hz hr hE hnn
  have hba : Below w.heap.size w ((w.alloc (.cells #[.string s.u, .string s.t, .slice a n cap] 43)).alloc (.cells #[.string ⟨#[]⟩, .string ⟨#[]⟩, .slice none 0 0] 43)) := ((Below.refl _ _).alloc (Nat.le_refl _) _).alloc (by simp) _
  have hX0 := (Box.new w #[.string s.u, .string s.t, .slice a n cap] 43).alloc (.cells #[.string ⟨#[]⟩, .string ⟨#[]⟩, .slice none 0 0] 43)
  have hR0 : Box ((w.alloc (.cells #[.string s.u, .string s.t, .slice a n cap] 43)).alloc (.cells #[.string ⟨#[]⟩, .string ⟨#[]⟩, .slice none 0 0] 43)) (w.heap.size + 1) #[.string ⟨#[]⟩, .string ⟨#[]⟩, .slice none 0 0] 43 := by
    have := Box.new (w.alloc (.cells #[.string s.u, .string s.t, .slice a n cap] 43)) #[.string ⟨#[]⟩, .string ⟨#[]⟩, .slice none 0 0] 43
    simpa using this
  go_enter Try.func108, Try.ntmps108
  go_wp2_with fail
  generalize (w.alloc (.cells #[.string s.u, .string s.t, .slice a n cap] 43)).alloc (.cells #[.string ⟨#[]⟩, .string ⟨#[]⟩, .slice none 0 0] 43) = W at hba hX0 hR0 ⊢
  refine (HP.out _ ((HA.out.below hba).mono hba.size)).mono ?_
  rintro e w1 ⟨rfl, hb1⟩
  have hB1 := hba.trans (hb1.mono hba.size)
  have hX1 := hX0.keep hb1 hX0.lt
  have hR1 := hR0.keep hb1 hR0.lt
  have f0 := hX1.cell 0 _ rfl
  have f1 := hX1.cell 1 _ rfl
  have f2 := hX1.cell 2 _ rfl
  have r0 := hR1.cell 0 _ rfl
  have r1 := hR1.cell 1 _ rfl
  have r2 := hR1.cell 2 _ rfl
  have rf := hR1.free
  have HR1 := Lib.hid hR1
  have HX1 := Lib.hid hX1
  clear hba hX0 hR0 hb1 hX1 hR1
  cases f with
  | false =>
    have HO := Lib.hid (HOf.out rfl)
    have HG : Hid (w.grownBy w1 none) := Lib.hid ⟨hB1.os, hB1.tape, hB1.output, hB1.size, fun k hk _ => hB1.block k hk⟩
    clear HOf HOt
    go_wp2
    have hR2 := ((HR1.out.set 0 (.string ⟨#[]⟩)).set 1 (.string ⟨#[]⟩)).set 2 (.slice none 0 0)
    have hG2 := gb_set (gb_set (gb_set HG.out ⟨w.heap.size + 1, 0, none⟩ (.string ⟨#[]⟩) (.inl (by simp))) ⟨w.heap.size + 1, 1, none⟩ (.string ⟨#[]⟩) (.inl (by simp))) ⟨w.heap.size + 1, 2, none⟩ (.slice none 0 0) (.inl (by simp))
    generalize ((w1.setCell ⟨w.heap.size + 1, 0, none⟩ (.string ⟨#[]⟩)).setCell ⟨w.heap.size + 1, 1, none⟩ (.string ⟨#[]⟩)).setCell ⟨w.heap.size + 1, 2, none⟩ (.slice none 0 0) = W2 at hR2 hG2 ⊢
    have q0 := hR2.cell 0 _ rfl
    have q1 := hR2.cell 1 _ rfl
    have q2 := hR2.cell 2 _ rfl
    exact bodyPost_ret (v := .tuple #[sbV ⟨#[]⟩ ⟨#[]⟩ (.slice none 0 0), .bool false]) (by simp [results, Try.results108, go_sem, q0, q1, q2]) rfl (HO.out _ _ rfl hG2)
  | true =>
    have hpn := HFn.out rfl
    have HOw : Hid (OwnR 47 5 enC w1 B (.slice a n cap) E) := Lib.hid (HI.out.keep hB1 (Nat.le_refl _))
    obtain ⟨g, rfl, hgw⟩ : ∃ g, a = some ⟨g, 0, none⟩ ∧ g < w.heap.size := by
      rcases HOw.out.2 with ⟨h1, _⟩ | ⟨g, c, cur, h1, _⟩
      · cases h1; omega
      · cases h1; exact ⟨g, rfl, HB.out g rfl⟩
    have hfr : ∀ j, w1.frozen? ⟨g, j, none⟩ = false := fun j => HOw.out.free HN.out j
    obtain ⟨z3, c3⟩ := HOw.out.cell enC_len HN.out p 3 hpn (by decide)
    obtain ⟨z4, c4⟩ := HOw.out.cell enC_len HN.out p 4 hpn (by decide)
    have hpE : p < E.length := by have := HN.out; omega
    have HO := Lib.hid (HOt.out rfl)
    have HG : Hid (w.grownBy w1 (Value.slice (some ⟨g, 0, none⟩) n cap).ownBlock) := Lib.hid ⟨hB1.os, hB1.tape, hB1.output, hB1.size, fun k hk _ => hB1.block k hk⟩
    clear HOf HOt
    rcases hk with rfl | rfl | rfl | rfl
    · have HM : Hid (mkAt E p 4 = E.set p (mkE E[p] 4)) := Lib.hid (by unfold mkAt; rw [List.getElem?_eq_getElem hpE])
      have hown2 := HOw.out.setF enC_len HN.out p 3 (mkE E[p] 4) (.bool true) hpE (by decide) rfl
      rw [← HM.out] at hown2
      have HO2 := Lib.hid hown2
      have HG2 := Lib.hid (gb_set HG.out ⟨g, p * 5 + 3, none⟩ (.bool true) (.inr rfl))
      have HR2 := Lib.hid (HR1.out.other ⟨g, p * 5 + 3, none⟩ (.bool true) (by simp; omega))
      clear hown2 HM
      go_wp2
      have hR3 := ((HR2.out.set 0 (.string s.u)).set 1 (.string s.t)).set 2 (.slice (some ⟨g, 0, none⟩) n cap)
      have hG3 := gb_set (gb_set (gb_set HG2.out ⟨w.heap.size + 1, 0, none⟩ (.string s.u) (.inl (by simp))) ⟨w.heap.size + 1, 1, none⟩ (.string s.t) (.inl (by simp))) ⟨w.heap.size + 1, 2, none⟩ (.slice (some ⟨g, 0, none⟩) n cap) (.inl (by simp))
      have hne : (Value.slice (some ⟨g, 0, none⟩) n cap).ownBlock ≠ some (w.heap.size + 1) := fun h2 => by have h3 : g = w.heap.size + 1 := Option.some.inj h2; omega
      have hO3 := ((HO2.out.off ⟨w.heap.size + 1, 0, none⟩ (.string s.u) hne).off ⟨w.heap.size + 1, 1, none⟩ (.string s.t) hne).off ⟨w.heap.size + 1, 2, none⟩ (.slice (some ⟨g, 0, none⟩) n cap) hne
      generalize (((w1.setCell ⟨g, p * 5 + 3, none⟩ (.bool true)).setCell ⟨w.heap.size + 1, 0, none⟩ (.string s.u)).setCell ⟨w.heap.size + 1, 1, none⟩ (.string s.t)).setCell ⟨w.heap.size + 1, 2, none⟩ (.slice (some ⟨g, 0, none⟩) n cap) = W2 at hR3 hG3 hO3 ⊢
      have q0 := hR3.cell 0 _ rfl
      have q1 := hR3.cell 1 _ rfl
      have q2 := hR3.cell 2 _ rfl
      exact bodyPost_ret (v := .tuple #[sbV s.u s.t (.slice (some ⟨g, 0, none⟩) n cap), .bool true]) (by simp [results, Try.results108, go_sem, q0, q1, q2]) rfl (HO.out _ _ rfl hO3 hG3)
    · have HM : Hid (mkAt E p 5 = E.set p (mkE E[p] 5)) := Lib.hid (by unfold mkAt; rw [List.getElem?_eq_getElem hpE])
      have hown2 := HOw.out.setF enC_len HN.out p 3 (mkE E[p] 5) (.bool false) hpE (by decide) rfl
      rw [← HM.out] at hown2
      have HO2 := Lib.hid hown2
      have HG2 := Lib.hid (gb_set HG.out ⟨g, p * 5 + 3, none⟩ (.bool false) (.inr rfl))
      have HR2 := Lib.hid (HR1.out.other ⟨g, p * 5 + 3, none⟩ (.bool false) (by simp; omega))
      clear hown2 HM
      go_wp2
      have hR3 := ((HR2.out.set 0 (.string s.u)).set 1 (.string s.t)).set 2 (.slice (some ⟨g, 0, none⟩) n cap)
      have hG3 := gb_set (gb_set (gb_set HG2.out ⟨w.heap.size + 1, 0, none⟩ (.string s.u) (.inl (by simp))) ⟨w.heap.size + 1, 1, none⟩ (.string s.t) (.inl (by simp))) ⟨w.heap.size + 1, 2, none⟩ (.slice (some ⟨g, 0, none⟩) n cap) (.inl (by simp))
      have hne : (Value.slice (some ⟨g, 0, none⟩) n cap).ownBlock ≠ some (w.heap.size + 1) := fun h2 => by have h3 : g = w.heap.size + 1 := Option.some.inj h2; omega
      have hO3 := ((HO2.out.off ⟨w.heap.size + 1, 0, none⟩ (.string s.u) hne).off ⟨w.heap.size + 1, 1, none⟩ (.string s.t) hne).off ⟨w.heap.size + 1, 2, none⟩ (.slice (some ⟨g, 0, none⟩) n cap) hne
      generalize (((w1.setCell ⟨g, p * 5 + 3, none⟩ (.bool false)).setCell ⟨w.heap.size + 1, 0, none⟩ (.string s.u)).setCell ⟨w.heap.size + 1, 1, none⟩ (.string s.t)).setCell ⟨w.heap.size + 1, 2, none⟩ (.slice (some ⟨g, 0, none⟩) n cap) = W2 at hR3 hG3 hO3 ⊢
      have q0 := hR3.cell 0 _ rfl
      have q1 := hR3.cell 1 _ rfl
      have q2 := hR3.cell 2 _ rfl
      exact bodyPost_ret (v := .tuple #[sbV s.u s.t (.slice (some ⟨g, 0, none⟩) n cap), .bool true]) (by simp [results, Try.results108, go_sem, q0, q1, q2]) rfl (HO.out _ _ rfl hO3 hG3)
    · have HM : Hid (mkAt E p 6 = E.set p (mkE E[p] 6)) := Lib.hid (by unfold mkAt; rw [List.getElem?_eq_getElem hpE])
      have hown2 := HOw.out.setF enC_len HN.out p 4 (mkE E[p] 6) (.bool true) hpE (by decide) rfl
      rw [← HM.out] at hown2
      have HO2 := Lib.hid hown2
      have HG2 := Lib.hid (gb_set HG.out ⟨g, p * 5 + 4, none⟩ (.bool true) (.inr rfl))
      have HR2 := Lib.hid (HR1.out.other ⟨g, p * 5 + 4, none⟩ (.bool true) (by simp; omega))
      clear hown2 HM
      go_wp2
      have hR3 := ((HR2.out.set 0 (.string s.u)).set 1 (.string s.t)).set 2 (.slice (some ⟨g, 0, none⟩) n cap)
      have hG3 := gb_set (gb_set (gb_set HG2.out ⟨w.heap.size + 1, 0, none⟩ (.string s.u) (.inl (by simp))) ⟨w.heap.size + 1, 1, none⟩ (.string s.t) (.inl (by simp))) ⟨w.heap.size + 1, 2, none⟩ (.slice (some ⟨g, 0, none⟩) n cap) (.inl (by simp))
      have hne : (Value.slice (some ⟨g, 0, none⟩) n cap).ownBlock ≠ some (w.heap.size + 1) := fun h2 => by have h3 : g = w.heap.size + 1 := Option.some.inj h2; omega
      have hO3 := ((HO2.out.off ⟨w.heap.size + 1, 0, none⟩ (.string s.u) hne).off ⟨w.heap.size + 1, 1, none⟩ (.string s.t) hne).off ⟨w.heap.size + 1, 2, none⟩ (.slice (some ⟨g, 0, none⟩) n cap) hne
      generalize (((w1.setCell ⟨g, p * 5 + 4, none⟩ (.bool true)).setCell ⟨w.heap.size + 1, 0, none⟩ (.string s.u)).setCell ⟨w.heap.size + 1, 1, none⟩ (.string s.t)).setCell ⟨w.heap.size + 1, 2, none⟩ (.slice (some ⟨g, 0, none⟩) n cap) = W2 at hR3 hG3 hO3 ⊢
      have q0 := hR3.cell 0 _ rfl
      have q1 := hR3.cell 1 _ rfl
      have q2 := hR3.cell 2 _ rfl
      exact bodyPost_ret (v := .tuple #[sbV s.u s.t (.slice (some ⟨g, 0, none⟩) n cap), .bool true]) (by simp [results, Try.results108, go_sem, q0, q1, q2]) rfl (HO.out _ _ rfl hO3 hG3)
    · have HM : Hid (mkAt E p 7 = E.set p (mkE E[p] 7)) := Lib.hid (by unfold mkAt; rw [List.getElem?_eq_getElem hpE])
      have hown2 := HOw.out.setF enC_len HN.out p 4 (mkE E[p] 7) (.bool false) hpE (by decide) rfl
      rw [← HM.out] at hown2
      have HO2 := Lib.hid hown2
      have HG2 := Lib.hid (gb_set HG.out ⟨g, p * 5 + 4, none⟩ (.bool false) (.inr rfl))
      have HR2 := Lib.hid (HR1.out.other ⟨g, p * 5 + 4, none⟩ (.bool false) (by simp; omega))
      clear hown2 HM
      go_wp2
      have hR3 := ((HR2.out.set 0 (.string s.u)).set 1 (.string s.t)).set 2 (.slice (some ⟨g, 0, none⟩) n cap)
      have hG3 := gb_set (gb_set (gb_set HG2.out ⟨w.heap.size + 1, 0, none⟩ (.string s.u) (.inl (by simp))) ⟨w.heap.size + 1, 1, none⟩ (.string s.t) (.inl (by simp))) ⟨w.heap.size + 1, 2, none⟩ (.slice (some ⟨g, 0, none⟩) n cap) (.inl (by simp))
      have hne : (Value.slice (some ⟨g, 0, none⟩) n cap).ownBlock ≠ some (w.heap.size + 1) := fun h2 => by have h3 : g = w.heap.size + 1 := Option.some.inj h2; omega
      have hO3 := ((HO2.out.off ⟨w.heap.size + 1, 0, none⟩ (.string s.u) hne).off ⟨w.heap.size + 1, 1, none⟩ (.string s.t) hne).off ⟨w.heap.size + 1, 2, none⟩ (.slice (some ⟨g, 0, none⟩) n cap) hne
      generalize (((w1.setCell ⟨g, p * 5 + 4, none⟩ (.bool false)).setCell ⟨w.heap.size + 1, 0, none⟩ (.string s.u)).setCell ⟨w.heap.size + 1, 1, none⟩ (.string s.t)).setCell ⟨w.heap.size + 1, 2, none⟩ (.slice (some ⟨g, 0, none⟩) n cap) = W2 at hR3 hG3 hO3 ⊢
      have q0 := hR3.cell 0 _ rfl
      have q1 := hR3.cell 1 _ rfl
      have q2 := hR3.cell 2 _ rfl
      exact bodyPost_ret (v := .tuple #[sbV s.u s.t (.slice (some ⟨g, 0, none⟩) n cap), .bool true]) (by simp [results, Try.results108, go_sem, q0, q1, q2]) rfl (HO.out _ _ rfl hO3 hG3)
end Go.Proofs.Ytffkakpbelknaaa

/- W9z -/
namespace Go.Proofs.Ytffkakpbelknaaa
open Go.ChangeShapes Go.WideShapes Go.ChangeAt Go.RowKit
set_option linter.unusedVariables false

def pgB (x : En) (d : Int) : Bool := x.rd && (!x.st) && decide (x.it.da < d)
theorem pgB_def (x : En) (d : Int) : pgB x d = (x.rd && (!x.st) && decide (x.it.da < d)) := rfl
abbrev pgF (D : Nat) : Value := .func (.func 104) #[] #[.pointer (some ⟨D, 0, none⟩)]

set_option maxRecDepth 100000 in
set_option maxHeartbeats 1600000 in
theorem purged1_any (x : En) (D : Nat) (d : Int) (w : World) (hD : Box w D #[.int .i64 d] 2) :
    Calls Try.prog 104 #[enV x.it.id x.it.ti x.it.da x.rd x.st, .pointer (some ⟨D, 0, none⟩)] w fun e w' => e = .returned (.bool (pgB x d)) ∧ Below w.heap.size w w' := by
  have hb0 : Below w.heap.size w (w.alloc (.cells #[.string x.it.id, .string x.it.ti, .int .i64 x.it.da, .bool x.rd, .bool x.st] 47)) := (Below.refl _ _).alloc (Nat.le_refl _) _
  have f0 := hD.cell 0 _ rfl
  rw [pgB_def]
  cases h1 : x.rd with
  | false =>
    go_enter Try.func104, Try.ntmps104
    go_wp2
    go_ret
    rw [h1] at hb0
    exact ⟨rfl, hb0⟩
  | true =>
    cases h2 : x.st with
    | true =>
      go_enter Try.func104, Try.ntmps104
      go_wp2
      go_ret
      rw [h1, h2] at hb0
      exact ⟨rfl, hb0⟩
    | false =>
      rw [h1, h2] at hb0
      have f1 : (w.alloc (.cells #[.string x.it.id, .string x.it.ti, .int .i64 x.it.da, .bool true, .bool false] 47)).cell? ⟨D, 0, none⟩ = some (.int .i64 d) := (hD.keep hb0 hD.lt).cell 0 _ rfl
      clear f0
      go_enter Try.func104, Try.ntmps104
      go_wp2
      go_ret
      exact ⟨ret_bool (by simp), hb0⟩

/-- The first entry that goes. -/
def ixP (es : List En) (d : Int) : Option Nat := es.findIdx? (fun x => pgB x d)
def ixV (es : List En) (d : Int) : Int := match ixP es d with
  | some i => (i : Int)
  | none => -1
theorem ixP_some {es : List En} {d : Int} {k : Nat} (hk : k < es.length) (h1 : pgB es[k] d = true) (h2 : ∀ j (hj : j < es.length), j < k → pgB es[j] d = false) : ixP es d = some k := by
  unfold ixP
  rw [List.findIdx?_eq_some_iff_getElem]
  exact ⟨hk, h1, fun j hj => by rw [h2 j (by omega) hj]; simp⟩
theorem ixP_none {es : List En} {d : Int} (h2 : ∀ j (hj : j < es.length), pgB es[j] d = false) : ixP es d = none := by
  unfold ixP
  rw [List.findIdx?_eq_none_iff]
  intro x hx
  obtain ⟨j, hj, rfl⟩ := List.getElem_of_mem hx
  exact h2 j hj
def NoP (es : List En) (d : Int) (k : Nat) : Prop := ∀ j (hj : j < es.length), j < k → pgB es[j] d = false

set_option maxRecDepth 100000 in
set_option maxHeartbeats 1600000 in
theorem indexFunc_any (v : Value) (es : List En) (D : Nat) (d : Int) (w : World) (h : EnAt w w.heap.size v es) (hD : Box w D #[.int .i64 d] 2) :
    Calls Try.prog 148 #[v, pgF D] w fun e w' => e = .returned (.int .i64 (ixV es d)) ∧ Below w.heap.size w w' := by
  have HI := Lib.hid h
  obtain ⟨a, cap, rfl, hl, hm, hc⟩ := h.raw
  clear hc h
  unfold maxLen at hm
  have HX : Hid (∀ k (hk : k < es.length), pgB es[k] d = true → NoP es d k → ixV es d = (k : Int)) := Lib.hid (fun k hk h1 h2 => by unfold ixV; rw [ixP_some hk h1 h2])
  have HN : Hid (∀ k, ¬ k < es.length → NoP es d k → ixV es d = -1) := Lib.hid (fun k hk h2 => by unfold ixV; rw [ixP_none (fun j hj => h2 j hj (by omega))])
  generalize ixV es d = R at HX HN ⊢
  go_enter Try.func148, Try.ntmps148
  go_wp2
  go_loopw [8] (fun i wr => ∃ k : Nat, k ≤ es.length ∧ i = .int .i64 (k : Int) ∧ Below w.heap.size w wr ∧ Hid (NoP es d k)) (fun i _ => es.length - (intOf i).toNat)
  case atStart => exact ⟨0, Nat.zero_le _, rfl, Below.refl _ _, Lib.hid (fun j hj h => by omega)⟩
  case round =>
    obtain ⟨k, hk, rfl, hB, HO⟩ := hrel
    by_cases hlt : k < es.length
    · obtain ⟨a', cap', hv, _, _, hc⟩ := (HI.out.below hB).raw
      cases hv
      obtain ⟨b, off, rfl, hb, hr⟩ := hc k hlt
      obtain ⟨c0, c1, c2, c3, c4, _, _⟩ := hr k hlt
      have hD2 := hD.keep hB hD.lt
      have HC := Lib.hid (fun w hD => purged1_any es[k] D d w hD)
      have HXk := Lib.hid (HX.out k hlt)
      have HNk : Hid (pgB es[k] d = false → NoP es d (k + 1)) := Lib.hid (fun h j hj hjk => by
        by_cases e : j = k
        · subst e; exact h
        · exact HO.out j hj (by omega))
      generalize pgB es[k] d = q at HC HXk HNk
      obtain ⟨X, hX⟩ : ∃ X, X = es[k] := ⟨_, rfl⟩
      rw [← hX] at c0 c1 c2 c3 c4 HC
      clear hr hc hX
      go_wp2_with fail
      refine (HC.out _ hD2).mono ?_
      rintro e w1 ⟨rfl, hb1⟩
      have hB1 := hB.trans (hb1.mono hB.size)
      clear hb1 hB c0 c1 c2 c3 c4 hD2
      cases q with
      | true =>
        have HZ : Hid (R = (k : Int)) := Lib.hid (HXk.out rfl HO.out)
        go_wp2
        go_ret
        exact ⟨ret_int HZ.out.symm, hB1⟩
      | false =>
        have HO' := Lib.hid (HNk.out rfl)
        go_wp2
        go_roundw
        case rel => exact ⟨k + 1, by omega, by go_num, hB1, HO'⟩
        case measure => simp [intOf]; omega
    · have HZ : Hid (R = -1) := Lib.hid (HN.out k hlt HO.out)
      go_wp2
      go_ret
      exact ⟨ret_int HZ.out.symm, hB⟩
end Go.Proofs.Ytffkakpbelknaaa

/- Joined: W9x, W9y, W9z. -/
import Derived.Laws.ResultCell
import Derived.Test.YtfgdbpjmjeaolaaH21
/- W9x -/
namespace Go.Proofs.Ytfgdbpjmjeaolaa
open Go.ChangeShapes Go.WideShapes Go.ChangeAt Go.RowKit
set_option linter.unusedVariables false

/-- What withFeed answers. -/
def OutWF (ps : List (Sb × Value)) (x : ByteArray) (w : World) (e : Ending) (w' : World) : Prop :=
  if fnB (sbKs (ps.map Prod.fst)) x = true ∨ ps.length = 6 then e = .returned (.tuple #[.slice none 0 0, .bool false]) ∧ Below w.heap.size w w'
  else ∃ v, e = .returned (.tuple #[v, .bool true]) ∧ OwnR 105 3 sbC w' w.heap.size v (putP ps (plK (sbKs (ps.map Prod.fst)) x) false (⟨x, ⟨#[]⟩, []⟩, .slice none 0 0)) ∧ Below w.heap.size w w'

set_option maxRecDepth 100000 in
set_option maxHeartbeats 1600000 in
theorem withFeed_any (v : Value) (ps : List (Sb × Value)) (x : ByteArray) (w : World) (h : RecAt 3 sbC w w.heap.size v ps) (hs : SbAt w w.heap.size v (ps.map Prod.fst)) (hone : ∀ q ∈ ps, q.2.oneCell' = true) (hr : risB (sbKs (ps.map Prod.fst)) = true) (hn : ps.length ≤ 900) :
    Calls Try.prog 67 #[v, .string x] w (OutWF ps x w) := by
  have HI := Lib.hid h
  have HS := Lib.hid hs
  have HP := Lib.hid (fun w h => placeOfS_any v (ps.map Prod.fst) x w h (by rw [List.length_map]; omega) (ris_mono hr x))
  have HW := Lib.hid (fun w h hs => withS_any v ps (⟨x, ⟨#[]⟩, []⟩, .slice none 0 0) w h hs hone rfl hr hn)
  obtain ⟨a, cap, rfl, hl, hm, hc⟩ := h
  clear hc hs hone hr
  unfold maxLen at hm
  have HO : Hid (∀ e w', OutWF ps x w e w' = if fnB (sbKs (ps.map Prod.fst)) x = true ∨ ps.length = 6 then e = .returned (.tuple #[.slice none 0 0, .bool false]) ∧ Below w.heap.size w w'
      else ∃ v, e = .returned (.tuple #[v, .bool true]) ∧ OwnR 105 3 sbC w' w.heap.size v (putP ps (plK (sbKs (ps.map Prod.fst)) x) false (⟨x, ⟨#[]⟩, []⟩, .slice none 0 0)) ∧ Below w.heap.size w w') := Lib.hid (fun e w' => rfl)
  simp only at HW
  generalize plK (sbKs (ps.map Prod.fst)) x = p at HP HW HO
  generalize fnB (sbKs (ps.map Prod.fst)) x = f at HP HW HO
  cases f with
  | true =>
    go_enter Try.func67, Try.ntmps67
    go_wp2_with fail
    refine (HP.out _ HS.out).mono ?_
    rintro e w1 ⟨rfl, hb1⟩
    go_wp2
    go_ret2
    rw [HO.out, if_pos (by simp)]
    exact ⟨rfl, hb1⟩
  | false =>
    by_cases h6 : ps.length = 6
    · have h6' : ((ps.length : Int) == 6) = true := beq_iff_eq.2 (by omega)
      have H6 := Lib.hid h6
      clear h6
      go_enter Try.func67, Try.ntmps67
      go_wp2_with fail
      refine (HP.out _ HS.out).mono ?_
      rintro e w1 ⟨rfl, hb1⟩
      go_wp2
      go_ret2
      rw [HO.out, if_pos (.inr H6.out)]
      exact ⟨rfl, hb1⟩
    · have h6' : ((ps.length : Int) == 6) = false := beq_eq_false_iff_ne.2 (by omega)
      have H6 := Lib.hid h6
      clear h6
      go_enter Try.func67, Try.ntmps67
      go_wp2_with fail
      refine (HP.out _ HS.out).mono ?_
      rintro e w1 ⟨rfl, hb1⟩
      go_wp2_with fail
      refine (HW.out _ ((HI.out.below hb1).mono hb1.size) ((HS.out.below hb1).mono hb1.size)).mono ?_
      rintro e w2 ⟨v2, rfl, hown2, hb2⟩
      have hB2 := hb1.trans (hb2.mono hb1.size)
      have hown3 := hown2.base_mono hb1.size
      clear hb1 hb2 hown2
      go_wp2
      go_ret2
      rw [HO.out, if_neg (by simp [H6.out])]
      exact ⟨_, rfl, hown3, hB2⟩

/-- What allRead answers: the list itself, written. -/
def rdAll (es : List En) : List En := es.map fun x => { x with rd := true }
def OutAR (s : Sb) (x : Value) (B : Nat) (w : World) (e : Ending) (w' : World) : Prop := e = .returned (sbV s.u s.t x) ∧ OwnR 109 5 enC w' B x (rdAll s.es) ∧ w.grownBy w' x.ownBlock
theorem rdAll_set (es : List En) (k : Nat) (h : k < es.length) : (rdAll (es.take k) ++ es.drop k).set k { es[k] with rd := true } = rdAll (es.take (k + 1)) ++ es.drop (k + 1) := by
  have hl : (rdAll (es.take k)).length = k := by simp [rdAll]; omega
  rw [List.set_append_right _ _ (by omega), hl, Nat.sub_self, List.take_succ_eq_append_getElem h, List.drop_eq_getElem_cons h, List.set_cons_zero]
  unfold rdAll
  rw [List.map_append]
  simp
theorem gb_set {w wr : World} {row : Option Nat} (h : w.grownBy wr row) (p : Addr) (u : Value) (hp : w.heap.size ≤ p.block ∨ row = some p.block) : w.grownBy (wr.setCell p u) row :=
  ⟨h.os, h.tape, h.output, by have := h.size; simpa [World.setCell] using this, fun k hk hne => by
    rw [Below.heap_setCell _ _ _ _ (fun e => by
      rcases hp with h1 | h1
      · omega
      · exact hne (by rw [h1, e]))]
    exact h.block k hk hne⟩
theorem gb_alloc {w wr : World} {row : Option Nat} (h : w.grownBy wr row) (o : Obj) : w.grownBy (wr.alloc o) row :=
  ⟨h.os, h.tape, h.output, by have := h.size; simp; omega, fun k hk hne => by
    rw [Below.heap_alloc _ _ _ (by have := h.size; omega)]
    exact h.block k hk hne⟩
theorem gb_below {w wr w' : World} {row : Option Nat} {B : Nat} (h : w.grownBy wr row) (hb : Below B wr w') (hB : w.heap.size ≤ B) : w.grownBy w' row :=
  ⟨hb.os.trans h.os, hb.tape.trans h.tape, hb.output.trans h.output, Nat.le_trans h.size hb.size, fun k hk hne => (hb.block k (by omega)).trans (h.block k hk hne)⟩

set_option maxRecDepth 100000 in
set_option maxHeartbeats 1600000 in
theorem allRead_any (s : Sb) (x : Value) (B : Nat) (w : World) (h : OwnR 109 5 enC w B x s.es) (hn : s.es.length ≤ 1000) :
    Calls Try.prog 129 #[sbV s.u s.t x] w (OutAR s x B w) := by
  have HI := Lib.hid ((h.alloc (.cells #[.string s.u, .string s.t, x] 105)).alloc (.cells #[.string ⟨#[]⟩, .string ⟨#[]⟩, .slice none 0 0] 105))
  have HB : Hid (∀ g, x.ownBlock = some g → g < w.heap.size) := Lib.hid (fun g hg => (World.ownsRow.lt h g hg).2)
  obtain ⟨a, cap, rfl, hle⟩ := h.len
  have hcm : cap ≤ 9223372036854775807 := by
    rcases h.2 with ⟨h1, _⟩ | ⟨g, c, cur, h1, _, _, _, h2, _⟩
    · obtain ⟨_, _, h3⟩ : a = none ∧ s.es.length = 0 ∧ cap = 0 := by simpa using h1
      omega
    · obtain ⟨_, h3⟩ : a = some ⟨g, 0, none⟩ ∧ cap = c := by simpa using h1
      unfold maxLen at h2
      omega
  have hg0 := gb_alloc (gb_alloc (World.grownBy.refl w (Value.slice a s.es.length cap).ownBlock) (.cells #[.string s.u, .string s.t, .slice a s.es.length cap] 105)) (.cells #[.string ⟨#[]⟩, .string ⟨#[]⟩, .slice none 0 0] 105)
  have hX0 := (Box.new w #[.string s.u, .string s.t, .slice a s.es.length cap] 105).alloc (.cells #[.string ⟨#[]⟩, .string ⟨#[]⟩, .slice none 0 0] 105)
  have hR0 : Box ((w.alloc (.cells #[.string s.u, .string s.t, .slice a s.es.length cap] 105)).alloc (.cells #[.string ⟨#[]⟩, .string ⟨#[]⟩, .slice none 0 0] 105)) (w.heap.size + 1) #[.string ⟨#[]⟩, .string ⟨#[]⟩, .slice none 0 0] 105 := by
    have := Box.new (w.alloc (.cells #[.string s.u, .string s.t, .slice a s.es.length cap] 105)) #[.string ⟨#[]⟩, .string ⟨#[]⟩, .slice none 0 0] 105
    simpa using this
  obtain ⟨E, hE⟩ : ∃ E, E = s.es := ⟨_, rfl⟩
  have HE := Lib.hid hE
  rw [← hE] at HI hn hle
  obtain ⟨n, hnn⟩ : ∃ n, n = E.length := ⟨_, rfl⟩
  have HN := Lib.hid hnn
  have hEn : s.es.length = n := by rw [hnn, hE]
  rw [hEn] at HB hg0 hX0 hR0 ⊢
  rw [← hnn] at HI hn hle
  clear h hE hnn hEn
  go_enter Try.func129, Try.ntmps129
  go_wp2
  generalize (w.alloc (.cells #[.string s.u, .string s.t, .slice a n cap] 105)).alloc (.cells #[.string ⟨#[]⟩, .string ⟨#[]⟩, .slice none 0 0] 105) = W at HI hg0 hX0 hR0 ⊢
  go_loopw [7] (fun i wr => ∃ k : Nat, k ≤ n ∧ i = .int .i64 (k : Int) ∧ OwnR 109 5 enC wr B (.slice a n cap) (rdAll (E.take k) ++ E.drop k) ∧ w.grownBy wr (Value.slice a n cap).ownBlock ∧ Box wr w.heap.size #[.string s.u, .string s.t, .slice a n cap] 105 ∧ Box wr (w.heap.size + 1) #[.string ⟨#[]⟩, .string ⟨#[]⟩, .slice none 0 0] 105) (fun i _ => n - (intOf i).toNat)
  case atStart => exact ⟨0, Nat.zero_le _, rfl, by simpa [rdAll] using HI.out, hg0, hX0, hR0⟩
  case round =>
    obtain ⟨k, hk, rfl, hown, hgr, hX, hR⟩ := hrel
    clear hg0 hX0 hR0
    have f0 := hX.cell 0 _ rfl
    have f1 := hX.cell 1 _ rfl
    have f2 := hX.cell 2 _ rfl
    by_cases hlt : k < n
    · have hkE : k < E.length := by have := HN.out; omega
      obtain ⟨g, rfl, hgw⟩ : ∃ g, a = some ⟨g, 0, none⟩ ∧ g < w.heap.size := by
        rcases hown.2 with ⟨h1, _⟩ | ⟨g, c, cur, h1, _⟩
        · cases h1; omega
        · cases h1; exact ⟨g, rfl, HB.out g rfl⟩
      have hll : n = (rdAll (E.take k) ++ E.drop k).length := by have := HN.out; simp [rdAll]; omega
      have hfr : ∀ j, wr.frozen? ⟨g, j, none⟩ = false := fun j => hown.free hll j
      obtain ⟨z3, c3⟩ := hown.cell enC_len hll k 3 hlt (by decide)
      have hge : (rdAll (E.take k) ++ E.drop k)[k]'(by omega) = E[k] := by
        have hl1 : (rdAll (E.take k)).length = k := by simp [rdAll]; omega
        rw [List.getElem_append_right (by omega)]
        simp [hl1]
      have hown2 := hown.setF enC_len hll k 3 { E[k] with rd := true } (.bool true) (by omega) (by decide) (by rw [hge]; rfl)
      rw [rdAll_set E k hkE] at hown2
      have hgr2 := gb_set hgr ⟨g, k * 5 + 3, none⟩ (.bool true) (.inr rfl)
      have hX2 := hX.other ⟨g, k * 5 + 3, none⟩ (.bool true) (by simp; omega)
      have hR2 := hR.other ⟨g, k * 5 + 3, none⟩ (.bool true) (by simp; omega)
      have HO2 := Lib.hid hown2
      clear hown hown2 hgr hX hR hge hll
      go_wp2
      go_roundw
      case rel => exact ⟨k + 1, by omega, by go_num, HO2.out, hgr2, hX2, hR2⟩
      case measure => simp [intOf]; omega
    · have hke : k = E.length := by have := HN.out; omega
      have hrf := hR.free
      have r0 := hR.cell 0 _ rfl
      have r1 := hR.cell 1 _ rfl
      have r2 := hR.cell 2 _ rfl
      have HOw : Hid (OwnR 109 5 enC wr B (.slice a n cap) (rdAll E)) := Lib.hid (by rw [hke, List.take_length, List.drop_length, List.append_nil] at hown; exact hown)
      have HR := Lib.hid hR
      have HG := Lib.hid hgr
      clear hown hR hgr hX hke
      go_wp2
      have hR2 := ((HR.out.set 0 (.string s.u)).set 1 (.string s.t)).set 2 (.slice a n cap)
      have hG2 := gb_set (gb_set (gb_set HG.out ⟨w.heap.size + 1, 0, none⟩ (.string s.u) (.inl (by simp))) ⟨w.heap.size + 1, 1, none⟩ (.string s.t) (.inl (by simp))) ⟨w.heap.size + 1, 2, none⟩ (.slice a n cap) (.inl (by simp))
      have hne : (Value.slice a n cap).ownBlock ≠ some (w.heap.size + 1) := fun h2 => by have := HB.out _ h2; omega
      have hO2 := ((HOw.out.off ⟨w.heap.size + 1, 0, none⟩ (.string s.u) hne).off ⟨w.heap.size + 1, 1, none⟩ (.string s.t) hne).off ⟨w.heap.size + 1, 2, none⟩ (.slice a n cap) hne
      generalize ((wr.setCell ⟨w.heap.size + 1, 0, none⟩ (.string s.u)).setCell ⟨w.heap.size + 1, 1, none⟩ (.string s.t)).setCell ⟨w.heap.size + 1, 2, none⟩ (.slice a n cap) = W2 at hR2 hG2 hO2 ⊢
      have q0 := hR2.cell 0 _ rfl
      have q1 := hR2.cell 1 _ rfl
      have q2 := hR2.cell 2 _ rfl
      exact bodyPost_ret (v := sbV s.u s.t (.slice a n cap)) (by simp [results, Try.results129, go_sem, q0, q1, q2]) rfl ⟨rfl, by rw [← HE.out]; exact hO2, hG2⟩

end Go.Proofs.Ytfgdbpjmjeaolaa

/- W9y -/
namespace Go.Proofs.Ytfgdbpjmjeaolaa
open Go.ChangeShapes Go.WideShapes Go.ChangeAt Go.RowKit
set_option linter.unusedVariables false

def mkE (x : En) (k : Int) : En := if k = 4 then { x with rd := true } else if k = 5 then { x with rd := false } else if k = 6 then { x with st := true } else { x with st := false }
def mkAt (es : List En) (p : Nat) (k : Int) : List En := match es[p]? with
  | some x => es.set p (mkE x k)
  | none => es
/-- What marked answers. -/
def OutMK (s : Sb) (x : Value) (B : Nat) (id : ByteArray) (k : Int) (w : World) (e : Ending) (w' : World) : Prop :=
  if fnB (enKs s.es) id = true then e = .returned (.tuple #[sbV s.u s.t x, .bool true]) ∧ OwnR 109 5 enC w' B x (mkAt s.es (plK (enKs s.es) id) k) ∧ w.grownBy w' x.ownBlock
  else e = .returned (.tuple #[sbV ⟨#[]⟩ ⟨#[]⟩ (.slice none 0 0), .bool false]) ∧ w.grownBy w' none

set_option maxRecDepth 100000 in
set_option maxHeartbeats 1600000 in
theorem marked_any (s : Sb) (x : Value) (B : Nat) (id : ByteArray) (k : Int) (w : World) (hk : k = 4 ∨ k = 5 ∨ k = 6 ∨ k = 7) (h : OwnR 109 5 enC w B x s.es) (hz : ∀ y ∈ s.es, EnSz y) (hr : risB (enKs s.es) = true) (hn : s.es.length ≤ 1000) :
    Calls Try.prog 131 #[sbV s.u s.t x, .string id, .int .i64 k] w (OutMK s x B id k w) := by
  have HA : Hid (EnAt w w.heap.size x s.es) := Lib.hid ⟨h.at enC_len, hz⟩
  have HB : Hid (∀ g, x.ownBlock = some g → g < w.heap.size) := Lib.hid (fun g hg => (World.ownsRow.lt h g hg).2)
  have HP := Lib.hid (fun w h => placeOfE_any x s.es id w h (by omega) (ris_mono hr id))
  have HI := Lib.hid h
  obtain ⟨a, cap, rfl, hle⟩ := h.len
  have HOt : Hid (fnB (enKs s.es) id = true → ∀ e w', e = .returned (.tuple #[sbV s.u s.t (.slice a s.es.length cap), .bool true]) → OwnR 109 5 enC w' B (.slice a s.es.length cap) (mkAt s.es (plK (enKs s.es) id) k) → w.grownBy w' (Value.slice a s.es.length cap).ownBlock → OutMK s (.slice a s.es.length cap) B id k w e w') := Lib.hid (fun hf e w' h1 h2 h3 => by unfold OutMK; rw [if_pos hf]; exact ⟨h1, h2, h3⟩)
  have HOf : Hid (fnB (enKs s.es) id = false → ∀ e w', e = .returned (.tuple #[sbV ⟨#[]⟩ ⟨#[]⟩ (.slice none 0 0), .bool false]) → w.grownBy w' none → OutMK s (.slice a s.es.length cap) B id k w e w') := Lib.hid (fun hf e w' h1 h2 => by unfold OutMK; rw [if_neg (by rw [hf]; simp)]; exact ⟨h1, h2⟩)
  have HFn : Hid (fnB (enKs s.es) id = true → plK (enKs s.es) id < s.es.length) := Lib.hid (fun h => by
    unfold fnB at h
    have hsl : (enKs s.es).length = s.es.length := by simp [enKs]
    by_cases hp : plK (enKs s.es) id < (enKs s.es).length
    · omega
    · rw [List.getElem?_eq_none (by omega)] at h
      cases h)
  generalize plK (enKs s.es) id = p at HP HOt HOf HFn
  generalize fnB (enKs s.es) id = f at HP HOt HOf HFn
  have hcm : cap ≤ 9223372036854775807 := by
    rcases h.2 with ⟨h1, _⟩ | ⟨g, c, cur, h1, _, _, _, h2, _⟩
    · obtain ⟨_, _, h3⟩ : a = none ∧ s.es.length = 0 ∧ cap = 0 := by simpa using h1
      omega
    · obtain ⟨_, h3⟩ : a = some ⟨g, 0, none⟩ ∧ cap = c := by simpa using h1
      unfold maxLen at h2
      omega
  obtain ⟨E, hE⟩ : ∃ E, E = s.es := ⟨_, rfl⟩
  rw [← hE] at HA HB HP HI HOt HOf HFn hn hle ⊢
  obtain ⟨n, hnn⟩ : ∃ n, n = E.length := ⟨_, rfl⟩
  have HN := Lib.hid hnn
  rw [← hnn] at HA HB HP HI HOt HOf HFn hn hle ⊢
  clear h hz hr hE hnn
  have hba : Below w.heap.size w ((w.alloc (.cells #[.string s.u, .string s.t, .slice a n cap] 105)).alloc (.cells #[.string ⟨#[]⟩, .string ⟨#[]⟩, .slice none 0 0] 105)) := ((Below.refl _ _).alloc (Nat.le_refl _) _).alloc (by simp) _
  have hX0 := (Box.new w #[.string s.u, .string s.t, .slice a n cap] 105).alloc (.cells #[.string ⟨#[]⟩, .string ⟨#[]⟩, .slice none 0 0] 105)
  have hR0 : Box ((w.alloc (.cells #[.string s.u, .string s.t, .slice a n cap] 105)).alloc (.cells #[.string ⟨#[]⟩, .string ⟨#[]⟩, .slice none 0 0] 105)) (w.heap.size + 1) #[.string ⟨#[]⟩, .string ⟨#[]⟩, .slice none 0 0] 105 := by
    have := Box.new (w.alloc (.cells #[.string s.u, .string s.t, .slice a n cap] 105)) #[.string ⟨#[]⟩, .string ⟨#[]⟩, .slice none 0 0] 105
    simpa using this
  go_enter Try.func131, Try.ntmps131
  go_wp2_with fail
  generalize (w.alloc (.cells #[.string s.u, .string s.t, .slice a n cap] 105)).alloc (.cells #[.string ⟨#[]⟩, .string ⟨#[]⟩, .slice none 0 0] 105) = W at hba hX0 hR0 ⊢
  refine (HP.out _ ((HA.out.below hba).mono hba.size)).mono ?_
  rintro e w1 ⟨rfl, hb1⟩
  have hB1 := hba.trans (hb1.mono hba.size)
  have hX1 := hX0.keep hb1 hX0.lt
  have hR1 := hR0.keep hb1 hR0.lt
  have f0 := hX1.cell 0 _ rfl
  have f1 := hX1.cell 1 _ rfl
  have f2 := hX1.cell 2 _ rfl
  have r0 := hR1.cell 0 _ rfl
  have r1 := hR1.cell 1 _ rfl
  have r2 := hR1.cell 2 _ rfl
  have rf := hR1.free
  have HR1 := Lib.hid hR1
  have HX1 := Lib.hid hX1
  clear hba hX0 hR0 hb1 hX1 hR1
  cases f with
  | false =>
    have HO := Lib.hid (HOf.out rfl)
    have HG : Hid (w.grownBy w1 none) := Lib.hid ⟨hB1.os, hB1.tape, hB1.output, hB1.size, fun k hk _ => hB1.block k hk⟩
    clear HOf HOt
    go_wp2
    have hR2 := ((HR1.out.set 0 (.string ⟨#[]⟩)).set 1 (.string ⟨#[]⟩)).set 2 (.slice none 0 0)
    have hG2 := gb_set (gb_set (gb_set HG.out ⟨w.heap.size + 1, 0, none⟩ (.string ⟨#[]⟩) (.inl (by simp))) ⟨w.heap.size + 1, 1, none⟩ (.string ⟨#[]⟩) (.inl (by simp))) ⟨w.heap.size + 1, 2, none⟩ (.slice none 0 0) (.inl (by simp))
    generalize ((w1.setCell ⟨w.heap.size + 1, 0, none⟩ (.string ⟨#[]⟩)).setCell ⟨w.heap.size + 1, 1, none⟩ (.string ⟨#[]⟩)).setCell ⟨w.heap.size + 1, 2, none⟩ (.slice none 0 0) = W2 at hR2 hG2 ⊢
    have q0 := hR2.cell 0 _ rfl
    have q1 := hR2.cell 1 _ rfl
    have q2 := hR2.cell 2 _ rfl
    exact bodyPost_ret (v := .tuple #[sbV ⟨#[]⟩ ⟨#[]⟩ (.slice none 0 0), .bool false]) (by simp [results, Try.results131, go_sem, q0, q1, q2]) rfl (HO.out _ _ rfl hG2)
  | true =>
    have hpn := HFn.out rfl
    have HOw : Hid (OwnR 109 5 enC w1 B (.slice a n cap) E) := Lib.hid (HI.out.keep hB1 (Nat.le_refl _))
    obtain ⟨g, rfl, hgw⟩ : ∃ g, a = some ⟨g, 0, none⟩ ∧ g < w.heap.size := by
      rcases HOw.out.2 with ⟨h1, _⟩ | ⟨g, c, cur, h1, _⟩
      · cases h1; omega
      · cases h1; exact ⟨g, rfl, HB.out g rfl⟩
    have hfr : ∀ j, w1.frozen? ⟨g, j, none⟩ = false := fun j => HOw.out.free HN.out j
    obtain ⟨z3, c3⟩ := HOw.out.cell enC_len HN.out p 3 hpn (by decide)
    obtain ⟨z4, c4⟩ := HOw.out.cell enC_len HN.out p 4 hpn (by decide)
    have hpE : p < E.length := by have := HN.out; omega
    have HO := Lib.hid (HOt.out rfl)
    have HG : Hid (w.grownBy w1 (Value.slice (some ⟨g, 0, none⟩) n cap).ownBlock) := Lib.hid ⟨hB1.os, hB1.tape, hB1.output, hB1.size, fun k hk _ => hB1.block k hk⟩
    clear HOf HOt
    rcases hk with rfl | rfl | rfl | rfl
    · have HM : Hid (mkAt E p 4 = E.set p (mkE E[p] 4)) := Lib.hid (by unfold mkAt; rw [List.getElem?_eq_getElem hpE])
      have hown2 := HOw.out.setF enC_len HN.out p 3 (mkE E[p] 4) (.bool true) hpE (by decide) rfl
      rw [← HM.out] at hown2
      have HO2 := Lib.hid hown2
      have HG2 := Lib.hid (gb_set HG.out ⟨g, p * 5 + 3, none⟩ (.bool true) (.inr rfl))
      have HR2 := Lib.hid (HR1.out.other ⟨g, p * 5 + 3, none⟩ (.bool true) (by simp; omega))
      clear hown2 HM
      go_wp2
      have hR3 := ((HR2.out.set 0 (.string s.u)).set 1 (.string s.t)).set 2 (.slice (some ⟨g, 0, none⟩) n cap)
      have hG3 := gb_set (gb_set (gb_set HG2.out ⟨w.heap.size + 1, 0, none⟩ (.string s.u) (.inl (by simp))) ⟨w.heap.size + 1, 1, none⟩ (.string s.t) (.inl (by simp))) ⟨w.heap.size + 1, 2, none⟩ (.slice (some ⟨g, 0, none⟩) n cap) (.inl (by simp))
      have hne : (Value.slice (some ⟨g, 0, none⟩) n cap).ownBlock ≠ some (w.heap.size + 1) := fun h2 => by have h3 : g = w.heap.size + 1 := Option.some.inj h2; omega
      have hO3 := ((HO2.out.off ⟨w.heap.size + 1, 0, none⟩ (.string s.u) hne).off ⟨w.heap.size + 1, 1, none⟩ (.string s.t) hne).off ⟨w.heap.size + 1, 2, none⟩ (.slice (some ⟨g, 0, none⟩) n cap) hne
      generalize (((w1.setCell ⟨g, p * 5 + 3, none⟩ (.bool true)).setCell ⟨w.heap.size + 1, 0, none⟩ (.string s.u)).setCell ⟨w.heap.size + 1, 1, none⟩ (.string s.t)).setCell ⟨w.heap.size + 1, 2, none⟩ (.slice (some ⟨g, 0, none⟩) n cap) = W2 at hR3 hG3 hO3 ⊢
      have q0 := hR3.cell 0 _ rfl
      have q1 := hR3.cell 1 _ rfl
      have q2 := hR3.cell 2 _ rfl
      exact bodyPost_ret (v := .tuple #[sbV s.u s.t (.slice (some ⟨g, 0, none⟩) n cap), .bool true]) (by simp [results, Try.results131, go_sem, q0, q1, q2]) rfl (HO.out _ _ rfl hO3 hG3)
    · have HM : Hid (mkAt E p 5 = E.set p (mkE E[p] 5)) := Lib.hid (by unfold mkAt; rw [List.getElem?_eq_getElem hpE])
      have hown2 := HOw.out.setF enC_len HN.out p 3 (mkE E[p] 5) (.bool false) hpE (by decide) rfl
      rw [← HM.out] at hown2
      have HO2 := Lib.hid hown2
      have HG2 := Lib.hid (gb_set HG.out ⟨g, p * 5 + 3, none⟩ (.bool false) (.inr rfl))
      have HR2 := Lib.hid (HR1.out.other ⟨g, p * 5 + 3, none⟩ (.bool false) (by simp; omega))
      clear hown2 HM
      go_wp2
      have hR3 := ((HR2.out.set 0 (.string s.u)).set 1 (.string s.t)).set 2 (.slice (some ⟨g, 0, none⟩) n cap)
      have hG3 := gb_set (gb_set (gb_set HG2.out ⟨w.heap.size + 1, 0, none⟩ (.string s.u) (.inl (by simp))) ⟨w.heap.size + 1, 1, none⟩ (.string s.t) (.inl (by simp))) ⟨w.heap.size + 1, 2, none⟩ (.slice (some ⟨g, 0, none⟩) n cap) (.inl (by simp))
      have hne : (Value.slice (some ⟨g, 0, none⟩) n cap).ownBlock ≠ some (w.heap.size + 1) := fun h2 => by have h3 : g = w.heap.size + 1 := Option.some.inj h2; omega
      have hO3 := ((HO2.out.off ⟨w.heap.size + 1, 0, none⟩ (.string s.u) hne).off ⟨w.heap.size + 1, 1, none⟩ (.string s.t) hne).off ⟨w.heap.size + 1, 2, none⟩ (.slice (some ⟨g, 0, none⟩) n cap) hne
      generalize (((w1.setCell ⟨g, p * 5 + 3, none⟩ (.bool false)).setCell ⟨w.heap.size + 1, 0, none⟩ (.string s.u)).setCell ⟨w.heap.size + 1, 1, none⟩ (.string s.t)).setCell ⟨w.heap.size + 1, 2, none⟩ (.slice (some ⟨g, 0, none⟩) n cap) = W2 at hR3 hG3 hO3 ⊢
      have q0 := hR3.cell 0 _ rfl
      have q1 := hR3.cell 1 _ rfl
      have q2 := hR3.cell 2 _ rfl
      exact bodyPost_ret (v := .tuple #[sbV s.u s.t (.slice (some ⟨g, 0, none⟩) n cap), .bool true]) (by simp [results, Try.results131, go_sem, q0, q1, q2]) rfl (HO.out _ _ rfl hO3 hG3)
    · have HM : Hid (mkAt E p 6 = E.set p (mkE E[p] 6)) := Lib.hid (by unfold mkAt; rw [List.getElem?_eq_getElem hpE])
      have hown2 := HOw.out.setF enC_len HN.out p 4 (mkE E[p] 6) (.bool true) hpE (by decide) rfl
      rw [← HM.out] at hown2
      have HO2 := Lib.hid hown2
      have HG2 := Lib.hid (gb_set HG.out ⟨g, p * 5 + 4, none⟩ (.bool true) (.inr rfl))
      have HR2 := Lib.hid (HR1.out.other ⟨g, p * 5 + 4, none⟩ (.bool true) (by simp; omega))
      clear hown2 HM
      go_wp2
      have hR3 := ((HR2.out.set 0 (.string s.u)).set 1 (.string s.t)).set 2 (.slice (some ⟨g, 0, none⟩) n cap)
      have hG3 := gb_set (gb_set (gb_set HG2.out ⟨w.heap.size + 1, 0, none⟩ (.string s.u) (.inl (by simp))) ⟨w.heap.size + 1, 1, none⟩ (.string s.t) (.inl (by simp))) ⟨w.heap.size + 1, 2, none⟩ (.slice (some ⟨g, 0, none⟩) n cap) (.inl (by simp))
      have hne : (Value.slice (some ⟨g, 0, none⟩) n cap).ownBlock ≠ some (w.heap.size + 1) := fun h2 => by have h3 : g = w.heap.size + 1 := Option.some.inj h2; omega
      have hO3 := ((HO2.out.off ⟨w.heap.size + 1, 0, none⟩ (.string s.u) hne).off ⟨w.heap.size + 1, 1, none⟩ (.string s.t) hne).off ⟨w.heap.size + 1, 2, none⟩ (.slice (some ⟨g, 0, none⟩) n cap) hne
      generalize (((w1.setCell ⟨g, p * 5 + 4, none⟩ (.bool true)).setCell ⟨w.heap.size + 1, 0, none⟩ (.string s.u)).setCell ⟨w.heap.size + 1, 1, none⟩ (.string s.t)).setCell ⟨w.heap.size + 1, 2, none⟩ (.slice (some ⟨g, 0, none⟩) n cap) = W2 at hR3 hG3 hO3 ⊢
      have q0 := hR3.cell 0 _ rfl
      have q1 := hR3.cell 1 _ rfl
      have q2 := hR3.cell 2 _ rfl
      exact bodyPost_ret (v := .tuple #[sbV s.u s.t (.slice (some ⟨g, 0, none⟩) n cap), .bool true]) (by simp [results, Try.results131, go_sem, q0, q1, q2]) rfl (HO.out _ _ rfl hO3 hG3)
    · have HM : Hid (mkAt E p 7 = E.set p (mkE E[p] 7)) := Lib.hid (by unfold mkAt; rw [List.getElem?_eq_getElem hpE])
      have hown2 := HOw.out.setF enC_len HN.out p 4 (mkE E[p] 7) (.bool false) hpE (by decide) rfl
      rw [← HM.out] at hown2
      have HO2 := Lib.hid hown2
      have HG2 := Lib.hid (gb_set HG.out ⟨g, p * 5 + 4, none⟩ (.bool false) (.inr rfl))
      have HR2 := Lib.hid (HR1.out.other ⟨g, p * 5 + 4, none⟩ (.bool false) (by simp; omega))
      clear hown2 HM
      go_wp2
      have hR3 := ((HR2.out.set 0 (.string s.u)).set 1 (.string s.t)).set 2 (.slice (some ⟨g, 0, none⟩) n cap)
      have hG3 := gb_set (gb_set (gb_set HG2.out ⟨w.heap.size + 1, 0, none⟩ (.string s.u) (.inl (by simp))) ⟨w.heap.size + 1, 1, none⟩ (.string s.t) (.inl (by simp))) ⟨w.heap.size + 1, 2, none⟩ (.slice (some ⟨g, 0, none⟩) n cap) (.inl (by simp))
      have hne : (Value.slice (some ⟨g, 0, none⟩) n cap).ownBlock ≠ some (w.heap.size + 1) := fun h2 => by have h3 : g = w.heap.size + 1 := Option.some.inj h2; omega
      have hO3 := ((HO2.out.off ⟨w.heap.size + 1, 0, none⟩ (.string s.u) hne).off ⟨w.heap.size + 1, 1, none⟩ (.string s.t) hne).off ⟨w.heap.size + 1, 2, none⟩ (.slice (some ⟨g, 0, none⟩) n cap) hne
      generalize (((w1.setCell ⟨g, p * 5 + 4, none⟩ (.bool false)).setCell ⟨w.heap.size + 1, 0, none⟩ (.string s.u)).setCell ⟨w.heap.size + 1, 1, none⟩ (.string s.t)).setCell ⟨w.heap.size + 1, 2, none⟩ (.slice (some ⟨g, 0, none⟩) n cap) = W2 at hR3 hG3 hO3 ⊢
      have q0 := hR3.cell 0 _ rfl
      have q1 := hR3.cell 1 _ rfl
      have q2 := hR3.cell 2 _ rfl
      exact bodyPost_ret (v := .tuple #[sbV s.u s.t (.slice (some ⟨g, 0, none⟩) n cap), .bool true]) (by simp [results, Try.results131, go_sem, q0, q1, q2]) rfl (HO.out _ _ rfl hO3 hG3)
end Go.Proofs.Ytfgdbpjmjeaolaa

/- W9z -/
namespace Go.Proofs.Ytfgdbpjmjeaolaa
open Go.ChangeShapes Go.WideShapes Go.ChangeAt Go.RowKit
set_option linter.unusedVariables false

def pgB (x : En) (d : Int) : Bool := x.rd && (!x.st) && decide (x.it.da < d)
theorem pgB_def (x : En) (d : Int) : pgB x d = (x.rd && (!x.st) && decide (x.it.da < d)) := rfl
abbrev pgF (D : Nat) : Value := .func (.func 127) #[] #[.pointer (some ⟨D, 0, none⟩)]

set_option maxRecDepth 100000 in
set_option maxHeartbeats 1600000 in
theorem purged1_any (x : En) (D : Nat) (d : Int) (w : World) (hD : Box w D #[.int .i64 d] 2) :
    Calls Try.prog 127 #[enV x.it.id x.it.ti x.it.da x.rd x.st, .pointer (some ⟨D, 0, none⟩)] w fun e w' => e = .returned (.bool (pgB x d)) ∧ Below w.heap.size w w' := by
  have hb0 : Below w.heap.size w (w.alloc (.cells #[.string x.it.id, .string x.it.ti, .int .i64 x.it.da, .bool x.rd, .bool x.st] 109)) := (Below.refl _ _).alloc (Nat.le_refl _) _
  have f0 := hD.cell 0 _ rfl
  rw [pgB_def]
  cases h1 : x.rd with
  | false =>
    go_enter Try.func127, Try.ntmps127
    go_wp2
    go_ret
    rw [h1] at hb0
    exact ⟨rfl, hb0⟩
  | true =>
    cases h2 : x.st with
    | true =>
      go_enter Try.func127, Try.ntmps127
      go_wp2
      go_ret
      rw [h1, h2] at hb0
      exact ⟨rfl, hb0⟩
    | false =>
      rw [h1, h2] at hb0
      have f1 : (w.alloc (.cells #[.string x.it.id, .string x.it.ti, .int .i64 x.it.da, .bool true, .bool false] 109)).cell? ⟨D, 0, none⟩ = some (.int .i64 d) := (hD.keep hb0 hD.lt).cell 0 _ rfl
      clear f0
      go_enter Try.func127, Try.ntmps127
      go_wp2
      go_ret
      exact ⟨ret_bool (by simp), hb0⟩

/-- The first entry that goes. -/
def ixP (es : List En) (d : Int) : Option Nat := es.findIdx? (fun x => pgB x d)
def ixV (es : List En) (d : Int) : Int := match ixP es d with
  | some i => (i : Int)
  | none => -1
theorem ixP_some {es : List En} {d : Int} {k : Nat} (hk : k < es.length) (h1 : pgB es[k] d = true) (h2 : ∀ j (hj : j < es.length), j < k → pgB es[j] d = false) : ixP es d = some k := by
  unfold ixP
  rw [List.findIdx?_eq_some_iff_getElem]
  exact ⟨hk, h1, fun j hj => by rw [h2 j (by omega) hj]; simp⟩
theorem ixP_none {es : List En} {d : Int} (h2 : ∀ j (hj : j < es.length), pgB es[j] d = false) : ixP es d = none := by
  unfold ixP
  rw [List.findIdx?_eq_none_iff]
  intro x hx
  obtain ⟨j, hj, rfl⟩ := List.getElem_of_mem hx
  exact h2 j hj
def NoP (es : List En) (d : Int) (k : Nat) : Prop := ∀ j (hj : j < es.length), j < k → pgB es[j] d = false

set_option maxRecDepth 100000 in
set_option maxHeartbeats 1600000 in
theorem indexFunc_any (v : Value) (es : List En) (D : Nat) (d : Int) (w : World) (h : EnAt w w.heap.size v es) (hD : Box w D #[.int .i64 d] 2) :
    Calls Try.prog 175 #[v, pgF D] w fun e w' => e = .returned (.int .i64 (ixV es d)) ∧ Below w.heap.size w w' := by
  have HI := Lib.hid h
  obtain ⟨a, cap, rfl, hl, hm, hc⟩ := h.raw
  clear hc h
  unfold maxLen at hm
  have HX : Hid (∀ k (hk : k < es.length), pgB es[k] d = true → NoP es d k → ixV es d = (k : Int)) := Lib.hid (fun k hk h1 h2 => by unfold ixV; rw [ixP_some hk h1 h2])
  have HN : Hid (∀ k, ¬ k < es.length → NoP es d k → ixV es d = -1) := Lib.hid (fun k hk h2 => by unfold ixV; rw [ixP_none (fun j hj => h2 j hj (by omega))])
  generalize ixV es d = R at HX HN ⊢
  go_enter Try.func175, Try.ntmps175
  go_wp2
  go_loopw [8] (fun i wr => ∃ k : Nat, k ≤ es.length ∧ i = .int .i64 (k : Int) ∧ Below w.heap.size w wr ∧ Hid (NoP es d k)) (fun i _ => es.length - (intOf i).toNat)
  case atStart => exact ⟨0, Nat.zero_le _, rfl, Below.refl _ _, Lib.hid (fun j hj h => by omega)⟩
  case round =>
    obtain ⟨k, hk, rfl, hB, HO⟩ := hrel
    by_cases hlt : k < es.length
    · obtain ⟨a', cap', hv, _, _, hc⟩ := (HI.out.below hB).raw
      cases hv
      obtain ⟨b, off, rfl, hb, hr⟩ := hc k hlt
      obtain ⟨c0, c1, c2, c3, c4, _, _⟩ := hr k hlt
      have hD2 := hD.keep hB hD.lt
      have HC := Lib.hid (fun w hD => purged1_any es[k] D d w hD)
      have HXk := Lib.hid (HX.out k hlt)
      have HNk : Hid (pgB es[k] d = false → NoP es d (k + 1)) := Lib.hid (fun h j hj hjk => by
        by_cases e : j = k
        · subst e; exact h
        · exact HO.out j hj (by omega))
      generalize pgB es[k] d = q at HC HXk HNk
      obtain ⟨X, hX⟩ : ∃ X, X = es[k] := ⟨_, rfl⟩
      rw [← hX] at c0 c1 c2 c3 c4 HC
      clear hr hc hX
      go_wp2_with fail
      refine (HC.out _ hD2).mono ?_
      rintro e w1 ⟨rfl, hb1⟩
      have hB1 := hB.trans (hb1.mono hB.size)
      clear hb1 hB c0 c1 c2 c3 c4 hD2
      cases q with
      | true =>
        have HZ : Hid (R = (k : Int)) := Lib.hid (HXk.out rfl HO.out)
        go_wp2
        go_ret
        exact ⟨ret_int HZ.out.symm, hB1⟩
      | false =>
        have HO' := Lib.hid (HNk.out rfl)
        go_wp2
        go_roundw
        case rel => exact ⟨k + 1, by omega, by go_num, hB1, HO'⟩
        case measure => simp [intOf]; omega
    · have HZ : Hid (R = -1) := Lib.hid (HN.out k hlt HO.out)
      go_wp2
      go_ret
      exact ⟨ret_int HZ.out.symm, hB⟩
end Go.Proofs.Ytfgdbpjmjeaolaa

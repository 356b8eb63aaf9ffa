/- Joined: W14q. -/
import Derived.Test.YtffkakpbelknaaaS35
import Derived.Test.YtffkakpbelknaaaS37
/- W14q -/
namespace Go.Proofs.Ytffkakpbelknaaa
open Go.ChangeShapes Go.WideShapes Go.ChangeAt Go.RowKit
set_option linter.unusedVariables false

theorem flsB_out {es : List Fi} (h : flsB es = true) : risB (fiKs es) = true ∧ es.length ≤ 60 ∧ fiSum es ≤ 200000 := by
  unfold flsB fitB at h
  simp only [Bool.and_eq_true, decide_eq_true_eq] at h
  exact ⟨h.2.1, h.2.2.1, h.2.2.2⟩
theorem flsB_nm {es : List Fi} (h : flsB es = true) : ∀ x ∈ es, nmO x.nm = true := by
  unfold flsB at h
  simp only [Bool.and_eq_true] at h
  intro x hx
  obtain ⟨i, hi, rfl⟩ := List.getElem_of_mem hx
  have := allB_at h.1 i hi
  rwa [fnO_at es i hi] at this
theorem nm_all {es : List Fi} (h : ∀ x ∈ es, nmO x.nm = true) : allB es.length (fnO es) = true :=
  allB_end es.length (Nat.lt_irrefl _) (fun j hj => by rw [fnO_at es j hj]; exact h _ (List.getElem_mem hj))
theorem nmP {es : List Fi} (h : ∀ x ∈ es, nmO x.nm = true) {nm : ByteArray} (da : ByteArray) (hn : nmO nm = true) : ∀ x ∈ fiP es nm da, nmO x.nm = true := by
  intro x hx
  unfold fiP putP at hx
  rcases List.mem_append.1 hx with hx | hx
  · exact h x (List.mem_of_mem_take hx)
  · rcases List.mem_cons.1 hx with rfl | hx
    · exact hn
    · exact h x (List.mem_of_mem_drop hx)
theorem nmX {es : List Fi} (h : ∀ x ∈ es, nmO x.nm = true) (nm : ByteArray) : ∀ x ∈ fiX es nm, nmO x.nm = true := by
  intro x hx
  unfold fiX at hx
  rcases List.mem_append.1 hx with hx | hx
  · exact h x (List.mem_of_mem_take hx)
  · exact h x (List.mem_of_mem_drop hx)
theorem frB1_nm {o : DOp} (h : frB1 o = true) : nmO o.nm = true := by
  unfold frB1 at h
  split at h
  · simp only [Bool.and_eq_true] at h; exact h.1
  · split at h
    · simp only [Bool.and_eq_true] at h; exact h.1.1
    · split at h
      · simp only [Bool.and_eq_true] at h; exact h.1.1
      · cases h
theorem frB1_tn {o : DOp} (h : frB1 o = true) (hk : o.k = 2) : nmO o.tn = true := by
  unfold frB1 at h
  rw [hk, if_neg (by decide), if_pos rfl] at h
  simp only [Bool.and_eq_true] at h
  exact h.1.2
theorem flsB_chL {es : List Fi} (h : flsB es = true) {o : DOp} (ho : frB1 o = true) : flsB (chL es o) = fitB (chL es o) := by
  have h1 := chL_ris (flsB_out h).1 o
  have h2 : ∀ x ∈ chL es o, nmO x.nm = true := by
    unfold chL
    split
    · exact nmP (flsB_nm h) _ (frB1_nm ho)
    · split
      · rename_i h2
        exact nmP (nmX (flsB_nm h) _) _ (frB1_tn ho h2)
      · exact nmX (flsB_nm h) _
  unfold flsB
  rw [nm_all h2, h1]
  rfl
def stD (es : List Fi) (o : DOp) : Option (List Fi) := if dnK es o = 0 then some (chL es o) else none
def runD (es : List Fi) (os : List DOp) : Option (List Fi) := os.foldlM stD es
theorem runD_step (es : List Fi) (os : List DOp) (k : Nat) (h : k < os.length) : runD es (os.take (k + 1)) = (runD es (os.take k)).bind (fun l => stD l os[k]) := by
  unfold runD
  rw [List.take_succ_eq_append_getElem h, List.foldlM_append]
  simp
theorem runD_cut (es : List Fi) (os : List DOp) (k : Nat) (h : runD es (os.take k) = none) : runD es os = none := by
  unfold runD at h ⊢
  conv => lhs; rw [← List.take_append_drop k os]
  rw [List.foldlM_append, h]
  rfl
theorem dnK_fls {es : List Fi} (h : flsB es = true) {o : DOp} (hd : dnK es o = 0) : flsB (chL es o) = true := by
  unfold dnK at hd
  cases hf : frB1 o with
  | false => rw [hf] at hd; simp at hd
  | true =>
    rw [flsB_chL h hf]
    rw [hf] at hd
    cases hc : chB es o with
    | false => rw [hc] at hd; simp at hd
    | true =>
      rw [hc] at hd
      cases hg : fitB (chL es o) with
      | false => rw [hg] at hd; simp at hd
      | true => rfl
/-- Whether a disk is right. -/
def dkB (L S : List Fi) (os : List DOp) : Bool := decide (os.length ≤ 200) && (flsB L && (flsB S && (match runD S os with
  | some es => fqB es L
  | none => false)))
def doC (o : DOp) : List Value := [.int .i64 o.k, .string o.nm, .string o.tn, .string o.da]
theorem doC_len (o : DOp) : (doC o).length = 4 := rfl
theorem doC_one (o : DOp) : ∀ u ∈ doC o, u.oneCell' = true := by
  intro u hu
  simp only [doC, List.mem_cons, List.not_mem_nil, or_false] at hu
  rcases hu with rfl | rfl | rfl | rfl <;> rfl
def OdSz (o : DOp) : Prop := DoSz o ∧ o.da.size ≤ 100000000000
def OdAt (w : World) (B : Nat) (v : Value) (os : List DOp) : Prop := RecAt 4 doC w B v os ∧ ∀ x ∈ os, OdSz x
theorem OdAt.raw {w : World} {B : Nat} {v : Value} {os : List DOp} (h : OdAt w B v os) : ∃ a cap, v = .slice a os.length cap ∧ os.length ≤ cap ∧ cap ≤ maxLen ∧
    ∀ j, j < os.length → ∃ b off, a = some ⟨b, off, none⟩ ∧ b < B ∧ ∀ i (h : i < os.length), w.cell? ⟨b, off + i * 4, none⟩ = some (.int .i64 os[i].k) ∧ w.cell? ⟨b, off + i * 4 + 1, none⟩ = some (.string os[i].nm) ∧ w.cell? ⟨b, off + i * 4 + 2, none⟩ = some (.string os[i].tn) ∧ w.cell? ⟨b, off + i * 4 + 3, none⟩ = some (.string os[i].da) ∧ OdSz os[i] := by
  obtain ⟨⟨a, cap, hv, h1, h2, hc⟩, hs⟩ := h
  refine ⟨a, cap, hv, h1, h2, fun j hj => ?_⟩
  obtain ⟨b, off, ha, hB, hr⟩ := hc (by omega)
  exact ⟨b, off, ha, hB, fun i hi => ⟨hr i hi 0 _ rfl, hr i hi 1 _ rfl, hr i hi 2 _ rfl, hr i hi 3 _ rfl, hs _ (List.getElem_mem hi)⟩⟩
theorem OdAt.below {w w' : World} {B : Nat} {v : Value} {os : List DOp} (h : OdAt w B v os) (hb : Below B w w') : OdAt w' B v os := ⟨h.1.below hb, h.2⟩
theorem OdAt.mono {w : World} {B B' : Nat} {v : Value} {os : List DOp} (h : OdAt w B v os) (hb : B ≤ B') : OdAt w B' v os := ⟨h.1.mono hb, h.2⟩
abbrev dkV (l s o : Value) : Value := .agg #[l, s, o]

set_option maxRecDepth 100000 in
set_option maxHeartbeats 3000000 in
theorem implDiskOk_any (vl vs vo : Value) (L S : List Fi) (os : List DOp) (w : World) (hL : FiAt w w.heap.size vl L) (hS : FiAt w w.heap.size vs S) (hO : OdAt w w.heap.size vo os) (hsL : fiSum L ≤ 100000000000) (hsS : fiSum S ≤ 100000000000) :
    Calls Try.prog 75 #[dkV vl vs vo] w fun e w' => e = .returned (.bool (dkB L S os)) ∧ Below w.heap.size w w' := by
  have HL := Lib.hid hL
  have HS := Lib.hid hS
  have HO := Lib.hid hO
  obtain ⟨la, lc, rfl, hll, hlm, _⟩ := hL.raw
  obtain ⟨sa, sc, rfl, hsl, hsm, _⟩ := hS.raw
  obtain ⟨oa, oc, rfl, hol, hom, _⟩ := hO.raw
  have HFl := Lib.hid (fun w h => filesOk_any (.slice la L.length lc) L w h (by omega))
  have HFs := Lib.hid (fun w h => filesOk_any (.slice sa S.length sc) S w h (by omega))
  have HD : Hid (dkB L S os = (decide (os.length ≤ 200) && (flsB L && (flsB S && (match runD S os with | some es => fqB es L | none => false))))) := Lib.hid rfl
  generalize dkB L S os = R at HD ⊢
  unfold maxLen at hlm hsm hom
  have hx0 := Box.new w #[.slice la L.length lc, .slice sa S.length sc, .slice oa os.length oc] 64
  have hb0 : Below w.heap.size w (w.alloc (.cells #[.slice la L.length lc, .slice sa S.length sc, .slice oa os.length oc] 64)) := (Below.refl _ _).alloc (Nat.le_refl _) _
  clear hL hS hO
  by_cases h200 : os.length ≤ 200
  · have h200' : ¬ (200 : Int) < (os.length : Int) := by omega
    obtain ⟨FL, hFL⟩ : ∃ F, flsB L = F := ⟨_, rfl⟩
    obtain ⟨FS, hFS⟩ : ∃ F, flsB S = F := ⟨_, rfl⟩
    have HFS := Lib.hid hFS
    rw [hFL] at HFl HD
    rw [hFS] at HFs HD
    have HR0 : Hid (∀ k, runD S (os.take k) = none → R = false) := Lib.hid (fun k h => by rw [HD.out, runD_cut S os k h]; simp)
    have HR1 : Hid (FL = true → FS = true → ∀ es, runD S os = some es → R = fqB es L) := Lib.hid (fun h1 h2 es h => by rw [HD.out, h, h1, h2, decide_eq_true h200]; rfl)
    clear hFL hFS h200
    cases FL with
    | false =>
      have HZ : Hid (R = false) := Lib.hid (by rw [HD.out]; simp)
      go_enter Try.func75, Try.ntmps75
      go_wp2_with fail
      refine (HFl.out _ ((HL.out.below hb0).mono hb0.size)).mono ?_
      rintro e w1 ⟨rfl, hb1⟩
      have hB1 := hb0.trans (hb1.mono hb0.size)
      go_wp2
      go_ret
      exact ⟨ret_bool HZ.out.symm, hB1⟩
    | true =>
      cases FS with
      | false =>
        have HZ : Hid (R = false) := Lib.hid (by rw [HD.out]; simp)
        go_enter Try.func75, Try.ntmps75
        go_wp2_with fail
        refine (HFl.out _ ((HL.out.below hb0).mono hb0.size)).mono ?_
        rintro e w1 ⟨rfl, hb1⟩
        have hB1 := hb0.trans (hb1.mono hb0.size)
        have hx1 := hx0.keep hb1 hx0.lt
        have f1 := hx1.cell 1 _ rfl
        clear hb1 hb0 hx0
        go_wp2_with fail
        refine (HFs.out _ ((HS.out.below hB1).mono hB1.size)).mono ?_
        rintro e w2 ⟨rfl, hb2⟩
        have hB2 := hB1.trans (hb2.mono hB1.size)
        go_wp2
        go_ret
        exact ⟨ret_bool HZ.out.symm, hB2⟩
      | true =>
        have HR2 := Lib.hid (HR1.out rfl rfl)
        go_enter Try.func75, Try.ntmps75
        go_wp2_with fail
        refine (HFl.out _ ((HL.out.below hb0).mono hb0.size)).mono ?_
        rintro e w1 ⟨rfl, hb1⟩
        have hB1 := hb0.trans (hb1.mono hb0.size)
        have hx1 := hx0.keep hb1 hx0.lt
        have f1 := hx1.cell 1 _ rfl
        clear hb1 hb0 hx0
        go_wp2_with fail
        refine (HFs.out _ ((HS.out.below hB1).mono hB1.size)).mono ?_
        rintro e w2 ⟨rfl, hb2⟩
        have hB2 := hB1.trans (hb2.mono hB1.size)
        have hx2 := hx1.keep hb2 hx1.lt
        have g1 := hx2.cell 1 _ rfl
        have g2 := hx2.cell 2 _ rfl
        clear hb2 f1 hx1 hB1
        go_wp2
        clear g1 g2
        go_loopw [3, 29] (fun f i wr => ∃ (k : Nat) (es : List Fi), k ≤ os.length ∧ i = .int .i64 (k : Int) ∧ FiAt wr wr.heap.size f es ∧ Below w.heap.size w wr ∧ Box wr w.heap.size #[.slice la L.length lc, .slice sa S.length sc, .slice oa os.length oc] 64 ∧ Hid (runD S (os.take k) = some es ∧ flsB es = true)) (fun _ i _ => os.length - (intOf i).toNat)
        case atStart => exact ⟨0, S, Nat.zero_le _, rfl, (HS.out.below hB2).mono hB2.size, hB2, hx2, Lib.hid ⟨rfl, HFS.out⟩⟩
        case round =>
          obtain ⟨k, es, hk, rfl, hF, hB, hx, HN⟩ := hrel
          clear hB2 hx2
          by_cases hlt : k < os.length
          · obtain ⟨a', cap', hv, _, _, hc⟩ := (HO.out.below hB).raw
            cases hv
            obtain ⟨b, off, rfl, hb, hr⟩ := hc k hlt
            obtain ⟨c0, c1, c2, c3, hz⟩ := hr k hlt
            have hfo := flsB_out HN.out.2
            have HST : Hid (runD S (os.take (k + 1)) = stD es os[k]) := Lib.hid (by rw [runD_step S os k hlt, HN.out.1]; rfl)
            have HDN := Lib.hid (fun v w h => doneOn_any v es os[k] w h hfo.1 (by omega) (by omega) hz.2 hz.1)
            have HSZ : Hid ((∀ x ∈ es, FiSz x) → ∀ x ∈ chL es os[k], FiSz x) := Lib.hid (fun h => chL_sz h hz.1 (by omega) hz.2)
            have HFC : Hid (dnK es os[k] = 0 → flsB (chL es os[k]) = true) := Lib.hid (fun h => dnK_fls HN.out.2 h)
            unfold stD at HST
            unfold OutDo at HDN
            generalize dnK es os[k] = D at HST HDN HFC
            generalize chL es os[k] = CL at HST HDN HSZ HFC
            have hFs := hF.2
            obtain ⟨O, hO⟩ : ∃ O, O = os[k] := ⟨_, rfl⟩
            rw [← hO] at c0 c1 c2 c3 HDN
            obtain ⟨k0, n0, t0, d0⟩ := O
            simp only at c0 c1 c2 c3
            have hba : Below wr.heap.size wr (wr.alloc (.cells #[.int .i64 k0, .string n0, .string t0, .string d0] 68)) := (Below.refl _ _).alloc (Nat.le_refl _) _
            have hF1 := (hF.below hba).mono hba.size
            have hB1 := hB.trans (hba.mono hB.size)
            have hx1 := hx.keep hba hx.lt
            have HF1 := Lib.hid hF1
            clear hr hc hO hz hF hB hx hfo hba hF1
            go_wp2_with fail
            refine (HDN.out _ _ HF1.out).mono ?_
            rintro e w3 ⟨v3, rfl, hown, _, hb3⟩
            have hB3 := hB1.trans (hb3.mono hB1.size)
            have hx3 := hx1.keep hb3 hx1.lt
            clear hb3 hB1 hx1 c0 c1 c2 c3
            by_cases hD0 : D = 0
            · subst hD0
              have hF3 := FiAt.of_own (hown rfl) (HSZ.out hFs)
              have HN' : Hid (runD S (os.take (k + 1)) = some CL ∧ flsB CL = true) := Lib.hid ⟨by rw [HST.out, if_pos rfl], HFC.out rfl⟩
              clear hown
              go_wp2
              go_roundw
              case rel => exact ⟨k + 1, CL, by omega, by go_num, hF3, hB3, hx3, HN'⟩
              case measure => simp [intOf]; omega
            · have HZ : Hid (R = false) := Lib.hid (HR0.out (k + 1) (by rw [HST.out, if_neg hD0]))
              clear hown
              go_wp2
              go_ret
              exact ⟨ret_bool HZ.out.symm, hB3⟩
          · have HZ : Hid (R = fqB es L) := Lib.hid (HR2.out es (by have := HN.out.1; rwa [List.take_of_length_le (by omega)] at this))
            have HEq := Lib.hid (filesEqual_any _ _ es L wr hF ((HL.out.below hB).mono hB.size))
            have g0 := hx.cell 0 _ rfl
            generalize fqB es L = Q at HZ HEq
            go_wp2_with fail
            refine HEq.out.mono ?_
            rintro e w3 ⟨rfl, hb3⟩
            have hB3 := hB.trans (hb3.mono hB.size)
            go_wp2
            go_ret
            exact ⟨ret_bool HZ.out.symm, hB3⟩
  · have HZ : Hid (R = false) := Lib.hid (by rw [HD.out, decide_eq_false h200]; rfl)
    have h200' : (200 : Int) < (os.length : Int) := by omega
    go_enter Try.func75, Try.ntmps75
    go_wp2
    go_ret
    exact ⟨ret_bool HZ.out.symm, hb0⟩
end Go.Proofs.Ytffkakpbelknaaa

/- Readers as texts, of the program and of the reference. -/
import Derived.Test.YtfjaincogbdeiaaDoorW9e
import Derived.Test.YtfjaincogbdeiaaDoorW9c
import Derived.Test.YtfjaincogbdeiaaDoorW8o
import Derived.Test.YtfjaincogbdeiaaDoorShelf
namespace Go.Proofs.YtfjaincogbdeiaaDoor
open Go.ChangeShapes Go.WideShapes Go.ChangeAt Go.RowKit
set_option linter.unusedVariables false

theorem ba_ext {a b : ByteArray} (h : a.data.toList = b.data.toList) : a = b := by
  obtain ⟨⟨a⟩⟩ := a
  obtain ⟨⟨b⟩⟩ := b
  simp only at h
  rw [h]
theorem ba_app (a b : ByteArray) : (a ++ b).data.toList = a.data.toList ++ b.data.toList := by rw [ByteArray.data_append, Array.toList_append]
/-- The marks of an entry. -/
def mkB (r s : Bool) : ByteArray := match r, s with
  | false, false => ⟨#[91, 93]⟩
  | true, false => ⟨#[91, 114, 93]⟩
  | false, true => ⟨#[91, 115, 93]⟩
  | true, true => ⟨#[91, 114, 115, 93]⟩
theorem mkB_size (r s : Bool) : (mkB r s).size ≤ 4 := by cases r <;> cases s <;> decide
noncomputable def lnE (x : En) : ByteArray := dayT x.it.da ++ ⟨#[32]⟩ ++ x.it.id ++ ⟨#[32]⟩ ++ mkB x.rd x.st ++ ⟨#[32]⟩ ++ x.it.ti ++ ⟨#[10]⟩
def lnS (s : Sb) : ByteArray := ⟨#[102, 101, 101, 100]⟩ ++ ⟨#[32]⟩ ++ s.u ++ ⟨#[32]⟩ ++ s.t ++ ⟨#[10]⟩
noncomputable def enX (H : ByteArray) (es : List En) : ByteArray := es.foldl (fun b x => b ++ lnE x) H
noncomputable def sbX (H : ByteArray) (ss : List Sb) : ByteArray := ss.foldl (fun b s => enX (b ++ lnS s) s.es) H
noncomputable def rdX (ss : List Sb) : ByteArray := if rdB ss = true then sbX ⟨#[]⟩ ss else ⟨#[]⟩
theorem enX_snoc (H : ByteArray) (es : List En) (k : Nat) (h : k < es.length) : enX H (es.take (k + 1)) = enX H (es.take k) ++ lnE es[k] := by
  unfold enX; rw [List.take_succ_eq_append_getElem h, List.foldl_append]; rfl
theorem sbX_snoc (H : ByteArray) (ss : List Sb) (k : Nat) (h : k < ss.length) : sbX H (ss.take (k + 1)) = enX (sbX H (ss.take k) ++ lnS ss[k]) ss[k].es := by
  unfold sbX; rw [List.take_succ_eq_append_getElem h, List.foldl_append]; rfl
theorem dayT_ten (n : Int) : (dayT n).size ≤ 10 := dateT_size _ _ _
/-- What is known of the parts of a right reader. -/
theorem rd_parts {ss : List Sb} (h : rdB ss = true) (k : Nat) (hk : k < ss.length) : ss[k].u.size ≤ 20 ∧ ss[k].t.size ≤ 24 ∧ ss[k].es.length ≤ 12 ∧ ∀ j (hj : j < ss[k].es.length), ss[k].es[j].it.id.size ≤ 8 ∧ ss[k].es[j].it.ti.size ≤ 24 ∧ 0 ≤ ss[k].es[j].it.da ∧ ss[k].es[j].it.da ≤ 200000 := by
  unfold rdB at h
  simp only [Bool.and_eq_true, decide_eq_true_eq] at h
  have h1 := allB_at h.2.1 k hk
  rw [sbsB_at ss k hk] at h1
  unfold sbB at h1
  simp only [Bool.and_eq_true, decide_eq_true_eq] at h1
  obtain ⟨⟨⟨hu, ht⟩, hl⟩, he⟩ := h1
  unfold nmB at hu
  unfold ttB at ht
  simp only [Bool.and_eq_true, decide_eq_true_eq] at hu ht
  refine ⟨hu.1.2, ht.1, hl, fun j hj => ?_⟩
  unfold ensB at he
  simp only [Bool.and_eq_true] at he
  have h2 := allB_at he.1 j hj
  rw [enB_at _ j hj] at h2
  unfold itB nmB ttB at h2
  simp only [Bool.and_eq_true, decide_eq_true_eq] at h2
  obtain ⟨⟨⟨⟨_, a1⟩, _⟩, a2, _⟩, a3, a4⟩ := h2
  exact ⟨a1, a2, a3, a4⟩
theorem rd_six {ss : List Sb} (h : rdB ss = true) : ss.length ≤ 6 := by
  unfold rdB at h
  simp only [Bool.and_eq_true, decide_eq_true_eq] at h
  exact h.1

set_option maxRecDepth 100000 in
set_option maxHeartbeats 1600000 in
theorem marksText_any (s t : ByteArray) (d : Int) (r b : Bool) (w : World) :
    Calls Tryd.prog 47 #[enV s t d r b] w fun e w' => e = .returned (.string (mkB r b)) ∧ Below w.heap.size w w' := by
  cases r <;> cases b
  all_goals
    go_enter Tryd.func47, Tryd.ntmps47
    go_wp2
    go_ret
    exact ⟨rfl, (Below.refl _ _).alloc (Nat.le_refl _) _⟩

def lnB (xs : List ByteArray) : ByteArray := ⟨(Lib.join (xs.map (·.data.toList)) [32]).toArray⟩ ++ ⟨#[10]⟩
theorem lnB3 (a b c : ByteArray) : lnB [a, b, c] = a ++ ⟨#[32]⟩ ++ b ++ ⟨#[32]⟩ ++ c ++ ⟨#[10]⟩ := by
  apply ba_ext
  unfold lnB
  simp only [ba_app, Lib.join, List.map_cons, List.map_nil, List.intercalate, List.intersperse]
  simp
theorem lnB4 (a b c d : ByteArray) : lnB [a, b, c, d] = a ++ ⟨#[32]⟩ ++ b ++ ⟨#[32]⟩ ++ c ++ ⟨#[32]⟩ ++ d ++ ⟨#[10]⟩ := by
  apply ba_ext
  unfold lnB
  simp only [ba_app, Lib.join, List.map_cons, List.map_nil, List.intercalate, List.intersperse]
  simp
theorem lnB_len (xs : List ByteArray) : (Lib.join (xs.map (·.data.toList)) [32]).length + 1 = (lnB xs).size := by
  unfold lnB
  rw [ByteArray.size_append]
  rfl

set_option maxRecDepth 100000 in
set_option maxHeartbeats 1600000 in
theorem lineOf_any (bk o c : Nat) (xs : List ByteArray) (w : World) (hcells : ∀ (j : Nat) x, xs[j]? = some x → w.cell? ⟨bk, o + j, none⟩ = some (.string x)) (hbk : bk < w.heap.size) (hN : xs.length ≤ 1000) (hcap : xs.length ≤ c) (hlen : (lnB xs).size ≤ 100000) :
    Calls Tryd.prog 45 #[.slice (some ⟨bk, o, none⟩) xs.length c] w fun e w' => e = .returned (.string (lnB xs)) ∧ Below w.heap.size w w' := by
  have hl := lnB_len xs
  have HJ := Lib.hid (Tryd.strings_Join bk o c xs ⟨#[32]⟩ w hcells hbk (by omega) hcap (by show (Lib.join (xs.map (·.data.toList)) [32]).length ≤ _; omega))
  have HE : Hid (lnB xs = ⟨(Lib.join (xs.map (·.data.toList)) [32]).toArray⟩ ++ ⟨#[10]⟩) := Lib.hid rfl
  have hjs : (⟨(Lib.join (xs.map (·.data.toList)) [32]).toArray⟩ : ByteArray).size ≤ 100000 := by show (Lib.join (xs.map (·.data.toList)) [32]).toArray.size ≤ _; rw [List.size_toArray]; omega
  have e1 : (⟨#[32]⟩ : ByteArray).data.toList = [32] := rfl
  rw [e1] at HJ
  generalize (⟨(Lib.join (xs.map (·.data.toList)) [32]).toArray⟩ : ByteArray) = J at HJ HE hjs
  generalize lnB xs = R at HE ⊢
  have hR := HE.out.symm
  clear hcells hl hlen e1 HE
  go_enter Tryd.func45, Tryd.ntmps45
  go_wp2_with fail
  refine HJ.out.mono ?_
  rintro e w1 ⟨rfl, hb1⟩
  go_wp2
  go_ret
  exact ⟨rfl, hb1⟩

theorem line4 (w : World) (a b c d : ByteArray) (hs : (a ++ ⟨#[32]⟩ ++ b ++ ⟨#[32]⟩ ++ c ++ ⟨#[32]⟩ ++ d ++ ⟨#[10]⟩).size ≤ 100000) :
    Calls Tryd.prog 45 #[.slice (some ⟨w.heap.size, 0, none⟩) 4 4] (w.alloc (.cells #[.string a, .string b, .string c, .string d] 9)) fun e w' => e = .returned (.string (a ++ ⟨#[32]⟩ ++ b ++ ⟨#[32]⟩ ++ c ++ ⟨#[32]⟩ ++ d ++ ⟨#[10]⟩)) ∧ Below (w.alloc (.cells #[.string a, .string b, .string c, .string d] 9)).heap.size (w.alloc (.cells #[.string a, .string b, .string c, .string d] 9)) w' := by
  have hb := Box.new w #[.string a, .string b, .string c, .string d] 9
  rw [← lnB4] at hs ⊢
  exact lineOf_any w.heap.size 0 4 [a, b, c, d] _ (fun j x hx => by
    rw [Nat.zero_add]
    match j, hx with
    | 0, hx => cases hx; exact hb.cell 0 _ rfl
    | 1, hx => cases hx; exact hb.cell 1 _ rfl
    | 2, hx => cases hx; exact hb.cell 2 _ rfl
    | 3, hx => cases hx; exact hb.cell 3 _ rfl) hb.lt (by simp) (by simp) hs
theorem line3 (w : World) (a b c : ByteArray) (hs : (a ++ ⟨#[32]⟩ ++ b ++ ⟨#[32]⟩ ++ c ++ ⟨#[10]⟩).size ≤ 100000) :
    Calls Tryd.prog 45 #[.slice (some ⟨w.heap.size, 0, none⟩) 3 3] (w.alloc (.cells #[.string a, .string b, .string c] 9)) fun e w' => e = .returned (.string (a ++ ⟨#[32]⟩ ++ b ++ ⟨#[32]⟩ ++ c ++ ⟨#[10]⟩)) ∧ Below (w.alloc (.cells #[.string a, .string b, .string c] 9)).heap.size (w.alloc (.cells #[.string a, .string b, .string c] 9)) w' := by
  have hb := Box.new w #[.string a, .string b, .string c] 9
  rw [← lnB3] at hs ⊢
  exact lineOf_any w.heap.size 0 3 [a, b, c] _ (fun j x hx => by
    rw [Nat.zero_add]
    match j, hx with
    | 0, hx => cases hx; exact hb.cell 0 _ rfl
    | 1, hx => cases hx; exact hb.cell 1 _ rfl
    | 2, hx => cases hx; exact hb.cell 2 _ rfl) hb.lt (by simp) (by simp) hs
theorem lnE_size (x : En) (h1 : x.it.id.size ≤ 8) (h2 : x.it.ti.size ≤ 24) : (lnE x).size ≤ 50 := by
  unfold lnE
  simp only [ByteArray.size_append]
  have e1 := mkB_size x.rd x.st
  have e2 := dayT_ten x.it.da
  have l1 : (⟨#[32]⟩ : ByteArray).size = 1 := rfl
  have l2 : (⟨#[10]⟩ : ByteArray).size = 1 := rfl
  omega
theorem lnS_size (s : Sb) (h1 : s.u.size ≤ 20) (h2 : s.t.size ≤ 24) : (lnS s).size ≤ 51 := by
  unfold lnS
  simp only [ByteArray.size_append]
  have l1 : (⟨#[32]⟩ : ByteArray).size = 1 := rfl
  have l2 : (⟨#[10]⟩ : ByteArray).size = 1 := rfl
  have l3 : (⟨#[102, 101, 101, 100]⟩ : ByteArray).size = 4 := rfl
  omega

set_option maxRecDepth 100000 in
set_option maxHeartbeats 3000000 in
theorem implReaderText_any (v : Value) (ss : List Sb) (w : World) (h : SbAt w w.heap.size v ss) (hM : MTab w) (hP : PTab w) :
    Calls Tryd.prog 20 #[.agg #[v]] w fun e w' => e = .returned (.string (rdX ss)) ∧ Below w.heap.size w w' := by
  have HI := Lib.hid h
  have HM := Lib.hid hM
  have HP := Lib.hid hP
  have HC := Lib.hid (fun w h => implReaderOk_any v ss w h)
  obtain ⟨a, cap, rfl, hl, hm, hc⟩ := h.raw
  clear hc h hM hP
  unfold maxLen at hm
  have hB0 : Below w.heap.size w (w.alloc (.cells #[.slice a ss.length cap] 49)) := (Below.refl _ _).alloc (Nat.le_refl _) _
  have hX0 := Box.new w #[.slice a ss.length cap] 49
  cases hrd : rdB ss with
  | false =>
    have HV : Hid (rdX ss = ⟨#[]⟩) := Lib.hid (by unfold rdX; rw [if_neg (by rw [hrd]; simp)])
    rw [hrd] at HC
    rw [HV.out]
    clear hrd HV
    go_enter Tryd.func20, Tryd.ntmps20
    go_wp2_with fail
    refine (HC.out _ ((HI.out.below hB0).mono hB0.size)).mono ?_
    rintro e w1 ⟨rfl, hb1⟩
    have hB1 := hB0.trans (hb1.mono hB0.size)
    clear hb1 hB0
    go_wp2
    go_ret
    exact ⟨rfl, hB1⟩
  | true =>
    have h6 := rd_six hrd
    have HPa := Lib.hid (fun k hk => rd_parts hrd k hk)
    have HV : Hid (rdX ss = sbX ⟨#[]⟩ ss) := Lib.hid (by unfold rdX; rw [if_pos hrd])
    rw [hrd] at HC
    generalize rdX ss = R at HV ⊢
    clear hrd
    go_enter Tryd.func20, Tryd.ntmps20
    go_wp2_with fail
    refine (HC.out _ ((HI.out.below hB0).mono hB0.size)).mono ?_
    rintro e w1 ⟨rfl, hb1⟩
    have hB1 := hB0.trans (hb1.mono hB0.size)
    have hX1 := hX0.keep hb1 hX0.lt
    have f0 := hX1.cell 0 _ rfl
    clear hb1 hB0 hX0 hX1 HC
    go_wp2
    go_loopw [3, 14] (fun s i wr => ∃ (k : Nat) (X : ByteArray), k ≤ ss.length ∧ i = .int .i64 (k : Int) ∧ s = .string X ∧ X.size ≤ 700 * k ∧ Hid (X = sbX ⟨#[]⟩ (ss.take k)) ∧ Below w.heap.size w wr) (fun _ i _ => ss.length - (intOf i).toNat)
    case atStart => exact ⟨0, ⟨#[]⟩, Nat.zero_le _, rfl, rfl, by decide, Lib.hid rfl, hB1⟩
    case round =>
      obtain ⟨k, X, hk, rfl, rfl, hXs, HX, hB⟩ := hrel
      clear hB1 f0
      by_cases hlt : k < ss.length
      · obtain ⟨a', cap', hv, _, _, hc⟩ := (HI.out.below hB).raw
        cases hv
        obtain ⟨b, off, rfl, hb, hr⟩ := hc k hlt
        obtain ⟨y, c0, c1, c2, hy, s0, s1⟩ := hr k hlt
        obtain ⟨hu20, ht24, he12, hej⟩ := HPa.out k hlt
        have HEj := Lib.hid hej
        have HN : Hid (sbX ⟨#[]⟩ (ss.take (k + 1)) = enX (sbX ⟨#[]⟩ (ss.take k) ++ lnS ss[k]) ss[k].es) := Lib.hid (sbX_snoc _ ss k hlt)
        have hys := lnS_size ss[k] hu20 ht24
        obtain ⟨ya, yc, rfl⟩ := hy.1.slice
        have HY := Lib.hid (hy.mono hB.size)
        obtain ⟨P, hPe⟩ : ∃ P, P = ss[k] := ⟨_, rfl⟩
        rw [← hPe] at c0 c1 c2 hy hu20 ht24 he12 HEj HN hys HY
        have hLs : lnS P = ⟨#[102, 101, 101, 100]⟩ ++ ⟨#[32]⟩ ++ P.u ++ ⟨#[32]⟩ ++ P.t ++ ⟨#[10]⟩ := rfl
        obtain ⟨U, hU⟩ : ∃ x, x = P.u := ⟨_, rfl⟩
        obtain ⟨T, hT⟩ : ∃ x, x = P.t := ⟨_, rfl⟩
        obtain ⟨E, hE⟩ : ∃ x, x = P.es := ⟨_, rfl⟩
        rw [← hU] at c0 hLs
        rw [← hT] at c1 hLs
        rw [← hE] at c2 he12 HN HY
        have HEj' : Hid (∀ j (hj : j < E.length), E[j].it.id.size ≤ 8 ∧ E[j].it.ti.size ≤ 24 ∧ 0 ≤ E[j].it.da ∧ E[j].it.da ≤ 200000) := Lib.hid (by subst hE; exact HEj.out)
        have HL3 : Hid (∀ w : World, Calls Tryd.prog 45 #[.slice (some ⟨w.heap.size, 0, none⟩) 3 3] (w.alloc (.cells #[.string ⟨#[102, 101, 101, 100]⟩, .string U, .string T] 9)) fun e w' => e = .returned (.string (lnS P)) ∧ Below (w.alloc (.cells #[.string ⟨#[102, 101, 101, 100]⟩, .string U, .string T] 9)).heap.size (w.alloc (.cells #[.string ⟨#[102, 101, 101, 100]⟩, .string U, .string T] 9)) w') := Lib.hid (fun w => by rw [hLs]; exact line3 w _ U T (by rw [← hLs]; omega))
        obtain ⟨m, hm2⟩ : ∃ m, m = E.length := ⟨_, rfl⟩
        rw [← hm2] at c2 he12 HY
        have HMl := Lib.hid hm2
        generalize lnS P = LS at hys HN HL3 hLs
        obtain ⟨H, hH⟩ : ∃ H, X ++ LS = H := ⟨_, rfl⟩
        have hHs : H.size ≤ 700 * k + 51 := by rw [← hH, ByteArray.size_append]; omega
        have HHe : Hid (sbX ⟨#[]⟩ (ss.take (k + 1)) = enX H E) := Lib.hid (by rw [HN.out, ← HX.out, hH])
        have hX2 := Box.new wr #[.string U, .string T, .slice ya m yc] 80
        have hba : Below wr.heap.size wr (wr.alloc (.cells #[.string U, .string T, .slice ya m yc] 80)) := (Below.refl _ _).alloc (Nat.le_refl _) _
        have hB2 := hB.trans (hba.mono hB.size)
        have HY2 := Lib.hid ((HY.out.below hba).mono hba.size)
        have hba2 : Below (wr.alloc (.cells #[.string U, .string T, .slice ya m yc] 80)).heap.size (wr.alloc (.cells #[.string U, .string T, .slice ya m yc] 80)) ((wr.alloc (.cells #[.string U, .string T, .slice ya m yc] 80)).alloc (.cells #[.string ⟨#[102, 101, 101, 100]⟩, .string U, .string T] 9)) := (Below.refl _ _).alloc (Nat.le_refl _) _
        have hsum : X.size + LS.size ≤ 100000 := by omega
        clear hr hc hU hT hE hPe hm2 s0 s1 hy hLs HEj HN hB hba
        go_wp2_with fail
        have HL3' := Lib.hid (HL3.out (wr.alloc (.cells #[.string U, .string T, .slice ya m yc] 80)))
        have hs1 : (wr.alloc (.cells #[.string U, .string T, .slice ya m yc] 80)).heap.size = wr.heap.size + 1 := by simp
        generalize wr.alloc (.cells #[.string U, .string T, .slice ya m yc] 80) = W1 at hX2 hB2 HY2 hba2 HL3' hs1 ⊢
        rw [← hs1]
        refine HL3'.out.mono ?_
        rintro e w2 ⟨rfl, hb2⟩
        have hb3 := hba2.trans (hb2.mono hba2.size)
        have hX3 := hX2.keep hb3 hX2.lt
        have hB3 := hB2.trans (hb3.mono hB2.size)
        have HY3 := Lib.hid ((HY2.out.below hb3).mono hb3.size)
        have g2 := hX3.cell 2 _ rfl
        clear hb2 hb3 hba2 hB2 hX2 c0 c1 c2 HL3 HL3' HY2 HY hs1
        go_wp2
        go_loopw [3, 29] (fun s j wr => ∃ (q : Nat) (X : ByteArray), q ≤ m ∧ j = .int .i64 (q : Int) ∧ s = .string X ∧ X.size ≤ 700 * k + 51 + 50 * q ∧ Hid (X = enX H (E.take q)) ∧ Below w2.heap.size w2 wr) (fun _ j _ => m - (intOf j).toNat)
        case atStart => exact ⟨0, H, Nat.zero_le _, rfl, rfl, by omega, Lib.hid rfl, Below.refl _ _⟩
        case round =>
          obtain ⟨q, X, hq, rfl, rfl, hXs2, HX2, hbr⟩ := hrel
          by_cases hlt2 : q < m
          · have hlt3 : q < E.length := by have := HMl.out; omega
            obtain ⟨a', cap', hv, _, _, hc⟩ := (HY3.out.below hbr).raw
            cases hv
            obtain ⟨b2, off2, rfl, hb2, hr⟩ := hc q hlt3
            obtain ⟨d0, d1, d2, d3, d4, _, _⟩ := hr q hlt3
            obtain ⟨hi8, ht24', _, _⟩ := HEj'.out q hlt3
            have HN2 : Hid (enX H (E.take (q + 1)) = enX H (E.take q) ++ lnE E[q]) := Lib.hid (enX_snoc H E q hlt3)
            have hes := lnE_size E[q] hi8 ht24'
            obtain ⟨P2, hP2⟩ : ∃ P, P = E[q] := ⟨_, rfl⟩
            rw [← hP2] at d0 d1 d2 d3 d4 HN2 hes
            have HLn : Hid (lnE P2 = dayT P2.it.da ++ ⟨#[32]⟩ ++ P2.it.id ++ ⟨#[32]⟩ ++ mkB P2.rd P2.st ++ ⟨#[32]⟩ ++ P2.it.ti ++ ⟨#[10]⟩) := Lib.hid rfl
            obtain ⟨S, hS⟩ : ∃ x, x = P2.it.id := ⟨_, rfl⟩
            obtain ⟨T2, hT2⟩ : ∃ x, x = P2.it.ti := ⟨_, rfl⟩
            obtain ⟨D, hD⟩ : ∃ x, x = P2.it.da := ⟨_, rfl⟩
            obtain ⟨rd, hrd⟩ : ∃ x, x = P2.rd := ⟨_, rfl⟩
            obtain ⟨st, hst⟩ : ∃ x, x = P2.st := ⟨_, rfl⟩
            rw [← hS] at d0 HLn
            rw [← hT2] at d1 HLn
            rw [← hD] at d2 HLn
            rw [← hrd] at d3 HLn
            rw [← hst] at d4 HLn
            clear hr hc hP2 hS hT2 hD hrd hst hi8 ht24'
            have HD := Lib.hid (fun w hM hP => dayText_any D w hM hP)
            have HMk := Lib.hid (fun w => marksText_any S T2 D rd st w)
            have HGs : Hid ((dayT D ++ ⟨#[32]⟩ ++ S ++ ⟨#[32]⟩ ++ mkB rd st ++ ⟨#[32]⟩ ++ T2 ++ ⟨#[10]⟩).size ≤ 100000) := Lib.hid (by rw [← HLn.out]; omega)
            generalize dayT D = G at HD HLn HGs
            generalize mkB rd st = M at HMk HLn HGs
            generalize lnE P2 = LE at HLn HN2 hes
            obtain ⟨Z, hZ⟩ : ∃ Z, X ++ LE = Z := ⟨_, rfl⟩
            have hzs : Z.size ≤ 700 * k + 51 + 50 * (q + 1) := by rw [← hZ, ByteArray.size_append]; omega
            have HZ : Hid (Z = enX H (E.take (q + 1))) := Lib.hid (by rw [HN2.out, ← HX2.out, hZ])
            have hxs : X.size + LE.size ≤ 100000 := by omega
            have hba : Below wr.heap.size wr (wr.alloc (.cells #[.string S, .string T2, .int .i64 D, .bool rd, .bool st] 82)) := (Below.refl _ _).alloc (Nat.le_refl _) _
            have hA0 := Box.new wr #[.string S, .string T2, .int .i64 D, .bool rd, .bool st] 82
            have hB3' := (hB3.trans (hbr.mono hB3.size)).trans (hba.mono (hB3.trans (hbr.mono hB3.size)).size)
            have hb2' : Below w2.heap.size w2 (wr.alloc (.cells #[.string S, .string T2, .int .i64 D, .bool rd, .bool st] 82)) := hbr.trans (hba.mono hbr.size)
            have HBr := Lib.hid hB3
            clear hB3 hbr hba HN2 HX2
            go_wp2
            generalize wr.alloc (.cells #[.string S, .string T2, .int .i64 D, .bool rd, .bool st] 82) = W2 at hA0 hB3' hb2' ⊢
            have hA : Box W2.drew wr.heap.size #[.string S, .string T2, .int .i64 D, .bool rd, .bool st] 82 := hA0.drew
            have hB3 := hb2'.drew
            have HMw := Lib.hid (HM.out.below HBr.out (Nat.le_refl _))
            have HPw := Lib.hid (HP.out.below HBr.out (Nat.le_refl _))
            clear hA0 hB3' hb2' d0 d1 d2 d3 d4
            refine wp_region_T (fun w' => Box w' wr.heap.size #[.string S, .string T2, .int .i64 D, .bool rd, .bool st] 82) (fun _ => True) 16 (by kernel_rfl) 17 rfl ?_
            refine wpAnyT_takesA (md := .any) 6 (by kernel_rfl) (by intro d v c a w h; cases d <;> exact h) [0, 1, 2, 3, 5, 6, 7, 8, 10, 11, 12] _ _ _ (by decide) (by kernel_rfl) ⟨hA, fun _ => trivial⟩ ?_
            simp only [pick, List.filterMap_cons, List.filterMap_nil, List.getElem?_cons_zero, List.getElem?_cons_succ]
            refine wpIf_step (.string X) (by kernel_rfl) (fun w hw => by go_simp) ?_
            refine wpIf_step (.pointer (some ⟨wr.heap.size, 0, none⟩)) (by kernel_rfl) (fun w hw => by go_simp) ?_
            refine wpIf_step (.pointer (some ⟨wr.heap.size, 2, none⟩)) (by kernel_rfl) (fun w hw => by go_simp) ?_
            refine wpIf_step (.int .i64 D) (by kernel_rfl) (fun w hw => by have e2 := hw.cell 2 _ rfl; go_simp) ?_
            refine wpIf_step (.pointer (some ⟨wr.heap.size, 0, none⟩)) (by kernel_rfl) (fun w hw => by go_simp) ?_
            refine wpIf_step (.pointer (some ⟨wr.heap.size, 0, none⟩)) (by kernel_rfl) (fun w hw => by go_simp) ?_
            refine wpIf_step (.string S) (by kernel_rfl) (fun w hw => by have e0 := hw.cell 0 _ rfl; go_simp) ?_
            refine wpIf_step (enV S T2 D rd st) (by kernel_rfl) (fun w hw => by have e0 := hw.cell 0 _ rfl; have e1 := hw.cell 1 _ rfl; have e2 := hw.cell 2 _ rfl; have e3 := hw.cell 3 _ rfl; have e4 := hw.cell 4 _ rfl; go_simp) ?_
            refine wpIf_step (.pointer (some ⟨wr.heap.size, 0, none⟩)) (by kernel_rfl) (fun w hw => by go_simp) ?_
            refine wpIf_step (.pointer (some ⟨wr.heap.size, 1, none⟩)) (by kernel_rfl) (fun w hw => by go_simp) ?_
            refine wpIf_step (.string T2) (by kernel_rfl) (fun w hw => by have e1 := hw.cell 1 _ rfl; go_simp) ?_
            refine wpIf_nil (fun hS => ?_)
            clear hS
            refine wpAnyT_one 4 5 (by kernel_rfl) rfl (by kernel_rfl) (fun K hK => ?_)
            go_simp
            refine (HD.out _ (HMw.out.below hB3 (Nat.le_refl _)) (HPw.out.below hB3 (Nat.le_refl _))).mono ?_
            rintro e v1 ⟨rfl, hb1⟩
            have hA1 := hA.keep hb1 hA.lt
            have hB4 := hB3.trans (hb1.mono hB3.size)
            clear hb1 hB3 hA
            refine hK _ _ ⟨hA1, fun _ => trivial⟩ (fun hS => ?_)
            clear hK K hS
            refine wpAnyT_one 9 4 (by kernel_rfl) rfl (by kernel_rfl) (fun K hK => ?_)
            go_simp
            refine (HMk.out _).mono ?_
            rintro e v2 ⟨rfl, hb2⟩
            have hA2 := hA1.keep hb2 hA1.lt
            have hB5 := hB4.trans (hb2.mono hB4.size)
            clear hb2 hB4 hA1
            refine hK _ _ ⟨hA2, fun _ => trivial⟩ (fun hS => ?_)
            clear hK K hS
            refine wpAnyT_one 13 3 (by kernel_rfl) rfl (by kernel_rfl) (fun K hK => ?_)
            go_simp
            have hba : Below v2.heap.size v2 (v2.alloc (.cells #[.string G, .string S, .string M, .string T2] 9)) := (Below.refl _ _).alloc (Nat.le_refl _) _
            have hA3 := hA2.keep hba hA2.lt
            have hB6 := hB5.trans (hba.mono hB5.size)
            have HL := Lib.hid (line4 v2 G S M T2 HGs.out)
            generalize v2.alloc (.cells #[.string G, .string S, .string M, .string T2] 9) = V3 at hA3 hB6 HL ⊢
            clear hba hA2 hB5
            refine hK _ _ ⟨hA3, fun _ => trivial⟩ (fun hS => ?_)
            clear hK K hS
            refine wpAnyT_one 14 2 (by kernel_rfl) rfl (by kernel_rfl) (fun K hK => ?_)
            go_simp
            refine HL.out.mono ?_
            rintro e v4 ⟨rfl, hb4⟩
            rw [← HLn.out]
            have hA4 := hA3.keep hb4 hA3.lt
            have hB7 := hB6.trans (hb4.mono hB6.size)
            clear hb4 hB6 hA3 HL
            refine hK _ _ ⟨hA4, fun _ => trivial⟩ (fun hS => ?_)
            clear hK K hS
            refine wpAnyT_takesA (md := .any) 1 (by kernel_rfl) (by intro d v c a w h; cases d <;> exact h) [15] _ _ _ (by decide) (by kernel_rfl) ⟨hA4, fun _ => trivial⟩ ?_
            simp only [pick, List.filterMap_cons, List.filterMap_nil, List.getElem?_cons_zero, List.getElem?_cons_succ]
            refine wpIf_step (.string Z) (by kernel_rfl) (fun w hw => by go_simp; try omega) ?_
            refine wpIf_nil (fun hS => ?_)
            clear hS
            refine wpAnyT_one 16 0 (by kernel_rfl) rfl (by kernel_rfl) (fun K hK => ?_)
            go_simp
            refine hK _ _ ⟨hA4, fun _ => trivial⟩ (fun hS => ?_)
            clear hK K hS
            refine wpAnyT_over (by kernel_rfl) ?_
            go_wp2
            go_roundw
            case rel => exact ⟨q + 1, Z, by omega, by go_num, rfl, hzs, HZ, hB7⟩
            case measure => simp [intOf]; omega
          · have hqe : q = m := by omega
            have HFin : Hid (X = sbX ⟨#[]⟩ (ss.take (k + 1))) := Lib.hid (by
              have h1 := HMl.out
              rw [HHe.out, HX2.out, List.take_of_length_le (by omega)])
            have hXf : X.size ≤ 700 * (k + 1) := by omega
            have hBf := hB3.trans (hbr.mono hB3.size)
            clear hqe HX2
            go_wp2
            go_roundw
            case rel => exact ⟨k + 1, X, by omega, by go_num, rfl, hXf, HFin, hBf⟩
            case measure => simp [intOf]; omega
      · have HF : Hid (X = R) := Lib.hid (by rw [HV.out, HX.out, List.take_of_length_le (by omega)])
        go_wp2
        go_ret
        exact ⟨ret_str8 HF.out, hB⟩
end Go.Proofs.YtfjaincogbdeiaaDoor

/- Joined: M9c, W9zr. -/
import Derived.Test.YtgimjfffdnopiaaH22
import Derived.Test.YtgimjfffdnopiaaH37
import Derived.Test.YtgimjfffdnopiaaH38
/- M9c -/
namespace Go.Proofs.Ytgimjfffdnopiaa
open Go.ChangeShapes Go.WideShapes Go.ChangeAt Go.RowKit
set_option linter.unusedVariables false

theorem byte_cellsM (x : Int) (h0 : 0 ≤ x) (h1 : x < 256) : (#[Value.int .u8 x] : Array Value).toList = [UInt8.ofNat x.toNat].map bc := by
  have : ((UInt8.ofNat x.toNat).toNat : Int) = x := by
    rw [UInt8.toNat_ofNat', Nat.mod_eq_of_lt (by simp; omega)]; omega
  show [Value.int .u8 x] = [bc _]
  unfold bc; rw [this]
theorem conv_oneM (w : World) (z : Int) (h0 : 0 ≤ z) (h1 : z < 256) :
    (convert 22 9 (.slice (some ⟨w.heap.size, 0, none⟩) 1 1)).run Try.prog (w.alloc (.cells #[.int .u8 z] 5)) = .ok (.string ⟨[UInt8.ofNat z.toNat].toArray⟩) (w.alloc (.cells #[.int .u8 z] 5)) := by
  refine conv_ownB (base := w.heap.size) ?_
  have := World.ownsRow_lit (base := w.heap.size) (e := 5) (size := 1) w #[.int .u8 z] 1 (Nat.le_refl _) (by decide) rfl
  rw [byte_cellsM z h0 h1] at this
  exact this

set_option maxRecDepth 100000 in
set_option maxHeartbeats 1600000 in
theorem markText_any (k : Int) (w : World) (h0 : 0 < k) (h1 : k < 1000000000000000000) :
    Calls Try.prog 151 #[.int .i64 k] w fun e w' => e = .returned (.string (mtX k)) ∧ Below w.heap.size w w' := by
  have HR : Hid (∀ o, mtF 19 k.toNat ⟨#[]⟩ = o → mtX k = ⟨#[109]⟩ ++ o) := Lib.hid (fun o h => by rw [← h]; rfl)
  have HN : Hid (k.toNat < 10 ^ 19) := Lib.hid (by have : (10 : Nat) ^ 19 = 10000000000000000000 := rfl; omega)
  have HM : Hid (0 ≤ k ∧ k ≤ 1000000000000000000) := Lib.hid ⟨by omega, by omega⟩
  obtain ⟨R, hR⟩ : ∃ R, mtF 19 k.toNat ⟨#[]⟩ = R := ⟨_, rfl⟩
  have HX := Lib.hid (HR.out R hR)
  have HG := Lib.hid hR
  have hRs : R.size ≤ 19 := by
    have := mtF_size 19 k.toNat ⟨#[]⟩
    rw [hR] at this
    have h2 : (⟨#[]⟩ : ByteArray).size = 0 := rfl
    omega
  rw [HX.out]
  have hpos : decide (k ≤ 0) = false := decide_eq_false (by omega)
  clear hR HR HX h0 h1
  go_enter Try.func151, Try.ntmps151
  go_wp2
  go_loopw [0, 3] (fun i s wr => ∃ (q : Int) (f : Nat) (o : ByteArray), i = .int .i64 q ∧ s = .string o ∧ Hid (0 ≤ q ∧ q ≤ 1000000000000000000) ∧ Hid (q.toNat < 10 ^ f) ∧ o.size + f ≤ 19 ∧ Hid (mtF f q.toNat o = R) ∧ Below w.heap.size w wr) (fun i _ _ => (intOf i).toNat)
  case atStart => exact ⟨k, 19, ⟨#[]⟩, rfl, rfl, HM, HN, Nat.le_refl _, HG, Below.refl _ _⟩
  case round =>
    obtain ⟨q, f, o, rfl, rfl, HM, HQ, hos, HE, hB⟩ := hrel
    by_cases hq : 0 < q
    · have hd : decide (0 < q) = true := decide_eq_true hq
      cases f with
      | zero =>
        have := HQ.out
        simp at this
        omega
      | succ f =>
        have HQ2 : Hid ((q.tdiv 10).toNat < 10 ^ f) := Lib.hid (by
          have e : (q.tdiv 10).toNat = q.toNat / 10 := by rw [Int.tdiv_eq_ediv_of_nonneg (by omega)]; omega
          rw [e]; exact mt_div HQ.out)
        have HE2 : Hid (mtF f (q.tdiv 10).toNat (mtD q.toNat ++ o) = R) := Lib.hid (by
          have e : (q.tdiv 10).toNat = q.toNat / 10 := by rw [Int.tdiv_eq_ediv_of_nonneg (by omega)]; omega
          rw [e, ← mtF_step f q.toNat o (by omega)]; exact HE.out)
        have HM2 : Hid (0 ≤ q.tdiv 10 ∧ q.tdiv 10 ≤ 1000000000000000000) := Lib.hid (by
          have := HM.out
          rw [Int.tdiv_eq_ediv_of_nonneg (by omega)]; omega)
        have hw : IntKind.i64.wrap (q.tdiv 10) = q.tdiv 10 := by
          have := HM2.out
          rw [IntKind.wrap_i64]; omega
        have hw2 : IntKind.i64.wrap (q.tmod 10) = q.tmod 10 := by
          have := HM.out
          rw [IntKind.wrap_i64, Int.tmod_eq_emod_of_nonneg (by omega)]; omega
        have hw3 : IntKind.i64.wrap (48 + q.tmod 10) = 48 + q.tmod 10 := by
          have := HM.out
          rw [IntKind.wrap_i64, Int.tmod_eq_emod_of_nonneg (by omega)]; omega
        have hcv : (convert 22 9 (.slice (some ⟨wr.heap.size, 0, none⟩) 1 1)).run Try.prog (wr.alloc (.cells #[.int .u8 (48 + q % 10)] 5)) = .ok (.string (mtD q.toNat)) (wr.alloc (.cells #[.int .u8 (48 + q % 10)] 5)) := by
          have := HM.out
          have h := conv_oneM wr (48 + q % 10) (by omega) (by omega)
          have e : (⟨[UInt8.ofNat (48 + q % 10).toNat].toArray⟩ : ByteArray) = mtD q.toNat := by
            unfold mtD
            rw [show (48 + q % 10).toNat = 48 + q.toNat % 10 by omega]
          rw [e] at h
          exact h
        obtain ⟨dD, hdD⟩ : ∃ d, d = mtD q.toNat := ⟨_, rfl⟩
        have hds : dD.size = 1 := by rw [hdD]; rfl
        rw [← hdD] at hcv HE2
        clear hdD
        have hsz : dD.size + o.size ≤ 9223372036854775807 := by omega
        have hB2 : Below w.heap.size w (wr.alloc (.cells #[.int .u8 (48 + q % 10)] 5)) := hB.alloc hB.size _
        go_wp2
        refine ⟨⟨q.tdiv 10, f, dD ++ o, rfl, rfl, HM2, HQ2, by rw [ByteArray.size_append]; omega, HE2, hB2⟩, ?_⟩
        have := HM.out
        simp only [intOf]
        rw [Int.tdiv_eq_ediv_of_nonneg (by omega)]; omega
    · have hd : decide (0 < q) = false := decide_eq_false hq
      have HO : Hid (o = R) := Lib.hid (by
        have h := HE.out
        rw [show q.toNat = 0 by omega, mtF_none] at h
        exact h)
      have hsz : (⟨#[109]⟩ : ByteArray).size + o.size ≤ 9223372036854775807 := by
        have : (⟨#[109]⟩ : ByteArray).size = 1 := rfl
        omega
      go_wp2
      go_ret
      exact ⟨by rw [HO.out]; rfl, hB⟩
end Go.Proofs.Ytgimjfffdnopiaa

/- W9zr -/
namespace Go.Proofs.Ytgimjfffdnopiaa
open Go.ChangeShapes Go.WideShapes Go.ChangeAt Go.RowKit
set_option linter.unusedVariables false

set_option maxRecDepth 100000 in
set_option maxHeartbeats 1600000 in
theorem l9Find_any (v : Value) (es : List En) (x : ByteArray) (w : World) (h : EnAt w w.heap.size v es) :
    Calls Try.prog 167 #[v, .string x] w fun e w' => e = .returned (.int .i64 (atK (enKs es) x)) ∧ Below w.heap.size w w' := by
  have HI := Lib.hid h
  obtain ⟨a, cap, rfl, hl, hm, hc⟩ := h.raw
  clear hc h
  unfold maxLen at hm
  have HL : Hid ((enKs es).length = es.length) := Lib.hid (by simp [enKs])
  have HX : Hid (∀ k (hk : k < es.length), (es[k].it.id.toList == x.toList) = true → (∀ j (hj : j < es.length), j < k → (es[j].it.id.toList == x.toList) = false) → atK (enKs es) x = (k : Int)) := Lib.hid (fun k hk h1 h2 => by
    have : ixK (enKs es) x = some k := by
      unfold ixK
      rw [List.findIdx?_eq_some_iff_getElem]
      refine ⟨by rw [HL.out]; exact hk, by simpa [enKs] using h1, fun j hj => ?_⟩
      have := h2 j (by omega) hj
      simpa [enKs] using this
    unfold atK
    rw [this])
  have HD : Hid ((∀ j (hj : j < es.length), (es[j].it.id.toList == x.toList) = false) → atK (enKs es) x = -1) := Lib.hid (fun h2 => by
    have : ixK (enKs es) x = none := by
      unfold ixK
      rw [List.findIdx?_eq_none_iff]
      intro k hk
      obtain ⟨s, hs, rfl⟩ := List.mem_map.1 hk
      obtain ⟨j, hj, rfl⟩ := List.getElem_of_mem hs
      exact h2 j hj
    unfold atK
    rw [this])
  generalize atK (enKs es) x = R at HX HD ⊢
  go_enter Try.func167, Try.ntmps167
  go_wp2
  go_loop [5] (fun i => ∃ k : Nat, k ≤ es.length ∧ i = .int .i64 (k : Int) ∧ Hid (∀ j (hj : j < es.length), j < k → (es[j].it.id.toList == x.toList) = false)) (fun i => es.length - (intOf i).toNat)
  case atStart => exact ⟨0, Nat.zero_le _, rfl, Lib.hid (fun j hj h => by omega)⟩
  case round =>
    obtain ⟨k, hk, rfl, HO⟩ := hrel
    by_cases hlt : k < es.length
    · obtain ⟨a', cap', hv, _, _, hc⟩ := HI.out.raw
      cases hv
      obtain ⟨b, off, rfl, hb, hr⟩ := hc k hlt
      obtain ⟨c0, c1, c2, c3, c4, _, _⟩ := hr k hlt
      have HK := Lib.hid (HX.out k hlt)
      have HN : Hid ((es[k].it.id.toList == x.toList) = false → ∀ j (hj : j < es.length), j < k + 1 → (es[j].it.id.toList == x.toList) = false) := Lib.hid (fun h j hj hjk => by
        by_cases e : j = k
        · subst e; exact h
        · exact HO.out j hj (by omega))
      obtain ⟨U, hU⟩ : ∃ U, U = es[k].it.id := ⟨_, rfl⟩
      rw [← hU] at c0 HK HN
      clear hr hc hU c1 c2 c3 c4
      obtain ⟨e, he⟩ : ∃ e, (U.toList == x.toList) = e := ⟨_, rfl⟩
      rw [he] at HK HN
      cases e with
      | true =>
        have HZ : Hid (R = (k : Int)) := Lib.hid (HK.out rfl HO.out)
        go_wp2
        go_ret
        exact ⟨ret_int HZ.out.symm, Below.refl _ _⟩
      | false =>
        have HO' := Lib.hid (HN.out rfl)
        go_wp2
        refine ⟨⟨k + 1, by omega, by simp, HO'⟩, ?_⟩
        simp [intOf]; omega
    · have HZ : Hid (R = -1) := Lib.hid (HD.out (fun j hj => HO.out j hj (by omega)))
      go_wp2
      go_ret
      exact ⟨ret_int HZ.out.symm, Below.refl _ _⟩

theorem pgL_snoc (es : List En) (d : Int) (k : Nat) (h : k < es.length) : pgL (es.take (k + 1)) d = pgL (es.take k) d ++ (if pgB es[k] d then [] else [es[k]]) := by
  unfold pgL
  rw [List.take_succ_eq_append_getElem h, List.filter_append]
  congr 1
  cases hh : pgB es[k] d with
  | true => simp [hh]
  | false => simp [hh]
theorem pgL_len (es : List En) (d : Int) (k : Nat) : (pgL (es.take k) d).length ≤ k := by
  unfold pgL
  have := List.length_filter_le (fun x => !pgB x d) (es.take k)
  rw [List.length_take] at this
  omega

set_option maxRecDepth 100000 in
set_option maxHeartbeats 1600000 in
theorem l9Purge_any (v : Value) (es : List En) (d : Int) (w : World) (h : EnAt w w.heap.size v es) (hn : es.length ≤ 100000) :
    Calls Try.prog 165 #[v, .int .i64 d] w (OutB 103 5 enC (pgL es d) w.heap.size w) := by
  have HI := Lib.hid h
  obtain ⟨a, cap, rfl, hl, hm, hc⟩ := h.raw
  clear hc h
  unfold maxLen at hm
  have ho0 := OwnR.lit (k := 5) (C := enC) 103 w w.heap.size (Nat.le_refl _)
  have hb0 : Below w.heap.size w (w.alloc (.cells #[] 103)) := (Below.refl _ _).alloc (Nat.le_refl _) _
  go_enter Try.func165, Try.ntmps165
  go_wp2
  go_loopw [5, 6] (fun o i wr => ∃ k : Nat, k ≤ es.length ∧ i = .int .i64 (k : Int) ∧ OwnR 103 5 enC wr w.heap.size o (pgL (es.take k) d) ∧ Below w.heap.size w wr) (fun _ i _ => es.length - (intOf i).toNat)
  case atStart => exact ⟨0, Nat.zero_le _, rfl, ho0, hb0⟩
  case round =>
    obtain ⟨k, hk, rfl, hown, hB⟩ := hrel
    clear ho0 hb0
    by_cases hlt : k < es.length
    · obtain ⟨a', cap', hv, _, _, hc⟩ := (HI.out.below hB).raw
      cases hv
      obtain ⟨b, off, rfl, hb, hr⟩ := hc k hlt
      obtain ⟨c0, c1, c2, c3, c4, _, _⟩ := hr k hlt
      have HS := Lib.hid (pgL_snoc es d k hlt)
      have hpl := pgL_len es d k
      obtain ⟨x, hx⟩ : ∃ x, x = es[k] := ⟨_, rfl⟩
      rw [← hx] at c0 c1 c2 c3 c4 HS
      have HPg : Hid (pgB x d = (x.rd && (!x.st) && decide (x.it.da < d))) := Lib.hid rfl
      obtain ⟨oa, oc, rfl⟩ := hown.slice
      generalize pgL (es.take k) d = LL at hown HS hpl
      have ho1 := hown.alloc (.cells #[.string x.it.id, .string x.it.ti, .int .i64 x.it.da, .bool x.rd, .bool x.st] 103)
      have hone := one_rec enC_len wr 103 x #[.string x.it.id, .string x.it.ti, .int .i64 x.it.da, .bool x.rd, .bool x.st] rfl
      have hba := hB.alloc hB.size (.cells #[.string x.it.id, .string x.it.ti, .int .i64 x.it.da, .bool x.rd, .bool x.st] 103)
      obtain ⟨⟨S0, S1, S2⟩, S3, S4⟩ := x
      simp only at c0 c1 c2 c3 c4 HPg ho1 hone hba
      have HOw := Lib.hid hown
      have HO1 := Lib.hid ho1
      have HOn := Lib.hid hone
      have HBa := Lib.hid hba
      have HBs := Lib.hid hB
      have hsz : w.heap.size ≤ wr.heap.size := hB.size
      clear hr hc hx hown ho1 hone hba hB
      by_cases hp : pgB ⟨⟨S0, S1, S2⟩, S3, S4⟩ d = true
      · rw [hp, if_pos rfl, List.append_nil] at HS
        have hq := HPg.out
        rw [hp] at hq
        obtain ⟨rfl, rfl, hd⟩ : S3 = true ∧ S4 = false ∧ S2 < d := by
          cases S3 <;> cases S4 <;> simp at hq
          exact ⟨rfl, rfl, hq⟩
        have hdd : decide (d ≤ S2) = false := decide_eq_false (by omega)
        have HN : Hid (OwnR 103 5 enC wr w.heap.size (.slice oa LL.length oc) (pgL (es.take (k + 1)) d)) := Lib.hid (by rw [HS.out]; exact HOw.out)
        clear hp hq HPg HS HO1 HOn HBa HOw
        go_wp2
        go_roundw
        case rel => exact ⟨k + 1, by omega, by go_num, HN.out, HBs.out⟩
        case measure => simp [intOf]; omega
      · rw [if_neg hp] at HS
        have HN : Hid (∀ v' w', OwnR 103 5 enC w' w.heap.size v' (LL ++ [⟨⟨S0, S1, S2⟩, S3, S4⟩]) → OwnR 103 5 enC w' w.heap.size v' (pgL (es.take (k + 1)) d)) := Lib.hid (fun v' w' h => by rw [HS.out]; exact h)
        have hq : (S3 && (!S4) && decide (S2 < d)) = false := by rw [← HPg.out]; simpa using hp
        clear hp HPg HS
        cases S3 with
        | false =>
          clear hq
          go_wp2_with (at_builtin; refine wpList_appR enC_len (by decide) Try.underlying97 Try.infoEntry rfl (by decide) rfl (.tmp 37) (.tmp 42) rfl w.heap.size (wr.heap.size + 1) _ _ _ [⟨⟨S0, S1, S2⟩, false, S4⟩] rfl rfl HO1.out HOn.out (fun y _ => enC_one y) (by simp; omega) (by simp; omega) ?_; intro v1 w1 hown1 hg1)
          have hown2 := HN.out _ _ hown1
          have hB2 := HBa.out.trans (gb_Below hg1 (by simp; omega) (ownBlock_base HOw.out))
          clear hown1 hg1
          go_wp2
          go_roundw
          case rel => exact ⟨k + 1, by omega, by go_num, hown2, hB2⟩
          case measure => simp [intOf]; omega
        | true =>
          cases S4 with
          | true =>
            clear hq
            go_wp2_with (at_builtin; refine wpList_appR enC_len (by decide) Try.underlying97 Try.infoEntry rfl (by decide) rfl (.tmp 37) (.tmp 42) rfl w.heap.size (wr.heap.size + 1) _ _ _ [⟨⟨S0, S1, S2⟩, true, true⟩] rfl rfl HO1.out HOn.out (fun y _ => enC_one y) (by simp; omega) (by simp; omega) ?_; intro v1 w1 hown1 hg1)
            have hown2 := HN.out _ _ hown1
            have hB2 := HBa.out.trans (gb_Below hg1 (by simp; omega) (ownBlock_base HOw.out))
            clear hown1 hg1
            go_wp2
            go_roundw
            case rel => exact ⟨k + 1, by omega, by go_num, hown2, hB2⟩
            case measure => simp [intOf]; omega
          | false =>
            have hdd : decide (d ≤ S2) = true := decide_eq_true (by simp at hq; omega)
            clear hq
            go_wp2_with (at_builtin; refine wpList_appR enC_len (by decide) Try.underlying97 Try.infoEntry rfl (by decide) rfl (.tmp 37) (.tmp 42) rfl w.heap.size (wr.heap.size + 1) _ _ _ [⟨⟨S0, S1, S2⟩, true, false⟩] rfl rfl HO1.out HOn.out (fun y _ => enC_one y) (by simp; omega) (by simp; omega) ?_; intro v1 w1 hown1 hg1)
            have hown2 := HN.out _ _ hown1
            have hB2 := HBa.out.trans (gb_Below hg1 (by simp; omega) (ownBlock_base HOw.out))
            clear hown1 hg1
            go_wp2
            go_roundw
            case rel => exact ⟨k + 1, by omega, by go_num, hown2, hB2⟩
            case measure => simp [intOf]; omega
    · have hke : k = es.length := by omega
      subst hke
      rw [List.take_length] at hown
      go_wp2
      go_ret
      exact ⟨_, rfl, hown, hB⟩
end Go.Proofs.Ytgimjfffdnopiaa

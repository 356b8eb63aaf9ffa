/- Joined: V9g. -/
import Derived.Test.YtgimjfffdnopiaaH18
import Derived.Test.YtgimjfffdnopiaaH23
import Derived.Test.YtgimjfffdnopiaaH50
import Derived.Test.YtgimjfffdnopiaaH51
import Derived.Test.YtgimjfffdnopiaaH52
import Derived.Test.YtgimjfffdnopiaaH53
/- V9g -/
namespace Go.Proofs.Ytgimjfffdnopiaa
open Go.ChangeShapes Go.WideShapes Go.ChangeAt Go.RowKit
set_option linter.unusedVariables false
set_option linter.unusedSimpArgs false

theorem fd_rd : ∀ (os : List OpD) (r : List Sb), rdB r = true → rdB (fdG r os).1 = true
  | [], r, h => h
  | o :: os, r, h => by
    cases ho : doV r o with
    | none => rw [fdG_none ho]; exact h
    | some r2 => rw [fdG_some ho]; exact fd_rd os r2 (doV_rd ho)
theorem ownD_offRow {g : Nat} {B : Nat} {v : Value} {qs : List (Sb × Value)} (hv : v.ownBlock ≠ some g) (hq : ∀ q ∈ qs, q.2.ownBlock ≠ some g) (us : List Value) : ∀ (o : Nat) (w : World), OwnD w B v qs → OwnD (putRow g o us w) B v qs := by
  induction us with
  | nil => intro o w h; exact h
  | cons u us ih => intro o w h; exact ih (o + 1) _ (h.off ⟨g, o, none⟩ u hv hq)
theorem ownD_offFill {w : World} {B g : Nat} {cs : Array Value} {v : Value} {qs : List (Sb × Value)} (h : OwnD w B v qs) (hZ : Box w g cs 28) (us : List Value) : OwnD (putRow g 0 us w) B v qs :=
  ownD_offRow (box_row hZ h.1 (by decide)) (fun q hq => box_row hZ (h.2.1 q hq) (by decide)) us 0 w h
/-- Subscriptions that lie apart, whatever their rows. -/
def QD (w : World) (B : Nat) (v : Value) (r : List Sb) : Prop := ∃ qs : List (Sb × Value), qs.map Prod.fst = r ∧ OwnD w B v qs
theorem qd_sb {w : World} {B : Nat} {v : Value} {r : List Sb} (h : QD w B v r) (hz : ∀ s ∈ r, SbSz s ∧ ∀ x ∈ s.es, EnSz x) : SbAt w w.heap.size v r := by
  obtain ⟨qs, h1, h2⟩ := h
  exact h2.at h1 hz
theorem qd_below {w w' : World} {B : Nat} {v : Value} {r : List Sb} (h : QD w B v r) (hb : Below w.heap.size w w') : QD w' B v r := by
  obtain ⟨qs, h1, h2⟩ := h
  exact ⟨qs, h1, h2.keep hb (Nat.le_refl _)⟩
theorem qd_set {w : World} {B g : Nat} {cs : Array Value} {v : Value} {r : List Sb} (h : QD w B v r) (hZ : Box w g cs 28) (x : Value) : QD (w.setCell ⟨g, 0, none⟩ x) B v r := by
  obtain ⟨qs, h1, h2⟩ := h
  exact ⟨qs, h1, h2.off ⟨g, 0, none⟩ x (box_row hZ h2.1 (by decide)) (fun q hq => box_row hZ (h2.2.1 q hq) (by decide))⟩
theorem OpsAt.take {w : World} {B n cap : Nat} {a : Option Addr} {os : List OpD} (h : OpsAt w B (.slice a n cap) os) (k : Nat) (hk : k ≤ os.length) : OpsAt w B (.slice a k cap) (os.take k) := by
  obtain ⟨ps, rfl, h2, h3⟩ := h
  rw [List.length_map] at hk
  exact ⟨ps.take k, by rw [List.map_take], h2.take k hk, fun p hp => h3 p (List.mem_of_mem_take hp)⟩
theorem fdV_small {os : List OpD} (h : os.length ≤ 500) : fdV os = fdG [] os := by unfold fdV; rw [List.take_of_length_le h]
theorem fdH_rd {os : List OpD} {k : Nat} {r : List Sb} (h : FdH os k r) : rdB r = true := by
  obtain ⟨_, h2, _, _⟩ := h
  exact h2
theorem FdH.half {os : List OpD} {k : Nat} (hl : os.length ≤ 500) (hk : k ≤ os.length) (h : (fdV (os.take k)).2 = k) : FdH os k (fdV (os.take k)).1 := by
  have hl2 : (os.take k).length ≤ 500 := by rw [List.length_take]; omega
  have hA : (fdG [] (os.take k)).2 = (os.take k).length := by rw [← fdV_small hl2, h, List.length_take]; omega
  have e := fdG_all (os.take k) (os.drop k) [] hA
  rw [List.take_append_drop] at e
  rw [fdV_small hl2]
  refine ⟨⟨hk, by omega⟩, fd_rd _ _ rdB_nil, ?_, ?_⟩
  · rw [fdV_small hl, e, List.take_of_length_le hl]
  · rw [fdV_small hl, e, List.take_of_length_le hl]
    show _ + (os.take k).length = _
    rw [List.length_take, Nat.min_eq_left hk]
theorem fd_stop {os : List OpD} {k : Nat} (hl : os.length ≤ 500) (hk : k ≤ os.length) (h : (fdV (os.take k)).2 ≠ k) : (fdV (os.take k)).1 = (fdV os).1 := by
  have hl2 : (os.take k).length ≤ 500 := by rw [List.length_take]; omega
  have hle := fdG_le (os.take k) []
  rw [fdV_small hl2] at h ⊢
  have hlt : (fdG [] (os.take k)).2 < (os.take k).length := by rw [List.length_take] at hle ⊢; omega
  have e := fdG_stop (os.take k) (os.drop k) [] hlt
  rw [List.take_append_drop] at e
  rw [fdV_small hl, e]

set_option maxRecDepth 100000 in
set_option maxHeartbeats 3000000 in
theorem walk_FnFolded (aa : Option Addr) (len cap : Nat) (z : List Int) (w : World) (h : IsRow .u8 w aa len cap z) :
    Calls Try.prog 3 #[.slice aa len cap] w fun e w' => e = .returned (.bool true) ∧ Below w.heap.size w w' := by
  have hcd := Cd.of_row h
  clear h
  go_enter Try.func3, Try.ntmps3
  go_wp2_with fail
  refine (big_any _ _ _ hcd).mono ?_
  rintro e w1 ⟨⟨b, rfl⟩, rfl⟩
  cases b with
  | true =>
    go_wp2
    go_ret
    exact ⟨rfl, Below.refl _ _⟩
  | false =>
    go_wp2_with fail
    refine (drawFolded_any _ _ _ hcd).mono ?_
    rintro e v1 ⟨V, ps, rfl, hl, hq, hd1⟩
    clear hcd
    have hat := hq.at
    obtain ⟨os, hos⟩ : ∃ os, os = ps.map Prod.fst := ⟨_, rfl⟩
    rw [← hos] at hat
    have hN12 : os.length ≤ 12 := by rw [hos, List.length_map]; exact hl
    clear hos hq hl
    obtain ⟨va, vc, hV, hvl, hvm, _⟩ := hat.raw
    subst hV
    unfold maxLen at hvm
    have HO : Hid (∀ W, Below v1.heap.size v1 W → OpsAt W W.heap.size (.slice va os.length vc) os) := Lib.hid (fun W hW => (hat.below hW).mono hW.size)
    have HOz := Lib.hid hat.size
    obtain ⟨RS, hRS⟩ : ∃ RS, RS = (fdV os).1 := ⟨_, rfl⟩
    obtain ⟨N, hN⟩ : ∃ N : Int, N = ((fdV os).2 : Int) := ⟨_, rfl⟩
    have HRz := Lib.hid (rd_sz (show rdB RS = true by rw [hRS, fdV_small (by omega)]; exact fd_rd _ _ rdB_nil))
    have HI := Lib.hid (fun (W : World) (h1 : OpsAt W W.heap.size (.slice va os.length vc) os) => implFolded_any _ os W h1)
    have HS := Lib.hid (fun (W : World) (h1 : OpsAt W W.heap.size (.slice va os.length vc) os) => specFolded_any _ os W h1)
    unfold OutFo at HI HS
    rw [← hRS, ← hN] at HI HS
    have HRS := Lib.hid hRS
    have HNN := Lib.hid hN
    have hBw : Below v1.heap.size v1 v1 := Below.refl _ _
    have HBw0 := Lib.hid hd1
    have hNr : (N != N) = false := by simp
    clear hat hRS hN hd1
    go_wp2_with fail
    refine (HI.out _ (HO.out _ hBw)).mono ?_
    rintro e w2 ⟨V1, q1, rfl, hq1, hD1, hb2⟩
    obtain ⟨a1, c1, hV1⟩ := hD1.1.slice
    generalize q1.length = n1 at hV1
    subst hV1
    have HS1 : Hid (QD w2 v1.heap.size (.slice a1 n1 c1) RS) := Lib.hid ⟨q1, hq1, hD1.lower hBw.size⟩
    replace hBw := hBw.trans (hb2.mono hBw.size)
    have hg4 : v1.heap.size ≤ w2.heap.size := hBw.size
    clear hb2 hq1 hD1
    have h4 := Box.new w2 #[.slice a1 n1 c1] 28
    have hba : Below w2.heap.size w2 (w2.alloc (.cells #[.slice a1 n1 c1] 28)) := (Below.refl _ _).alloc (Nat.le_refl _) _
    replace HS1 := Lib.hid (qd_below HS1.out hba)
    replace hBw := hBw.trans (hba.mono hBw.size)
    clear hba
    go_wp2_with fail
    generalize w2.alloc (.cells #[.slice a1 n1 c1] 28) = W2 at h4 HS1 hBw ⊢
    generalize w2.heap.size = g4 at h4 ⊢
    refine (HS.out _ (HO.out _ hBw)).mono ?_
    rintro e w3 ⟨V2, q2, rfl, hq2, hD2, hb3⟩
    obtain ⟨a2, c2, hV2⟩ := hD2.1.slice
    generalize q2.length = n2 at hV2
    subst hV2
    have HS2 : Hid (SbAt w3 w3.heap.size (.slice a2 n2 c2) RS) := Lib.hid (hD2.at hq2 HRz.out)
    replace h4 := h4.keep hb3 h4.lt
    replace HS1 := Lib.hid (qd_below HS1.out hb3)
    replace hBw := hBw.trans (hb3.mono hBw.size)
    clear hb3 hq2 hD2
    have h6 := Box.new w3 #[.slice a2 n2 c2] 28
    have hba : Below w3.heap.size w3 (w3.alloc (.cells #[.slice a2 n2 c2] 28)) := (Below.refl _ _).alloc (Nat.le_refl _) _
    replace HS1 := Lib.hid (qd_below HS1.out hba)
    replace HS2 := Lib.hid ((HS2.out.below hba).mono hba.size)
    replace h4 := h4.keep hba h4.lt
    replace hBw := hBw.trans (hba.mono hBw.size)
    clear hba
    have x4 := h4.cell 0 _ rfl
    have x6 := h6.cell 0 _ rfl
    go_wp2_with fail
    clear x4 x6
    generalize w3.alloc (.cells #[.slice a2 n2 c2] 28) = W3 at h4 h6 HS1 HS2 hBw ⊢
    generalize w3.heap.size = g6 at h6 ⊢
    refine (sameReader_any _ _ RS _ (qd_sb HS1.out HRz.out) HS2.out).mono ?_
    rintro e w4 ⟨rfl, hb4⟩
    replace h4 := h4.keep hb4 h4.lt
    replace HS1 := Lib.hid (qd_below HS1.out hb4)
    replace hBw := hBw.trans (hb4.mono hBw.size)
    clear hb4 h6 HS2 HI HS
    obtain ⟨k, hk⟩ : ∃ k, k = len % (os.length + 1) := ⟨_, rfl⟩
    have hk1 : (len : Int) % ((os.length : Int) + 1) = (k : Int) := by rw [hk, Int.natCast_emod, Int.natCast_add]; rfl
    have hk2 : (len : Int).tmod ((os.length : Int) + 1) = (k : Int) := by rw [Int.tmod_eq_emod_of_nonneg (by omega)]; exact hk1
    have hkN : k ≤ os.length := by have := Nat.mod_lt len (show 0 < os.length + 1 by omega); omega
    have hkz : (os.length : Int) + 1 ≠ 0 := by omega
    have hwr : IntKind.i64.wrap ((os.length : Int) + 1) = (os.length : Int) + 1 := IntWalk.i64_in _ (by omega)
    have HT := Lib.hid (fun (W : World) (h1 : OpsAt W W.heap.size (.slice va k vc) (os.take k)) => implFolded_any _ (os.take k) W h1)
    unfold OutFo at HT
    have HHf := Lib.hid (fun h => FdH.half (os := os) (k := k) (by omega) hkN h)
    have HSt := Lib.hid (fun h => fd_stop (os := os) (k := k) (by omega) hkN h)
    have HRt := Lib.hid (rd_sz (show rdB (fdV (os.take k)).1 = true by rw [fdV_small (by rw [List.length_take]; omega)]; exact fd_rd _ _ rdB_nil))
    have HOk : Hid (∀ W, Below v1.heap.size v1 W → OpsAt W W.heap.size (.slice va k vc) (os.take k)) := Lib.hid (fun W hW => (HO.out W hW).take k hkN)
    generalize (fdV (os.take k)).1 = r0 at HT HHf HSt HRt
    generalize (fdV (os.take k)).2 = M at HT HHf HSt
    clear hk
    go_wp2_with fail
    refine (HT.out _ (HOk.out _ hBw)).mono ?_
    rintro e w5 ⟨V3, q3, rfl, hq3, hD3, hb5⟩
    obtain ⟨a3, c3, hV3⟩ := hD3.1.slice
    generalize q3.length = n3 at hV3
    subst hV3
    have HS3 : Hid (QD w5 v1.heap.size (.slice a3 n3 c3) r0) := Lib.hid ⟨q3, hq3, hD3.lower hBw.size⟩
    replace h4 := h4.keep hb5 h4.lt
    replace HS1 := Lib.hid (qd_below HS1.out hb5)
    replace hBw := hBw.trans (hb5.mono hBw.size)
    have hgv : v1.heap.size ≤ w5.heap.size := hBw.size
    clear hb5 hq3 hD3 HT HOk
    have h9 := Box.new w5 #[.slice a3 n3 c3] 28
    have hba : Below w5.heap.size w5 (w5.alloc (.cells #[.slice a3 n3 c3] 28)) := (Below.refl _ _).alloc (Nat.le_refl _) _
    replace HS1 := Lib.hid (qd_below HS1.out hba)
    replace HS3 := Lib.hid (qd_below HS3.out hba)
    have h49 : g4 < w5.heap.size := h4.lt
    replace h4 := h4.keep hba h4.lt
    replace hBw := hBw.trans (hba.mono hBw.size)
    clear hba
    go_wp2
    generalize w5.alloc (.cells #[.slice a3 n3 c3] 28) = W5 at h4 h9 HS1 HS3 hBw ⊢
    generalize w5.heap.size = gn at h9 h49 hgv ⊢
    by_cases hMk : M = k
    case neg =>
      have hr0 := HSt.out hMk
      have hMk2 : ((M : Int) == (k : Int)) = false := by simp; omega
      rw [hr0, ← HRS.out] at HS3
      clear HHf HSt hMk hr0 HRt
      go_loopw [11] (fun i wr => i = .int .i64 (k : Int) ∧ wr = W5) (fun i _ => 0)
      case atStart => exact ⟨rfl, rfl⟩
      case round =>
        obtain ⟨rfl, rfl⟩ := hrel
        have x9 := h9.cell 0 _ rfl
        have x4 := h4.cell 0 _ rfl
        go_wp2_with fail
        all_goals
          refine (sameReader_any _ _ RS _ (qd_sb HS3.out HRz.out) (qd_sb HS1.out HRz.out)).mono ?_
          rintro e w6 ⟨rfl, hb6⟩
          have hBe := HBw0.out.trans ((hBw.trans (hb6.mono hBw.size)).mono HBw0.out.size)
          clear x9 x4
          go_wp2
          go_ret
          exact ⟨rfl, hBe⟩
    subst hMk
    have HF0 := Lib.hid (HHf.out rfl)
    clear HHf HSt HRt
    go_loopw [11] (fun i wr => ∃ (jx : Nat) (r : List Sb) (xa : Option Addr) (xn xc : Nat), jx ≤ os.length ∧ i = .int .i64 (jx : Int) ∧ Hid (FdH os jx r) ∧ Hid (QD wr v1.heap.size (.slice xa xn xc) r) ∧ Box wr gn #[.slice xa xn xc] 28 ∧ Box wr g4 #[.slice a1 n1 c1] 28 ∧ Hid (QD wr v1.heap.size (.slice a1 n1 c1) RS) ∧ Below v1.heap.size v1 wr) (fun i _ => os.length - (intOf i).toNat)
    case atStart => exact ⟨M, r0, a3, n3, c3, hkN, rfl, HF0, HS3, h9, h4, HS1, hBw⟩
    case round =>
      clear h9 h4 HS1 HS3 hBw HF0
      obtain ⟨jx, r, xa, xn, xc, hj, rfl, HF, HS3, h9, h4, HS1, hBw⟩ := hrel
      have hmm : ((M : Int) == (M : Int)) = true := by simp
      by_cases hlt : jx < os.length
      case neg =>
        have hov := HF.out.over (by omega)
        rw [← hov.1, ← HRS.out] at HS3
        have x9 := h9.cell 0 _ rfl
        have x4 := h4.cell 0 _ rfl
        have hjl : decide ((jx : Int) < (os.length : Int)) = false := decide_eq_false (by omega)
        clear hov
        go_wp2_with fail
        refine (sameReader_any _ _ RS _ (qd_sb HS3.out HRz.out) (qd_sb HS1.out HRz.out)).mono ?_
        rintro e w6 ⟨rfl, hb6⟩
        have hBe := HBw0.out.trans ((hBw.trans (hb6.mono hBw.size)).mono HBw0.out.size)
        clear x9 x4
        go_wp2
        go_ret
        exact ⟨rfl, hBe⟩
      obtain ⟨a', cap', hv, q1, q2, hc⟩ := (HO.out _ hBw).raw
      cases hv
      clear q1 q2
      obtain ⟨b, off, rfl, hbb, hr⟩ := hc jx hlt
      obtain ⟨y, c0, c1', c2', c3', c4, c5, c6, hy, hz⟩ := hr jx hlt
      have HNx := Lib.hid (fun r2 h => HF.out.next (r2 := r2) hlt (by omega) h)
      have HSp := Lib.hid (fun h => HF.out.stop hlt (by omega) h)
      obtain ⟨oq, ho⟩ : ∃ oq, oq = os[jx] := ⟨_, rfl⟩
      rw [← ho] at c0 c1' c2' c3' c4 c5 hy hz HNx HSp
      obtain ⟨ya, yc, rfl⟩ := hy.1.slice
      have HYw := Lib.hid hy
      have HYz := Lib.hid hz
      have hjl : decide ((jx : Int) < (os.length : Int)) = true := decide_eq_true (by omega)
      have hjl2 : (jx : Int) < (os.length : Int) := by omega
      have hj0 : (0 : Int) ≤ (jx : Int) := by omega
      clear hr hc ho hy hz
      have hDon : Hid (∀ W, Below wr.heap.size wr W → Calls Try.prog 19 #[.agg #[.slice xa xn xc], opV oq (.slice ya oq.its.length yc)] W (OutDu ((doV r oq).getD []) (doV r oq).isSome W)) := Lib.hid (fun W hW => implDone_uni _ _ r oq W (qd_sb (qd_below HS3.out hW) (rd_sz (fdH_rd HF.out))) ((HYw.out.below hW).mono hW.size) HYz.out)
      unfold OutDu at hDon
      have HRd : Hid (∀ s ∈ (doV r oq).getD [], SbSz s ∧ ∀ x ∈ s.es, EnSz x) := Lib.hid (rd_sz (doU_rd r oq))
      have h9l := h9.lt
      have h4l := h4.lt
      have hbw : b < wr.heap.size := hbb
      obtain ⟨RD, hRD⟩ : ∃ RD, RD = (doV r oq).getD [] := ⟨_, rfl⟩
      obtain ⟨bo, hbo⟩ : ∃ bo, bo = (doV r oq).isSome := ⟨_, rfl⟩
      rw [← hRD, ← hbo] at hDon
      rw [← hRD] at HRd
      have HRD := Lib.hid hRD
      have HBO := Lib.hid hbo
      clear hRD hbo
      go_wp2
      have hv0 : v1.heap.size ≤ wr.heap.size := hBw.size
      generalize wr = wr0 at h9 h4 HS1 HS3 hBw c0 c1' c2' c3' c4 c5 c6 hDon h9l h4l hbw HYw hv0 ⊢
      refine wp_region_T (fun _ => True) (fun _ => True) 11 (by kernel_rfl) 12 rfl ?_
      obtain ⟨kl, hkl⟩ : ∃ kl : List Ke, Hid (kl = [.val (.agg #[.slice xa xn xc]), .val (.slice (some ⟨b, off, none⟩) os.length vc), .val (.int .i64 (jx : Int)), .val (.pointer (some ⟨b, off + jx * 7, none⟩)), .val (opV oq (.slice ya oq.its.length yc)), .ex (fun v w => ∃ (V : Value) (qs : List (Sb × Value)), v = .tuple #[.agg #[V], .bool bo] ∧ qs.map Prod.fst = RD ∧ OwnD w wr0.heap.size V qs), .ex (fun v w => ∃ (V : Value) (qs : List (Sb × Value)), v = .tuple #[.agg #[V], .bool bo] ∧ qs.map Prod.fst = RD ∧ OwnD w wr0.heap.size V qs), .ex (fun v w => ∃ (V : Value) (qs : List (Sb × Value)), v = .agg #[V] ∧ qs.map Prod.fst = RD ∧ OwnD w wr0.heap.size V qs), .val (.bool bo), .box 1 (28), .ex (fun v w => ∃ g, v = .pointer (some ⟨g, 0, none⟩) ∧ wr0.heap.size ≤ g ∧ ∃ (V : Value) (qs : List (Sb × Value)), Box w g #[V] (28) ∧ qs.map Prod.fst = RD ∧ OwnD w wr0.heap.size V qs), .val undef]) := ⟨_, Lib.hid rfl⟩
      have hkB : Hid (∀ j, exB (kl.getD j (.val undef))) := Lib.hid (ke_of (by rw [hkl.out]; simp only [List.forall_mem_cons]; exact ⟨trivial, trivial, trivial, trivial, trivial, (by first | exact fun _ _ _ _ h => h | (rintro v w w' hb ⟨V, qs, h1, h2, h3⟩; exact ⟨V, qs, h1, h2, h3.keep hb (Nat.le_refl _)⟩) | (rintro v w w' hb ⟨g, h1, h2, V, qs, h3, h4, h5⟩; exact ⟨g, h1, h2, V, qs, h3.keep hb h3.lt, h4, h5.keep hb (Nat.le_refl _)⟩)), (by first | exact fun _ _ _ _ h => h | (rintro v w w' hb ⟨V, qs, h1, h2, h3⟩; exact ⟨V, qs, h1, h2, h3.keep hb (Nat.le_refl _)⟩) | (rintro v w w' hb ⟨g, h1, h2, V, qs, h3, h4, h5⟩; exact ⟨g, h1, h2, V, qs, h3.keep hb h3.lt, h4, h5.keep hb (Nat.le_refl _)⟩)), (by first | exact fun _ _ _ _ h => h | (rintro v w w' hb ⟨V, qs, h1, h2, h3⟩; exact ⟨V, qs, h1, h2, h3.keep hb (Nat.le_refl _)⟩) | (rintro v w w' hb ⟨g, h1, h2, V, qs, h3, h4, h5⟩; exact ⟨g, h1, h2, V, qs, h3.keep hb h3.lt, h4, h5.keep hb (Nat.le_refl _)⟩)), trivial, trivial, (by first | exact fun _ _ _ _ h => h | (rintro v w w' hb ⟨V, qs, h1, h2, h3⟩; exact ⟨V, qs, h1, h2, h3.keep hb (Nat.le_refl _)⟩) | (rintro v w w' hb ⟨g, h1, h2, V, qs, h3, h4, h5⟩; exact ⟨g, h1, h2, V, qs, h3.keep hb h3.lt, h4, h5.keep hb (Nat.le_refl _)⟩)), trivial, by simp⟩) trivial)
      have hkP10 : Hid (∀ j, j ≠ 10 → exP wr0.heap.size (28) (kl.getD j (.val undef))) := Lib.hid (fun j hj => by
  rcases Nat.lt_or_ge j 12 with hlt | hge
  · rcases (show j = 0 ∨ j = 1 ∨ j = 2 ∨ j = 3 ∨ j = 4 ∨ j = 5 ∨ j = 6 ∨ j = 7 ∨ j = 8 ∨ j = 9 ∨ j = 11 by omega) with rfl | rfl | rfl | rfl | rfl | rfl | rfl | rfl | rfl | rfl | rfl
    · rw [hkl.out]; trivial
    · rw [hkl.out]; trivial
    · rw [hkl.out]; trivial
    · rw [hkl.out]; trivial
    · rw [hkl.out]; trivial
    · rw [hkl.out]; first | exact fun _ _ _ _ _ _ _ h => h | (rintro v w g cs fin hS hx ⟨V, qs, h1, h2, h3⟩; exact ⟨V, qs, h1, h2, ownD_offFill h3 hx fin⟩)
    · rw [hkl.out]; first | exact fun _ _ _ _ _ _ _ h => h | (rintro v w g cs fin hS hx ⟨V, qs, h1, h2, h3⟩; exact ⟨V, qs, h1, h2, ownD_offFill h3 hx fin⟩)
    · rw [hkl.out]; first | exact fun _ _ _ _ _ _ _ h => h | (rintro v w g cs fin hS hx ⟨V, qs, h1, h2, h3⟩; exact ⟨V, qs, h1, h2, ownD_offFill h3 hx fin⟩)
    · rw [hkl.out]; trivial
    · rw [hkl.out]; trivial
    · rw [hkl.out]; trivial
  · rw [hkl.out, List.getD_eq_getElem?_getD, List.getElem?_eq_none (by simpa using hge)]; trivial)
      refine wpAnyT_flo2 (fun i => decide (i < 11)) (by kernel_rfl) (by kernel_rfl) 1 (fun L a wr => ∃ (cQ : Nat → Bool) (sQ : Nat → Value), L = #[cQ 0, cQ 1, cQ 2, cQ 3, cQ 4, cQ 5, cQ 6, cQ 7, cQ 8, cQ 9, cQ 10, false] ∧ a = { tmps := #[Value.slice aa len cap, undef, u2, Value.slice (some { block := b, off := off }) os.length vc, Value.pointer (some { block := g4, off := 0 }), Value.int IntKind.i64 N, Value.pointer (some { block := g6, off := 0 }), Value.int IntKind.i64 N, Value.int IntKind.i64 ((M : Nat) : Int), Value.pointer (some { block := gn, off := 0 }), Value.int IntKind.i64 ((M : Nat) : Int), Value.int IntKind.i64 ((jx : Nat) : Int), slE (u12) cQ sQ 9, u13, Value.slice aa len cap, Value.bool false, Value.slice aa len cap, Value.slice (some { block := b, off := off }) os.length vc, Value.tuple #[Value.agg #[Value.slice a1 n1 c1], Value.int IntKind.i64 N], Value.slice (some { block := b, off := off }) os.length vc, Value.tuple #[Value.agg #[Value.slice a1 n1 c1], Value.int IntKind.i64 N], Value.agg #[Value.slice a1 n1 c1], Value.int IntKind.i64 N, Value.tuple #[Value.agg #[Value.slice a2 n2 c2], Value.int IntKind.i64 N], Value.slice (some { block := b, off := off }) os.length vc, Value.tuple #[Value.agg #[Value.slice a2 n2 c2], Value.int IntKind.i64 N], Value.agg #[Value.slice a2 n2 c2], Value.int IntKind.i64 N, Value.agg #[Value.slice a1 n1 c1], Value.agg #[Value.slice a2 n2 c2], Value.bool true, Value.bool false, Value.bool false, Value.int IntKind.i64 N, Value.int IntKind.i64 N, Value.bool false, Value.bool false, Value.slice aa len cap, Value.int IntKind.i64 ((len : Nat) : Int), Value.slice (some { block := b, off := off }) os.length vc, Value.int IntKind.i64 ((os.length : Nat) : Int), Value.int IntKind.i64 (((os.length : Nat) : Int) + 1), Value.int IntKind.i64 ((M : Nat) : Int), Value.tuple #[Value.agg #[Value.slice a3 n3 c3], Value.int IntKind.i64 ((M : Nat) : Int)], Value.slice (some { block := b, off := off }) os.length vc, Value.int IntKind.i64 ((M : Nat) : Int), Value.slice (some { block := b, off := off }) M vc, Value.tuple #[Value.agg #[Value.slice a3 n3 c3], Value.int IntKind.i64 ((M : Nat) : Int)], Value.agg #[Value.slice a3 n3 c3], Value.int IntKind.i64 ((M : Nat) : Int), Value.int IntKind.i64 ((M : Nat) : Int), Value.int IntKind.i64 ((jx : Nat) : Int), Value.slice (some { block := b, off := off }) os.length vc, Value.int IntKind.i64 ((os.length : Nat) : Int), Value.bool true, Value.bool true, Value.int IntKind.i64 ((M : Nat) : Int), Value.int IntKind.i64 ((M : Nat) : Int), Value.bool true, Value.bool true, u60, u61, slE (u62) cQ sQ 6, slE (u63) cQ sQ 0, slE (u64) cQ sQ 1, slE (u65) cQ sQ 2, slE (u66) cQ sQ 3, slE (u67) cQ sQ 4, slE (u68) cQ sQ 5, slE (u69) cQ sQ 7, slE (u70) cQ sQ 8, u71, u72, u73, u74, u75, u76, u77, u78, u79, u80, u81, undef, undef, undef], defers := [] } ∧ FloS (KeP wr0.heap.size (fun i => kl.getD i (.val undef))) (fun wr => Below wr0.heap.size wr0 wr) cQ sQ wr ∧ (cQ 10 = true → sQ 10 = sQ 9 ∧ cQ 9 = true)) ?_ ?_ ?_ ?_ 11 _ _ _ ?_ ?_
      · rintro L a wr ⟨cQ, sQ, rfl, _, _⟩
        rfl
      · rintro L a wr ⟨cQ, sQ, rfl, _, _⟩ i hi hfi
        have hi' : i < 12 := hi
        rcases (show i = 0 ∨ i = 1 ∨ i = 2 ∨ i = 3 ∨ i = 4 ∨ i = 5 ∨ i = 6 ∨ i = 7 ∨ i = 8 ∨ i = 9 ∨ i = 10 ∨ i = 11 by omega) with rfl | rfl | rfl | rfl | rfl | rfl | rfl | rfl | rfl | rfl | rfl | rfl
        · exact absurd hfi (by decide)
        · exact absurd hfi (by decide)
        · exact absurd hfi (by decide)
        · exact absurd hfi (by decide)
        · exact absurd hfi (by decide)
        · exact absurd hfi (by decide)
        · exact absurd hfi (by decide)
        · exact absurd hfi (by decide)
        · exact absurd hfi (by decide)
        · exact absurd hfi (by decide)
        · exact absurd hfi (by decide)
        · rfl
      · rintro L a wr i o ⟨cQ, sQ, rfl, rfl, hF, hT10⟩ ho hfl hL hdep
        have hB := hF.fr
        have hkk : Hid (∀ j, KeP wr0.heap.size (fun i => kl.getD i (.val undef)) j = KeP wr0.heap.size (fun i => ([.val (.agg #[.slice xa xn xc]), .val (.slice (some ⟨b, off, none⟩) os.length vc), .val (.int .i64 (jx : Int)), .val (.pointer (some ⟨b, off + jx * 7, none⟩)), .val (opV oq (.slice ya oq.its.length yc)), .ex (fun v w => ∃ (V : Value) (qs : List (Sb × Value)), v = .tuple #[.agg #[V], .bool bo] ∧ qs.map Prod.fst = RD ∧ OwnD w wr0.heap.size V qs), .ex (fun v w => ∃ (V : Value) (qs : List (Sb × Value)), v = .tuple #[.agg #[V], .bool bo] ∧ qs.map Prod.fst = RD ∧ OwnD w wr0.heap.size V qs), .ex (fun v w => ∃ (V : Value) (qs : List (Sb × Value)), v = .agg #[V] ∧ qs.map Prod.fst = RD ∧ OwnD w wr0.heap.size V qs), .val (.bool bo), .box 1 (28), .ex (fun v w => ∃ g, v = .pointer (some ⟨g, 0, none⟩) ∧ wr0.heap.size ≤ g ∧ ∃ (V : Value) (qs : List (Sb × Value)), Box w g #[V] (28) ∧ qs.map Prod.fst = RD ∧ OwnD w wr0.heap.size V qs), .val undef] : List Ke).getD i (.val undef)) j) := Lib.hid (by intro j; rw [hkl.out])
        have hi : i < 11 := of_decide_eq_true hfl
        rcases (show i = 0 ∨ i = 1 ∨ i = 2 ∨ i = 3 ∨ i = 4 ∨ i = 5 ∨ i = 6 ∨ i = 7 ∨ i = 8 ∨ i = 9 ∨ i = 10 by omega) with rfl | rfl | rfl | rfl | rfl | rfl | rfl | rfl | rfl | rfl | rfl
        · have ho' := Option.some.inj ho
          subst ho'
          refine ⟨by kernel_rfl, ?_⟩
          have hxx := h9.keep hB h9l
          have e9 := hxx.cell 0 _ rfl
          go_simp
          exact ⟨up cQ 0 true, by simp [up], up sQ 0 (.agg #[.slice xa xn xc]), by simp [up, sl, slE], hF.stepN 0 (.agg #[.slice xa xn xc]) _ hB (fun j u _ h => h) (by rw [hkk.out]; exact rfl), by simpa [up] using hT10⟩
        · have ho' := Option.some.inj ho
          subst ho'
          refine ⟨by kernel_rfl, ?_⟩
          go_simp
          exact ⟨up cQ 1 true, by simp [up], up sQ 1 (.slice (some ⟨b, off, none⟩) os.length vc), by simp [up, sl, slE], hF.stepN 1 (.slice (some ⟨b, off, none⟩) os.length vc) _ hB (fun j u _ h => h) (by rw [hkk.out]; exact rfl), by simpa [up] using hT10⟩
        · have ho' := Option.some.inj ho
          subst ho'
          refine ⟨by kernel_rfl, ?_⟩
          go_simp
          exact ⟨up cQ 2 true, by simp [up], up sQ 2 (.int .i64 (jx : Int)), by simp [up, sl, slE], hF.stepN 2 (.int .i64 (jx : Int)) _ hB (fun j u _ h => h) (by rw [hkk.out]; exact rfl), by simpa [up] using hT10⟩
        · have ho' := Option.some.inj ho
          subst ho'
          have h1 : cQ 1 = true := hdep ⟨1, .data⟩ (by simp) rfl
          have q1 := hF.k 1 h1
          rw [hkk.out] at q1
          have e1 : sQ 1 = .slice (some ⟨b, off, none⟩) os.length vc := q1
          have h2 : cQ 2 = true := hdep ⟨2, .data⟩ (by simp) rfl
          have q2 := hF.k 2 h2
          rw [hkk.out] at q2
          have e2 : sQ 2 = .int .i64 (jx : Int) := q2
          refine ⟨by kernel_rfl, ?_⟩
          rw [slE_on h1, slE_on h2, e1, e2]
          go_simp
          exact ⟨up cQ 3 true, by simp [up, h1, h2, e1, e2], up sQ 3 (.pointer (some ⟨b, off + jx * 7, none⟩)), by simp [up, sl, slE, h1, h2, e1, e2], hF.stepN 3 (.pointer (some ⟨b, off + jx * 7, none⟩)) _ hB (fun j u _ h => h) (by rw [hkk.out]; exact rfl), by simpa [up] using hT10⟩
        · have ho' := Option.some.inj ho
          subst ho'
          have h3 : cQ 3 = true := hdep ⟨3, .data⟩ (by simp) rfl
          have q3 := hF.k 3 h3
          rw [hkk.out] at q3
          have e3 : sQ 3 = .pointer (some ⟨b, off + jx * 7, none⟩) := q3
          refine ⟨by kernel_rfl, ?_⟩
          rw [slE_on h3, e3]
          have d0 := (hB.cell (p := ⟨b, off + jx * 7, none⟩) (show b < wr0.heap.size by omega)).trans c0
          have d1 := (hB.cell (p := ⟨b, off + jx * 7 + 1, none⟩) (show b < wr0.heap.size by omega)).trans c1'
          have d2 := (hB.cell (p := ⟨b, off + jx * 7 + 2, none⟩) (show b < wr0.heap.size by omega)).trans c2'
          have d3 := (hB.cell (p := ⟨b, off + jx * 7 + 3, none⟩) (show b < wr0.heap.size by omega)).trans c3'
          have d4 := (hB.cell (p := ⟨b, off + jx * 7 + 4, none⟩) (show b < wr0.heap.size by omega)).trans c4
          have d5 := (hB.cell (p := ⟨b, off + jx * 7 + 5, none⟩) (show b < wr0.heap.size by omega)).trans c5
          have d6 := (hB.cell (p := ⟨b, off + jx * 7 + 6, none⟩) (show b < wr0.heap.size by omega)).trans c6
          go_simp
          exact ⟨up cQ 4 true, by simp [up, h3, e3], up sQ 4 (opV oq (.slice ya oq.its.length yc)), by simp [up, sl, slE, h3, e3], hF.stepN 4 (opV oq (.slice ya oq.its.length yc)) _ hB (fun j u _ h => h) (by rw [hkk.out]; exact rfl), by simpa [up] using hT10⟩
        · have ho' := Option.some.inj ho
          subst ho'
          have h0 : cQ 0 = true := hdep ⟨0, .data⟩ (by simp) rfl
          have q0 := hF.k 0 h0
          rw [hkk.out] at q0
          have e0 : sQ 0 = .agg #[.slice xa xn xc] := q0
          have h4 : cQ 4 = true := hdep ⟨4, .data⟩ (by simp) rfl
          have q4 := hF.k 4 h4
          rw [hkk.out] at q4
          have e4 : sQ 4 = opV oq (.slice ya oq.its.length yc) := q4
          refine ⟨by kernel_rfl, ?_⟩
          rw [slE_on h0, slE_on h4, e0, e4]
          go_simp
          refine (hDon.out _ hB).mono ?_
          rintro e w2 ⟨VV, qq, rfl, hqq, hdd, hb⟩
          go_simp
          exact ⟨up cQ 5 true, by simp [up, h0, h4, e0, e4], up sQ 5 (.tuple #[.agg #[VV], .bool bo]), by simp [up, sl, slE, h0, h4, e0, e4], hF.stepN 5 (.tuple #[.agg #[VV], .bool bo]) _ (hB.trans (hb.mono hB.size)) (fun j u _ h => KeP.keep hkB.out hb j u h) (by rw [hkk.out]; exact ⟨VV, qq, rfl, hqq, hdd.lower hB.size⟩), by simpa [up] using hT10⟩
        · have ho' := Option.some.inj ho
          subst ho'
          have h5 : cQ 5 = true := hdep ⟨5, .data⟩ (by simp) rfl
          have q5 := hF.k 5 h5
          rw [hkk.out] at q5
          obtain ⟨V5, qs5, e5, hq5, hd5⟩ := q5
          refine ⟨by kernel_rfl, ?_⟩
          rw [slE_on h5, e5]
          go_simp
          exact ⟨up cQ 6 true, by simp [up, h5, e5], up sQ 6 (.tuple #[.agg #[V5], .bool bo]), by simp [up, sl, slE, h5, e5], hF.stepN 6 (.tuple #[.agg #[V5], .bool bo]) _ hB (fun j u _ h => h) (by rw [hkk.out]; exact ⟨V5, qs5, rfl, hq5, hd5⟩), by simpa [up] using hT10⟩
        · have ho' := Option.some.inj ho
          subst ho'
          have h6 : cQ 6 = true := hdep ⟨6, .data⟩ (by simp) rfl
          have q6 := hF.k 6 h6
          rw [hkk.out] at q6
          obtain ⟨V6, qs6, e6, hq6, hd6⟩ := q6
          refine ⟨by kernel_rfl, ?_⟩
          rw [slE_on h6, e6]
          go_simp
          exact ⟨up cQ 7 true, by simp [up, h6, e6], up sQ 7 (.agg #[V6]), by simp [up, sl, slE, h6, e6], hF.stepN 7 (.agg #[V6]) _ hB (fun j u _ h => h) (by rw [hkk.out]; exact ⟨V6, qs6, rfl, hq6, hd6⟩), by simpa [up] using hT10⟩
        · have ho' := Option.some.inj ho
          subst ho'
          have h6 : cQ 6 = true := hdep ⟨6, .data⟩ (by simp) rfl
          have q6 := hF.k 6 h6
          rw [hkk.out] at q6
          obtain ⟨V6, qs6, e6, hq6, hd6⟩ := q6
          refine ⟨by kernel_rfl, ?_⟩
          rw [slE_on h6, e6]
          go_simp
          exact ⟨up cQ 8 true, by simp [up, h6, e6], up sQ 8 (.bool bo), by simp [up, sl, slE, h6, e6], hF.stepN 8 (.bool bo) _ hB (fun j u _ h => h) (by rw [hkk.out]; exact rfl), by simpa [up] using hT10⟩
        · have ho' := Option.some.inj ho
          subst ho'
          refine ⟨by kernel_rfl, ?_⟩
          go_simp
          exact ⟨up cQ 9 true, by simp [up], up sQ 9 (.pointer (some ⟨wr.heap.size, 0, none⟩)), by simp [up, sl, slE], hF.stepN 9 (.pointer (some ⟨wr.heap.size, 0, none⟩)) _ (hB.alloc hB.size _) (fun j u _ h => KeP.keep hkB.out ((Below.refl _ _).alloc (Nat.le_refl _) _) j u h) (by rw [hkk.out]; exact ⟨_, _, rfl, hB.size, rfl, Box.new wr _ _⟩), fun h => absurd ((hT10 (by simpa [up] using h)).2.symm.trans (by simpa using hL)) (by decide)⟩
        · have ho' := Option.some.inj ho
          subst ho'
          have h9 : cQ 9 = true := hdep ⟨9, .data⟩ (by simp) rfl
          have q9 := hF.k 9 h9
          rw [hkk.out] at q9
          obtain ⟨gd9, cd9, e9, hgd9, hzd9, hxd9⟩ := q9
          have h7 : cQ 7 = true := hdep ⟨7, .data⟩ (by simp) rfl
          have q7 := hF.k 7 h7
          rw [hkk.out] at q7
          obtain ⟨V7, qs7, e7, hq7, hd7⟩ := q7
          refine ⟨by kernel_rfl, ?_⟩
          rw [slE_on h9, slE_on h7, e9, e7]
          obtain ⟨sa7, sc7, hV7⟩ := hd7.1.slice
          subst hV7
          obtain ⟨ld, rfl, hld⟩ := arrS hzd9
          obtain ⟨z0, l0, rfl, hl0⟩ := consS hld
          obtain rfl := List.eq_nil_of_length_eq_zero hl0
          have kz0 := hxd9.cell 0 _ rfl
          have fz0 := hxd9.free 0
          go_simp
          have hch : (wr.setCell ⟨gd9, 0, none⟩ (.slice sa7 qs7.length sc7)) = putRow gd9 0 [.slice sa7 qs7.length sc7] wr := rfl
          rw [hch]
          have hfil := Box.fillAll (us := [.slice sa7 qs7.length sc7]) hxd9 rfl
          have hfr : Below wr0.heap.size wr0 (putRow gd9 0 [.slice sa7 qs7.length sc7] wr) := hB.trans (below_putRow gd9 _ hgd9 [.slice sa7 qs7.length sc7] 0 wr)
          have hst : ∀ j u, j ≠ 10 → KeP wr0.heap.size (fun i => kl.getD i (.val undef)) j u wr → KeP wr0.heap.size (fun i => kl.getD i (.val undef)) j u (putRow gd9 0 [.slice sa7 qs7.length sc7] wr) := fun j u hne h => KeP.filledN (us := [.slice sa7 qs7.length sc7]) hkP10.out hgd9 hxd9 rfl j hne u h
          have hpo : KeP wr0.heap.size (fun i => kl.getD i (.val undef)) 10 (.pointer (some ⟨gd9, 0, none⟩)) (putRow gd9 0 [.slice sa7 qs7.length sc7] wr) := by rw [hkk.out]; exact ⟨gd9, rfl, hgd9, _, qs7, hfil, hq7, ownD_offFill hd7 hxd9 [_]⟩
          generalize (putRow gd9 0 [.slice sa7 qs7.length sc7] wr) = WP at hfr hst hpo ⊢
          exact ⟨up cQ 10 true, by simp [up, h9, h7, e9, e7], up sQ 10 (.pointer (some ⟨gd9, 0, none⟩)), by simp [up, sl, slE, h9, h7, e9, e7], hF.stepN 10 (.pointer (some ⟨gd9, 0, none⟩)) WP hfr hst hpo, fun _ => ⟨by simp [up, e9], by simp [up, h9]⟩⟩
      · rintro L a wr ⟨cQ, sQ, rfl, rfl, hF, hT10⟩ hall
        have hB := hF.fr
        have hkk : Hid (∀ j, KeP wr0.heap.size (fun i => kl.getD i (.val undef)) j = KeP wr0.heap.size (fun i => ([.val (.agg #[.slice xa xn xc]), .val (.slice (some ⟨b, off, none⟩) os.length vc), .val (.int .i64 (jx : Int)), .val (.pointer (some ⟨b, off + jx * 7, none⟩)), .val (opV oq (.slice ya oq.its.length yc)), .ex (fun v w => ∃ (V : Value) (qs : List (Sb × Value)), v = .tuple #[.agg #[V], .bool bo] ∧ qs.map Prod.fst = RD ∧ OwnD w wr0.heap.size V qs), .ex (fun v w => ∃ (V : Value) (qs : List (Sb × Value)), v = .tuple #[.agg #[V], .bool bo] ∧ qs.map Prod.fst = RD ∧ OwnD w wr0.heap.size V qs), .ex (fun v w => ∃ (V : Value) (qs : List (Sb × Value)), v = .agg #[V] ∧ qs.map Prod.fst = RD ∧ OwnD w wr0.heap.size V qs), .val (.bool bo), .box 1 (28), .ex (fun v w => ∃ g, v = .pointer (some ⟨g, 0, none⟩) ∧ wr0.heap.size ≤ g ∧ ∃ (V : Value) (qs : List (Sb × Value)), Box w g #[V] (28) ∧ qs.map Prod.fst = RD ∧ OwnD w wr0.heap.size V qs), .val undef] : List Ke).getD i (.val undef)) j) := Lib.hid (by intro j; rw [hkl.out])
        have h0 : cQ 0 = true := hall 0 (by decide) rfl
        have h1 : cQ 1 = true := hall 1 (by decide) rfl
        have h2 : cQ 2 = true := hall 2 (by decide) rfl
        have h3 : cQ 3 = true := hall 3 (by decide) rfl
        have h4 : cQ 4 = true := hall 4 (by decide) rfl
        have h5 : cQ 5 = true := hall 5 (by decide) rfl
        have h6 : cQ 6 = true := hall 6 (by decide) rfl
        have h7 : cQ 7 = true := hall 7 (by decide) rfl
        have h8 : cQ 8 = true := hall 8 (by decide) rfl
        have h9 : cQ 9 = true := hall 9 (by decide) rfl
        have h10 : cQ 10 = true := hall 10 (by decide) rfl
        have q8 := hF.k 8 h8
        rw [hkk.out] at q8
        have e8 : sQ 8 = .bool bo := q8
        have q9 := hF.k 9 h9
        rw [hkk.out] at q9
        obtain ⟨g9, cd9, e9, hg9, hzd9, hx9⟩ := q9
        have q10 := hF.k 10 h10
        rw [hkk.out] at q10
        obtain ⟨gp10, e10, hgp10, V10, qs10, hxp10, hq10, hd10⟩ := q10
        have hq := (hT10 h10).1
        rw [e10, e9] at hq
        obtain rfl : g9 = gp10 := by simpa using hq.symm
        clear hx9 hzd9 hq
        rw [h0, h1, h2, h3, h4, h5, h6, h7, h8, h9, h10, slE_on h8, slE_on h9, e8, e9]
        clear hall hF hkk hT10 h0 h1 h2 h3 h4 h5 h6 h7 h8 h9 h10 e8 e9 e10
        generalize slE (u63) cQ sQ 0 = s0
        generalize slE (u64) cQ sQ 1 = s1
        generalize slE (u65) cQ sQ 2 = s2
        generalize slE (u66) cQ sQ 3 = s3
        generalize slE (u67) cQ sQ 4 = s4
        generalize slE (u68) cQ sQ 5 = s5
        generalize slE (u62) cQ sQ 6 = s6
        generalize slE (u69) cQ sQ 7 = s7
        replace h9 := h9.keep hB h9l
        replace h4 := h4.keep hB h4l
        replace HS1 := Lib.hid (qd_below HS1.out hB)
        replace HS3 := Lib.hid (qd_below HS3.out hB)
        replace hBw := hBw.trans (hB.mono hBw.size)
        obtain ⟨xa2, xc2, hVe⟩ := hd10.1.slice
        generalize qs10.length = xn2 at hVe
        subst hVe
        have HSn : Hid (QD wr v1.heap.size (.slice xa2 xn2 xc2) RD) := Lib.hid ⟨qs10, hq10, hd10.lower hv0⟩
        have hne9 : gn < wr0.heap.size := h9l
        refine wpAnyT_one 11 0 (by kernel_rfl) rfl (by kernel_rfl) ?_
        intro K hK
        go_simp
        refine hK _ _ ⟨trivial, fun _ => trivial⟩ (fun hS => ?_)
        clear hK K hS
        refine wpAnyT_over (by kernel_rfl) ?_
        clear hkB hkP10 hkl hd10 hq10 c0 c1' c2' c3' c4 c5 c6
        cases hdv : doV r oq with
        | none =>
          have hst := HSp.out hdv
          have hbo : bo = false := by rw [HBO.out, hdv]; rfl
          subst hbo
          have hNj : ((N : Int) == (jx : Int)) = true := by rw [HNN.out, hst.2]; simp
          rw [← hst.1, ← HRS.out] at HS3
          clear hst hdv HNx HSp HBO HRD
          have x9 := h9.cell 0 _ rfl
          have x4 := h4.cell 0 _ rfl
          go_wp2_with fail
          refine (sameReader_any _ _ RS _ (qd_sb HS3.out HRz.out) (qd_sb HS1.out HRz.out)).mono ?_
          rintro e w6 ⟨rfl, hb6⟩
          have hBe := HBw0.out.trans ((hBw.trans (hb6.mono hBw.size)).mono HBw0.out.size)
          clear x9 x4
          go_wp2
          go_ret
          exact ⟨rfl, hBe⟩
        | some r2 =>
          have hbo : bo = true := by rw [HBO.out, hdv]; rfl
          subst hbo
          have hR2 : RD = r2 := by rw [HRD.out, hdv]; rfl
          have HF2 := Lib.hid (HNx.out r2 hdv)
          rw [hR2] at HSn
          clear hdv HNx HSp HBO HRD hR2
          have xp := hxp10.cell 0 _ rfl
          have x9 := h9.cell 0 _ rfl
          have f9 := h9.free 0
          go_wp2
          have h9n := h9.set 0 (.slice xa2 xn2 xc2)
          change Box _ gn #[.slice xa2 xn2 xc2] _ at h9n
          have hbe : Below gn wr (wr.setCell ⟨gn, 0, none⟩ (.slice xa2 xn2 xc2)) := (Below.refl _ _).setCell (p := ⟨gn, 0, none⟩) (Nat.le_refl _) _
          have h4n := h4.keep hbe h49
          have hBn := hBw.trans (hbe.mono hgv)
          have HS1n := Lib.hid (qd_set HS1.out h9 (.slice xa2 xn2 xc2))
          have HSnn := Lib.hid (qd_set HSn.out h9 (.slice xa2 xn2 xc2))
          go_roundw
          case rel => exact ⟨jx + 1, r2, xa2, xn2, xc2, by omega, by go_num, HF2, HSnn, h9n, h4n, HS1n, hBn⟩
          case measure => simp [intOf]; omega
      · exact ⟨fun _ => false, fun _ => undef, rfl, rfl, ⟨below_drewN (Below.refl _ _) 1, fun i hi => by cases hi⟩, fun h => by cases h⟩
      · decide
end Go.Proofs.Ytgimjfffdnopiaa

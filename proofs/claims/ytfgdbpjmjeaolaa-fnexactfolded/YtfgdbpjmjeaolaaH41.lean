/- Joined: M9e. -/
import Derived.Test.YtfgdbpjmjeaolaaH40
/- M9e -/
namespace Go.Proofs.Ytfgdbpjmjeaolaa
open Go.ChangeShapes Go.WideShapes Go.ChangeAt Go.RowKit
set_option linter.unusedVariables false

theorem set_at {α : Type} {qs : List α} {k : Nat} {x : α} (hk : k < qs.length) : (qs.set k x)[k]'(by rw [List.length_set]; exact hk) = x := List.getElem_set_self _
theorem OwnD.setU {w w2 : World} {B g n cap k : Nat} {qs : List (Sb × Value)} {s : Sb} {y : Value} (h : OwnD w B (.slice (Option.some ⟨g, 0, none⟩) n cap) (qs.set k (s, y))) (hB : B ≤ w.heap.size) (hn : n = qs.length) (hk : k < qs.length) (hb : Below w.heap.size w w2) (X : ByteArray) : OwnD (w2.setCell ⟨g, k * 3, none⟩ (.string X)) B (.slice (Option.some ⟨g, 0, none⟩) n cap) (qs.set k (⟨X, s.t, s.es⟩, y)) := by
  have hk2 : k < (qs.set k (s, y)).length := by rw [List.length_set]; exact hk
  have hs := (h.1.keep hb (Nat.le_refl _)).setF sbC_len (by rw [List.length_set]; exact hn) k 0 ((⟨X, s.t, s.es⟩ : Sb), y) (.string X) hk2 (by decide) (by rw [set_at hk]; rfl)
  have := h.putSub k hk2 ⟨X, s.t, s.es⟩ hB hb (.inl ⟨rfl, by rw [set_at hk]⟩) (gb_set1 g (k * 3) (.string X) (World.grownBy.refl _ _)) (by rw [set_at hk]; exact hs)
  rw [set_at hk, List.set_set] at this
  exact this
theorem OwnD.setT {w w2 : World} {B g n cap k : Nat} {qs : List (Sb × Value)} {s : Sb} {y : Value} (h : OwnD w B (.slice (Option.some ⟨g, 0, none⟩) n cap) (qs.set k (s, y))) (hB : B ≤ w.heap.size) (hn : n = qs.length) (hk : k < qs.length) (hb : Below w.heap.size w w2) (X : ByteArray) : OwnD (w2.setCell ⟨g, k * 3 + 1, none⟩ (.string X)) B (.slice (Option.some ⟨g, 0, none⟩) n cap) (qs.set k (⟨s.u, X, s.es⟩, y)) := by
  have hk2 : k < (qs.set k (s, y)).length := by rw [List.length_set]; exact hk
  have hs := (h.1.keep hb (Nat.le_refl _)).setF sbC_len (by rw [List.length_set]; exact hn) k 1 ((⟨s.u, X, s.es⟩ : Sb), y) (.string X) hk2 (by decide) (by rw [set_at hk]; rfl)
  have := h.putSub k hk2 ⟨s.u, X, s.es⟩ hB hb (.inl ⟨rfl, by rw [set_at hk]⟩) (gb_set1 g (k * 3 + 1) (.string X) (World.grownBy.refl _ _)) (by rw [set_at hk]; exact hs)
  rw [set_at hk, List.set_set] at this
  exact this
theorem OwnD.inE {w w2 : World} {B k : Nat} {v : Value} {qs : List (Sb × Value)} {s : Sb} {y : Value} (h : OwnD w B v (qs.set k (s, y))) (hk : k < qs.length) (es : List En) (hg : w.grownBy w2 y.ownBlock) (ho : OwnR 109 5 enC w2 B y es) : OwnD w2 B v (qs.set k (⟨s.u, s.t, es⟩, y)) := by
  have hk2 : k < (qs.set k (s, y)).length := by rw [List.length_set]; exact hk
  have := h.inplace k hk2 ⟨s.u, s.t, es⟩ (by rw [set_at hk]) (by rw [set_at hk]) (by rw [set_at hk]; exact hg) (by rw [set_at hk]; exact ho)
  rw [set_at hk, List.set_set] at this
  exact this
theorem OwnD.cellAt {w : World} {B g n cap k : Nat} {qs : List (Sb × Value)} {s : Sb} {y : Value} (h : OwnD w B (.slice (Option.some ⟨g, 0, none⟩) n cap) (qs.set k (s, y))) (hn : n = qs.length) (hk : k < qs.length) : w.cell? ⟨g, k * 3, none⟩ = Option.some (.string s.u) ∧ w.cell? ⟨g, k * 3 + 1, none⟩ = Option.some (.string s.t) ∧ w.cell? ⟨g, k * 3 + 2, none⟩ = Option.some y ∧ ∀ j, w.frozen? ⟨g, j, none⟩ = false := by
  have hk2 : k < (qs.set k (s, y)).length := by rw [List.length_set]; exact hk
  have hn2 : n = (qs.set k (s, y)).length := by rw [List.length_set]; exact hn
  refine ⟨?_, ?_, ?_, fun j => h.1.free hn2 j⟩
  · exact h.1.val sbC_len hn2 k 0 _ hk2 (by rw [set_at hk]; rfl)
  · exact h.1.val sbC_len hn2 k 1 _ hk2 (by rw [set_at hk]; rfl)
  · exact h.1.val sbC_len hn2 k 2 _ hk2 (by rw [set_at hk]; rfl)
theorem maS_set (ss : List Sb) (m : Int) (k : Nat) (hk : k < ss.length) : (maS (ss.take k) m ++ ss.drop k).set k (maS1 ss[k] (maN (ss.take k) m)) = maS (ss.take (k + 1)) m ++ ss.drop (k + 1) := by
  have hl : (maS (ss.take k) m).length = k := by rw [maS_len, List.length_take]; omega
  rw [List.set_append_right _ _ (by omega), hl, Nat.sub_self, maS_take ss m k hk, List.drop_eq_getElem_cons hk, List.set_cons_zero, List.append_assoc]
  rfl
theorem maS_at {qs : List (Sb × Value)} {ss : List Sb} {m : Int} {k : Nat} (h : qs.map Prod.fst = maS (ss.take k) m ++ ss.drop k) (hk : k < qs.length) (hk2 : k < ss.length) : qs[k].1 = ss[k] := by
  have := congrArg (fun l => l[k]?) h
  simp only [List.getElem?_map, List.getElem?_eq_getElem hk, Option.map_some] at this
  have hl : (maS (ss.take k) m).length = k := by rw [maS_len, List.length_take]; omega
  rw [List.getElem?_append_right (by omega), hl, Nat.sub_self, List.getElem?_drop, Nat.add_zero, List.getElem?_eq_getElem hk2] at this
  exact Option.some.inj this
/-- What is known of the numbers of the marks. -/
def MaOk (ss : List Sb) (m : Int) : Prop := (∀ k, k ≤ ss.length → 0 < maN (ss.take k) m ∧ maN (ss.take k) m ≤ 10000000000000) ∧ ∀ s ∈ ss, s.es.length ≤ 1048576
theorem maOk_one {ss : List Sb} (h1 : ss.length ≤ 1048576) (h2 : ∀ s ∈ ss, s.es.length ≤ 1048576) : MaOk ss 1 := by
  refine ⟨fun k hk => ?_, h2⟩
  have h3 := maN_le (ss.take k) 1 1048576 (fun s hs => h2 s (List.mem_of_mem_take hs))
  have hl : (ss.take k).length ≤ 1048576 := by rw [List.length_take]; omega
  have h4 : ((ss.take k).length : Int) * (2 + 5 * ((1048576 : Nat) : Int)) ≤ 1048576 * (2 + 5 * ((1048576 : Nat) : Int)) := Int.mul_le_mul_of_nonneg_right (by omega) (by omega)
  omega
/-- What markSubS leaves. -/
def OutMS (ss : List Sb) (m : Int) (B S : Nat) (v : Value) (w : World) (e : Ending) (w' : World) : Prop := ∃ qs, e = .returned (.int .i64 (maN ss m)) ∧ qs.map Prod.fst = maS ss m ∧ OwnD w' B v qs ∧ Mid B S w w'

set_option maxRecDepth 100000 in
set_option maxHeartbeats 1600000 in
theorem markSubS_any (v : Value) (ps : List (Sb × Value)) (ss : List Sb) (B S : Nat) (m : Int) (w : World) (h : OwnD w B v ps) (hps : ps.map Prod.fst = ss) (hB : B ≤ w.heap.size) (hv : ∀ b, v.ownBlock = some b → b < S) (hvs : ∀ p ∈ ps, ∀ b, p.2.ownBlock = some b → b < S) (hm : MaOk ss m) (hn : ss.length ≤ 1048576) :
    Calls Try.prog 60 #[v, .int .i64 m] w (OutMS ss m B S v w) := by
  have hpl : ps.length = ss.length := by have := congrArg List.length hps; simpa using this
  obtain ⟨va, vc, rfl⟩ := h.1.slice
  rw [hpl] at h hv ⊢
  have HM := Lib.hid (fun k w h0 h1 => markText_any k w h0 h1)
  have HO := Lib.hid h
  have HP := Lib.hid hps
  have HMa := Lib.hid hm
  have HV := Lib.hid hv
  have HVs : Hid (∀ y ∈ ps.map Prod.snd, ∀ b, y.ownBlock = some b → b < S) := Lib.hid (fun y hy => by obtain ⟨p, hp, rfl⟩ := List.mem_map.1 hy; exact hvs p hp)
  clear h hps hm hv hvs hpl
  go_enter Try.func60, Try.ntmps60
  go_wp2
  go_loopw [1, 5] (fun c i wr => ∃ (k : Nat) (qs : List (Sb × Value)), k ≤ ss.length ∧ i = .int .i64 (k : Int) ∧ c = .int .i64 (maN (ss.take k) m) ∧ Hid (qs.map Prod.fst = maS (ss.take k) m ++ ss.drop k) ∧ Hid (qs.map Prod.snd = ps.map Prod.snd) ∧ Hid (OwnD wr B (.slice va ss.length vc) qs) ∧ Hid (Mid B S w wr)) (fun _ i _ => ss.length - (intOf i).toNat)
  case atStart => exact ⟨0, ps, Nat.zero_le _, rfl, rfl, Lib.hid (by rw [HP.out]; rfl), Lib.hid rfl, HO, Lib.hid (Mid.refl _)⟩
  case round =>
    obtain ⟨k, qs, hk, rfl, rfl, HQ, HQ2, HD, HMi⟩ := hrel
    clear HO
    by_cases hlt : k < ss.length
    · have hql : qs.length = ss.length := by have := congrArg List.length HQ.out; rw [List.length_map, List.length_append, maS_len, List.length_take, List.length_drop] at this; omega
      have hkq : k < qs.length := by omega
      obtain ⟨g, hva, hg1, hg2, hgn⟩ := OwnR.form HD.out.1 (by omega)
      subst hva
      have hPs : qs[k].1 = ss[k] := maS_at HQ.out hkq hlt
      obtain ⟨ya, yc, hyv⟩ := (HD.out.2.1 _ (List.getElem_mem hkq)).slice
      rw [hPs] at hyv
      have HD0 : Hid (OwnD wr B (.slice (some ⟨g, 0, none⟩) ss.length vc) (qs.set k (ss[k], .slice ya ss[k].es.length yc))) := Lib.hid (by
        have e : (ss[k], Value.slice ya ss[k].es.length yc) = qs[k] := Prod.ext hPs.symm hyv.symm
        rw [e, List.set_getElem_self]
        exact HD.out)
      have HYb : Hid (∀ b, Value.ownBlock (.slice ya ss[k].es.length yc) = some b → b < S) := Lib.hid (fun b hb => HVs.out _ (by rw [← HQ2.out]; exact List.mem_map.2 ⟨_, List.getElem_mem hkq, hyv⟩) b hb)
      have HQ2n : Hid (∀ s : Sb, (qs.set k (s, Value.slice ya ss[k].es.length yc)).map Prod.snd = ps.map Prod.snd) := Lib.hid (fun s => by
        rw [List.map_set, HQ2.out]
        have e : Value.slice ya ss[k].es.length yc = (ps.map Prod.snd)[k]'(by rw [← HQ2.out, List.length_map]; exact hkq) := by
          rw [← hyv]
          have : (qs.map Prod.snd)[k]'(by rw [List.length_map]; exact hkq) = qs[k].2 := by simp
          rw [← this]
          simp only [HQ2.out]
        rw [e, List.set_getElem_self])
      have HSt := Lib.hid (maS_set ss m k hlt)
      have HQn : Hid (∀ y : Value, (qs.set k (maS1 ss[k] (maN (ss.take k) m), y)).map Prod.fst = maS (ss.take (k + 1)) m ++ ss.drop (k + 1)) := Lib.hid (fun y => by rw [List.map_set, HQ.out, HSt.out])
      have HN := Lib.hid (maN_take ss m k hlt)
      have hcb := HMa.out.1 k (by omega)
      have hes := HMa.out.2 _ (List.getElem_mem hlt)
      have hBS : g < S := HV.out g rfl
      obtain ⟨c, hc⟩ : ∃ c, c = maN (ss.take k) m := ⟨_, rfl⟩
      rw [← hc] at hcb HQn HN ⊢
      obtain ⟨Y, hYe⟩ : ∃ Y, Y = ss[k] := ⟨_, rfl⟩
      rw [← hYe] at HD0 HYb HQ2n HQn HN hes
      have HgN := Lib.hid hgn
      have HkQ := Lib.hid hkq
      obtain ⟨hcb0, hcb1⟩ := hcb
      clear hc hYe hql hkq hPs hyv HD HSt hgn HQ HQ2
      have hBw : B ≤ wr.heap.size := Nat.le_trans hB HMi.out.1.size
      go_wp2_with fail
      refine (HM.out c _ (by omega) (by omega)).mono ?_
      rintro e w1 ⟨rfl, hb1⟩
      obtain ⟨X0, hX0⟩ : ∃ X, X = mtX c := ⟨_, rfl⟩
      rw [← hX0]
      have HX0 := Lib.hid hX0
      have HD1k := Lib.hid (HD0.out.keep hb1 (Nat.le_refl _))
      obtain ⟨e0, e1, e2, fz⟩ := HD1k.out.cellAt HgN.out HkQ.out
      have HD1 := Lib.hid (HD0.out.setU hBw HgN.out HkQ.out hb1 X0)
      have HM1 := Lib.hid (((HMi.out.trans (Mid.below hb1 hBw)).setCell ⟨g, k * 3, none⟩ (.string X0) hg1 hBS))
      have hs1 : B ≤ (w1.setCell ⟨g, k * 3, none⟩ (.string X0)).heap.size := Nat.le_trans hB HM1.out.1.size
      clear hX0 hb1 HD0 HMi
      go_wp2_with fail
      clear e0 e1 e2 fz
      refine (HM.out (c + 1) _ (by omega) (by omega)).mono ?_
      rintro e w2 ⟨rfl, hb2⟩
      obtain ⟨X1, hX1⟩ : ∃ X, X = mtX (c + 1) := ⟨_, rfl⟩
      rw [← hX1]
      have HX1 := Lib.hid hX1
      have HD2k := Lib.hid (HD1.out.keep hb2 (Nat.le_refl _))
      obtain ⟨e0, e1, e2, fz⟩ := HD2k.out.cellAt HgN.out HkQ.out
      have HD2 := Lib.hid (HD1.out.setT hs1 HgN.out HkQ.out hb2 X1)
      have HM2 := Lib.hid (((HM1.out.trans (Mid.below hb2 hs1)).setCell ⟨g, k * 3 + 1, none⟩ (.string X1) hg1 hBS))
      have hs2 : B ≤ (w2.setCell ⟨g, k * 3 + 1, none⟩ (.string X1)).heap.size := Nat.le_trans hB HM2.out.1.size
      obtain ⟨_, _, f2, _⟩ := HD2.out.cellAt HgN.out HkQ.out
      clear hX1 hb2 HD1 HM1 HD1k HD2k hs1
      go_wp2_with fail
      clear e0 e1 e2 fz f2
      have HE : Hid (OwnR 109 5 enC (w2.setCell ⟨g, k * 3 + 1, none⟩ (.string X1)) B (.slice ya Y.es.length yc) Y.es) := Lib.hid (HD2.out.rowAt HkQ.out)
      generalize w2.setCell ⟨g, k * 3 + 1, none⟩ (.string X1) = W2 at HD2 HM2 hs2 HE ⊢
      refine (markEntryS_any _ Y.es B (c + 1 + 1) W2 HE.out (by omega) (by omega) hes).mono ?_
      rintro e w3 ⟨rfl, ho3, hg3⟩
      have HD3 := Lib.hid (HD2.out.inE HkQ.out _ hg3 ho3)
      have HM3 : Hid (Mid B S w w3) := Lib.hid (HM2.out.trans (Mid.gb hg3 hs2 (fun b hb => ⟨by have := World.ownsRow.lt HE.out b hb; omega, HYb.out b hb⟩)))
      have HZ : Hid (c + 1 + 1 + 5 * (Y.es.length : Int) = maN (ss.take (k + 1)) m) := Lib.hid (by rw [HN.out]; rfl)
      have HF : Hid (qs.set k (((⟨X0, X1, maEs Y.es.length (c + 1 + 1)⟩ : Sb)), Value.slice ya Y.es.length yc) = qs.set k (maS1 Y c, Value.slice ya Y.es.length yc)) := Lib.hid (by rw [HX0.out, HX1.out]; rfl)
      have HD4 : Hid (OwnD w3 B (.slice (some ⟨g, 0, none⟩) ss.length vc) (qs.set k (maS1 Y c, Value.slice ya Y.es.length yc))) := Lib.hid (by rw [← HF.out]; exact HD3.out)
      have HZ2 := Lib.hid (HMa.out.1 (k + 1) (by omega))
      obtain ⟨c2, hc2⟩ : ∃ c2, c2 = maN (ss.take (k + 1)) m := ⟨_, rfl⟩
      rw [HZ.out]
      have hz0 := HZ2.out.1
      have hz1 := HZ2.out.2
      rw [← hc2] at hz0 hz1 ⊢
      have HC2 := Lib.hid hc2
      clear hc2
      clear ho3 hg3 HD3 HE HM2 HD2 hs2
      go_wp2
      go_roundw
      case rel => exact ⟨k + 1, _, by omega, by go_num, by rw [HC2.out], Lib.hid (HQn.out _), Lib.hid (HQ2n.out _), HD4, HM3⟩
      case measure => simp [intOf]; omega
    · have hke : k = ss.length := by omega
      have HE : Hid (qs.map Prod.fst = maS ss m) := Lib.hid (by have := HQ.out; rw [hke, List.take_length, List.drop_length, List.append_nil] at this; exact this)
      have HZ : Hid (maN (ss.take k) m = maN ss m) := Lib.hid (by rw [hke, List.take_length])
      clear hke HQ
      generalize maN (ss.take k) m = c at HZ ⊢
      go_wp2
      go_ret
      exact ⟨qs, ret_int HZ.out, HE.out, HD.out, HMi.out⟩
theorem maS_get (ss : List Sb) (m : Int) (k : Nat) (h : k < ss.length) (h2 : k < (maS ss m).length) : (maS ss m)[k] = maS1 ss[k] (maN (ss.take k) m) := by
  have e : maS ss m = maS (ss.take k) m ++ maS (ss.drop k) (maN (ss.take k) m) := by rw [← maS_app, List.take_append_drop]
  have hl : (maS (ss.take k) m).length = k := by rw [maS_len, List.length_take]; omega
  have e2 : (maS ss m)[k]? = some (maS1 ss[k] (maN (ss.take k) m)) := by
    rw [e, List.getElem?_append_right (by omega), hl, Nat.sub_self, List.drop_eq_getElem_cons h]
    rfl
  rw [List.getElem?_eq_getElem h2] at e2
  exact Option.some.inj e2

set_option maxRecDepth 100000 in
set_option maxHeartbeats 1600000 in
theorem heldSubS_any (v : Value) (ss : List Sb) (m : Int) (w : World) (h : SbAt w w.heap.size v (maS ss m)) (hm : MaOk ss m) (hn : ss.length ≤ 1048576) :
    Calls Try.prog 61 #[v, .int .i64 m] w fun e w' => e = .returned (.int .i64 (maN ss m)) ∧ Below w.heap.size w w' := by
  have HI := Lib.hid h
  obtain ⟨a, cap, hv, hl, hmx, hc⟩ := h.raw
  rw [maS_len] at hv hl
  subst hv
  unfold maxLen at hmx
  have HM := Lib.hid (fun k w h0 h1 => markText_any k w h0 h1)
  have HMa := Lib.hid hm
  clear hc h hm
  go_enter Try.func61, Try.ntmps61
  go_wp2
  go_loopw [1, 5] (fun c i wr => ∃ k : Nat, k ≤ ss.length ∧ i = .int .i64 (k : Int) ∧ c = .int .i64 (maN (ss.take k) m) ∧ Below w.heap.size w wr) (fun _ i _ => ss.length - (intOf i).toNat)
  case atStart => exact ⟨0, Nat.zero_le _, rfl, rfl, Below.refl _ _⟩
  case round =>
    obtain ⟨k, hk, rfl, rfl, hB⟩ := hrel
    by_cases hlt : k < ss.length
    · obtain ⟨a', cap', hv, q1, q2, hc⟩ := (HI.out.below hB).raw
      rw [maS_len] at hv
      clear q1 q2
      cases hv
      have hlt2 : k < (maS ss m).length := by rw [maS_len]; exact hlt
      obtain ⟨b, off, rfl, hb, hr⟩ := hc k hlt2
      obtain ⟨y, c0, c1, c2, hy, s0, s1⟩ := hr k hlt2
      clear s0 s1
      rw [maS_get ss m k hlt hlt2] at c0 c1 hy
      have HN := Lib.hid (maN_take ss m k hlt)
      obtain ⟨hcb0, hcb1⟩ := HMa.out.1 k (by omega)
      have hes := HMa.out.2 _ (List.getElem_mem hlt)
      obtain ⟨c, hcc⟩ : ∃ c, c = maN (ss.take k) m := ⟨_, rfl⟩
      rw [← hcc] at c0 c1 hy hcb0 hcb1 HN ⊢
      obtain ⟨Y, hYe⟩ : ∃ Y, Y = ss[k] := ⟨_, rfl⟩
      rw [← hYe] at c0 c1 hy hes HN
      unfold maS1 at c0 c1 hy
      simp only at c0 c1 hy
      obtain ⟨X0, hX0⟩ : ∃ X, X = mtX c := ⟨_, rfl⟩
      obtain ⟨X1, hX1⟩ : ∃ X, X = mtX (c + 1) := ⟨_, rfl⟩
      rw [← hX0] at c0
      rw [← hX1] at c1
      have HT0 := Lib.hid (fun w => HM.out c w (by omega) (by omega))
      have HT1 := Lib.hid (fun w => HM.out (c + 1) w (by omega) (by omega))
      rw [← hX0] at HT0
      rw [← hX1] at HT1
      have hbw : b < wr.heap.size := by have := hB.size; omega
      have HY := Lib.hid (hy.mono hB.size)
      obtain ⟨ya, yc, hyv⟩ := hy.1.slice
      rw [maEs_len] at hyv
      subst hyv
      clear hr hc hcc hX0 hX1 hYe hlt2 hy
      have HK : Hid (∀ w1 w2 : World, wr.heap.size ≤ w1.heap.size → Below w1.heap.size w1 w2 → (w1.cell? ⟨b, off + k * 3, none⟩ = some (.string X0) ∧ w1.cell? ⟨b, off + k * 3 + 1, none⟩ = some (.string X1) ∧ w1.cell? ⟨b, off + k * 3 + 2, none⟩ = some (.slice ya Y.es.length yc) ∧ EnAt w1 wr.heap.size (.slice ya Y.es.length yc) (maEs Y.es.length (c + 1 + 1))) → (w2.cell? ⟨b, off + k * 3, none⟩ = some (.string X0) ∧ w2.cell? ⟨b, off + k * 3 + 1, none⟩ = some (.string X1) ∧ w2.cell? ⟨b, off + k * 3 + 2, none⟩ = some (.slice ya Y.es.length yc) ∧ EnAt w2 wr.heap.size (.slice ya Y.es.length yc) (maEs Y.es.length (c + 1 + 1)))) := Lib.hid (fun w1 w2 hs hb1 h => by
        have kc : ∀ o x, w1.cell? ⟨b, o, none⟩ = some x → w2.cell? ⟨b, o, none⟩ = some x := fun o x h => by rw [hb1.cell (p := ⟨b, o, none⟩) (show b < w1.heap.size by omega)]; exact h
        exact ⟨kc _ _ h.1, kc _ _ h.2.1, kc _ _ h.2.2.1, h.2.2.2.below (hb1.mono hs)⟩)
      have hE0 : (wr.drew.cell? ⟨b, off + k * 3, none⟩ = some (.string X0) ∧ wr.drew.cell? ⟨b, off + k * 3 + 1, none⟩ = some (.string X1) ∧ wr.drew.cell? ⟨b, off + k * 3 + 2, none⟩ = some (.slice ya Y.es.length yc) ∧ EnAt wr.drew wr.heap.size (.slice ya Y.es.length yc) (maEs Y.es.length (c + 1 + 1))) := ⟨c0, c1, c2, HY.out⟩
      go_wp2
      refine wp_region_T (fun w' => (w'.cell? ⟨b, off + k * 3, none⟩ = some (.string X0) ∧ w'.cell? ⟨b, off + k * 3 + 1, none⟩ = some (.string X1) ∧ w'.cell? ⟨b, off + k * 3 + 2, none⟩ = some (.slice ya Y.es.length yc) ∧ EnAt w' wr.heap.size (.slice ya Y.es.length yc) (maEs Y.es.length (c + 1 + 1)))) (fun _ => True) 7 (by kernel_rfl) 8 rfl ?_
      refine wpAnyT_takesA (md := .any) 2 (by kernel_rfl) (by intro d v c a w h; cases d <;> exact h) [0, 1, 2, 3, 4, 5] _ _ _ (by decide) (by kernel_rfl) ⟨hE0, fun _ => trivial⟩ ?_
      simp only [pick, List.filterMap_cons, List.filterMap_nil, List.getElem?_cons_zero, List.getElem?_cons_succ]
      refine wpIf_step (.slice (some ⟨b, off, none⟩) ss.length cap) (by kernel_rfl) (fun w hw => by go_simp) ?_
      refine wpIf_step (.int .i64 (k : Int)) (by kernel_rfl) (fun w hw => by go_simp) ?_
      refine wpIf_step (.pointer (some ⟨b, off + k * 3, none⟩)) (by kernel_rfl) (fun w hw => by go_simp) ?_
      refine wpIf_step (.pointer (some ⟨b, off + k * 3, none⟩)) (by kernel_rfl) (fun w hw => by go_simp) ?_
      refine wpIf_step (.string X0) (by kernel_rfl) (fun w hw => by have e0 := hw.1; go_simp) ?_
      refine wpIf_step (.int .i64 (c)) (by kernel_rfl) (fun w hw => by go_simp) ?_
      refine wpIf_nil (fun hS => ?_)
      clear hS
      refine wpAnyT_one 6 1 (by kernel_rfl) rfl (by kernel_rfl) (fun K hK => ?_)
      go_simp
      refine (HT0.out wr.drew).mono ?_
      rintro e w1 ⟨rfl, hb0⟩
      have hB0 := hB.drew.trans (hb0.mono hB.size)
      have hEn0 := HK.out wr.drew w1 (Nat.le_refl _) hb0 hE0
      have hsz0 : wr.heap.size ≤ w1.heap.size := by have h9 := hb0.size; simp only [World.drew] at h9; omega
      refine hK _ _ ⟨hEn0, fun _ => trivial⟩ (fun hS => ?_)
      clear hK K hS
      refine wpAnyT_one 7 0 (by kernel_rfl) rfl (by kernel_rfl) (fun K hK => ?_)
      go_simp
      refine hK _ _ ⟨hEn0, fun _ => trivial⟩ (fun hS => ?_)
      clear hK K hS
      refine wpAnyT_over (by kernel_rfl) ?_
      clear hE0 hb0
      clear c0 c1 c2
      have hE1 : (w1.drew.cell? ⟨b, off + k * 3, none⟩ = some (.string X0) ∧ w1.drew.cell? ⟨b, off + k * 3 + 1, none⟩ = some (.string X1) ∧ w1.drew.cell? ⟨b, off + k * 3 + 2, none⟩ = some (.slice ya Y.es.length yc) ∧ EnAt w1.drew wr.heap.size (.slice ya Y.es.length yc) (maEs Y.es.length (c + 1 + 1))) := hEn0
      go_wp2
      refine wp_region_T (fun w' => (w'.cell? ⟨b, off + k * 3, none⟩ = some (.string X0) ∧ w'.cell? ⟨b, off + k * 3 + 1, none⟩ = some (.string X1) ∧ w'.cell? ⟨b, off + k * 3 + 2, none⟩ = some (.slice ya Y.es.length yc) ∧ EnAt w' wr.heap.size (.slice ya Y.es.length yc) (maEs Y.es.length (c + 1 + 1)))) (fun _ => True) 7 (by kernel_rfl) 8 rfl ?_
      refine wpAnyT_takesA (md := .any) 2 (by kernel_rfl) (by intro d v c a w h; cases d <;> exact h) [0, 1, 2, 3, 4, 5] _ _ _ (by decide) (by kernel_rfl) ⟨hE1, fun _ => trivial⟩ ?_
      simp only [pick, List.filterMap_cons, List.filterMap_nil, List.getElem?_cons_zero, List.getElem?_cons_succ]
      refine wpIf_step (.slice (some ⟨b, off, none⟩) ss.length cap) (by kernel_rfl) (fun w hw => by go_simp) ?_
      refine wpIf_step (.int .i64 (k : Int)) (by kernel_rfl) (fun w hw => by go_simp) ?_
      refine wpIf_step (.pointer (some ⟨b, off + k * 3, none⟩)) (by kernel_rfl) (fun w hw => by go_simp) ?_
      refine wpIf_step (.pointer (some ⟨b, off + k * 3 + 1, none⟩)) (by kernel_rfl) (fun w hw => by go_simp) ?_
      refine wpIf_step (.string X1) (by kernel_rfl) (fun w hw => by have e0 := hw.2.1; go_simp) ?_
      refine wpIf_step (.int .i64 (c + 1)) (by kernel_rfl) (fun w hw => by go_simp) ?_
      refine wpIf_nil (fun hS => ?_)
      clear hS
      refine wpAnyT_one 6 1 (by kernel_rfl) rfl (by kernel_rfl) (fun K hK => ?_)
      go_simp
      refine (HT1.out w1.drew).mono ?_
      rintro e w2 ⟨rfl, hb1⟩
      have hB1 := hB0.drew.trans (hb1.mono hB0.size)
      have hEn1 := HK.out w1.drew w2 (hsz0) hb1 hE1
      have hsz1 : wr.heap.size ≤ w2.heap.size := by have h9 := hb1.size; simp only [World.drew] at h9; omega
      refine hK _ _ ⟨hEn1, fun _ => trivial⟩ (fun hS => ?_)
      clear hK K hS
      refine wpAnyT_one 7 0 (by kernel_rfl) rfl (by kernel_rfl) (fun K hK => ?_)
      go_simp
      refine hK _ _ ⟨hEn1, fun _ => trivial⟩ (fun hS => ?_)
      clear hK K hS
      refine wpAnyT_over (by kernel_rfl) ?_
      clear hE1 hb1
      obtain ⟨c0, c1, c2, hyE⟩ := hEn1
      have HYE := Lib.hid (hyE.mono hsz1)
      clear hyE
      have HHe := Lib.hid (fun w h => heldEntryS_any (.slice ya Y.es.length yc) Y.es.length (c + 1 + 1) w h (by omega) (by omega) hes)
      go_wp2_with fail
      refine (HHe.out _ HYE.out).mono ?_
      rintro e w3 ⟨rfl, hb3⟩
      have hB3 := hB1.trans (hb3.mono hB1.size)
      have HZ : Hid (c + 1 + 1 + 5 * (Y.es.length : Int) = maN (ss.take (k + 1)) m) := Lib.hid (by rw [HN.out]; rfl)
      have HZ2 := Lib.hid (HMa.out.1 (k + 1) (by omega))
      obtain ⟨c2, hc2⟩ : ∃ c2, c2 = maN (ss.take (k + 1)) m := ⟨_, rfl⟩
      rw [HZ.out]
      obtain ⟨hz0, hz1⟩ := HZ2.out
      rw [← hc2] at hz0 hz1 ⊢
      have HC2 := Lib.hid hc2
      clear hc2 hb3 hcb0 hcb1
      have hneg : decide (c2 < 0) = false := decide_eq_false (by omega)
      go_wp2
      go_roundw
      case rel => exact ⟨k + 1, by omega, by go_num, by rw [HC2.out], hB3⟩
      case measure => simp [intOf]; omega
    · have hke : k = ss.length := by omega
      have HZ : Hid (maN (ss.take k) m = maN ss m) := Lib.hid (by rw [hke, List.take_length])
      clear hke
      generalize maN (ss.take k) m = c at HZ ⊢
      go_wp2
      go_ret
      exact ⟨ret_int HZ.out, hB⟩

theorem maN_pos {ss : List Sb} {m : Int} (hm : MaOk ss m) : 0 < maN ss m ∧ maN ss m ≤ 10000000000000 := by
  have := hm.1 ss.length (Nat.le_refl _)
  rw [List.take_length] at this
  exact this

set_option maxRecDepth 100000 in
set_option maxHeartbeats 1600000 in
theorem markReader_any (v : Value) (ps : List (Sb × Value)) (ss : List Sb) (B S : Nat) (m : Int) (w : World) (h : OwnD w B v ps) (hps : ps.map Prod.fst = ss) (hB : B ≤ w.heap.size) (hS : S ≤ w.heap.size) (hv : ∀ b, v.ownBlock = some b → b < S) (hvs : ∀ p ∈ ps, ∀ b, p.2.ownBlock = some b → b < S) (hm : MaOk ss m) (hn : ss.length ≤ 1048576) :
    Calls Try.prog 21 #[.agg #[v], .int .i64 m] w (OutMS ss m B S v w) := by
  have hb0 : Below w.heap.size w (w.alloc (.cells #[v] 26)) := (Below.refl _ _).alloc (Nat.le_refl _) _
  have HC := Lib.hid (markSubS_any v ps ss B S m (w.alloc (.cells #[v] 26)) (h.keep hb0 (Nat.le_refl _)) hps (Nat.le_trans hB hb0.size) hv hvs hm hn)
  unfold OutMS at HC
  have hx := Box.new w #[v] 26
  have x0 : (w.alloc (.cells #[v] 26)).cell? ⟨w.heap.size, 0, none⟩ = some v := hx.cell 0 _ rfl
  have HM0 : Hid (Mid B S w (w.alloc (.cells #[v] 26))) := Lib.hid (Mid.below hb0 hB)
  obtain ⟨va, vc, rfl⟩ := h.1.slice
  clear h hps hv hvs hm hb0 hx
  go_enter Try.func21, Try.ntmps21
  go_wp2_with fail
  refine HC.out.mono ?_
  rintro e w1 ⟨qs, rfl, hq, hd, hmi⟩
  have HQ := Lib.hid hq
  have HD := Lib.hid hd
  have HMi := Lib.hid (HM0.out.trans hmi)
  clear hq hd hmi x0 HC HM0
  obtain ⟨c, hc⟩ : ∃ c, c = maN ss m := ⟨_, rfl⟩
  rw [← hc]
  have HCe := Lib.hid hc
  clear hc
  go_wp2
  go_ret
  exact ⟨qs, ret_int HCe.out, HQ.out, HD.out, HMi.out⟩

set_option maxRecDepth 100000 in
set_option maxHeartbeats 1600000 in
theorem heldReader_any (v : Value) (ss : List Sb) (m : Int) (w : World) (h : SbAt w w.heap.size v (maS ss m)) (hm : MaOk ss m) (hn : ss.length ≤ 1048576) :
    Calls Try.prog 22 #[.agg #[v], .int .i64 m] w fun e w' => e = .returned (.int .i64 (maN ss m)) ∧ Below w.heap.size w w' := by
  have hb0 : Below w.heap.size w (w.alloc (.cells #[v] 26)) := (Below.refl _ _).alloc (Nat.le_refl _) _
  have HC := Lib.hid (heldSubS_any v ss m (w.alloc (.cells #[v] 26)) ((h.below hb0).mono hb0.size) hm hn)
  have hx := Box.new w #[v] 26
  have x0 : (w.alloc (.cells #[v] 26)).cell? ⟨w.heap.size, 0, none⟩ = some v := hx.cell 0 _ rfl
  obtain ⟨hz0, hz1⟩ := maN_pos hm
  obtain ⟨a, cap, rfl, _, _, _⟩ := h.raw
  rw [maS_len] at *
  clear h hm hx
  generalize maN ss m = c at HC hz0 hz1 ⊢
  have hneg : decide (c < 0) = false := decide_eq_false (by omega)
  go_enter Try.func22, Try.ntmps22
  go_wp2_with fail
  refine HC.out.mono ?_
  rintro e w1 ⟨rfl, hb1⟩
  have hB1 := hb0.trans (hb1.mono hb0.size)
  clear hb1 hb0 x0 HC
  go_wp2
  go_ret
  exact ⟨rfl, hB1⟩
end Go.Proofs.Ytfgdbpjmjeaolaa

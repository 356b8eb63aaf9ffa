/- Joined: W9zw. -/
import Derived.Test.YtgimjfffdnopiaaH38
import Derived.Test.YtgimjfffdnopiaaH40
/- W9zw -/
namespace Go.Proofs.Ytgimjfffdnopiaa
open Go.ChangeShapes Go.WideShapes Go.ChangeAt Go.RowKit
set_option linter.unusedVariables false

/-- Rows of other types lie in other blocks. -/
theorem own_apart {α β : Type} {k k' : Nat} {C : α → List Value} {D : β → List Value} {e e' : TypeId} {w : World} {B B' : Nat} {v v' : Value} {l : List α} {l' : List β} (he : e ≠ e') (h : OwnR e k C w B v l) (h' : OwnR e' k' D w B' v' l') : v.ownBlock = none ∨ v.ownBlock ≠ v'.ownBlock := by
  rcases h.2 with ⟨rfl, _⟩ | ⟨g, cap, cur, rfl, _, hg, _⟩
  · exact .inl rfl
  · right
    rcases h'.2 with ⟨rfl, _⟩ | ⟨g', cap', cur', rfl, _, hg', _⟩
    · intro h2; cases h2
    · intro h2
      have : g = g' := by simpa [Value.ownBlock] using h2
      subst this
      rw [hg] at hg'
      have h3 := Option.some.inj hg'
      injection h3 with _ h4
      exact he h4
/-- One more feed, with a list of its own, behind the others. -/
theorem OwnD.snoc {w w' : World} {B : Nat} {v v' y : Value} {qs : List (Sb × Value)} {s : Sb} (h : OwnD w B v qs) (hy : OwnR 103 5 enC w B y s.es) (hyn : ∀ p ∈ qs, p.2.ownBlock = none ∨ p.2.ownBlock ≠ y.ownBlock) (hg : w.grownBy w' v.ownBlock) (ho : OwnR 99 3 sbC w' B v' (qs ++ [(s, y)])) : OwnD w' B v' (qs ++ [(s, y)]) := by
  have hk : ∀ z l, OwnR 103 5 enC w B z l → OwnR 103 5 enC w' B z l := fun z l hz => by
    refine World.ownsRow.kept hz hg ?_
    exact own_apart (by decide) hz h.1
  have hall : ∀ p ∈ qs ++ [(s, y)], OwnR 103 5 enC w' B p.2 p.1.es := fun p hp => by
    rcases List.mem_append.1 hp with h1 | h1
    · exact hk _ _ (h.2.1 p h1)
    · obtain rfl : p = (s, y) := by simpa using h1
      exact hk _ _ hy
  refine ⟨ho, hall, ?_⟩
  unfold ApartD
  rw [List.pairwise_cons]
  refine ⟨fun c hc => ?_, ?_⟩
  · obtain ⟨p, hp, rfl⟩ := List.mem_map.1 hc
    exact own_apart (by decide) ho (hall p hp)
  · rw [List.map_append, List.pairwise_append]
    refine ⟨(List.pairwise_cons.1 h.2.2).2, by simp, fun a ha b hb => ?_⟩
    obtain ⟨p, hp, rfl⟩ := List.mem_map.1 ha
    obtain rfl : b = y.ownBlock := by simpa using hb
    exact hyn p hp

/-- What l9Copy leaves. -/
def OutCp (ss : List Sb) (w : World) (e : Ending) (w' : World) : Prop := ∃ v qs, e = .returned (.agg #[v]) ∧ qs.map Prod.fst = ss ∧ OwnD w' w.heap.size v qs ∧ Below w.heap.size w w'

set_option maxRecDepth 100000 in
set_option maxHeartbeats 3000000 in
theorem l9Copy_any (v : Value) (ss : List Sb) (w : World) (h : SbAt w w.heap.size v ss) (hn : ss.length ≤ 1000) (hns : ∀ s ∈ ss, s.es.length ≤ 1000) :
    Calls Try.prog 163 #[.agg #[v]] w (OutCp ss w) := by
  have HI := Lib.hid h
  have HNS := Lib.hid hns
  obtain ⟨a, cap, rfl, hl, hm, hc⟩ := h.raw
  unfold maxLen at hm
  clear hc h hns
  have hb0 : Below w.heap.size w (((w.alloc (.cells #[.slice a ss.length cap] 28)).alloc (.cells #[.slice none 0 0] 28)).alloc (.cells #[.slice none 0 0] 28)) := (((Below.refl _ _).alloc (Nat.le_refl _) _).alloc (by simp) _).alloc (by simp; omega) _
  have hR0 := ((Box.new w #[.slice a ss.length cap] 28).alloc (.cells #[.slice none 0 0] 28)).alloc (.cells #[.slice none 0 0] 28)
  have hZ0 : Box (((w.alloc (.cells #[.slice a ss.length cap] 28)).alloc (.cells #[.slice none 0 0] 28)).alloc (.cells #[.slice none 0 0] 28)) (w.heap.size + 1) #[.slice none 0 0] 28 := by
    have := (Box.new (w.alloc (.cells #[.slice a ss.length cap] 28)) #[.slice none 0 0] 28).alloc (.cells #[.slice none 0 0] 28)
    simpa using this
  have hO0 : Box (((w.alloc (.cells #[.slice a ss.length cap] 28)).alloc (.cells #[.slice none 0 0] 28)).alloc (.cells #[.slice none 0 0] 28)) (w.heap.size + 1 + 1) #[.slice none 0 0] 28 := by
    have := Box.new ((w.alloc (.cells #[.slice a ss.length cap] 28)).alloc (.cells #[.slice none 0 0] 28)) #[.slice none 0 0] 28
    simpa using this
  have hs0 : (((w.alloc (.cells #[.slice a ss.length cap] 28)).alloc (.cells #[.slice none 0 0] 28)).alloc (.cells #[.slice none 0 0] 28)).heap.size = w.heap.size + 3 := by simp
  have HD0 : Hid (OwnD (((w.alloc (.cells #[.slice a ss.length cap] 28)).alloc (.cells #[.slice none 0 0] 28)).alloc (.cells #[.slice none 0 0] 28)) (w.heap.size + 3) (.slice none 0 0) []) := Lib.hid ⟨OwnR.nil _ _ _, (fun p hp => by cases hp), by unfold ApartD; simp⟩
  go_enter Try.func163, Try.ntmps163
  go_wp2
  generalize (((w.alloc (.cells #[.slice a ss.length cap] 28)).alloc (.cells #[.slice none 0 0] 28)).alloc (.cells #[.slice none 0 0] 28)) = W0 at hb0 hR0 hZ0 hO0 hs0 HD0 ⊢
  go_loopw [4] (fun i wr => ∃ (k : Nat) (ov : Value) (qs : List (Sb × Value)), k ≤ ss.length ∧ i = .int .i64 (k : Int) ∧ Hid (qs.map Prod.fst = ss.take k) ∧ Box wr w.heap.size #[.slice a ss.length cap] 28 ∧ Box wr (w.heap.size + 1) #[.slice none 0 0] 28 ∧ Box wr (w.heap.size + 1 + 1) #[ov] 28 ∧ Hid (OwnD wr (w.heap.size + 3) ov qs) ∧ Below w.heap.size w wr ∧ w.heap.size + 3 ≤ wr.heap.size) (fun i _ => ss.length - (intOf i).toNat)
  case atStart => exact ⟨0, _, [], Nat.zero_le _, rfl, Lib.hid rfl, hR0, hZ0, hO0, HD0, hb0, by omega⟩
  case round =>
    obtain ⟨k, ov, qs, hk, rfl, HQ, hR, hZ, hO, HD, hB, hsr⟩ := hrel
    clear hb0 hR0 hZ0 hO0 hs0 HD0
    have f0 : wr.cell? ⟨w.heap.size, 0, none⟩ = some (.slice a ss.length cap) := hR.cell 0 _ rfl
    obtain ⟨oa, oc, rfl⟩ := HD.out.1.slice
    by_cases hlt : k < ss.length
    · obtain ⟨a', cap', hv, _, _, hc⟩ := (HI.out.below hB).raw
      cases hv
      obtain ⟨b, off, rfl, hb, hr⟩ := hc k hlt
      obtain ⟨y, c0, c1, c2, hy, s0, s1⟩ := hr k hlt
      have hes := HNS.out _ (List.getElem_mem hlt)
      have HQn : Hid (∀ z, (qs ++ [(ss[k], z)]).map Prod.fst = ss.take (k + 1)) := Lib.hid (fun z => by rw [List.map_append, HQ.out, List.take_succ_eq_append_getElem hlt]; rfl)
      obtain ⟨ya, yc, rfl⟩ := hy.1.slice
      obtain ⟨P, hP⟩ : ∃ P, P = ss[k] := ⟨_, rfl⟩
      rw [← hP] at c0 c1 c2 hy hes HQn
      have HQl : Hid (qs.length = k) := Lib.hid (by have := congrArg List.length HQ.out; simpa [hk] using this)
      have HY : Hid (RecAt 5 enC ((wr.alloc (.cells #[.string P.u, .string P.t, .slice ya P.es.length yc] 99)).alloc (.cells #[] 103)) wr.heap.size (.slice ya P.es.length yc) P.es) := Lib.hid (((hy.mono hB.size).1).below (((Below.refl _ _).alloc (Nat.le_refl _) _).alloc (by simp) _))
      have hw1 : (wr.alloc (.cells #[.string P.u, .string P.t, .slice ya P.es.length yc] 99)).heap.size = wr.heap.size + 1 := by simp
      have HL0 : Hid (OwnR 103 5 enC ((wr.alloc (.cells #[.string P.u, .string P.t, .slice ya P.es.length yc] 99)).alloc (.cells #[] 103)) (wr.heap.size + 1) (.slice (some ⟨wr.heap.size + 1, 0, none⟩) 0 0) []) := Lib.hid (by
        have := OwnR.lit (k := 5) (C := enC) 103 (wr.alloc (.cells #[.string P.u, .string P.t, .slice ya P.es.length yc] 99)) (wr.heap.size + 1) (by rw [hw1]; exact Nat.le_refl _)
        rw [hw1] at this
        exact this)
      have hS0 := (Box.new wr #[.string P.u, .string P.t, .slice ya P.es.length yc] 99).alloc (.cells #[] 103)
      have hba : Below wr.heap.size wr ((wr.alloc (.cells #[.string P.u, .string P.t, .slice ya P.es.length yc] 99)).alloc (.cells #[] 103)) := ((Below.refl _ _).alloc (Nat.le_refl _) _).alloc (by simp) _
      have hsb : ((wr.alloc (.cells #[.string P.u, .string P.t, .slice ya P.es.length yc] 99)).alloc (.cells #[] 103)).heap.size = wr.heap.size + 2 := by simp
      clear hr hc hP s0 s1 hy hw1
      go_wp2_with (first
        | (at_builtin
           refine wpList_appR enC_len (by decide) Try.underlying97 Try.infoEntry rfl (by decide) rfl (.tmp 19) (.tmp 21) rfl (wr.heap.size + 1) wr.heap.size _ _ [] P.es rfl rfl HL0.out HY.out (fun y _ => enC_one y) (by simp; omega) (by simp) ?_
           intro y2 w2 hown2 hg2
           rw [List.nil_append] at hown2
           obtain ⟨ya2, yc2, rfl⟩ := hown2.slice
           have hbg : Below (wr.heap.size + 1) ((wr.alloc (.cells #[.string P.u, .string P.t, .slice ya P.es.length yc] 99)).alloc (.cells #[] 103)) w2 := gb_Below hg2 (by omega) (ownBlock_base HL0.out)
           have hb2 : Below wr.heap.size wr w2 := hba.trans (hbg.mono (by omega))
           have hS2 := hS0.keep hbg (by omega)
           have t0 : w2.cell? ⟨wr.heap.size, 2, none⟩ = some (.slice ya P.es.length yc) := hS2.cell 2 _ rfl
           have tf := hS2.free
           have hS3 := hS2.set 2 (.slice ya2 P.es.length yc2)
           have hb3 : Below wr.heap.size wr (w2.setCell ⟨wr.heap.size, 2, none⟩ (.slice ya2 P.es.length yc2)) := hb2.setCell (p := ⟨wr.heap.size, 2, none⟩) (Nat.le_refl _) _
           have u0 : (w2.setCell ⟨wr.heap.size, 2, none⟩ (.slice ya2 P.es.length yc2)).cell? ⟨wr.heap.size, 0, none⟩ = some (.string P.u) := hS3.cell 0 _ rfl
           have u1 : (w2.setCell ⟨wr.heap.size, 2, none⟩ (.slice ya2 P.es.length yc2)).cell? ⟨wr.heap.size, 1, none⟩ = some (.string P.t) := hS3.cell 1 _ rfl
           have u2 : (w2.setCell ⟨wr.heap.size, 2, none⟩ (.slice ya2 P.es.length yc2)).cell? ⟨wr.heap.size, 2, none⟩ = some (.slice ya2 P.es.length yc2) := hS3.cell 2 _ rfl
           have hO3 := hO.keep hb3 (by omega)
           have o0 : (w2.setCell ⟨wr.heap.size, 2, none⟩ (.slice ya2 P.es.length yc2)).cell? ⟨w.heap.size + 1 + 1, 0, none⟩ = some (.slice oa qs.length oc) := hO3.cell 0 _ rfl
           have HD3 := Lib.hid (HD.out.keep hb3 (Nat.le_refl _))
           have HY3 : Hid (OwnR 103 5 enC (w2.setCell ⟨wr.heap.size, 2, none⟩ (.slice ya2 P.es.length yc2)) (wr.heap.size + 1) (.slice ya2 P.es.length yc2) P.es) := Lib.hid (hown2.other ⟨wr.heap.size, 2, none⟩ _ (by simp))
           have HR3 := Lib.hid (hR.keep hb3 (by omega))
           have HZ3 := Lib.hid (hZ.keep hb3 (by omega))
           have HO3 := Lib.hid hO3
           have HB3 := Lib.hid (hB.trans (hb3.mono hB.size))
           have hs3 : wr.heap.size ≤ (w2.setCell ⟨wr.heap.size, 2, none⟩ (.slice ya2 P.es.length yc2)).heap.size := hb3.size
           have hXs : (w2.setCell ⟨wr.heap.size, 2, none⟩ (.slice ya2 P.es.length yc2)).heap.size = w2.heap.size := by simp [World.setCell]
           have HXs := Lib.hid hXs
           have HN5 : Hid (RecAt 3 sbC ((w2.setCell ⟨wr.heap.size, 2, none⟩ (.slice ya2 P.es.length yc2)).alloc (.cells #[.string P.u, .string P.t, .slice ya2 P.es.length yc2] 99)) (w2.heap.size + 1) (.slice (some ⟨w2.heap.size, 0, none⟩) 1 1) [(P, Value.slice ya2 P.es.length yc2)]) := Lib.hid (by
             have h := one_rec sbC_len (w2.setCell ⟨wr.heap.size, 2, none⟩ (.slice ya2 P.es.length yc2)) 99 (P, Value.slice ya2 P.es.length yc2) #[.string P.u, .string P.t, .slice ya2 P.es.length yc2] rfl
             rw [hXs] at h
             exact h)
           have hs4 : wr.heap.size ≤ w2.heap.size := by rw [← hXs]; exact hs3
           clear hXs hs3
           clear hown2 hg2 hbg hb2 hS2 hS3 hb3 hO3 HY HL0 hS0 hba hsb hR hZ hO hB)
        | (at_builtin
           refine wpList_appR sbC_len (by decide) Try.underlying26 Try.infoSub rfl (by decide) rfl (.tmp 25) (.tmp 27) rfl (w.heap.size + 3) (w2.heap.size + 1) _ _ qs [(P, .slice ya2 P.es.length yc2)] rfl rfl (HD3.out.1.alloc (.cells #[.string P.u, .string P.t, .slice ya2 P.es.length yc2] 99)) HN5.out (fun y hy => by
             obtain rfl : y = (P, .slice ya2 P.es.length yc2) := by simpa using hy
             exact sbC_one _ rfl) (by have := HQl.out; simp; omega) (by have := HXs.out; simp only [World.size_alloc]; omega) ?_
           intro v5 w5 hown5 hg5
           have hXs := HXs.out
           have hal : Below (w2.setCell ⟨wr.heap.size, 2, none⟩ (.slice ya2 P.es.length yc2)).heap.size (w2.setCell ⟨wr.heap.size, 2, none⟩ (.slice ya2 P.es.length yc2)) ((w2.setCell ⟨wr.heap.size, 2, none⟩ (.slice ya2 P.es.length yc2)).alloc (.cells #[.string P.u, .string P.t, .slice ya2 P.es.length yc2] 99)) := (Below.refl _ _).alloc (Nat.le_refl _) _
           have HD4 := HD3.out.keep hal (Nat.le_refl _)
           have HY4 := HY3.out.alloc (.cells #[.string P.u, .string P.t, .slice ya2 P.es.length yc2] 99)
           have hbg5 : Below (w.heap.size + 3) ((w2.setCell ⟨wr.heap.size, 2, none⟩ (.slice ya2 P.es.length yc2)).alloc (.cells #[.string P.u, .string P.t, .slice ya2 P.es.length yc2] 99)) w5 := gb_Below hg5 (by simp only [World.size_alloc]; omega) (ownBlock_base HD4.1)
           have hb5 : Below (w.heap.size + 3) (w2.setCell ⟨wr.heap.size, 2, none⟩ (.slice ya2 P.es.length yc2)) w5 := (hal.mono (by omega)).trans hbg5
           have HD5 := HD4.snoc (HY4.base_mono (by omega)) (fun p hp => by
             rcases (HD.out.2.1 p hp).blk with h1 | ⟨g, h1, _, h2⟩
             · exact .inl h1
             · right
               rw [h1]
               rcases HY4.blk with h3 | ⟨g2, h3, h4, _⟩
               · rw [h3]; intro h5; cases h5
               · rw [h3]; intro h5; cases h5; omega) hg5 hown5
           have hO5 := HO3.out.keep hb5 (by omega)
           have hR5 := HR3.out.keep hb5 (by omega)
           have hZ5 := HZ3.out.keep hb5 (by omega)
           have hB5 := HB3.out.trans (hb5.mono (by omega))
           obtain ⟨va5, vc5, hv5⟩ := hown5.slice
           obtain ⟨n5, hn5⟩ : ∃ n, (qs ++ [(P, Value.slice ya2 P.es.length yc2)]).length = n := ⟨_, rfl⟩
           rw [hn5] at hv5
           subst hv5
           have z0 : w5.cell? ⟨w.heap.size + 1 + 1, 0, none⟩ = some (.slice oa qs.length oc) := hO5.cell 0 _ rfl
           have zf := hO5.free
           have HE1 := Lib.hid (hR5.other ⟨w.heap.size + 1 + 1, 0, none⟩ (.slice va5 n5 vc5) (show w.heap.size ≠ w.heap.size + 1 + 1 by omega))
           have HE2 := Lib.hid (hZ5.other ⟨w.heap.size + 1 + 1, 0, none⟩ (.slice va5 n5 vc5) (show w.heap.size + 1 ≠ w.heap.size + 1 + 1 by omega))
           have HE3 := Lib.hid (hO5.set 0 (.slice va5 n5 vc5))
           have HE4 := Lib.hid (HD5.aside ⟨w.heap.size + 1 + 1, 0, none⟩ (.slice va5 n5 vc5) (show w.heap.size + 1 + 1 < w.heap.size + 3 by omega))
           have HE5 := Lib.hid (hB5.setCell (p := ⟨w.heap.size + 1 + 1, 0, none⟩) (show w.heap.size ≤ w.heap.size + 1 + 1 by omega) (.slice va5 n5 vc5))
           have hE6 : w.heap.size + 3 ≤ w5.heap.size := by have := hb5.size; omega
           clear hown5 hg5 hal HD4 HY4 hbg5 hb5 HD5 hO5 hR5 hZ5 hB5 hn5 HD3 HY3 HR3 HZ3 HO3 HB3 u0 u1 u2 o0 t0 tf hs4 hXs HXs HN5))
      refine ⟨⟨k + 1, _, qs ++ [(P, Value.slice ya2 P.es.length yc2)], by omega, by simp, Lib.hid (HQn.out _), HE1.out, HE2.out, HE3.out, HE4, HE5.out, by simpa [World.setCell] using hE6⟩, ?_⟩
      simp [intOf]; omega
    · have HZe : Hid (qs.map Prod.fst = ss) := Lib.hid (by have h1 := HQ.out; rw [List.take_of_length_le (by omega)] at h1; exact h1)
      have o0 : wr.cell? ⟨w.heap.size + 1 + 1, 0, none⟩ = some (.slice oa qs.length oc) := hO.cell 0 _ rfl
      have z0 : wr.cell? ⟨w.heap.size + 1, 0, none⟩ = some (.slice none 0 0) := hZ.cell 0 _ rfl
      have zf := hZ.free
      go_wp2
      have hZe := hZ.set 0 (.slice oa qs.length oc)
      have hBe := hB.setCell (p := ⟨w.heap.size + 1, 0, none⟩) (by simp) (.slice oa qs.length oc)
      have hDe := (HD.out.aside ⟨w.heap.size + 1, 0, none⟩ (.slice oa qs.length oc) (by simp)).lower (show w.heap.size ≤ w.heap.size + 3 by omega)
      generalize wr.setCell ⟨w.heap.size + 1, 0, none⟩ (.slice oa qs.length oc) = We at hZe hBe hDe ⊢
      have p0 : We.cell? ⟨w.heap.size + 1, 0, none⟩ = some (.slice oa qs.length oc) := hZe.cell 0 _ rfl
      exact bodyPost_ret (v := .agg #[.slice oa qs.length oc]) (by simp [results, Try.results163, go_sem, p0]) rfl ⟨_, qs, rfl, HZe.out, hDe, hBe⟩
end Go.Proofs.Ytgimjfffdnopiaa

/- Parts of the proof. -/
import Derived.Test.YtffkakpbelknaaaGreatDoorO26
import Derived.Test.YtffkakpbelknaaaGreatDoorO44
set_option maxHeartbeats 4000000
set_option maxRecDepth 100000
namespace Go.Proofs.YtffkakpbelknaaaGreatDoor
set_option linter.unusedVariables false
set_option linter.unusedSimpArgs false
theorem cut_sp (a b : List UInt8) (h : (32 : UInt8) ∉ a) : Lib.cut (a ++ ([32] ++ b)) [32] = (a, b, true) := by
 have hi : Lib.index (a ++ ([32] ++ b)) [32] = (a.length : Nat) := by
  refine Lib.index_first (by simp) ?_ (fun j hj => ?_)
  ·unfold Lib.occAt
   rw [List.drop_left]
   exact (pre_iff _ _).2 ⟨b, rfl⟩
  ·cases ho : Lib.occAt (a ++ ([32] ++ b)) [32] j with
   | false => rfl
   | true =>
    have hg := Lib.occAt_head rfl ho
    rw [List.getElem?_append_left hj] at hg
    exact absurd (List.mem_of_getElem? hg) h
 unfold Lib.cut
 rw [hi, if_pos (by omega), Int.toNat_natCast, List.take_left, <- List.drop_drop, List.drop_left, List.drop_left]
theorem cut_nosp (a : List UInt8) (h : (32 : UInt8) ∉ a) : Lib.cut a [32] = (a, [], false) := by
 have hi : Lib.index a [32] = -1 := Lib.index_none (fun j hj => by
  cases ho : Lib.occAt a [32] j with
  | false => rfl
  | true =>
   have hg := Lib.occAt_head rfl ho
   exact absurd (List.mem_of_getElem? hg) h)
 unfold Lib.cut
 rw [hi, if_neg (by omega)]
theorem nm_nosp {s : ByteArray} {m : Nat} (h : nmB s m = true) : (32 : UInt8) ∉ s.data.toList := by
 unfold nmB wiB at h
 simp only [Bool.and_eq_true, List.all_eq_true] at h
 intro hm
 have := h.2 32 hm
 exact absurd this (by decide)
def kdN (l : List UInt8) : Int := if l = [97, 100, 100] then 1 else if l = [100, 114, 111, 112] then 2 else if l = [102, 101, 116, 99, 104] then 3 else if l = [114, 101, 97, 100] then 4 else if l = [117, 110, 114, 101, 97, 100] then 5 else if l = [115, 116, 97, 114] then 6 else if l = [117, 110, 115, 116, 97, 114] then 7 else if l = [97, 108, 108] then 8 else if l = [112, 117, 114, 103, 101] then 9 else 0
theorem kdN_cases (l : List UInt8) : kdN l = 0 \/ ((kdN l = 1 \/ kdN l = 2 \/ kdN l = 3 \/ kdN l = 4 \/ kdN l = 5 \/ kdN l = 6 \/ kdN l = 7 \/ kdN l = 8 \/ kdN l = 9) /\ (wdB (kdN l)).data.toList = l) := by
 unfold kdN
 split
 ·rename_i h; subst h; exact .inr ⟨by decide, rfl⟩
 split
 ·rename_i h; subst h; exact .inr ⟨by decide, rfl⟩
 split
 ·rename_i h; subst h; exact .inr ⟨by decide, rfl⟩
 split
 ·rename_i h; subst h; exact .inr ⟨by decide, rfl⟩
 split
 ·rename_i h; subst h; exact .inr ⟨by decide, rfl⟩
 split
 ·rename_i h; subst h; exact .inr ⟨by decide, rfl⟩
 split
 ·rename_i h; subst h; exact .inr ⟨by decide, rfl⟩
 split
 ·rename_i h; subst h; exact .inr ⟨by decide, rfl⟩
 split
 ·rename_i h; subst h; exact .inr ⟨by decide, rfl⟩
 ·exact .inl rfl
theorem kdN_word {k : Int} (h : k = 1 \/ k = 2 \/ k = 3 \/ k = 4 \/ k = 5 \/ k = 6 \/ k = 7 \/ k = 8 \/ k = 9) : kdN (wdB k).data.toList = k /\ (32 : UInt8) ∉ (wdB k).data.toList := by
 rcases h with rfl | rfl | rfl | rfl | rfl | rfl | rfl | rfl | rfl <;> decide
abbrev o0 (k : Int) : OpD := ⟨k, ⟨#[]⟩, ⟨#[]⟩, 0, ⟨#[]⟩, ⟨#[]⟩, []⟩
noncomputable def dP (k : Int) (r : List UInt8) : Option OpD :=
 if k = 1 \/ k = 2 \/ k = 8 then some { o0 k with u := bl r }
 else if k = 3 then (rdF (bl r)).map fun f => ⟨3, ⟨#[]⟩, ⟨#[]⟩, 0, f.u, f.t, f.its⟩
 else if k = 4 \/ k = 5 \/ k = 6 \/ k = 7 then (if (Lib.cut r [32]).2.2 = true then some { o0 k with u := bl (Lib.cut r [32]).1, i := bl (Lib.cut r [32]).2.1 } else none)
 else if k = 9 then (if rdOk (bl r) = true then some { o0 9 with d := dN (rY (bl r)) (rM (bl r)) (rD (bl r)) } else none)
 else none
noncomputable def dQ (k : Int) (r : List UInt8) : Option OpD :=
 if k = 3 then (rdF (bl r)).map fun f => ⟨3, ⟨#[]⟩, ⟨#[]⟩, 0, f.u, f.t, f.its⟩
 else if k = 9 then (if rdOk (bl r) = true then some { o0 9 with d := dN (rY (bl r)) (rM (bl r)) (rD (bl r)) } else none)
 else if k = 0 then none
 else some { o0 k with u := bl (Lib.cut r [32]).1, i := bl (Lib.cut r [32]).2.1 }
noncomputable def cdP (l : List UInt8) : Option OpD := if (Lib.cut l [32]).2.2 = true then dP (kdN (Lib.cut l [32]).1) (Lib.cut l [32]).2.1 else none
noncomputable def cdQ (l : List UInt8) : Option OpD := dQ (kdN (Lib.cut l [32]).1) (Lib.cut l [32]).2.1
noncomputable def rdO (s : ByteArray) : Option OpD := (cdP s.data.toList).bind fun o => if opB o = true then some o else none
theorem op_list {o : OpD} (h : opB o = true) : (opX o).data.toList = (wdB o.k).data.toList ++ ([32] ++ (dpX o).data.toList) := by
 unfold opX
 rw [if_pos h, appF, appF, List.append_assoc]
theorem em_nil {s : ByteArray} (h : emB s = true) : s = ⟨#[]⟩ := by
 unfold emB at h
 rw [<- bl_back s]
 have : s.data.toList = [] := by
  simp only [ByteArray.toList_eq] at h
  simpa using h
 rw [this]
theorem fe_nil {fu ft : ByteArray} {its : List It} (h : feB fu ft its.length = true) : fu = ⟨#[]⟩ /\ ft = ⟨#[]⟩ /\ its = [] := by
 unfold feB at h
 simp only [Bool.and_eq_true] at h
 exact ⟨em_nil h.1.1, em_nil h.1.2, by simpa using h.2⟩
theorem P1 {s : ByteArray} {o : OpD} (h : rdO s = some o) : opB o = true /\ opX o = s := by
 unfold rdO at h
 cases hc : cdP s.data.toList with
 | none => rw [hc] at h; cases h
 | some o' =>
  rw [hc, Option.bind_some] at h
  split at h
  ·rename_i hb
   cases h
   refine ⟨hb, ?_⟩
   unfold cdP at hc
   split at hc
   ·rename_i hf
    have e := cut_yes hf
    generalize Lib.cut s.data.toList [32] = c at e hc
    obtain ⟨wd, r, _⟩ := c
    dsimp only at e hc
    have hx : (opX o).data.toList = s.data.toList := by
     rw [op_list hb, e]
     rcases kdN_cases wd with hk | ⟨hk, hw⟩
     ·rw [hk] at hc; unfold dP at hc; simp at hc
     ·have key : o.k = kdN wd /\ (dpX o).data.toList = r := by
       unfold dP at hc
       split at hc
       ·rename_i h1
        cases hc
        refine ⟨rfl, ?_⟩
        unfold dpX
        dsimp only
        rw [if_neg (by omega), if_neg (by omega), if_pos h1]
       ·rename_i h1
        split at hc
        ·rename_i h3
         obtain ⟨f, hf2, he⟩ := Option.map_eq_some_iff.1 hc
         cases he
         refine ⟨h3.symm, ?_⟩
         unfold dpX
         dsimp only
         rw [if_pos rfl, (rdF_some hf2).2]
        ·rename_i h3
         split at hc
         ·rename_i h4
          split at hc
          ·rename_i hcc
           cases hc
           refine ⟨rfl, ?_⟩
           unfold dpX
           dsimp only
           rw [if_neg (by omega), if_neg (by omega), if_neg (by omega), appF, appF]
           have e2 := cut_yes hcc
           rw [List.append_assoc]
           exact e2.symm
          ·cases hc
         ·rename_i h4
          split at hc
          ·rename_i h9
           split at hc
           ·rename_i hd
            cases hc
            refine ⟨h9.symm, ?_⟩
            unfold dpX
            dsimp only
            rw [if_neg (by omega), if_pos rfl]
            exact (date_back r hd).1
           ·cases hc
          ·cases hc
      rw [key.1, key.2, hw]
    rw [<- bl_back (opX o), hx, bl_back]
   ·cases hc
  ·cases h
theorem op_parts {o : OpD} (h : opB o = true) : (dP o.k (dpX o).data.toList = some o /\ dQ o.k (dpX o).data.toList = some o) := by
 have h0 := h
 obtain ⟨k, u, i, d, fu, ft, its⟩ := o
 unfold opB at h
 dsimp only at h ⊢
 by_cases h1 : k = 1 \/ k = 2 \/ k = 8
 ·rw [if_pos h1] at h
  simp only [Bool.and_eq_true] at h
  obtain ⟨⟨⟨hu, hi⟩, hd⟩, hf⟩ := h
  obtain rfl := em_nil hi
  obtain ⟨rfl, rfl, rfl⟩ := fe_nil hf
  obtain rfl : d = 0 := by simpa [dzB] using hd
  have hx : dpX ⟨k, u, ⟨#[]⟩, 0, ⟨#[]⟩, ⟨#[]⟩, []⟩ = u := by unfold dpX; dsimp only; rw [if_neg (by omega), if_neg (by omega), if_pos h1]
  rw [hx]
  refine ⟨?_, ?_⟩
  ·unfold dP; rw [if_pos h1, bl_back]
  ·unfold dQ
   rw [if_neg (by omega), if_neg (by omega), if_neg (by omega), cut_nosp _ (nm_nosp hu)]
 ·rw [if_neg h1] at h
  by_cases h3 : k = 3
  ·rw [if_pos h3] at h
   simp only [Bool.and_eq_true] at h
   obtain ⟨⟨⟨hu, hi⟩, hd⟩, hf⟩ := h
   subst h3
   obtain rfl := em_nil hi
   obtain rfl := em_nil hu
   obtain rfl : d = 0 := by simpa [dzB] using hd
   have hx : dpX ⟨3, ⟨#[]⟩, ⟨#[]⟩, 0, fu, ft, its⟩ = fdX fu ft its := by unfold dpX; rw [if_pos rfl]
   have hr : rdF (fdX fu ft its) = some ⟨fu, ft, its⟩ := rdF_hit ⟨fu, ft, its⟩ hf (by have := fdX_small fu ft its; dsimp only; omega)
   rw [hx]
   refine ⟨?_, ?_⟩
   ·unfold dP; rw [if_neg h1, if_pos rfl, bl_back, hr]; rfl
   ·unfold dQ; rw [if_pos rfl, bl_back, hr]; rfl
  ·rw [if_neg h3] at h
   by_cases h4 : k = 4 \/ k = 5 \/ k = 6 \/ k = 7
   ·rw [if_pos h4] at h
    simp only [Bool.and_eq_true] at h
    obtain ⟨⟨⟨hu, hi⟩, hd⟩, hf⟩ := h
    obtain ⟨rfl, rfl, rfl⟩ := fe_nil hf
    obtain rfl : d = 0 := by simpa [dzB] using hd
    have hx : (dpX ⟨k, u, i, 0, ⟨#[]⟩, ⟨#[]⟩, []⟩).data.toList = u.data.toList ++ ([32] ++ i.data.toList) := by
     unfold dpX
     dsimp only
     rw [if_neg (by omega), if_neg (by omega), if_neg (by omega), appF, appF, List.append_assoc]
    rw [hx]
    refine ⟨?_, ?_⟩
    ·unfold dP
     rw [if_neg h1, if_neg h3, if_pos h4, cut_sp _ _ (nm_nosp hu)]
     dsimp only
     rw [if_pos rfl, bl_back, bl_back]
    ·unfold dQ
     rw [if_neg h3, if_neg (by omega), if_neg (by omega), cut_sp _ _ (nm_nosp hu)]
   ·rw [if_neg h4] at h
    by_cases h9 : k = 9
    ·rw [if_pos h9] at h
     simp only [Bool.and_eq_true, decide_eq_true_eq] at h
     obtain ⟨⟨⟨hu, hi⟩, hd⟩, hf⟩ := h
     subst h9
     obtain rfl := em_nil hi
     obtain rfl := em_nil hu
     obtain ⟨rfl, rfl, rfl⟩ := fe_nil hf
     have hx : (dpX ⟨9, ⟨#[]⟩, ⟨#[]⟩, d, ⟨#[]⟩, ⟨#[]⟩, []⟩).data.toList = dayL d := by
      unfold dpX
      dsimp only
      rw [if_neg (by omega), if_pos rfl]
      rfl
     obtain ⟨k1, k2⟩ := day_fits d hd.1 hd.2
     rw [hx]
     refine ⟨?_, ?_⟩
     ·unfold dP
      rw [if_neg h1, if_neg h3, if_neg h4, if_pos rfl, if_pos k1, k2]
     ·unfold dQ
      rw [if_neg h3, if_pos rfl, if_pos k1, k2]
    ·rw [if_neg h9] at h; cases h
theorem P2 {s : ByteArray} {o : OpD} (hb : opB o = true) (hx : opX o = s) : cdP s.data.toList = some o /\ cdQ s.data.toList = some o := by
 subst hx
 rw [op_list hb]
 obtain ⟨k1, k2⟩ := kdN_word (op_kinds11 hb)
 obtain ⟨p1, p2⟩ := op_parts hb
 unfold cdP cdQ
 rw [cut_sp _ _ k2]
 dsimp only
 rw [if_pos rfl, k1]
 exact ⟨p1, p2⟩
theorem rdO_of {s : ByteArray} {o : OpD} (hb : opB o = true) (hx : opX o = s) : rdO s = some o := by
 unfold rdO
 rw [(P2 hb hx).1, Option.bind_some, if_pos hb]
theorem rdO_ref (s : ByteArray) : rdO s = (cdQ s.data.toList).bind fun o => if opX o = s then some o else none := by
 cases hq : (cdQ s.data.toList).bind fun o => if opX o = s then some o else none with
 | some o =>
  obtain ⟨o', hc, ho⟩ := Option.bind_eq_some_iff.1 hq
  split at ho
  ·rename_i hx
   cases ho
   have hb : opB o = true := by
    cases hb : opB o with
    | true => rfl
    | false =>
     exfalso
     unfold opX at hx
     rw [hb] at hx
     have hs : s = ⟨#[]⟩ := by rw [<- hx]; rfl
     rw [hs] at hc
     have : cdQ (⟨#[]⟩ : ByteArray).data.toList = none := by
      unfold cdQ
      rw [show (⟨#[]⟩ : ByteArray).data.toList = [] from rfl, cut_nosp [] (by simp)]
      rfl
     rw [this] at hc
     cases hc
   exact rdO_of hb hx
  ·cases ho
 | none =>
  cases hp : rdO s with
  | none => rfl
  | some o =>
   exfalso
   obtain ⟨hb, hx⟩ := P1 hp
   rw [(P2 hb hx).2, Option.bind_some, if_pos hx] at hq
   cases hq
end Go.Proofs.YtffkakpbelknaaaGreatDoor

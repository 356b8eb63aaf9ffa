/- Parts of the proof. -/
import Derived.Lib.IndexMore
import Derived.Test.YtffkakpbelknaaaGreatDoorO8
import Derived.Test.YtffkakpbelknaaaGreatDoorO13
import Derived.Test.YtffkakpbelknaaaGreatDoorO25
import Derived.Test.YtffkakpbelknaaaGreatDoorO43
set_option maxHeartbeats 4000000
set_option maxRecDepth 100000
namespace Go.Proofs.YtffkakpbelknaaaGreatDoor
set_option linter.unusedVariables false
set_option linter.unusedSimpArgs false
def fS0 : List UInt8 := [60, 102, 101, 101, 100, 32, 117, 114, 108, 61, 34]
def fS1 : List UInt8 := [34, 62, 60, 116, 105, 116, 108, 101, 62]
def fS2 : List UInt8 := [60, 47, 116, 105, 116, 108, 101, 62]
def fS3 : List UInt8 := [60, 47, 102, 101, 101, 100, 62]
def fSt : List UInt8 := [60, 116, 105, 116, 108, 101, 62]
def iL1 : List UInt8 := [60, 105, 116, 101, 109, 32, 105, 100, 61, 34]
def iL2 : List UInt8 := [34, 32, 100, 97, 116, 101, 61, 34]
def iL3 : List UInt8 := [34, 62]
def iL4 : List UInt8 := [60, 47, 105, 116, 101, 109, 62]
abbrev bl (l : List UInt8) : ByteArray := ⟨l.toArray⟩
theorem bl_list (l : List UInt8) : (bl l).data.toList = l := rfl
theorem bl_size (l : List UInt8) : (bl l).size = l.length := rfl
theorem bl_back (s : ByteArray) : bl s.data.toList = s := by cases s; rfl
theorem pre_iff (l p : List UInt8) : Lib.hasPrefix l p = true ↔ ∃ r, l = p ++ r := by
 unfold Lib.hasPrefix
 rw [List.isPrefixOf_iff_prefix]
 exact ⟨fun ⟨r, h⟩ => ⟨r, h.symm⟩, fun ⟨r, h⟩ => ⟨r, h.symm⟩⟩
theorem cut_yes {r m : List UInt8} (h : (Lib.cut r m).2.2 = true) : r = (Lib.cut r m).1 ++ (m ++ (Lib.cut r m).2.1) := by
 unfold Lib.cut at h ⊢
 split at h
 ·rename_i h0
  rw [if_pos h0]
  rcases Lib.index_spec r m with ⟨hn, _⟩ | ⟨i, hi, hle, ho, _⟩
  ·omega
  ·rw [hi, Int.toNat_natCast]
   unfold Lib.occAt at ho
   obtain ⟨b, hb⟩ := (pre_iff _ _).1 ho
   show r = r.take i ++ (m ++ r.drop (i + m.length))
   rw [<- List.drop_drop, hb, List.drop_left, <- hb, List.take_append_drop]
 ·cases h
theorem mark_first (p : List UInt8) (m b : List UInt8) (c : UInt8) (m' : List UInt8) (hm : m = c :: m') (hc : c = 34 \/ c = 60) : Lib.cut (escL p ++ (m ++ b)) m = (escL p, b, true) := by
 have hi : Lib.index (escL p ++ (m ++ b)) m = ((escL p).length : Nat) := by
  refine Lib.index_first (by simp) ?_ (fun j hj => ?_)
  ·unfold Lib.occAt
   rw [List.drop_left]
   exact (pre_iff _ _).2 ⟨b, rfl⟩
  ·cases ho : Lib.occAt (escL p ++ (m ++ b)) m j with
   | false => rfl
   | true =>
    have hg := Lib.occAt_head hm ho
    rw [List.getElem?_append_left hj] at hg
    have hmem : c ∈ escL p := List.mem_of_getElem? hg
    obtain ⟨h1, h2, h3⟩ := no_marks p c hmem
    rcases hc with rfl | rfl
    ·exact absurd rfl h3
    ·exact absurd rfl h1
 unfold Lib.cut
 rw [hi, if_pos (by omega), Int.toNat_natCast, List.take_left, <- List.drop_drop, List.drop_left, List.drop_left]
def fld (m r : List UInt8) : Option (List UInt8 × List UInt8) :=
 if (Lib.cut r m).2.2 = true /\ (Lib.cut r m).1.length <= 1200 then (plL (Lib.cut r m).1).map (fun p => (p, (Lib.cut r m).2.1)) else none
theorem fld_some {m r p b : List UInt8} (h : fld m r = some (p, b)) : r = escL p ++ (m ++ b) /\ (escL p).length <= 1200 := by
 unfold fld at h
 split at h
 ·rename_i hc
  obtain ⟨q, hq, he⟩ := Option.map_eq_some_iff.1 h
  cases he
  have he := escaped_plain _ _ _ (Nat.le_refl _) hq
  rw [he]
  exact ⟨cut_yes hc.1, hc.2⟩
 ·cases h
theorem fld_hit (m p b : List UInt8) (c : UInt8) (m' : List UInt8) (hm : m = c :: m') (hc : c = 34 \/ c = 60) (hp : (escL p).length <= 1200) : fld m (escL p ++ (m ++ b)) = some (p, b) := by
 unfold fld
 rw [mark_first p m b c m' hm hc, if_pos ⟨rfl, hp⟩]
 show (plL (escL p)).map _ = _
 rw [plain_escaped]
 rfl
def flds : List (List UInt8) -> List UInt8 -> Option (List (List UInt8) × List UInt8)
 | [], r => some ([], r)
 | m :: ms, r => (fld m r).bind fun q => (flds ms q.2).map fun z => (q.1 :: z.1, z.2)
def fldF (first : List UInt8) (ms : List (List UInt8)) (l : List UInt8) : Option (List (List UInt8) × List UInt8) :=
 if Lib.hasPrefix l first = true then flds ms (l.drop first.length) else none
def pItem (l : List UInt8) : Option (It × List UInt8) :=
 match fldF iL1 [iL2, iL3, iL4] l with
 | some ([i, d, t], r) => if rdOk (bl d) = true then some (⟨bl i, bl t, dN (rY (bl d)) (rM (bl d)) (rD (bl d))⟩, r) else none
 | _ => none
def pItems (l : List UInt8) : Option (List It) :=
 if l = fS3 then some [] else match pItem l with
 | none => none
 | some (x, r) => if h : r.length < l.length then (pItems r).map (fun z => x :: z) else none
termination_by l.length
noncomputable def dayL (n : Int) : List UInt8 := (dayT n).data.toList
noncomputable def itTL (x : It) : List UInt8 := iL1 ++ (escL x.id.data.toList ++ (iL2 ++ (dayL x.da ++ (iL3 ++ (escL x.ti.data.toList ++ iL4)))))
noncomputable def itsT (its : List It) : List UInt8 := its.flatMap itTL
noncomputable def fdT (u t : List UInt8) (its : List It) : List UInt8 := fS0 ++ (escL u ++ (fS1 ++ (escL t ++ (fS2 ++ (itsT its ++ fS3)))))
theorem esc_dg (b : UInt8) (h : isDg b = true) : esc b = [b] := by
 have h1 := dg_lt b h
 have : escM b = [] := by
  unfold escM
  have n1 : b ≠ 38 := fun e => by subst e; exact absurd h1.1 (by decide)
  have n2 : b ≠ 60 := fun e => by subst e; exact absurd h1.2 (by decide)
  have n3 : b ≠ 62 := fun e => by subst e; exact absurd h1.2 (by decide)
  have n4 : b ≠ 34 := fun e => by subst e; exact absurd h1.1 (by decide)
  rw [if_neg n1, if_neg n2, if_neg n3, if_neg n4]
 exact if_pos this
theorem esc_date (d : List UInt8) (h : rdOk (bl d) = true) : escL d = d := by
 obtain ⟨b0, b1, b2, b3, b5, b6, b8, b9, hl, p0, p1, p2, p3, p5, p6, p8, p9, _⟩ := rd_parts (bl d) h
 have hd : d = [b0, b1, b2, b3] ++ (45 :: ([b5, b6] ++ (45 :: [b8, b9]))) := hl
 rw [hd]
 unfold escL
 simp only [List.cons_append, List.nil_append, List.flatMap_cons, List.flatMap_nil, esc_dg _ p0, esc_dg _ p1, esc_dg _ p2, esc_dg _ p3, esc_dg _ p5, esc_dg _ p6, esc_dg _ p8, esc_dg _ p9, show esc 45 = [45] from by decide]
theorem date_back (d : List UInt8) (h : rdOk (bl d) = true) : dayL (dN (rY (bl d)) (rM (bl d)) (rD (bl d))) = d /\ 0 <= dN (rY (bl d)) (rM (bl d)) (rD (bl d)) /\ dN (rY (bl d)) (rM (bl d)) (rD (bl d)) <= 200000 := by
 have hok := ((rdOk_iff (bl d)).1 h).2.2.2
 obtain ⟨a, b, c⟩ := dOk_isD hok
 refine ⟨?_, b, c⟩
 unfold dayL dayT
 rw [dateR_is b c a]
 show (dateT (rY (bl d)) (rM (bl d)) (rD (bl d))).data.toList = d
 rw [rd_text _ h]
theorem day_fits (n : Int) (h0 : 0 <= n) (h1 : n <= 200000) : rdOk (bl (dayL n)) = true /\ dN (rY (bl (dayL n))) (rM (bl (dayL n))) (rD (bl (dayL n))) = n := by
 obtain ⟨N, rfl⟩ := Int.eq_ofNat_of_zero_le h0
 obtain ⟨y, m, d, h⟩ := isD_ex N
 have hb : bl (dayL N) = dateT y m d := by unfold dayL; rw [bl_back]; unfold dayT; rw [dateR_is h0 h1 h]
 obtain ⟨k1, k2, k3, k4⟩ := rd_back y m d (isD_ok h h1)
 rw [hb, k2, k3, k4]
 exact ⟨k1, h.2.2.2.2.2⟩
theorem flds3 (a b c l : List UInt8) : flds [a, b, c] l = (fld a l).bind fun q1 => (fld b q1.2).bind fun q2 => (fld c q2.2).bind fun q3 => some ([q1.1, q2.1, q3.1], q3.2) := by
 unfold flds
 cases h1 : fld a l with
 | none => rfl
 | some q1 =>
  simp only [Option.bind_some]
  unfold flds
  cases h2 : fld b q1.2 with
  | none => rfl
  | some q2 =>
   simp only [Option.bind_some]
   unfold flds
   cases h3 : fld c q2.2 with
   | none => rfl
   | some q3 => rfl
theorem flds2 (a b l : List UInt8) : flds [a, b] l = (fld a l).bind fun q1 => (fld b q1.2).bind fun q2 => some ([q1.1, q2.1], q2.2) := by
 unfold flds
 cases h1 : fld a l with
 | none => rfl
 | some q1 =>
  simp only [Option.bind_some]
  unfold flds
  cases h2 : fld b q1.2 with
  | none => rfl
  | some q2 => rfl
theorem pItem_some {l : List UInt8} {x : It} {r : List UInt8} (h : pItem l = some (x, r)) : l = itTL x ++ r /\ 0 <= x.da /\ x.da <= 200000 := by
 unfold pItem fldF at h
 by_cases hp : Lib.hasPrefix l iL1 = true
 ·rw [if_pos hp, flds3] at h
  obtain ⟨l', rfl⟩ := (pre_iff _ _).1 hp
  rw [List.drop_left] at h
  cases h1 : fld iL2 l' with
  | none => rw [h1] at h; cases h
  | some q1 =>
   obtain ⟨i, r1⟩ := q1
   rw [h1, Option.bind_some] at h
   dsimp only at h
   cases h2 : fld iL3 r1 with
   | none => rw [h2] at h; cases h
   | some q2 =>
    obtain ⟨d, r2⟩ := q2
    rw [h2, Option.bind_some] at h
    dsimp only at h
    cases h3 : fld iL4 r2 with
    | none => rw [h3] at h; cases h
    | some q3 =>
     obtain ⟨t, r3⟩ := q3
     rw [h3, Option.bind_some] at h
     dsimp only at h
     by_cases hd : rdOk (bl d) = true
     ·rw [if_pos hd] at h
      cases h
      obtain ⟨e1, _⟩ := fld_some h1
      obtain ⟨e2, _⟩ := fld_some h2
      obtain ⟨e3, _⟩ := fld_some h3
      obtain ⟨k1, k2, k3⟩ := date_back d hd
      rw [esc_date d hd] at e2
      refine ⟨?_, k2, k3⟩
      unfold itTL
      rw [k1, e1, e2, e3]
      show iL1 ++ (escL i ++ (iL2 ++ (d ++ (iL3 ++ (escL t ++ (iL4 ++ r)))))) = (iL1 ++ (escL i ++ (iL2 ++ (d ++ (iL3 ++ (escL t ++ iL4)))))) ++ r
      simp only [List.append_assoc]
     ·rw [if_neg hd] at h; cases h
 ·rw [if_neg hp] at h; cases h
theorem esc_short (s : ByteArray) (h : s.size <= 200) : (escL s.data.toList).length <= 1200 := by
 have h1 := escL_len s.data.toList
 have h2 : s.data.toList.length = s.size := by simp
 omega
theorem pItem_hit (x : It) (r : List UInt8) (h1 : x.id.size <= 200) (h2 : x.ti.size <= 200) (h3 : 0 <= x.da) (h4 : x.da <= 200000) : pItem (itTL x ++ r) = some (x, r) := by
 obtain ⟨k1, k2⟩ := day_fits x.da h3 h4
 have e : itTL x ++ r = iL1 ++ (escL x.id.data.toList ++ (iL2 ++ (escL (dayL x.da) ++ (iL3 ++ (escL x.ti.data.toList ++ (iL4 ++ r)))))) := by
  rw [esc_date _ k1]
  unfold itTL
  simp only [List.append_assoc]
 unfold pItem fldF
 rw [e, if_pos ((pre_iff _ _).2 ⟨_, rfl⟩), List.drop_left, flds3,
  fld_hit iL2 x.id.data.toList _ 34 _ rfl (.inl rfl) (esc_short _ h1), Option.bind_some]
 dsimp only
 rw [fld_hit iL3 (dayL x.da) _ 34 _ rfl (.inl rfl) (by rw [esc_date _ k1]; have := ((rdOk_iff _).1 k1).1; rw [bl_size] at this; omega), Option.bind_some]
 dsimp only
 rw [fld_hit iL4 x.ti.data.toList _ 60 _ rfl (.inr rfl) (esc_short _ h2), Option.bind_some]
 dsimp only
 rw [if_pos k1, k2, bl_back, bl_back]
theorem itTL_pos (x : It) : 0 < (itTL x).length := by
 unfold itTL
 rw [List.length_append, show iL1.length = 10 from rfl]
 omega
theorem pItem_less {l r : List UInt8} {x : It} (h : pItem l = some (x, r)) : r.length < l.length := by
 have e := (pItem_some h).1
 have := itTL_pos x
 rw [e, List.length_append]
 omega
theorem pItems_end : pItems fS3 = some [] := by rw [pItems, if_pos rfl]
theorem pItems_none {l : List UInt8} (hl : l ≠ fS3) (h : pItem l = none) : pItems l = none := by rw [pItems, if_neg hl, h]
theorem pItems_cons {l r : List UInt8} {x : It} (hl : l ≠ fS3) (h : pItem l = some (x, r)) : pItems l = (pItems r).map (fun z => x :: z) := by
 rw [pItems, if_neg hl, h]
 exact dif_pos (pItem_less h)
theorem pItems_some : ∀ (n : Nat) (l : List UInt8) (its : List It), l.length <= n -> pItems l = some its -> l = itsT its ++ fS3 /\ ∀ x ∈ its, 0 <= x.da /\ x.da <= 200000
 | n, l, its, hn, h => by
  by_cases hl : l = fS3
  ·rw [hl, pItems_end] at h
   cases h
   exact ⟨hl, fun x hx => by cases hx⟩
  ·cases hp : pItem l with
   | none => rw [pItems_none hl hp] at h; cases h
   | some q =>
    obtain ⟨x, r⟩ := q
    have hlt := pItem_less hp
    obtain ⟨e, k1, k2⟩ := pItem_some hp
    rw [pItems_cons hl hp] at h
    obtain ⟨z, hz, hc⟩ := Option.map_eq_some_iff.1 h
    subst hc
    match n, hn with
    | 0, hn => omega
    | n + 1, hn =>
     obtain ⟨e2, k3⟩ := pItems_some n r z (by omega) hz
     refine ⟨?_, ?_⟩
     ·rw [e, e2]
      unfold itsT
      rw [List.flatMap_cons, List.append_assoc]
     ·intro y hy
      rcases List.mem_cons.1 hy with rfl | hy
      ·exact ⟨k1, k2⟩
      ·exact k3 y hy
theorem item_not_end (x : It) (r : List UInt8) : itTL x ++ r ≠ fS3 := by
 intro h
 have : (itTL x ++ r)[1]? = fS3[1]? := by rw [h]
 unfold itTL iL1 fS3 at this
 simp at this
theorem pItems_hit : ∀ (its : List It), (∀ x ∈ its, x.id.size <= 200 /\ x.ti.size <= 200 /\ 0 <= x.da /\ x.da <= 200000) -> pItems (itsT its ++ fS3) = some its
 | [], _ => pItems_end
 | x :: its, h => by
  obtain ⟨h1, h2, h3, h4⟩ := h x (List.mem_cons_self ..)
  have e : itsT (x :: its) ++ fS3 = itTL x ++ (itsT its ++ fS3) := by
   unfold itsT
   rw [List.flatMap_cons, List.append_assoc]
  rw [e, pItems_cons (item_not_end _ _) (pItem_hit x _ h1 h2 h3 h4), pItems_hit its (fun y hy => h y (List.mem_cons_of_mem _ hy))]
  rfl
def pHead (l : List UInt8) : Option (List UInt8 × List UInt8 × List UInt8) :=
 match fldF fS0 [fS1, fS2] l with
 | some ([u, t], r) => some (u, t, r)
 | _ => none
structure FdD where
 u : ByteArray
 t : ByteArray
 its : List It
noncomputable def rdF (s : ByteArray) : Option FdD :=
 if s.size <= 4000 then (pHead s.data.toList).bind fun q => (pItems q.2.2).bind fun its => if fdB (bl q.1) (bl q.2.1) its = true then some ⟨bl q.1, bl q.2.1, its⟩ else none else none
theorem pHead_some {l u t r : List UInt8} (h : pHead l = some (u, t, r)) : l = fS0 ++ (escL u ++ (fS1 ++ (escL t ++ (fS2 ++ r)))) /\ (escL u).length <= 1200 /\ (escL t).length <= 1200 := by
 unfold pHead fldF at h
 by_cases hp : Lib.hasPrefix l fS0 = true
 ·rw [if_pos hp, flds2] at h
  obtain ⟨l', rfl⟩ := (pre_iff _ _).1 hp
  rw [List.drop_left] at h
  cases h1 : fld fS1 l' with
  | none => rw [h1] at h; cases h
  | some q1 =>
   obtain ⟨i, r1⟩ := q1
   rw [h1, Option.bind_some] at h
   dsimp only at h
   cases h2 : fld fS2 r1 with
   | none => rw [h2] at h; cases h
   | some q2 =>
    obtain ⟨d, r2⟩ := q2
    rw [h2, Option.bind_some] at h
    cases h
    obtain ⟨e1, z1⟩ := fld_some h1
    obtain ⟨e2, z2⟩ := fld_some h2
    exact ⟨by rw [e1, e2], z1, z2⟩
 ·rw [if_neg hp] at h; cases h
theorem pHead_hit (u t r : List UInt8) (hu : (escL u).length <= 1200) (ht : (escL t).length <= 1200) : pHead (fS0 ++ (escL u ++ (fS1 ++ (escL t ++ (fS2 ++ r))))) = some (u, t, r) := by
 unfold pHead fldF
 rw [if_pos ((pre_iff _ _).2 ⟨_, rfl⟩), List.drop_left, flds2, fld_hit fS1 u _ 34 _ rfl (.inl rfl) hu, Option.bind_some]
 dsimp only
 rw [fld_hit fS2 t _ 60 _ rfl (.inr rfl) ht, Option.bind_some]
theorem appF (a b : ByteArray) : (a ++ b).data.toList = a.data.toList ++ b.data.toList := by rw [ByteArray.data_append, Array.toList_append]
theorem fdI_list (H : ByteArray) (its : List It) (h : ∀ x ∈ its, x.id.size <= 200 /\ x.ti.size <= 200) : (fdI H its).data.toList = H.data.toList ++ itsT its := by
 induction its generalizing H with
 | nil => unfold fdI itsT; simp
 | cons x its ih =>
  obtain ⟨h1, h2⟩ := h x (List.mem_cons_self ..)
  show (fdI (H ++ itX x) its).data.toList = _
  rw [ih _ (fun y hy => h y (List.mem_cons_of_mem _ hy)), appF]
  have e : (itX x).data.toList = itTL x := by
   unfold itX itT
   simp only [appF]
   rw [show escR x.id = escB x.id by unfold escR; rw [if_pos h1], show escR x.ti = escB x.ti by unfold escR; rw [if_pos h2]]
   unfold itTL escB dayL iL1 iL2 iL3 iL4
   simp only [List.append_assoc]
  rw [e]
  unfold itsT
  rw [List.flatMap_cons, List.append_assoc]
theorem fdB_parts8 {u t : ByteArray} {its : List It} (h : fdB u t its = true) : u.size <= 20 /\ t.size <= 24 /\ ∀ x ∈ its, x.id.size <= 8 /\ x.ti.size <= 24 /\ 0 <= x.da /\ x.da <= 200000 := by
 unfold fdB at h
 simp only [Bool.and_eq_true, decide_eq_true_eq] at h
 obtain ⟨hi, ⟨hu, ht⟩, _⟩ := h
 unfold nmB at hu
 unfold ttB at ht
 simp only [Bool.and_eq_true, decide_eq_true_eq] at hu ht
 refine ⟨hu.1.2, ht.1, fun x hx => ?_⟩
 obtain ⟨k, hk, rfl⟩ := List.mem_iff_getElem.1 hx
 unfold itsB at hi
 have := List.all_eq_true.1 hi k (List.mem_range.2 hk)
 rw [okB_at its k hk] at this
 unfold itB nmB ttB at this
 simp only [Bool.and_eq_true, decide_eq_true_eq] at this
 obtain ⟨⟨⟨⟨⟨_, h1⟩, _⟩, h2, _⟩, h3, h4⟩, _⟩ := this
 exact ⟨h1, h2, h3, h4⟩
theorem fdX_list {u t : ByteArray} {its : List It} (h : fdB u t its = true) : (fdX u t its).data.toList = fdT u.data.toList t.data.toList its := by
 obtain ⟨hu, ht, hx⟩ := fdB_parts8 h
 unfold fdX
 rw [if_pos h, appF, fdI_list _ _ (fun x hx' => ⟨by have := (hx x hx').1; omega, by have := (hx x hx').2.1; omega⟩)]
 unfold fdH
 simp only [appF]
 rw [show escR u = escB u by unfold escR; rw [if_pos (by omega)], show escR t = escB t by unfold escR; rw [if_pos (by omega)]]
 unfold fdT escB fS0 fS1 fS2 fS3
 simp only [List.append_assoc]
theorem rdF_some {s : ByteArray} {f : FdD} (h : rdF s = some f) : fdB f.u f.t f.its = true /\ fdX f.u f.t f.its = s := by
 unfold rdF at h
 split at h
 ·cases h1 : pHead s.data.toList with
  | none => rw [h1] at h; cases h
  | some q =>
   obtain ⟨u, t, r⟩ := q
   rw [h1, Option.bind_some] at h
   dsimp only at h
   cases h2 : pItems r with
   | none => rw [h2] at h; cases h
   | some its =>
    rw [h2, Option.bind_some] at h
    split at h
    ·rename_i hb
     cases h
     refine ⟨hb, ?_⟩
     have e1 := (pHead_some h1).1
     have e2 := (pItems_some _ r its (Nat.le_refl _) h2).1
     have e3 := fdX_list hb
     rw [bl_list, bl_list] at e3
     have : (fdX (bl u) (bl t) its).data.toList = s.data.toList := by
      rw [e3, e1, e2]
      rfl
     rw [<- bl_back (fdX (bl u) (bl t) its), this, bl_back]
    ·cases h
 ·cases h
theorem rdF_hit (f : FdD) (h : fdB f.u f.t f.its = true) (hs : (fdX f.u f.t f.its).size <= 4000) : rdF (fdX f.u f.t f.its) = some f := by
 obtain ⟨hu, ht, hx⟩ := fdB_parts8 h
 unfold rdF
 rw [if_pos hs, fdX_list h]
 unfold fdT
 rw [pHead_hit _ _ _ (esc_short _ (by omega)) (esc_short _ (by omega)), Option.bind_some]
 dsimp only
 rw [pItems_hit f.its (fun x hx' => by have := hx x hx'; omega), Option.bind_some, bl_back, bl_back, if_pos h]
theorem rdF_long {s : ByteArray} (h : ¬ s.size <= 4000) : rdF s = none := if_neg h
theorem rdF_head {s : ByteArray} (h : pHead s.data.toList = none) : rdF s = none := by
 unfold rdF; split
 ·rw [h]; rfl
 ·rfl
theorem rdF_items {s : ByteArray} {u t r : List UInt8} (hs : s.size <= 4000) (h : pHead s.data.toList = some (u, t, r)) : rdF s = (pItems r).bind fun its => if fdB (bl u) (bl t) its = true then some ⟨bl u, bl t, its⟩ else none := by
 unfold rdF; rw [if_pos hs, h]; rfl
theorem ref_end {s : ByteArray} {u t r : List UInt8} {its : List It} (h : pHead s.data.toList = some (u, t, r)) (h2 : pItems r = some its) : fdX (bl u) (bl t) its = s ↔ fdB (bl u) (bl t) its = true := by
 have e1 := (pHead_some h).1
 have e2 := (pItems_some _ r its (Nat.le_refl _) h2).1
 constructor
 ·intro he
  cases hb : fdB (bl u) (bl t) its with
  | true => rfl
  | false =>
   exfalso
   unfold fdX at he
   rw [hb] at he
   rw [<- he] at e1
   exact absurd e1 (by unfold fS0; simp)
 ·intro hb
  have e3 := fdX_list hb
  rw [bl_list, bl_list] at e3
  have : (fdX (bl u) (bl t) its).data.toList = s.data.toList := by
   rw [e3, e1, e2]
   rfl
  rw [<- bl_back (fdX (bl u) (bl t) its), this, bl_back]
def tk (l word mark : List UInt8) : List UInt8 × List UInt8 × Bool :=
 if Lib.hasPrefix l word = true /\ (Lib.cut (l.drop word.length) mark).2.2 = true then ((Lib.cut (l.drop word.length) mark).1, (Lib.cut (l.drop word.length) mark).2.1, true) else ([], [], false)
def plA (l : List UInt8) : List UInt8 × Bool := if l.length <= 1200 then (match plL l with | some r => (r, true) | none => ([], false)) else ([], false)
theorem plV_A (s : ByteArray) : plV s = .tuple #[.string (bl (plA s.data.toList).1), .bool (plA s.data.toList).2] := by
 have hs : s.data.toList.length = s.size := by simp
 unfold plV plA
 rw [hs]
 split
 ·split <;> rename_i h <;> simp only [h]
 ·rfl
theorem fld_A (m r : List UInt8) : fld m r = if (Lib.cut r m).2.2 && (plA (Lib.cut r m).1).2 then some ((plA (Lib.cut r m).1).1, (Lib.cut r m).2.1) else none := by
 unfold fld plA
 cases (Lib.cut r m).2.2 with
 | false => simp
 | true =>
  by_cases h : (Lib.cut r m).1.length <= 1200
  ·rw [if_pos ⟨rfl, h⟩, if_pos h]
   cases plL (Lib.cut r m).1 <;> rfl
  ·rw [if_neg (fun x => h x.2), if_neg h]
   rfl
theorem plA_true {l : List UInt8} (h : (plA l).2 = true) : plL l = some (plA l).1 /\ l.length <= 1200 := by
 unfold plA at h ⊢
 split at h
 ·rename_i hl
  rw [if_pos hl]
  cases hp : plL l with
  | none => rw [hp] at h; cases h
  | some r => exact ⟨rfl, hl⟩
 ·cases h
theorem pItem_ref (l : List UInt8) (A B C : List UInt8 × List UInt8 × Bool) (hA : A = tk l iL1 iL2) (hB : B = tk A.2.1 [] iL3) (hC : C = tk B.2.1 [] iL4) :
  pItem l = if A.2.2 && B.2.2 && C.2.2 && (plA A.1).2 && (plA C.1).2 && rdOk (bl B.1) then some (⟨bl (plA A.1).1, bl (plA C.1).1, dN (rY (bl B.1)) (rM (bl B.1)) (rD (bl B.1))⟩, C.2.1) else none := by
 unfold pItem fldF
 by_cases hp : Lib.hasPrefix l iL1 = true
 case neg =>
  have : A.2.2 = false := by rw [hA]; unfold tk; rw [if_neg (fun x => hp x.1)]
  rw [if_neg hp, this]
  rfl
 rw [if_pos hp, flds3]
 have hA' : A = if (Lib.cut (l.drop iL1.length) iL2).2.2 = true then ((Lib.cut (l.drop iL1.length) iL2).1, (Lib.cut (l.drop iL1.length) iL2).2.1, true) else ([], [], false) := by
  rw [hA]; unfold tk
  by_cases hc : (Lib.cut (l.drop iL1.length) iL2).2.2 = true
  ·rw [if_pos ⟨hp, hc⟩, if_pos hc]
  ·rw [if_neg (fun x => hc x.2), if_neg hc]
 clear hA
 rw [fld_A]
 by_cases hc : (Lib.cut (l.drop iL1.length) iL2).2.2 = true
 case neg =>
  rw [if_neg hc] at hA'
  rw [hA']
  rw [show (Lib.cut (l.drop iL1.length) iL2).2.2 = false by simpa using hc]
  rfl
 rw [if_pos hc] at hA'
 rw [hc, Bool.true_and]
 subst hA'
 dsimp only at hB ⊢
 generalize (Lib.cut (l.drop iL1.length) iL2).1 = a at hB ⊢
 generalize (Lib.cut (l.drop iL1.length) iL2).2.1 = r1 at hB ⊢
 have pre0 : ∀ z : List UInt8, Lib.hasPrefix z [] = true := fun z => (pre_iff _ _).2 ⟨z, rfl⟩
 have hB' : B = if (Lib.cut r1 iL3).2.2 = true then ((Lib.cut r1 iL3).1, (Lib.cut r1 iL3).2.1, true) else ([], [], false) := by
  rw [hB]; unfold tk
  by_cases hc : (Lib.cut r1 iL3).2.2 = true
  ·rw [if_pos ⟨pre0 _, hc⟩, if_pos hc]; rfl
  ·rw [if_neg (fun x => hc x.2), if_neg hc]
 clear hB
 have hC' : C = if (Lib.cut B.2.1 iL4).2.2 = true then ((Lib.cut B.2.1 iL4).1, (Lib.cut B.2.1 iL4).2.1, true) else ([], [], false) := by
  rw [hC]; unfold tk
  by_cases hc : (Lib.cut B.2.1 iL4).2.2 = true
  ·rw [if_pos ⟨pre0 _, hc⟩, if_pos hc]; rfl
  ·rw [if_neg (fun x => hc x.2), if_neg hc]
 clear hC
 cases ha : (plA a).2 with
 | false => simp
 | true =>
  rw [if_pos rfl, Option.bind_some]
  dsimp only
  rw [fld_A]
  by_cases hc3 : (Lib.cut r1 iL3).2.2 = true
  case neg =>
   rw [if_neg hc3] at hB'
   rw [hB', show (Lib.cut r1 iL3).2.2 = false by simpa using hc3]
   rfl
  rw [if_pos hc3] at hB'
  subst hB'
  rw [hc3, Bool.true_and]
  dsimp only at hC' ⊢
  generalize (Lib.cut r1 iL3).1 = d at hC' ⊢
  generalize (Lib.cut r1 iL3).2.1 = r2 at hC' ⊢
  by_cases hc4 : (Lib.cut r2 iL4).2.2 = true
  case neg =>
   rw [if_neg hc4] at hC'
   rw [hC']
   have hn : fld iL4 r2 = none := by rw [fld_A, show (Lib.cut r2 iL4).2.2 = false by simpa using hc4]; rfl
   cases hd : (plA d).2 with
   | false => simp
   | true =>
    rw [if_pos rfl, Option.bind_some]
    dsimp only
    rw [hn]
    simp
  rw [if_pos hc4] at hC'
  subst hC'
  dsimp only
  have h4 : fld iL4 r2 = if (plA (Lib.cut r2 iL4).1).2 then some ((plA (Lib.cut r2 iL4).1).1, (Lib.cut r2 iL4).2.1) else none := by rw [fld_A, hc4, Bool.true_and]
  generalize (Lib.cut r2 iL4).1 = t at h4 ⊢
  generalize (Lib.cut r2 iL4).2.1 = r3 at h4 ⊢
  cases hd : (plA d).2 with
  | false =>
   have hr : rdOk (bl d) = false := by
    cases hr : rdOk (bl d) with
    | false => rfl
    | true =>
     have h1 := plain_escaped d
     rw [esc_date d hr] at h1
     have h2 := ((rdOk_iff (bl d)).1 hr).1
     rw [bl_size] at h2
     unfold plA at hd
     rw [if_pos (by omega), h1] at hd
     cases hd
   rw [hr]
   simp
  | true =>
   rw [if_pos rfl, Option.bind_some]
   dsimp only
   rw [h4]
   obtain ⟨hpd, _⟩ := plA_true hd
   have he := escaped_plain _ _ _ (Nat.le_refl _) hpd
   have hrd : rdOk (bl (plA d).1) = true -> (plA d).1 = d := fun h => (esc_date _ h).symm.trans he
   have hrd2 : rdOk (bl d) = true -> (plA d).1 = d := fun h => by
    have h1 := plain_escaped d
    rw [esc_date d h, hpd] at h1
    exact Option.some.inj h1
   cases ht : (plA t).2 with
   | false => simp
   | true =>
    rw [if_pos rfl, Option.bind_some]
    dsimp only
    cases h5 : rdOk (bl d) with
    | true => rw [hrd2 h5, if_pos h5]; simp
    | false =>
     have : rdOk (bl (plA d).1) = false := by
      cases h6 : rdOk (bl (plA d).1) with
      | false => rfl
      | true => rw [hrd h6, h5] at h6; cases h6
     rw [this]
     simp
theorem pHead_ref (l : List UInt8) (A B : List UInt8 × List UInt8 × Bool) (hA : A = tk l fS0 iL3) (hB : B = tk A.2.1 fSt fS2) :
  pHead l = if A.2.2 && B.2.2 && (plA A.1).2 && (plA B.1).2 then some ((plA A.1).1, (plA B.1).1, B.2.1) else none := by
 by_cases hc : (A.2.2 && B.2.2 && (plA A.1).2 && (plA B.1).2) = true
 ·rw [if_pos hc]
  simp only [Bool.and_eq_true] at hc
  obtain ⟨⟨⟨c1, c2⟩, c3⟩, c4⟩ := hc
  obtain ⟨p1, z1⟩ := plA_true c3
  obtain ⟨p2, z2⟩ := plA_true c4
  have e1 := escaped_plain _ _ _ (Nat.le_refl _) p1
  have e2 := escaped_plain _ _ _ (Nat.le_refl _) p2
  generalize (plA A.1).1 = u at e1 ⊢
  generalize (plA B.1).1 = t at e2 ⊢
  clear p1 p2 c3 c4
  have x1 : l = fS0 ++ (A.1 ++ (iL3 ++ A.2.1)) := by
   rw [hA] at c1 ⊢
   unfold tk at c1 ⊢
   split at c1
   ·rename_i h
    rw [if_pos h]
    obtain ⟨l', rfl⟩ := (pre_iff _ _).1 h.1
    have h2 := h.2
    rw [List.drop_left] at h2 ⊢
    exact congrArg _ (cut_yes h2)
   ·cases c1
  have x2 : A.2.1 = fSt ++ (B.1 ++ (fS2 ++ B.2.1)) := by
   rw [hB] at c2 ⊢
   generalize A.2.1 = k at c2 ⊢
   unfold tk at c2 ⊢
   split at c2
   ·rename_i h
    rw [if_pos h]
    obtain ⟨l', rfl⟩ := (pre_iff _ _).1 h.1
    have h2 := h.2
    rw [List.drop_left] at h2 ⊢
    exact congrArg _ (cut_yes h2)
   ·cases c2
  rw [x1, x2, <- e1, <- e2]
  exact pHead_hit u t B.2.1 (by rw [e1]; exact z1) (by rw [e2]; exact z2)
 ·rw [if_neg hc]
  cases hp : pHead l with
  | none => rfl
  | some q =>
   exfalso
   obtain ⟨u, t, r⟩ := q
   obtain ⟨e, zu, zt⟩ := pHead_some hp
   apply hc
   have hA2 : A = (escL u, fSt ++ (escL t ++ (fS2 ++ r)), true) := by
    rw [hA, e]
    unfold tk
    rw [List.drop_left, show fS1 ++ (escL t ++ (fS2 ++ r)) = iL3 ++ (fSt ++ (escL t ++ (fS2 ++ r))) from rfl, mark_first u iL3 _ 34 _ rfl (.inl rfl), if_pos ⟨(pre_iff _ _).2 ⟨_, rfl⟩, rfl⟩]
   have hB2 : B = (escL t, r, true) := by
    rw [hB, hA2]
    unfold tk
    dsimp only
    rw [List.drop_left, mark_first t fS2 _ 60 _ rfl (.inr rfl), if_pos ⟨(pre_iff _ _).2 ⟨_, rfl⟩, rfl⟩]
   have q1 : ∀ z : List UInt8, (escL z).length <= 1200 -> (plA (escL z)).2 = true := fun z hz => by unfold plA; rw [if_pos hz, plain_escaped]
   rw [hA2, hB2]
   simp only [q1 u zu, q1 t zt, Bool.and_self]
end Go.Proofs.YtffkakpbelknaaaGreatDoor
namespace Go.Proofs.YtffkakpbelknaaaGreatDoor
open Go.ChangeShapes Go.WideShapes Go.ChangeAt Go.RowKit
set_option linter.unusedVariables false
set_option linter.unusedSimpArgs false
theorem ext_list (s : ByteArray) (a b : Nat) : (s.extract a b).data.toList = (s.data.toList.take b).drop a := ext_part s _ a b rfl
theorem str_beq (a b : ByteArray) : (a.toList == b.toList) = (a.data.toList == b.data.toList) := by rw [ByteArray.toList_eq, ByteArray.toList_eq]
theorem len_list (s : ByteArray) : s.data.toList.length = s.size := by simp
theorem pre_cmp (s w : ByteArray) (h : w.size <= s.size) : ((s.extract 0 w.size).toList == w.toList) = Lib.hasPrefix s.data.toList w.data.toList := by
 rw [str_beq, ext_list, List.drop_zero]
 have e := Lib.occAt_iff_take s.data.toList w.data.toList 0 (by rw [len_list, len_list]; omega)
 rw [List.drop_zero, len_list] at e
 rw [<- e]
 unfold Lib.occAt Lib.hasPrefix
 rw [List.drop_zero]
theorem pre_short (s w : ByteArray) (h : s.size < w.size) : Lib.hasPrefix s.data.toList w.data.toList = false := by
 cases hp : Lib.hasPrefix s.data.toList w.data.toList with
 | false => rfl
 | true =>
  obtain ⟨r, hr⟩ := (pre_iff _ _).1 hp
  have := congrArg List.length hr
  rw [List.length_append, len_list, len_list] at this
  omega
theorem occ_cmp (s m : ByteArray) (k : Nat) (h : k + m.size <= s.size) : ((s.extract k (k + m.size)).toList == m.toList) = Lib.occAt s.data.toList m.data.toList k := by
 rw [str_beq, ext_list, Lib.occAt_iff_take _ _ _ (by rw [len_list, len_list]; omega), len_list, List.drop_take]
 rw [show k + m.size - k = m.size by omega]
theorem tk_no (l word mark : List UInt8) (h : Lib.hasPrefix l word = false) : tk l word mark = ([], [], false) := by
 unfold tk; rw [if_neg (fun x => by rw [h] at x; cases x.1)]
theorem tk_none (s word mark : ByteArray) (S : ByteArray) (h : Lib.hasPrefix s.data.toList word.data.toList = true) (hS : S.data.toList = s.data.toList.drop word.data.toList.length) (k : Nat) (hm : 1 <= mark.size) (hk : S.size < k + mark.size) (hn : ∀ j, j < k -> Lib.occAt S.data.toList mark.data.toList j = false) :
  tk s.data.toList word.data.toList mark.data.toList = ([], [], false) := by
 have hi : Lib.index S.data.toList mark.data.toList = -1 := Lib.index_none (fun j hj => by
  by_cases hjk : j < k
  ·exact hn j hjk
  ·cases ho : Lib.occAt S.data.toList mark.data.toList j with
   | false => rfl
   | true =>
    exfalso
    rcases Lib.occAt_room ho with h1 | h1
    ·rw [len_list, len_list] at h1; omega
    ·have := len_list mark
     rw [h1] at this
     simp at this
     omega)
 unfold tk
 rw [<- hS]
 rw [if_neg]
 intro hx
 have := hx.2
 unfold Lib.cut at this
 rw [hi, if_neg (by omega)] at this
 cases this
theorem tk_at (s word mark : ByteArray) (S : ByteArray) (h : Lib.hasPrefix s.data.toList word.data.toList = true) (hS : S.data.toList = s.data.toList.drop word.data.toList.length) (k : Nat) (hk : k + mark.size <= S.size) (hn : ∀ j, j < k -> Lib.occAt S.data.toList mark.data.toList j = false) (ho : Lib.occAt S.data.toList mark.data.toList k = true) :
  tk s.data.toList word.data.toList mark.data.toList = ((S.extract 0 k).data.toList, (S.extract (k + mark.size) S.size).data.toList, true) := by
 have hi : Lib.index S.data.toList mark.data.toList = (k : Int) := Lib.index_first (by rw [len_list]; omega) ho hn
 have hc : Lib.cut S.data.toList mark.data.toList = (S.data.toList.take k, S.data.toList.drop (k + mark.data.toList.length), true) := by
  unfold Lib.cut
  have hk0 : (0 : Int) <= (k : Int) := by omega
  rw [hi, if_pos hk0, Int.toNat_natCast]
 have e1 : (S.extract 0 k).data.toList = S.data.toList.take k := by rw [ext_list, List.drop_zero]
 have e2 : (S.extract (k + mark.size) S.size).data.toList = S.data.toList.drop (k + mark.data.toList.length) := by
  rw [ext_list, len_list mark, List.take_of_length_le (Nat.le_of_eq (len_list S))]
 unfold tk
 rw [<- hS, hc, if_pos ⟨h, rfl⟩, e1, e2]
theorem l8Take_any (s word mark : ByteArray) (w : World) (hs : s.size <= 4000) (hw : word.size <= 100) (hm : mark.size <= 100) (hm1 : 1 <= mark.size) :
  Calls Tryz.prog 48 #[.string s, .string word, .string mark] w fun e w' => e = .returned (.tuple #[.string (bl (tk s.data.toList word.data.toList mark.data.toList).1), .string (bl (tk s.data.toList word.data.toList mark.data.toList).2.1), .bool (tk s.data.toList word.data.toList mark.data.toList).2.2]) /\ Below w.heap.size w w' := by
 obtain ⟨o, ho⟩ : ∃ o, o = tk s.data.toList word.data.toList mark.data.toList := ⟨_, rfl⟩
 rw [<- ho]
 have HO := Lib.hid ho
 have HZ : Hid (∀ b : Bool, o = ([], [], false) -> Ending.returned (.tuple #[.string ⟨#[]⟩, .string ⟨#[]⟩, .bool false]) = Ending.returned (.tuple #[.string (bl o.1), .string (bl o.2.1), .bool o.2.2])) := Lib.hid (fun _ h => by rw [h])
 by_cases c1 : s.size < word.size
 case pos =>
  have hO := HZ.out true (ho.trans (tk_no _ _ _ (pre_short _ _ c1)))
  clear HO HZ ho
  go_enter Tryz.func48, Tryz.ntmps48
  go_wp2
  go_ret3
  exact ⟨hO, Below.refl _ _⟩
 have hcmp := pre_cmp s word (by omega)
 cases hp : Lib.hasPrefix s.data.toList word.data.toList with
 | false =>
  rw [hp] at hcmp
  have hO := HZ.out true (ho.trans (tk_no _ _ _ hp))
  clear HO HZ ho hp
  go_enter Tryz.func48, Tryz.ntmps48
  go_wp2
  go_ret3
  exact ⟨hO, Below.refl _ _⟩
 | true =>
  rw [hp] at hcmp
  obtain ⟨S, hSe⟩ : ∃ S, s.extract word.size s.size = S := ⟨_, rfl⟩
  have hSl : S.data.toList = s.data.toList.drop word.data.toList.length := by rw [<- hSe, ext_list, List.take_of_length_le (by rw [len_list]; omega), len_list]
  have hSz : S.size <= 4000 := by rw [<- hSe, ByteArray.size_extract]; omega
  have HN : Hid (∀ k, S.size < k + mark.size -> (∀ j, j < k -> Lib.occAt S.data.toList mark.data.toList j = false) -> Ending.returned (.tuple #[.string ⟨#[]⟩, .string ⟨#[]⟩, .bool false]) = Ending.returned (.tuple #[.string (bl o.1), .string (bl o.2.1), .bool o.2.2])) := Lib.hid (fun k hk hn => HZ.out true (ho.trans (tk_none s word mark S hp hSl k hm1 hk hn)))
  have HY : Hid (∀ k, k + mark.size <= S.size -> (∀ j, j < k -> Lib.occAt S.data.toList mark.data.toList j = false) -> Lib.occAt S.data.toList mark.data.toList k = true -> Ending.returned (.tuple #[.string (S.extract 0 k), .string (S.extract (k + mark.size) S.size), .bool true]) = Ending.returned (.tuple #[.string (bl o.1), .string (bl o.2.1), .bool o.2.2])) := Lib.hid (fun k hk hn h1 => by
   rw [ho, tk_at s word mark S hp hSl k hk hn h1, bl_back, bl_back])
  have HC := Lib.hid (occ_cmp S mark)
  clear HO HZ ho hp hSl
  go_enter Tryz.func48, Tryz.ntmps48
  go_wp2
  clear hSe hcmp
  go_loopw [9] (fun i wr => ∃ k : Nat, k <= S.size /\ i = .int .i64 (k : Int) /\ Hid (∀ j, j < k -> Lib.occAt S.data.toList mark.data.toList j = false) /\ wr = w) (fun i _ => S.size + 1 - (intOf i).toNat)
  case atStart => exact ⟨0, Nat.zero_le _, rfl, Lib.hid (fun j hj => by omega), rfl⟩
  case round =>
   obtain ⟨k, hk, rfl, HJ, rfl⟩ := hrel
   by_cases hlt : k + mark.size <= S.size
   case neg =>
    have hO := HN.out k (by omega) HJ.out
    clear HN HY HC HJ
    go_wp2
    go_ret3
    exact ⟨hO, Below.refl _ _⟩
   have hc := HC.out k hlt
   cases hoc : Lib.occAt S.data.toList mark.data.toList k with
   | false =>
    rw [hoc] at hc
    have HJ2 : Hid (∀ j, j < k + 1 -> Lib.occAt S.data.toList mark.data.toList j = false) := Lib.hid (fun j hj => by
     by_cases h : j < k
     ·exact HJ.out j h
     ·rw [show j = k by omega]; exact hoc)
    clear HN HY HC HJ hoc
    go_wp2
    go_roundw
    case rel => exact ⟨k + 1, by omega, by go_num, HJ2, by first | rfl | trivial⟩
    case measure => simp [intOf]; omega
   | true =>
    rw [hoc] at hc
    have hO := HY.out k hlt HJ.out hoc
    clear HN HY HC HJ hoc
    go_wp2
    have k1 : IntKind.i64.wrap ((k : Int) + (mark.size : Int)) = (k : Int) + (mark.size : Int) := IntWalk.i64_in _ (by omega)
    have k2 : (0 : Int) <= (k : Int) + (mark.size : Int) := by omega
    have k3 : (k : Int) + (mark.size : Int) <= (S.size : Int) := by omega
    have k4 : ((k : Int) + (mark.size : Int)).toNat = k + mark.size := by omega
    have k5 : (k : Int) <= (S.size : Int) := by omega
    refine wp_region_T (fun _ => True) (fun _ => True) 11 (by kernel_rfl) 12 rfl ?_
    refine wA 3 [0, 1, 2, 3, 4, 5, 6, 7, 8] ⟨trivial, fun _ => trivial⟩ ?_
    simp only [pick, List.filterMap_cons, List.filterMap_nil, List.getElem?_cons_zero, List.getElem?_cons_succ]
    refine wpIf_step (.string S) (by kernel_rfl) (fun w _ => by go_simp) ?_
    refine wpIf_step (.int .i64 (k : Int)) (by kernel_rfl) (fun w _ => by go_simp) ?_
    refine wpIf_step (.string (S.extract 0 k)) (by kernel_rfl) (fun w _ => by go_simp) ?_
    refine wpIf_step (.string S) (by kernel_rfl) (fun w _ => by go_simp) ?_
    refine wpIf_step (.int .i64 (k : Int)) (by kernel_rfl) (fun w _ => by go_simp) ?_
    refine wpIf_step (.string mark) (by kernel_rfl) (fun w _ => by go_simp) ?_
    refine wpIf_step (.int .i64 (mark.size : Int)) (by kernel_rfl) (fun w _ => by go_simp) ?_
    refine wpIf_step (.int .i64 ((k : Int) + (mark.size : Int))) (by kernel_rfl) (fun w _ => by go_simp) ?_
    refine wpIf_step (.string (S.extract (k + mark.size) S.size)) (by kernel_rfl) (fun w _ => by go_simp) ?_
    refine wpIf_nil (fun hSx => ?_)
    clear hSx
    refine wO 9 2 (fun K hK => ?_)
    go_simp
    refine hK _ _ ⟨trivial, fun _ => trivial⟩ (fun hSx => ?_)
    clear hK K hSx
    refine wO 10 1 (fun K hK => ?_)
    go_simp
    refine hK _ _ ⟨trivial, fun _ => trivial⟩ (fun hSx => ?_)
    clear hK K hSx
    refine wO 11 0 (fun K hK => ?_)
    go_simp
    refine hK _ _ ⟨trivial, fun _ => trivial⟩ (fun hSx => ?_)
    clear hK K hSx
    refine wpAnyT_over (by kernel_rfl) ?_
    go_wp2
    go_ret3
    exact ⟨hO, (Below.refl _ _).drew⟩
end Go.Proofs.YtffkakpbelknaaaGreatDoor

/- For the reference's block: a quarter round over a whole row; an append of a row. -/
import Derived.Test.YtfjaincogbdeiaaGreatDoorW2f
namespace Go.Proofs.YtfjaincogbdeiaaGreatDoor
open Go.ChangeShapes Go.WideShapes Go.ChangeAt Go.RowKit
set_option linter.unusedVariables false

theorem upd_self {xs : List Int} {i j k l : Nat} (hi : i < xs.length) (hj : j < xs.length) (hk : k < xs.length) (hl : l < xs.length) : upd xs i j k l ⟨xs.getD i 0, xs.getD j 0, xs.getD k 0, xs.getD l 0⟩ = xs := by
  have hx : ∀ (ys : List Int) (x : Nat), ys = xs → x < xs.length → ys.set x (xs.getD x 0) = xs := fun ys x e hx => by
    subst e
    have : ys.getD x 0 = ys[x] := by simp [hx]
    rw [this, List.set_getElem_self]
  unfold upd
  exact hx _ _ (hx _ _ (hx _ _ (hx _ _ rfl hi) hj) hk) hl

theorem l2QAt_any (base g cap : Nat) (xs : List Int) (i j k l : Nat) (w : World) (hs : isSt xs) (hA : Apart 16 i j k l) (h : OwnK 89 .u32 w base (.slice (some ⟨g, 0, none⟩) 16 cap) xs) :
    Calls Tryz.prog 130 #[.slice (some ⟨g, 0, none⟩) 16 cap, .int .i64 i, .int .i64 j, .int .i64 k, .int .i64 l] w fun e w' => e = .returned (.tuple #[]) ∧ OwnK 89 .u32 w' base (.slice (some ⟨g, 0, none⟩) 16 cap) (qAt i j k l xs) ∧ w.grownBy w' (some g) := by
  have hn := hs.1
  exact l2Quarter_any base g 16 cap xs i j k l ⟨xs.getD i 0, xs.getD j 0, xs.getD k 0, xs.getD l 0⟩ w hn.symm (by decide) hA
    (by rw [upd_self (by rw [hn]; exact hA.hi) (by rw [hn]; exact hA.hj) (by rw [hn]; exact hA.hk) (by rw [hn]; exact hA.hl)]; exact h)
    ⟨getD_u hs.2 i, getD_u hs.2 j, getD_u hs.2 k, getD_u hs.2 l⟩

section
variable {e t : TypeId} {k : IntKind} {by' : Nat}
/-- append(row, other...), the other one a row that is read. -/
theorem wpList_appRow (hu : Tryz.prog.underlying t = some (.slice e)) (hinfo : (Tryz.prog.info? e).map (fun i => (i.zero, i.size, i.bytes)) = some (some (.int k 0), 1, by')) (hby : by' ≤ 8)
    {w : World} {ops : Array Oper} {rest : List Oper} {o : Oper} {a : Act} {Q : Exit → Act → World → Prop} (hgd : o.guard = none) (s x : Operand)
    (ho : o.op = .call { callee := .builtin .append, args := #[s, x], argTypes := #[t, t] })
    (base : Nat) (v : Value) (l : List Int) (hs : a.eval s = v) (hown : OwnK e k w base v l)
    (B : Nat) (v2 : Value) (news : List Int) (hx : a.eval x = v2) (hrow : RowAt k w B v2 news) (hm0 : 0 < news.length)
    (hl : l.length + news.length ≤ 1000000000) (hbase : base ≤ w.heap.size)
    (h : ∀ v' w', OwnK e k w' base v' (l ++ news) → w.grownBy w' v.ownBlock → wpList Tryz.prog ops Q rest (a.put o.dst v') w') :
    wpList Tryz.prog ops Q (o :: rest) a w := by
  obtain ⟨i0, hi, hz0, hz1, hz2⟩ := info_parts hinfo
  obtain ⟨ad, cap2, rfl, hlc, hmx, hc⟩ := hrow
  obtain ⟨b, off, rfl, hb, hr⟩ := hc 0 hm0
  have hb8 : (l.length + news.length) * by' ≤ (l.length + news.length) * 8 := Nat.mul_le_mul_left _ hby
  refine wpList_append_lies w hgd s x t ho base e i0 (.int k 0) 1 by' hu hi hz0 hz1 hz2 rfl (by decide) v l.length (l.map (Value.int k)) hs hown ⟨b, off, none⟩ news.length cap2 (news.map (Value.int k)) hx (by simp) ?_ (ints_oneCell _ _) hm0 (by unfold maxLen; omega) (by omega) hbase _ rfl ?_
  · intro j u hj
    have hadd : (⟨b, off, none⟩ : Addr).add j = ⟨b, off + j, none⟩ := by unfold Addr.add; split <;> simp_all
    rw [hadd]
    have hjl : j < news.length := by
      rcases Nat.lt_or_ge j news.length with h1 | h1
      · exact h1
      · rw [List.getElem?_eq_none (by simpa using h1)] at hj; cases hj
    rw [hr j hjl]
    simp [hjl] at hj
    simp [hjl, hj]
  · intro g cap w1 hown1 hgrow _ _
    refine h _ _ ?_ hgrow
    have e' : (l ++ news).length = l.length + news.length := by simp
    unfold OwnK
    rw [e', List.map_append]
    exact hown1
end
end Go.Proofs.YtfjaincogbdeiaaGreatDoor

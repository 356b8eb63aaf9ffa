/- Joined: W9zx. -/
import Derived.Test.YtffkakpbelknaaaH39
/- W9zx -/
namespace Go.Proofs.Ytffkakpbelknaaa
open Go.ChangeShapes Go.WideShapes Go.ChangeAt Go.RowKit
set_option linter.unusedVariables false

theorem l9Put_any (v : Value) (es : List En) (it : It) (w : World) (h : EnAt w w.heap.size v es) (hr : risB (enKs es) = true) (hn : es.length ≤ 1000) :
    Calls Try.prog 153 #[v, itV it.id it.ti it.da] w (OutB 47 5 enC (ft1 es it) w.heap.size w) := by
  cases hf : fnB (enKs es) it.id with
  | true => exact l9Put_there v es it w h hr hn hf
  | false => exact l9Put_new v es it w h hr hn hf
theorem ft1_sz {es : List En} {it : It} (h : ∀ x ∈ es, EnSz x) (hi : it.id.size ≤ maxLen ∧ it.ti.size ≤ maxLen) : ∀ x ∈ ft1 es it, EnSz x := by
  intro x hx
  unfold ft1 putP at hx
  rcases List.mem_append.1 hx with h1 | h1
  · exact h x (List.mem_of_mem_take h1)
  · rcases List.mem_cons.1 h1 with h2 | h2
    · subst h2
      unfold EnSz
      rw [neE_it]
      exact hi
    · exact h x (List.mem_of_mem_drop h2)
theorem ftN_sz {es : List En} {its : List It} (h : ∀ x ∈ es, EnSz x) (hi : ∀ x ∈ its, x.id.size ≤ maxLen ∧ x.ti.size ≤ maxLen) : ∀ x ∈ ftN es its, EnSz x := by
  unfold ftN
  induction its generalizing es with
  | nil => exact h
  | cons it its ih => exact ih (ft1_sz h (hi it (List.mem_cons_self))) (fun y hy => hi y (List.mem_cons_of_mem _ hy))
/-- What the entries are while a feed is fetched: those of before, or a row that the call made. -/
def FyAt (w : World) (B : Nat) (x y : Value) (es l : List En) : Prop := (y = x ∧ l = es) ∨ OwnR 47 5 enC w B y l

/-- append of entries, at one step. -/
theorem wp_appE {w w' : World} {o : Oper} {a : Act} {K : Act → World → Prop} {Q : Exit → Act → World → Prop} (s x : Operand) (ho : o.op = .call { callee := .builtin .append, args := #[s, x], argTypes := #[41, 41] }) (v xv v' : Value) (hs : a.eval s = v) (hx : a.eval x = xv) (hrun : (Builtin.append_ #[41, 41] o.type #[v, xv]).run Try.prog w = .ok v' w') (h : K (a.put o.dst v') w') : o.wp Try.prog a w K Q := by
  unfold Oper.wp
  simp [execOp, ho, resolve, invoke, builtin, hs, hx, hrun, Result.andThen]
  exact h
/-- How long the entries are that a box of a feed has. -/
def lenIn (w : World) (g : Nat) : Nat := match w.cell? ⟨g, 2, none⟩ with
  | some (.slice _ n _) => n
  | _ => 0

set_option maxRecDepth 100000 in
set_option maxHeartbeats 3000000 in
theorem l9Fetch_any (s : Sb) (x : Value) (fu ft : ByteArray) (v : Value) (its : List It) (w : World) (h : EnAt w w.heap.size x s.es) (hv : ItAt w w.heap.size v its) (hr : risB (enKs s.es) = true) (hn : s.es.length ≤ 100) (hni : its.length ≤ 100) :
    Calls Try.prog 112 #[sbV s.u s.t x, .agg #[.string fu, .string ft, v]] w fun e w' => ∃ y, e = .returned (sbV s.u ft y) ∧ FyAt w' w.heap.size x y s.es (ftV s.es its) ∧ Below w.heap.size w w' := by
  have HE := Lib.hid h
  have HV := Lib.hid hv
  have HR := Lib.hid hr
  obtain ⟨xa, xc, rfl⟩ := h.1.slice
  obtain ⟨ia, ic, hvv, hil, him, _⟩ := hv.raw
  subst hvv
  unfold maxLen at him
  clear h hv hr
  have hb0 : Below w.heap.size w (((w.alloc (.cells #[.string s.u, .string ft, .slice xa s.es.length xc] 43)).alloc (.cells #[.string fu, .string ft, .slice ia its.length ic] 29)).alloc (.cells #[.string ⟨#[]⟩, .string ⟨#[]⟩, .slice none 0 0] 43)) := (((Below.refl _ _).alloc (Nat.le_refl _) _).alloc (by simp) _).alloc (by simp; omega) _
  have hS0 : Box (((w.alloc (.cells #[.string s.u, .string ft, .slice xa s.es.length xc] 43)).alloc (.cells #[.string fu, .string ft, .slice ia its.length ic] 29)).alloc (.cells #[.string ⟨#[]⟩, .string ⟨#[]⟩, .slice none 0 0] 43)) w.heap.size #[.string s.u, .string ft, .slice xa s.es.length xc] 43 := ((Box.new w #[.string s.u, .string ft, .slice xa s.es.length xc] 43).alloc _).alloc _
  have hF0 : Box (((w.alloc (.cells #[.string s.u, .string ft, .slice xa s.es.length xc] 43)).alloc (.cells #[.string fu, .string ft, .slice ia its.length ic] 29)).alloc (.cells #[.string ⟨#[]⟩, .string ⟨#[]⟩, .slice none 0 0] 43)) (w.heap.size + 1) #[.string fu, .string ft, .slice ia its.length ic] 29 := by
    have := (Box.new (w.alloc (.cells #[.string s.u, .string ft, .slice xa s.es.length xc] 43)) #[.string fu, .string ft, .slice ia its.length ic] 29).alloc (.cells #[.string ⟨#[]⟩, .string ⟨#[]⟩, .slice none 0 0] 43)
    simpa using this
  have hZ0 : Box (((w.alloc (.cells #[.string s.u, .string ft, .slice xa s.es.length xc] 43)).alloc (.cells #[.string fu, .string ft, .slice ia its.length ic] 29)).alloc (.cells #[.string ⟨#[]⟩, .string ⟨#[]⟩, .slice none 0 0] 43)) (w.heap.size + 1 + 1) #[.string ⟨#[]⟩, .string ⟨#[]⟩, .slice none 0 0] 43 := by
    have := Box.new ((w.alloc (.cells #[.string s.u, .string ft, .slice xa s.es.length xc] 43)).alloc (.cells #[.string fu, .string ft, .slice ia its.length ic] 29)) #[.string ⟨#[]⟩, .string ⟨#[]⟩, .slice none 0 0] 43
    simpa using this
  have hs0 : (((w.alloc (.cells #[.string s.u, .string ft, .slice xa s.es.length xc] 43)).alloc (.cells #[.string fu, .string ft, .slice ia its.length ic] 29)).alloc (.cells #[.string ⟨#[]⟩, .string ⟨#[]⟩, .slice none 0 0] 43)).heap.size = w.heap.size + 3 := by simp
  go_enter Try.func112, Try.ntmps112
  go_wp2
  generalize (((w.alloc (.cells #[.string s.u, .string ft, .slice xa s.es.length xc] 43)).alloc (.cells #[.string fu, .string ft, .slice ia its.length ic] 29)).alloc (.cells #[.string ⟨#[]⟩, .string ⟨#[]⟩, .slice none 0 0] 43)) = W0 at hb0 hS0 hF0 hZ0 hs0 ⊢
  go_loopw [5] (fun i wr => ∃ (k n : Nat) (ya : Option Addr) (yc : Nat), k ≤ its.length ∧ i = .int .i64 (k : Int) ∧ Box wr w.heap.size #[.string s.u, .string ft, .slice ya n yc] 43 ∧ Box wr (w.heap.size + 1) #[.string fu, .string ft, .slice ia its.length ic] 29 ∧ Box wr (w.heap.size + 1 + 1) #[.string ⟨#[]⟩, .string ⟨#[]⟩, .slice none 0 0] 43 ∧ Hid (FyAt wr (w.heap.size + 3) (.slice xa s.es.length xc) (.slice ya n yc) s.es (ftN s.es (its.take k))) ∧ Below w.heap.size w wr ∧ w.heap.size + 3 ≤ wr.heap.size) (fun i _ => its.length - (intOf i).toNat)
  case atStart => exact ⟨0, _, _, _, Nat.zero_le _, rfl, hS0, hF0, hZ0, Lib.hid (.inl ⟨rfl, rfl⟩), hb0, by omega⟩
  case round =>
    obtain ⟨k, n, ya, yc, hk, rfl, hS, hF, hZ, HFy, hB, hsr⟩ := hrel
    clear hb0 hS0 hF0 hZ0 hs0
    have f0 : wr.cell? ⟨w.heap.size + 1, 2, none⟩ = some (.slice ia its.length ic) := hF.cell 2 _ rfl
    by_cases hlt : k < its.length
    · obtain ⟨a', cap', hv, _, _, hc⟩ := (HV.out.below hB).raw
      cases hv
      obtain ⟨b, off, rfl, hb, hrr⟩ := hc k hlt
      obtain ⟨c0, c1, c2, z0, z1⟩ := hrr k hlt
      have HSt := Lib.hid (ftN_step s.es its k hlt)
      have hll := len_ftN s.es (its.take k)
      rw [List.length_take] at hll
      have hrl := ris_ftN HR.out (its.take k)
      have HSzl : Hid (∀ x ∈ ftN s.es (its.take k), EnSz x) := Lib.hid (ftN_sz HE.out.2 (fun x hx => HV.out.2 x (List.mem_of_mem_take hx)))
      obtain ⟨it, hit⟩ : ∃ it, it = its[k] := ⟨_, rfl⟩
      rw [← hit] at c0 c1 c2 HSt
      generalize ftN s.es (its.take k) = LL at HFy HSt hll hrl HSzl
      have HY : Hid (EnAt wr wr.heap.size (.slice ya n yc) LL) := Lib.hid (by
        rcases HFy.out with ⟨h1, h2⟩ | h1
        · rw [h1, h2]; exact (HE.out.below hB).mono hB.size
        · exact ⟨h1.at enC_len, HSzl.out⟩)
      have HP := Lib.hid (fun w h => l9Put_any (.slice ya n yc) LL it w h hrl (by omega))
      unfold OutB at HP
      have hbw : b < wr.heap.size := by have := hB.size; omega
      have hbs : b ≠ w.heap.size := by omega
      have hA : (fun w' => (Box w' (w.heap.size + 1) #[.string fu, .string ft, .slice (some ⟨b, off, none⟩) its.length ic] 29) ∧ w'.cell? ⟨b, off + k * 3, none⟩ = some (.string it.id) ∧ w'.cell? ⟨b, off + k * 3 + 1, none⟩ = some (.string it.ti) ∧ w'.cell? ⟨b, off + k * 3 + 2, none⟩ = some (.int .i64 it.da)) wr.drew := ⟨hF.drew, c0, c1, c2⟩
      have HKA : Hid (∀ w2, Below wr.drew.heap.size wr.drew w2 → (fun w' => (Box w' (w.heap.size + 1) #[.string fu, .string ft, .slice (some ⟨b, off, none⟩) its.length ic] 29) ∧ w'.cell? ⟨b, off + k * 3, none⟩ = some (.string it.id) ∧ w'.cell? ⟨b, off + k * 3 + 1, none⟩ = some (.string it.ti) ∧ w'.cell? ⟨b, off + k * 3 + 2, none⟩ = some (.int .i64 it.da)) w2) := Lib.hid (fun w2 hb2 => by
        have kc : ∀ o x, wr.cell? ⟨b, o, none⟩ = some x → w2.cell? ⟨b, o, none⟩ = some x := fun o x h => by
          rw [hb2.cell (p := ⟨b, o, none⟩) hbw]; exact h
        exact ⟨hF.drew.keep hb2 hF.lt, kc _ _ c0, kc _ _ c1, kc _ _ c2⟩)
      have HKB : Hid (∀ (w2 : World) (u : Value), (fun w' => (Box w' (w.heap.size + 1) #[.string fu, .string ft, .slice (some ⟨b, off, none⟩) its.length ic] 29) ∧ w'.cell? ⟨b, off + k * 3, none⟩ = some (.string it.id) ∧ w'.cell? ⟨b, off + k * 3 + 1, none⟩ = some (.string it.ti) ∧ w'.cell? ⟨b, off + k * 3 + 2, none⟩ = some (.int .i64 it.da)) w2 → (fun w' => (Box w' (w.heap.size + 1) #[.string fu, .string ft, .slice (some ⟨b, off, none⟩) its.length ic] 29) ∧ w'.cell? ⟨b, off + k * 3, none⟩ = some (.string it.id) ∧ w'.cell? ⟨b, off + k * 3 + 1, none⟩ = some (.string it.ti) ∧ w'.cell? ⟨b, off + k * 3 + 2, none⟩ = some (.int .i64 it.da)) (w2.setCell ⟨w.heap.size, 2, none⟩ u)) := Lib.hid (fun w2 u h2 => by
        have kc : ∀ o x, w2.cell? ⟨b, o, none⟩ = some x → (w2.setCell ⟨w.heap.size, 2, none⟩ u).cell? ⟨b, o, none⟩ = some x := fun o x h => by
          rw [World.cell?_setCell_other _ _ _ _ (show (⟨w.heap.size, 2, none⟩ : Addr) ≠ ⟨b, o, none⟩ from fun e => hbs (by cases e; rfl))]; exact h
        exact ⟨h2.1.other ⟨w.heap.size, 2, none⟩ u (show w.heap.size + 1 ≠ w.heap.size by omega), kc _ _ h2.2.1, kc _ _ h2.2.2.1, kc _ _ h2.2.2.2⟩)
      clear hrr hc hit z0 z1
      go_wp2
      refine wp_region_T (fun w' => (Box w' (w.heap.size + 1) #[.string fu, .string ft, .slice (some ⟨b, off, none⟩) its.length ic] 29) ∧ w'.cell? ⟨b, off + k * 3, none⟩ = some (.string it.id) ∧ w'.cell? ⟨b, off + k * 3 + 1, none⟩ = some (.string it.ti) ∧ w'.cell? ⟨b, off + k * 3 + 2, none⟩ = some (.int .i64 it.da)) (fun w' => Box w' w.heap.size #[.string s.u, .string ft, .slice ya n yc] 43) 9 (by kernel_rfl) 10 rfl ?_
      refine wpAnyT_takesA (md := .any) 4 (by kernel_rfl) (by intro d v c a w h; cases d <;> exact h) [0, 2, 3, 4, 5, 6] _ _ _ (by decide) (by kernel_rfl) ⟨hA, fun _ => hS.drew⟩ ?_
      simp only [pick, List.filterMap_cons, List.filterMap_nil, List.getElem?_cons_zero, List.getElem?_cons_succ]
      refine wpIf_step (.pointer (some ⟨w.heap.size, 2, none⟩)) (by kernel_rfl) (fun w hw => by go_simp) ?_
      refine wpIf_step (.pointer (some ⟨w.heap.size + 1, 2, none⟩)) (by kernel_rfl) (fun w hw => by go_simp) ?_
      refine wpIf_step (.slice (some ⟨b, off, none⟩) its.length ic) (by kernel_rfl) (fun w hw => by have e0 := hw.1.cell 2 _ rfl; go_simp) ?_
      refine wpIf_step (.int .i64 (k : Int)) (by kernel_rfl) (fun w hw => by go_simp) ?_
      refine wpIf_step (.pointer (some ⟨b, off + k * 3, none⟩)) (by kernel_rfl) (fun w hw => by go_simp) ?_
      refine wpIf_step (itV it.id it.ti it.da) (by kernel_rfl) (fun w hw => by have e0 := hw.2.1; have e1 := hw.2.2.1; have e2 := hw.2.2.2; go_simp) ?_
      refine wpIf_nil (fun hS0 => ?_)
      refine wpAnyT_takesB (md := .any) 3 (by kernel_rfl) (by intro d v c a w h; cases d <;> exact h) [1] _ _ _ (by decide) (by kernel_rfl) (by kernel_rfl) (by kernel_rfl) hS0 ?_
      simp only [pick, List.filterMap_cons, List.filterMap_nil, List.getElem?_cons_zero, List.getElem?_cons_succ]
      refine wpIf_step (.slice ya n yc) (by kernel_rfl) (fun w hw => by have e0 := hw.2.cell 2 _ rfl; go_simp) ?_
      refine wpIf_nil (fun hS0 => ?_)
      clear hS0
      refine wpAnyT_one 7 2 (by kernel_rfl) rfl (by kernel_rfl) (fun K hK => ?_)
      go_simp
      refine (HP.out wr.drew HY.out).mono ?_
      rintro e w2 ⟨y2, rfl, ho2, hb2⟩
      have hS2 := hS.drew.keep hb2 hS.lt
      have hF2 := hF.drew.keep hb2 hF.lt
      have hZ2 := hZ.drew.keep hb2 hZ.lt
      have hB2 := hB.drew.trans (hb2.mono hB.size)
      have hs2 : w.heap.size + 3 ≤ w2.heap.size := by have h9 := hb2.size; simp only [World.drew] at h9; omega
      have hA2 := HKA.out w2 hb2
      have HO2 := Lib.hid ho2
      obtain ⟨ya2, yc2, rfl⟩ := ho2.slice
      obtain ⟨n2, hn2⟩ : ∃ n, n = (ft1 LL it).length := ⟨_, rfl⟩
      rw [← hn2] at HO2 ⊢
      refine hK _ _ ⟨hA2, fun _ => hS2⟩ (fun hS0 => ?_)
      clear hK K hS0 hb2 ho2 hn2
      refine wpAnyT_takesA (md := .any) 1 (by kernel_rfl) (by intro d v c a w h; cases d <;> exact h) [8] _ _ _ (by decide) (by kernel_rfl) ⟨hA2, fun _ => hS2⟩ ?_
      simp only [pick, List.filterMap_cons, List.filterMap_nil, List.getElem?_cons_zero, List.getElem?_cons_succ]
      refine wpIf_step (.pointer (some ⟨w.heap.size, 2, none⟩)) (by kernel_rfl) (fun w hw => by go_simp) ?_
      refine wpIf_nil (fun hS0 => ?_)
      clear hS0
      have q0 : w2.cell? ⟨w.heap.size, 2, none⟩ = some (.slice ya n yc) := hS2.cell 2 _ rfl
      have qf := hS2.free
      refine wpAnyT_one 9 0 (by kernel_rfl) rfl (by kernel_rfl) (fun K hK => ?_)
      go_simp
      have hA3 := HKB.out w2 (.slice ya2 n2 yc2) hA2
      refine hK _ _ ⟨hA3, fun h => by exact absurd h (by decide)⟩ (fun hS0 => ?_)
      clear hK K hS0 q0 qf hA3 hA2 hA
      refine wpAnyT_over (by kernel_rfl) ?_
      have hS3 := hS2.set 2 (.slice ya2 n2 yc2)
      have hF3 := hF2.other ⟨w.heap.size, 2, none⟩ (.slice ya2 n2 yc2) (show w.heap.size + 1 ≠ w.heap.size by omega)
      have hZ3 := hZ2.other ⟨w.heap.size, 2, none⟩ (.slice ya2 n2 yc2) (show w.heap.size + 1 + 1 ≠ w.heap.size by omega)
      have hB3 := hB2.setCell (p := ⟨w.heap.size, 2, none⟩) (Nat.le_refl _) (.slice ya2 n2 yc2)
      have HO3 : Hid (FyAt (w2.setCell ⟨w.heap.size, 2, none⟩ (.slice ya2 n2 yc2)) (w.heap.size + 3) (.slice xa s.es.length xc) (.slice ya2 n2 yc2) s.es (ftN s.es (its.take (k + 1)))) := Lib.hid (.inr (by rw [HSt.out]; exact (HO2.out.base_mono (show w.heap.size + 3 ≤ wr.drew.heap.size from hsr)).other ⟨w.heap.size, 2, none⟩ _ (show w.heap.size < w.heap.size + 3 by omega)))
      have hs3 : w.heap.size + 3 ≤ (w2.setCell ⟨w.heap.size, 2, none⟩ (.slice ya2 n2 yc2)).heap.size := by simpa [World.setCell] using hs2
      generalize w2.setCell ⟨w.heap.size, 2, none⟩ (.slice ya2 n2 yc2) = W3 at hS3 hF3 hZ3 hB3 HO3 hs3 ⊢
      clear hS2 hF2 hZ2 hB2 hS hF hZ hB hs2 HP HY HO2
      go_wp2
      refine ⟨⟨k + 1, n2, ya2, yc2, by omega, by simp, hS3, hF3, hZ3, HO3, hB3, hs3⟩, ?_⟩
      simp [intOf]; omega
    · have HFy0 : Hid (∃ M m, FyAt wr (w.heap.size + 3) (.slice xa s.es.length xc) (.slice ya n yc) s.es M ∧ cutE m M = ftV s.es its ∧ M.length ≤ m + 12 ∧ risB (enKs M) = true ∧ (∀ x ∈ M, EnSz x) ∧ M.length ≤ 200) := Lib.hid (by
        have h1 := HFy.out
        rw [List.take_of_length_le (by omega)] at h1
        refine ⟨_, s.es.length + its.length, h1, rfl, ?_, ris_ftN HR.out its, ftN_sz HE.out.2 HV.out.2, ?_⟩
        · have := len_ftN s.es its; omega
        · have := len_ftN s.es its; omega)
      have hkd : decide ((k : Int) < (its.length : Int)) = false := decide_eq_false (by omega)
      clear HFy hk
      go_wp2
      go_loopw [6] (fun _ wr => ∃ (n : Nat) (ya : Option Addr) (yc : Nat) (M : List En) (m : Nat), Box wr w.heap.size #[.string s.u, .string ft, .slice ya n yc] 43 ∧ Box wr (w.heap.size + 1 + 1) #[.string ⟨#[]⟩, .string ⟨#[]⟩, .slice none 0 0] 43 ∧ Hid (FyAt wr (w.heap.size + 3) (.slice xa s.es.length xc) (.slice ya n yc) s.es M) ∧ Hid (cutE m M = ftV s.es its) ∧ M.length ≤ m + 12 ∧ Hid (risB (enKs M) = true ∧ ∀ x ∈ M, EnSz x) ∧ M.length ≤ 200 ∧ n = M.length ∧ Below w.heap.size w wr ∧ w.heap.size + 3 ≤ wr.heap.size) (fun _ wr => lenIn wr w.heap.size)
      case atStart =>
        obtain ⟨M, m, h1, h2, h3, h4, h5, h6⟩ := HFy0.out
        refine ⟨n, ya, yc, M, m, hS, hZ, Lib.hid h1, Lib.hid h2, h3, Lib.hid ⟨h4, h5⟩, h6, ?_, hB, hsr⟩
        rcases h1 with ⟨e1, e2⟩ | e1
        · cases e1; rw [e2]
        · obtain ⟨_, _, e2⟩ := e1.slice; cases e2; rfl
      case round =>
        obtain ⟨n, ya, yc, M, m, hS, hZ, HFy, HCu, hmm, HMr, hM2, rfl, hB, hsr⟩ := hrel
        clear f0 HFy0
        have f2 : wr.cell? ⟨w.heap.size, 2, none⟩ = some (.slice ya M.length yc) := hS.cell 2 _ rfl
        have HY : Hid (EnAt wr wr.heap.size (.slice ya M.length yc) M) := Lib.hid (by
          rcases HFy.out with ⟨h1, h2⟩ | h1
          · rw [h1, h2]; exact (HE.out.below hB).mono hB.size
          · exact ⟨h1.at enC_len, HMr.out.2⟩)
        by_cases h12 : 12 < M.length
        · obtain ⟨m', rfl⟩ : ∃ m', m = m' + 1 := ⟨m - 1, by omega⟩
          have HV2 : Hid (cutE m' (cut1 M) = ftV s.es its) := Lib.hid (by rw [← HCu.out]; conv => rhs; unfold cutE; rw [if_pos h12])
          have hlc := len_cut1 M (by omega)
          have hgo := (goP_lt M M.length).2 (by omega)
          have HGo := Lib.hid (fun w h => l9Oldest_any (.slice ya M.length yc) M w h (by omega))
          have HSz : Hid (risB (enKs (cut1 M)) = true ∧ ∀ x ∈ cut1 M, EnSz x) := Lib.hid ⟨ris_cut1 HMr.out.1, sz_cut HMr.out.2⟩
          have HCt : Hid (cut1 M = M.take (goP M M.length) ++ M.drop (goP M M.length + 1)) := Lib.hid rfl
          generalize goP M M.length = P at HGo hgo HCt
          obtain ⟨L, hL⟩ : ∃ L, L = cut1 M := ⟨_, rfl⟩
          rw [← hL] at HCt HV2 hlc HSz
          obtain ⟨a', cap', hv, hyl, hym, hc⟩ := HY.out.raw
          cases hv
          obtain ⟨b, off, rfl, hbB, _⟩ := hc 0 (by omega)
          unfold maxLen at hym
          have hd12 : decide (12 < (M.length : Int)) = true := decide_eq_true (by omega)
          have HF2 := Lib.hid f2
          clear hc hL HCu HFy
          go_wp2_with fail
          refine (HGo.out _ HY.out).mono ?_
          rintro e w1 ⟨rfl, hb1⟩
          have hS1 := hS.keep hb1 hS.lt
          have hZ1 := hZ.keep hb1 hZ.lt
          have hB1 := hB.trans (hb1.mono hB.size)
          have hs1 : w.heap.size + 3 ≤ w1.heap.size := by have := hb1.size; omega
          clear hS hZ hB f2
          rcases Nat.eq_or_lt_of_le (show P + 1 ≤ yc by omega) with hcp | hcp
          · have HCp := Lib.hid hcp
            clear hcp
            go_wp2
            refine wp_region_T (fun _ => True) (fun w' => Box w' w.heap.size #[.string s.u, .string ft, .slice (some ⟨b, off, none⟩) M.length yc] 43) 13 (by kernel_rfl) 14 rfl ?_
            have hSd := hS1.drew
            have hZd := hZ1.drew
            have hBd := hB1.drew
            have HRd : Hid (RecAt 5 enC w1.drew w1.drew.heap.size (.slice (some ⟨b, off, none⟩) M.length yc) M) := Lib.hid ((HY.out.below hb1.drew).mono hb1.drew.size).1
            have hsd : w.heap.size + 3 ≤ w1.drew.heap.size := hs1
            clear hS1 hZ1 hB1 hb1 hs1
            generalize w1.drew = W at hSd hZd hBd HRd hsd ⊢
            refine wpAnyT_takesA (md := .any) 9 (by kernel_rfl) (by intro d v c a w h; cases d <;> exact h) [1, 3, 6, 8, 9] _ _ _ (by decide) (by kernel_rfl) ⟨trivial, fun _ => hSd⟩ ?_
            simp only [pick, List.filterMap_cons, List.filterMap_nil, List.getElem?_cons_zero, List.getElem?_cons_succ]
            refine wpIf_step (.pointer (some ⟨w.heap.size, 2, none⟩)) (by kernel_rfl) (fun w hw => by go_simp) ?_
            refine wpIf_step (.int .i64 (P : Int)) (by kernel_rfl) (fun w hw => by go_simp) ?_
            refine wpIf_step (.pointer (some ⟨w.heap.size, 2, none⟩)) (by kernel_rfl) (fun w hw => by go_simp) ?_
            refine wpIf_step (.int .i64 (P : Int)) (by kernel_rfl) (fun w hw => by go_simp) ?_
            refine wpIf_step (.int .i64 ((P : Int) + 1)) (by kernel_rfl) (fun w hw => by go_simp; rw [IntKind.wrap_i64]; omega) ?_
            refine wpIf_nil (fun hS0 => ?_)
            refine wpAnyT_takesB (md := .any) 7 (by kernel_rfl) (by intro d v c a w h; cases d <;> exact h) [2, 7] _ _ _ (by decide) (by kernel_rfl) (by kernel_rfl) (by kernel_rfl) hS0 ?_
            simp only [pick, List.filterMap_cons, List.filterMap_nil, List.getElem?_cons_zero, List.getElem?_cons_succ]
            refine wpIf_step (.slice (some ⟨b, off, none⟩) M.length yc) (by kernel_rfl) (fun w hw => by have e0 := hw.2.cell 2 _ rfl; go_simp) ?_
            refine wpIf_step (.slice (some ⟨b, off, none⟩) M.length yc) (by kernel_rfl) (fun w hw => by have e0 := hw.2.cell 2 _ rfl; go_simp) ?_
            refine wpIf_nil (fun hS0 => ?_)
            clear hS0
            refine wpAnyT_takesA (md := .any) 5 (by kernel_rfl) (by intro d v c a w h; cases d <;> exact h) [4, 10] _ _ _ (by decide) (by kernel_rfl) ⟨trivial, fun _ => hSd⟩ ?_
            simp only [pick, List.filterMap_cons, List.filterMap_nil, List.getElem?_cons_zero, List.getElem?_cons_succ]
            refine wpIf_step (.slice (some ⟨b, off, none⟩) P yc) (by kernel_rfl) (fun w hw => by go_simp; intro h; omega) ?_
            refine wpIf_step (.slice (some ⟨b, off, none⟩) (M.length - (P + 1)) (yc - (P + 1))) (by kernel_rfl) (fun w hw => by go_simp; rw [if_pos (show (0 : Int) ≤ (P : Int) + 1 ∧ (P : Int) + 1 ≤ (M.length : Int) by omega), if_pos (show yc = P + 1 from HCp.out.symm)]) ?_
            refine wpIf_nil (fun hS0 => ?_)
            clear hS0
            refine wpAnyT_one 0 4 (by kernel_rfl) rfl (by kernel_rfl) (fun K hK => ?_)
            go_simp
            refine hK _ _ ⟨trivial, fun _ => hSd.alloc _⟩ (fun hS0 => ?_)
            clear hK K hS0
            have HL0 := Lib.hid (OwnR.lit (k := 5) (C := enC) 47 W (w.heap.size + 3) hsd)
            have HT0 : Hid (RecAt 5 enC (W.alloc (.cells #[] 47)) W.heap.size (.slice (some ⟨b, off, none⟩) P yc) (M.take P)) := Lib.hid ((HRd.out.take P (by omega)).below ((Below.refl _ _).alloc (Nat.le_refl _) _))
            have htl : (M.take P).length = P := by rw [List.length_take]; omega
            have hdl : (M.drop (P + 1)).length = M.length - (P + 1) := List.length_drop
            obtain ⟨v3, w3, hrun3, hown3, hg3⟩ := appR_run (P := Try.prog) (t := 41) enC_len (by decide) Try.underlying41 Try.infoEntry rfl (by decide) HL0.out HT0.out (fun y _ => enC_one y) (by simp; omega) (by simp; omega) 41
            rw [List.nil_append] at hown3
            have hb3 : Below (w.heap.size + 3) W w3 := ((Below.refl _ _).alloc hsd _).trans (gb_Below hg3 (by simp; omega) (ownBlock_base HL0.out))
            have hb3W : Below W.heap.size W w3 := ((Below.refl _ _).alloc (Nat.le_refl _) _).trans (gb_Below hg3 (by simp) (by intro b hb; cases hb; exact Nat.le_refl _))
            obtain ⟨v3a, v3c, rfl⟩ := hown3.slice
            rw [htl] at hown3 hrun3
            refine wpAnyT_one 5 3 (by kernel_rfl) rfl (by kernel_rfl) (fun K hK => ?_)
            refine wp_appE (.tmp 33) (.tmp 37) rfl _ _ (.slice v3a P v3c) rfl rfl hrun3 ?_
            have hS3 := hSd.keep hb3 (by omega)
            have hZ3 := hZd.keep hb3 (by omega)
            have hB3 := hBd.trans (hb3.mono (by omega))
            have hs3 : w.heap.size + 3 ≤ w3.heap.size := by have := hb3.size; omega
            have HR3 : Hid (RecAt 5 enC w3 W.heap.size (.slice (some ⟨b, off, none⟩) (M.length - (P + 1)) (yc - (P + 1))) (M.drop (P + 1))) := Lib.hid (by exact (HRd.out.below hb3W).drop (P + 1) (by omega) (fun h b2 off2 hab => absurd h (by have := HCp.out; omega)))
            go_simp
            refine hK _ _ ⟨trivial, fun _ => hS3⟩ (fun hS0 => ?_)
            clear hK K hS0
            obtain ⟨v4, w4, hrun4, hown4, hg4⟩ := appR_run (P := Try.prog) (t := 41) enC_len (by decide) Try.underlying41 Try.infoEntry rfl (by decide) hown3 HR3.out (fun y _ => enC_one y) (by omega) hs3 41
            have hb4 : Below (w.heap.size + 3) w3 w4 := gb_Below hg4 hs3 (ownBlock_base hown3)
            rw [← HCt.out] at hown4
            obtain ⟨v4a, v4c, rfl⟩ := hown4.slice
            refine wpAnyT_one 11 2 (by kernel_rfl) rfl (by kernel_rfl) (fun K hK => ?_)
            refine wp_appE (.tmp 38) (.tmp 43) rfl _ _ (.slice v4a L.length v4c) rfl rfl hrun4 ?_
            have hS4 := hS3.keep hb4 (by omega)
            have hZ4 := hZ3.keep hb4 (by omega)
            have hB4 := hB3.trans (hb4.mono (by omega))
            have hs4 : w.heap.size + 3 ≤ w4.heap.size := by have := hb4.size; omega
            go_simp
            refine hK _ _ ⟨trivial, fun _ => hS4⟩ (fun hS0 => ?_)
            clear hK K hS0
            refine wpAnyT_takesA (md := .any) 1 (by kernel_rfl) (by intro d v c a w h; cases d <;> exact h) [12] _ _ _ (by decide) (by kernel_rfl) ⟨trivial, fun _ => hS4⟩ ?_
            simp only [pick, List.filterMap_cons, List.filterMap_nil, List.getElem?_cons_zero, List.getElem?_cons_succ]
            refine wpIf_step (.pointer (some ⟨w.heap.size, 2, none⟩)) (by kernel_rfl) (fun w hw => by go_simp) ?_
            refine wpIf_nil (fun hS0 => ?_)
            clear hS0
            have q0 : w4.cell? ⟨w.heap.size, 2, none⟩ = some (.slice (some ⟨b, off, none⟩) M.length yc) := hS4.cell 2 _ rfl
            have qf := hS4.free
            refine wpAnyT_one 13 0 (by kernel_rfl) rfl (by kernel_rfl) (fun K hK => ?_)
            go_simp
            refine hK _ _ ⟨trivial, fun h => by exact absurd h (by decide)⟩ (fun hS0 => ?_)
            clear hK K hS0 q0 qf
            refine wpAnyT_over (by kernel_rfl) ?_
            have hS5 := hS4.set 2 (.slice v4a L.length v4c)
            have hZ5 := hZ4.other ⟨w.heap.size, 2, none⟩ (.slice v4a L.length v4c) (show w.heap.size + 1 + 1 ≠ w.heap.size by omega)
            have hB5 := hB4.setCell (p := ⟨w.heap.size, 2, none⟩) (Nat.le_refl _) (.slice v4a L.length v4c)
            have HO5 : Hid (FyAt (w4.setCell ⟨w.heap.size, 2, none⟩ (.slice v4a L.length v4c)) (w.heap.size + 3) (.slice xa s.es.length xc) (.slice v4a L.length v4c) s.es L) := Lib.hid (.inr (hown4.other ⟨w.heap.size, 2, none⟩ _ (show w.heap.size < w.heap.size + 3 by omega)))
            have hs5 : w.heap.size + 3 ≤ (w4.setCell ⟨w.heap.size, 2, none⟩ (.slice v4a L.length v4c)).heap.size := by simpa [World.setCell] using hs4
            generalize w4.setCell ⟨w.heap.size, 2, none⟩ (.slice v4a L.length v4c) = W5 at hS5 hZ5 hB5 HO5 hs5 ⊢
            have HM5 : Hid (lenIn W5 w.heap.size < lenIn wr w.heap.size) := Lib.hid (by unfold lenIn; rw [hS5.cell 2 _ rfl, HF2.out]; simp; omega)
            clear hS4 hZ4 hB4 hS3 hZ3 hB3 hSd hZd hBd hown4 hown3 hb3 hb3W hb4 hrun3 hrun4 hg3 hg4
            go_wp2
            exact ⟨⟨L.length, v4a, v4c, L, m', hS5, hZ5, HO5, HV2, by omega, HSz, by omega, rfl, hB5, hs5⟩, HM5.out⟩
          · have HCp := Lib.hid hcp
            clear hcp
            go_wp2
            refine wp_region_T (fun _ => True) (fun w' => Box w' w.heap.size #[.string s.u, .string ft, .slice (some ⟨b, off, none⟩) M.length yc] 43) 13 (by kernel_rfl) 14 rfl ?_
            have hSd := hS1.drew
            have hZd := hZ1.drew
            have hBd := hB1.drew
            have HRd : Hid (RecAt 5 enC w1.drew w1.drew.heap.size (.slice (some ⟨b, off, none⟩) M.length yc) M) := Lib.hid ((HY.out.below hb1.drew).mono hb1.drew.size).1
            have hsd : w.heap.size + 3 ≤ w1.drew.heap.size := hs1
            clear hS1 hZ1 hB1 hb1 hs1
            generalize w1.drew = W at hSd hZd hBd HRd hsd ⊢
            refine wpAnyT_takesA (md := .any) 9 (by kernel_rfl) (by intro d v c a w h; cases d <;> exact h) [1, 3, 6, 8, 9] _ _ _ (by decide) (by kernel_rfl) ⟨trivial, fun _ => hSd⟩ ?_
            simp only [pick, List.filterMap_cons, List.filterMap_nil, List.getElem?_cons_zero, List.getElem?_cons_succ]
            refine wpIf_step (.pointer (some ⟨w.heap.size, 2, none⟩)) (by kernel_rfl) (fun w hw => by go_simp) ?_
            refine wpIf_step (.int .i64 (P : Int)) (by kernel_rfl) (fun w hw => by go_simp) ?_
            refine wpIf_step (.pointer (some ⟨w.heap.size, 2, none⟩)) (by kernel_rfl) (fun w hw => by go_simp) ?_
            refine wpIf_step (.int .i64 (P : Int)) (by kernel_rfl) (fun w hw => by go_simp) ?_
            refine wpIf_step (.int .i64 ((P : Int) + 1)) (by kernel_rfl) (fun w hw => by go_simp; rw [IntKind.wrap_i64]; omega) ?_
            refine wpIf_nil (fun hS0 => ?_)
            refine wpAnyT_takesB (md := .any) 7 (by kernel_rfl) (by intro d v c a w h; cases d <;> exact h) [2, 7] _ _ _ (by decide) (by kernel_rfl) (by kernel_rfl) (by kernel_rfl) hS0 ?_
            simp only [pick, List.filterMap_cons, List.filterMap_nil, List.getElem?_cons_zero, List.getElem?_cons_succ]
            refine wpIf_step (.slice (some ⟨b, off, none⟩) M.length yc) (by kernel_rfl) (fun w hw => by have e0 := hw.2.cell 2 _ rfl; go_simp) ?_
            refine wpIf_step (.slice (some ⟨b, off, none⟩) M.length yc) (by kernel_rfl) (fun w hw => by have e0 := hw.2.cell 2 _ rfl; go_simp) ?_
            refine wpIf_nil (fun hS0 => ?_)
            clear hS0
            refine wpAnyT_takesA (md := .any) 5 (by kernel_rfl) (by intro d v c a w h; cases d <;> exact h) [4, 10] _ _ _ (by decide) (by kernel_rfl) ⟨trivial, fun _ => hSd⟩ ?_
            simp only [pick, List.filterMap_cons, List.filterMap_nil, List.getElem?_cons_zero, List.getElem?_cons_succ]
            refine wpIf_step (.slice (some ⟨b, off, none⟩) P yc) (by kernel_rfl) (fun w hw => by go_simp; intro h; omega) ?_
            refine wpIf_step (.slice (some ⟨b, off + (P + 1) * 5, none⟩) (M.length - (P + 1)) (yc - (P + 1))) (by kernel_rfl) (fun w hw => by go_simp; rw [if_pos (show (0 : Int) ≤ (P : Int) + 1 ∧ (P : Int) + 1 ≤ (M.length : Int) by omega), if_neg (show ¬ yc = P + 1 by have := HCp.out; omega)]) ?_
            refine wpIf_nil (fun hS0 => ?_)
            clear hS0
            refine wpAnyT_one 0 4 (by kernel_rfl) rfl (by kernel_rfl) (fun K hK => ?_)
            go_simp
            refine hK _ _ ⟨trivial, fun _ => hSd.alloc _⟩ (fun hS0 => ?_)
            clear hK K hS0
            have HL0 := Lib.hid (OwnR.lit (k := 5) (C := enC) 47 W (w.heap.size + 3) hsd)
            have HT0 : Hid (RecAt 5 enC (W.alloc (.cells #[] 47)) W.heap.size (.slice (some ⟨b, off, none⟩) P yc) (M.take P)) := Lib.hid ((HRd.out.take P (by omega)).below ((Below.refl _ _).alloc (Nat.le_refl _) _))
            have htl : (M.take P).length = P := by rw [List.length_take]; omega
            have hdl : (M.drop (P + 1)).length = M.length - (P + 1) := List.length_drop
            obtain ⟨v3, w3, hrun3, hown3, hg3⟩ := appR_run (P := Try.prog) (t := 41) enC_len (by decide) Try.underlying41 Try.infoEntry rfl (by decide) HL0.out HT0.out (fun y _ => enC_one y) (by simp; omega) (by simp; omega) 41
            rw [List.nil_append] at hown3
            have hb3 : Below (w.heap.size + 3) W w3 := ((Below.refl _ _).alloc hsd _).trans (gb_Below hg3 (by simp; omega) (ownBlock_base HL0.out))
            have hb3W : Below W.heap.size W w3 := ((Below.refl _ _).alloc (Nat.le_refl _) _).trans (gb_Below hg3 (by simp) (by intro b hb; cases hb; exact Nat.le_refl _))
            obtain ⟨v3a, v3c, rfl⟩ := hown3.slice
            rw [htl] at hown3 hrun3
            refine wpAnyT_one 5 3 (by kernel_rfl) rfl (by kernel_rfl) (fun K hK => ?_)
            refine wp_appE (.tmp 33) (.tmp 37) rfl _ _ (.slice v3a P v3c) rfl rfl hrun3 ?_
            have hS3 := hSd.keep hb3 (by omega)
            have hZ3 := hZd.keep hb3 (by omega)
            have hB3 := hBd.trans (hb3.mono (by omega))
            have hs3 : w.heap.size + 3 ≤ w3.heap.size := by have := hb3.size; omega
            have HR3 : Hid (RecAt 5 enC w3 W.heap.size (.slice (some ⟨b, off + (P + 1) * 5, none⟩) (M.length - (P + 1)) (yc - (P + 1))) (M.drop (P + 1))) := Lib.hid (by exact (HRd.out.below hb3W).drop (P + 1) (by omega) (fun _ b2 off2 hab => by cases hab; rfl))
            go_simp
            refine hK _ _ ⟨trivial, fun _ => hS3⟩ (fun hS0 => ?_)
            clear hK K hS0
            obtain ⟨v4, w4, hrun4, hown4, hg4⟩ := appR_run (P := Try.prog) (t := 41) enC_len (by decide) Try.underlying41 Try.infoEntry rfl (by decide) hown3 HR3.out (fun y _ => enC_one y) (by omega) hs3 41
            have hb4 : Below (w.heap.size + 3) w3 w4 := gb_Below hg4 hs3 (ownBlock_base hown3)
            rw [← HCt.out] at hown4
            obtain ⟨v4a, v4c, rfl⟩ := hown4.slice
            refine wpAnyT_one 11 2 (by kernel_rfl) rfl (by kernel_rfl) (fun K hK => ?_)
            refine wp_appE (.tmp 38) (.tmp 43) rfl _ _ (.slice v4a L.length v4c) rfl rfl hrun4 ?_
            have hS4 := hS3.keep hb4 (by omega)
            have hZ4 := hZ3.keep hb4 (by omega)
            have hB4 := hB3.trans (hb4.mono (by omega))
            have hs4 : w.heap.size + 3 ≤ w4.heap.size := by have := hb4.size; omega
            go_simp
            refine hK _ _ ⟨trivial, fun _ => hS4⟩ (fun hS0 => ?_)
            clear hK K hS0
            refine wpAnyT_takesA (md := .any) 1 (by kernel_rfl) (by intro d v c a w h; cases d <;> exact h) [12] _ _ _ (by decide) (by kernel_rfl) ⟨trivial, fun _ => hS4⟩ ?_
            simp only [pick, List.filterMap_cons, List.filterMap_nil, List.getElem?_cons_zero, List.getElem?_cons_succ]
            refine wpIf_step (.pointer (some ⟨w.heap.size, 2, none⟩)) (by kernel_rfl) (fun w hw => by go_simp) ?_
            refine wpIf_nil (fun hS0 => ?_)
            clear hS0
            have q0 : w4.cell? ⟨w.heap.size, 2, none⟩ = some (.slice (some ⟨b, off, none⟩) M.length yc) := hS4.cell 2 _ rfl
            have qf := hS4.free
            refine wpAnyT_one 13 0 (by kernel_rfl) rfl (by kernel_rfl) (fun K hK => ?_)
            go_simp
            refine hK _ _ ⟨trivial, fun h => by exact absurd h (by decide)⟩ (fun hS0 => ?_)
            clear hK K hS0 q0 qf
            refine wpAnyT_over (by kernel_rfl) ?_
            have hS5 := hS4.set 2 (.slice v4a L.length v4c)
            have hZ5 := hZ4.other ⟨w.heap.size, 2, none⟩ (.slice v4a L.length v4c) (show w.heap.size + 1 + 1 ≠ w.heap.size by omega)
            have hB5 := hB4.setCell (p := ⟨w.heap.size, 2, none⟩) (Nat.le_refl _) (.slice v4a L.length v4c)
            have HO5 : Hid (FyAt (w4.setCell ⟨w.heap.size, 2, none⟩ (.slice v4a L.length v4c)) (w.heap.size + 3) (.slice xa s.es.length xc) (.slice v4a L.length v4c) s.es L) := Lib.hid (.inr (hown4.other ⟨w.heap.size, 2, none⟩ _ (show w.heap.size < w.heap.size + 3 by omega)))
            have hs5 : w.heap.size + 3 ≤ (w4.setCell ⟨w.heap.size, 2, none⟩ (.slice v4a L.length v4c)).heap.size := by simpa [World.setCell] using hs4
            generalize w4.setCell ⟨w.heap.size, 2, none⟩ (.slice v4a L.length v4c) = W5 at hS5 hZ5 hB5 HO5 hs5 ⊢
            have HM5 : Hid (lenIn W5 w.heap.size < lenIn wr w.heap.size) := Lib.hid (by unfold lenIn; rw [hS5.cell 2 _ rfl, HF2.out]; simp; omega)
            clear hS4 hZ4 hB4 hS3 hZ3 hB3 hSd hZd hBd hown4 hown3 hb3 hb3W hb4 hrun3 hrun4 hg3 hg4
            go_wp2
            exact ⟨⟨L.length, v4a, v4c, L, m', hS5, hZ5, HO5, HV2, by omega, HSz, by omega, rfl, hB5, hs5⟩, HM5.out⟩
        · have hd12 : decide (12 < (M.length : Int)) = false := decide_eq_false (by omega)
          have HMe : Hid (M = ftV s.es its) := Lib.hid (by rw [← HCu.out, cutE_end _ _ h12])
          have f0 : wr.cell? ⟨w.heap.size, 0, none⟩ = some (.string s.u) := hS.cell 0 _ rfl
          have f1 : wr.cell? ⟨w.heap.size, 1, none⟩ = some (.string ft) := hS.cell 1 _ rfl
          have z0 : wr.cell? ⟨w.heap.size + 1 + 1, 0, none⟩ = some (.string ⟨#[]⟩) := hZ.cell 0 _ rfl
          have z1 : wr.cell? ⟨w.heap.size + 1 + 1, 1, none⟩ = some (.string ⟨#[]⟩) := hZ.cell 1 _ rfl
          have z2 : wr.cell? ⟨w.heap.size + 1 + 1, 2, none⟩ = some (.slice none 0 0) := hZ.cell 2 _ rfl
          have zf := hZ.free
          have HZ := Lib.hid hZ
          have HB := Lib.hid hB
          clear hS hZ hB HY h12 HCu
          go_wp2
          have hZe := ((HZ.out.set 0 (.string s.u)).set 1 (.string ft)).set 2 (.slice ya M.length yc)
          have hBe := ((HB.out.setCell (p := ⟨w.heap.size + 1 + 1, 0, none⟩) (show w.heap.size ≤ w.heap.size + 1 + 1 by omega) (.string s.u)).setCell (p := ⟨w.heap.size + 1 + 1, 1, none⟩) (show w.heap.size ≤ w.heap.size + 1 + 1 by omega) (.string ft)).setCell (p := ⟨w.heap.size + 1 + 1, 2, none⟩) (show w.heap.size ≤ w.heap.size + 1 + 1 by omega) (.slice ya M.length yc)
          have hFe : FyAt (((wr.setCell ⟨w.heap.size + 1 + 1, 0, none⟩ (.string s.u)).setCell ⟨w.heap.size + 1 + 1, 1, none⟩ (.string ft)).setCell ⟨w.heap.size + 1 + 1, 2, none⟩ (.slice ya M.length yc)) w.heap.size (.slice xa s.es.length xc) (.slice ya M.length yc) s.es (ftV s.es its) := by
            rw [← HMe.out]
            rcases HFy.out with h1 | h1
            · exact .inl h1
            · exact .inr ((((h1.other ⟨w.heap.size + 1 + 1, 0, none⟩ _ (show w.heap.size + 1 + 1 < w.heap.size + 3 by omega)).other ⟨w.heap.size + 1 + 1, 1, none⟩ _ (show w.heap.size + 1 + 1 < w.heap.size + 3 by omega)).other ⟨w.heap.size + 1 + 1, 2, none⟩ _ (show w.heap.size + 1 + 1 < w.heap.size + 3 by omega)).base_mono (by omega))
          generalize ((wr.setCell ⟨w.heap.size + 1 + 1, 0, none⟩ (.string s.u)).setCell ⟨w.heap.size + 1 + 1, 1, none⟩ (.string ft)).setCell ⟨w.heap.size + 1 + 1, 2, none⟩ (.slice ya M.length yc) = We at hZe hBe hFe ⊢
          have p0 : We.cell? ⟨w.heap.size + 1 + 1, 0, none⟩ = some (.string s.u) := hZe.cell 0 _ rfl
          have p1 : We.cell? ⟨w.heap.size + 1 + 1, 1, none⟩ = some (.string ft) := hZe.cell 1 _ rfl
          have p2 : We.cell? ⟨w.heap.size + 1 + 1, 2, none⟩ = some (.slice ya M.length yc) := hZe.cell 2 _ rfl
          exact bodyPost_ret (v := sbV s.u ft (.slice ya M.length yc)) (by simp [results, Try.results112, go_sem, p0, p1, p2]) rfl ⟨_, rfl, hFe, hBe⟩
end Go.Proofs.Ytffkakpbelknaaa

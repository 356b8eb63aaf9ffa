/- Joined: Y9j, Y9r, Y9f, M9f, Y9k. -/
import Derived.Test.YtffkakpbelknaaaH32
import Derived.Test.YtffkakpbelknaaaH35
import Derived.Test.YtffkakpbelknaaaH42
import Derived.Test.YtffkakpbelknaaaH43
import Derived.Test.YtffkakpbelknaaaH44
import Derived.Test.YtffkakpbelknaaaH45
import Derived.Test.YtffkakpbelknaaaH46
import Derived.Test.YtffkakpbelknaaaH47
/- Y9j -/
namespace Go.Proofs.Ytffkakpbelknaaa
open Go.ChangeShapes Go.WideShapes Go.ChangeAt Go.RowKit
set_option linter.unusedVariables false

theorem l9Done_any (v x : Value) (ss : List Sb) (o : OpD) (w : World) (h : SbAt w w.heap.size v ss) (hx : ItAt w w.heap.size x o.its) (hr : rdB ss = true) (hop : opB o = true) :
    Calls Try.prog 53 #[.agg #[v], opV o x] w (OutDn (doI ss o) w) := by
  by_cases hk1 : o.k = 1
  · cases hf : fnB (sbKs ss) o.u with
    | true =>
      refine (l9Done_there v x ss o w h hx hr hk1 hf).mono ?_
      rintro e w' ⟨h1, h2⟩
      exact OutDn.none11 (by unfold doI; rw [if_pos hk1, if_pos (.inl hf)]) h1 h2
    | false =>
      by_cases h6 : ss.length = 6
      · refine (l9Done_full v x ss o w h hx hr hk1 hf h6).mono ?_
        rintro e w' ⟨h1, h2⟩
        exact OutDn.none11 (by unfold doI; rw [if_pos hk1, if_pos (.inr h6)]) h1 h2
      · exact l9Done_add v x ss o w h hx hr hk1 hf h6
  · by_cases hk9 : o.k = 9
    · exact l9Done_purge v x ss o w h hx hr hk9
    · have hdo : doI ss o = chV ss o := by unfold doI; rw [if_neg hk1, if_neg hk9]
      cases hf : fnB (sbKs ss) (opU o) with
      | false =>
        refine (l9Done_gone v x ss o w h hx hr hk1 hk9 hf).mono ?_
        rintro e w' ⟨h1, h2⟩
        refine OutDn.none11 ?_ h1 h2
        rw [hdo]
        unfold chV
        rw [hf]
        split <;> simp
      | true =>
        by_cases hk3 : o.k = 3
        · have hu : opU o = o.fu := by unfold opU; rw [if_pos hk3]
          rw [hu] at hf
          exact l9Done_fetch v x ss o w h hx hr hk3 hop hf _ rfl (fn_pl hf)
        · have hu : opU o = o.u := by unfold opU; rw [if_neg hk3]
          rw [hu] at hf
          by_cases hk2 : o.k = 2
          · exact l9Done_drop v x ss o w h hx hr hk2 hf _ rfl (fn_pl hf)
          · by_cases hk8 : o.k = 8
            · exact l9Done_all v x ss o w h hx hr hk8 hf _ rfl (fn_pl hf)
            · have hk : o.k = 4 ∨ o.k = 5 ∨ o.k = 6 ∨ o.k = 7 := by have := op_kinds hop; omega
              cases hfe : fnB (enKs (ss[plK (sbKs ss) o.u]'(fn_pl hf)).es) o.i with
              | true => exact l9Done_mark v x ss o w h hx hr hk hf _ rfl (fn_pl hf) hfe
              | false =>
                refine (l9Done_noentry v x ss o w h hx hr hk hf _ rfl (fn_pl hf) hfe).mono ?_
                rintro e w' ⟨h1, h2⟩
                refine OutDn.none11 ?_ h1 h2
                rw [hdo, chV_at (by rw [hu]; exact hf) (by rw [hu]) (fn_pl hf), if_neg hk2, if_neg hk8, if_neg hk3, if_neg (by rw [hfe]; simp)]

theorem specDone_any (v x : Value) (ss : List Sb) (o : OpD) (w : World) (h : SbAt w w.heap.size v ss) (hx : ItAt w w.heap.size x o.its) (hz : OpSz o) :
    Calls Try.prog 17 #[.agg #[v], opV o x] w (OutDn (doV ss o) w) :=
  specDone_of (Lib.hid (fun v x ss o w h hx hz hr hop => l9Done_any v x ss o w h hx hr hop)) v x ss o w h hx hz
end Go.Proofs.Ytffkakpbelknaaa

/- Y9r -/
namespace Go.Proofs.Ytffkakpbelknaaa
open Go.ChangeShapes Go.WideShapes Go.ChangeAt Go.RowKit
set_option linter.unusedVariables false

def itmB (x : It) : Bool := itB x.id x.ti x.da
theorem sb_iff (s : Sb) : sbB s = true ↔ nmB s.u 20 = true ∧ ttB s.t = true ∧ s.es.length ≤ 12 ∧ (∀ x ∈ s.es, itmB x.it = true) ∧ risB (enKs s.es) = true := by
  unfold sbB ensB itmB
  simp only [Bool.and_eq_true, decide_eq_true_eq]
  constructor
  · rintro ⟨⟨⟨h1, h2⟩, h3⟩, h4, h5⟩
    refine ⟨h1, h2, h3, fun x hx => ?_, h5⟩
    obtain ⟨i, hi, rfl⟩ := List.getElem_of_mem hx
    have := allB_at h4 i hi
    rw [enB_at s.es i hi] at this
    exact this
  · rintro ⟨h1, h2, h3, h4, h5⟩
    refine ⟨⟨⟨h1, h2⟩, h3⟩, ?_, h5⟩
    refine allB_end s.es.length (Nat.lt_irrefl _) (fun j hj => ?_)
    rw [enB_at s.es j hj]
    exact h4 _ (List.getElem_mem hj)
theorem rd_iff9 (ss : List Sb) : rdB ss = true ↔ ss.length ≤ 6 ∧ (∀ s ∈ ss, sbB s = true) ∧ risB (sbKs ss) = true := by
  constructor
  · intro h
    exact ⟨rd_len h, fun s hs => rd_sub h s hs, rd_ris h⟩
  · rintro ⟨h1, h2, h3⟩
    unfold rdB
    simp only [Bool.and_eq_true, decide_eq_true_eq]
    refine ⟨h1, ?_, h3⟩
    refine allB_end ss.length (Nat.lt_irrefl _) (fun j hj => ?_)
    rw [sbsB_at ss j hj]
    exact h2 _ (List.getElem_mem hj)
theorem fd_its {u t : ByteArray} {its : List It} (h : fdB u t its = true) : nmB u 20 = true ∧ ttB t = true ∧ its.length ≤ 12 ∧ ∀ x ∈ its, itmB x = true := by
  unfold fdB at h
  simp only [Bool.and_eq_true, decide_eq_true_eq] at h
  refine ⟨h.2.1.1, h.2.1.2, h.2.2, fun x hx => ?_⟩
  obtain ⟨i, hi, rfl⟩ := List.getElem_of_mem hx
  have h1 := h.1
  unfold itsB at h1
  have h2 := List.all_eq_true.1 h1 i (List.mem_range.2 hi)
  unfold okB at h2
  rw [List.getElem?_eq_getElem hi] at h2
  simp only [Bool.and_eq_true] at h2
  exact h2.1
theorem ft1_it {es : List En} {it : It} (h : ∀ x ∈ es, itmB x.it = true) (hi : itmB it = true) : ∀ x ∈ ft1 es it, itmB x.it = true := by
  intro x hx
  unfold ft1 putP at hx
  rcases List.mem_append.1 hx with h1 | h1
  · exact h x (List.mem_of_mem_take h1)
  · rcases List.mem_cons.1 h1 with h2 | h2
    · subst h2; rw [neE_it]; exact hi
    · exact h x (List.mem_of_mem_drop h2)
theorem ftN_it {es : List En} {its : List It} (h : ∀ x ∈ es, itmB x.it = true) (hi : ∀ x ∈ its, itmB x = true) : ∀ x ∈ ftN es its, itmB x.it = true := by
  unfold ftN
  induction its generalizing es with
  | nil => exact h
  | cons it its ih => exact ih (ft1_it h (hi it List.mem_cons_self)) (fun y hy => hi y (List.mem_cons_of_mem _ hy))
theorem cut1_mem {es : List En} {x : En} (h : x ∈ cut1 es) : x ∈ es := by
  unfold cut1 at h
  rcases List.mem_append.1 h with h1 | h1
  · exact List.mem_of_mem_take h1
  · exact List.mem_of_mem_drop h1
theorem cutE_mem (n : Nat) : ∀ {es : List En} {x : En}, x ∈ cutE n es → x ∈ es := by
  induction n with
  | zero => intro es x h; exact h
  | succ n ih =>
    intro es x h
    unfold cutE at h
    split at h
    · exact cut1_mem (ih h)
    · exact h
theorem cutE_ris (n : Nat) : ∀ {es : List En}, risB (enKs es) = true → risB (enKs (cutE n es)) = true := by
  induction n with
  | zero => intro es h; exact h
  | succ n ih =>
    intro es h
    unfold cutE
    split
    · exact ih (ris_cut1 h)
    · exact h
theorem cutE_len (n : Nat) : ∀ {es : List En}, es.length ≤ n + 12 → (cutE n es).length ≤ 12 := by
  induction n with
  | zero => intro es h; show es.length ≤ 12; omega
  | succ n ih =>
    intro es h
    unfold cutE
    by_cases h1 : 12 < es.length
    · rw [if_pos h1]
      have := len_cut1 es (by omega)
      exact ih (by omega)
    · rw [if_neg h1]; omega
theorem ftV_len (es : List En) (its : List It) : (ftV es its).length ≤ 12 := by
  unfold ftV
  exact cutE_len _ (by have := len_ftN es its; omega)
theorem sb_ft {s : Sb} {fu ft : ByteArray} {its : List It} (h : sbB s = true) (hf : fdB fu ft its = true) : sbB (ftS s ft its) = true := by
  obtain ⟨h1, h2, h3, h4, h5⟩ := (sb_iff s).1 h
  obtain ⟨f1, f2, f3, f4⟩ := fd_its hf
  refine (sb_iff _).2 ⟨h1, f2, ftV_len _ _, fun x hx => ?_, ?_⟩
  · exact ftN_it h4 f4 x (cutE_mem _ hx)
  · exact cutE_ris _ (ris_ftN h5 its)
theorem enKs_rdAll (es : List En) : enKs (rdAll es) = enKs es := by
  unfold enKs rdAll
  rw [List.map_map]
  rfl
theorem sb_al {s : Sb} (h : sbB s = true) : sbB (alS s) = true := by
  obtain ⟨h1, h2, h3, h4, h5⟩ := (sb_iff s).1 h
  refine (sb_iff _).2 ⟨h1, h2, ?_, fun x hx => ?_, ?_⟩
  · show (rdAll s.es).length ≤ 12
    unfold rdAll
    rw [List.length_map]; exact h3
  · obtain ⟨y, hy, rfl⟩ := List.mem_map.1 hx
    exact h4 y hy
  · show risB (enKs (rdAll s.es)) = true
    rw [enKs_rdAll]; exact h5
theorem enKs_set (es : List En) (p : Nat) (x : En) (hp : p < es.length) (hx : x.it.id = es[p].it.id) : enKs (es.set p x) = enKs es := by
  unfold enKs
  apply List.ext_getElem?
  intro j
  rw [List.getElem?_map, List.getElem?_map, List.getElem?_set]
  by_cases e : p = j
  · subst e; simp [hp, hx]
  · rw [if_neg e]
theorem sb_mk {s : Sb} (id : ByteArray) (k : Int) (h : sbB s = true) : sbB (mkS s id k) = true := by
  obtain ⟨h1, h2, h3, h4, h5⟩ := (sb_iff s).1 h
  have hes : (mkS s id k).es = mkAt s.es (plK (enKs s.es) id) k := rfl
  rcases Nat.lt_or_ge (plK (enKs s.es) id) s.es.length with hp | hp
  · have e : mkAt s.es (plK (enKs s.es) id) k = s.es.set (plK (enKs s.es) id) (mkE s.es[plK (enKs s.es) id] k) := by
      unfold mkAt; rw [List.getElem?_eq_getElem hp]
    rw [e] at hes
    refine (sb_iff _).2 ⟨h1, h2, ?_, fun x hx => ?_, ?_⟩
    · rw [hes, List.length_set]; exact h3
    · rw [hes] at hx
      rcases List.mem_or_eq_of_mem_set hx with h6 | h6
      · exact h4 x h6
      · rw [h6, mkE_it]; exact h4 _ (List.getElem_mem hp)
    · rw [hes, enKs_set _ _ _ hp (by rw [mkE_it])]; exact h5
  · have e : mkAt s.es (plK (enKs s.es) id) k = s.es := by
      unfold mkAt; rw [List.getElem?_eq_none hp]
    rw [e] at hes
    exact (sb_iff _).2 ⟨h1, h2, by rw [hes]; exact h3, by rw [hes]; exact h4, by rw [hes]; exact h5⟩
theorem sbKs_set (ss : List Sb) (p : Nat) (x : Sb) (hp : p < ss.length) (hx : x.u = ss[p].u) : sbKs (ss.set p x) = sbKs ss := by
  unfold sbKs
  apply List.ext_getElem?
  intro j
  rw [List.getElem?_map, List.getElem?_map, List.getElem?_set]
  by_cases e : p = j
  · subst e; simp [hp, hx]
  · rw [if_neg e]
theorem rd_set {ss : List Sb} (h : rdB ss = true) (p : Nat) (x : Sb) (hp : p < ss.length) (hu : x.u = ss[p].u) (hx : sbB x = true) : rdB (ss.set p x) = true := by
  obtain ⟨h1, h2, h3⟩ := (rd_iff9 ss).1 h
  refine (rd_iff9 _).2 ⟨by rw [List.length_set]; exact h1, fun s hs => ?_, by rw [sbKs_set ss p x hp hu]; exact h3⟩
  rcases List.mem_or_eq_of_mem_set hs with h4 | h4
  · exact h2 s h4
  · rw [h4]; exact hx
theorem op_add {o : OpD} (h : opB o = true) (hk : o.k = 1) : nmB o.u 20 = true := by
  unfold opB at h
  rw [if_pos (.inl hk)] at h
  simp only [Bool.and_eq_true] at h
  exact h.1.1.1
theorem op_fd {o : OpD} (h : opB o = true) (hk : o.k = 3) : fdB o.fu o.ft o.its = true := by
  unfold opB at h
  rw [if_neg (by omega), if_pos hk] at h
  simp only [Bool.and_eq_true] at h
  exact h.2
theorem ttB_nil : ttB ⟨#[]⟩ = true := by decide
theorem nm_size {s : ByteArray} {n : Nat} (h : nmB s n = true) : s.size ≤ n := by
  unfold nmB at h
  simp only [Bool.and_eq_true, decide_eq_true_eq] at h
  exact h.1.2
theorem tt_size {s : ByteArray} (h : ttB s = true) : s.size ≤ 24 := by
  unfold ttB at h
  simp only [Bool.and_eq_true, decide_eq_true_eq] at h
  exact h.1
theorem itm_sz {x : It} (h : itmB x = true) : x.id.size ≤ 8 ∧ x.ti.size ≤ 24 := by
  unfold itmB itB at h
  simp only [Bool.and_eq_true] at h
  exact ⟨nm_size h.1.1, tt_size h.1.2⟩
/-- What is right has small texts. -/
theorem rd_sz {ss : List Sb} (h : rdB ss = true) : ∀ s ∈ ss, SbSz s ∧ ∀ x ∈ s.es, EnSz x := by
  intro s hs
  obtain ⟨h1, h2, h3, h4, h5⟩ := (sb_iff s).1 (rd_sub h s hs)
  have a := nm_size h1
  have b := tt_size h2
  refine ⟨by unfold SbSz maxLen; omega, fun x hx => ?_⟩
  have c := itm_sz (h4 x hx)
  unfold EnSz maxLen
  omega
theorem chV_rd {ss rs : List Sb} {o : OpD} (h : rdB ss = true) (ho : opB o = true) (hd : chV ss o = some rs) : rdB rs = true := by
  unfold chV at hd
  split at hd
  · cases hd
  · rename_i s hs
    obtain ⟨hp, rfl⟩ := List.getElem?_eq_some_iff.1 hs
    have hsb := rd_sub h _ (List.getElem_mem hp)
    split at hd
    · split at hd
      · obtain rfl := Option.some.inj hd
        obtain ⟨h1, h2, h3⟩ := (rd_iff9 ss).1 h
        refine (rd_iff9 _).2 ⟨?_, fun s hs => ?_, ?_⟩
        · rw [List.length_append, List.length_take, List.length_drop]; omega
        · rcases List.mem_append.1 hs with h4 | h4
          · exact h2 s (List.mem_of_mem_take h4)
          · exact h2 s (List.mem_of_mem_drop h4)
        · unfold sbKs
          rw [List.map_append, List.map_take, List.map_drop]
          exact ris_cut h3 _
      · split at hd
        · obtain rfl := Option.some.inj hd
          exact rd_set h _ _ hp rfl (sb_al hsb)
        · split at hd
          · rename_i h3
            obtain rfl := Option.some.inj hd
            exact rd_set h _ _ hp rfl (sb_ft hsb (op_fd ho h3))
          · split at hd
            · obtain rfl := Option.some.inj hd
              exact rd_set h _ _ hp rfl (sb_mk _ _ hsb)
            · cases hd
    · cases hd
theorem sb_pg {s : Sb} (d : Int) (h : sbB s = true) : sbB (pg1 d s) = true := by
  obtain ⟨h1, h2, h3, h4, h5⟩ := (sb_iff s).1 h
  refine (sb_iff _).2 ⟨h1, h2, Nat.le_trans (List.length_filter_le _ _) h3, fun x hx => h4 x (List.mem_filter.1 hx).1, ?_⟩
  rw [ris_iff] at h5 ⊢
  exact h5.sublist (List.filter_sublist.map _)
theorem doI_rd {ss rs : List Sb} {o : OpD} (h : rdB ss = true) (ho : opB o = true) (hd : doI ss o = some rs) : rdB rs = true := by
  unfold doI at hd
  split at hd
  · rename_i hk
    split at hd
    · cases hd
    · rename_i hno
      obtain rfl := Option.some.inj hd
      obtain ⟨h1, h2, h3⟩ := (rd_iff9 ss).1 h
      have hfb : fnB (sbKs ss) o.u = false := by
        cases hf : fnB (sbKs ss) o.u with
        | false => rfl
        | true => exact absurd (.inl hf) hno
      have hl6 : ss.length ≠ 6 := fun e => hno (.inr e)
      refine (rd_iff9 _).2 ⟨?_, fun s hs => ?_, ?_⟩
      · unfold putP
        rw [List.length_append, List.length_take, List.length_cons, List.length_drop, if_neg (by simp)]
        omega
      · unfold putP at hs
        rcases List.mem_append.1 hs with h4 | h4
        · exact h2 s (List.mem_of_mem_take h4)
        · rcases List.mem_cons.1 h4 with h5 | h5
          · subst h5
            refine (sb_iff _).2 ⟨op_add ho hk, ttB_nil, by simp, (fun x hx => by cases hx), rfl⟩
          · exact h2 s (List.mem_of_mem_drop h5)
      · have h6 := ris_put h3 o.u
        rw [hfb] at h6
        unfold sbKs putP at h6 ⊢
        rw [List.map_append, List.map_take, List.map_cons, List.map_drop]
        exact h6
  · split at hd
    · obtain rfl := Option.some.inj hd
      obtain ⟨h1, h2, h3⟩ := (rd_iff9 ss).1 h
      refine (rd_iff9 _).2 ⟨by unfold pgS; rw [List.length_map]; exact h1, fun s hs => ?_, ?_⟩
      · obtain ⟨y, hy, rfl⟩ := List.mem_map.1 hs
        exact sb_pg _ (h2 y hy)
      · have e : sbKs (pgS ss o.d) = sbKs ss := by
          unfold sbKs pgS
          rw [List.map_map]
          rfl
        rw [e]; exact h3
    · exact chV_rd h ho hd
theorem doV_rd {ss rs : List Sb} {o : OpD} (hd : doV ss o = some rs) : rdB rs = true := by
  unfold doV at hd
  split at hd
  · rename_i h
    exact doI_rd h.1 h.2 hd
  · cases hd
end Go.Proofs.Ytffkakpbelknaaa

/- Y9f -/
namespace Go.Proofs.Ytffkakpbelknaaa
open Go.ChangeShapes Go.WideShapes Go.ChangeAt Go.RowKit
set_option linter.unusedVariables false

/-- What is left of a reader behind operations up to the first that can not be, and how many were done. -/
def fdG : List Sb → List OpD → List Sb × Nat
  | r, [] => (r, 0)
  | r, o :: os => match doV r o with
    | none => (r, 0)
    | some r2 => ((fdG r2 os).1, (fdG r2 os).2 + 1)
def fdV (os : List OpD) : List Sb × Nat := fdG [] (os.take 500)
theorem fdG_none {r : List Sb} {o : OpD} {os : List OpD} (h : doV r o = none) : fdG r (o :: os) = (r, 0) := by
  show (match doV r o with | none => (r, 0) | some r2 => ((fdG r2 os).1, (fdG r2 os).2 + 1)) = _
  rw [h]
theorem fdG_some {r r2 : List Sb} {o : OpD} {os : List OpD} (h : doV r o = some r2) : fdG r (o :: os) = ((fdG r2 os).1, (fdG r2 os).2 + 1) := by
  show (match doV r o with | none => (r, 0) | some r2 => ((fdG r2 os).1, (fdG r2 os).2 + 1)) = _
  rw [h]
/-- Half way: k are done, r is left. -/
structure FdH (os : List OpD) (k : Nat) (r : List Sb) : Prop where
  le : k ≤ os.length ∧ k ≤ 500
  rd : rdB r = true
  fst : (fdV os).1 = (fdG r ((os.take 500).drop k)).1
  snd : (fdV os).2 = (fdG r ((os.take 500).drop k)).2 + k
theorem rdB_nil : rdB [] = true := rfl
theorem FdH.zero (os : List OpD) : FdH os 0 [] := ⟨⟨Nat.zero_le _, Nat.zero_le _⟩, rdB_nil, rfl, rfl⟩
theorem drop_take9 (os : List OpD) (k : Nat) (hk : k < os.length) (hk5 : k < 500) : (os.take 500).drop k = os[k] :: (os.take 500).drop (k + 1) := by
  have h : k < (os.take 500).length := by rw [List.length_take]; omega
  rw [List.drop_eq_getElem_cons h, List.getElem_take]
theorem FdH.stop {os : List OpD} {k : Nat} {r : List Sb} (h : FdH os k r) (hk : k < os.length) (hk5 : k < 500) (hd : doV r os[k] = none) : (fdV os).1 = r ∧ (fdV os).2 = k := by
  have h1 := h.fst
  have h2 := h.snd
  rw [drop_take9 os k hk hk5, fdG_none hd] at h1 h2
  exact ⟨h1, by rw [h2]; exact Nat.zero_add _⟩
theorem FdH.next {os : List OpD} {k : Nat} {r r2 : List Sb} (h : FdH os k r) (hk : k < os.length) (hk5 : k < 500) (hd : doV r os[k] = some r2) : FdH os (k + 1) r2 := by
  have h1 := h.fst
  have h2 := h.snd
  rw [drop_take9 os k hk hk5, fdG_some hd] at h1 h2
  exact ⟨⟨by omega, by omega⟩, doV_rd hd, h1, by omega⟩
theorem FdH.over {os : List OpD} {k : Nat} {r : List Sb} (h : FdH os k r) (hk : ¬ (k < os.length ∧ k < 500)) : (fdV os).1 = r ∧ (fdV os).2 = k := by
  have h1 := h.fst
  have h2 := h.snd
  have e : (os.take 500).drop k = [] := List.drop_of_length_le (by have := h.le; rw [List.length_take]; omega)
  rw [e] at h1 h2
  have e2 : fdG r [] = (r, 0) := rfl
  rw [e2] at h1 h2
  exact ⟨h1, by rw [h2]; exact Nat.zero_add _⟩
theorem FdH.all {os : List OpD} {k : Nat} {r : List Sb} (h : FdH os k r) (hk : ¬ (k < os.length ∧ k < 500)) : (k : Int) = (if (os.length : Int) < 500 then (os.length : Int) else 500) := by
  have := h.le
  split <;> omega
end Go.Proofs.Ytffkakpbelknaaa

/- M9f -/
namespace Go.Proofs.Ytffkakpbelknaaa
open Go.ChangeShapes Go.WideShapes Go.ChangeAt Go.RowKit
set_option linter.unusedVariables false

/-- What Done leaves, refused or not. -/
def OutDu (rs : List Sb) (b : Bool) (w : World) (e : Ending) (w' : World) : Prop := ∃ V qs, e = .returned (.tuple #[.agg #[V], .bool b]) ∧ qs.map Prod.fst = rs ∧ OwnD w' w.heap.size V qs ∧ Below w.heap.size w w'
theorem OwnD.none (w : World) (B : Nat) : OwnD w B (.slice Option.none 0 0) [] := ⟨OwnR.nil _ _ _, (fun p hp => by cases hp), by unfold ApartD; simp⟩
theorem OutDn.uni {R : Option (List Sb)} {w w' : World} {e : Ending} (h : OutDn R w e w') : OutDu (R.getD []) R.isSome w e w' := by
  cases R with
  | none =>
    obtain ⟨h1, h2⟩ := h
    exact ⟨_, [], h1, rfl, OwnD.none _ _, h2⟩
  | some rs => exact h
theorem specDone_uni (v x : Value) (ss : List Sb) (o : OpD) (w : World) (h : SbAt w w.heap.size v ss) (hx : ItAt w w.heap.size x o.its) (hz : OpSz o) :
    Calls Try.prog 17 #[.agg #[v], opV o x] w (OutDu ((doV ss o).getD []) (doV ss o).isSome w) := (specDone_any v x ss o w h hx hz).mono (fun e w' h => h.uni)
theorem implDone_uni (v x : Value) (ss : List Sb) (o : OpD) (w : World) (h : SbAt w w.heap.size v ss) (hx : ItAt w w.heap.size x o.its) (hz : OpSz o) :
    Calls Try.prog 16 #[.agg #[v], opV o x] w (OutDu ((doV ss o).getD []) (doV ss o).isSome w) := (implDone_any v x ss o w h hx hz).mono (fun e w' h => h.uni)
theorem doU_rd (ss : List Sb) (o : OpD) : rdB ((doV ss o).getD []) = true := by
  cases h : doV ss o with
  | none => rfl
  | some rs => exact doV_rd h
theorem rd_lens {ss : List Sb} (h : rdB ss = true) : ss.length ≤ 1048576 ∧ ∀ s ∈ ss, s.es.length ≤ 1048576 := ⟨by have := rd_len h; omega, fun s hs => by have := sb_len (rd_sub h s hs); omega⟩
theorem OwnD.at {w : World} {B : Nat} {v : Value} {qs : List (Sb × Value)} {ss : List Sb} (h : OwnD w B v qs) (hq : qs.map Prod.fst = ss) (hs : ∀ s ∈ ss, SbSz s ∧ ∀ x ∈ s.es, EnSz x) : SbAt w w.heap.size v ss := OwnS.at (show OwnS w B v ss from ⟨qs, hq, h.1, h.2.1⟩) hs
theorem OwnD.lt {w : World} {B : Nat} {v : Value} {qs : List (Sb × Value)} (h : OwnD w B v qs) : (∀ b, v.ownBlock = Option.some b → b < w.heap.size) ∧ ∀ p ∈ qs, ∀ b, p.2.ownBlock = Option.some b → b < w.heap.size := ⟨fun b hb => (World.ownsRow.lt h.1 b hb).2, fun p hp b hb => (World.ownsRow.lt (h.2.1 p hp) b hb).2⟩
theorem wpAnyT_pair {P : Program} {md : Region.Mode} {Q : Exit → Act → World → Prop} {A B : World → Prop} {t : Nat} {l : List Oper} {L : Array Bool} {a : Act} {w : World} (i j g : Nat) {oi oj : Oper} (hr : Region.ready md l.toArray L = [i, j])
    (hoi : l[i]? = some oi) (hoj : l[j]? = some oj) (hwi : Region.wanted oi (yielded l.toArray a.tmps) = true) (hwj : Region.wanted oj (yielded l.toArray a.tmps) = true)
    (hi : ∀ K : Act → World → Prop, (∀ a w, Sx A B t (L.setIfInBounds i true) w → (Sx A B t (L.setIfInBounds i true) w → wpAnyT P md l.toArray Q A B t g (L.setIfInBounds i true) a w) → K a w) → oi.wp P a w K Q)
    (hj : ∀ K : Act → World → Prop, (∀ a w, Sx A B t (L.setIfInBounds j true) w → (Sx A B t (L.setIfInBounds j true) w → wpAnyT P md l.toArray Q A B t g (L.setIfInBounds j true) a w) → K a w) → oj.wp P a w K Q) : wpAnyT P md l.toArray Q A B t (g + 1) L a w := by
  refine ⟨fun h0 => (by rw [hr] at h0; cases h0), fun k hk => ?_⟩
  rw [hr] at hk
  have hk' : k = i ∨ k = j := by simpa using hk
  rcases hk' with rfl | rfl
  · unfold wpOp
    have ho' : l.toArray[k]? = some oi := by simpa using hoi
    simp only [ho']
    rw [if_pos hwi]
    exact .inl (hi _ (fun _ _ h1 h2 => ⟨h1, h2 h1⟩))
  · unfold wpOp
    have ho' : l.toArray[k]? = some oj := by simpa using hoj
    simp only [ho']
    rw [if_pos hwj]
    exact .inl (hj _ (fun _ _ h1 h2 => ⟨h1, h2 h1⟩))
theorem box_row {α : Type} {k : Nat} {C : α → List Value} {e t : TypeId} {w : World} {B g : Nat} {cs : Array Value} {v : Value} {l : List α} (hZ : Box w g cs t) (h : OwnR e k C w B v l) (he : e ≠ t) : v.ownBlock ≠ Option.some g := by
  intro hb
  rcases h.2 with ⟨rfl, _⟩ | ⟨g', cap, cur, rfl, _, hg, _⟩
  · cases hb
  · have h2 : g' = g := by simpa [Value.ownBlock] using hb
    subst h2
    unfold Box at hZ
    rw [hZ] at hg
    have h3 := Option.some.inj hg
    injection h3 with _ h4
    exact he h4.symm
theorem OwnD.offBox {w : World} {B g : Nat} {cs : Array Value} {v : Value} {qs : List (Sb × Value)} (h : OwnD w B v qs) (hZ : Box w g cs 26) (z : Value) : OwnD (w.setCell ⟨g, 0, Option.none⟩ z) B v qs := h.off ⟨g, 0, Option.none⟩ z (box_row hZ h.1 (by decide)) (fun q hq => box_row hZ (h.2.1 q hq) (by decide))
theorem SbAt.mid {w w' : World} {B B' S : Nat} {v : Value} {ss : List Sb} (h : SbAt w B v ss) (hm : Mid B' S w w') (hB : B ≤ B') : SbAt w' B v ss := h.below (hm.1.mono hB)
end Go.Proofs.Ytffkakpbelknaaa

/- Y9k -/
namespace Go.Proofs.Ytffkakpbelknaaa
open Go.ChangeShapes Go.WideShapes Go.ChangeAt Go.RowKit
set_option linter.unusedVariables false

/-- What Folded leaves. -/
def OutFo (os : List OpD) (w : World) (e : Ending) (w' : World) : Prop := ∃ V qs, e = .returned (.tuple #[.agg #[V], .int .i64 ((fdV os).2 : Int)]) ∧ qs.map Prod.fst = (fdV os).1 ∧ OwnD w' w.heap.size V qs ∧ Below w.heap.size w w'

end Go.Proofs.Ytffkakpbelknaaa

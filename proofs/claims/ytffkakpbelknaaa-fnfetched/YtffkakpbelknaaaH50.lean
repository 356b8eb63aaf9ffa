/- Joined: Y9u, Y9v, Y9x. -/
import Derived.Test.YtffkakpbelknaaaH48
/- Y9u -/
namespace Go.Proofs.Ytffkakpbelknaaa
open Go.ChangeShapes Go.WideShapes Go.ChangeAt Go.RowKit
set_option linter.unusedVariables false

theorem pgB_mono {x : En} {d e : Int} (h : d ≤ e) (hb : pgB x d = true) : pgB x e = true := by
  unfold pgB at hb ⊢
  simp only [Bool.and_eq_true, decide_eq_true_eq] at hb ⊢
  exact ⟨hb.1, by omega⟩
theorem pgL_up (es : List En) {d e : Int} (h : d ≤ e) : pgL (pgL es d) e = pgL es e := by
  unfold pgL
  rw [List.filter_filter]
  refine List.filter_congr (fun x _ => ?_)
  cases hd : pgB x d with
  | true => rw [pgB_mono h hd]; rfl
  | false => simp
theorem pgL_down (es : List En) {d e : Int} (h : d ≤ e) : pgL (pgL es e) d = pgL es e := by
  unfold pgL
  rw [List.filter_filter]
  refine List.filter_congr (fun x _ => ?_)
  cases hd : pgB x d with
  | true => rw [pgB_mono h hd]; rfl
  | false => simp
theorem pgS_up (ss : List Sb) {d e : Int} (h : d ≤ e) : pgS (pgS ss d) e = pgS ss e := by
  unfold pgS
  rw [List.map_map]
  refine List.map_congr_left (fun s _ => ?_)
  show pg1 e (pg1 d s) = pg1 e s
  unfold pg1
  rw [pgL_up s.es h]
theorem pgS_down (ss : List Sb) {d e : Int} (h : d ≤ e) : pgS (pgS ss e) d = pgS ss e := by
  unfold pgS
  rw [List.map_map]
  refine List.map_congr_left (fun s _ => ?_)
  show pg1 d (pg1 e s) = pg1 e s
  unfold pg1
  rw [pgL_down s.es h]
abbrev opPg (d : Int) : OpD := ⟨9, ⟨#[]⟩, ⟨#[]⟩, d, ⟨#[]⟩, ⟨#[]⟩, []⟩
theorem opB_pg {d : Int} (h0 : 0 ≤ d) (h1 : d ≤ 200000) : opB (opPg d) = true := by
  unfold opB
  rw [if_neg (by simp), if_neg (by simp), if_neg (by simp), if_pos rfl]
  have e1 : emB (⟨#[]⟩ : ByteArray) = true := by unfold emB; rw [ByteArray.toList_eq]; rfl
  have e2 : feB (⟨#[]⟩ : ByteArray) ⟨#[]⟩ ([] : List It).length = true := by unfold feB; rw [e1]; rfl
  show (emB (⟨#[]⟩ : ByteArray) && emB (⟨#[]⟩ : ByteArray) && (decide (0 ≤ d) && decide (d ≤ 200000)) && feB (⟨#[]⟩ : ByteArray) ⟨#[]⟩ ([] : List It).length) = true
  rw [e1, e2, decide_eq_true h0, decide_eq_true h1]
  rfl
theorem doV_bad {ss : List Sb} {o : OpD} (h : rdB ss = false) : doV ss o = none := by
  unfold doV
  rw [h, if_neg (by simp)]
theorem doV_pg {ss : List Sb} {d : Int} (h0 : 0 ≤ d) (h1 : d ≤ 200000) (h : rdB ss = true) : doV ss (opPg d) = some (pgS ss d) := by
  unfold doV
  rw [if_pos ⟨h, opB_pg h0 h1⟩]
  unfold doI
  rw [if_neg (by simp), if_pos rfl]
theorem rd_pg {ss : List Sb} {d : Int} (h0 : 0 ≤ d) (h1 : d ≤ 200000) (h : rdB ss = true) : rdB (pgS ss d) = true := doV_rd (doV_pg h0 h1 h)

theorem put_at {α : Type} (l : List α) (p : Nat) (x : α) (hp : p ≤ l.length) : (putP l p false x)[p]? = some x := by
  unfold putP
  rw [List.getElem?_append_right (by rw [List.length_take]; omega)]
  have : p - (l.take p).length = 0 := by rw [List.length_take]; omega
  rw [this]
  rfl
theorem put_lo {α : Type} (l : List α) (p j : Nat) (x : α) (hp : p ≤ l.length) (hj : j < p) : (putP l p false x)[j]? = l[j]? := by
  unfold putP
  rw [List.getElem?_append_left (by rw [List.length_take]; omega), List.getElem?_take, if_pos hj]
theorem plK_put (ks : List ByteArray) (x : ByteArray) : plK (putP ks (plK ks x) false x) x = plK ks x := by
  have hle := plK_le ks x
  have hlt : plK ks x < (putP ks (plK ks x) false x).length := by
    unfold putP
    rw [List.length_append, List.length_take, List.length_cons]
    omega
  show List.findIdx _ _ = _
  rw [List.findIdx_eq hlt]
  refine ⟨?_, fun j hj => ?_⟩
  · have e := put_at ks (plK ks x) x hle
    rw [List.getElem?_eq_getElem hlt] at e
    rw [Option.some.inj e, (cmpB_zero x x).2 rfl]
    rfl
  · have hj2 : j < (putP ks (plK ks x) false x).length := by omega
    have e := put_lo ks (plK ks x) j x hle hj
    rw [List.getElem?_eq_getElem hj2, List.getElem?_eq_getElem (show j < ks.length by omega)] at e
    rw [Option.some.inj e]
    have := plK_lo ks x j hj
    simp [this]
theorem fnB_put (ks : List ByteArray) (x : ByteArray) : fnB (putP ks (plK ks x) false x) x = true := by
  unfold fnB
  rw [plK_put, put_at _ _ _ (plK_le ks x)]
  show (cmpB x x == 0) = true
  rw [(cmpB_zero x x).2 rfl]
  rfl
theorem put_cut {α : Type} (l : List α) (p : Nat) (x : α) (hp : p ≤ l.length) : (putP l p false x).take p ++ (putP l p false x).drop (p + 1) = l := by
  unfold putP
  rw [List.take_append_of_le_length (by rw [List.length_take]; omega), List.take_of_length_le (by rw [List.length_take]; omega)]
  rw [List.drop_append, List.drop_of_length_le (by rw [List.length_take]; omega), List.nil_append]
  have : p + 1 - (l.take p).length = 1 := by rw [List.length_take]; omega
  rw [this]
  show l.take p ++ l.drop (if false = true then p + 1 else p) = l
  rw [if_neg (by simp), List.take_append_drop]
abbrev opAd (u : ByteArray) : OpD := ⟨1, u, ⟨#[]⟩, 0, ⟨#[]⟩, ⟨#[]⟩, []⟩
abbrev opDr (u : ByteArray) : OpD := ⟨2, u, ⟨#[]⟩, 0, ⟨#[]⟩, ⟨#[]⟩, []⟩
theorem opB_dr {u : ByteArray} (h : opB (opAd u) = true) : opB (opDr u) = true := by
  unfold opB at h ⊢
  rw [if_pos (.inl rfl)] at h
  rw [if_pos (.inr (.inl rfl))]
  exact h
theorem sbKs_put (ss : List Sb) (p : Nat) (s : Sb) : sbKs (putP ss p false s) = putP (sbKs ss) p false s.u := by
  unfold sbKs putP
  rw [List.map_append, List.map_take, List.map_cons, List.map_drop]
/-- A feed that was added: where it stands, what drops it. -/
theorem doV_ad {ss rs : List Sb} {u : ByteArray} (h : doV ss (opAd u) = some rs) : rs.length = ss.length + 1 ∧ doV rs (opDr u) = some ss ∧ rdB rs = true ∧ ∃ s ∈ rs, s.u = u ∧ s.es = [] := by
  have hrd := doV_rd h
  unfold doV at h
  split at h
  case isFalse => cases h
  rename_i hh
  obtain ⟨h1, h2⟩ := hh
  unfold doI at h
  rw [if_pos rfl] at h
  split at h
  case isTrue => cases h
  obtain rfl := Option.some.inj h
  have hle : plK (sbKs ss) u ≤ ss.length := by have := plK_le (sbKs ss) u; unfold sbKs at this; rwa [List.length_map] at this
  have hK : sbKs (putP ss (plK (sbKs ss) u) false ⟨u, ⟨#[]⟩, []⟩) = putP (sbKs ss) (plK (sbKs ss) u) false u := sbKs_put ss _ _
  refine ⟨?_, ?_, hrd, ⟨u, ⟨#[]⟩, []⟩, ?_, rfl, rfl⟩
  · show (putP ss (plK (sbKs ss) u) false ⟨u, ⟨#[]⟩, []⟩).length = _
    unfold putP
    rw [List.length_append, List.length_take, List.length_cons, List.length_drop, if_neg (by simp)]
    omega
  · unfold doV
    rw [if_pos ⟨hrd, opB_dr h2⟩]
    unfold doI
    rw [if_neg (by simp), if_neg (by simp)]
    unfold chV
    have hu : opU (opDr u) = u := by unfold opU; rw [if_neg (by simp)]
    rw [hu]
    show (match (putP ss (plK (sbKs ss) u) false ⟨u, ⟨#[]⟩, []⟩)[plK (sbKs (putP ss (plK (sbKs ss) u) false ⟨u, ⟨#[]⟩, []⟩)) u]? with | none => none | some s => _) = _
    rw [hK, plK_put, put_at _ _ _ hle]
    simp only
    rw [fnB_put, if_pos rfl, if_pos trivial]
    show some ((putP ss (plK (sbKs ss) u) false ⟨u, ⟨#[]⟩, []⟩).take _ ++ _) = _
    rw [put_cut _ _ _ hle]
  · exact List.mem_of_getElem? (put_at _ _ _ hle)
theorem ris_inj {ks : List ByteArray} (h : risB ks = true) {i j : Nat} (hi : i < ks.length) (hj : j < ks.length) (e : ks[i] = ks[j]) : i = j := by
  rcases Nat.lt_trichotomy i j with h1 | h1 | h1
  · have := ris_lt h i j hj h1; rw [e, ltK_irrefl] at this; cases this
  · exact h1
  · have := ris_lt h j i hi h1; rw [e, ltK_irrefl] at this; cases this
/-- In rising keys the place of a key that is there. -/
theorem pl_at {ks : List ByteArray} (h : risB ks = true) (i : Nat) (hi : i < ks.length) : plK ks ks[i] = i ∧ fnB ks ks[i] = true := by
  have hx : ixK ks ks[i] = some i := by
    unfold ixK
    rw [List.findIdx?_eq_some_iff_getElem]
    refine ⟨hi, by simp, fun j hj => ?_⟩
    rw [str_eq, decide_eq_true_eq]
    intro e
    have := ris_inj h (by omega) hi e
    omega
  rw [ix_pl h] at hx
  by_cases hf : fnB ks ks[i] = true
  · rw [if_pos hf] at hx
    exact ⟨Option.some.inj hx, hf⟩
  · rw [if_neg hf] at hx
    cases hx

/-- What was fetched is there with its item. -/
theorem put_in {α : Type} {l : List α} {p : Nat} {f : Bool} {x y : α} (h : y ∈ putP l p f x) : y = x ∨ y ∈ l := by
  unfold putP at h
  rcases List.mem_append.1 h with h1 | h1
  · exact .inr (List.mem_of_mem_take h1)
  · rcases List.mem_cons.1 h1 with h2 | h2
    · exact .inl h2
    · exact .inr (List.mem_of_mem_drop h2)
theorem put_new {α : Type} (l : List α) (p : Nat) (f : Bool) (x : α) : x ∈ putP l p f x := by
  unfold putP
  exact List.mem_append.2 (.inr List.mem_cons_self)
theorem pl_found {ks : List ByteArray} {x : ByteArray} (h : fnB ks x = true) : ∃ hp : plK ks x < ks.length, ks[plK ks x] = x := by
  unfold fnB at h
  split at h
  case h_2 => cases h
  rename_i k hk
  obtain ⟨hp, e⟩ := List.getElem?_eq_some_iff.1 hk
  refine ⟨hp, ?_⟩
  rw [e]
  exact (cmpB_zero _ _).1 (by simpa using h)
/-- What is left of a row in which one was put. -/
theorem put_keep {α : Type} {l : List α} {p : Nat} {f : Bool} {x y : α} (h : y ∈ l) (hn : f = true → l[p]? ≠ some y) : y ∈ putP l p f x := by
  unfold putP
  obtain ⟨i, hi, rfl⟩ := List.getElem_of_mem h
  rcases Nat.lt_trichotomy i p with h1 | h1 | h1
  · exact List.mem_append.2 (.inl (List.mem_take_iff_getElem.2 ⟨i, by omega, rfl⟩))
  · subst h1
    cases f with
    | true => exact absurd (List.getElem?_eq_getElem hi) (hn rfl)
    | false =>
      refine List.mem_append.2 (.inr (List.mem_cons_of_mem _ ?_))
      rw [if_neg (by simp)]
      exact List.mem_drop_iff_getElem.2 ⟨0, by omega, by simp⟩
  · refine List.mem_append.2 (.inr (List.mem_cons_of_mem _ ?_))
    cases f with
    | true => rw [if_pos rfl]; exact List.mem_drop_iff_getElem.2 ⟨i - (p + 1), by omega, by congr 1; omega⟩
    | false => rw [if_neg (by simp)]; exact List.mem_drop_iff_getElem.2 ⟨i - p, by omega, by congr 1; omega⟩
theorem ft1_newU (es : List En) (it : It) : ∃ e ∈ ft1 es it, e.it = it := ⟨neE es it, put_new _ _ _ _, neE_it es it⟩
theorem ft1_keep {es : List En} {it jt : It} (hne : jt.id ≠ it.id) (h : ∃ e ∈ es, e.it = jt) : ∃ e ∈ ft1 es it, e.it = jt := by
  obtain ⟨e, he, rfl⟩ := h
  refine ⟨e, put_keep he (fun hf hc => hne ?_), rfl⟩
  obtain ⟨hp, e2⟩ := pl_found hf
  have hp2 : plK (enKs es) it.id < es.length := by unfold enKs at hp; rwa [List.length_map] at hp
  have e3 : (enKs es)[plK (enKs es) it.id] = e.it.id := by
    have : es[plK (enKs es) it.id] = e := by
      have := List.getElem?_eq_getElem hp2
      rw [hc] at this
      exact (Option.some.inj this).symm
    simp only [enKs, List.getElem_map]
    simp only [enKs] at this
    rw [this]
  rw [← e3, e2]
theorem ftN_there : ∀ {its : List It} {es : List En}, (its.Pairwise fun a b => a.id ≠ b.id) → ∀ it ∈ its, ∃ e ∈ ftN es its, e.it = it
  | [], es, _, it, h => by cases h
  | x :: its, es, hp, it, h => by
    rw [List.pairwise_cons] at hp
    show ∃ e ∈ ftN (ft1 es x) its, e.it = it
    rcases List.mem_cons.1 h with rfl | h1
    · have key : ∀ (js : List It) (fs : List En), (∀ j ∈ js, it.id ≠ j.id) → (∃ e ∈ fs, e.it = it) → ∃ e ∈ ftN fs js, e.it = it := by
        intro js
        induction js with
        | nil => intro fs _ h; exact h
        | cons j js ih => intro fs h1 h2; exact ih _ (fun k hk => h1 k (List.mem_cons_of_mem _ hk)) (ft1_keep (h1 j List.mem_cons_self) h2)
      exact key its _ hp.1 (ft1_newU es it)
    · exact ftN_there hp.2 it h1
/-- An item that is there already changes nothing. -/
theorem ft1_same {es : List En} {it : It} (hr : risB (enKs es) = true) (h : ∃ e ∈ es, e.it = it) : ft1 es it = es := by
  obtain ⟨e, he, rfl⟩ := h
  obtain ⟨i, hi, rfl⟩ := List.getElem_of_mem he
  have hi2 : i < (enKs es).length := by unfold enKs; rw [List.length_map]; exact hi
  have hk : (enKs es)[i] = es[i].it.id := by simp [enKs]
  have h1 := pl_at hr i hi2
  rw [hk] at h1
  unfold ft1 neE
  rw [h1.1, h1.2, if_pos rfl, List.getElem?_eq_getElem hi]
  show putP es i true ⟨es[i].it, es[i].rd, es[i].st⟩ = es
  unfold putP
  rw [if_pos rfl]
  have : (⟨es[i].it, es[i].rd, es[i].st⟩ : En) = es[i] := rfl
  rw [this, ← List.drop_eq_getElem_cons hi, List.take_append_drop]
theorem ftN_same : ∀ {its : List It} {es : List En}, risB (enKs es) = true → (∀ it ∈ its, ∃ e ∈ es, e.it = it) → ftN es its = es
  | [], es, _, _ => rfl
  | x :: its, es, hr, h => by
    show ftN (ft1 es x) its = es
    rw [ft1_same hr (h x List.mem_cons_self)]
    exact ftN_same hr (fun it hi => h it (List.mem_cons_of_mem _ hi))
theorem cutE_twelve (n : Nat) : ∀ {es : List En}, 12 ≤ es.length → es.length ≤ n + 12 → (cutE n es).length = 12 := by
  induction n with
  | zero => intro es h1 h2; show es.length = 12; omega
  | succ n ih =>
    intro es h1 h2
    unfold cutE
    by_cases h3 : 12 < es.length
    · rw [if_pos h3]
      have := len_cut1 es (by omega)
      exact ih (by omega) (by omega)
    · rw [if_neg h3]; omega
/-- Fetched once more, when there was room. -/
theorem ftV_twice {es : List En} {its : List It} (hr : risB (enKs es) = true) (hp : its.Pairwise fun a b => a.id ≠ b.id) (h : (ftV es its).length ≠ 12) : ftV (ftV es its) its = ftV es its := by
  have hl := len_ftN es its
  have h12 : ¬ 12 < (ftN es its).length := by
    intro h1
    exact h (cutE_twelve _ (by omega) (by omega))
  have e : ftV es its = ftN es its := cutE_end _ _ h12
  rw [e]
  unfold ftV
  rw [ftN_same (ris_ftN hr its) (fun it hi => ftN_there hp it hi)]
  exact cutE_end _ _ h12
theorem fd_ris {u t : ByteArray} {its : List It} (h : fdB u t its = true) : risB (its.map fun x => x.id) = true := by
  unfold fdB at h
  simp only [Bool.and_eq_true] at h
  have h1 := h.1
  unfold itsB at h1
  refine allB_end _ (Nat.lt_irrefl _) (fun j hj => ?_)
  rw [List.length_map] at hj
  have h2 := List.all_eq_true.1 h1 j (List.mem_range.2 hj)
  rw [okB_at its j hj, Bool.and_eq_true] at h2
  cases j with
  | zero => rfl
  | succ q =>
    rw [ordK_at (fun x : It => x.id) its q hj]
    have h3 := h2.2
    rw [ordB_at its q hj] at h3
    exact h3
theorem ris_ne {ks : List ByteArray} (h : risB ks = true) : ks.Pairwise (fun a b => a ≠ b) := ((ris_iff ks).1 h).imp (fun {a b} h e => by subst e; rw [ltK_irrefl] at h; cases h)
theorem fd_ne {u t : ByteArray} {its : List It} (h : fdB u t its = true) : its.Pairwise fun a b => a.id ≠ b.id := by
  have h1 := ris_ne (fd_ris h)
  rwa [List.pairwise_map] at h1
/-- The counts of a feed that is there. -/
theorem ct_at {ss : List Sb} (h : rdB ss = true) (i : Nat) (hi : i < ss.length) : ctV ss ss[i].u = (ss[i].es.length, unN ss[i].es, stN ss[i].es) := by
  have hi2 : i < (sbKs ss).length := by unfold sbKs; rw [List.length_map]; exact hi
  have hk : (sbKs ss)[i] = ss[i].u := by simp [sbKs]
  have h1 := pl_at (rd_ris h) i hi2
  rw [hk] at h1
  unfold ctV
  rw [h, if_pos rfl, ix_pl (rd_ris h), h1.1, h1.2, if_pos rfl]
  simp only
  rw [List.getElem?_eq_getElem hi]
theorem ct_new {ss rs : List Sb} {u : ByteArray} (h : doV ss (opAd u) = some rs) : (ctV rs u).1 = 0 := by
  obtain ⟨_, _, hr, s, hs, rfl, he⟩ := doV_ad h
  obtain ⟨i, hi, rfl⟩ := List.getElem_of_mem hs
  rw [ct_at hr i hi, he]
  rfl
/-- Fetched once more. -/
theorem doV_ft {ss rs : List Sb} {o : OpD} (h : doV ss o = some rs) (hk : o.k = 3) : ∃ rs2, doV rs o = some rs2 ∧ ((ctV rs o.fu).1 ≠ 12 → rs2 = rs) := by
  have hrd := doV_rd h
  unfold doV at h
  split at h
  case isFalse => cases h
  rename_i hh
  obtain ⟨h1, h2⟩ := hh
  unfold doI at h
  rw [if_neg (by omega), if_neg (by omega)] at h
  unfold chV at h
  have hu : opU o = o.fu := by unfold opU; rw [if_pos hk]
  rw [hu] at h
  split at h
  case h_1 => cases h
  rename_i s hs
  split at h
  case isFalse => cases h
  rename_i hf
  first | rw [if_neg (by omega), if_neg (by omega), if_pos hk] at h | rw [if_neg (by omega), if_neg (by omega)] at h | skip
  obtain rfl := Option.some.inj h
  obtain ⟨hp, rfl⟩ := List.getElem?_eq_some_iff.1 hs
  have hK : sbKs (ss.set (plK (sbKs ss) o.fu) (ftS ss[plK (sbKs ss) o.fu] o.ft o.its)) = sbKs ss := sbKs_set ss _ _ hp rfl
  have hA : (ss.set (plK (sbKs ss) o.fu) (ftS ss[plK (sbKs ss) o.fu] o.ft o.its))[plK (sbKs ss) o.fu]? = some (ftS ss[plK (sbKs ss) o.fu] o.ft o.its) := by
    rw [List.getElem?_set, if_pos rfl, if_pos hp]
  have hsb := sb_ris (rd_sub h1 _ (List.getElem_mem hp))
  have hc : (ctV (ss.set (plK (sbKs ss) o.fu) (ftS ss[plK (sbKs ss) o.fu] o.ft o.its)) o.fu).1 = (ftV ss[plK (sbKs ss) o.fu].es o.its).length := by
    unfold ctV
    rw [hrd, if_pos rfl, ix_pl (rd_ris hrd), hK, if_pos hf]
    simp only
    rw [hA]
    rfl
  refine ⟨(ss.set (plK (sbKs ss) o.fu) (ftS ss[plK (sbKs ss) o.fu] o.ft o.its)).set (plK (sbKs ss) o.fu) (ftS (ftS ss[plK (sbKs ss) o.fu] o.ft o.its) o.ft o.its), ?_, fun hm => ?_⟩
  · unfold doV
    rw [if_pos ⟨hrd, h2⟩]
    unfold doI
    rw [if_neg (by omega), if_neg (by omega)]
    unfold chV
    rw [hu, hK, hA]
    simp only
    rw [if_pos hf, if_neg (by omega), if_neg (by omega), if_pos hk]
  · rw [hc] at hm
    have e : ftS (ftS ss[plK (sbKs ss) o.fu] o.ft o.its) o.ft o.its = ftS ss[plK (sbKs ss) o.fu] o.ft o.its := by
      show (⟨_, _, ftV (ftV ss[plK (sbKs ss) o.fu].es o.its) o.its⟩ : Sb) = ⟨_, _, ftV ss[plK (sbKs ss) o.fu].es o.its⟩
      rw [ftV_twice hsb (fd_ne (op_fd h2 hk)) hm]
      rfl
    rw [e, List.set_set]
/-- What entry answers. -/
def EtR (ss : List Sb) (u i : ByteArray) (r : Option En) : Prop := match r with
  | none => ∀ s ∈ ss, s.u = u → ∀ e ∈ s.es, e.it.id ≠ i
  | some e => ∃ s ∈ ss, s.u = u ∧ e ∈ s.es ∧ e.it.id = i
theorem rd_uniq {ss : List Sb} (h : rdB ss = true) {s t : Sb} (hs : s ∈ ss) (ht : t ∈ ss) (e : s.u = t.u) : s = t := by
  obtain ⟨i, hi, rfl⟩ := List.getElem_of_mem hs
  obtain ⟨j, hj, rfl⟩ := List.getElem_of_mem ht
  have : i = j := ris_inj (rd_ris h) (by unfold sbKs; rwa [List.length_map]) (by unfold sbKs; rwa [List.length_map]) (by simpa [sbKs] using e)
  subst this
  rfl
theorem es_uniq {es : List En} (h : risB (enKs es) = true) {s t : En} (hs : s ∈ es) (ht : t ∈ es) (e : s.it.id = t.it.id) : s = t := by
  obtain ⟨i, hi, rfl⟩ := List.getElem_of_mem hs
  obtain ⟨j, hj, rfl⟩ := List.getElem_of_mem ht
  have : i = j := ris_inj h (by unfold enKs; rwa [List.length_map]) (by unfold enKs; rwa [List.length_map]) (by simpa [enKs] using e)
  subst this
  rfl
/-- What was purged is gone, all else stays as it was. -/
theorem et_pg {ss : List Sb} {d : Int} (h : rdB ss = true) {s : Sb} {e : En} {r : Option En} (hs : s ∈ ss) (he : e ∈ s.es) (hr : EtR (pgS ss d) s.u e.it.id r) : (pgB e d = true ∧ r = none) ∨ (pgB e d = false ∧ r = some e) := by
  have hsr := sb_ris (rd_sub h s hs)
  cases hpb : pgB e d with
  | true =>
    refine .inl ⟨rfl, ?_⟩
    cases r with
    | none => rfl
    | some f =>
      obtain ⟨t, ht, hu, hf, hi⟩ := hr
      unfold pgS at ht
      obtain ⟨t0, ht0, rfl⟩ := List.mem_map.1 ht
      have : t0 = s := rd_uniq h ht0 hs hu
      subst this
      have hf2 : f ∈ pgL t0.es d := hf
      unfold pgL at hf2
      obtain ⟨hf3, hf4⟩ := List.mem_filter.1 hf2
      have : f = e := es_uniq hsr hf3 he hi
      subst this
      rw [hpb] at hf4
      cases hf4
  | false =>
    refine .inr ⟨rfl, ?_⟩
    have hin : e ∈ (pg1 d s).es := by
      show e ∈ pgL s.es d
      unfold pgL
      exact List.mem_filter.2 ⟨he, by rw [hpb]; rfl⟩
    cases r with
    | none => exact absurd rfl (hr (pg1 d s) (by unfold pgS; exact List.mem_map.2 ⟨s, hs, rfl⟩) rfl e hin)
    | some f =>
      obtain ⟨t, ht, hu, hf, hi⟩ := hr
      unfold pgS at ht
      obtain ⟨t0, ht0, rfl⟩ := List.mem_map.1 ht
      have : t0 = s := rd_uniq h ht0 hs hu
      subst this
      have hf2 : f ∈ pgL t0.es d := hf
      unfold pgL at hf2
      rw [es_uniq hsr (List.mem_filter.1 hf2).1 he hi]
theorem pgS_len (ss : List Sb) (d : Int) : (pgS ss d).length = ss.length := by unfold pgS; rw [List.length_map]
end Go.Proofs.Ytffkakpbelknaaa

/- Y9v -/
namespace Go.Proofs.Ytffkakpbelknaaa
open Go.ChangeShapes Go.WideShapes Go.ChangeAt Go.RowKit
set_option linter.unusedVariables false

theorem et_uniq {ss : List Sb} (h : rdB ss = true) {s : Sb} {e : En} {r : Option En} (hs : s ∈ ss) (he : e ∈ s.es) (hr : EtR ss s.u e.it.id r) : r = some e := by
  have hsr := sb_ris (rd_sub h s hs)
  cases r with
  | none => exact absurd rfl (hr s hs rfl e he)
  | some f =>
    obtain ⟨t, ht, hu, hf, hi⟩ := hr
    have : t = s := rd_uniq h ht hs hu
    subst this
    rw [es_uniq hsr hf he hi]
theorem mkE_idem (e : En) (k : Int) : mkE (mkE e k) k = mkE e k := by
  unfold mkE
  split
  · rfl
  · split
    · rfl
    · split <;> rfl
theorem mkE_back (e : En) {k k' : Int} (hp : k = 4 ∧ k' = 5 ∨ k = 5 ∧ k' = 4 ∨ k = 6 ∧ k' = 7 ∨ k = 7 ∧ k' = 6) (hne : mkE e k ≠ e) : mkE (mkE e k) k' = e := by
  obtain ⟨it, rd, st⟩ := e
  rcases hp with ⟨rfl, rfl⟩ | ⟨rfl, rfl⟩ | ⟨rfl, rfl⟩ | ⟨rfl, rfl⟩
  · cases rd
    · rfl
    · exact absurd rfl hne
  · cases rd
    · exact absurd rfl hne
    · rfl
  · cases st
    · rfl
    · exact absurd rfl hne
  · cases st
    · exact absurd rfl hne
    · rfl
theorem set_get {α : Type} (l : List α) (p : Nat) (h : p < l.length) : l.set p l[p] = l := by
  apply List.ext_getElem?
  intro j
  rw [List.getElem?_set]
  by_cases e : p = j
  · subst e; rw [if_pos rfl, if_pos h, List.getElem?_eq_getElem h]
  · rw [if_neg e]
theorem opB_mk {o : OpD} {k : Int} (h : opB o = true) (h1 : 4 ≤ o.k ∧ o.k ≤ 7) (h2 : 4 ≤ k ∧ k ≤ 7) : opB { o with k := k } = true := by
  unfold opB at h ⊢
  rw [if_neg (by omega), if_neg (by omega), if_pos (by omega)] at h
  show (if k = 1 ∨ k = 2 ∨ k = 8 then _ else if k = 3 then _ else if k = 4 ∨ k = 5 ∨ k = 6 ∨ k = 7 then (nmB o.u 20 && nmB o.i 8 && dzB o.d && feB o.fu o.ft o.its.length) else _) = true
  rw [if_neg (by omega), if_neg (by omega), if_pos (by omega)]
  exact h
/-- An entry marked: which, what it is then, marked again, marked back. -/
theorem doV_mk {ss rs : List Sb} {o : OpD} (h : doV ss o = some rs) (hk : 4 ≤ o.k ∧ o.k ≤ 7) :
    ∃ e : En, EnSz e ∧ (∀ r, EtR ss o.u o.i r → r = some e) ∧ (∀ r, EtR rs o.u o.i r → r = some (mkE e o.k)) ∧ doV rs o = some rs ∧
      ∀ k', (o.k = 4 ∧ k' = 5 ∨ o.k = 5 ∧ k' = 4 ∨ o.k = 6 ∧ k' = 7 ∨ o.k = 7 ∧ k' = 6) → ∃ bs, doV rs { o with k := k' } = some bs ∧ (mkE e o.k ≠ e → bs = ss) := by
  have hrd := doV_rd h
  unfold doV at h
  split at h
  case isFalse => cases h
  rename_i hh
  obtain ⟨h1, h2⟩ := hh
  unfold doI at h
  rw [if_neg (by omega), if_neg (by omega)] at h
  unfold chV at h
  have hu : opU o = o.u := by unfold opU; rw [if_neg (by omega)]
  rw [hu] at h
  split at h
  case h_1 => cases h
  rename_i s hs
  split at h
  case isFalse => cases h
  rename_i hf
  rw [if_neg (by omega), if_neg (by omega), if_neg (by omega)] at h
  split at h
  case isFalse => cases h
  rename_i hg
  obtain rfl := Option.some.inj h
  obtain ⟨P, hP⟩ : ∃ P, P = plK (sbKs ss) o.u := ⟨_, rfl⟩
  obtain ⟨hp0, hpu0⟩ := pl_found hf
  rw [← hP] at hs hrd ⊢
  obtain ⟨hp, rfl⟩ := List.getElem?_eq_some_iff.1 hs
  have hpu : ss[P].u = o.u := by
    simp only [← hP] at hpu0
    simpa [sbKs] using hpu0
  obtain ⟨hq0, hqi0⟩ := pl_found hg
  obtain ⟨Q, hQ⟩ : ∃ Q, Q = plK (enKs ss[P].es) o.i := ⟨_, rfl⟩
  have hq : Q < ss[P].es.length := by rw [← hQ] at hq0; simpa [enKs] using hq0
  have hqi : ss[P].es[Q].it.id = o.i := by
    simp only [← hQ] at hqi0
    simpa [enKs] using hqi0
  have hmk : ∀ k, mkS ss[P] o.i k = { ss[P] with es := ss[P].es.set Q (mkE ss[P].es[Q] k) } := fun k => by
    unfold mkS mkAt
    rw [← hQ, List.getElem?_eq_getElem hq]
  have hmk2 : ∀ k k', mkS (mkS ss[P] o.i k) o.i k' = { ss[P] with es := ss[P].es.set Q (mkE (mkE ss[P].es[Q] k) k') } := fun k k' => by
    rw [hmk k]
    have e1 : enKs (ss[P].es.set Q (mkE ss[P].es[Q] k)) = enKs ss[P].es := enKs_set _ _ _ hq (by rw [mkE_it])
    unfold mkS mkAt
    show ({ u := ss[P].u, t := ss[P].t, es := _ } : Sb) = _
    simp only
    rw [e1, ← hQ, List.getElem?_set, if_pos rfl, if_pos hq]
    simp only
    rw [List.set_set]
  have hK : sbKs (ss.set P (mkS ss[P] o.i o.k)) = sbKs ss := sbKs_set ss _ _ hp rfl
  have hA : (ss.set P (mkS ss[P] o.i o.k))[P]? = some (mkS ss[P] o.i o.k) := by rw [List.getElem?_set, if_pos rfl, if_pos hp]
  have hgo : ∀ k', 4 ≤ k' ∧ k' ≤ 7 → doV (ss.set P (mkS ss[P] o.i o.k)) { o with k := k' } = some (ss.set P (mkS (mkS ss[P] o.i o.k) o.i k')) := fun k' hk' => by
    unfold doV
    rw [if_pos ⟨hrd, opB_mk h2 hk hk'⟩]
    unfold doI
    show (if k' = 1 then _ else if k' = 9 then _ else chV _ { o with k := k' }) = _
    rw [if_neg (by omega), if_neg (by omega)]
    unfold chV
    have hu' : opU { o with k := k' } = o.u := by unfold opU; exact if_neg (by show ¬ k' = 3; omega)
    rw [hu', hK, ← hP, hA]
    simp only
    have he : enKs (mkS ss[P] o.i o.k).es = enKs ss[P].es := by
      rw [hmk]
      exact enKs_set _ _ _ hq (by rw [mkE_it])
    rw [if_pos hf, if_neg (by omega), if_neg (by omega), if_neg (by omega), he, if_pos hg, List.set_set]
  refine ⟨ss[P].es[Q], (rd_sz h1 ss[P] (List.getElem_mem hp)).2 _ (List.getElem_mem hq), fun r hr => ?_, fun r hr => ?_, ?_, fun k' hk' => ⟨_, hgo k' (by omega), fun hne => ?_⟩⟩
  · rw [← hpu, ← hqi] at hr
    exact et_uniq h1 (List.getElem_mem hp) (List.getElem_mem hq) hr
  · have hm1 : mkS ss[P] o.i o.k ∈ ss.set P (mkS ss[P] o.i o.k) := List.mem_of_getElem? hA
    have hm2 : mkE ss[P].es[Q] o.k ∈ (mkS ss[P] o.i o.k).es := by
      rw [hmk]
      exact List.mem_of_getElem? (i := Q) (by rw [List.getElem?_set, if_pos rfl, if_pos hq])
    have e1 : (mkS ss[P] o.i o.k).u = o.u := hpu
    have e2 : (mkE ss[P].es[Q] o.k).it.id = o.i := by rw [mkE_it]; exact hqi
    exact et_uniq hrd hm1 hm2 (by rw [e1, e2]; exact hr)
  · have h3 := hgo o.k hk
    have e1 : ({ o with k := o.k } : OpD) = o := rfl
    rw [e1] at h3
    rw [h3, hmk2, mkE_idem, ← hmk]
  · rw [hmk2, mkE_back _ hk' hne, set_get _ _ hq]
    exact set_get ss P hp
/-- No other feed is turned. -/
theorem op_keep {ss rs : List Sb} {o : OpD} (h : doV ss o = some rs) (hk : o.k ≠ 9) {s : Sb} (hs : s ∈ ss) (hu : s.u ≠ opU o) : s ∈ rs := by
  unfold doV at h
  split at h
  case isFalse => cases h
  rename_i hh
  obtain ⟨h1, h2⟩ := hh
  unfold doI at h
  split at h
  · split at h
    · cases h
    · obtain rfl := Option.some.inj h
      exact put_keep hs (fun hf => by cases hf)
  · first | rw [if_neg hk] at h | skip
    unfold chV at h
    split at h
    case h_1 => cases h
    rename_i t ht
    split at h
    case isFalse => cases h
    rename_i hf
    obtain ⟨hp0, hpu0⟩ := pl_found hf
    obtain ⟨P, hP⟩ : ∃ P, P = plK (sbKs ss) (opU o) := ⟨_, rfl⟩
    rw [← hP] at ht h
    obtain ⟨hp, rfl⟩ := List.getElem?_eq_some_iff.1 ht
    have hpu : ss[P].u = opU o := by
      simp only [← hP] at hpu0
      simpa [sbKs] using hpu0
    obtain ⟨i, hi, rfl⟩ := List.getElem_of_mem hs
    have hne : P ≠ i := fun e => by subst e; exact hu hpu
    have hset : ∀ x : Sb, ss[i] ∈ ss.set P x := fun x => List.mem_of_getElem? (i := i) (by rw [List.getElem?_set, if_neg hne, List.getElem?_eq_getElem hi])
    split at h
    · obtain rfl := Option.some.inj h
      rcases Nat.lt_or_ge i P with h3 | h3
      · exact List.mem_append.2 (.inl (List.mem_take_iff_getElem.2 ⟨i, by omega, rfl⟩))
      · exact List.mem_append.2 (.inr (List.mem_drop_iff_getElem.2 ⟨i - (P + 1), by omega, by congr 1; omega⟩))
    · split at h
      · obtain rfl := Option.some.inj h; exact hset _
      · split at h
        · obtain rfl := Option.some.inj h; exact hset _
        · split at h
          · obtain rfl := Option.some.inj h; exact hset _
          · cases h
end Go.Proofs.Ytffkakpbelknaaa

/- Y9x -/
namespace Go.Proofs.Ytffkakpbelknaaa
open Go.ChangeShapes Go.WideShapes Go.ChangeAt Go.RowKit
set_option linter.unusedVariables false

theorem ft1_mark {es : List En} {it : It} (hr : risB (enKs es) = true) {e : En} (he : e ∈ es) : ∃ f ∈ ft1 es it, f.it.id = e.it.id ∧ f.rd = e.rd ∧ f.st = e.st := by
  by_cases hid : e.it.id = it.id
  · obtain ⟨i, hi, rfl⟩ := List.getElem_of_mem he
    have hi2 : i < (enKs es).length := by unfold enKs; rw [List.length_map]; exact hi
    have hk : (enKs es)[i] = es[i].it.id := by simp [enKs]
    have h1 := pl_at hr i hi2
    rw [hk, hid] at h1
    refine ⟨neE es it, put_new _ _ _ _, by rw [neE_it, hid], ?_, ?_⟩
    · unfold neE; rw [h1.1, h1.2, if_pos rfl, List.getElem?_eq_getElem hi]; rfl
    · unfold neE; rw [h1.1, h1.2, if_pos rfl, List.getElem?_eq_getElem hi]; rfl
  · refine ⟨e, put_keep he (fun hf hc => hid ?_), rfl, rfl, rfl⟩
    obtain ⟨hp, e2⟩ := pl_found hf
    have hp2 : plK (enKs es) it.id < es.length := by unfold enKs at hp; rwa [List.length_map] at hp
    have e3 : (enKs es)[plK (enKs es) it.id] = e.it.id := by
      have : es[plK (enKs es) it.id] = e := by
        have := List.getElem?_eq_getElem hp2
        rw [hc] at this
        exact (Option.some.inj this).symm
      simp only [enKs, List.getElem_map]
      simp only [enKs] at this
      rw [this]
    rw [← e3, e2]
theorem ftN_mark : ∀ {its : List It} {es : List En}, risB (enKs es) = true → ∀ {e : En}, e ∈ es → ∃ f ∈ ftN es its, f.it.id = e.it.id ∧ f.rd = e.rd ∧ f.st = e.st
  | [], es, _, e, he => ⟨e, he, rfl, rfl, rfl⟩
  | x :: its, es, hr, e, he => by
    obtain ⟨f, hf, h1, h2, h3⟩ := ft1_mark (it := x) hr he
    obtain ⟨g, hg, k1, k2, k3⟩ := ftN_mark (its := its) (ris_ft1 hr x) hf
    exact ⟨g, hg, k1.trans h1, k2.trans h2, k3.trans h3⟩
theorem goP_star (es : List En) : ∀ k, 0 < k → k ≤ es.length → ∀ (hg : goP es k < es.length), es[goP es k].st = true → ∀ i (hi : i < es.length), i < k → es[i].st = true := by
  intro k
  induction k with
  | zero => intro h; omega
  | succ k ih =>
    intro _ hk hg hst i hi hik
    rcases Nat.eq_zero_or_pos k with h0 | h0
    · subst h0
      have e0 : goP es 0 = 0 := rfl
      have e1 : goP es 1 = 0 := by
        have := (goP_lt es 1).2 (by omega)
        omega
      have : i = 0 := by omega
      subst this
      simpa [e1] using hst
    · have hp := (goP_lt es k).2 h0
      have hpl : goP es k < es.length := by omega
      have hs := goP_step es k (goP es k) (by omega) hpl rfl
      cases hgh : ghB es[k] es[goP es k] with
      | true =>
        rw [hgh, if_pos rfl] at hs
        have hk1 : es[k].st = true := by simpa [hs] using hst
        have hp1 : es[goP es k].st = true := by
          unfold ghB at hgh
          rw [hk1] at hgh
          cases hc : es[goP es k].st with
          | true => rfl
          | false => rw [hc] at hgh; simp at hgh
        rcases Nat.lt_or_ge i k with h3 | h3
        · exact ih h0 (by omega) hpl hp1 i hi h3
        · have : i = k := by omega
          subst this; exact hk1
      | false =>
        rw [hgh, if_neg (by simp)] at hs
        have hp1 : es[goP es k].st = true := by simpa [hs] using hst
        have hk1 : es[k].st = true := by
          unfold ghB at hgh
          rw [hp1] at hgh
          cases hc : es[k].st with
          | true => rfl
          | false => rw [hc] at hgh; simp at hgh
        rcases Nat.lt_or_ge i k with h3 | h3
        · exact ih h0 (by omega) hpl hp1 i hi h3
        · have : i = k := by omega
          subst this; exact hk1
theorem cut1_gone {es : List En} (h0 : 0 < es.length) {f : En} (hf : f ∈ es) (hn : f ∉ cut1 es) (hst : f.st = true) : ∀ e ∈ es, e.st = true := by
  have hg := (goP_lt es es.length).2 h0
  obtain ⟨i, hi, rfl⟩ := List.getElem_of_mem hf
  have : i = goP es es.length := by
    rcases Nat.lt_trichotomy i (goP es es.length) with h1 | h1 | h1
    · exact absurd (List.mem_append.2 (.inl (List.mem_take_iff_getElem.2 ⟨i, by omega, rfl⟩))) hn
    · exact h1
    · exact absurd (List.mem_append.2 (.inr (List.mem_drop_iff_getElem.2 ⟨i - (goP es es.length + 1), by omega, by congr 1; omega⟩))) hn
  subst this
  intro e he
  obtain ⟨j, hj, rfl⟩ := List.getElem_of_mem he
  exact goP_star es es.length h0 (Nat.le_refl _) hg hst j hj hj
theorem cutE_gone (n : Nat) : ∀ {es : List En} {f : En}, f ∈ es → f ∉ cutE n es → f.st = true → ∀ e ∈ cutE n es, e.st = true := by
  induction n with
  | zero => intro es f h1 h2; exact absurd h1 h2
  | succ n ih =>
    intro es f h1 h2 h3
    unfold cutE at h2 ⊢
    by_cases hl : 12 < es.length
    · rw [if_pos hl] at h2 ⊢
      by_cases h4 : f ∈ cut1 es
      · exact ih h4 h2 h3
      · intro e he
        exact cut1_gone (by omega) h1 h4 h3 e (cut1_mem (cutE_mem _ he))
    · rw [if_neg hl] at h2
      exact absurd h1 h2
theorem ftV_all {es : List En} {its : List It} (h : (ftV es its).length ≠ 12) : ftV es its = ftN es its := by
  have hl := len_ftN es its
  have h12 : ¬ 12 < (ftN es its).length := by
    intro h1
    exact h (cutE_twelve _ (by omega) (by omega))
  exact cutE_end _ _ h12
theorem stN_all {es : List En} : stN es = es.length ↔ ∀ e ∈ es, e.st = true := by
  unfold stN
  rw [List.countP_eq_length]
/-- What was fetched is there; what goes. -/
theorem doV_fetch {ss rs : List Sb} {o : OpD} (h : doV ss o = some rs) (hk : o.k = 3) :
    (∀ x ∈ o.its, ∀ ro rn, EtR ss o.fu x.id ro → EtR rs o.fu x.id rn → (rn = none → (ctV rs o.fu).1 = 12) ∧ ∀ f, rn = some f → f.it = x ∧ ∀ e, ro = some e → f.rd = e.rd ∧ f.st = e.st) ∧
    (∀ s ∈ ss, ∀ e ∈ s.es, EtR rs s.u e.it.id none → (ctV rs o.fu).1 = 12 ∧ (e.st = true → (ctV rs o.fu).2.2 = (ctV rs o.fu).1)) ∧
    (ctV rs o.fu).1 ≤ 12 ∧ (ctV rs o.fu).2.1 ≤ (ctV rs o.fu).1 := by
  have hrd := doV_rd h
  have hkeep := fun s hs hu => op_keep h (by omega) (s := s) hs hu
  have hu : opU o = o.fu := by unfold opU; rw [if_pos hk]
  rw [hu] at hkeep
  unfold doV at h
  split at h
  case isFalse => cases h
  rename_i hh
  obtain ⟨h1, h2⟩ := hh
  unfold doI at h
  rw [if_neg (by omega), if_neg (by omega)] at h
  unfold chV at h
  rw [hu] at h
  split at h
  case h_1 => cases h
  rename_i s0 hs
  split at h
  case isFalse => cases h
  rename_i hf
  first | rw [if_neg (by omega), if_neg (by omega), if_pos hk] at h | rw [if_neg (by omega), if_neg (by omega)] at h
  obtain rfl := Option.some.inj h
  obtain ⟨hp0, hpu0⟩ := pl_found hf
  obtain ⟨P, hP⟩ : ∃ P, P = plK (sbKs ss) o.fu := ⟨_, rfl⟩
  rw [← hP] at hs hrd hkeep ⊢
  obtain ⟨hp, rfl⟩ := List.getElem?_eq_some_iff.1 hs
  have hpu : ss[P].u = o.fu := by
    simp only [← hP] at hpu0
    simpa [sbKs] using hpu0
  have hA : (ss.set P (ftS ss[P] o.ft o.its))[P]? = some (ftS ss[P] o.ft o.its) := by rw [List.getElem?_set, if_pos rfl, if_pos hp]
  have hm0 : ss[P] ∈ ss := List.getElem_mem hp
  have hm1 : ftS ss[P] o.ft o.its ∈ ss.set P (ftS ss[P] o.ft o.its) := List.mem_of_getElem? hA
  have hr0 := sb_ris (rd_sub h1 _ hm0)
  have hct : ctV (ss.set P (ftS ss[P] o.ft o.its)) o.fu = ((ftV ss[P].es o.its).length, unN (ftV ss[P].es o.its), stN (ftV ss[P].es o.its)) := by
    have hPl : P < (ss.set P (ftS ss[P] o.ft o.its)).length := by rw [List.length_set]; exact hp
    have e1 : (ss.set P (ftS ss[P] o.ft o.its))[P] = ftS ss[P] o.ft o.its := by
      have := List.getElem?_eq_getElem hPl
      rw [hA] at this
      exact (Option.some.inj this).symm
    have e2 := ct_at hrd P hPl
    rw [e1] at e2
    rw [← hpu]
    exact e2
  have hn := fd_ne (op_fd h2 hk)
  have hrN : risB (enKs (ftN ss[P].es o.its)) = true := ris_ftN hr0 o.its
  rw [hct]
  refine ⟨fun x hx ro rn hro hrn => ?_, fun s hsm e he hrn => ?_, ftV_len _ _, List.countP_le_length⟩
  · obtain ⟨g, hg, rfl⟩ := ftN_there hn x hx
    constructor
    · rintro rfl
      refine Classical.byContradiction (fun hne => ?_)
      have hgV : g ∈ (ftS ss[P] o.ft o.its).es := by show g ∈ ftV _ _; rw [ftV_all hne]; exact hg
      exact hrn _ hm1 hpu g hgV rfl
    · rintro f rfl
      obtain ⟨t, ht, htu, hft, hfi⟩ := hrn
      have : t = ftS ss[P] o.ft o.its := rd_uniq hrd ht hm1 (htu.trans hpu.symm)
      subst this
      have hfN : f ∈ ftN ss[P].es o.its := cutE_mem _ (show f ∈ cutE _ _ from hft)
      have hfg : f = g := es_uniq hrN hfN hg hfi
      subst hfg
      refine ⟨rfl, ?_⟩
      rintro e rfl
      obtain ⟨t2, ht2, htu2, het, hei⟩ := hro
      have : t2 = ss[P] := rd_uniq h1 ht2 hm0 (htu2.trans hpu.symm)
      subst this
      obtain ⟨g2, hg2, k1, k2, k3⟩ := ftN_mark (its := o.its) hr0 het
      have : g2 = f := es_uniq hrN hg2 hfN (k1.trans hei)
      subst this
      exact ⟨k2, k3⟩
  · by_cases hsu : s.u = o.fu
    · have : s = ss[P] := rd_uniq h1 hsm hm0 (hsu.trans hpu.symm)
      subst this
      obtain ⟨g, hg, k1, k2, k3⟩ := ftN_mark (its := o.its) hr0 he
      have hgV : g ∉ ftV ss[P].es o.its := fun hc => hrn _ hm1 rfl g hc k1
      refine ⟨Classical.byContradiction (fun hne => hgV (by rw [ftV_all hne]; exact hg)), fun hst => ?_⟩
      show stN _ = _
      rw [stN_all]
      exact cutE_gone _ hg hgV (k3.trans hst)
    · exact absurd rfl (hrn s (hkeep s hsm hsu) rfl e he)
end Go.Proofs.Ytffkakpbelknaaa

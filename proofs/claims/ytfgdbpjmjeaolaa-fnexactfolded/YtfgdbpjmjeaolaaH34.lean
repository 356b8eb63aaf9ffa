/- Joined: W9zr, W9zs. -/
import Derived.Test.YtfgdbpjmjeaolaaH18
import Derived.Test.YtfgdbpjmjeaolaaH31
/- W9zr -/
namespace Go.Proofs.Ytfgdbpjmjeaolaa
open Go.ChangeShapes Go.WideShapes Go.ChangeAt Go.RowKit
set_option linter.unusedVariables false

set_option maxRecDepth 100000 in
set_option maxHeartbeats 1600000 in
theorem l9Find_any (v : Value) (es : List En) (x : ByteArray) (w : World) (h : EnAt w w.heap.size v es) :
    Calls Try.prog 161 #[v, .string x] w fun e w' => e = .returned (.int .i64 (atK (enKs es) x)) ∧ Below w.heap.size w w' := by
  have HI := Lib.hid h
  obtain ⟨a, cap, rfl, hl, hm, hc⟩ := h.raw
  clear hc h
  unfold maxLen at hm
  have HL : Hid ((enKs es).length = es.length) := Lib.hid (by simp [enKs])
  have HX : Hid (∀ k (hk : k < es.length), (es[k].it.id.toList == x.toList) = true → (∀ j (hj : j < es.length), j < k → (es[j].it.id.toList == x.toList) = false) → atK (enKs es) x = (k : Int)) := Lib.hid (fun k hk h1 h2 => by
    have : ixK (enKs es) x = some k := by
      unfold ixK
      rw [List.findIdx?_eq_some_iff_getElem]
      refine ⟨by rw [HL.out]; exact hk, by simpa [enKs] using h1, fun j hj => ?_⟩
      have := h2 j (by omega) hj
      simpa [enKs] using this
    unfold atK
    rw [this])
  have HD : Hid ((∀ j (hj : j < es.length), (es[j].it.id.toList == x.toList) = false) → atK (enKs es) x = -1) := Lib.hid (fun h2 => by
    have : ixK (enKs es) x = none := by
      unfold ixK
      rw [List.findIdx?_eq_none_iff]
      intro k hk
      obtain ⟨s, hs, rfl⟩ := List.mem_map.1 hk
      obtain ⟨j, hj, rfl⟩ := List.getElem_of_mem hs
      exact h2 j hj
    unfold atK
    rw [this])
  generalize atK (enKs es) x = R at HX HD ⊢
  go_enter Try.func161, Try.ntmps161
  go_wp2
  go_loop [5] (fun i => ∃ k : Nat, k ≤ es.length ∧ i = .int .i64 (k : Int) ∧ Hid (∀ j (hj : j < es.length), j < k → (es[j].it.id.toList == x.toList) = false)) (fun i => es.length - (intOf i).toNat)
  case atStart => exact ⟨0, Nat.zero_le _, rfl, Lib.hid (fun j hj h => by omega)⟩
  case round =>
    obtain ⟨k, hk, rfl, HO⟩ := hrel
    by_cases hlt : k < es.length
    · obtain ⟨a', cap', hv, _, _, hc⟩ := HI.out.raw
      cases hv
      obtain ⟨b, off, rfl, hb, hr⟩ := hc k hlt
      obtain ⟨c0, c1, c2, c3, c4, _, _⟩ := hr k hlt
      have HK := Lib.hid (HX.out k hlt)
      have HN : Hid ((es[k].it.id.toList == x.toList) = false → ∀ j (hj : j < es.length), j < k + 1 → (es[j].it.id.toList == x.toList) = false) := Lib.hid (fun h j hj hjk => by
        by_cases e : j = k
        · subst e; exact h
        · exact HO.out j hj (by omega))
      obtain ⟨U, hU⟩ : ∃ U, U = es[k].it.id := ⟨_, rfl⟩
      rw [← hU] at c0 HK HN
      clear hr hc hU c1 c2 c3 c4
      obtain ⟨e, he⟩ : ∃ e, (U.toList == x.toList) = e := ⟨_, rfl⟩
      rw [he] at HK HN
      cases e with
      | true =>
        have HZ : Hid (R = (k : Int)) := Lib.hid (HK.out rfl HO.out)
        go_wp2
        go_ret
        exact ⟨ret_int HZ.out.symm, Below.refl _ _⟩
      | false =>
        have HO' := Lib.hid (HN.out rfl)
        go_wp2
        refine ⟨⟨k + 1, by omega, by simp, HO'⟩, ?_⟩
        simp [intOf]; omega
    · have HZ : Hid (R = -1) := Lib.hid (HD.out (fun j hj => HO.out j hj (by omega)))
      go_wp2
      go_ret
      exact ⟨ret_int HZ.out.symm, Below.refl _ _⟩

theorem pgL_snoc (es : List En) (d : Int) (k : Nat) (h : k < es.length) : pgL (es.take (k + 1)) d = pgL (es.take k) d ++ (if pgB es[k] d then [] else [es[k]]) := by
  unfold pgL
  rw [List.take_succ_eq_append_getElem h, List.filter_append]
  congr 1
  cases hh : pgB es[k] d with
  | true => simp [hh]
  | false => simp [hh]
theorem pgL_len (es : List En) (d : Int) (k : Nat) : (pgL (es.take k) d).length ≤ k := by
  unfold pgL
  have := List.length_filter_le (fun x => !pgB x d) (es.take k)
  rw [List.length_take] at this
  omega

set_option maxRecDepth 100000 in
set_option maxHeartbeats 1600000 in
theorem l9Purge_any (v : Value) (es : List En) (d : Int) (w : World) (h : EnAt w w.heap.size v es) (hn : es.length ≤ 100000) :
    Calls Try.prog 159 #[v, .int .i64 d] w (OutB 109 5 enC (pgL es d) w.heap.size w) := by
  have HI := Lib.hid h
  obtain ⟨a, cap, rfl, hl, hm, hc⟩ := h.raw
  clear hc h
  unfold maxLen at hm
  have ho0 := OwnR.lit (k := 5) (C := enC) 109 w w.heap.size (Nat.le_refl _)
  have hb0 : Below w.heap.size w (w.alloc (.cells #[] 109)) := (Below.refl _ _).alloc (Nat.le_refl _) _
  go_enter Try.func159, Try.ntmps159
  go_wp2
  go_loopw [5, 6] (fun o i wr => ∃ k : Nat, k ≤ es.length ∧ i = .int .i64 (k : Int) ∧ OwnR 109 5 enC wr w.heap.size o (pgL (es.take k) d) ∧ Below w.heap.size w wr) (fun _ i _ => es.length - (intOf i).toNat)
  case atStart => exact ⟨0, Nat.zero_le _, rfl, ho0, hb0⟩
  case round =>
    obtain ⟨k, hk, rfl, hown, hB⟩ := hrel
    clear ho0 hb0
    by_cases hlt : k < es.length
    · obtain ⟨a', cap', hv, _, _, hc⟩ := (HI.out.below hB).raw
      cases hv
      obtain ⟨b, off, rfl, hb, hr⟩ := hc k hlt
      obtain ⟨c0, c1, c2, c3, c4, _, _⟩ := hr k hlt
      have HS := Lib.hid (pgL_snoc es d k hlt)
      have hpl := pgL_len es d k
      obtain ⟨x, hx⟩ : ∃ x, x = es[k] := ⟨_, rfl⟩
      rw [← hx] at c0 c1 c2 c3 c4 HS
      have HPg : Hid (pgB x d = (x.rd && (!x.st) && decide (x.it.da < d))) := Lib.hid rfl
      obtain ⟨oa, oc, rfl⟩ := hown.slice
      generalize pgL (es.take k) d = LL at hown HS hpl
      have ho1 := hown.alloc (.cells #[.string x.it.id, .string x.it.ti, .int .i64 x.it.da, .bool x.rd, .bool x.st] 109)
      have hone := one_rec enC_len wr 109 x #[.string x.it.id, .string x.it.ti, .int .i64 x.it.da, .bool x.rd, .bool x.st] rfl
      have hba := hB.alloc hB.size (.cells #[.string x.it.id, .string x.it.ti, .int .i64 x.it.da, .bool x.rd, .bool x.st] 109)
      obtain ⟨⟨S0, S1, S2⟩, S3, S4⟩ := x
      simp only at c0 c1 c2 c3 c4 HPg ho1 hone hba
      have HOw := Lib.hid hown
      have HO1 := Lib.hid ho1
      have HOn := Lib.hid hone
      have HBa := Lib.hid hba
      have HBs := Lib.hid hB
      have hsz : w.heap.size ≤ wr.heap.size := hB.size
      clear hr hc hx hown ho1 hone hba hB
      by_cases hp : pgB ⟨⟨S0, S1, S2⟩, S3, S4⟩ d = true
      · rw [hp, if_pos rfl, List.append_nil] at HS
        have hq := HPg.out
        rw [hp] at hq
        obtain ⟨rfl, rfl, hd⟩ : S3 = true ∧ S4 = false ∧ S2 < d := by
          cases S3 <;> cases S4 <;> simp at hq
          exact ⟨rfl, rfl, hq⟩
        have hdd : decide (d ≤ S2) = false := decide_eq_false (by omega)
        have HN : Hid (OwnR 109 5 enC wr w.heap.size (.slice oa LL.length oc) (pgL (es.take (k + 1)) d)) := Lib.hid (by rw [HS.out]; exact HOw.out)
        clear hp hq HPg HS HO1 HOn HBa HOw
        go_wp2
        go_roundw
        case rel => exact ⟨k + 1, by omega, by go_num, HN.out, HBs.out⟩
        case measure => simp [intOf]; omega
      · rw [if_neg hp] at HS
        have HN : Hid (∀ v' w', OwnR 109 5 enC w' w.heap.size v' (LL ++ [⟨⟨S0, S1, S2⟩, S3, S4⟩]) → OwnR 109 5 enC w' w.heap.size v' (pgL (es.take (k + 1)) d)) := Lib.hid (fun v' w' h => by rw [HS.out]; exact h)
        have hq : (S3 && (!S4) && decide (S2 < d)) = false := by rw [← HPg.out]; simpa using hp
        clear hp HPg HS
        cases S3 with
        | false =>
          clear hq
          go_wp2_with (at_builtin; refine wpList_appR enC_len (by decide) Try.underlying103 Try.infoEntry rfl (by decide) rfl (.tmp 37) (.tmp 42) rfl w.heap.size (wr.heap.size + 1) _ _ _ [⟨⟨S0, S1, S2⟩, false, S4⟩] rfl rfl HO1.out HOn.out (fun y _ => enC_one y) (by simp; omega) (by simp; omega) ?_; intro v1 w1 hown1 hg1)
          have hown2 := HN.out _ _ hown1
          have hB2 := HBa.out.trans (gb_Below hg1 (by simp; omega) (ownBlock_base HOw.out))
          clear hown1 hg1
          go_wp2
          go_roundw
          case rel => exact ⟨k + 1, by omega, by go_num, hown2, hB2⟩
          case measure => simp [intOf]; omega
        | true =>
          cases S4 with
          | true =>
            clear hq
            go_wp2_with (at_builtin; refine wpList_appR enC_len (by decide) Try.underlying103 Try.infoEntry rfl (by decide) rfl (.tmp 37) (.tmp 42) rfl w.heap.size (wr.heap.size + 1) _ _ _ [⟨⟨S0, S1, S2⟩, true, true⟩] rfl rfl HO1.out HOn.out (fun y _ => enC_one y) (by simp; omega) (by simp; omega) ?_; intro v1 w1 hown1 hg1)
            have hown2 := HN.out _ _ hown1
            have hB2 := HBa.out.trans (gb_Below hg1 (by simp; omega) (ownBlock_base HOw.out))
            clear hown1 hg1
            go_wp2
            go_roundw
            case rel => exact ⟨k + 1, by omega, by go_num, hown2, hB2⟩
            case measure => simp [intOf]; omega
          | false =>
            have hdd : decide (d ≤ S2) = true := decide_eq_true (by simp at hq; omega)
            clear hq
            go_wp2_with (at_builtin; refine wpList_appR enC_len (by decide) Try.underlying103 Try.infoEntry rfl (by decide) rfl (.tmp 37) (.tmp 42) rfl w.heap.size (wr.heap.size + 1) _ _ _ [⟨⟨S0, S1, S2⟩, true, false⟩] rfl rfl HO1.out HOn.out (fun y _ => enC_one y) (by simp; omega) (by simp; omega) ?_; intro v1 w1 hown1 hg1)
            have hown2 := HN.out _ _ hown1
            have hB2 := HBa.out.trans (gb_Below hg1 (by simp; omega) (ownBlock_base HOw.out))
            clear hown1 hg1
            go_wp2
            go_roundw
            case rel => exact ⟨k + 1, by omega, by go_num, hown2, hB2⟩
            case measure => simp [intOf]; omega
    · have hke : k = es.length := by omega
      subst hke
      rw [List.take_length] at hown
      go_wp2
      go_ret
      exact ⟨_, rfl, hown, hB⟩
end Go.Proofs.Ytfgdbpjmjeaolaa

/- W9zs -/
namespace Go.Proofs.Ytfgdbpjmjeaolaa
open Go.ChangeShapes Go.WideShapes Go.ChangeAt Go.RowKit
set_option linter.unusedVariables false

set_option maxRecDepth 100000 in
set_option maxHeartbeats 1600000 in
theorem l9Mark_any (x : En) (k : Int) (w : World) (hk : k = 4 ∨ k = 5 ∨ k = 6 ∨ k = 7) :
    Calls Try.prog 162 #[enV x.it.id x.it.ti x.it.da x.rd x.st, .int .i64 k] w fun e w' => e = .returned (enV (mkE x k).it.id (mkE x k).it.ti (mkE x k).it.da (mkE x k).rd (mkE x k).st) ∧ Below w.heap.size w w' := by
  obtain ⟨⟨s, t, d⟩, r, b⟩ := x
  simp only
  have hW : ∀ o1 o2, Below w.heap.size w ((w.alloc o1).alloc o2) := fun o1 o2 => ((Below.refl _ _).alloc (Nat.le_refl _) _).alloc (by simp) _
  rcases hk with rfl | rfl | rfl | rfl
  · go_enter Try.func162, Try.ntmps162
    go_wp2
    refine bodyPost_ret (v := enV s t d true b) (by simp [results, Try.results162, go_sem]) rfl ⟨?_, ?_⟩
    · rfl
    · exact hW _ _
  · go_enter Try.func162, Try.ntmps162
    go_wp2
    refine bodyPost_ret (v := enV s t d false b) (by simp [results, Try.results162, go_sem]) rfl ⟨?_, ?_⟩
    · rfl
    · exact hW _ _
  · go_enter Try.func162, Try.ntmps162
    go_wp2
    refine bodyPost_ret (v := enV s t d r true) (by simp [results, Try.results162, go_sem]) rfl ⟨?_, ?_⟩
    · rfl
    · exact hW _ _
  · go_enter Try.func162, Try.ntmps162
    go_wp2
    refine bodyPost_ret (v := enV s t d r false) (by simp [results, Try.results162, go_sem]) rfl ⟨?_, ?_⟩
    · rfl
    · exact hW _ _

set_option maxRecDepth 100000 in
set_option maxHeartbeats 3000000 in
theorem l9Oldest_any (v : Value) (es : List En) (w : World) (h : EnAt w w.heap.size v es) (h0 : 0 < es.length) :
    Calls Try.prog 186 #[v] w fun e w' => e = .returned (.int .i64 ((goP es es.length : Nat) : Int)) ∧ Below w.heap.size w w' := by
  have HI := Lib.hid h
  obtain ⟨a, cap, rfl, hl, hm, hc⟩ := h.raw
  clear hc h
  unfold maxLen at hm
  go_enter Try.func186, Try.ntmps186
  go_wp2
  go_loopw [3, 4] (fun p i wr => ∃ k : Nat, k ≤ es.length ∧ i = .int .i64 (k : Int) ∧ ((k = 0 ∧ p = .int .i64 (-1)) ∨ (0 < k ∧ p = .int .i64 ((goP es k : Nat) : Int))) ∧ Below w.heap.size w wr) (fun _ i _ => es.length - (intOf i).toNat)
  case atStart => exact ⟨0, Nat.zero_le _, rfl, .inl ⟨rfl, rfl⟩, Below.refl _ _⟩
  case round =>
    obtain ⟨k, hk, rfl, hp, hB⟩ := hrel
    have HB : Hid (∀ n, Below w.heap.size w (wr.drewN n)) := Lib.hid (fun n => below_drewN hB n)
    by_cases hlt : k < es.length
    · obtain ⟨a', cap', hv, _, _, hc⟩ := (HI.out.below hB).raw
      cases hv
      obtain ⟨b, off, rfl, hb, hr⟩ := hc k hlt
      obtain ⟨c0, c1, c2, c3, c4, _, _⟩ := hr k hlt
      rcases hp with ⟨rfl, rfl⟩ | ⟨hk0, rfl⟩
      · have HG : Hid (goP es (0 + 1) = 0) := Lib.hid (by have := goP_step es 0 0 hlt hlt rfl; rw [this]; split <;> rfl)
        clear c0 c1 c2 c3 c4 hr hc hB
        have hk1 : decide ((-1 : Int) < 0) = true := rfl
        go_wp2
        go_quiet (fail)
        go_wp2
        go_roundw
        case rel => exact ⟨0 + 1, by omega, by go_num, .inr ⟨by omega, by rw [HG.out]⟩, HB.out _⟩
        case measure => simp [intOf]; omega
      · obtain ⟨p, hpe⟩ : ∃ p, goP es k = p := ⟨_, rfl⟩
        have hpk : p < k := by rw [← hpe]; exact (goP_lt es k).2 hk0
        have hpl : p < es.length := by omega
        obtain ⟨e0, e1, e2, e3, e4, _, _⟩ := hr p hpl
        have HG0 := Lib.hid (goP_step es k p hlt hpl hpe)
        rw [hpe]
        have HGh : Hid (ghB es[k] es[p] = if es[k].st != es[p].st then es[p].st else decide (es[k].it.da < es[p].it.da)) := Lib.hid rfl
        generalize ghB es[k] es[p] = Q at HG0 HGh
        obtain ⟨s1, hs1⟩ : ∃ x, x = es[k].st := ⟨_, rfl⟩
        obtain ⟨s2, hs2⟩ : ∃ x, x = es[p].st := ⟨_, rfl⟩
        obtain ⟨n1, hn1⟩ : ∃ x, x = es[k].it.da := ⟨_, rfl⟩
        obtain ⟨n2, hn2⟩ : ∃ x, x = es[p].it.da := ⟨_, rfl⟩
        rw [← hs1] at c4 HGh
        rw [← hs2] at e4 HGh
        rw [← hn1] at c2 HGh
        rw [← hn2] at e2 HGh
        have hp0 : decide ((p : Int) < 0) = false := decide_eq_false (by omega)
        clear c0 c1 c3 e0 e1 e3 hr hc hB hs1 hs2 hn1 hn2 hpe
        cases s1 with
        | false =>
          cases s2 with
          | true =>
            have HG : Hid (goP es (k + 1) = k) := Lib.hid (by have := HGh.out; rw [HG0.out, this]; rfl)
            go_wp2
            go_quiet (fail)
            go_wp2
            go_roundw
            case rel => exact ⟨k + 1, by omega, by go_num, .inr ⟨by omega, by rw [HG.out]⟩, HB.out _⟩
            case measure => simp [intOf]; omega
          | false =>
            by_cases hd : n1 < n2
            · have hdd : decide (n1 < n2) = true := decide_eq_true hd
              have HG : Hid (goP es (k + 1) = k) := Lib.hid (by have := HGh.out; rw [HG0.out, this, hdd]; rfl)
              go_wp2
              go_quiet (fail)
              go_wp2
              go_roundw
              case rel => exact ⟨k + 1, by omega, by go_num, .inr ⟨by omega, by rw [HG.out]⟩, HB.out _⟩
              case measure => simp [intOf]; omega
            · have hdd : decide (n1 < n2) = false := decide_eq_false hd
              have HG : Hid (goP es (k + 1) = p) := Lib.hid (by have := HGh.out; rw [HG0.out, this, hdd]; rfl)
              go_wp2
              go_quiet (fail)
              go_wp2
              go_roundw
              case rel => exact ⟨k + 1, by omega, by go_num, .inr ⟨by omega, by rw [HG.out]⟩, HB.out _⟩
              case measure => simp [intOf]; omega
        | true =>
          cases s2 with
          | false =>
            have HG : Hid (goP es (k + 1) = p) := Lib.hid (by have := HGh.out; rw [HG0.out, this]; rfl)
            go_wp2
            go_quiet (fail)
            go_wp2
            go_roundw
            case rel => exact ⟨k + 1, by omega, by go_num, .inr ⟨by omega, by rw [HG.out]⟩, HB.out _⟩
            case measure => simp [intOf]; omega
          | true =>
            by_cases hd : n1 < n2
            · have hdd : decide (n1 < n2) = true := decide_eq_true hd
              have HG : Hid (goP es (k + 1) = k) := Lib.hid (by have := HGh.out; rw [HG0.out, this, hdd]; rfl)
              go_wp2
              go_quiet (fail)
              go_wp2
              go_roundw
              case rel => exact ⟨k + 1, by omega, by go_num, .inr ⟨by omega, by rw [HG.out]⟩, HB.out _⟩
              case measure => simp [intOf]; omega
            · have hdd : decide (n1 < n2) = false := decide_eq_false hd
              have HG : Hid (goP es (k + 1) = p) := Lib.hid (by have := HGh.out; rw [HG0.out, this, hdd]; rfl)
              go_wp2
              go_quiet (fail)
              go_wp2
              go_roundw
              case rel => exact ⟨k + 1, by omega, by go_num, .inr ⟨by omega, by rw [HG.out]⟩, HB.out _⟩
              case measure => simp [intOf]; omega
    · have hke : k = es.length := by omega
      obtain ⟨_, rfl⟩ : 0 < k ∧ _ := by
        rcases hp with ⟨rfl, _⟩ | h
        · omega
        · exact h
      subst hke
      go_wp2
      go_ret
      exact ⟨rfl, hB⟩
end Go.Proofs.Ytfgdbpjmjeaolaa

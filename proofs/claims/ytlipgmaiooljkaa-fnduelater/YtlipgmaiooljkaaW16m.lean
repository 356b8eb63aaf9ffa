/- Due of both sides: which polls' addresses are asked. -/
import Derived.Test.YtlipgmaiooljkaaOpenP
import Derived.Test.YtlipgmaiooljkaaRecsB
namespace Go.Proofs.Ytlipgmaiooljkaa
open Go.ChangeShapes Go.WideShapes Go.ChangeAt Go.RowKit
set_option linter.unusedVariables false
set_option linter.unusedSimpArgs false

def stC (s : ByteArray) : List Value := [.string s]
theorem stC_len (s : ByteArray) : (stC s).length = 1 := rfl
theorem stC_one (s : ByteArray) : ∀ x ∈ stC s, x.oneCell' = true := by intro x hx; obtain rfl := List.mem_singleton.1 hx; rfl
theorem Try.infoStr : (Try.prog.info? 9).map (fun i => (i.zero, i.size, i.bytes)) = some (some (.string ByteArray.empty), 1, 16) := by kernel_rfl
def dueB (now : Int) (p : PollD) : Bool := pkB p && !p.g && decide (p.n ≤ now)
def duT (ps : List PollD) (now : Int) (k : Nat) : List ByteArray := ((ps.take k).filter (dueB now)).map (·.u)
def duL (ps : List PollD) (now : Int) : List ByteArray := if 50 < ps.length then [] else duT ps now ps.length
theorem duT_zero (ps : List PollD) (now : Int) : duT ps now 0 = [] := by simp [duT]
theorem duT_step (ps : List PollD) (now : Int) (k : Nat) (h : k < ps.length) : duT ps now (k + 1) = duT ps now k ++ (if dueB now ps[k] = true then [ps[k].u] else []) := by
  unfold duT
  rw [List.take_succ_eq_append_getElem h, List.filter_append, List.map_append]
  congr 1
  by_cases hd : dueB now ps[k] = true
  · rw [if_pos hd, List.filter_cons_of_pos hd]; rfl
  · rw [if_neg hd, List.filter_cons_of_neg hd]; rfl
theorem duT_len (ps : List PollD) (now : Int) (k : Nat) : (duT ps now k).length ≤ k := by
  unfold duT
  rw [List.length_map]
  have h1 := List.length_filter_le (dueB now) (ps.take k)
  have h2 := List.length_take_le k ps
  omega
theorem duL_many {ps : List PollD} {now : Int} (h : 50 < ps.length) : duL ps now = [] := if_pos h
theorem duL_few {ps : List PollD} {now : Int} (h : ¬ 50 < ps.length) : duL ps now = duT ps now ps.length := if_neg h
theorem one_rec16 {α : Type} {k : Nat} {C : α → List Value} (hk : ∀ x, (C x).length = k) (w : World) (e : TypeId) (x : α) (cs : Array Value) (hcs : cs.toList = C x) : RecAt k C (w.alloc (.cells cs e)) (w.heap.size + 1) (.slice (some ⟨w.heap.size, 0, none⟩) 1 1) [x] := by
  refine ⟨_, 1, rfl, Nat.le_refl _, by unfold maxLen; omega, fun _ => ⟨w.heap.size, 0, rfl, Nat.lt_succ_self _, fun i hi j u hu => ?_⟩⟩
  have hi0 : i = 0 := by simpa using hi
  subst hi0
  rw [cell_of_row _ _ _ cs e (0, 0) (heap_alloc_new w _)]
  simp only [Nat.zero_mul, Nat.zero_add]
  rw [← Array.getElem?_toList, hcs]
  exact hu
theorem gb_Below16 {w w' : World} {row : Option Nat} {B : Nat} (h : w.grownBy w' row) (hB : B ≤ w.heap.size) (hr : ∀ b, row = some b → B ≤ b) : Below B w w' :=
  ⟨h.os, h.tape, h.output, h.size, fun k hk => h.block k (by omega) (fun e => by have := hr k e.symm; omega)⟩
theorem PksAt.below {w w' : World} {B : Nat} {v : Value} {ps : List PollD} (h : PksAt w B v ps) (hb : Below B w w') : PksAt w' B v ps := ⟨h.1.below hb, h.2⟩
theorem PksAt.at {w : World} {B : Nat} {v : Value} {ps : List PollD} (h : PksAt w B v ps) (k : Nat) (hk : k < ps.length) : ∃ b off cap, v = .slice (some ⟨b, off, none⟩) ps.length cap ∧ b < B ∧
    w.cell? ⟨b, off + k * 6, none⟩ = some (.string ps[k].u) ∧ w.cell? ⟨b, off + k * 6 + 1, none⟩ = some (.string ps[k].m) ∧ w.cell? ⟨b, off + k * 6 + 2, none⟩ = some (.int .i64 ps[k].n) ∧ w.cell? ⟨b, off + k * 6 + 3, none⟩ = some (.int .i64 ps[k].wt) ∧ w.cell? ⟨b, off + k * 6 + 4, none⟩ = some (.int .i64 ps[k].f) ∧ w.cell? ⟨b, off + k * 6 + 5, none⟩ = some (.bool ps[k].g) := by
  obtain ⟨a, cap, hv, h1, h2, hc⟩ := h.1
  obtain ⟨b, off, rfl, hB, hr⟩ := hc (by omega)
  exact ⟨b, off, cap, hv, hB, hr k hk 0 _ rfl, hr k hk 1 _ rfl, hr k hk 2 _ rfl, hr k hk 3 _ rfl, hr k hk 4 _ rfl, hr k hk 5 _ rfl⟩

set_option maxRecDepth 100000 in
set_option maxHeartbeats 2000000 in
theorem implDue_any (v : Value) (ps : List PollD) (now : Int) (w : World) (h : PksAt w w.heap.size v ps) :
    Calls Try.prog 26 #[v, .int .i64 now] w fun e w' => ∃ y, e = .returned y ∧ OwnR 9 1 stC w' w.heap.size y (duL ps now) ∧ Below w.heap.size w w' := by
  have HI := Lib.hid h
  obtain ⟨a, cap, rfl, hl, hm, _⟩ := h.1
  unfold maxLen at hm
  clear h
  by_cases hc : 50 < ps.length
  case pos =>
    have hcI : (50 : Int) < (ps.length : Int) := by omega
    rw [duL_many hc]
    go_enter Try.func26, Try.ntmps26
    go_wp2
    go_ret
    exact ⟨_, rfl, OwnR.nil _ _ _, Below.refl _ _⟩
  have hcI : ¬ (50 : Int) < (ps.length : Int) := by omega
  rw [duL_few hc]
  go_enter Try.func26, Try.ntmps26
  go_wp2
  go_loopw [5, 13] (fun o i wr => ∃ k : Nat, k ≤ ps.length ∧ i = .int .i64 (k : Int) ∧ OwnR 9 1 stC wr w.heap.size o (duT ps now k) ∧ Below w.heap.size w wr) (fun _ i _ => ps.length - (intOf i).toNat)
  case atStart => exact ⟨0, Nat.zero_le _, rfl, by rw [duT_zero]; exact OwnR.nil _ _ _, Below.refl _ _⟩
  case round =>
    obtain ⟨k, hk, rfl, hown, hB⟩ := hrel
    by_cases hlt : k < ps.length
    case neg =>
      have hke : k = ps.length := by omega
      rw [hke] at hown
      go_wp2
      go_ret
      exact ⟨_, rfl, hown, hB⟩
    obtain ⟨b, off, cap2, hv, hb, c0, c1, c2, c3, c4, c5⟩ := (HI.out.below hB).at k hlt
    cases hv
    have HS := Lib.hid (duT_step ps now k hlt)
    have hll := duT_len ps now k
    have HP := Lib.hid (fun w => implPollOk_any ps[k] w (HI.out.2 _ (List.getElem_mem hlt)))
    obtain ⟨q, hq⟩ : ∃ q, q = ps[k] := ⟨_, rfl⟩
    rw [← hq] at c0 c1 c2 c3 c4 c5 HS HP
    have HD : Hid (dueB now q = (pkB q && !q.g && decide (q.n ≤ now))) := Lib.hid rfl
    obtain ⟨oa, oc, rfl⟩ := hown.slice
    generalize duT ps now k = LL at hown HS hll
    have hbw : b < wr.heap.size := by have := hB.size; omega
    generalize pkB q = C at HP HD
    obtain ⟨u, m, n, wt, f, g⟩ := q
    dsimp only at c0 c1 c2 c3 c4 c5 HD HS
    clear hq hb
    have hx := Box.new wr #[.string u, .string m, .int .i64 n, .int .i64 wt, .int .i64 f, .bool g] 23
    replace hown := hown.alloc (.cells #[.string u, .string m, .int .i64 n, .int .i64 wt, .int .i64 f, .bool g] 23)
    replace hB := hB.alloc hB.size (.cells #[.string u, .string m, .int .i64 n, .int .i64 wt, .int .i64 f, .bool g] 23)
    go_wp2_with fail
    generalize wr.alloc (.cells #[.string u, .string m, .int .i64 n, .int .i64 wt, .int .i64 f, .bool g] 23) = W1 at hx hown hB ⊢
    generalize wr.heap.size = G at hx hbw ⊢
    refine (HP.out _).mono ?_
    rintro e w2 ⟨rfl, hb2⟩
    replace hx := hx.keep hb2 hx.lt
    replace hown := hown.keep hb2 (Nat.le_refl _)
    replace hB := hB.trans (hb2.mono hB.size)
    clear hb2 HP c0 c1 c2 c3 c4 c5
    have x0 := hx.cell 0 _ rfl
    have x1 := hx.cell 1 _ rfl
    have x2 := hx.cell 2 _ rfl
    have x3 := hx.cell 3 _ rfl
    have x4 := hx.cell 4 _ rfl
    have x5 := hx.cell 5 _ rfl
    cases C with
    | false =>
      have HN : Hid (OwnR 9 1 stC w2 w.heap.size (.slice oa LL.length oc) (duT ps now (k + 1))) := Lib.hid (by rw [HS.out, if_neg (by rw [HD.out]; simp), List.append_nil]; exact hown)
      clear hown HS HD
      go_wp2
      go_roundw
      case rel => exact ⟨k + 1, by omega, by go_num, HN.out, hB⟩
      case measure => simp [intOf]; omega
    | true =>
      cases g with
      | true =>
        have HN : Hid (OwnR 9 1 stC w2 w.heap.size (.slice oa LL.length oc) (duT ps now (k + 1))) := Lib.hid (by rw [HS.out, if_neg (by rw [HD.out]; simp), List.append_nil]; exact hown)
        clear hown HS HD
        go_wp2
        go_roundw
        case rel => exact ⟨k + 1, by omega, by go_num, HN.out, hB⟩
        case measure => simp [intOf]; omega
      | false =>
        by_cases hn : n ≤ now
        case neg =>
          have hd : decide (n ≤ now) = false := decide_eq_false hn
          have HN : Hid (OwnR 9 1 stC w2 w.heap.size (.slice oa LL.length oc) (duT ps now (k + 1))) := Lib.hid (by rw [HS.out, if_neg (by rw [HD.out]; simp; omega), List.append_nil]; exact hown)
          clear hown HS HD
          go_wp2
          go_roundw
          case rel => exact ⟨k + 1, by omega, by go_num, HN.out, hB⟩
          case measure => simp [intOf]; omega
        have hd : decide (n ≤ now) = true := decide_eq_true hn
        have HN : Hid (∀ v' w', OwnR 9 1 stC w' w.heap.size v' (LL ++ [u]) → OwnR 9 1 stC w' w.heap.size v' (duT ps now (k + 1))) := Lib.hid (fun v' w' h => by rw [HS.out, if_pos (by rw [HD.out, hd]; rfl)]; exact h)
        clear HS HD
        have HO2 := Lib.hid (hown.alloc (.cells #[.string u] 9))
        have HOn := Lib.hid (one_rec16 stC_len w2 9 u #[.string u] rfl)
        have HB2 := Lib.hid (hB.alloc hB.size (.cells #[.string u] 9))
        have HOw := Lib.hid hown
        have hws := hB.size
        clear hown hB
        go_wp2_with (at_builtin; refine wpList_appR stC_len (by decide) Try.underlying42 Try.infoStr rfl (by decide) rfl (.tmp 30) (.tmp 33) rfl w.heap.size (w2.heap.size + 1) _ _ _ [u] rfl rfl HO2.out HOn.out (fun y _ => stC_one y) (by simp; omega) (by simp; omega) ?_; intro v1 w3 hown1 hg1)
        have hown2 := HN.out _ _ hown1
        have hB := HB2.out.trans (gb_Below16 hg1 (by simp; omega) (ownBlock_base HOw.out))
        clear hown1 hg1
        go_wp2
        go_roundw
        case rel => exact ⟨k + 1, by omega, by go_num, hown2, hB⟩
        case measure => simp [intOf]; omega

set_option maxRecDepth 100000 in
set_option maxHeartbeats 2000000 in
theorem specDue_any (v : Value) (ps : List PollD) (now : Int) (w : World) (h : PksAt w w.heap.size v ps) :
    Calls Try.prog 24 #[v, .int .i64 now] w fun e w' => ∃ y, e = .returned y ∧ OwnR 9 1 stC w' w.heap.size y (duL ps now) ∧ Below w.heap.size w w' := by
  have HI := Lib.hid h
  obtain ⟨a, cap, rfl, hl, hm, _⟩ := h.1
  unfold maxLen at hm
  clear h
  have ho0 := OwnR.lit (k := 1) (C := stC) 9 w w.heap.size (Nat.le_refl _)
  have hb0 : Below w.heap.size w (w.alloc (.cells #[] 9)) := (Below.refl _ _).alloc (Nat.le_refl _) _
  go_enter Try.func24, Try.ntmps24
  go_wp2
  go_loopw [5, 6] (fun o i wr => ∃ k : Nat, k ≤ ps.length ∧ (50 < ps.length → k = 0) ∧ i = .int .i64 (k : Int) ∧ OwnR 9 1 stC wr w.heap.size o (duT ps now k) ∧ Below w.heap.size w wr) (fun _ i _ => ps.length - (intOf i).toNat)
  case atStart => exact ⟨0, Nat.zero_le _, fun _ => rfl, rfl, by rw [duT_zero]; exact ho0, hb0⟩
  case round =>
    obtain ⟨k, hk, hk0, rfl, hown, hB⟩ := hrel
    clear ho0 hb0
    by_cases hlt : k < ps.length
    case neg =>
      have hke : k = ps.length := by omega
      have HL : Hid (duL ps now = duT ps now k) := Lib.hid (by
        by_cases h5 : 50 < ps.length
        · have := hk0 h5; omega
        · rw [duL_few h5, hke])
      clear hk0
      go_wp2
      go_ret
      exact ⟨_, rfl, by rw [HL.out]; exact hown, hB⟩
    by_cases hc : 50 < ps.length
    case pos =>
      have HL : Hid (duL ps now = duT ps now k) := Lib.hid (by rw [hk0 hc, duT_zero, duL_many hc])
      have hcI : ¬ ((ps.length : Int) ≤ 50) := by omega
      clear hk0
      go_wp2
      go_ret
      exact ⟨_, rfl, by rw [HL.out]; exact hown, hB⟩
    have hcI : (ps.length : Int) ≤ 50 := by omega
    clear hk0
    obtain ⟨b, off, cap2, hv, hb, c0, c1, c2, c3, c4, c5⟩ := (HI.out.below hB).at k hlt
    cases hv
    have HS := Lib.hid (duT_step ps now k hlt)
    have hll := duT_len ps now k
    have HP := Lib.hid (fun w => specPollOk_any ps[k] w (HI.out.2 _ (List.getElem_mem hlt)))
    obtain ⟨q, hq⟩ : ∃ q, q = ps[k] := ⟨_, rfl⟩
    rw [← hq] at c0 c1 c2 c3 c4 c5 HS HP
    have HD : Hid (dueB now q = (pkB q && !q.g && decide (q.n ≤ now))) := Lib.hid rfl
    obtain ⟨oa, oc, rfl⟩ := hown.slice
    generalize duT ps now k = LL at hown HS hll
    have hbw : b < wr.heap.size := by have := hB.size; omega
    generalize pkB q = C at HP HD
    obtain ⟨u, m, n, wt, f, g⟩ := q
    dsimp only at c0 c1 c2 c3 c4 c5 HD HS
    clear hq hb
    go_wp2_with fail
    refine (HP.out _).mono ?_
    rintro e w2 ⟨rfl, hb2⟩
    have d0 : w2.cell? ⟨b, off + k * 6, none⟩ = _ := (hb2.cell (p := ⟨b, off + k * 6, none⟩) hbw).trans c0
    have d1 : w2.cell? ⟨b, off + k * 6 + 1, none⟩ = _ := (hb2.cell (p := ⟨b, off + k * 6 + 1, none⟩) hbw).trans c1
    have d2 : w2.cell? ⟨b, off + k * 6 + 2, none⟩ = _ := (hb2.cell (p := ⟨b, off + k * 6 + 2, none⟩) hbw).trans c2
    have d3 : w2.cell? ⟨b, off + k * 6 + 3, none⟩ = _ := (hb2.cell (p := ⟨b, off + k * 6 + 3, none⟩) hbw).trans c3
    have d4 : w2.cell? ⟨b, off + k * 6 + 4, none⟩ = _ := (hb2.cell (p := ⟨b, off + k * 6 + 4, none⟩) hbw).trans c4
    have d5 : w2.cell? ⟨b, off + k * 6 + 5, none⟩ = _ := (hb2.cell (p := ⟨b, off + k * 6 + 5, none⟩) hbw).trans c5
    replace hown := hown.keep hb2 (Nat.le_refl _)
    replace hB := hB.trans (hb2.mono hB.size)
    have hb9 : b < w2.heap.size := by have := hb2.size; omega
    clear hb2 HP c0 c1 c2 c3 c4 c5
    cases C with
    | false =>
      have HN : Hid (OwnR 9 1 stC w2 w.heap.size (.slice oa LL.length oc) (duT ps now (k + 1))) := Lib.hid (by rw [HS.out, if_neg (by rw [HD.out]; simp), List.append_nil]; exact hown)
      clear hown HS HD
      go_wp2
      go_roundw
      case rel => exact ⟨k + 1, by omega, by omega, by go_num, HN.out, hB⟩
      case measure => simp [intOf]; omega
    | true =>
      cases g with
      | true =>
        have HN : Hid (OwnR 9 1 stC w2 w.heap.size (.slice oa LL.length oc) (duT ps now (k + 1))) := Lib.hid (by rw [HS.out, if_neg (by rw [HD.out]; simp), List.append_nil]; exact hown)
        clear hown HS HD
        go_wp2
        go_roundw
        case rel => exact ⟨k + 1, by omega, by omega, by go_num, HN.out, hB⟩
        case measure => simp [intOf]; omega
      | false =>
        by_cases hn : n ≤ now
        case neg =>
          have hd : decide (n ≤ now) = false := decide_eq_false hn
          have HN : Hid (OwnR 9 1 stC w2 w.heap.size (.slice oa LL.length oc) (duT ps now (k + 1))) := Lib.hid (by rw [HS.out, if_neg (by rw [HD.out]; simp; omega), List.append_nil]; exact hown)
          clear hown HS HD
          go_wp2
          go_roundw
          case rel => exact ⟨k + 1, by omega, by omega, by go_num, HN.out, hB⟩
          case measure => simp [intOf]; omega
        have hd : decide (n ≤ now) = true := decide_eq_true hn
        have HN : Hid (∀ v' w', OwnR 9 1 stC w' w.heap.size v' (LL ++ [u]) → OwnR 9 1 stC w' w.heap.size v' (duT ps now (k + 1))) := Lib.hid (fun v' w' h => by rw [HS.out, if_pos (by rw [HD.out, hd]; rfl)]; exact h)
        clear HS HD
        have HO2 := Lib.hid (hown.alloc (.cells #[.string u] 9))
        have HOn := Lib.hid (one_rec16 stC_len w2 9 u #[.string u] rfl)
        have HB2 := Lib.hid (hB.alloc hB.size (.cells #[.string u] 9))
        have HOw := Lib.hid hown
        have hws := hB.size
        clear hown hB
        go_wp2_with (at_builtin; refine wpList_appR stC_len (by decide) Try.underlying42 Try.infoStr rfl (by decide) rfl (.tmp 41) (.tmp 47) rfl w.heap.size (w2.heap.size + 1) _ _ _ [u] rfl rfl HO2.out HOn.out (fun y _ => stC_one y) (by simp; omega) (by simp; omega) ?_; intro v1 w3 hown1 hg1)
        have hown2 := HN.out _ _ hown1
        have hB := HB2.out.trans (gb_Below16 hg1 (by simp; omega) (ownBlock_base HOw.out))
        clear hown1 hg1
        go_wp2
        go_roundw
        case rel => exact ⟨k + 1, by omega, by omega, by go_num, hown2, hB⟩
        case measure => simp [intOf]; omega
end Go.Proofs.Ytlipgmaiooljkaa

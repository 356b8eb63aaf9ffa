/- What the laws draw, more: numbers near a bound, texts. -/
import Derived.Test.YtgimjfffdnopiaaDoorDraw
namespace Go.Proofs.YtgimjfffdnopiaaDoor
open Go.ChangeShapes Go.WideShapes Go.ChangeAt Go.RowKit
set_option linter.unusedVariables false

theorem cell_of_cells {w : World} {b i : Nat} {cs : Array Value} {t : TypeId} {fr : Nat × Nat} {v : Value} (h : w.heap[b]? = some (.cells cs t fr)) (hi : cs[i]? = some v) : w.cell? ⟨b, i, none⟩ = some v := by
  rw [cell_of_row w b i cs t fr h]; exact hi

set_option maxHeartbeats 800000 in
theorem off_any (low high : Int) (base rb : Nat) (cv : Value) (zs : List Int) (w : World) (h : Rd w base rb cv zs) (h0 : -1000000000000 ≤ low) (h1 : low ≤ high) (h2 : high ≤ 1000000000000) :
    Calls Tryd.prog 40 #[.pointer (some ⟨rb, 0, none⟩), .int .i64 low, .int .i64 high] w fun e w' => ∃ r : Int, e = .returned (.int .i64 r) ∧ (Lit.int .i64 r).wf = true ∧ Rd w' base rb cv zs ∧ w.grownBy w' (some rb) := by
  go_enter Tryd.func40, Tryd.ntmps40
  go_wp2_with fail
  refine (once_any 24 base rb cv zs _ h (by omega) (by omega)).mono ?_
  rintro e w1 ⟨b, rfl, hr1, hg1⟩
  cases b with
  | false =>
    go_wp2_with fail
    refine (near_any low high base rb cv zs _ hr1 h0 h1 h2).mono ?_
    rintro e w2 ⟨r, rfl, hr0, hr2, hrd2, hg2⟩
    go_wp2
    go_ret
    exact ⟨_, rfl, by simp [Lit.wf, IntKind.min, IntKind.max, IntKind.signed, IntKind.bits]; omega, hrd2, grown_trans hg1 hg2⟩
  | true =>
    go_wp2_with fail
    refine (below_any 4 base rb cv zs _ (hr1.alloc _) (by omega) (by omega)).mono ?_
    rintro e w2 ⟨x, rfl, hx0, hx1, hr2, hg2⟩
    have hlt := hr1.lt
    have hblk : w2.heap[w1.heap.size]? = some (.cells #[.int .i64 (low - 1), .int .i64 (high + 1), .int .i64 (-9223372036854775808), .int .i64 9223372036854775807] 2 (0, 0)) := by
      rw [hg2.block w1.heap.size (by simp) (by simp; omega)]; exact heap_alloc_new w1 _
    have c0 := cell_of_cells (i := 0) hblk rfl
    have c1 := cell_of_cells (i := 1) hblk rfl
    have c2 := cell_of_cells (i := 2) hblk rfl
    have c3 := cell_of_cells (i := 3) hblk rfl
    have hg3 := grown_trans (grown_trans hg1 (World.grownBy_alloc w1 _ (some rb))) hg2
    clear hblk hg2 hg1
    rcases (show x = 0 ∨ x = 1 ∨ x = 2 ∨ x = 3 by omega) with rfl | rfl | rfl | rfl
    · clear c1 c2 c3
      go_wp2
      go_ret
      exact ⟨_, rfl, by simp [Lit.wf, IntKind.min, IntKind.max, IntKind.signed, IntKind.bits]; omega, hr2, hg3⟩
    · clear c0 c2 c3
      go_wp2
      go_ret
      exact ⟨_, rfl, by simp [Lit.wf, IntKind.min, IntKind.max, IntKind.signed, IntKind.bits]; omega, hr2, hg3⟩
    · clear c1 c0 c3
      go_wp2
      go_ret
      exact ⟨_, rfl, by decide, hr2, hg3⟩
    · clear c1 c2 c0
      go_wp2
      go_ret
      exact ⟨_, rfl, by decide, hr2, hg3⟩

theorem byte_cells (x : Int) (h0 : 0 ≤ x) (h1 : x < 256) : (#[Value.int .u8 x] : Array Value).toList = [UInt8.ofNat x.toNat].map bc := by
  have : ((UInt8.ofNat x.toNat).toNat : Int) = x := by
    rw [UInt8.toNat_ofNat', Nat.mod_eq_of_lt (by simp; omega)]; omega
  show [Value.int .u8 x] = [bc _]
  unfold bc; rw [this]

/-- string(out[1:]) -/
theorem conv_ownB_from {w : World} {base g cap : Nat} {l : List UInt8} (h : OwnB w base (.slice (some ⟨g, 0, none⟩) l.length cap) l) (c : Nat) (hl : 1 ≤ l.length) (ad : Option Addr) (had : l.length ≠ 1 → ad = some ⟨g, 1, none⟩) (had1 : ad ≠ none) :
    (convert 22 9 (.slice ad (l.length - 1) c)).run Tryd.prog w = .ok (.string ⟨l.tail.toArray⟩) w := by
  have hd : l.tail.length = l.length - 1 := by simp
  obtain ⟨ad', rfl⟩ : ∃ ad', ad = some ad' := by
    cases ad with
    | none => exact absurd rfl had1
    | some x => exact ⟨x, rfl⟩
  rw [← hd]
  refine run_convert_bytes_back w 22 9 5 ad' c l.tail Tryd.underlying22 Tryd.underlying5 Tryd.underlying9 ?_
  intro j hj
  have hne : l.length ≠ 1 := by omega
  have e1 : 1 + j = j + 1 := by omega
  obtain rfl := Option.some.inj (had hne)
  have := World.ownsRow.cellAt h (1 + j) (by omega)
  rw [Addr.add_lit, this]
  simp [bc, e1, show j + 1 < l.length by omega]

theorem ownB_cap {w : World} {base g cap n : Nat} {l : List UInt8} (h : w.ownsRow base 5 1 (.slice (some ⟨g, 0, none⟩) n cap) l.length (l.map bc)) : l.length ≤ cap ∧ cap ≤ maxLen := by
  rcases h.2 with ⟨e1, _⟩ | ⟨_, cap', _, e1, _, _, e2, e3, _⟩
  · cases e1
  · have : cap = cap' := (Value.slice.inj e1).2.2
    omega

theorem open_any (cv : Value) (a : Option Addr) (len cap : Nat) (hcv : cv = .slice a len cap) (w : World) :
    Calls Tryd.prog 38 #[cv] w fun e w' => e = .returned (.pointer (some ⟨w.heap.size, 0, none⟩)) ∧ w' = w.alloc (.cells #[cv, .int .i64 0] 104) := by
  subst hcv
  go_enter Tryd.func38, Tryd.ntmps38
  go_wp2
  go_ret
  exact ⟨rfl, rfl⟩

/-- The code that a law is given: a slice of bytes. -/
def Cd (w : World) (cv : Value) (zs : List Int) : Prop := RowAt .u8 w w.heap.size cv zs ∧ ∀ z ∈ zs, 0 ≤ z ∧ z ≤ 255
theorem Cd.of_row {w : World} {a : Option Addr} {len cap : Nat} {z : List Int} (h : IsRow .u8 w a len cap z) : Cd w (.slice a len cap) (z.take len) := by
  obtain ⟨_, hr, hw⟩ := h.row
  exact ⟨hr, fun n hn => bounds_u8 (hw n hn)⟩
theorem Cd.below {w w' : World} {cv : Value} {zs : List Int} (h : Cd w cv zs) (hb : Below w.heap.size w w') : Cd w' cv zs := ⟨(h.1.below hb).mono hb.size, h.2⟩
theorem Cd.rd {w : World} {cv : Value} {zs : List Int} (h : Cd w cv zs) : Rd (w.alloc (.cells #[cv, .int .i64 0] 104)) w.heap.size w.heap.size cv zs :=
  ⟨h.1.below ((Below.refl _ w).alloc (Nat.le_refl _) _), h.2, ⟨0, Nat.zero_le _, heap_alloc_new w _⟩, Nat.le_refl _⟩
theorem below_open {w w' : World} {o : Obj} (hg : (w.alloc o).grownBy w' (some w.heap.size)) : Below w.heap.size w w' :=
  ((Below.refl _ w).alloc (Nat.le_refl _) o).trans (below_of_grown hg (Nat.le_refl _) (by simp))
theorem Cd.form {w : World} {cv : Value} {zs : List Int} (h : Cd w cv zs) : ∃ a len cap, cv = .slice a len cap := by
  obtain ⟨a, cap, hv, _⟩ := h.1
  exact ⟨a, _, cap, hv⟩

theorem big_any (w : World) (cv : Value) (zs : List Int) (h : Cd w cv zs) :
    Calls Tryd.prog 8 #[cv] w fun e w' => (∃ b, e = .returned (.bool b)) ∧ w = w' := by
  obtain ⟨a, cap, rfl, hl, hm, _⟩ := h.1
  unfold maxLen at hm
  clear h
  go_enter Tryd.func8, Tryd.ntmps8
  go_wp2
  go_ret
  exact ⟨⟨_, rfl⟩, rfl⟩
end Go.Proofs.YtgimjfffdnopiaaDoor

/- What the laws on readers draw: texts, items. -/
import Derived.Test.YtgimjfffdnopiaaDoorDraw4
import Derived.Test.YtgimjfffdnopiaaDoorFlo
import Derived.Test.YtgimjfffdnopiaaDoorW8g
import Derived.WalkLawsBesides
namespace Go.Proofs.YtgimjfffdnopiaaDoor
open Go.ChangeShapes Go.WideShapes Go.ChangeAt Go.RowKit
set_option linter.unusedVariables false
set_option linter.unusedSimpArgs false

theorem gw_below {w wr w' : World} {row : Option Nat} {B : Nat} (h : w.grownBy wr row) (hb : Below B wr w') (hB : w.heap.size ≤ B) : w.grownBy w' row :=
  ⟨hb.os.trans h.os, hb.tape.trans h.tape, hb.output.trans h.output, Nat.le_trans h.size hb.size, fun k hk hne => (hb.block k (by omega)).trans (h.block k hk hne)⟩
theorem below3 (w : World) (B g : Nat) (hB : B ≤ g) (a b c : Value) : Below B w (((w.setCell ⟨g, 0, none⟩ a).setCell ⟨g, 1, none⟩ b).setCell ⟨g, 2, none⟩ c) := (((Below.refl B w).setCell (p := ⟨g, 0, none⟩) hB a).setCell (p := ⟨g, 1, none⟩) hB b).setCell (p := ⟨g, 2, none⟩) hB c
/-- The texts that an id is drawn of. -/
abbrev ids6 : Array Value := #[.string ⟨#[49]⟩, .string ⟨#[50]⟩, .string ⟨#[51]⟩, .string ⟨#[52]⟩, .string ⟨#[53]⟩, .string ⟨#[120, 60, 121]⟩]
/-- What is known of each operation of the region. -/
def itP (rb : Nat) (w0 : World) (i : Nat) (v : Value) (wr : World) : Prop := match i with
  | 0 => ∃ g, v = .slice (some ⟨g, 0, none⟩) 6 6 ∧ g ≠ rb ∧ Box wr g ids6 9
  | 2 => ∃ x : Nat, v = .int .i64 (x : Int) ∧ x < 6
  | 3 => ∃ g x : Nat, v = .pointer (some ⟨g, x, none⟩) ∧ x < 6 ∧ g ≠ rb ∧ Box wr g ids6 9
  | 4 => ∃ t : ByteArray, v = .string t ∧ t.size ≤ 3
  | 6 => ∃ t : ByteArray, v = .string t ∧ t.size ≤ 8
  | 8 => ∃ x : Int, v = .int .i64 x ∧ 0 ≤ x ∧ x < 9
  | 9 => ∃ x : Int, v = .int .i64 x ∧ 20000 ≤ x ∧ x < 20009
  | 10 => ∃ it : It, v = itV it.id it.ti it.da ∧ it.id.size ≤ 3 ∧ it.ti.size ≤ 8
  | 11 => ∃ g, v = .pointer (some ⟨g, 0, none⟩) ∧ g ≠ rb ∧ w0.heap.size < g ∧ Box wr g #[.string ⟨#[]⟩, .string ⟨#[]⟩, .int .i64 0] 71
  | _ => True
theorem itP_keep {rb : Nat} {w0 w w' : World} (hb : ∀ g cs t, g ≠ rb → Box w g cs t → Box w' g cs t) (i : Nat) (v : Value) (h : itP rb w0 i v w) : itP rb w0 i v w' := by
  unfold itP at h ⊢
  split at h
  · obtain ⟨g, h1, h2, h3⟩ := h; exact ⟨g, h1, h2, hb _ _ _ h2 h3⟩
  · exact h
  · obtain ⟨g, x, h1, h2, h3, h4⟩ := h; exact ⟨g, x, h1, h2, h3, hb _ _ _ h3 h4⟩
  · exact h
  · exact h
  · exact h
  · exact h
  · exact h
  · obtain ⟨g, h1, h2, h3, h4⟩ := h; exact ⟨g, h1, h2, h3, hb _ _ _ h2 h4⟩
  · trivial
theorem Box.keepG {w w' : World} {g rb : Nat} {cs : Array Value} {t : TypeId} (h : Box w g cs t) (hg : w.grownBy w' (some rb)) (hne : g ≠ rb) : Box w' g cs t := (hg.block g h.lt (fun e => hne (Option.some.inj e))).trans h

end Go.Proofs.YtgimjfffdnopiaaDoor

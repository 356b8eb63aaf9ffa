/- Joined: Draw4. -/
import Derived.WalkLawsBesides
import Derived.Laws.DeepStrings4
import Derived.Deep.RegionWith
import Derived.Test.YtffkakpbelknaaaH1
import Derived.Test.YtffkakpbelknaaaH2
import Derived.Test.YtffkakpbelknaaaH4
/- Draw4 -/
namespace Go.Proofs.Ytffkakpbelknaaa
open Go.ChangeShapes Go.WideShapes Go.ChangeAt Go.RowKit
set_option linter.unusedVariables false

theorem wrap_byte (z : Int) (h0 : 0 ≤ z) (h1 : z < 256) : IntKind.u8.wrap z = z := by rw [IntKind.wrap_u8']; omega
theorem conv_one (w : World) (z : Int) (h0 : 0 ≤ z) (h1 : z < 256) :
    (convert 22 9 (.slice (some ⟨w.heap.size, 0, none⟩) 1 1)).run Try.prog (w.alloc (.cells #[.int .u8 z] 5)) = .ok (.string ⟨[UInt8.ofNat z.toNat].toArray⟩) (w.alloc (.cells #[.int .u8 z] 5)) := by
  refine conv_ownB (base := w.heap.size) ?_
  have := World.ownsRow_lit (base := w.heap.size) (e := 5) (size := 1) w #[.int .u8 z] 1 (Nat.le_refl _) (by decide) rfl
  rw [byte_cells z h0 h1] at this
  exact this

theorem hexR_size (a : ByteArray) (h : a.size ≤ 4000) : (hexR a).size = 2 * a.size := by
  unfold hexR; rw [if_pos h]
  show (hexL a.data.toList).toArray.size = _
  rw [List.size_toArray, hexL_len]; simp

end Go.Proofs.Ytffkakpbelknaaa

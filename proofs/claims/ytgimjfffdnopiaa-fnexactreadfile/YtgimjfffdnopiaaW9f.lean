/- What the laws make of entries: counted, copied, held against each other. -/
import Derived.Test.YtgimjfffdnopiaaW9e
import Derived.Test.YtgimjfffdnopiaaW8m
namespace Go.Proofs.Ytgimjfffdnopiaa
open Go.ChangeShapes Go.WideShapes Go.ChangeAt Go.RowKit
set_option linter.unusedVariables false

theorem Try.infoEntry : (Try.prog.info? 103).map (fun i => (i.zero, i.size, i.bytes)) = some (some (.agg #[.string ByteArray.empty, .string ByteArray.empty, .int .i64 0, .bool false, .bool false]), 5, 48) := by kernel_rfl

end Go.Proofs.Ytgimjfffdnopiaa

/- What the laws make of entries: copied, held against each other. -/
import Derived.Test.YtgimjfffdnopiaaW9f
namespace Go.Proofs.Ytgimjfffdnopiaa
open Go.ChangeShapes Go.WideShapes Go.ChangeAt Go.RowKit
set_option linter.unusedVariables false

end Go.Proofs.Ytgimjfffdnopiaa

/- What the laws on words, digits and texts draw. -/
import Derived.Test.YtlipgmaiooljkaaDraw2
import Derived.Test.YtlipgmaiooljkaaW1c
namespace Go.Proofs.Ytlipgmaiooljkaa
open Go.ChangeShapes Go.WideShapes Go.ChangeAt Go.RowKit
set_option linter.unusedVariables false

end Go.Proofs.Ytlipgmaiooljkaa

/- What the laws on words, digits and texts draw. -/
import Derived.Test.YtjmladejpdbdlaaDoorDraw2
import Derived.Test.YtjmladejpdbdlaaDoorW1c
namespace Go.Proofs.YtjmladejpdbdlaaDoor
open Go.ChangeShapes Go.WideShapes Go.ChangeAt Go.RowKit
set_option linter.unusedVariables false

end Go.Proofs.YtjmladejpdbdlaaDoor

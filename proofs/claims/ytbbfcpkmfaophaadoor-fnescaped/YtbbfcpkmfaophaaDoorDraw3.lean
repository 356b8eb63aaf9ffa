/- What the laws on words, digits and texts draw. -/
import Derived.Test.YtbbfcpkmfaophaaDoorDraw2
import Derived.Test.YtbbfcpkmfaophaaDoorW1c
namespace Go.Proofs.YtbbfcpkmfaophaaDoor
open Go.ChangeShapes Go.WideShapes Go.ChangeAt Go.RowKit
set_option linter.unusedVariables false

end Go.Proofs.YtbbfcpkmfaophaaDoor

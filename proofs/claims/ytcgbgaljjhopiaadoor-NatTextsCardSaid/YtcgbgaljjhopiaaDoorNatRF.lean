/- The reference of layer 3: Mul. -/
import Derived.Test.YtcgbgaljjhopiaaDoorNatRE
namespace Go.Proofs.YtcgbgaljjhopiaaDoor
set_option maxRecDepth 20000
open Go.RowKit
set_option linter.unusedVariables false
set_option linter.unusedSimpArgs false

end Go.Proofs.YtcgbgaljjhopiaaDoor

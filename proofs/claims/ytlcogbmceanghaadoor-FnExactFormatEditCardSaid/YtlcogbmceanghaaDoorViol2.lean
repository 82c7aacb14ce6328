/- Chapter 9: ViolatesConstraint, the model's. -/
import Derived.Test.YtlcogbmceanghaaDoorViol
namespace Go.Proofs.YtlcogbmceanghaaDoor
open Go.RowKit
set_option linter.unusedVariables false
set_option maxRecDepth 100000

end Go.Proofs.YtlcogbmceanghaaDoor

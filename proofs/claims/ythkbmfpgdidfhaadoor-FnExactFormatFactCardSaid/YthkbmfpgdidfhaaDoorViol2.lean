/- Chapter 9: ViolatesConstraint, the model's. -/
import Derived.Test.YthkbmfpgdidfhaaDoorViol
namespace Go.Proofs.YthkbmfpgdidfhaaDoor
open Go.RowKit
set_option linter.unusedVariables false
set_option maxRecDepth 100000

end Go.Proofs.YthkbmfpgdidfhaaDoor

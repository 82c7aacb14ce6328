/- Chapter 9: ViolatesConstraint, the model's. -/
import Derived.Test.YteabehbpfhfljaaDoorViol
namespace Go.Proofs.YteabehbpfhfljaaDoor
open Go.RowKit
set_option linter.unusedVariables false
set_option maxRecDepth 100000

end Go.Proofs.YteabehbpfhfljaaDoor

/- Structs: readings, the laws' helpers on them (size, copy, equality). -/
import Derived.Test.YtpoackngngdhlaaDoorTyTre
namespace Go.Proofs.YtpoackngngdhlaaDoor
open Go.RowKit
set_option linter.unusedVariables false
set_option maxRecDepth 100000

end Go.Proofs.YtpoackngngdhlaaDoor

/- Structs: readings, the laws' helpers on them (size, copy, equality). -/
import Derived.Test.YthkbmfpgdidfhabDoorTyTre
namespace Go.Proofs.YthkbmfpgdidfhabDoor
open Go.RowKit
set_option linter.unusedVariables false
set_option maxRecDepth 100000

end Go.Proofs.YthkbmfpgdidfhabDoor

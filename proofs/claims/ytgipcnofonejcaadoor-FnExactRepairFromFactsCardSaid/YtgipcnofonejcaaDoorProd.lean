/- Sums and products of numbers. -/
import Derived.Test.YtgipcnofonejcaaDoorAbEnc
open Go Go.Proofs Go.RowKit
namespace Go.Proofs.YtgipcnofonejcaaDoor.Ab
set_option linter.unusedSimpArgs false
set_option linter.unusedVariables false
set_option maxRecDepth 100000
def mulW (a x : Int) : Int := IntKind.i64.wrap (a * x)
end Go.Proofs.YtgipcnofonejcaaDoor.Ab

/- keepAll, at the program's types. Written by gen/abgen.py. -/
import Derived.Test.YtlhdagpimcafaaaDoorAbGen
open Go Go.Proofs Go.RowKit
namespace Go.Proofs.YtlhdagpimcafaaaDoor.Ab
set_option linter.unusedSimpArgs false
set_option linter.unusedVariables false
set_option maxRecDepth 100000
end Go.Proofs.YtlhdagpimcafaaaDoor.Ab

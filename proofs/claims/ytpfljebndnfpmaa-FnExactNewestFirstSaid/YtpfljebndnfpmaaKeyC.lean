/- Chapter 8: the conflicts of keys. -/
import Derived.Test.YtpfljebndnfpmaaCEdg
open Go Go.Proofs Go.RowKit
namespace Go.Proofs.Ytpfljebndnfpmaa.Ab
set_option linter.unusedSimpArgs false
set_option linter.unusedVariables false
set_option maxRecDepth 100000
def kconfL (d : Dbs) : List Edg := if validDb d = true then edgesL d.facts.length (keyR d) else []
end Go.Proofs.Ytpfljebndnfpmaa.Ab

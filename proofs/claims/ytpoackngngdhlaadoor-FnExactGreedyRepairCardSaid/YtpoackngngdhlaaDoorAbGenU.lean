/- convertAll to sets of bits. Written by gen/abgen.py. -/
import Derived.Test.YtpoackngngdhlaaDoorAbGen
open Go Go.Proofs Go.RowKit
namespace Go.Proofs.YtpoackngngdhlaaDoor.Ab
set_option linter.unusedSimpArgs false
set_option linter.unusedVariables false
set_option maxRecDepth 100000
def encU (x : Nat) : List D := [.v (.int .u64 (x : Int))]
theorem getU {l : List Nat} {i : Nat} (h : i < l.length) : (l.map encU)[i]? = some [.v (.int .u64 (l[i] : Int))] := by simp [h, encU]
end Go.Proofs.YtpoackngngdhlaaDoor.Ab

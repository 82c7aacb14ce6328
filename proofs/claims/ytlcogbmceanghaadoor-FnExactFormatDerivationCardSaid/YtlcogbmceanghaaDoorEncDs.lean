/- Steps of a derivation in the layer. -/
import Derived.Test.YtlcogbmceanghaaDoorAbEnc
import Derived.Test.YtlcogbmceanghaaDoorSlDs
open Go Go.Proofs Go.RowKit
namespace Go.Proofs.YtlcogbmceanghaaDoor.Ab
set_option linter.unusedSimpArgs false
set_option linter.unusedVariables false
set_option maxRecDepth 100000
def encDs (x : Dst) : List D := [encIs x.facts, .v (.int .i64 x.block)]
def encDss (l : List Dst) : D := .sl (l.map encDs)
def eDst : Enc cDst := eMap _ (ePair (eSlice eInt) eInt)
theorem eDsts_e (l : List Dst) : (eSlice eDst).e l = [encDss l] := rfl
theorem getDs {l : List Dst} {i : Nat} (h : i < l.length) : (l.map encDs)[i]? = some [encIs l[i].facts, .v (.int .i64 l[i].block)] := by simp [h, encDs]
def dstS (x : Dst) : S := .a [.d (encIs x.facts), .d (.v (.int .i64 x.block))]
end Go.Proofs.YtlcogbmceanghaaDoor.Ab


/- Groups in the layer. -/
import Derived.Test.YtlcogbmceanghaaDoorAbEnc
import Derived.Test.YtlcogbmceanghaaDoorTyGr
open Go Go.Proofs Go.RowKit
namespace Go.Proofs.YtlcogbmceanghaaDoor.Ab
set_option linter.unusedSimpArgs false
set_option linter.unusedVariables false
set_option maxRecDepth 100000
def encGr (x : Grp) : List D := [.v (.int .i64 x.val), .v (.int .i64 x.lo), .v (.int .i64 x.hi), .v (.bool x.all)]
def encGrs (l : List Grp) : D := .sl (l.map encGr)
def eGrp : Enc cGrp := eMap _ (ePair eInt (ePair eInt (ePair eInt eBool)))
theorem eGrps_e (l : List Grp) : (eSlice eGrp).e l = [encGrs l] := rfl
theorem getGr {l : List Grp} {i : Nat} (h : i < l.length) : (l.map encGr)[i]? = some [.v (.int .i64 l[i].val), .v (.int .i64 l[i].lo), .v (.int .i64 l[i].hi), .v (.bool l[i].all)] := by simp [h, encGr]
def grpS (x : Grp) : S := .a [.d (.v (.int .i64 x.val)), .d (.v (.int .i64 x.lo)), .d (.v (.int .i64 x.hi)), .d (.v (.bool x.all))]
end Go.Proofs.YtlcogbmceanghaaDoor.Ab


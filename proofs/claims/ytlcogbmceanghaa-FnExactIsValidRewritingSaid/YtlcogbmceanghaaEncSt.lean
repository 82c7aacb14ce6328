/- Steps of a rewriting in the layer. -/
import Derived.Test.YtlcogbmceanghaaAbEnc
import Derived.Test.YtlcogbmceanghaaSlRst
open Go Go.Proofs Go.RowKit
namespace Go.Proofs.Ytlcogbmceanghaa.Ab
set_option linter.unusedSimpArgs false
set_option linter.unusedVariables false
set_option maxRecDepth 100000
def encSt (x : Rst) : List D := [.v (.int .i64 x.atom.rel), encIs x.atom.terms, encIs x.ex, encIs x.un]
def encSts (l : List Rst) : D := .sl (l.map encSt)
def eRst : Enc cRst := eMap _ (ePair eAtm (ePair (eSlice eInt) (eSlice eInt)))
theorem eRsts_e (l : List Rst) : (eSlice eRst).e l = [encSts l] := rfl
theorem getSt {l : List Rst} {i : Nat} (h : i < l.length) : (l.map encSt)[i]? = some [.v (.int .i64 l[i].atom.rel), encIs l[i].atom.terms, encIs l[i].ex, encIs l[i].un] := by simp [h, encSt]
def rstS (x : Rst) : S := .a [.d (.v (.int .i64 x.atom.rel)), .d (encIs x.atom.terms), .d (encIs x.ex), .d (encIs x.un)]
theorem sizeRst_len {l : List Rst} (h : sizeRewritingStepS l ≤ 1048576) : l.length ≤ 1048576 := Nat.le_trans (Nat.le_add_right _ _) h
theorem sizeRst_each {l : List Rst} (h : sizeRewritingStepS l ≤ 1048576) : ∀ x, x ∈ l → x.ex.length ≤ 1048576 ∧ x.un.length ≤ 1048576 := fun x hx => by
  obtain ⟨j, hj, rfl⟩ := List.mem_iff_getElem.1 hx
  have h1 := sumRewritingStep_ge l j hj
  unfold sizeRewritingStepS at h
  have h2 : sizeRewritingStep l[j] ≤ 1048576 := by omega
  unfold sizeRewritingStep at h2
  omega
end Go.Proofs.Ytlcogbmceanghaa.Ab


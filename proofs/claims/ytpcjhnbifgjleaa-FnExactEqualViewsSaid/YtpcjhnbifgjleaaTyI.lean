/- Structs: readings, the laws' helpers on them (size, copy, equality). -/
import Derived.Test.YtpcjhnbifgjleaaTyTre
namespace Go.Proofs.Ytpcjhnbifgjleaa
open Go.RowKit
set_option linter.unusedVariables false
set_option maxRecDepth 100000

/-- An embedding: values and facts. -/
structure Emb where
  vals : List Int
  facts : List Int
deriving DecidableEq
def cEmb : Cod Emb := cMap (fun x => (x.vals, x.facts)) (cPair (cSlice cInt) (cSlice cInt))
theorem cEmb_fields {B : Nat} {w : World} {x : Emb} {cs : List Value} (h : cEmb.ok B w x cs) : ∃ a0 cap0 a1 cap1, cs = [.slice a0 x.vals.length cap0, .slice a1 x.facts.length cap1] ∧ (cSlice cInt).ok B w x.vals [.slice a0 x.vals.length cap0] ∧ (cSlice cInt).ok B w x.facts [.slice a1 x.facts.length cap1] := by
  obtain ⟨_, _, rfl, h0, h1⟩ := h
  have k0 := h0
  obtain ⟨a0, cap0, rfl, _⟩ := k0
  have k1 := h1
  obtain ⟨a1, cap1, rfl, _⟩ := k1
  exact ⟨a0, cap0, a1, cap1, rfl, h0, h1⟩
theorem cEmb_open {B : Nat} {w : World} {x : Emb} {cs : List Value} (h : cEmb.ok B w x cs) : ∃ a0 cap0 a1 cap1, cs = [.slice a0 x.vals.length cap0, .slice a1 x.facts.length cap1] ∧ cEmb.ok B w x [.slice a0 x.vals.length cap0, .slice a1 x.facts.length cap1] := by
  have h0 := h
  obtain ⟨a0, cap0, a1, cap1, rfl, _⟩ := cEmb_fields h
  exact ⟨a0, cap0, a1, cap1, rfl, h0⟩
theorem cEmb_inv {B : Nat} {w : World} {x : Emb} {v0 v1 : Value} (h : cEmb.ok B w x [v0, v1]) : (cSlice cInt).ok B w x.vals [v0] ∧ (cSlice cInt).ok B w x.facts [v1] := by
  obtain ⟨a0, cap0, a1, cap1, e, h0, h1⟩ := cEmb_fields h
  simp only [List.cons.injEq, and_true] at e
  obtain ⟨rfl, rfl⟩ := e
  exact ⟨h0, h1⟩
theorem cEmb_mk {B : Nat} {w : World} {x : Emb} {v0 v1 : Value} (h0 : (cSlice cInt).ok B w x.vals [v0]) (h1 : (cSlice cInt).ok B w x.facts [v1]) : cEmb.ok B w x [v0, v1] := ⟨[_], _, rfl, h0, h1⟩
theorem cEmb_own {lo hi lo0 hi0 lo1 hi1 : Nat} {w : World} {x : Emb} {v0 v1 : Value} (h0 : OwnIn (cSlice cInt) lo0 hi0 w x.vals [v0]) (l0 : lo0 ≤ hi0) (h1 : OwnIn (cSlice cInt) lo1 hi1 w x.facts [v1]) (l1 : lo1 ≤ hi1) (q0 : lo ≤ lo0) (q1 : hi0 ≤ lo1) (q : hi1 ≤ hi) : OwnIn cEmb lo hi w x [v0, v1] := (OwnIn.pair (h0.wide (lo' := lo) (hi' := hi0) (by omega) (by omega)) (h1.wide (lo' := hi0) (hi' := hi) (by omega) (by omega)) (by omega) (by omega))
/-- Its size: its leaves behind slices. -/
def sizeEmbedding (x : Emb) : Nat := x.vals.length + (x.facts.length)
end Go.Proofs.Ytpcjhnbifgjleaa

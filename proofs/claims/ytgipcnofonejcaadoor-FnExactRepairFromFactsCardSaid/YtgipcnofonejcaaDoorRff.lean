/- Chapter 22: RepairFromFacts, both sides. -/
import Derived.Test.YtgipcnofonejcaaDoorElt
import Derived.Test.YtgipcnofonejcaaDoorAbGenU
import Derived.Test.YtgipcnofonejcaaDoorAbDb
import Derived.Test.YtgipcnofonejcaaDoorNth
import Derived.Test.YtgipcnofonejcaaDoorRnkOne
import Derived.Test.YtgipcnofonejcaaDoorExtP
import Derived.Test.YtgipcnofonejcaaDoorWgt
import Derived.Test.YtgipcnofonejcaaDoorSort
open Go Go.Proofs Go.RowKit
namespace Go.Proofs.YtgipcnofonejcaaDoor.Ab
set_option linter.unusedSimpArgs false
set_option linter.unusedVariables false
set_option maxRecDepth 100000
theorem met_bits {s b : List Int} (hs : in64 s) (hb : in64 b) (i : Nat) : (bitsI b &&& bitsI s).testBit i = (metB s b).contains (i : Int) := by
  rw [Nat.testBit_and, bitsI_test b hb, bitsI_test s hs, Bool.eq_iff_iff, Bool.and_eq_true, List.contains_iff_mem, List.contains_iff_mem, List.contains_iff_mem]
  unfold metB
  rw [List.mem_filter, List.contains_iff_mem]
theorem met_zero {s b : List Int} (hs : in64 s) (hb : in64 b) : (bitsI b &&& bitsI s ≠ 0) ↔ unmet s b = false := by
  unfold unmet
  constructor
  · intro h
    cases hm : metB s b with
    | nil =>
      exfalso
      apply h
      apply Nat.eq_of_testBit_eq
      intro i
      rw [met_bits hs hb, hm, Nat.zero_testBit]
      rfl
    | cons x l => rfl
  · intro h e
    cases hm : metB s b with
    | nil => rw [hm] at h; cases h
    | cons x l =>
      have hx : x ∈ b := by
        have : x ∈ metB s b := hm ▸ (by simp)
        exact (List.mem_filter.1 this).1
      have h0 := hb x hx
      have := met_bits hs hb x.toNat
      rw [e, Nat.zero_testBit, hm, Int.toNat_of_nonneg h0.1] at this
      simp at this
theorem met_first {s b : List Int} (hs : in64 s) (hb : in64 b) (hp : b.Pairwise (· < ·)) (h : unmet s b = false) : ((Go.Lib.ctz 64 (bitsI b &&& bitsI s) : Nat) : Int) = chB s b := by
  have hlt : bitsI b &&& bitsI s < 18446744073709551616 := and_lt _ _ (bitsI_lt b hb)
  have hl := low_bits ((met_zero hs hb).2 h) hlt
  have hmp : (metB s b).Pairwise (· < ·) := hp.filter _
  unfold unmet at h
  cases hm : metB s b with
  | nil => rw [hm] at h; cases h
  | cons x l =>
    have hc : chB s b = x := by unfold chB; rw [hm]; rfl
    have hx : x ∈ b := by
      have : x ∈ metB s b := hm ▸ (by simp)
      exact (List.mem_filter.1 this).1
    have h0 := hb x hx
    rw [hc]
    have h1 := hl.2.1
    rw [met_bits hs hb, hm, List.contains_iff_mem] at h1
    rw [hm, List.pairwise_cons] at hmp
    rcases List.mem_cons.1 h1 with e | e
    · exact e
    · have h2 := hmp.1 _ e
      have h3 := hl.2.2.1 x.toNat (by omega)
      rw [met_bits hs hb, hm, Int.toNat_of_nonneg h0.1] at h3
      simp at h3
def rffOk (d : Dbs) (s : List Int) : Bool := (validDb d && setIx d.facts.length s) && (blocksL d).all fun b => !unmet s b
def rffL (d : Dbs) (s : List Int) : List Int := if rffOk d s = true then extP (blocksL d) s else []
end Go.Proofs.YtgipcnofonejcaaDoor.Ab


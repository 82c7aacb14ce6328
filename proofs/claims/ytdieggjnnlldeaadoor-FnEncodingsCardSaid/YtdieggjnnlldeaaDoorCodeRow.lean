/- The code that a law is handed, as the draws want it. -/
import Derived.Test.YtdieggjnnlldeaaDoorDraw2
import Derived.OpenShut
namespace Go.Proofs.YtdieggjnnlldeaaDoor
open Go.RowKit
set_option linter.unusedVariables false

theorem codeIn_nil (w : World) : CodeIn none [] w := by intro j hj; simp at hj
theorem codeIn_row {w : World} {x : Addr} {len cap : Nat} {zs : List Int} (hz : zs.length = cap) (hl : len ≤ cap) (hcell : ∀ i, i < zs.length → w.cell? (x.add i) = some (.int .u8 (zs.getD i 0))) (hwz : ∀ n ∈ zs, (Lit.int .u8 n).wf = true) :
    CodeIn (some x) (zs.take len) w ∧ (zs.take len).length = len := by
  refine ⟨?_, by simp; omega⟩
  intro j hj
  have hjl : j < len := by have := List.length_take_le len zs; omega
  have hjz : j < zs.length := by omega
  have hc := hcell j hjz
  obtain ⟨b, off, spot⟩ := x
  have hspot : spot = none := by simpa [Addr.add] using World.cell?_spot (hcell 0 (by omega))
  subst hspot
  have hc2 : w.cell? ⟨b, off + j, none⟩ = some (.int .u8 (zs.getD j 0)) := by
    have hplain : (⟨b, off, none⟩ : Addr).add j = ⟨b, off + j, none⟩ := by unfold Addr.add; split <;> simp_all
    rw [← hplain]; exact hc
  have e : (zs.take len)[j] = zs.getD j 0 := by simp [List.getD, hjz]
  refine ⟨b, off, rfl, World.block_lt_of_cell? w _ hc2, by rw [e]; exact hc2, ?_⟩
  rw [e]
  have hm : zs.getD j 0 ∈ zs := by simp [List.getD, hjz]
  have hb := bounds_u8 (hwz _ hm)
  omega
end Go.Proofs.YtdieggjnnlldeaaDoor

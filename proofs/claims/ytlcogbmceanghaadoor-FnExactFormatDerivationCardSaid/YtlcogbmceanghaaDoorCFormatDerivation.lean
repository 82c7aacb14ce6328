/- FormatDerivation: the contracts of the layer for the law. Written by gen/backc.py. -/
import Derived.Test.YtlcogbmceanghaaDoorFmtDs
open Go Go.Proofs Go.RowKit
namespace Go.Proofs.YtlcogbmceanghaaDoor.Ab
set_option linter.unusedSimpArgs false
set_option linter.unusedVariables false
set_option maxRecDepth 100000
theorem _root_.Go.Proofs.YtlcogbmceanghaaDoor.implFormatDerivation_c {x0 : Dbs} {a0_0 : Option Addr} {cap0_0 : Nat} {a1_0 : Option Addr} {cap1_0 : Nat} {a1 : Option Addr} {cap1 : Nat} {l1 : List Dst} {w : World} (hz0 : sizeDatabase x0 ≤ 1048576) (hz1 : sizeDerivationStepS l1 ≤ 1048576) (h0 : At cDbs w x0 [.slice a0_0 x0.rels.length cap0_0, .slice a1_0 x0.facts.length cap1_0]) (h1 : At (cSlice cDst) w l1 [.slice a1 l1.length cap1]) (hg : Glob w := by exact trivial) :
    Calls Tryd.prog 36 #[.agg #[.slice a0_0 x0.rels.length cap0_0, .slice a1_0 x0.facts.length cap1_0], .slice a1 l1.length cap1] w fun e w' => e = .returned (.string (Ab.derB x0 l1)) ∧ Below w.heap.size w w' := by
  refine Calls.mono (((implFormatDerivation_a (eDbs.gd h0) ((eSlice eDst).gd h1) (sizeDst_len hz1) (sizeDst_each hz1))).call (cs := [_, _]) ?_) ?_
  · simp only [RdSs]
    exact ⟨_, _, rfl, (eDbs.argA h0), ⟨_, _, rfl, ((eSlice eDst).arg1 (x := l1) rfl h1), rfl⟩⟩
  · rintro e w' ⟨c, rfl, q1, q2⟩
    exact ⟨by rw [q1.d], q2⟩
theorem _root_.Go.Proofs.YtlcogbmceanghaaDoor.specFormatDerivation_c {x0 : Dbs} {a0_0 : Option Addr} {cap0_0 : Nat} {a1_0 : Option Addr} {cap1_0 : Nat} {a1 : Option Addr} {cap1 : Nat} {l1 : List Dst} {w : World} (hz0 : sizeDatabase x0 ≤ 1048576) (hz1 : sizeDerivationStepS l1 ≤ 1048576) (h0 : At cDbs w x0 [.slice a0_0 x0.rels.length cap0_0, .slice a1_0 x0.facts.length cap1_0]) (h1 : At (cSlice cDst) w l1 [.slice a1 l1.length cap1]) (hg : Glob w := by exact trivial) :
    Calls Tryd.prog 34 #[.agg #[.slice a0_0 x0.rels.length cap0_0, .slice a1_0 x0.facts.length cap1_0], .slice a1 l1.length cap1] w fun e w' => e = .returned (.string (Ab.derB x0 l1)) ∧ Below w.heap.size w w' := by
  refine Calls.mono (((specFormatDerivation_a (eDbs.gd h0) ((eSlice eDst).gd h1) (sizeDst_len hz1) (sizeDst_each hz1))).call (cs := [_, _]) ?_) ?_
  · simp only [RdSs]
    exact ⟨_, _, rfl, (eDbs.argA h0), ⟨_, _, rfl, ((eSlice eDst).arg1 (x := l1) rfl h1), rfl⟩⟩
  · rintro e w' ⟨c, rfl, q1, q2⟩
    exact ⟨by rw [q1.d], q2⟩
end Go.Proofs.YtlcogbmceanghaaDoor.Ab


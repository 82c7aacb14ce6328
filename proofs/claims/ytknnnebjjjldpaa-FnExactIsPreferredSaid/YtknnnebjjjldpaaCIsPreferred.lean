/- IsPreferred: the contracts of the layer for the law. Written by gen/backc.py. -/
import Derived.Test.YtknnnebjjjldpaaPrefS
open Go Go.Proofs Go.RowKit
namespace Go.Proofs.Ytknnnebjjjldpaa.Ab
set_option linter.unusedSimpArgs false
set_option linter.unusedVariables false
set_option maxRecDepth 100000
theorem _root_.Go.Proofs.Ytknnnebjjjldpaa.implIsPreferred_c {a0 : Option Addr} {cap0 : Nat} {l0 : List Edg} {a1 : Int} {a2 : Int} {w : World} (hz0 : l0.length ≤ 1048576) (h0 : At (cSlice cEdg) w l0 [.slice a0 l0.length cap0]) :
    Calls Try.prog 28 #[.slice a0 l0.length cap0, .int .i64 a1, .int .i64 a2] w fun e w' => e = .returned (.bool (prefB l0 a1 a2)) ∧ Below w.heap.size w w' := implIsPreferred_o hz0 h0
theorem _root_.Go.Proofs.Ytknnnebjjjldpaa.specIsPreferred_c {a0 : Option Addr} {cap0 : Nat} {l0 : List Edg} {a1 : Int} {a2 : Int} {w : World} (hz0 : l0.length ≤ 1048576) (h0 : At (cSlice cEdg) w l0 [.slice a0 l0.length cap0]) :
    Calls Try.prog 26 #[.slice a0 l0.length cap0, .int .i64 a1, .int .i64 a2] w fun e w' => e = .returned (.bool (prefB l0 a1 a2)) ∧ Below w.heap.size w w' := by
  refine Calls.mono ((specIsPreferred_b (a := a1) (b := a2) hz0).call (cs := [_, _, _]) ?_) ?_
  · simp only [RdSs]
    exact ⟨_, _, rfl, ((eSlice eEdg).arg1 (x := l0) rfl h0), ⟨_, _, rfl, (RdS.ofVal _ _ rfl), ⟨_, _, rfl, (RdS.ofVal _ _ rfl), rfl⟩⟩⟩
  · rintro e w' ⟨c, rfl, q1, q2⟩
    exact ⟨by rw [q1.d], q2⟩
end Go.Proofs.Ytknnnebjjjldpaa.Ab


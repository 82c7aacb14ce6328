/- FormatClauses: the contracts of the layer for the law. Written by gen/backc.py. -/
import Derived.Test.YthkbmfpgdidfhaaDoorFmtR
open Go Go.Proofs Go.RowKit
namespace Go.Proofs.YthkbmfpgdidfhaaDoor.Ab
set_option linter.unusedSimpArgs false
set_option linter.unusedVariables false
set_option maxRecDepth 100000
theorem _root_.Go.Proofs.YthkbmfpgdidfhaaDoor.implFormatClauses_c {a0 : Int} {a1 : Option Addr} {cap1 : Nat} {l1 : List (List Int)} {w : World} (hz1 : sizeIntSS l1 ≤ 1048576) (h1 : At (cSlice (cSlice cInt)) w l1 [.slice a1 l1.length cap1]) (hg : Glob w := by exact trivial) :
    Calls Tryd.prog 45 #[.int .i64 a0, .slice a1 l1.length cap1] w fun e w' => e = .returned (.string (Ab.fcB a0 l1)) ∧ Below w.heap.size w w' := by
  refine Calls.mono (((implFormatClauses_a a0 l1 (fun b hb => ((eSlice (eSlice eInt)).gd h1).2 b hb) (sizeIntSS_len hz1) (sizeIntSS_each hz1))).call (cs := [_, _]) ?_) ?_
  · simp only [RdSs]
    exact ⟨_, _, rfl, (RdS.ofVal _ _ rfl), ⟨_, _, rfl, ((eSlice (eSlice eInt)).arg1 (x := l1) rfl h1), rfl⟩⟩
  · rintro e w' ⟨c, rfl, q1, q2⟩
    exact ⟨by rw [q1.d], q2⟩
theorem _root_.Go.Proofs.YthkbmfpgdidfhaaDoor.specFormatClauses_c {a0 : Int} {a1 : Option Addr} {cap1 : Nat} {l1 : List (List Int)} {w : World} (hz1 : sizeIntSS l1 ≤ 1048576) (h1 : At (cSlice (cSlice cInt)) w l1 [.slice a1 l1.length cap1]) (hg : Glob w := by exact trivial) :
    Calls Tryd.prog 44 #[.int .i64 a0, .slice a1 l1.length cap1] w fun e w' => e = .returned (.string (Ab.fcB a0 l1)) ∧ Below w.heap.size w w' := by
  refine Calls.mono (((specFormatClauses_a a0 l1 (fun b hb => ((eSlice (eSlice eInt)).gd h1).2 b hb) (sizeIntSS_len hz1) (sizeIntSS_each hz1))).call (cs := [_, _]) ?_) ?_
  · simp only [RdSs]
    exact ⟨_, _, rfl, (RdS.ofVal _ _ rfl), ⟨_, _, rfl, ((eSlice (eSlice eInt)).arg1 (x := l1) rfl h1), rfl⟩⟩
  · rintro e w' ⟨c, rfl, q1, q2⟩
    exact ⟨by rw [q1.d], q2⟩
end Go.Proofs.YthkbmfpgdidfhaaDoor.Ab


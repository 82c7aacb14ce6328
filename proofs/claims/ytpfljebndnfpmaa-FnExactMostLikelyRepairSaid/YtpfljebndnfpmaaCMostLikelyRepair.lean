/- MostLikelyRepair: the contracts of the layer for the law. Written by gen/backc.py. -/
import Derived.Test.YtpfljebndnfpmaaMlr
import Derived.Test.YtpfljebndnfpmaaAbThr
open Go Go.Proofs Go.RowKit
namespace Go.Proofs.Ytpfljebndnfpmaa.Ab
set_option linter.unusedSimpArgs false
set_option linter.unusedVariables false
set_option maxRecDepth 100000
theorem _root_.Go.Proofs.Ytpfljebndnfpmaa.implMostLikelyRepair_c {x0 : Dbs} {a0_0 : Option Addr} {cap0_0 : Nat} {a1_0 : Option Addr} {cap1_0 : Nat} {a1 : Option Addr} {cap1 : Nat} {l1 : List Int} {w : World} (hz0 : sizeDatabase x0 ≤ 1048576) (hz1 : l1.length ≤ 1048576) (h0 : At cDbs w x0 [.slice a0_0 x0.rels.length cap0_0, .slice a1_0 x0.facts.length cap1_0]) (h1 : At (cSlice cInt) w l1 [.slice a1 l1.length cap1]) (hg : Glob w := by exact trivial) :
    Calls Try.prog 23 #[.agg #[.slice a0_0 x0.rels.length cap0_0, .slice a1_0 x0.facts.length cap1_0], .slice a1 l1.length cap1] w fun e w' => (∃ a cap, e = .returned (.tuple #[.slice a (Ab.mlL x0 l1).length cap, .bool (Ab.validW x0 l1)]) ∧ Own (cSlice cInt) w.heap.size w' (Ab.mlL x0 l1) [.slice a (Ab.mlL x0 l1).length cap]) ∧ Below w.heap.size w w' := by
  have hgood : (eSlice eInt).good (Ab.mlL x0 l1) := mlL_good x0 l1
  refine Calls.mono (((implMostLikelyRepair_a (eDbs.gd h0) l1 hz1)).call (cs := [_, _]) ?_) ?_
  · simp only [RdSs]
    exact ⟨_, _, rfl, (eDbs.argA h0), ⟨_, _, rfl, ((eSlice eInt).arg1 (x := l1) rfl h1), rfl⟩⟩
  · rintro e w' ⟨c, rfl, q1, q2⟩
    obtain ⟨v, rfl, hq⟩ := RdV.o2 (p := (eSlice eInt)) (x := Ab.mlL x0 l1) rfl hgood q1
    obtain ⟨F, ho, _⟩ := id hq
    obtain ⟨a, cap, e, _⟩ := ho
    injection e with e
    subst e
    exact ⟨⟨a, cap, rfl, hq⟩, q2⟩
theorem _root_.Go.Proofs.Ytpfljebndnfpmaa.specMostLikelyRepair_c {x0 : Dbs} {a0_0 : Option Addr} {cap0_0 : Nat} {a1_0 : Option Addr} {cap1_0 : Nat} {a1 : Option Addr} {cap1 : Nat} {l1 : List Int} {w : World} (hz0 : sizeDatabase x0 ≤ 1048576) (hz1 : l1.length ≤ 1048576) (h0 : At cDbs w x0 [.slice a0_0 x0.rels.length cap0_0, .slice a1_0 x0.facts.length cap1_0]) (h1 : At (cSlice cInt) w l1 [.slice a1 l1.length cap1]) (hg : Glob w := by exact trivial) :
    Calls Try.prog 21 #[.agg #[.slice a0_0 x0.rels.length cap0_0, .slice a1_0 x0.facts.length cap1_0], .slice a1 l1.length cap1] w fun e w' => (∃ a cap, e = .returned (.tuple #[.slice a (Ab.mlL x0 l1).length cap, .bool (Ab.validW x0 l1)]) ∧ Own (cSlice cInt) w.heap.size w' (Ab.mlL x0 l1) [.slice a (Ab.mlL x0 l1).length cap]) ∧ Below w.heap.size w w' := by
  have hgood : (eSlice eInt).good (Ab.mlL x0 l1) := mlL_good x0 l1
  refine Calls.mono (((specMostLikelyRepair_a (eDbs.gd h0) l1 hz1)).call (cs := [_, _]) ?_) ?_
  · simp only [RdSs]
    exact ⟨_, _, rfl, (eDbs.argA h0), ⟨_, _, rfl, ((eSlice eInt).arg1 (x := l1) rfl h1), rfl⟩⟩
  · rintro e w' ⟨c, rfl, q1, q2⟩
    obtain ⟨v, rfl, hq⟩ := RdV.o2 (p := (eSlice eInt)) (x := Ab.mlL x0 l1) rfl hgood q1
    obtain ⟨F, ho, _⟩ := id hq
    obtain ⟨a, cap, e, _⟩ := ho
    injection e with e
    subst e
    exact ⟨⟨a, cap, rfl, hq⟩, q2⟩
end Go.Proofs.Ytpfljebndnfpmaa.Ab


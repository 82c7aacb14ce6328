/- NewestFirst: the contracts of the layer for the law. Written by gen/backc.py. -/
import Derived.Test.YtpfljebndnfpmaaNewF
open Go Go.Proofs Go.RowKit
namespace Go.Proofs.Ytpfljebndnfpmaa.Ab
set_option linter.unusedSimpArgs false
set_option linter.unusedVariables false
set_option maxRecDepth 100000
theorem _root_.Go.Proofs.Ytpfljebndnfpmaa.implNewestFirst_c {x0 : Dbs} {a0_0 : Option Addr} {cap0_0 : Nat} {a1_0 : Option Addr} {cap1_0 : Nat} {a1 : Option Addr} {cap1 : Nat} {l1 : List Dcn} {w : World} (hz0 : sizeDatabase x0 ≤ 1048576) (hz1 : l1.length ≤ 1048576) (h0 : At cDbs w x0 [.slice a0_0 x0.rels.length cap0_0, .slice a1_0 x0.facts.length cap1_0]) (h1 : At (cSlice cDcn) w l1 [.slice a1 l1.length cap1]) (hg : Glob w := by exact trivial) :
    Calls Try.prog 13 #[.agg #[.slice a0_0 x0.rels.length cap0_0, .slice a1_0 x0.facts.length cap1_0], .slice a1 l1.length cap1] w fun e w' => (∃ a cap, e = .returned (.slice a (Ab.newF x0 l1).length cap) ∧ Own (cSlice cEdg) w.heap.size w' (Ab.newF x0 l1) [.slice a (Ab.newF x0 l1).length cap]) ∧ Below w.heap.size w w' := by
  have hgood : (eSlice eEdg).good (Ab.newF x0 l1) := newF_good x0 l1
  refine Calls.mono (((implNewestFirst_a (eDbs.gd h0) ((eSlice eDcn).gd h1) hz1)).call (cs := [_, _]) ?_) ?_
  · simp only [RdSs]
    exact ⟨_, _, rfl, (eDbs.argA h0), ⟨_, _, rfl, ((eSlice eDcn).arg1 (x := l1) rfl h1), rfl⟩⟩
  · rintro e w' ⟨c, rfl, q1, q2⟩
    obtain ⟨F, ho, _⟩ := id ((eSlice eEdg).own1 (x := Ab.newF x0 l1) rfl hgood q1)
    have hq := (eSlice eEdg).own1 (x := Ab.newF x0 l1) rfl hgood q1
    obtain ⟨a, cap, e, _⟩ := ho
    injection e with e
    subst e
    exact ⟨⟨a, cap, rfl, hq⟩, q2⟩
theorem _root_.Go.Proofs.Ytpfljebndnfpmaa.specNewestFirst_c {x0 : Dbs} {a0_0 : Option Addr} {cap0_0 : Nat} {a1_0 : Option Addr} {cap1_0 : Nat} {a1 : Option Addr} {cap1 : Nat} {l1 : List Dcn} {w : World} (hz0 : sizeDatabase x0 ≤ 1048576) (hz1 : l1.length ≤ 1048576) (h0 : At cDbs w x0 [.slice a0_0 x0.rels.length cap0_0, .slice a1_0 x0.facts.length cap1_0]) (h1 : At (cSlice cDcn) w l1 [.slice a1 l1.length cap1]) (hg : Glob w := by exact trivial) :
    Calls Try.prog 10 #[.agg #[.slice a0_0 x0.rels.length cap0_0, .slice a1_0 x0.facts.length cap1_0], .slice a1 l1.length cap1] w fun e w' => (∃ a cap, e = .returned (.slice a (Ab.newF x0 l1).length cap) ∧ Own (cSlice cEdg) w.heap.size w' (Ab.newF x0 l1) [.slice a (Ab.newF x0 l1).length cap]) ∧ Below w.heap.size w w' := by
  have hgood : (eSlice eEdg).good (Ab.newF x0 l1) := newF_good x0 l1
  refine Calls.mono (((specNewestFirst_a (eDbs.gd h0) ((eSlice eDcn).gd h1) hz1)).call (cs := [_, _]) ?_) ?_
  · simp only [RdSs]
    exact ⟨_, _, rfl, (eDbs.argA h0), ⟨_, _, rfl, ((eSlice eDcn).arg1 (x := l1) rfl h1), rfl⟩⟩
  · rintro e w' ⟨c, rfl, q1, q2⟩
    obtain ⟨F, ho, _⟩ := id ((eSlice eEdg).own1 (x := Ab.newF x0 l1) rfl hgood q1)
    have hq := (eSlice eEdg).own1 (x := Ab.newF x0 l1) rfl hgood q1
    obtain ⟨a, cap, e, _⟩ := ho
    injection e with e
    subst e
    exact ⟨⟨a, cap, rfl, hq⟩, q2⟩
end Go.Proofs.Ytpfljebndnfpmaa.Ab


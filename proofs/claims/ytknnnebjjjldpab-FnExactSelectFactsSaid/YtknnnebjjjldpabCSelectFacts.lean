/- SelectFacts: the contracts of the layer for the law. Written by gen/backc.py. -/
import Derived.Test.YtknnnebjjjldpabAbSel
import Derived.Test.YtknnnebjjjldpabAbTup
open Go Go.Proofs Go.RowKit
namespace Go.Proofs.Ytknnnebjjjldpab.Ab
set_option linter.unusedSimpArgs false
set_option linter.unusedVariables false
set_option maxRecDepth 100000
theorem _root_.Go.Proofs.Ytknnnebjjjldpab.implSelectFacts_c {x0 : Dbs} {a0_0 : Option Addr} {cap0_0 : Nat} {a1_0 : Option Addr} {cap1_0 : Nat} {a1 : Option Addr} {cap1 : Nat} {l1 : List Int} {w : World} (hz0 : sizeDatabase x0 ≤ 1048576) (hz1 : l1.length ≤ 1048576) (h0 : At cDbs w x0 [.slice a0_0 x0.rels.length cap0_0, .slice a1_0 x0.facts.length cap1_0]) (h1 : At (cSlice cInt) w l1 [.slice a1 l1.length cap1]) :
    Calls Try.prog 19 #[.agg #[.slice a0_0 x0.rels.length cap0_0, .slice a1_0 x0.facts.length cap1_0], .slice a1 l1.length cap1] w fun e w' => (∃ a0 c0 a1 c1, e = .returned (.tuple #[.agg #[.slice a0 (selD x0 l1).rels.length c0, .slice a1 (selD x0 l1).facts.length c1], .bool (selOk x0 l1)]) ∧ Own cDbs w.heap.size w' (selD x0 l1) [.slice a0 (selD x0 l1).rels.length c0, .slice a1 (selD x0 l1).facts.length c1]) ∧ Below w.heap.size w w' := by
  have hgood : eDbs.good (selD x0 l1) := selD_good (eDbs.gd h0) l1
  refine Calls.mono ((implSelectFacts_a (eDbs.gd h0) ((eSlice eInt).gd h1)).call (cs := [_, _]) ?_) ?_
  · simp only [RdSs]
    exact ⟨_, _, rfl, (eDbs.argA h0), ⟨_, _, rfl, ((eSlice eInt).arg1 (x := l1) rfl h1), rfl⟩⟩
  · rintro e w' ⟨c, rfl, q1, q2⟩
    obtain ⟨cs, rfl, hq⟩ := RdV.a2 (p := eDbs) (x := selD x0 l1) (by exact ⟨rfl, rfl, trivial⟩) hgood (by simp [S.oss, S.os]) q1
    obtain ⟨a0, c0, a1, c1, rfl, _⟩ := cDbs_open hq.at
    exact ⟨⟨a0, c0, a1, c1, rfl, hq⟩, q2⟩
theorem _root_.Go.Proofs.Ytknnnebjjjldpab.specSelectFacts_c {x0 : Dbs} {a0_0 : Option Addr} {cap0_0 : Nat} {a1_0 : Option Addr} {cap1_0 : Nat} {a1 : Option Addr} {cap1 : Nat} {l1 : List Int} {w : World} (hz0 : sizeDatabase x0 ≤ 1048576) (hz1 : l1.length ≤ 1048576) (h0 : At cDbs w x0 [.slice a0_0 x0.rels.length cap0_0, .slice a1_0 x0.facts.length cap1_0]) (h1 : At (cSlice cInt) w l1 [.slice a1 l1.length cap1]) :
    Calls Try.prog 16 #[.agg #[.slice a0_0 x0.rels.length cap0_0, .slice a1_0 x0.facts.length cap1_0], .slice a1 l1.length cap1] w fun e w' => (∃ a0 c0 a1 c1, e = .returned (.tuple #[.agg #[.slice a0 (selD x0 l1).rels.length c0, .slice a1 (selD x0 l1).facts.length c1], .bool (selOk x0 l1)]) ∧ Own cDbs w.heap.size w' (selD x0 l1) [.slice a0 (selD x0 l1).rels.length c0, .slice a1 (selD x0 l1).facts.length c1]) ∧ Below w.heap.size w w' := by
  have hgood : eDbs.good (selD x0 l1) := selD_good (eDbs.gd h0) l1
  refine Calls.mono ((specSelectFacts_a (eDbs.gd h0) ((eSlice eInt).gd h1) hz1).call (cs := [_, _]) ?_) ?_
  · simp only [RdSs]
    exact ⟨_, _, rfl, (eDbs.argA h0), ⟨_, _, rfl, ((eSlice eInt).arg1 (x := l1) rfl h1), rfl⟩⟩
  · rintro e w' ⟨c, rfl, q1, q2⟩
    obtain ⟨cs, rfl, hq⟩ := RdV.a2 (p := eDbs) (x := selD x0 l1) (by exact ⟨rfl, rfl, trivial⟩) hgood (by simp [S.oss, S.os]) q1
    obtain ⟨a0, c0, a1, c1, rfl, _⟩ := cDbs_open hq.at
    exact ⟨⟨a0, c0, a1, c1, rfl, hq⟩, q2⟩
end Go.Proofs.Ytknnnebjjjldpab.Ab


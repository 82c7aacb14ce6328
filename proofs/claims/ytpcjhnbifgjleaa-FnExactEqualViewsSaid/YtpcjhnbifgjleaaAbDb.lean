/- Functions of a database, for the layer. Written by gen/abdb.py. -/
import Derived.Test.YtpcjhnbifgjleaaAbEnc
import Derived.Test.YtpcjhnbifgjleaaBlockTwo
import Derived.Test.YtpcjhnbifgjleaaIx
open Go Go.Proofs Go.RowKit
namespace Go.Proofs.Ytpcjhnbifgjleaa.Ab
set_option linter.unusedSimpArgs false
set_option linter.unusedVariables false
set_option maxRecDepth 100000
theorem db_cut {d : Dbs} (g : eDbs.good d) {w : World} {K : Nat → Nat → Prop} {ov : Nat → Value} {v : Value} (hK : ∀ b o, K b o → b < w.heap.size) (hr : RdS w (ghA K ov) (dbS d) v) :
    ∃ a0 cap0 a1 cap1, v = .agg #[.slice a0 d.rels.length cap0, .slice a1 d.facts.length cap1] ∧ At cDbs w d [.slice a0 d.rels.length cap0, .slice a1 d.facts.length cap1] := by
  obtain ⟨vs, rfl, h⟩ := eDbs.atA (x := d) g hK hr
  obtain ⟨a0, c0, a1, c1, rfl, h⟩ := cDbs_open h
  exact ⟨a0, c0, a1, c1, rfl, h⟩
theorem db_arg {d : Dbs} {w : World} {cs : List Value} (h : At cDbs w d cs) {ov : Nat → Value} : RdS w (ghA (fun b _ => b < w.heap.size) ov) (dbS d) (.agg cs.toArray) := eDbs.argA h
end Go.Proofs.Ytpcjhnbifgjleaa.Ab

/- A region that draws its order, whose operations read and whose callees make memory of their own and hand back a plain value: one walk, in the order of the text. -/
import Derived.Test.YtpcjhnbifgjleaaCodOne
import Derived.Below
import Derived.Deep.QuietTactic
import Derived.BigQuiet
namespace Go.Proofs.Ytpcjhnbifgjleaa
open Go.RowKit
set_option linter.unusedVariables false
set_option maxRecDepth 100000

/-- A world in which all that stood in w stands as it did. -/
structure Grow (w : World) where
  W : World
  below : Below w.heap.size w W
instance {w : World} : Nonempty (Grow w) := ⟨⟨w, Below.refl _ _⟩⟩
theorem grow_cell {w : World} {p : Addr} {v : Value} (h : w.cell? p = some v) : ∀ s : Grow w, s.W.cell? p = some v :=
  fun s => (s.below.cell (World.block_lt_of_cell? w _ h)).trans h
theorem wp_region_grow {P : Program} {id : Nat} {Q : Exit → Act → World → Prop} {a : Act} {w : World} {l : List Oper} (hm : P.follows .mixedOrders = true) (hB : Region.lexB .any l.toArray = true)
    (h : wpQuiet P l.toArray (fun w' => ∃ s : Grow w, w' = s.W) (fun a' => ∀ w', (∃ s : Grow w, w' = s.W) → Q .normal a' w') l a) : (Code.region id l.toArray true).wp P Q a w :=
  wp_region_quiet (C := fun w' => ∃ s : Grow w, w' = s.W) hm hB ⟨⟨w.drew, (Below.refl _ _).drew⟩, rfl⟩ (by simpa using h)
theorem Calls.grow {P : Program} {f : FuncId} {args : Array Value} {w : World} {s : Grow w} {v : Value} (h : ∀ ww, Below w.heap.size w ww → Calls P f args ww fun e w' => e = .returned v ∧ Below ww.heap.size ww w') :
    Calls P f args s.W fun e w'' => e = .returned v ∧ ∃ s' : Grow w, w'' = s'.W :=
  (h s.W s.below).mono fun _ w' ⟨he, hb⟩ => ⟨he, ⟨w', s.below.trans (hb.mono s.below.size)⟩, rfl⟩
end Go.Proofs.Ytpcjhnbifgjleaa


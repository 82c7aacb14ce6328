/- Chapter 4: FactIndex and ContainsFact, the model's and the program's. -/
import Derived.Test.YtpcjhnbifgjleaaKeyOne
namespace Go.Proofs.Ytpcjhnbifgjleaa
open Go.RowKit
set_option linter.unusedVariables false
set_option maxRecDepth 100000

/-- The place of the first fact that compares as equal, counted from i, or -1. -/
def fidxFrom : List Fct → Fct → Int → Int
  | [], _, _ => -1
  | r :: l, s, i => if cmpF r s = 0 then i else fidxFrom l s (i + 1)
def factIdx (d : Dbs) (x : Fct) : Int := fidxFrom d.facts x 0
theorem fidxFrom_step (l : List Fct) (s : Fct) (k : Nat) (hk : k < l.length) (i : Int) : fidxFrom (l.drop k) s i = if cmpF l[k] s = 0 then i else fidxFrom (l.drop (k + 1)) s (i + 1) := by
  rw [List.drop_eq_getElem_cons hk]; rfl
theorem fidxFrom_ge : ∀ (l : List Fct) (s : Fct) (i : Int), 0 ≤ i → fidxFrom l s i = -1 ∨ 0 ≤ fidxFrom l s i
  | [], _, _, _ => .inl rfl
  | r :: l, s, i, h => by
    unfold fidxFrom
    by_cases hz : cmpF r s = 0
    · rw [if_pos hz]; exact .inr h
    · rw [if_neg hz]; exact fidxFrom_ge l s (i + 1) (by omega)

theorem equalFacts_c {a1 a1' : Option Addr} {cap1 cap1' : Nat} {x y : Fct} {w : World} (h : At cFct w x [.int .i64 x.rel, .slice a1 x.vals.length cap1]) (h' : At cFct w y [.int .i64 y.rel, .slice a1' y.vals.length cap1']) :
    Calls Try.prog 36 #[.agg #[.int .i64 x.rel, .slice a1 x.vals.length cap1], .agg #[.int .i64 y.rel, .slice a1' y.vals.length cap1']] w fun e w' => e = .returned (.bool (cmpF x y == 0)) ∧ Below w.heap.size w w' := by
  have H1 : Hid (∀ ww, Below w.heap.size w ww → Calls Try.prog 51 #[.agg #[.int .i64 x.rel, .slice a1 x.vals.length cap1], .agg #[.int .i64 y.rel, .slice a1' y.vals.length cap1']] ww fun e w' => e = .returned (.int .i64 (cmpF x y)) ∧ Below ww.heap.size ww w') :=
    fun ww hb => implCompareFacts_c (At.below h hb (Nat.le_refl _)) (At.below h' hb (Nat.le_refl _))
  clear h h'
  generalize cmpF x y = z at *
  go_enter Try.func36, Try.ntmps36
  go_wp2_with fail
  refine (H1.out _ ?hb).mono ?_
  case hb => go_grown
  rintro e w1 ⟨rfl, hb1⟩
  have hbb : Below w.heap.size w w1 := Below.trans (by go_grown) (hb1.mono (by simp; try omega))
  go_wp2
  go_ret
  exact ⟨rfl, hbb⟩

/-- A valid database that has the fact. -/
def contains (x : Dbs) (y : Fct) : Bool := validDb x && decide (factIdx x y ≥ 0)

end Go.Proofs.Ytpcjhnbifgjleaa

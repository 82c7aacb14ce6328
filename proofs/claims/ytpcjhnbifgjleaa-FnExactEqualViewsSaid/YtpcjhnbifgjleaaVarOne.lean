/- VarOne: Var VarK. -/
import Derived.Test.YtpcjhnbifgjleaaTyTre
import Derived.Test.YtpcjhnbifgjleaaApp
import Derived.Test.YtpcjhnbifgjleaaShelf
import Derived.Test.YtpcjhnbifgjleaaTyTwo
import Derived.Test.YtpcjhnbifgjleaaKeyOne
import Derived.Test.YtpcjhnbifgjleaaGrow
import Derived.Test.YtpcjhnbifgjleaaRelOne
import Derived.Deep.RegionHeld3
/- Chapter 11: the variables of a list of terms: l7Has, AtomVariables of both sides. -/
namespace Go.Proofs.Ytpcjhnbifgjleaa
open Go.RowKit
set_option linter.unusedVariables false
set_option maxRecDepth 100000

theorem srcs_oneV (w : World) (v : Value) (e : TypeId) (h : v.oneCell' = true) : Srcs (w.alloc (.cells #[v] e)) 1 (some ⟨w.heap.size, 0, none⟩) 1 [v] :=
  ⟨rfl, fun u hu => by simp at hu; subst hu; exact h, .inr ⟨_, rfl, one_at w v e⟩⟩
theorem own_formV {w : World} {base : Nat} {e : TypeId} {v : Value} {n : Nat} {xs : List Value} (h : w.ownsRow base e 1 v n xs) : ∃ a cap, v = .slice a n cap := by
  rcases h.2 with ⟨rfl, h0⟩ | ⟨g, cp, cur, rfl, _⟩
  · exact ⟨none, 0, by rw [h0]⟩
  · exact ⟨_, _, rfl⟩
theorem own_pushV {w w' : World} {base : Nat} {e : TypeId} {v' : Value} {n : Nat} {l : List Int} {x : Int} (h : w'.ownsRow base e 1 v' (n + 1) (l.map iv ++ [.int .i64 x])) : w'.ownsRow base e 1 v' (l ++ [x]).length ((l ++ [x]).map iv) := by
  have hn := h.1
  simp at hn
  rw [List.map_append, List.length_append, List.length_singleton]
  subst hn
  exact h
theorem row_emptyV (w : World) (e : TypeId) (base : Nat) (h : base ≤ w.heap.size) : (w.alloc (.cells #[] e)).ownsRow base e 1 (.slice (some ⟨w.heap.size, 0, none⟩) 0 0) 0 [] :=
  ⟨rfl, .inr ⟨w.heap.size, 0, #[], rfl, h, heap_alloc_new w _, by simp, by simp, by simp, by simp⟩⟩

/-- The variables below k that stand in a list of terms, ascending. -/
def vPart (l : List Int) (k : Nat) : List Int := ((List.range k).filter fun (v : Nat) => l.contains (v : Int)).map fun (v : Nat) => (v : Int)
def varsL (l : List Int) : List Int := vPart l 4
theorem vPart_succ (l : List Int) (k : Nat) : vPart l (k + 1) = if l.contains (k : Int) = true then vPart l k ++ [(k : Int)] else vPart l k := by
  unfold vPart
  rw [List.range_succ, List.filter_append, List.map_append]
  cases h : l.contains (k : Int)
  · rw [if_neg Bool.false_ne_true, List.filter_cons, if_neg (by rw [h]; exact Bool.false_ne_true)]; simp
  · rw [if_pos rfl, List.filter_cons, if_pos h]; rfl
theorem vPart_len (l : List Int) (k : Nat) : (vPart l k).length ≤ k := by
  unfold vPart
  rw [List.length_map]
  exact Nat.le_trans (List.length_filter_le _ _) (by simp)
theorem varsL_bnd (l : List Int) : (varsL l).length ≤ 4611686018427000000 := Nat.le_trans (vPart_len l 4) (by decide)
theorem vPart_inR (l : List Int) (k : Nat) (hk : k ≤ 4) : ∀ x, x ∈ vPart l k → inR x := by
  intro x hx
  obtain ⟨v, hv, rfl⟩ := List.mem_map.1 hx
  have := List.mem_range.1 (List.mem_filter.1 hv).1
  unfold inR
  omega
theorem contains_drop (l : List Int) (x : Int) (k : Nat) (hk : k < l.length) : (l.drop k).contains x = (l[k] == x || (l.drop (k + 1)).contains x) := by
  rw [List.drop_eq_getElem_cons hk, List.contains_cons, Bool.beq_comm]
end Go.Proofs.Ytpcjhnbifgjleaa
namespace Go.Proofs.Ytpcjhnbifgjleaa
open Go.RowKit
set_option linter.unusedVariables false
set_option maxRecDepth 100000
/-- The length of the key of the relation at an index. -/
def keyAtV (l : List Rel) (r : Int) : Int := match l[r.toNat]? with
  | some q => q.key
  | none => 0
def keyVarsL (l : List Rel) (x : Atm) : List Int :=
  if (inB x.rel 0 ((l.length : Int) - 1) && inB (keyAtV l x.rel) 0 (x.terms.length : Int)) = true then varsL (x.terms.take (keyAtV l x.rel).toNat) else []
theorem keyVarsL_bnd (l : List Rel) (x : Atm) : (keyVarsL l x).length ≤ 4611686018427000000 := by
  unfold keyVarsL
  split
  · exact varsL_bnd _
  · simp
theorem keyAtV_at (l : List Rel) (k : Nat) (hk : k < l.length) : keyAtV l (k : Int) = l[k].key := by
  unfold keyAtV
  simp [hk]
end Go.Proofs.Ytpcjhnbifgjleaa

/- Relations and facts: structures, readings, the laws' helpers on one of them. -/
import Derived.Test.YtmofmepbekffiaaTyA
import Derived.Lib.Strings
namespace Go.Proofs.Ytmofmepbekffiaa
open Go.RowKit
set_option linter.unusedVariables false
set_option maxRecDepth 100000

/-- A relation: its name, its arity, its key's length. -/
structure Rel where
  name : ByteArray
  arity : Int
  key : Int
deriving DecidableEq
def cRel : Cod Rel := cMap (fun x => (x.name, x.arity, x.key)) (cPair cStr (cPair cInt cInt))
theorem cRel_inv {B : Nat} {w : World} {x : Rel} {cs : List Value} (h : cRel.ok B w x cs) : cs = [.string x.name, .int .i64 x.arity, .int .i64 x.key] ∧ x.name.size ≤ maxLen ∧ inR x.arity ∧ inR x.key := by
  obtain ⟨_, _, rfl, ⟨rfl, hs⟩, _, _, rfl, ⟨rfl, h1⟩, ⟨rfl, h2⟩⟩ := h
  exact ⟨rfl, hs, h1, h2⟩
theorem cRel_open {B : Nat} {w : World} {x : Rel} {cs : List Value} (h : cRel.ok B w x cs) : cs = [.string x.name, .int .i64 x.arity, .int .i64 x.key] ∧ cRel.ok B w x [.string x.name, .int .i64 x.arity, .int .i64 x.key] := by
  have h2 := cRel_inv h
  exact ⟨h2.1, h2.1 ▸ h⟩
theorem cRel_mk {B : Nat} {w : World} {x : Rel} (h : x.name.size ≤ maxLen) (h1 : inR x.arity) (h2 : inR x.key) : cRel.ok B w x [.string x.name, .int .i64 x.arity, .int .i64 x.key] := ⟨[_], [_, _], rfl, ⟨rfl, h⟩, [_], [_], rfl, ⟨rfl, h1⟩, ⟨rfl, h2⟩⟩
theorem cRel_mkO {w : World} {x : Rel} (h : x.name.size ≤ maxLen) (h1 : inR x.arity) (h2 : inR x.key) : cRel.own [] w x [.string x.name, .int .i64 x.arity, .int .i64 x.key] := ⟨[_], [_, _], [], [], rfl, ⟨⟨rfl, h⟩, rfl⟩, ⟨[_], [_], [], [], rfl, ⟨⟨rfl, h1⟩, rfl⟩, ⟨⟨rfl, h2⟩, rfl⟩, rfl, by simp⟩, rfl, by simp⟩
theorem Own.rel {B : Nat} {w : World} {x : Rel} (h : x.name.size ≤ maxLen) (h1 : inR x.arity) (h2 : inR x.key) : Own cRel B w x [.string x.name, .int .i64 x.arity, .int .i64 x.key] := ⟨[], cRel_mkO h h1 h2, by simp⟩
theorem szRelation_c {x : Rel} {left : Int} {w : World} (hl : 0 ≤ left) (hl2 : left ≤ 1048576) (h : At cRel w x [.string x.name, .int .i64 x.arity, .int .i64 x.key]) :
    Calls Try.prog 61 #[.agg #[.string x.name, .int .i64 x.arity, .int .i64 x.key], .int .i64 left] w fun e w' =>
      e = .returned (.int .i64 (szR left x.name.size)) ∧ Below w.heap.size w w' := by
  have hr := (cRel_inv h).2.1
  clear h
  obtain ⟨n, a, k⟩ := x
  unfold maxLen at hr
  simp only [szR] at *
  have hw : wrap64 (left - (n.size : Int)) = left - (n.size : Int) := IntWalk.wrap64_in _ ⟨by omega, by omega⟩
  by_cases h : (left - n.size) < 0
  · rw [if_pos h]
    go_enter Try.func61, Try.ntmps61
    go_wp2
    go_ret
    exact ⟨rfl, (Below.refl _ _).alloc (Nat.le_refl _) _⟩
  · rw [if_neg h]
    go_enter Try.func61, Try.ntmps61
    go_wp2
    go_ret
    exact ⟨rfl, (Below.refl _ _).alloc (Nat.le_refl _) _⟩
theorem toRelation_c {x : Rel} {w : World} (hs : x.name.size ≤ 1048576) (h : At cRel w x [.string x.name, .int .i64 x.arity, .int .i64 x.key]) :
    Calls Try.prog 66 #[.agg #[.string x.name, .int .i64 x.arity, .int .i64 x.key]] w fun e w' => (e = .returned (.agg #[.string x.name, .int .i64 x.arity, .int .i64 x.key]) ∧ Own cRel w.heap.size w' x [.string x.name, .int .i64 x.arity, .int .i64 x.key]) ∧ Below w.heap.size w w' := by
  have ho : ∀ w', Own cRel w.heap.size w' x [.string x.name, .int .i64 x.arity, .int .i64 x.key] := fun w' => Own.rel (cRel_inv h).2.1 (cRel_inv h).2.2.1 (cRel_inv h).2.2.2
  have Ho := Lib.hid ho
  clear ho h
  obtain ⟨n, a, k⟩ := x
  simp only at *
  go_enter Try.func66, Try.ntmps66
  go_wp2
  go_returns
  refine ⟨⟨?_, Ho.out _⟩, ?_⟩
  · simp
  · go_grown
theorem eqRelation_c {x y : Rel} {w : World} (h : At cRel w x [.string x.name, .int .i64 x.arity, .int .i64 x.key]) (h' : At cRel w y [.string y.name, .int .i64 y.arity, .int .i64 y.key]) :
    Calls Try.prog 73 #[.agg #[.string x.name, .int .i64 x.arity, .int .i64 x.key], .agg #[.string y.name, .int .i64 y.arity, .int .i64 y.key]] w fun e w' => e = .returned (.bool (decide (x = y))) ∧ Below w.heap.size w w' := by
  clear h h'
  obtain ⟨n, a, k⟩ := x
  obtain ⟨n', a', k'⟩ := y
  simp only [Rel.mk.injEq] at *
  by_cases h1 : n = n'
  · subst h1
    have h1' : (n.toList == n.toList) = true := by simp
    by_cases h2 : a = a'
    · subst h2
      by_cases h3 : k = k'
      · subst h3
        go_enter Try.func73, Try.ntmps73
        go_wp2
        go_ret
        exact ⟨by simp, by go_grown⟩
      · have hn : (k != k') = true := by simp [h3]
        go_enter Try.func73, Try.ntmps73
        go_wp2
        go_ret
        exact ⟨by simp [h3], by go_grown⟩
    · have hn : (a != a') = true := by simp [h2]
      go_enter Try.func73, Try.ntmps73
      go_wp2
      go_ret
      exact ⟨by simp [h2], by go_grown⟩
  · have h1' : (n.toList == n'.toList) = false := by
      rw [Lib.toList_data, Lib.toList_data]
      simp only [beq_eq_false_iff_ne, ne_eq]
      intro e; exact h1 (by rw [str_of n, str_of n', e])
    go_enter Try.func73, Try.ntmps73
    go_wp2
    go_ret
    exact ⟨by simp [h1], by go_grown⟩

end Go.Proofs.Ytmofmepbekffiaa


/- Slices of booleans: the laws' helpers on them (copy, equality, marks), as a row reads them. -/
import Derived.Test.YtknnnebjjjldpaaTyOne
import Derived.Test.YtknnnebjjjldpaaRd
import Derived.Test.YtknnnebjjjldpaaMarkOne
namespace Go.Proofs.Ytknnnebjjjldpaa
open Go.RowKit
set_option linter.unusedVariables false
set_option maxRecDepth 100000

def bv (x : Bool) : Value := .bool x
/-- A slice of booleans: element j. -/
theorem bools_at {B : Nat} {w : World} {l : List Bool} {a : Option Addr} {len cap : Nat} (h : (cSlice cBool).ok B w l [.slice a len cap]) (j : Nat) (hj : j < l.length) :
    ∃ b off, a = some ⟨b, off, none⟩ ∧ b < B ∧ w.cell? ⟨b, off + j, none⟩ = some (.bool l[j]) := by
  obtain ⟨b, off, es, rfl, hb, he, hc⟩ := slice_at h j hj
  obtain rfl := he
  exact ⟨b, off, rfl, hb, by simpa [cBool] using hc 0 (by decide)⟩
/-- The row when k numbers are written: the first k, then zeros. -/
def doneB (l : List Bool) (k n : Nat) : List Value := (l.take k).map bv ++ List.replicate (n - k) (bv false)
theorem doneB_step (l : List Bool) (k n : Nat) (hn : l.length = n) (hk : k < n) (hkl : k < l.length) : (doneB l k n).set k (.bool l[k]) = doneB l (k + 1) n := by
  unfold doneB
  have e1 : n - k = (n - (k + 1)) + 1 := by omega
  have e2 : ((l.take k).map bv).length = k := by simp; omega
  rw [e1, List.replicate_succ, List.set_append_right _ _ (by omega), e2, Nat.sub_self, List.set_cons_zero, List.take_succ_eq_append_getElem hkl, List.map_append]
  simp [bv]
theorem doneB_all (l : List Bool) (n : Nat) (h : l.length = n) : doneB l n n = l.map bv := by subst h; simp [doneB]
theorem doneB_at (l : List Bool) (k n : Nat) (hn : l.length = n) (hk : k < n) : (doneB l k n)[k]? = some (.bool false) := by
  have e1 : n - k = (n - (k + 1)) + 1 := by omega
  have e2 : ((l.take k).map bv).length = k := by simp; omega
  unfold doneB
  rw [e1, List.replicate_succ, List.getElem?_append_right (by omega), e2]
  simp [bv]
theorem made_bools (n : Nat) (l : List Bool) : (madeCells #[.bool false] n).toList = doneB l 0 n := by
  unfold doneB madeCells
  apply List.ext_getElem
  · simp
  · intro i h1 h2
    simp [bv, Nat.mod_one]
theorem flat_bools (l : List Bool) : (l.map fun x => [bv x]).flatten = l.map bv := by
  induction l with
  | nil => rfl
  | cons x l ih => simp [ih]
theorem Try.infoBo : (Try.prog.info? 4).map (fun i => (i.zero, i.size, i.bytes)) = some (some (.bool false), 1, 1) := by kernel_rfl
/-- A row of numbers of the call's own. -/
theorem own_bools {w : World} {base : Nat} {e : TypeId} {v : Value} {n : Nat} {l : List Bool} (h : w.ownsRow base e 1 v n (l.map bv)) : Own (cSlice cBool) base w l [v] := by
  have hn : l.length = n := by simpa using h.1
  subst hn
  rcases h.2 with ⟨rfl, h0⟩ | ⟨g, cap, cur, rfl, hb, hg, h1, h2, _⟩
  · obtain rfl := List.eq_nil_of_length_eq_zero h0
    exact Own.nil _ _
  · exact Own.slice (c := cBool) (F := []) (css := l.map fun x => [bv x]) (ownL_flat (c := cBool) (fun x => [bv x]) w l (fun x hx => ⟨rfl, rfl⟩)) (by rw [flat_bools]; exact h) (by simp) (by omega)
theorem Try.cells_bool : Try.prog.cellsOf 4 = 1 := by kernel_rfl
section
open Go.Deep
variable {H : Type} {enc : TypeId × Value → H} {P : Program} {w : World} {base : Nat} {spare : Nat → Bool} {held : Bool}
theorem rd_bool {t : TypeId} (ht : P.underlying t = some .bool) {fuel : Nat} {cs : List Value} {x : DataW H × List MemPlace} (h : DataW.trod enc P w base spare held fuel t cs = some x) : ∃ y, cBool.ok w.heap.size w y cs := by
  obtain ⟨b, e, _⟩ := DataW.trod_bool ht h
  exact ⟨b, e⟩
end
def markB (k : Nat) (l : List Bool) : List Bool := markL (fun k _ => decide (k % 3 = 0)) (fun _ => 1) k l
theorem markB_length (k : Nat) (l : List Bool) : (markB k l).length = l.length := markL_length _ _ _ _
end Go.Proofs.Ytknnnebjjjldpaa

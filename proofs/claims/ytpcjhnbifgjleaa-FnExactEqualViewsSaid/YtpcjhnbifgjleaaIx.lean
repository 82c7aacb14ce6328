/- Chapter 4: ascending places among n: areIndices; the model's l4Set. -/
import Derived.Test.YtpcjhnbifgjleaaTyTwo
import Derived.Test.YtpcjhnbifgjleaaKeyOne
import Derived.Lib.Small
namespace Go.Proofs.Ytpcjhnbifgjleaa
open Go.RowKit
set_option linter.unusedVariables false
set_option maxRecDepth 100000

/-- A number behind another one. -/
def okPI : Option Int → Int → Bool
  | none, _ => true
  | some q, x => decide (q < x)
def ascI : Option Int → List Int → Bool
  | _, [] => true
  | p, x :: l => okPI p x && ascI (some x) l
/-- Ascending places among n. -/
def setIx (n : Int) (l : List Int) : Bool := l.all (fun x => inB x 0 (n - 1)) && ascI none l
theorem ascI_step (l : List Int) (k : Nat) (hk : k < l.length) : ascI (prevG l k) (l.drop k) = (okPI (prevG l k) l[k] && ascI (prevG l (k + 1)) (l.drop (k + 1))) := by
  rw [List.drop_eq_getElem_cons hk]
  simp [ascI, prevG, hk]
theorem ascI_start (l : List Int) : ascI none l = ascI (prevG l 1) (l.drop 1) := by
  cases l with
  | nil => rfl
  | cons r l => simp [ascI, prevG, okPI]
theorem okPI_succ (l : List Int) (k : Nat) (hk : k < l.length) (x : Int) : okPI (prevG l (k + 1)) x = decide (l[k] < x) := by
  show okPI (l[k]?) x = _
  rw [List.getElem?_eq_getElem hk]; rfl
/-- What the model's loop asks. -/
def setFrom (n : Int) : Option Int → List Int → Bool
  | _, [] => true
  | p, x :: l => inB x 0 (n - 1) && (okPI p x && setFrom n (some x) l)
theorem setFrom_step (n : Int) (l : List Int) (k : Nat) (hk : k < l.length) : setFrom n (prevG l k) (l.drop k) = (inB l[k] 0 (n - 1) && (okPI (prevG l k) l[k] && setFrom n (prevG l (k + 1)) (l.drop (k + 1)))) := by
  rw [List.drop_eq_getElem_cons hk]
  simp [setFrom, prevG, hk]
theorem setFrom_split (n : Int) : ∀ (l : List Int) (p : Option Int), setFrom n p l = (l.all (fun x => inB x 0 (n - 1)) && ascI p l)
  | [], _ => rfl
  | x :: l, p => by
    simp only [setFrom, ascI, List.all_cons, setFrom_split n l (some x)]
    cases inB x 0 (n - 1) <;> cases okPI p x <;> cases l.all (fun x => inB x 0 (n - 1)) <;> simp
theorem setIx_eq (n : Int) (l : List Int) : setIx n l = setFrom n none l := (setFrom_split n l none).symm

theorem compareInt_ge (x y : Int) : decide (Lib.compareInt x y ≥ 0) = !decide (x < y) := by
  unfold Lib.compareInt
  rcases Int.lt_trichotomy x y with h | h | h
  · simp [h]
  · simp [h]
  · have h1 : ¬ x < y := by omega
    simp [h, h1]
end Go.Proofs.Ytpcjhnbifgjleaa

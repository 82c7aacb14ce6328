/- Chapter 8: AreValidEdges, the model's and the program's. -/
import Derived.Test.YtgoofnhhhlncoaaTyTre
import Derived.Test.YtgoofnhhhlncoaaKeyOne
import Derived.Deep.RegionHeld3
namespace Go.Proofs.Ytgoofnhhhlncoaa
open Go.RowKit
set_option linter.unusedVariables false
set_option maxRecDepth 100000

/-- An edge between two of n vertices. -/
def okE (n : Int) (e : Edg) : Bool := decide (0 ≤ e.a) && (decide (e.a < e.b) && decide (e.b < n))
/-- The order of edges. -/
def cmpE (x y : Edg) : Int := if Lib.compareInt x.a y.a ≠ 0 then Lib.compareInt x.a y.a else Lib.compareInt x.b y.b
def okPE : Option Edg → Edg → Bool
  | none, _ => true
  | some q, x => !decide (cmpE q x ≥ 0)
def ascE : Option Edg → List Edg → Bool
  | _, [] => true
  | p, x :: l => okPE p x && ascE (some x) l
/-- Valid edges. -/
def validE (n : Int) (l : List Edg) : Bool := inB n 0 14 && (l.all (okE n) && ascE none l)
theorem ascE_step (l : List Edg) (k : Nat) (hk : k < l.length) : ascE (prevG l k) (l.drop k) = (okPE (prevG l k) l[k] && ascE (prevG l (k + 1)) (l.drop (k + 1))) := by
  rw [List.drop_eq_getElem_cons hk]
  simp [ascE, prevG, hk]
theorem ascE_start (l : List Edg) : ascE none l = ascE (prevG l 1) (l.drop 1) := by
  cases l with
  | nil => rfl
  | cons r l => simp [ascE, prevG, okPE]
theorem okPE_succ (l : List Edg) (k : Nat) (hk : k < l.length) (x : Edg) : okPE (prevG l (k + 1)) x = !decide (cmpE l[k] x ≥ 0) := by
  show okPE (l[k]?) x = _
  rw [List.getElem?_eq_getElem hk]; rfl
/-- What the model's loop asks, as it reckons. -/
def stE (n : Int) (e : Edg) : Bool := inB e.a 0 (wrap64 (e.b - 1)) && inB e.b 0 (wrap64 (n - 1))
def spE (n : Int) : Option Edg → List Edg → Bool
  | _, [] => true
  | p, x :: l => stE n x && (okPE p x && spE n (some x) l)
theorem spE_step (n : Int) (l : List Edg) (k : Nat) (hk : k < l.length) : spE n (prevG l k) (l.drop k) = (stE n l[k] && (okPE (prevG l k) l[k] && spE n (prevG l (k + 1)) (l.drop (k + 1)))) := by
  rw [List.drop_eq_getElem_cons hk]
  simp [spE, prevG, hk]
theorem stE_eq (n : Int) (e : Edg) (hn : inB n 0 14 = true) (hb : inR e.b) : stE n e = okE n e := by
  unfold inB at hn
  simp only [Bool.and_eq_true, decide_eq_true_eq] at hn
  unfold inR at hb
  unfold stE okE inB
  rw [IntWalk.wrap64_in (n - 1) ⟨by omega, by omega⟩]
  by_cases h : e.b = -9223372036854775808
  · rw [h]
    simp
    omega
  · rw [IntWalk.wrap64_in (e.b - 1) ⟨by omega, by omega⟩, Bool.eq_iff_iff]
    simp only [Bool.and_eq_true, decide_eq_true_eq]
    omega
theorem spE_split (n : Int) (hn : inB n 0 14 = true) : ∀ (l : List Edg) (p : Option Edg), (∀ e, e ∈ l → inR e.b) → spE n p l = (l.all (okE n) && ascE p l)
  | [], _, _ => rfl
  | x :: l, p, h => by
    simp only [spE, ascE, List.all_cons, spE_split n hn l (some x) (fun e he => h e (by simp [he])), stE_eq n x hn (h x (by simp))]
    cases okE n x <;> cases okPE p x <;> cases l.all (okE n) <;> simp
theorem validE_eq (n : Int) (l : List Edg) (h : ∀ e, e ∈ l → inR e.b) : validE n l = (spE n none l && inB n 0 14) := by
  unfold validE
  cases hn : inB n 0 14
  · simp
  · rw [spE_split n hn l none h]; simp

theorem edge_b {B : Nat} {w : World} {l : List Edg} {cs : List Value} (h : (cSlice cEdg).ok B w l cs) : ∀ e, e ∈ l → inR e.b := by
  intro e he
  obtain ⟨j, hj, rfl⟩ := List.getElem_of_mem he
  obtain ⟨_, _, rfl, _, h⟩ := h
  obtain ⟨b, off, es, _, hb, h1, hc⟩ := h j hj
  obtain ⟨_, _, _, ⟨_, _⟩, ⟨_, h2⟩⟩ := h1
  exact h2
end Go.Proofs.Ytgoofnhhhlncoaa

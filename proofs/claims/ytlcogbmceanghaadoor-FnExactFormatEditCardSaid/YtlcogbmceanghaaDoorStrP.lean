/- Texts in the layer: joined texts. -/
import Derived.Test.YtlcogbmceanghaaDoorCodOne
import Derived.Test.YtlcogbmceanghaaDoorAbEnc
import Derived.Test.YtlcogbmceanghaaDoorAbTwo
import Derived.Lib.Join
open Go Go.Proofs Go.RowKit
namespace Go.Proofs.YtlcogbmceanghaaDoor.Ab
set_option linter.unusedSimpArgs false
set_option linter.unusedVariables false
set_option maxRecDepth 100000
theorem addOk (a b : ByteArray) (h : a.size + b.size ≤ 4611686018427387904) : (((a.size + b.size : Nat) : Int) > IntKind.i64.max) = False := by
  apply eq_false
  have : IntKind.i64.max = 9223372036854775807 := by decide
  omega
def encT (x : ByteArray) : List D := [.v (.string x)]
theorem getT {l : List ByteArray} {i : Nat} (h : i < l.length) : (l.map encT)[i]? = some [.v (.string l[i])] := by simp [h, encT]
/-- Texts with a sign between. -/
def jn (sep : ByteArray) : List ByteArray → ByteArray
  | [] => ⟨#[]⟩
  | [x] => x
  | x :: y :: l => x ++ sep ++ jn sep (y :: l)
theorem jn_snoc (sep x : ByteArray) : ∀ (l : List ByteArray), l ≠ [] → jn sep (l ++ [x]) = jn sep l ++ sep ++ x
  | [], h => (h rfl).elim
  | [y], _ => rfl
  | y :: z :: l, _ => by
    have ih := jn_snoc sep x (z :: l) (by simp)
    show jn sep (y :: z :: (l ++ [x])) = _
    rw [jn, show jn sep (z :: (l ++ [x])) = jn sep (z :: l) ++ sep ++ x from ih, jn]
    simp only [ByteArray.append_assoc]
theorem jn_size {sep : ByteArray} {m : Nat} : ∀ (l : List ByteArray), (∀ x, x ∈ l → x.size ≤ m) → (jn sep l).size ≤ l.length * (m + sep.size)
  | [], _ => by rw [jn]; exact Nat.zero_le _
  | [x], h => by
    have := h x (by simp)
    rw [jn, List.length_singleton, Nat.one_mul]
    omega
  | x :: y :: l, h => by
    have ih := jn_size (sep := sep) (y :: l) (fun z hz => h z (List.mem_cons_of_mem _ hz))
    have := h x (by simp)
    rw [jn, ByteArray.size_append, ByteArray.size_append, List.length_cons, Nat.succ_mul]
    omega
theorem jn_lib (sep : ByteArray) : ∀ (l : List ByteArray), (⟨(Lib.join (l.map (·.data.toList)) sep.data.toList).toArray⟩ : ByteArray) = jn sep l
  | [] => rfl
  | [x] => by
    rw [List.map_cons, List.map_nil, Lib.join_one, jn]
  | x :: y :: l => by
    have ih := jn_lib sep (y :: l)
    rw [jn, ← ih]
    apply ByteArray.ext
    rw [ByteArray.data_append, ByteArray.data_append, List.map_cons, Lib.join_cons, List.map_cons, Lib.join_cons]
    simp [Lib.joinTail]
/-- How the model's texts grow: a sign ahead of all but the first. -/
theorem jn_step (sep : ByteArray) {α : Type} (f : α → ByteArray) (l : List α) {i : Nat} (h : i < l.length) : jn sep ((l.take (i + 1)).map f) = if i = 0 then f l[i] else jn sep ((l.take i).map f) ++ sep ++ f l[i] := by
  rw [List.take_succ_eq_append_getElem h, List.map_append, List.map_cons, List.map_nil]
  by_cases hi : i = 0
  · subst hi
    rw [if_pos rfl]
    rfl
  · rw [if_neg hi, jn_snoc]
    intro e
    have h2 := congrArg List.length e
    rw [List.length_map, List.length_take, List.length_nil] at h2
    omega
/-- A text with the first i of the list's texts behind it, a sign between. -/
def accB {α : Type} (pre sep : ByteArray) (f : α → ByteArray) (l : List α) (i : Nat) : ByteArray := pre ++ jn sep ((l.take i).map f)
theorem bApp_nil (x : ByteArray) : x ++ ⟨#[]⟩ = x := ByteArray.append_empty
theorem bNil_app (x : ByteArray) : ⟨#[]⟩ ++ x = x := ByteArray.empty_append
theorem bNap (x : ByteArray) : ⟨#[]⟩ ++ x = x := ByteArray.empty_append
theorem accB_zero {α : Type} (pre sep : ByteArray) (f : α → ByteArray) (l : List α) : accB pre sep f l 0 = pre := bApp_nil pre
theorem accB_one {α : Type} (pre sep : ByteArray) (f : α → ByteArray) (l : List α) (h : 0 < l.length) : accB pre sep f l 1 = pre ++ f l[0] := by
  unfold accB
  rw [jn_step sep f l h, if_pos rfl]
theorem accB_step {α : Type} (pre sep : ByteArray) (f : α → ByteArray) (l : List α) {i : Nat} (h : i < l.length) (hi : i ≠ 0) : accB pre sep f l (i + 1) = accB pre sep f l i ++ sep ++ f l[i] := by
  unfold accB
  rw [jn_step sep f l h, if_neg hi]
  simp only [ByteArray.append_assoc]
theorem accB_end {α : Type} (pre sep : ByteArray) (f : α → ByteArray) (l : List α) : accB pre sep f l l.length = pre ++ jn sep (l.map f) := by
  unfold accB
  rw [List.take_length]
theorem accB_size {α : Type} (pre sep : ByteArray) (f : α → ByteArray) (l : List α) (i : Nat) {m : Nat} (hi : i ≤ l.length) (hm : ∀ x, x ∈ l → (f x).size ≤ m) : (accB pre sep f l i).size ≤ pre.size + i * (m + sep.size) := by
  unfold accB
  rw [ByteArray.size_append]
  have := jn_size (sep := sep) (m := m) ((l.take i).map f) (fun x hx => by
    obtain ⟨y, hy, rfl⟩ := List.mem_map.1 hx
    exact hm y (List.mem_of_mem_take hy))
  rw [List.length_map, List.length_take, Nat.min_eq_left hi] at this
  omega
end Go.Proofs.YtlcogbmceanghaaDoor.Ab


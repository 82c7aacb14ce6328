/- The model's l7Sorted: insertion from behind. -/
import Derived.Test.YteabehbpfhfljaaDoorAbEnc
import Derived.Test.YteabehbpfhfljaaDoorAbThr
open Go Go.Proofs Go.RowKit
namespace Go.Proofs.YteabehbpfhfljaaDoor.Ab
set_option linter.unusedSimpArgs false
set_option linter.unusedVariables false
set_option maxRecDepth 100000
/-- The place behind the last one of the first k that is not greater. -/
def posD (l : List Int) (x : Int) : Nat → Nat
  | 0 => 0
  | k + 1 => if l.getD k 0 > x then posD l x k else k + 1
def insI (l : List Int) (x : Int) : List Int := l.take (posD l x l.length) ++ [x] ++ l.drop (posD l x l.length)
def sortI (l : List Int) : List Int := l.foldl insI []
theorem posD_le (l : List Int) (x : Int) : ∀ k, posD l x k ≤ k
  | 0 => Nat.le_refl _
  | k + 1 => by unfold posD; split; · exact Nat.le_succ_of_le (posD_le l x k)
                · exact Nat.le_refl _
theorem posD_gt (l : List Int) (x : Int) : ∀ k j, posD l x k ≤ j → j < k → l.getD j 0 > x
  | 0, j, _, h => by omega
  | k + 1, j, h1, h2 => by
    unfold posD at h1
    split at h1
    · rename_i hk
      by_cases e : j = k
      · subst e; exact hk
      · exact posD_gt l x k j h1 (by omega)
    · omega
theorem posD_at (l : List Int) (x : Int) : ∀ k, 0 < posD l x k → l.getD (posD l x k - 1) 0 ≤ x
  | 0, h => by simp [posD] at h
  | k + 1, h => by
    unfold posD at h ⊢
    split
    · rename_i hk; rw [if_pos hk] at h; exact posD_at l x k h
    · rename_i hk; simp only [Nat.add_sub_cancel]; omega
theorem insI_perm (l : List Int) (x : Int) : (insI l x).Perm (x :: l) := by
  unfold insI
  have h := List.take_append_drop (posD l x l.length) l
  rw [List.append_assoc, List.singleton_append]
  refine List.Perm.trans List.perm_middle ?_
  rw [h]
theorem insI_len (l : List Int) (x : Int) : (insI l x).length = l.length + 1 := (insI_perm l x).length_eq
theorem insI_sorted {l : List Int} (x : Int) (h : l.Pairwise (· ≤ ·)) : (insI l x).Pairwise (· ≤ ·) := by
  unfold insI
  have hle := posD_le l x l.length
  have hgt := posD_gt l x l.length
  have hat := posD_at l x l.length
  generalize posD l x l.length = p at *
  rw [List.append_assoc, List.pairwise_append]
  refine ⟨h.sublist (List.take_sublist _ _), ?_, fun a ha b hb => ?_⟩
  · rw [List.singleton_append, List.pairwise_cons]
    refine ⟨fun b hb => ?_, h.sublist (List.drop_sublist _ _)⟩
    obtain ⟨j, hj, rfl⟩ := List.getElem_of_mem hb
    rw [List.length_drop] at hj
    have := hgt (p + j) (by omega) (by omega)
    rw [List.getD_eq_getElem?_getD, List.getElem?_eq_getElem (by omega)] at this
    rw [List.getElem_drop]
    have : l[p + j] > x := this
    omega
  · obtain ⟨j, hj, rfl⟩ := List.getElem_of_mem ha
    rw [List.length_take] at hj
    have h1 := hat (by omega)
    rw [List.getD_eq_getElem?_getD, List.getElem?_eq_getElem (by omega)] at h1
    have h1 : l[p - 1] ≤ x := h1
    have h2 : l[j] ≤ l[p - 1] := by
      by_cases e : j = p - 1
      · have : ∀ a b (ha : a < l.length) (hb : b < l.length), a = b → l[a] ≤ l[b] := fun a b ha hb e => by subst e; exact Int.le_refl _
        exact this j (p - 1) (by omega) (by omega) e
      · exact List.pairwise_iff_getElem.1 h j (p - 1) (by omega) (by omega) (by omega)
    rw [List.getElem_take]
    rcases List.mem_append.1 hb with hb | hb
    · simp at hb; omega
    · obtain ⟨m, hm, rfl⟩ := List.getElem_of_mem hb
      rw [List.length_drop] at hm
      rw [List.getElem_drop]
      have h3 := hgt (p + m) (by omega) (by omega)
      rw [List.getD_eq_getElem?_getD, List.getElem?_eq_getElem (by omega)] at h3
      have h3 : l[p + m] > x := h3
      omega
theorem foldI : ∀ (l acc : List Int), acc.Pairwise (· ≤ ·) → (l.foldl insI acc).Pairwise (· ≤ ·) ∧ (l.foldl insI acc).Perm (acc ++ l)
  | [], acc, h => ⟨h, by simp⟩
  | x :: l, acc, h => by
    obtain ⟨h1, h2⟩ := foldI l (insI acc x) (insI_sorted x h)
    refine ⟨h1, h2.trans ?_⟩
    refine ((insI_perm acc x).append_right l).trans ?_
    exact (List.perm_middle (a := x) (l₁ := acc) (l₂ := l)).symm
theorem sortI_sorted (l : List Int) : (sortI l).Pairwise (· ≤ ·) := (foldI l [] List.Pairwise.nil).1
theorem sortI_perm (l : List Int) : (sortI l).Perm l := (foldI l [] List.Pairwise.nil).2
theorem sorted_eq : ∀ {l m : List Int}, l.Perm m → l.Pairwise (· ≤ ·) → m.Pairwise (· ≤ ·) → l = m
  | [], m, h, _, _ => by rw [List.nil_perm.1 h]
  | x :: l, [], h, _, _ => by simpa using h.length_eq
  | x :: l, y :: m, h, h1, h2 => by
    obtain ⟨h3, h4⟩ := List.pairwise_cons.1 h1
    obtain ⟨h5, h6⟩ := List.pairwise_cons.1 h2
    have e : x = y := by
      have hx : x ∈ y :: m := h.mem_iff.1 (by simp)
      have hy : y ∈ x :: l := h.mem_iff.2 (by simp)
      rcases List.mem_cons.1 hx with e | hx
      · exact e
      · rcases List.mem_cons.1 hy with e | hy
        · exact e.symm
        · have := h5 x hx
          have := h3 y hy
          omega
    subst e
    rw [sorted_eq (List.Perm.cons_inv h) h4 h6]
theorem sortI_eq {l m : List Int} (hp : m.Perm l) (h : m.Pairwise (· ≤ ·)) : sortI l = m := sorted_eq ((sortI_perm l).trans hp.symm) (sortI_sorted l) h
end Go.Proofs.YteabehbpfhfljaaDoor.Ab

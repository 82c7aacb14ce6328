/- Chapter 7: the repair of a rank. -/
import Derived.Test.YtgipcnofonejcaaDoorStat
import Derived.Test.YtgipcnofonejcaaDoorSort
import Derived.Test.YtgipcnofonejcaaDoorRnkOne
import Derived.Test.YtgipcnofonejcaaDoorIsx
open Go Go.Proofs Go.RowKit
namespace Go.Proofs.YtgipcnofonejcaaDoor.Ab
set_option linter.unusedSimpArgs false
set_option linter.unusedVariables false
set_option maxRecDepth 100000
/-- One of each block, chosen from behind by the digits of k; what is left of k. -/
def nthR : List (List Int) → Nat → List Int × Nat
  | [], k => ([], k)
  | b :: L, k => (b.getD ((nthR L k).2 % b.length) 0 :: (nthR L k).1, (nthR L k).2 / b.length)
theorem nthR_len : ∀ (L : List (List Int)) (k : Nat), (nthR L k).1.length = L.length
  | [], _ => rfl
  | b :: L, k => by simp only [nthR, List.length_cons, nthR_len L k]
theorem nthR_le : ∀ (L : List (List Int)) (k : Nat), (nthR L k).2 ≤ k
  | [], _ => Nat.le_refl _
  | b :: L, k => Nat.le_trans (Nat.div_le_self _ _) (nthR_le L k)
theorem nthR_mem : ∀ {L : List (List Int)} {k : Nat}, (∀ b, b ∈ L → 1 ≤ b.length) → ∀ x, x ∈ (nthR L k).1 → x ∈ L.flatten
  | [], _, _, x, h => by simp [nthR] at h
  | b :: L, k, hb, x, h => by
    simp only [nthR] at h
    rw [List.flatten_cons, List.mem_append]
    rcases List.mem_cons.1 h with h | h
    · have hl := hb b (by simp)
      have hlt : (nthR L k).2 % b.length < b.length := Nat.mod_lt _ (by omega)
      rw [List.getD_eq_getElem?_getD, List.getElem?_eq_getElem hlt] at h
      exact .inl (by rw [h]; exact List.getElem_mem hlt)
    · exact .inr (nthR_mem (fun c hc => hb c (by simp [hc])) x h)
theorem nthR_pw : ∀ {L : List (List Int)} {k : Nat}, (∀ b, b ∈ L → 1 ≤ b.length) → L.flatten.Pairwise (· < ·) → (nthR L k).1.Pairwise (· < ·)
  | [], _, _, _ => List.Pairwise.nil
  | b :: L, k, hb, hp => by
    rw [List.flatten_cons] at hp
    obtain ⟨_, h2, h3⟩ := List.pairwise_append.1 hp
    simp only [nthR]
    rw [List.pairwise_cons]
    have hl := hb b (by simp)
    have hlt : (nthR L k).2 % b.length < b.length := Nat.mod_lt _ (by omega)
    refine ⟨fun y hy => ?_, nthR_pw (fun c hc => hb c (by simp [hc])) h2⟩
    rw [List.getD_eq_getElem?_getD, List.getElem?_eq_getElem hlt]
    exact h3 _ (List.getElem_mem hlt) y (nthR_mem (fun c hc => hb c (by simp [hc])) y hy)
theorem blocks_pos {d : Dbs} : ∀ b, b ∈ blocksL d → 1 ≤ b.length ∧ b.length ≤ 14 := by
  intro b hb
  have := sizesL_pos d (b.length : Int) (List.mem_map.2 ⟨b, hb, rfl⟩)
  omega
theorem blocks_pw (d : Dbs) : (blocksL d).flatten.Pairwise (· < ·) := by
  unfold blocksL
  split
  · have h : ((blksI (keyR d) d.facts.length).map ints).flatten = ints (blksI (keyR d) d.facts.length).flatten := by
      unfold ints
      rw [List.map_flatten]
    rw [h, blksI_flatten]
    unfold ints
    rw [List.pairwise_map]
    exact List.Pairwise.imp (fun h => by omega) (range_pw d.facts.length)
  · simp
def nthOk (d : Dbs) (k : Int) : Bool := decide (0 ≤ k) && decide (k < countL d)
def nthL (d : Dbs) (k : Int) : List Int := if nthOk d k then (nthR (blocksL d) k.toNat).1 else []
theorem nth_sort (d : Dbs) (k : Nat) : sortI (nthR (blocksL d) k).1.reverse = (nthR (blocksL d) k).1 :=
  sortI_eq (List.reverse_perm _).symm (List.Pairwise.imp (fun h => by omega) (nthR_pw (fun b hb => (blocks_pos b hb).1) (blocks_pw d)))
theorem count_bnd (d : Dbs) : 0 ≤ countL d ∧ countL d ≤ 11112006825558016 := by
  unfold countL
  split
  · exact prodP_small (sizesL d) (sizesL_in d) _ (Nat.le_refl _) (sizesL_len d)
  · exact ⟨Int.le_refl _, by decide⟩
theorem tmodN (a b : Nat) : ((a : Int)).tmod (b : Int) = ((a % b : Nat) : Int) := rfl
theorem tdivN (a b : Nat) (h : a ≤ 11112006825558016) : IntKind.i64.wrap (((a : Int)).tdiv (b : Int)) = ((a / b : Nat) : Int) := by
  have e : ((a : Int)).tdiv (b : Int) = ((a / b : Nat) : Int) := rfl
  have := Nat.div_le_self a b
  rw [e, IntKind.wrap_i64]
  generalize a / b = c at *
  omega
theorem rep_get {α : Type} (p : Nat) (z : α) (R : List α) : (List.replicate (p + 1) z ++ R)[p]? = some z := by
  rw [List.getElem?_append_left (by simp), List.getElem?_replicate, if_pos (by omega)]
theorem rep_set {α : Type} (p : Nat) (y z : α) (R : List α) : (List.replicate (p + 1) z ++ R).set p y = List.replicate p z ++ y :: R := by
  rw [List.replicate_succ', List.append_assoc, List.set_append_right _ _ (by simp)]
  simp
theorem nthR_step {L : List (List Int)} {p : Nat} (h : p < L.length) (k : Nat) (hb : 1 ≤ (L[p]).length) : nthR (L.drop p) k = ((L[p])[(nthR (L.drop (p + 1)) k).2 % (L[p]).length]'(Nat.mod_lt _ (by omega)) :: (nthR (L.drop (p + 1)) k).1, (nthR (L.drop (p + 1)) k).2 / (L[p]).length) := by
  have hlt : (nthR (L.drop (p + 1)) k).2 % (L[p]).length < (L[p]).length := Nat.mod_lt _ (by omega)
  rw [List.drop_eq_getElem_cons h, nthR, List.getD_eq_getElem?_getD, List.getElem?_eq_getElem hlt]
  rfl
def nextK (d : Dbs) (l : List Int) : Int := IntKind.i64.wrap (rankL d l + 1)
def nextOk (d : Dbs) (l : List Int) : Bool := isRepair d l && nthOk d (nextK d l)
def nextL (d : Dbs) (l : List Int) : List Int := if isRepair d l then nthL d (nextK d l) else []
theorem nthL_len (d : Dbs) (k : Int) : (nthL d k).length ≤ 14 := by
  unfold nthL
  split
  · rw [nthR_len]; exact blocksL_len d
  · simp
theorem nextL_len (d : Dbs) (l : List Int) : (nextL d l).length ≤ 14 := by
  unfold nextL
  split
  · exact nthL_len d _
  · simp
theorem nthL_in (d : Dbs) (k : Int) : ∀ x, x ∈ nthL d k → inR x := by
  intro x hx
  unfold nthL at hx
  split at hx
  · obtain ⟨b, hb, hxb⟩ := List.mem_flatten.1 (nthR_mem (fun b hb => (blocks_pos b hb).1) x hx)
    unfold blocksL at hb
    split at hb
    · rename_i hv
      obtain ⟨c, hc, rfl⟩ := List.mem_map.1 hb
      unfold ints at hxb
      obtain ⟨n, hn, rfl⟩ := List.mem_map.1 hxb
      have := blksI_lt hc hn
      have := vld_facts hv
      unfold inR
      omega
    · cases hb
  · cases hx
theorem nthL_good (d : Dbs) (k : Int) : (eSlice eInt).good (nthL d k) := ⟨Nat.le_trans (nthL_len d k) (by decide), nthL_in d k⟩
theorem nextL_good (d : Dbs) (l : List Int) : (eSlice eInt).good (nextL d l) := by
  unfold nextL
  split
  · exact nthL_good d _
  · exact ⟨Nat.zero_le _, by simp⟩
end Go.Proofs.YtgipcnofonejcaaDoor.Ab


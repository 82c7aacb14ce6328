/- The conflicts' edges are small and in range. -/
import Derived.Test.YtpfljebndnfpmaaKeyC
open Go Go.Proofs Go.RowKit
namespace Go.Proofs.Ytpfljebndnfpmaa.Ab
set_option linter.unusedSimpArgs false
set_option linter.unusedVariables false
theorem edgesL_len {n : Nat} (P : Nat → Nat → Bool) (h : n ≤ 14) : (edgesL n P).length ≤ 196 := by
  have h1 := edgP_len n P n
  have h2 : n * n ≤ 14 * 14 := Nat.mul_le_mul h h
  unfold edgesL
  omega
theorem edgesL_good {n : Nat} (P : Nat → Nat → Bool) (h : n ≤ 14) : (eSlice eEdg).good (edgesL n P) := by
  refine ⟨Nat.le_trans (edgesL_len P h) (by decide), ?_⟩
  intro x hx
  unfold edgesL edgP rowP at hx
  simp only [List.mem_flatMap, List.mem_map, List.mem_filter, List.mem_range] at hx
  obtain ⟨a, ha, k, ⟨hk, _⟩, rfl⟩ := hx
  exact ⟨by show inR _; unfold inR; simp only; omega, by show inR _; unfold inR; simp only; omega⟩
theorem nil_goodE : (eSlice eEdg).good [] := ⟨Nat.zero_le _, by simp⟩
theorem kconfL_good (d : Dbs) : (eSlice eEdg).good (kconfL d) := by
  unfold kconfL
  split
  · exact edgesL_good _ (vld_facts ‹_›)
  · exact nil_goodE
theorem conflL_good (d : Dbs) (L : List Dcn) : (eSlice eEdg).good (conflL d L) := by
  unfold conflL
  split
  · exact edgesL_good _ (vld_facts ‹_›)
  · exact nil_goodE
theorem kconfL_len (d : Dbs) : (kconfL d).length ≤ 196 := by
  unfold kconfL
  split
  · exact edgesL_len _ (vld_facts ‹_›)
  · exact Nat.zero_le _
theorem conflL_len (d : Dbs) (L : List Dcn) : (conflL d L).length ≤ 196 := by
  unfold conflL
  split
  · exact edgesL_len _ (vld_facts ‹_›)
  · exact Nat.zero_le _
end Go.Proofs.Ytpfljebndnfpmaa.Ab


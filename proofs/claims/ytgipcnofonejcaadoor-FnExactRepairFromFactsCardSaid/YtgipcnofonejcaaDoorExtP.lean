/- ExtendToRepair: the chosen fact of each block, in order, is the sorted list of the given and the first of each block not met. -/
import Derived.Test.YtgipcnofonejcaaDoorNth
open Go Go.Proofs Go.RowKit
namespace Go.Proofs.YtgipcnofonejcaaDoor.Ab
set_option linter.unusedSimpArgs false
set_option linter.unusedVariables false
def metB (l b : List Int) : List Int := b.filter fun x => l.contains x
/-- The fact chosen of a block. -/
def chB (l b : List Int) : Int := (metB l b ++ b).headD 0
def unmet (l b : List Int) : Bool := (metB l b).isEmpty
def extP (L : List (List Int)) (l : List Int) : List Int := L.map (chB l)
def extS (L : List (List Int)) (l : List Int) : List Int := l ++ (L.filter (unmet l)).map fun b => b.headD 0
theorem chB_mem {l b : List Int} (h : 1 ≤ b.length) : chB l b ∈ b := by
  unfold chB
  cases hm : metB l b with
  | nil =>
    cases b with
    | nil => simp at h
    | cons y b => simp
  | cons y t =>
    have : y ∈ metB l b := by rw [hm]; exact List.mem_cons_self
    exact (List.mem_filter.1 this).1
theorem extP_pw {l : List Int} : ∀ {L : List (List Int)}, (∀ b, b ∈ L → 1 ≤ b.length) → L.flatten.Pairwise (· < ·) → (extP L l).Pairwise (· < ·)
  | [], _, _ => List.Pairwise.nil
  | b :: L, hb, h => by
    rw [List.flatten_cons] at h
    obtain ⟨_, h2, h3⟩ := List.pairwise_append.1 h
    have ih := extP_pw (l := l) (fun c hc => hb c (List.mem_cons_of_mem _ hc)) h2
    refine List.Pairwise.cons ?_ ih
    intro y hy
    obtain ⟨c, hc, rfl⟩ := List.mem_map.1 hy
    exact h3 _ (chB_mem (hb b List.mem_cons_self)) _ (List.mem_flatten.2 ⟨c, hc, chB_mem (hb c (List.mem_cons_of_mem _ hc))⟩)
theorem ext_perm : ∀ (L : List (List Int)) (l : List Int), L.flatten.Pairwise (· < ·) → l.Nodup → (∀ x, x ∈ l → x ∈ L.flatten) → (∀ b, b ∈ L → ∀ x y, x ∈ b → y ∈ b → x ∈ l → y ∈ l → x = y) → (extP L l).Perm (extS L l)
  | [], l, _, _, hs, _ => by
    have : l = [] := List.eq_nil_iff_forall_not_mem.2 (fun x hx => by have := hs x hx; simp at this)
    subst this
    exact List.Perm.refl _
  | b :: L, l, h, hn, hs, ho => by
    rw [List.flatten_cons] at h hs
    obtain ⟨_, h2, h3⟩ := List.pairwise_append.1 h
    obtain ⟨l', hl'⟩ : ∃ l', l' = l.filter (fun x => !b.contains x) := ⟨_, rfl⟩
    have hmem : ∀ x, x ∈ l' ↔ x ∈ l ∧ x ∉ b := by intro x; rw [hl', List.mem_filter]; simp
    have hsame : ∀ c, c ∈ L → metB l c = metB l' c := by
      intro c hc
      unfold metB
      refine List.filter_congr (fun x hx => ?_)
      have hxb : x ∉ b := fun hxb => by
        have := h3 x hxb x (List.mem_flatten.2 ⟨c, hc, hx⟩)
        omega
      rw [Bool.eq_iff_iff, List.contains_iff_mem, List.contains_iff_mem, hmem]
      exact ⟨fun q => ⟨q, hxb⟩, fun q => q.1⟩
    have e1 : L.map (chB l) = extP L l' := List.map_congr_left (fun c hc => by unfold chB; rw [hsame c hc])
    have e2 : L.filter (unmet l) = L.filter (unmet l') := List.filter_congr (fun c hc => by unfold unmet; rw [hsame c hc])
    have ih := ext_perm L l' h2 (by rw [hl']; exact hn.filter _) (fun x hx => by
      have := (hmem x).1 hx
      rcases List.mem_append.1 (hs x this.1) with h4 | h4
      · exact absurd h4 this.2
      · exact h4) (fun c hc x y hx hy hxl hyl => ho c (List.mem_cons_of_mem _ hc) x y hx hy ((hmem x).1 hxl).1 ((hmem y).1 hyl).1)
    have g1 : extP (b :: L) l = chB l b :: extP L l' := by unfold extP at e1 ⊢; rw [List.map_cons, e1]
    rw [g1]
    cases hm : metB l b with
    | nil =>
      have hu : unmet l b = true := by unfold unmet; rw [hm]; rfl
      have hll : l' = l := by
        rw [hl']
        refine List.filter_eq_self.2 (fun x hx => ?_)
        have : x ∉ b := fun hxb => by
          have : x ∈ metB l b := List.mem_filter.2 ⟨hxb, by simpa using hx⟩
          rw [hm] at this
          cases this
        simpa using this
      have hc : chB l b = b.headD 0 := by unfold chB; rw [hm]; rfl
      unfold extS
      rw [List.filter_cons_of_pos hu, List.map_cons, hc]
      rw [hll] at ih
      rw [hll]
      exact (List.Perm.cons _ ih).trans List.perm_middle.symm
    | cons x t =>
      have hu : ¬ unmet l b = true := by unfold unmet; rw [hm]; simp
      have hx : x ∈ metB l b := by rw [hm]; exact List.mem_cons_self
      obtain ⟨hxb, hxl⟩ := List.mem_filter.1 hx
      have hxl : x ∈ l := by simpa using hxl
      have hc : chB l b = x := by unfold chB; rw [hm]; rfl
      have he : l.erase x = l' := by
        rw [hn.erase_eq_filter, hl']
        refine List.filter_congr (fun y hy => ?_)
        by_cases hyb : y ∈ b
        · have := ho b List.mem_cons_self y x hyb hxb hy hxl
          subst this
          simp [hyb]
        · have : y ≠ x := fun e => hyb (e ▸ hxb)
          simp [hyb, this]
      have hp := List.perm_cons_erase hxl
      rw [he] at hp
      unfold extS at ih ⊢
      rw [List.filter_cons_of_neg hu, hc, e2]
      exact (List.Perm.cons _ ih).trans ((List.Perm.append_right _ hp.symm))
/-- What ExtendToRepair answers. -/
def extL (d : Dbs) (l : List Int) : List Int := if partialR d l then extP (blocksL d) l else []
theorem part_in {d : Dbs} {l : List Int} (h : partialR d l = true) : (∀ x, x ∈ l → x ∈ (blocksL d).flatten) ∧ l.Pairwise (· < ·) ∧ (∀ b, b ∈ blocksL d → ∀ x y, x ∈ b → y ∈ b → x ∈ l → y ∈ l → x = y) := by
  have hap := sel_apart h
  have hs := h
  unfold partialR selOk at hs
  simp only [Bool.and_eq_true] at hs
  obtain ⟨⟨hv, hset⟩, _⟩ := hs
  have hin := setIx_in hset
  have hC := conv_db hv
  have hbe : blocksL d = (blksI (keyR d) d.facts.length).map ints := by unfold blocksL; rw [if_pos hv]
  refine ⟨fun x hx => ?_, setIx_pw hset, fun b hb x y hx hy hxl hyl => ?_⟩
  · have h1 := hin x hx
    have h2 : x.toNat ∈ (blksI (keyR d) d.facts.length).flatten := by rw [blksI_flatten]; exact List.mem_range.2 (by omega)
    obtain ⟨c, hc, hxc⟩ := List.mem_flatten.1 h2
    rw [hbe]
    refine List.mem_flatten.2 ⟨ints c, List.mem_map.2 ⟨c, hc, rfl⟩, ?_⟩
    unfold ints
    exact List.mem_map.2 ⟨x.toNat, hxc, by omega⟩
  · rw [hbe] at hb
    obtain ⟨c, hc, rfl⟩ := List.mem_map.1 hb
    unfold ints at hx hy
    obtain ⟨p, hp, rfl⟩ := List.mem_map.1 hx
    obtain ⟨q, hq, rfl⟩ := List.mem_map.1 hy
    have hbs : c ∈ blksS (keyR d) d.facts.length := by rw [← blks_eq hC _ (Nat.le_refl _)]; exact hc
    obtain ⟨_, h4⟩ := blk_of_mem hC (Nat.le_refl _) hbs hp
    rw [← h4] at hq
    have hR := (List.mem_filter.1 hq).2
    obtain ⟨i, hi, ei⟩ := List.getElem_of_mem hxl
    obtain ⟨k, hk, ek⟩ := List.getElem_of_mem hyl
    have := hap i k hi hk (by rw [ei, ek]; exact hR)
    rw [ei, ek] at this
    exact this
theorem ext_sort {d : Dbs} {l : List Int} (h : partialR d l = true) : sortI (extS (blocksL d) l) = extP (blocksL d) l := by
  obtain ⟨h1, h2, h3⟩ := part_in h
  refine sortI_eq (ext_perm _ _ (blocks_pw d) (h2.imp (fun q => by omega)) h1 h3) ?_
  exact (extP_pw (fun b hb => (blocks_pos b hb).1) (blocks_pw d)).imp (fun q => by omega)
theorem extL_len (d : Dbs) (l : List Int) : (extL d l).length ≤ 14 := by
  unfold extL
  split
  · unfold extP
    rw [List.length_map]
    exact blocksL_len d
  · exact Nat.zero_le _
theorem extL_good (d : Dbs) (l : List Int) : (eSlice eInt).good (extL d l) := by
  refine ⟨Nat.le_trans (extL_len d l) (by decide), fun x hx => ?_⟩
  unfold extL at hx
  split at hx
  · unfold extP at hx
    obtain ⟨b, hb, rfl⟩ := List.mem_map.1 hx
    exact (blocksL_small d).2 b hb _ (chB_mem (blocks_pos b hb).1)
  · cases hx
end Go.Proofs.YtgipcnofonejcaaDoor.Ab


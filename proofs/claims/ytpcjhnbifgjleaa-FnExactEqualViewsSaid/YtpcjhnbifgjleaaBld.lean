/- Slices of slices that are being built: each finished element with memory of its own. -/
import Derived.Test.YtpcjhnbifgjleaaApp
import Derived.Test.YtpcjhnbifgjleaaTyTre
import Derived.Test.YtpcjhnbifgjleaaBlkOne
namespace Go.Proofs.Ytpcjhnbifgjleaa
open Go.RowKit
set_option linter.unusedVariables false
set_option maxRecDepth 100000

/-- The list l stands in the slice v of the call's own: its row and what lies behind it lies between w0 and H. -/
def Bld (w0 H : Nat) (w : World) (v : Value) (l : List (List Int)) (F : List Nat) (css : List (List Value)) : Prop :=
  ownL (cSlice cInt) F w l css ∧ w.ownsRow w0 27 1 v l.length css.flatten ∧ (∀ k, k ∈ F → w0 ≤ k ∧ k < H ∧ v.ownBlock ≠ some k) ∧ (∀ g, v.ownBlock = some g → g < H) ∧ H ≤ w.heap.size
theorem ownsRow_at {base C : Nat} {w w' : World} {e : TypeId} {sz : Nat} {v : Value} {n : Nat} {xs : List Value} (h : w.ownsRow base e sz v n xs) (hv : ∀ g, v.ownBlock = some g → w'.heap[g]? = w.heap[g]?) : w'.ownsRow base e sz v n xs := by
  refine ⟨h.1, ?_⟩
  rcases h.2 with h0 | ⟨g, cap, cur, rfl, hb, hg, hrest⟩
  · exact .inl h0
  · exact .inr ⟨g, cap, cur, rfl, hb, (hv g rfl).trans hg, hrest⟩
theorem Bld.below {w0 H C : Nat} {w w' : World} {v : Value} {l : List (List Int)} {F : List Nat} {css : List (List Value)} (h : Bld w0 H w v l F css) (hb : Below C w w') (hC : H ≤ C) (hs : w.heap.size ≤ w'.heap.size) : Bld w0 H w' v l F css := by
  obtain ⟨h1, h2, h3, h4, h5⟩ := h
  exact ⟨ownL_keep h1 (fun k hk => hb.block k (by have := (h3 k hk).2.1; omega)), ownsRow_at (C := C) h2 (fun g hg => hb.block g (by have := h4 g hg; omega)), h3, h4, by omega⟩
theorem Bld.next {w0 H : Nat} {w w' : World} {v : Value} {l : List (List Int)} {F : List Nat} {css : List (List Value)} (h : Bld w0 H w v l F css) (hb : Below w.heap.size w w') : Bld w0 H w' v l F css := h.below hb h.2.2.2.2 hb.size
theorem Bld.wide {w0 H H' : Nat} {w : World} {v : Value} {l : List (List Int)} {F : List Nat} {css : List (List Value)} (h : Bld w0 H w v l F css) (h1 : H ≤ H') (h2 : H' ≤ w.heap.size) : Bld w0 H' w v l F css := by
  obtain ⟨a, b, c, d, e⟩ := h
  exact ⟨a, b, fun k hk => ⟨(c k hk).1, by have := (c k hk).2.1; omega, (c k hk).2.2⟩, fun g hg => by have := d g hg; omega, h2⟩
theorem Bld.form {w0 H : Nat} {w : World} {v : Value} {l : List (List Int)} {F : List Nat} {css : List (List Value)} (h : Bld w0 H w v l F css) (hm : l.length ≤ maxLen) : ∃ a cap, v = .slice a l.length cap ∧ Own (cSlice (cSlice cInt)) w0 w l [.slice a l.length cap] := by
  obtain ⟨h1, h2, h3, h4, h5⟩ := h
  have hr := h2
  rcases h2.2 with ⟨rfl, h0⟩ | ⟨g, cap, cur, rfl, hb, hg, _⟩
  · obtain rfl := List.eq_nil_of_length_eq_zero h0
    exact ⟨none, 0, rfl, Own.nil _ _⟩
  · refine ⟨_, _, rfl, Own.slice (c := cSlice cInt) h1 hr (fun k hk => ⟨(h3 k hk).1, by have := (h3 k hk).2.1; omega, fun e => (h3 k hk).2.2 (by rw [e]; rfl)⟩) hm⟩
/-- An element more. -/
theorem Bld.push {w0 H : Nat} {W w' : World} {v v' : Value} {l : List (List Int)} {F G : List Nat} {css : List (List Value)} {b : List Int} {bv : Value} (h : Bld w0 H W v l F css) (hb : (cSlice cInt).own G W b [bv]) (hG : ∀ k, k ∈ G → H ≤ k ∧ k < W.heap.size) (h0 : w0 ≤ H)
    (hown : w'.ownsRow w0 27 1 v' (l.length + 1) (css.flatten ++ [bv])) (hg : W.grownBy w' v.ownBlock) (hat : v'.ownBlock = v.ownBlock ∨ v'.ownBlock = some W.heap.size) : Bld w0 w'.heap.size w' v' (l ++ [b]) (F ++ G) (css ++ [[bv]]) := by
  obtain ⟨h1, h2, h3, h4, h5⟩ := h
  have hlt : ∀ k, k ∈ F ++ G → w0 ≤ k ∧ k < W.heap.size ∧ some k ≠ v.ownBlock := by
    intro k hk
    rcases List.mem_append.1 hk with hk | hk
    · exact ⟨(h3 k hk).1, by have := (h3 k hk).2.1; omega, fun e => (h3 k hk).2.2 e.symm⟩
    · have := hG k hk
      exact ⟨by omega, this.2, fun e => by have := h4 k e.symm; omega⟩
  have hs := hg.size
  refine ⟨ownL_keep (ownL_snoc hb h1 (fun k hk hk2 => by have := (h3 k hk).2.1; have := (hG k hk2).1; omega)) (fun k hk => hg.block k (hlt k hk).2.1 (hlt k hk).2.2), ?_, fun k hk => ⟨(hlt k hk).1, by have := (hlt k hk).2.1; omega, ?_⟩, fun g hg2 => ?_, Nat.le_refl _⟩
  · rw [List.length_append, List.length_singleton, List.flatten_append]
    simpa using hown
  · rcases hat with e | e
    · rw [e]; exact fun e2 => (hlt k hk).2.2 e2.symm
    · rw [e]; intro e2; injection e2 with e2; have := (hlt k hk).2.1; omega
  · rcases hat with e | e
    · rw [e] at hg2; have := h4 g hg2; omega
    · exact (hown.lt g hg2).2
/-- The first number of a block is its place just where no smaller one stands with it. -/
theorem blk_head {R : Nat → Nat → Bool} {N n i : Nat} (h : Conv R N) (hn : n ≤ N) (hi : i < n) : ∃ q t, blk R n i = q :: t ∧ decide (q = i) = isFst R i := by
  have hr : List.range n = List.range i ++ (List.range (n - i)).map (i + ·) := by
    rw [← List.range_add]; congr 1; omega
  have hsp : (List.range (n - i)).map (i + ·) = i :: ((List.range (n - i - 1)).map (i + 1 + ·)) := by
    obtain ⟨m, hm⟩ : ∃ m, n - i = m + 1 := ⟨n - i - 1, by omega⟩
    rw [hm, List.range_succ_eq_map, List.map_cons, List.map_map]
    simp only [Nat.add_zero, Nat.add_sub_cancel]
    congr 1
    apply List.map_congr_left
    intro a _
    simp; omega
  unfold blk
  rw [hr, List.filter_append, hsp]
  cases hf : (List.range i).filter (R i) with
  | nil =>
    refine ⟨i, ((List.range (n - i - 1)).map (i + 1 + ·)).filter (R i), ?_, ?_⟩
    · rw [List.nil_append, List.filter_cons, if_pos (h.refl i (by omega))]
    · rw [decide_eq_true rfl]
      symm
      unfold isFst
      rw [List.all_eq_true]
      intro k hk
      have := List.filter_eq_nil_iff.1 hf k hk
      simpa using this
  | cons q t =>
    refine ⟨q, _, rfl, ?_⟩
    have hq : q ∈ (List.range i).filter (R i) := by rw [hf]; simp
    obtain ⟨h1, h2⟩ := List.mem_filter.1 hq
    have h1 := List.mem_range.1 h1
    rw [decide_eq_false (by omega)]
    symm
    unfold isFst
    rw [List.all_eq_false]
    exact ⟨q, List.mem_range.2 h1, by rw [h2]; simp⟩
end Go.Proofs.Ytpcjhnbifgjleaa


/- BlockOne: Block1 Block2 Lst Block3. -/
import Derived.Test.YtpcjhnbifgjleaaBlkOne
import Derived.Test.YtpcjhnbifgjleaaKey2
import Derived.Test.YtpcjhnbifgjleaaBld
/- Chapter 5: the model's BlockOf. -/
namespace Go.Proofs.Ytpcjhnbifgjleaa
open Go.RowKit
set_option linter.unusedVariables false
set_option maxRecDepth 100000

theorem srcs_one (w : World) (v : Value) (e : TypeId) (h : v.oneCell' = true) : Srcs (w.alloc (.cells #[v] e)) 1 (some ⟨w.heap.size, 0, none⟩) 1 [v] :=
  ⟨rfl, fun u hu => by simp at hu; subst hu; exact h, .inr ⟨_, rfl, one_at w v e⟩⟩
theorem own_form {w : World} {base : Nat} {e : TypeId} {v : Value} {n : Nat} {xs : List Value} (h : w.ownsRow base e 1 v n xs) : ∃ a cap, v = .slice a n cap := by
  rcases h.2 with ⟨rfl, h0⟩ | ⟨g, cp, cur, rfl, _⟩
  · exact ⟨none, 0, by rw [h0]⟩
  · exact ⟨_, _, rfl⟩
/-- A row grown by one number. -/
theorem own_push {w w' : World} {base : Nat} {e : TypeId} {v' : Value} {n : Nat} {l : List Int} {x : Int} (h : w'.ownsRow base e 1 v' (n + 1) (l.map iv ++ [.int .i64 x])) : w'.ownsRow base e 1 v' (l ++ [x]).length ((l ++ [x]).map iv) := by
  have hn := h.1
  simp at hn
  rw [List.map_append, List.length_append, List.length_singleton]
  subst hn
  exact h
theorem ints_snoc (l : List Nat) (n : Nat) : ints (l ++ [n]) = ints l ++ [(n : Int)] := by unfold ints; simp
/-- What stands of the block behind k rounds. -/
def blkPart (d : Dbs) (i k : Nat) : List Int := ints ((List.range k).filter (keyR d i))
theorem blkPart_succ (d : Dbs) (i k : Nat) : blkPart d i (k + 1) = if keyR d i k then blkPart d i k ++ [(k : Int)] else blkPart d i k := by
  unfold blkPart
  rw [List.range_succ, List.filter_append]
  cases h : keyR d i k
  · simp [h]
  · simp [h, ints]
theorem blkPart_len (d : Dbs) (i k : Nat) : (blkPart d i k).length ≤ k := by
  unfold blkPart ints
  rw [List.length_map]
  exact Nat.le_trans (List.length_filter_le _ _) (by simp)
theorem blkPart_inR (d : Dbs) (i k : Nat) (hk : k ≤ 14) : ∀ x, x ∈ blkPart d i k → inR x :=
  ints_inR fun x hx => by
    have := List.mem_range.1 (List.mem_filter.1 hx).1
    omega

end Go.Proofs.Ytpcjhnbifgjleaa
namespace Go.Proofs.Ytpcjhnbifgjleaa
open Go.RowKit
set_option linter.unusedVariables false
set_option maxRecDepth 100000
/-- What stands of the blocks behind k rounds. -/
def blksPart (d : Dbs) (k : Nat) : List (List Int) := ((List.range k).filter (isFst (keyR d))).map fun i => ints (blk (keyR d) d.facts.length i)
theorem blksPart_succ (d : Dbs) (k : Nat) : blksPart d (k + 1) = if isFst (keyR d) k then blksPart d k ++ [ints (blk (keyR d) d.facts.length k)] else blksPart d k := by
  unfold blksPart
  rw [List.range_succ, List.filter_append, List.map_append]
  cases h : isFst (keyR d) k <;> simp [h]
theorem blksPart_len (d : Dbs) (k : Nat) : (blksPart d k).length ≤ k := by
  unfold blksPart
  rw [List.length_map]
  exact Nat.le_trans (List.length_filter_le _ _) (by simp)
theorem blksPart_all {d : Dbs} (h : validDb d = true) : blksPart d d.facts.length = blocksL d := by
  unfold blocksL
  rw [if_pos h, blks_eq (conv_db h) _ (Nat.le_refl _)]
  unfold blksPart blksS fsts
  rw [List.map_map]; rfl

end Go.Proofs.Ytpcjhnbifgjleaa
namespace Go.Proofs.Ytpcjhnbifgjleaa
open Go.RowKit
set_option linter.unusedVariables false
set_option maxRecDepth 100000
/-- A slice of the call's own: finished slices, and a last one that still grows. -/
def Lst (w0 : Nat) (w : World) (gv cv : Nat) (P : List (List Int)) (q : List Int) (gh ch : Nat) (F : List Nat) (css : List (List Value)) : Prop :=
  ownL (cSlice cInt) F w P css ∧ w.ownsRow w0 27 1 (.slice (some ⟨gv, 0, none⟩) (P.length + 1) cv) (P.length + 1) (css.flatten ++ [.slice (some ⟨gh, 0, none⟩) q.length ch]) ∧
    w.ownsRow w0 3 1 (.slice (some ⟨gh, 0, none⟩) q.length ch) q.length (q.map iv) ∧ (∀ k, k ∈ F → w0 ≤ k ∧ k < w.heap.size ∧ k ≠ gv ∧ k ≠ gh) ∧ gv ≠ gh
theorem own_at {w : World} {base g : Nat} {e : TypeId} {n cap : Nat} {l : List Int} (h : w.ownsRow base e 1 (.slice (some ⟨g, 0, none⟩) n cap) n (l.map iv)) (hr : ∀ x, x ∈ l → inR x) (hm : l.length ≤ maxLen) : (cSlice cInt).own [g] w l [.slice (some ⟨g, 0, none⟩) n cap] := by
  have hn : l.length = n := by simpa using h.1
  subst hn
  exact slice_of_ownL (c := cInt) (F := []) (css := l.map fun x => [iv x]) (ownL_flat (c := cInt) (fun x => [iv x]) w l (fun x hx => ⟨⟨rfl, hr x hx⟩, rfl⟩)) (by rw [flat_ints]; exact h) (by simp) hm
theorem row_one (w : World) (base : Nat) (e : TypeId) (v : Value) (h : base ≤ w.heap.size) : (w.alloc (.cells #[v] e)).ownsRow base e 1 (.slice (some ⟨w.heap.size, 0, none⟩) 1 1) 1 [v] :=
  ⟨rfl, .inr ⟨w.heap.size, 1, #[v], rfl, h, heap_alloc_new w _, by simp, by simp [maxLen], by simp, by simp⟩⟩
theorem own_some {w : World} {base : Nat} {e : TypeId} {v : Value} {n : Nat} {xs : List Value} (h : w.ownsRow base e 1 v (n + 1) xs) : ∃ g cap, v = .slice (some ⟨g, 0, none⟩) (n + 1) cap := by
  rcases h.2 with ⟨_, h0⟩ | ⟨g, cp, cur, rfl, _⟩
  · omega
  · exact ⟨_, _, rfl⟩
theorem Lst.keep {w0 : Nat} {w w' : World} {gv cv gh ch : Nat} {P : List (List Int)} {q : List Int} {F : List Nat} {css : List (List Value)} (h : Lst w0 w gv cv P q gh ch F css) (hb : ∀ k, k < w.heap.size → w'.heap[k]? = w.heap[k]?) (hs : w.heap.size ≤ w'.heap.size) : Lst w0 w' gv cv P q gh ch F css := by
  obtain ⟨h1, h2, h3, h4, h5⟩ := h
  exact ⟨ownL_keep h1 (fun k hk => hb k (h4 k hk).2.1), ownsRow_at (C := 0) h2 (fun g hg => hb g (h2.lt g hg).2), ownsRow_at (C := 0) h3 (fun g hg => hb g (h3.lt g hg).2), fun k hk => ⟨(h4 k hk).1, by have := (h4 k hk).2.1; omega, (h4 k hk).2.2⟩, h5⟩
theorem Lst.next {w0 : Nat} {w w' : World} {gv cv gh ch : Nat} {P : List (List Int)} {q : List Int} {F : List Nat} {css : List (List Value)} (h : Lst w0 w gv cv P q gh ch F css) (hb : Below w.heap.size w w') : Lst w0 w' gv cv P q gh ch F css := h.keep (fun k hk => hb.block k hk) hb.size
theorem Lst.flat {w0 : Nat} {w : World} {gv cv gh ch : Nat} {P : List (List Int)} {q : List Int} {F : List Nat} {css : List (List Value)} (h : Lst w0 w gv cv P q gh ch F css) : css.flatten.length = P.length := by
  have := (ownL_len h.1).2
  simpa [cSlice] using this
/-- The header of the last one. -/
theorem Lst.head {w0 : Nat} {w : World} {gv cv gh ch : Nat} {P : List (List Int)} {q : List Int} {F : List Nat} {css : List (List Value)} (h : Lst w0 w gv cv P q gh ch F css) : w.cell? ⟨gv, P.length, none⟩ = some (.slice (some ⟨gh, 0, none⟩) q.length ch) ∧ w.frozen? ⟨gv, P.length, none⟩ = false := by
  have hf := h.flat
  refine ⟨(h.2.1.cellAt P.length (by omega)).trans ?_, h.2.1.frozenAt _⟩
  rw [List.getElem?_append_right (by omega), hf, Nat.sub_self]; rfl
theorem Lst.own {w0 : Nat} {w : World} {gv cv gh ch : Nat} {P : List (List Int)} {q : List Int} {F : List Nat} {css : List (List Value)} (h : Lst w0 w gv cv P q gh ch F css) (hr : ∀ x, x ∈ q → inR x) (hq : q.length ≤ maxLen) (hP : P.length + 1 ≤ maxLen) : Own (cSlice (cSlice cInt)) w0 w (P ++ [q]) [.slice (some ⟨gv, 0, none⟩) (P ++ [q]).length cv] := by
  obtain ⟨h1, h2, h3, h4, h5⟩ := h
  have hg := (h3.lt gh rfl)
  have hl : (P ++ [q]).length = P.length + 1 := by simp
  refine Own.slice (c := cSlice cInt) (F := F ++ [gh]) (css := css ++ [[.slice (some ⟨gh, 0, none⟩) q.length ch]]) (base := w0) (e := 27) (ownL_snoc (own_at h3 hr hq) h1 (fun k hk => by simp; exact (h4 k hk).2.2.2)) ?_ (fun k hk => ?_) (by omega)
  · rw [hl, List.flatten_append]
    simpa [cSlice] using h2
  · rcases List.mem_append.1 hk with hk | hk
    · exact ⟨(h4 k hk).1, (h4 k hk).2.1, (h4 k hk).2.2.1⟩
    · simp at hk
      subst hk
      exact ⟨hg.1, hg.2, fun e => h5 e.symm⟩
/-- The last one has grown by a number, and its header is written. -/
theorem Lst.grow {w0 : Nat} {W w3 : World} {gv cv gh ch : Nat} {P : List (List Int)} {q : List Int} {F : List Nat} {css : List (List Value)} {v' : Value} {x : Int} (h : Lst w0 W gv cv P q gh ch F css) (h0 : w0 ≤ W.heap.size)
    (hown : w3.ownsRow w0 3 1 v' (q.length + 1) (q.map iv ++ [.int .i64 x])) (hg : W.grownBy w3 (some gh)) (hat : v'.ownBlock = some gh ∨ v'.ownBlock = some W.heap.size) :
    w3.cell? ⟨gv, P.length, none⟩ = some (.slice (some ⟨gh, 0, none⟩) q.length ch) ∧ w3.frozen? ⟨gv, P.length, none⟩ = false ∧ ∃ gh' ch', v' = .slice (some ⟨gh', 0, none⟩) (q.length + 1) ch' ∧ Lst w0 (w3.setCell ⟨gv, P.length, none⟩ v') gv cv P (q ++ [x]) gh' ch' F css := by
  have hd := h.head
  have hfl := h.flat
  obtain ⟨h1, h2, h3, h4, h5⟩ := h
  have hv := h2.lt gv rfl
  have hh := h3.lt gh rfl
  have hs := hg.size
  have hkeep : ∀ k, k < W.heap.size → k ≠ gh → w3.heap[k]? = W.heap[k]? := fun k hk hne => hg.block k hk (fun e => hne (by injection e))
  have hvv := hkeep gv hv.2 h5
  refine ⟨(World.cell?_of_block hvv).trans hd.1, (World.frozen?_of_block hvv).trans hd.2, ?_⟩
  obtain ⟨gh', ch', rfl⟩ := own_some hown
  have hat' : gh' = gh ∨ gh' = W.heap.size := by
    rcases hat with e | e
    · left; simpa [Value.ownBlock] using e
    · right; simpa [Value.ownBlock] using e
  have hne : gv ≠ gh' := by rcases hat' with rfl | rfl <;> omega
  have hset : ∀ k, k ≠ gv → (w3.setCell ⟨gv, P.length, none⟩ (.slice (some ⟨gh', 0, none⟩) (q.length + 1) ch')).heap[k]? = w3.heap[k]? := fun k hk => Below.heap_setCell _ _ _ _ hk
  have hsz : (w3.setCell ⟨gv, P.length, none⟩ (.slice (some ⟨gh', 0, none⟩) (q.length + 1) ch')).heap.size = w3.heap.size := by simp [World.setCell]
  refine ⟨gh', ch', rfl, ownL_keep h1 (fun k hk => (hset k (h4 k hk).2.2.1).trans (hkeep k (h4 k hk).2.1 (h4 k hk).2.2.2)), ?_, ?_, fun k hk => ⟨(h4 k hk).1, by rw [hsz]; have := (h4 k hk).2.1; omega, (h4 k hk).2.2.1, ?_⟩, hne⟩
  · have h6 := (ownsRow_at (C := 0) h2 (fun g hg2 => by have : g = gv := by simpa [Value.ownBlock] using hg2.symm
                                                        subst this; exact hvv)).stored P.length (.slice (some ⟨gh', 0, none⟩) (q.length + 1) ch')
    have h7 := h6.1
    rw [List.set_append_right _ _ (by omega), hfl, Nat.sub_self, List.set_cons_zero] at h7
    simpa using h7
  · have h8 := own_push (w := w3) hown
    rw [List.length_append, List.length_singleton] at h8 ⊢
    exact ownsRow_at (C := 0) h8 (fun g hg2 => hset g (fun e => hne (by have : g = gh' := by simpa [Value.ownBlock] using hg2.symm
                                                                        omega)))
  · rcases hat' with rfl | rfl
    · exact (h4 k hk).2.2.2
    · have := (h4 k hk).2.1; omega
/-- A first slice, of one number. -/
theorem Lst.first {w0 : Nat} {W w3 : World} {x : Int} {v' : Value} {g : Nat} (hrow : W.ownsRow w0 3 1 (.slice (some ⟨g, 0, none⟩) 1 1) 1 [.int .i64 x]) (hown : w3.ownsRow w0 27 1 v' 1 [.slice (some ⟨g, 0, none⟩) 1 1]) (hg : W.grownBy w3 none) (hat : v'.ownBlock = none ∨ v'.ownBlock = some W.heap.size) :
    ∃ gv cv, v' = .slice (some ⟨gv, 0, none⟩) 1 cv ∧ Lst w0 w3 gv cv [] [x] g 1 [] [] := by
  obtain ⟨gv, cv, rfl⟩ := own_some (n := 0) hown
  have hh := hrow.lt g rfl
  have hv : gv = W.heap.size := by
    rcases hat with e | e
    · simp [Value.ownBlock] at e
    · simpa [Value.ownBlock] using e
  exact ⟨gv, cv, rfl, rfl, hown, ownsRow_at (C := 0) hrow (fun q hq => by have : q = g := by simpa [Value.ownBlock] using hq.symm
                                                                          subst this; exact hg.block _ hh.2 (by simp)), by simp, by omega⟩
/-- One slice more, of one number. -/
theorem Lst.more {w0 : Nat} {W w3 : World} {gv cv gh ch : Nat} {P : List (List Int)} {q : List Int} {F : List Nat} {css : List (List Value)} {x : Int} {v' : Value} {g : Nat} (h : Lst w0 W gv cv P q gh ch F css) (hr : ∀ x, x ∈ q → inR x) (hq : q.length ≤ maxLen)
    (hrow : W.ownsRow w0 3 1 (.slice (some ⟨g, 0, none⟩) 1 1) 1 [.int .i64 x]) (hgn : g ≠ gv ∧ g ≠ gh ∧ ∀ k, k ∈ F → k ≠ g) (hown : w3.ownsRow w0 27 1 v' (P.length + 1 + 1) ((css.flatten ++ [.slice (some ⟨gh, 0, none⟩) q.length ch]) ++ [.slice (some ⟨g, 0, none⟩) 1 1]))
    (hg : W.grownBy w3 (some gv)) (hat : v'.ownBlock = some gv ∨ v'.ownBlock = some W.heap.size) :
    ∃ gv' cv', v' = .slice (some ⟨gv', 0, none⟩) (P.length + 1 + 1) cv' ∧ Lst w0 w3 gv' cv' (P ++ [q]) [x] g 1 (F ++ [gh]) (css ++ [[.slice (some ⟨gh, 0, none⟩) q.length ch]]) := by
  obtain ⟨h1, h2, h3, h4, h5⟩ := h
  obtain ⟨gv', cv', rfl⟩ := own_some hown
  have hh := h3.lt gh rfl
  have hv := h2.lt gv rfl
  have hx := hrow.lt g rfl
  have hs := hg.size
  have hat' : gv' = gv ∨ gv' = W.heap.size := by
    rcases hat with e | e
    · left; simpa [Value.ownBlock] using e
    · right; simpa [Value.ownBlock] using e
  have hkeep : ∀ k, k < W.heap.size → k ≠ gv → w3.heap[k]? = W.heap[k]? := fun k hk hne => hg.block k hk (fun e => hne (by injection e))
  refine ⟨gv', cv', rfl, ownL_keep (ownL_snoc (own_at h3 hr hq) h1 (fun k hk => by simp; exact (h4 k hk).2.2.2)) (fun k hk => ?_), ?_, ownsRow_at (C := 0) hrow (fun p hp => ?_), fun k hk => ?_, ?_⟩
  · rcases List.mem_append.1 hk with hk | hk
    · exact hkeep k (h4 k hk).2.1 (h4 k hk).2.2.1
    · simp at hk; subst hk; exact hkeep _ hh.2 (fun e => h5 e.symm)
  · rw [List.length_append, List.length_singleton, List.flatten_append]
    simpa using hown
  · have : p = g := by simpa [Value.ownBlock] using hp.symm
    subst this
    exact hkeep _ hx.2 hgn.1
  · rcases List.mem_append.1 hk with hk | hk
    · refine ⟨(h4 k hk).1, by have := (h4 k hk).2.1; omega, ?_, hgn.2.2 k hk⟩
      rcases hat' with rfl | rfl
      · exact (h4 k hk).2.2.1
      · have := (h4 k hk).2.1; omega
    · simp at hk
      subst hk
      refine ⟨hh.1, by omega, ?_, fun e => hgn.2.1 e.symm⟩
      rcases hat' with rfl | rfl
      · exact fun e => h5 e.symm
      · omega
  · rcases hat' with rfl | rfl
    · exact fun e => hgn.1 e.symm
    · omega
end Go.Proofs.Ytpcjhnbifgjleaa

/- Chapter 5: the program's Blocks. -/
namespace Go.Proofs.Ytpcjhnbifgjleaa
open Go.RowKit
set_option linter.unusedVariables false
set_option maxRecDepth 100000

/-- The program's blocks behind k rounds. -/
def bI (d : Dbs) (k : Nat) : List (List Int) := (blksI (keyR d) k).map ints
theorem bI_new (d : Dbs) (k : Nat) (h : joins (keyR d) k = false) : bI d (k + 1) = bI d k ++ [[(k : Int)]] := by
  unfold bI
  rw [blksI, h]
  simp [ints]
theorem bI_join (d : Dbs) (k : Nat) (h : joins (keyR d) k = true) (P : List (List Int)) (q : List Int) (e : bI d k = P ++ [q]) : bI d (k + 1) = P ++ [q ++ [(k : Int)]] := by
  have hj := h
  unfold joins at hj
  simp only [Bool.and_eq_true, decide_eq_true_eq] at hj
  obtain ⟨P0, f, hP⟩ : ∃ P f, blksI (keyR d) k = P ++ [f] := ⟨_, _, (List.dropLast_concat_getLast (blksI_ne hj.1)).symm⟩
  unfold bI at e ⊢
  rw [hP, List.map_append, List.map_cons, List.map_nil] at e
  obtain ⟨e1, e2⟩ := List.append_inj' e rfl
  simp at e2
  rw [blksI, h, hP]
  unfold addLast
  simp [e1, ints_snoc, e2]
theorem bI_len (d : Dbs) (k : Nat) : (bI d k).length ≤ k := by
  unfold bI
  rw [List.length_map]
  exact blksI_len k
theorem bI_ok (d : Dbs) (k : Nat) (hk : k ≤ 14) : ∀ q, q ∈ bI d k → q.length ≤ k ∧ ∀ x, x ∈ q → inR x := by
  intro q hq
  obtain ⟨b, hb, rfl⟩ := List.mem_map.1 hq
  have hlt : ∀ x, x ∈ b → x < k := fun x hx => blksI_lt hb hx
  refine ⟨?_, ints_inR fun x hx => by have := hlt x hx; omega⟩
  have h1 : b.length ≤ (blksI (keyR d) k).flatten.length := by
    rw [List.length_flatten]
    exact le_sum (List.mem_map.2 ⟨b, hb, rfl⟩)
  rw [blksI_flatten, List.length_range] at h1
  unfold ints
  rw [List.length_map]
  exact h1
theorem bI_zero (d : Dbs) : bI d 0 = [] := rfl
theorem bI_all {d : Dbs} (h : validDb d = true) : bI d d.facts.length = blocksL d := by
  unfold blocksL bI
  rw [if_pos h]
theorem Lst.wideTop {w0 : Nat} {w : World} {gv cv gh ch : Nat} {P : List (List Int)} {q : List Int} {F : List Nat} {css : List (List Value)} (h : Lst w0 w gv cv P q gh ch F css) : w0 ≤ gv ∧ gv < w.heap.size ∧ gh < w.heap.size ∧ ∀ k, k ∈ F → k < w.heap.size :=
  ⟨(h.2.1.lt gv rfl).1, (h.2.1.lt gv rfl).2, (h.2.2.1.lt gh rfl).2, fun k hk => (h.2.2.2.1 k hk).2.1⟩

end Go.Proofs.Ytpcjhnbifgjleaa

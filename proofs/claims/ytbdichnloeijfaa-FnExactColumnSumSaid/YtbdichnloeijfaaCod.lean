/- How data stand in memory: a reading for numbers, strings, bools, structs and slices, put together from small parts. -/
import Derived.Test.YtbdichnloeijfaaAid
import Derived.Lib.Hide
import Derived.StillTailTactics
import Derived.Below
import Derived.ProofKit
import Derived.Handy
namespace Go.Proofs.Ytbdichnloeijfaa
open Go.RowKit
set_option linter.unusedVariables false
set_option maxRecDepth 100000

/-- A reading: how a datum stands in a list of cells. 'ok B': all that lies behind it lies in blocks below B. 'own F': what lies behind it lies in the blocks F, each its own. -/
structure Cod (α : Type) where
  n : Nat
  ok : Nat → World → α → List Value → Prop
  own : List Nat → World → α → List Value → Prop
  len : ∀ {B w x cs}, ok B w x cs → cs.length = n
  keep : ∀ {B C w w' x cs}, ok B w x cs → (∀ k, k < B → w'.heap[k]? = w.heap[k]?) → B ≤ C → ok C w' x cs
  keepO : ∀ {F w w' x cs}, own F w x cs → (∀ k, k ∈ F → w'.heap[k]? = w.heap[k]?) → own F w' x cs
  ofO : ∀ {F B w x cs}, own F w x cs → (∀ k, k ∈ F → k < B) → ok B w x cs

/-- A number that fits 64 bits. -/
def inR (x : Int) : Prop := -9223372036854775808 ≤ x ∧ x ≤ 9223372036854775807
def cInt : Cod Int where
  n := 1
  ok _ _ x cs := cs = [.int .i64 x] ∧ inR x
  own F _ x cs := (cs = [.int .i64 x] ∧ inR x) ∧ F = []
  len h := by rw [h.1]; rfl
  keep h _ _ := h
  keepO h _ := h
  ofO h _ := h.1
def cBool : Cod Bool where
  n := 1
  ok _ _ x cs := cs = [.bool x]
  own F _ x cs := cs = [.bool x] ∧ F = []
  len h := by subst h; rfl
  keep h _ _ := h
  keepO h _ := h
  ofO h _ := h.1
def cStr : Cod ByteArray where
  n := 1
  ok _ _ x cs := cs = [.string x] ∧ x.size ≤ maxLen
  own F _ x cs := (cs = [.string x] ∧ x.size ≤ maxLen) ∧ F = []
  len h := by rw [h.1]; rfl
  keep h _ _ := h
  keepO h _ := h
  ofO h _ := h.1
/-- Two data side by side. -/
def cPair {α β : Type} (c : Cod α) (d : Cod β) : Cod (α × β) where
  n := c.n + d.n
  ok B w x cs := ∃ u v, cs = u ++ v ∧ c.ok B w x.1 u ∧ d.ok B w x.2 v
  own F w x cs := ∃ u v F1 F2, cs = u ++ v ∧ c.own F1 w x.1 u ∧ d.own F2 w x.2 v ∧ F = F1 ++ F2 ∧ (∀ k, k ∈ F1 → k ∉ F2)
  len := by rintro B w x cs ⟨u, v, rfl, h1, h2⟩; simp [c.len h1, d.len h2]
  keep := by rintro B C w w' x cs ⟨u, v, rfl, h1, h2⟩ hk hB; exact ⟨u, v, rfl, c.keep h1 hk hB, d.keep h2 hk hB⟩
  keepO := by
    rintro F w w' x cs ⟨u, v, F1, F2, rfl, h1, h2, rfl, hd⟩ hk
    exact ⟨u, v, F1, F2, rfl, c.keepO h1 (fun k hk1 => hk k (List.mem_append_left _ hk1)), d.keepO h2 (fun k hk1 => hk k (List.mem_append_right _ hk1)), rfl, hd⟩
  ofO := by
    rintro F B w x cs ⟨u, v, F1, F2, rfl, h1, h2, rfl, hd⟩ hB
    exact ⟨u, v, rfl, c.ofO h1 (fun k hk1 => hB k (List.mem_append_left _ hk1)), d.ofO h2 (fun k hk1 => hB k (List.mem_append_right _ hk1))⟩
/-- The same, of another type. -/
def cMap {α β : Type} (f : α → β) (c : Cod β) : Cod α where
  n := c.n
  ok B w x cs := c.ok B w (f x) cs
  own F w x cs := c.own F w (f x) cs
  len h := c.len h
  keep h := c.keep h
  keepO h := c.keepO h
  ofO h := c.ofO h
/-- A slice. -/
def cSlice {α : Type} (c : Cod α) : Cod (List α) where
  n := 1
  ok B w l cs := ∃ a cap, cs = [.slice a l.length cap] ∧ (l.length ≤ maxLen ∧ l.length ≤ cap) ∧ ∀ j (hj : j < l.length), ∃ b off es, a = some ⟨b, off, none⟩ ∧ b < B ∧ c.ok B w l[j] es ∧ ∀ i, i < c.n → w.cell? ⟨b, off + j * c.n + i, none⟩ = es[i]?
  own F w l cs := ∃ a cap, cs = [.slice a l.length cap] ∧ (l.length ≤ maxLen ∧ l.length ≤ cap) ∧ ((l = [] ∧ F = []) ∨ ∃ (g off : Nat) (G : Nat → List Nat), a = some ⟨g, off, none⟩ ∧ g ∈ F ∧ g < w.heap.size ∧ (∀ j, j < l.length → ∀ k, k ∈ G j → k ∈ F ∧ k ≠ g) ∧
    (∀ i j, i < l.length → j < l.length → i ≠ j → ∀ k, k ∈ G i → k ∉ G j) ∧ (∀ j, j < l.length * c.n → w.frozen? ⟨g, off + j, none⟩ = false) ∧
    ∀ j (hj : j < l.length), ∃ es, c.own (G j) w l[j] es ∧ ∀ i, i < c.n → w.cell? ⟨g, off + j * c.n + i, none⟩ = es[i]?)
  len := by rintro B w x cs ⟨a, cap, rfl, _⟩; rfl
  keep := by
    rintro B C w w' l cs ⟨a, cap, rfl, hm, h⟩ hk hB
    refine ⟨a, cap, rfl, hm, fun j hj => ?_⟩
    obtain ⟨b, off, es, rfl, hb, h1, h2⟩ := h j hj
    exact ⟨b, off, es, rfl, by omega, c.keep h1 hk hB, fun i hi => (World.cell?_of_block (hk b hb)).trans (h2 i hi)⟩
  keepO := by
    rintro F w w' l cs ⟨a, cap, rfl, hm, h⟩ hk
    refine ⟨a, cap, rfl, hm, ?_⟩
    rcases h with h | ⟨g, off, G, rfl, hg, hgs, hG, hGG, hf, he⟩
    · exact .inl h
    · refine .inr ⟨g, off, G, rfl, hg, ?_, hG, hGG, fun j hj => (World.frozen?_of_block (hk g hg)).trans (hf j hj), fun j hj => ?_⟩
      · have := hk g hg
        rw [Array.getElem?_eq_getElem hgs] at this
        exact (Array.getElem?_eq_some_iff.1 this).1
      · obtain ⟨es, h1, h2⟩ := he j hj
        exact ⟨es, c.keepO h1 (fun k hk1 => hk k (hG j hj k hk1).1), fun i hi => (World.cell?_of_block (hk g hg)).trans (h2 i hi)⟩
  ofO := by
    rintro F B w l cs ⟨a, cap, rfl, hm, h⟩ hB
    refine ⟨a, cap, rfl, hm, fun j hj => ?_⟩
    rcases h with ⟨rfl, _⟩ | ⟨g, off, G, rfl, hg, hgs, hG, hGG, hf, he⟩
    · simp at hj
    · obtain ⟨es, h1, h2⟩ := he j hj
      exact ⟨g, off, es, rfl, hB g hg, c.ofO h1 (fun k hk1 => hB k (hG j hj k hk1).1), h2⟩

/-- A datum stands in these cells, in this world. -/
def At {α : Type} (c : Cod α) (w : World) (x : α) (cs : List Value) : Prop := c.ok w.heap.size w x cs
theorem At.below {α : Type} {c : Cod α} {w w' : World} {x : α} {cs : List Value} {C : Nat} (h : At c w x cs) (hb : Below C w w') (hC : w.heap.size ≤ C) : At c w' x cs :=
  c.keep h (fun k hk => hb.block k (by omega)) hb.size
/-- The same, in a world that has only drawn. -/
theorem At.here {α : Type} {c : Cod α} {w W : World} {x : α} {cs : List Value} (h : At c w x cs) (hW : W.heap = w.heap := by rfl) : At c W x cs :=
  c.keep h (fun k hk => by rw [hW]) (by rw [hW]; exact Nat.le_refl _)
/-- The same, behind a call. -/
theorem At.next {α : Type} {c : Cod α} {w W w' : World} {x : α} {cs : List Value} (h : At c w x cs) (hb : Below W.heap.size W w') (hW : W.heap = w.heap := by rfl) : At c w' x cs :=
  At.below (At.here h hW) hb (Nat.le_refl _)
theorem Below.next {w0 w W w' : World} (h : Below w0.heap.size w0 w) (hb : Below W.heap.size W w') (hW : W.heap = w.heap ∧ W.os = w.os ∧ W.tape = w.tape ∧ W.output = w.output := by exact ⟨rfl, rfl, rfl, rfl⟩) : Below w0.heap.size w0 w' := by
  obtain ⟨h1, h2, h3, h4⟩ := hW
  have hB := h.size
  exact h.trans ⟨hb.os.trans h2, hb.tape.trans h3, hb.output.trans h4, by rw [← h1]; exact hb.size, fun k hk => by rw [← h1]; exact hb.block k (by rw [h1]; omega)⟩
theorem cell_next {w W w' : World} {p : Addr} {v : Value} (h : w.cell? p = some v) (hb : Below W.heap.size W w') (hW : W.heap = w.heap := by rfl) : w'.cell? p = some v :=
  (hb.cell (by rw [hW]; exact World.block_lt_of_cell? w _ h)).trans ((World.cell?_of_block (w := w) (by rw [hW])).trans h)
theorem dec_self {α : Type} [DecidableEq α] (x : α) : decide (x = x) = true := decide_eq_true rfl
/-- In blocks below B of the world w, seen in a later world. -/
theorem Cod.ok_below {α : Type} {c : Cod α} {w w' : World} {x : α} {cs : List Value} {B : Nat} (h : c.ok B w x cs) (hb : Below B w w') : c.ok B w' x cs :=
  c.keep h (fun k hk => hb.block k hk) (Nat.le_refl _)
/-- A datum of the call's own: in blocks from B on. -/
def Own {α : Type} (c : Cod α) (B : Nat) (w : World) (x : α) (cs : List Value) : Prop := ∃ F, c.own F w x cs ∧ ∀ k, k ∈ F → B ≤ k ∧ k < w.heap.size
theorem Own.at {α : Type} {c : Cod α} {B : Nat} {w : World} {x : α} {cs : List Value} (h : Own c B w x cs) : At c w x cs := by
  obtain ⟨F, h1, h2⟩ := h
  exact c.ofO h1 (fun k hk => (h2 k hk).2)
theorem Own.below {α : Type} {c : Cod α} {B C : Nat} {w w' : World} {x : α} {cs : List Value} (h : Own c B w x cs) (hb : Below C w w') (hC : w.heap.size ≤ C) : Own c B w' x cs := by
  obtain ⟨F, h1, h2⟩ := h
  exact ⟨F, c.keepO h1 (fun k hk => hb.block k (by have := (h2 k hk).2; omega)), fun k hk => ⟨(h2 k hk).1, by have := (h2 k hk).2; have := hb.size; omega⟩⟩
theorem Own.mono {α : Type} {c : Cod α} {B B' : Nat} {w : World} {x : α} {cs : List Value} (h : Own c B w x cs) (hB : B' ≤ B) : Own c B' w x cs := by
  obtain ⟨F, h1, h2⟩ := h
  exact ⟨F, h1, fun k hk => ⟨by have := (h2 k hk).1; omega, (h2 k hk).2⟩⟩

/-- A datum of the call's own, in blocks from lo to hi. -/
def OwnIn {α : Type} (c : Cod α) (lo hi : Nat) (w : World) (x : α) (cs : List Value) : Prop := ∃ F, c.own F w x cs ∧ ∀ k, k ∈ F → lo ≤ k ∧ k < hi
theorem OwnIn.below {α : Type} {c : Cod α} {lo hi C : Nat} {w w' : World} {x : α} {cs : List Value} (h : OwnIn c lo hi w x cs) (hb : Below C w w') (hC : hi ≤ C) : OwnIn c lo hi w' x cs := by
  obtain ⟨F, h1, h2⟩ := h
  exact ⟨F, c.keepO h1 (fun k hk => hb.block k (by have := (h2 k hk).2; omega)), h2⟩
theorem OwnIn.setCell {α : Type} {c : Cod α} {lo hi : Nat} {w : World} {x : α} {cs : List Value} (h : OwnIn c lo hi w x cs) {p : Addr} (hp : p.block < lo) (u : Value) : OwnIn c lo hi (w.setCell p u) x cs := by
  obtain ⟨F, h1, h2⟩ := h
  exact ⟨F, c.keepO h1 (fun k hk => Below.heap_setCell _ _ _ _ (by have := (h2 k hk).1; omega)), h2⟩
theorem OwnIn.own {α : Type} {c : Cod α} {lo hi : Nat} {w : World} {x : α} {cs : List Value} (h : OwnIn c lo hi w x cs) (hh : hi ≤ w.heap.size) : Own c lo w x cs := by
  obtain ⟨F, h1, h2⟩ := h
  exact ⟨F, h1, fun k hk => ⟨(h2 k hk).1, by have := (h2 k hk).2; omega⟩⟩
theorem Own.in {α : Type} {c : Cod α} {B : Nat} {w : World} {x : α} {cs : List Value} (h : Own c B w x cs) : OwnIn c B w.heap.size w x cs := h
theorem OwnIn.wide {α : Type} {c : Cod α} {lo hi lo' hi' : Nat} {w : World} {x : α} {cs : List Value} (h : OwnIn c lo hi w x cs) (h1 : lo' ≤ lo) (h2 : hi ≤ hi') : OwnIn c lo' hi' w x cs := by
  obtain ⟨F, h3, h4⟩ := h
  exact ⟨F, h3, fun k hk => ⟨by have := (h4 k hk).1; omega, by have := (h4 k hk).2; omega⟩⟩
theorem OwnIn.pair {α β : Type} {c : Cod α} {d : Cod β} {lo mid hi : Nat} {w : World} {x : α} {y : β} {u v : List Value} (h : OwnIn c lo mid w x u) (k : OwnIn d mid hi w y v) (h1 : lo ≤ mid) (h2 : mid ≤ hi) : OwnIn (cPair c d) lo hi w (x, y) (u ++ v) := by
  obtain ⟨F, h3, h4⟩ := h
  obtain ⟨G, h5, h6⟩ := k
  refine ⟨F ++ G, ⟨u, v, F, G, rfl, h3, h5, rfl, fun k hk hg => ?_⟩, fun k hk => ?_⟩
  · have := (h4 k hk).2; have := (h6 k hg).1; omega
  · rcases List.mem_append.1 hk with hk | hk
    · exact ⟨(h4 k hk).1, by have := (h4 k hk).2; omega⟩
    · exact ⟨by have := (h6 k hk).1; omega, (h6 k hk).2⟩
theorem OwnIn.int (lo hi : Nat) (w : World) {x : Int} (h : inR x) : OwnIn cInt lo hi w x [.int .i64 x] := ⟨[], ⟨⟨rfl, h⟩, rfl⟩, by simp⟩
theorem OwnIn.flat {α : Type} {c : Cod α} {lo : Nat} {w w' : World} {x : α} {cs : List Value} (h : OwnIn c lo lo w x cs) : Own c lo w' x cs := by
  obtain ⟨F, h1, h2⟩ := h
  exact ⟨F, c.keepO h1 (fun k hk => absurd (h2 k hk) (by omega)), fun k hk => absurd (h2 k hk) (by omega)⟩
theorem slice_open {α : Type} {c : Cod α} {B : Nat} {w : World} {l : List α} {cs : List Value} (h : (cSlice c).ok B w l cs) : ∃ a cap, cs = [.slice a l.length cap] ∧ (cSlice c).ok B w l [.slice a l.length cap] := by
  have h0 := h
  obtain ⟨a, cap, rfl, _⟩ := h
  exact ⟨a, cap, rfl, h0⟩
theorem slice_openO {α : Type} {c : Cod α} {F : List Nat} {w : World} {l : List α} {cs : List Value} (h : (cSlice c).own F w l cs) : ∃ a cap, cs = [.slice a l.length cap] ∧ (cSlice c).own F w l [.slice a l.length cap] := by
  have h0 := h
  obtain ⟨a, cap, rfl, _⟩ := h
  exact ⟨a, cap, rfl, h0⟩

/-- A slice of one-cell elements: the element's cell. -/
theorem slice_at {α : Type} {c : Cod α} {B : Nat} {w : World} {l : List α} {a : Option Addr} {len cap : Nat} (h : (cSlice c).ok B w l [.slice a len cap]) (j : Nat) (hj : j < l.length) :
    ∃ b off es, a = some ⟨b, off, none⟩ ∧ b < B ∧ c.ok B w l[j] es ∧ ∀ i, i < c.n → w.cell? ⟨b, off + j * c.n + i, none⟩ = es[i]? := by
  obtain ⟨a', cap', e, hm, h⟩ := h
  simp at e
  obtain ⟨rfl, rfl, rfl⟩ := e
  exact h j hj
theorem slice_len {α : Type} {c : Cod α} {B : Nat} {w : World} {l : List α} {a : Option Addr} {len cap : Nat} (h : (cSlice c).ok B w l [.slice a len cap]) : len = l.length ∧ l.length ≤ maxLen := by
  obtain ⟨a', cap', e, hm, h⟩ := h
  simp at e
  exact ⟨e.2.1, hm.1⟩
theorem slice_cap {α : Type} {c : Cod α} {B : Nat} {w : World} {l : List α} {a : Option Addr} {len cap : Nat} (h : (cSlice c).ok B w l [.slice a len cap]) : l.length ≤ cap := by
  obtain ⟨a', cap', e, hm, h⟩ := h
  simp at e
  obtain ⟨rfl, rfl, rfl⟩ := e
  exact hm.2
theorem own_slice_len {α : Type} {c : Cod α} {F : List Nat} {w : World} {l : List α} {a : Option Addr} {len cap : Nat} (h : (cSlice c).own F w l [.slice a len cap]) : l.length ≤ maxLen ∧ l.length ≤ cap := by
  obtain ⟨a', cap', e, hm, h⟩ := h
  simp at e
  obtain ⟨rfl, rfl, rfl⟩ := e
  exact hm
/-- A slice of numbers: element j. -/
theorem ints_at {B : Nat} {w : World} {l : List Int} {a : Option Addr} {len cap : Nat} (h : (cSlice cInt).ok B w l [.slice a len cap]) (j : Nat) (hj : j < l.length) :
    ∃ b off, a = some ⟨b, off, none⟩ ∧ b < B ∧ w.cell? ⟨b, off + j, none⟩ = some (.int .i64 l[j]) := by
  obtain ⟨b, off, es, rfl, hb, he, hc⟩ := slice_at h j hj
  obtain ⟨rfl, _⟩ := he
  exact ⟨b, off, rfl, hb, by simpa [cInt] using hc 0 (by decide)⟩
theorem ints_rng {B : Nat} {w : World} {l : List Int} {cs : List Value} (h : (cSlice cInt).ok B w l cs) : ∀ x, x ∈ l → inR x := by
  intro x hx
  obtain ⟨j, hj, rfl⟩ := List.getElem_of_mem hx
  obtain ⟨_, _, rfl, _, h⟩ := h
  obtain ⟨b, off, es, _, hb, he, hc⟩ := h j hj
  exact he.2
end Go.Proofs.Ytbdichnloeijfaa


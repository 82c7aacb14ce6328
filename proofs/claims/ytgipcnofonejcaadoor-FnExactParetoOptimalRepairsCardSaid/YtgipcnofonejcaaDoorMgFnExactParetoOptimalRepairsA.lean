/- Texts behind FnExactParetoOptimalRepairs, put together. -/
import Derived.WalkKit
import Derived.WalkSpells
import Derived.WalkLawsBesides
import Derived.Handy
import Derived.Lib.Hide
import Derived.StillTailTactics
import Derived.Below
import Derived.ProofKit
import Derived.Test.YtgipcnofonejcaaDoorRows
import Derived.BigQuiet
import Derived.Deep.QuietTactic
import Derived.Deep.RegionWith
import Derived.Lib.Strings
import Derived.ChangeShapes
import Derived.ChangeArms
import Derived.ChangeMaps5
import Derived.Deep.Slices
import Derived.Deep.Strs
import Derived.Lib.ItoaLen
import Derived.Deep.Cut
import Derived.OwnWalk
import Derived.LoopN
import Derived.Tactics
import Derived.Deep.MidRow
import Derived.Laws.Small
import Derived.Laws.CopyRow
import Derived.Great.BuildSlice
import Derived.Maps.AppendAt
import Derived.Still
import Derived.Test.YtgipcnofonejcaaDoorProg
import Derived.RegionTactic
import Derived.Shelf.Small.Strs
import Derived.Shelf.Small.Wraps
import Derived.Shelf.Slices.Equal
import Derived.Ground.Names2Prog
import Derived.Shelf.Slices.SearchI
import Derived.Shelf.Slices.Empties2
import Derived.BigRegion
import Derived.Lib.Bytealg
import Derived.Deep.RegionHeld3
import Derived.Lib.Small
import Derived.Lib.TrailingZeros
import Derived.Maps.OwnSet
import Derived.Maps.Views
import Derived.Maps.OwnOps
import Derived.LaidMore
import Derived.LaidLaws
import Derived.Lib.LaidTab
import Derived.Stop.LaidErr
import Derived.Shelf.Spec.TrailingZeros
import Derived.Test.YtgipcnofonejcaaDoorCards
import Derived.Test.YtgipcnofonejcaaDoorTie
import Derived.Stop.Joined
import Derived.SevenTiedAt
import Derived.OpenShut
import Derived.ShutString
import Derived.ChangeOld
section
/- CodOne: Aid Cod CodL. -/
/- Small aids, over any program: bytes of a slice as a string, facts on lists of bytes. -/
namespace Go.Proofs.YtgipcnofonejcaaDoor
open Go.RowKit
set_option linter.unusedVariables false

/-- A list of bytes as Go's string. -/
def str (l : List UInt8) : ByteArray := ⟨l.toArray⟩
/-- A byte as Go's value. -/
def byteV (u : UInt8) : Value := .int .u8 (u.toNat : Int)
section
variable {P : Program}
end

end Go.Proofs.YtgipcnofonejcaaDoor

/- How data stand in memory: a reading for numbers, strings, bools, structs and slices, put together from small parts. -/
namespace Go.Proofs.YtgipcnofonejcaaDoor
open Go.RowKit
set_option linter.unusedVariables false
set_option maxRecDepth 100000

/-- A reading: how a datum stands in a list of cells. 'ok B': all that lies behind it lies in blocks below B. 'own F': what lies behind it lies in the blocks F, each its own. -/
structure Cod (α : Type) where
  n : Nat
  ok : Nat → World → α → List Value → Prop
  own : List Nat → World → α → List Value → Prop
  len : ∀ {B w x cs}, ok B w x cs → cs.length = n
  keep : ∀ {B C w w' x cs}, ok B w x cs → (∀ k, k < B → w'.heap[k]? = w.heap[k]?) → B ≤ C → ok C w' x cs
  keepO : ∀ {F w w' x cs}, own F w x cs → (∀ k, k ∈ F → w'.heap[k]? = w.heap[k]?) → own F w' x cs
  ofO : ∀ {F B w x cs}, own F w x cs → (∀ k, k ∈ F → k < B) → ok B w x cs

/-- A number that fits 64 bits. -/
def inR (x : Int) : Prop := -9223372036854775808 ≤ x ∧ x ≤ 9223372036854775807
def cInt : Cod Int where
  n := 1
  ok _ _ x cs := cs = [.int .i64 x] ∧ inR x
  own F _ x cs := (cs = [.int .i64 x] ∧ inR x) ∧ F = []
  len h := by rw [h.1]; rfl
  keep h _ _ := h
  keepO h _ := h
  ofO h _ := h.1
def cBool : Cod Bool where
  n := 1
  ok _ _ x cs := cs = [.bool x]
  own F _ x cs := cs = [.bool x] ∧ F = []
  len h := by subst h; rfl
  keep h _ _ := h
  keepO h _ := h
  ofO h _ := h.1
def cStr : Cod ByteArray where
  n := 1
  ok _ _ x cs := cs = [.string x] ∧ x.size ≤ maxLen
  own F _ x cs := (cs = [.string x] ∧ x.size ≤ maxLen) ∧ F = []
  len h := by rw [h.1]; rfl
  keep h _ _ := h
  keepO h _ := h
  ofO h _ := h.1
/-- Two data side by side. -/
def cPair {α β : Type} (c : Cod α) (d : Cod β) : Cod (α × β) where
  n := c.n + d.n
  ok B w x cs := ∃ u v, cs = u ++ v ∧ c.ok B w x.1 u ∧ d.ok B w x.2 v
  own F w x cs := ∃ u v F1 F2, cs = u ++ v ∧ c.own F1 w x.1 u ∧ d.own F2 w x.2 v ∧ F = F1 ++ F2 ∧ (∀ k, k ∈ F1 → k ∉ F2)
  len := by rintro B w x cs ⟨u, v, rfl, h1, h2⟩; simp [c.len h1, d.len h2]
  keep := by rintro B C w w' x cs ⟨u, v, rfl, h1, h2⟩ hk hB; exact ⟨u, v, rfl, c.keep h1 hk hB, d.keep h2 hk hB⟩
  keepO := by
    rintro F w w' x cs ⟨u, v, F1, F2, rfl, h1, h2, rfl, hd⟩ hk
    exact ⟨u, v, F1, F2, rfl, c.keepO h1 (fun k hk1 => hk k (List.mem_append_left _ hk1)), d.keepO h2 (fun k hk1 => hk k (List.mem_append_right _ hk1)), rfl, hd⟩
  ofO := by
    rintro F B w x cs ⟨u, v, F1, F2, rfl, h1, h2, rfl, hd⟩ hB
    exact ⟨u, v, rfl, c.ofO h1 (fun k hk1 => hB k (List.mem_append_left _ hk1)), d.ofO h2 (fun k hk1 => hB k (List.mem_append_right _ hk1))⟩
/-- The same, of another type. -/
def cMap {α β : Type} (f : α → β) (c : Cod β) : Cod α where
  n := c.n
  ok B w x cs := c.ok B w (f x) cs
  own F w x cs := c.own F w (f x) cs
  len h := c.len h
  keep h := c.keep h
  keepO h := c.keepO h
  ofO h := c.ofO h
/-- A slice. -/
def cSlice {α : Type} (c : Cod α) : Cod (List α) where
  n := 1
  ok B w l cs := ∃ a cap, cs = [.slice a l.length cap] ∧ (l.length ≤ maxLen ∧ l.length ≤ cap) ∧ ∀ j (hj : j < l.length), ∃ b off es, a = some ⟨b, off, none⟩ ∧ b < B ∧ c.ok B w l[j] es ∧ ∀ i, i < c.n → w.cell? ⟨b, off + j * c.n + i, none⟩ = es[i]?
  own F w l cs := ∃ a cap, cs = [.slice a l.length cap] ∧ (l.length ≤ maxLen ∧ l.length ≤ cap) ∧ ((l = [] ∧ F = []) ∨ ∃ (g off : Nat) (G : Nat → List Nat), a = some ⟨g, off, none⟩ ∧ g ∈ F ∧ g < w.heap.size ∧ (∀ j, j < l.length → ∀ k, k ∈ G j → k ∈ F ∧ k ≠ g) ∧
    (∀ i j, i < l.length → j < l.length → i ≠ j → ∀ k, k ∈ G i → k ∉ G j) ∧ (∀ j, j < l.length * c.n → w.frozen? ⟨g, off + j, none⟩ = false) ∧
    ∀ j (hj : j < l.length), ∃ es, c.own (G j) w l[j] es ∧ ∀ i, i < c.n → w.cell? ⟨g, off + j * c.n + i, none⟩ = es[i]?)
  len := by rintro B w x cs ⟨a, cap, rfl, _⟩; rfl
  keep := by
    rintro B C w w' l cs ⟨a, cap, rfl, hm, h⟩ hk hB
    refine ⟨a, cap, rfl, hm, fun j hj => ?_⟩
    obtain ⟨b, off, es, rfl, hb, h1, h2⟩ := h j hj
    exact ⟨b, off, es, rfl, by omega, c.keep h1 hk hB, fun i hi => (World.cell?_of_block (hk b hb)).trans (h2 i hi)⟩
  keepO := by
    rintro F w w' l cs ⟨a, cap, rfl, hm, h⟩ hk
    refine ⟨a, cap, rfl, hm, ?_⟩
    rcases h with h | ⟨g, off, G, rfl, hg, hgs, hG, hGG, hf, he⟩
    · exact .inl h
    · refine .inr ⟨g, off, G, rfl, hg, ?_, hG, hGG, fun j hj => (World.frozen?_of_block (hk g hg)).trans (hf j hj), fun j hj => ?_⟩
      · have := hk g hg
        rw [Array.getElem?_eq_getElem hgs] at this
        exact (Array.getElem?_eq_some_iff.1 this).1
      · obtain ⟨es, h1, h2⟩ := he j hj
        exact ⟨es, c.keepO h1 (fun k hk1 => hk k (hG j hj k hk1).1), fun i hi => (World.cell?_of_block (hk g hg)).trans (h2 i hi)⟩
  ofO := by
    rintro F B w l cs ⟨a, cap, rfl, hm, h⟩ hB
    refine ⟨a, cap, rfl, hm, fun j hj => ?_⟩
    rcases h with ⟨rfl, _⟩ | ⟨g, off, G, rfl, hg, hgs, hG, hGG, hf, he⟩
    · simp at hj
    · obtain ⟨es, h1, h2⟩ := he j hj
      exact ⟨g, off, es, rfl, hB g hg, c.ofO h1 (fun k hk1 => hB k (hG j hj k hk1).1), h2⟩

/-- A datum stands in these cells, in this world. -/
def At {α : Type} (c : Cod α) (w : World) (x : α) (cs : List Value) : Prop := c.ok w.heap.size w x cs
theorem At.below {α : Type} {c : Cod α} {w w' : World} {x : α} {cs : List Value} {C : Nat} (h : At c w x cs) (hb : Below C w w') (hC : w.heap.size ≤ C) : At c w' x cs :=
  c.keep h (fun k hk => hb.block k (by omega)) hb.size
/-- The same, in a world that has only drawn. -/
theorem At.here {α : Type} {c : Cod α} {w W : World} {x : α} {cs : List Value} (h : At c w x cs) (hW : W.heap = w.heap := by rfl) : At c W x cs :=
  c.keep h (fun k hk => by rw [hW]) (by rw [hW]; exact Nat.le_refl _)
/-- The same, behind a call. -/
theorem At.next {α : Type} {c : Cod α} {w W w' : World} {x : α} {cs : List Value} (h : At c w x cs) (hb : Below W.heap.size W w') (hW : W.heap = w.heap := by rfl) : At c w' x cs :=
  At.below (At.here h hW) hb (Nat.le_refl _)
theorem Below.next {w0 w W w' : World} (h : Below w0.heap.size w0 w) (hb : Below W.heap.size W w') (hW : W.heap = w.heap ∧ W.os = w.os ∧ W.tape = w.tape ∧ W.output = w.output := by exact ⟨rfl, rfl, rfl, rfl⟩) : Below w0.heap.size w0 w' := by
  obtain ⟨h1, h2, h3, h4⟩ := hW
  have hB := h.size
  exact h.trans ⟨hb.os.trans h2, hb.tape.trans h3, hb.output.trans h4, by rw [← h1]; exact hb.size, fun k hk => by rw [← h1]; exact hb.block k (by rw [h1]; omega)⟩
theorem dec_self {α : Type} [DecidableEq α] (x : α) : decide (x = x) = true := decide_eq_true rfl
/-- In blocks below B of the world w, seen in a later world. -/
theorem Cod.ok_below {α : Type} {c : Cod α} {w w' : World} {x : α} {cs : List Value} {B : Nat} (h : c.ok B w x cs) (hb : Below B w w') : c.ok B w' x cs :=
  c.keep h (fun k hk => hb.block k hk) (Nat.le_refl _)
/-- A datum of the call's own: in blocks from B on. -/
def Own {α : Type} (c : Cod α) (B : Nat) (w : World) (x : α) (cs : List Value) : Prop := ∃ F, c.own F w x cs ∧ ∀ k, k ∈ F → B ≤ k ∧ k < w.heap.size
theorem Own.at {α : Type} {c : Cod α} {B : Nat} {w : World} {x : α} {cs : List Value} (h : Own c B w x cs) : At c w x cs := by
  obtain ⟨F, h1, h2⟩ := h
  exact c.ofO h1 (fun k hk => (h2 k hk).2)
theorem Own.below {α : Type} {c : Cod α} {B C : Nat} {w w' : World} {x : α} {cs : List Value} (h : Own c B w x cs) (hb : Below C w w') (hC : w.heap.size ≤ C) : Own c B w' x cs := by
  obtain ⟨F, h1, h2⟩ := h
  exact ⟨F, c.keepO h1 (fun k hk => hb.block k (by have := (h2 k hk).2; omega)), fun k hk => ⟨(h2 k hk).1, by have := (h2 k hk).2; have := hb.size; omega⟩⟩
theorem Own.mono {α : Type} {c : Cod α} {B B' : Nat} {w : World} {x : α} {cs : List Value} (h : Own c B w x cs) (hB : B' ≤ B) : Own c B' w x cs := by
  obtain ⟨F, h1, h2⟩ := h
  exact ⟨F, h1, fun k hk => ⟨by have := (h2 k hk).1; omega, (h2 k hk).2⟩⟩

/-- A datum of the call's own, in blocks from lo to hi. -/
def OwnIn {α : Type} (c : Cod α) (lo hi : Nat) (w : World) (x : α) (cs : List Value) : Prop := ∃ F, c.own F w x cs ∧ ∀ k, k ∈ F → lo ≤ k ∧ k < hi
theorem OwnIn.below {α : Type} {c : Cod α} {lo hi C : Nat} {w w' : World} {x : α} {cs : List Value} (h : OwnIn c lo hi w x cs) (hb : Below C w w') (hC : hi ≤ C) : OwnIn c lo hi w' x cs := by
  obtain ⟨F, h1, h2⟩ := h
  exact ⟨F, c.keepO h1 (fun k hk => hb.block k (by have := (h2 k hk).2; omega)), h2⟩
theorem OwnIn.setCell {α : Type} {c : Cod α} {lo hi : Nat} {w : World} {x : α} {cs : List Value} (h : OwnIn c lo hi w x cs) {p : Addr} (hp : p.block < lo) (u : Value) : OwnIn c lo hi (w.setCell p u) x cs := by
  obtain ⟨F, h1, h2⟩ := h
  exact ⟨F, c.keepO h1 (fun k hk => Below.heap_setCell _ _ _ _ (by have := (h2 k hk).1; omega)), h2⟩
theorem OwnIn.own {α : Type} {c : Cod α} {lo hi : Nat} {w : World} {x : α} {cs : List Value} (h : OwnIn c lo hi w x cs) (hh : hi ≤ w.heap.size) : Own c lo w x cs := by
  obtain ⟨F, h1, h2⟩ := h
  exact ⟨F, h1, fun k hk => ⟨(h2 k hk).1, by have := (h2 k hk).2; omega⟩⟩
theorem Own.in {α : Type} {c : Cod α} {B : Nat} {w : World} {x : α} {cs : List Value} (h : Own c B w x cs) : OwnIn c B w.heap.size w x cs := h
theorem OwnIn.wide {α : Type} {c : Cod α} {lo hi lo' hi' : Nat} {w : World} {x : α} {cs : List Value} (h : OwnIn c lo hi w x cs) (h1 : lo' ≤ lo) (h2 : hi ≤ hi') : OwnIn c lo' hi' w x cs := by
  obtain ⟨F, h3, h4⟩ := h
  exact ⟨F, h3, fun k hk => ⟨by have := (h4 k hk).1; omega, by have := (h4 k hk).2; omega⟩⟩
theorem OwnIn.pair {α β : Type} {c : Cod α} {d : Cod β} {lo mid hi : Nat} {w : World} {x : α} {y : β} {u v : List Value} (h : OwnIn c lo mid w x u) (k : OwnIn d mid hi w y v) (h1 : lo ≤ mid) (h2 : mid ≤ hi) : OwnIn (cPair c d) lo hi w (x, y) (u ++ v) := by
  obtain ⟨F, h3, h4⟩ := h
  obtain ⟨G, h5, h6⟩ := k
  refine ⟨F ++ G, ⟨u, v, F, G, rfl, h3, h5, rfl, fun k hk hg => ?_⟩, fun k hk => ?_⟩
  · have := (h4 k hk).2; have := (h6 k hg).1; omega
  · rcases List.mem_append.1 hk with hk | hk
    · exact ⟨(h4 k hk).1, by have := (h4 k hk).2; omega⟩
    · exact ⟨by have := (h6 k hk).1; omega, (h6 k hk).2⟩
theorem OwnIn.int (lo hi : Nat) (w : World) {x : Int} (h : inR x) : OwnIn cInt lo hi w x [.int .i64 x] := ⟨[], ⟨⟨rfl, h⟩, rfl⟩, by simp⟩
theorem OwnIn.flat {α : Type} {c : Cod α} {lo : Nat} {w w' : World} {x : α} {cs : List Value} (h : OwnIn c lo lo w x cs) : Own c lo w' x cs := by
  obtain ⟨F, h1, h2⟩ := h
  exact ⟨F, c.keepO h1 (fun k hk => absurd (h2 k hk) (by omega)), fun k hk => absurd (h2 k hk) (by omega)⟩
theorem slice_open {α : Type} {c : Cod α} {B : Nat} {w : World} {l : List α} {cs : List Value} (h : (cSlice c).ok B w l cs) : ∃ a cap, cs = [.slice a l.length cap] ∧ (cSlice c).ok B w l [.slice a l.length cap] := by
  have h0 := h
  obtain ⟨a, cap, rfl, _⟩ := h
  exact ⟨a, cap, rfl, h0⟩
theorem slice_openO {α : Type} {c : Cod α} {F : List Nat} {w : World} {l : List α} {cs : List Value} (h : (cSlice c).own F w l cs) : ∃ a cap, cs = [.slice a l.length cap] ∧ (cSlice c).own F w l [.slice a l.length cap] := by
  have h0 := h
  obtain ⟨a, cap, rfl, _⟩ := h
  exact ⟨a, cap, rfl, h0⟩

/-- A slice of one-cell elements: the element's cell. -/
theorem slice_at {α : Type} {c : Cod α} {B : Nat} {w : World} {l : List α} {a : Option Addr} {len cap : Nat} (h : (cSlice c).ok B w l [.slice a len cap]) (j : Nat) (hj : j < l.length) :
    ∃ b off es, a = some ⟨b, off, none⟩ ∧ b < B ∧ c.ok B w l[j] es ∧ ∀ i, i < c.n → w.cell? ⟨b, off + j * c.n + i, none⟩ = es[i]? := by
  obtain ⟨a', cap', e, hm, h⟩ := h
  simp at e
  obtain ⟨rfl, rfl, rfl⟩ := e
  exact h j hj
theorem slice_len {α : Type} {c : Cod α} {B : Nat} {w : World} {l : List α} {a : Option Addr} {len cap : Nat} (h : (cSlice c).ok B w l [.slice a len cap]) : len = l.length ∧ l.length ≤ maxLen := by
  obtain ⟨a', cap', e, hm, h⟩ := h
  simp at e
  exact ⟨e.2.1, hm.1⟩
theorem own_slice_len {α : Type} {c : Cod α} {F : List Nat} {w : World} {l : List α} {a : Option Addr} {len cap : Nat} (h : (cSlice c).own F w l [.slice a len cap]) : l.length ≤ maxLen ∧ l.length ≤ cap := by
  obtain ⟨a', cap', e, hm, h⟩ := h
  simp at e
  obtain ⟨rfl, rfl, rfl⟩ := e
  exact hm
/-- A slice of numbers: element j. -/
theorem ints_at {B : Nat} {w : World} {l : List Int} {a : Option Addr} {len cap : Nat} (h : (cSlice cInt).ok B w l [.slice a len cap]) (j : Nat) (hj : j < l.length) :
    ∃ b off, a = some ⟨b, off, none⟩ ∧ b < B ∧ w.cell? ⟨b, off + j, none⟩ = some (.int .i64 l[j]) := by
  obtain ⟨b, off, es, rfl, hb, he, hc⟩ := slice_at h j hj
  obtain ⟨rfl, _⟩ := he
  exact ⟨b, off, rfl, hb, by simpa [cInt] using hc 0 (by decide)⟩
theorem ints_rng {B : Nat} {w : World} {l : List Int} {cs : List Value} (h : (cSlice cInt).ok B w l cs) : ∀ x, x ∈ l → inR x := by
  intro x hx
  obtain ⟨j, hj, rfl⟩ := List.getElem_of_mem hx
  obtain ⟨_, _, rfl, _, h⟩ := h
  obtain ⟨b, off, es, _, hb, he, hc⟩ := h j hj
  exact he.2
end Go.Proofs.YtgipcnofonejcaaDoor

/- Lists of data of the call's own, and the slices that they make. -/
namespace Go.Proofs.YtgipcnofonejcaaDoor
open Go.RowKit
set_option linter.unusedVariables false
set_option maxRecDepth 100000

/-- A list of data, each in blocks of its own. -/
def ownL {α : Type} (c : Cod α) : List Nat → World → List α → List (List Value) → Prop
  | F, _, [], [] => F = []
  | F, w, x :: l, cs :: css => ∃ F1 F2, F = F1 ++ F2 ∧ c.own F1 w x cs ∧ ownL c F2 w l css ∧ ∀ k, k ∈ F1 → k ∉ F2
  | _, _, [], _ :: _ => False
  | _, _, _ :: _, [] => False
variable {α : Type} {c : Cod α}
theorem le_sum {F : List Nat} {k : Nat} (h : k ∈ F) : k ≤ F.sum := by
  induction F with
  | nil => cases h
  | cons a F ih =>
    rw [List.sum_cons]
    rcases List.mem_cons.1 h with rfl | h
    · omega
    · have := ih h; omega
theorem Cod.lenO {F : List Nat} {w : World} {x : α} {cs : List Value} (h : c.own F w x cs) : cs.length = c.n :=
  c.len (c.ofO (B := F.sum + 1) h (fun k hk => by have := le_sum hk; omega))
theorem ownL_nil (w : World) : ownL c [] w [] [] := rfl
theorem ownL_keep {w w' : World} : ∀ {F : List Nat} {l : List α} {css : List (List Value)}, ownL c F w l css → (∀ k, k ∈ F → w'.heap[k]? = w.heap[k]?) → ownL c F w' l css
  | F, [], [], h, _ => h
  | F, x :: l, cs :: css, ⟨F1, F2, e, h1, h2, hd⟩, hk => by
    subst e
    exact ⟨F1, F2, rfl, c.keepO h1 (fun k hk1 => hk k (List.mem_append_left _ hk1)), ownL_keep h2 (fun k hk1 => hk k (List.mem_append_right _ hk1)), hd⟩
  | _, [], _ :: _, h, _ => h.elim
  | _, _ :: _, [], h, _ => h.elim
theorem ownL_snoc {w : World} {x : α} {cs : List Value} {G : List Nat} (hx : c.own G w x cs) : ∀ {F : List Nat} {l : List α} {css : List (List Value)}, ownL c F w l css → (∀ k, k ∈ F → k ∉ G) → ownL c (F ++ G) w (l ++ [x]) (css ++ [cs])
  | F, [], [], h, _ => by obtain rfl : F = [] := h; exact ⟨G, [], by simp, hx, rfl, by simp⟩
  | F, y :: l, ds :: css, ⟨F1, F2, e, h1, h2, hd⟩, hk => by
    subst e
    refine ⟨F1, F2 ++ G, by simp, h1, ownL_snoc hx h2 (fun k hk1 => hk k (List.mem_append_right _ hk1)), fun k h => ?_⟩
    simp only [List.mem_append, not_or]
    exact ⟨hd k h, hk k (List.mem_append_left _ h)⟩
  | _, [], _ :: _, h, _ => h.elim
  | _, _ :: _, [], h, _ => h.elim
theorem ownL_len {w : World} : ∀ {F : List Nat} {l : List α} {css : List (List Value)}, ownL c F w l css → css.length = l.length ∧ css.flatten.length = l.length * c.n
  | F, [], [], _ => by simp
  | F, x :: l, cs :: css, ⟨F1, F2, _, h1, h2, _⟩ => by
    have := ownL_len h2
    have h3 := Cod.lenO h1
    refine ⟨by simp [this.1], ?_⟩
    rw [List.flatten_cons, List.length_append, this.2, h3, List.length_cons, Nat.succ_mul, Nat.add_comm]
  | _, [], _ :: _, h => h.elim
  | _, _ :: _, [], h => h.elim
theorem ownL_get {w : World} : ∀ {F : List Nat} {l : List α} {css : List (List Value)}, ownL c F w l css → ∃ G : Nat → List Nat, (∀ j, j < l.length → ∀ k, k ∈ G j → k ∈ F) ∧
    (∀ i j, i < l.length → j < l.length → i ≠ j → ∀ k, k ∈ G i → k ∉ G j) ∧ ∀ j (hj : j < l.length), ∃ es, c.own (G j) w l[j] es ∧ ∀ i, i < c.n → css.flatten[j * c.n + i]? = es[i]?
  | F, [], [], _ => ⟨fun _ => [], by simp, by simp, by simp⟩
  | F, x :: l, cs :: css, ⟨F1, F2, e, h1, h2, hd⟩ => by
    subst e
    obtain ⟨G, hG, hGG, he⟩ := ownL_get h2
    have hn := Cod.lenO h1
    refine ⟨fun j => match j with | 0 => F1 | j + 1 => G j, ?_, ?_, ?_⟩
    · intro j hj k hk
      cases j with
      | zero => exact List.mem_append_left _ hk
      | succ j => exact List.mem_append_right _ (hG j (by simpa using hj) k hk)
    · intro i j hi hj hij k hk
      cases i with
      | zero => cases j with
        | zero => exact absurd rfl hij
        | succ j => intro h; exact hd k hk (hG j (by simpa using hj) k h)
      | succ i => cases j with
        | zero => intro h; exact hd k h (hG i (by simpa using hi) k hk)
        | succ j => exact hGG i j (by simpa using hi) (by simpa using hj) (by omega) k hk
    · intro j hj
      cases j with
      | zero =>
        refine ⟨cs, h1, fun i hi => ?_⟩
        rw [Nat.zero_mul, Nat.zero_add, List.flatten_cons, List.getElem?_append_left (by omega)]
      | succ j =>
        obtain ⟨es, h3, h4⟩ := he j (by simpa using hj)
        refine ⟨es, h3, fun i hi => ?_⟩
        rw [List.flatten_cons, List.getElem?_append_right (by rw [hn, Nat.succ_mul]; omega), ← h4 i hi]
        congr 1
        rw [hn, Nat.succ_mul]; omega
  | _, [], _ :: _, h => h.elim
  | _, _ :: _, [], h => h.elim
theorem slice_of_ownL {w : World} {F : List Nat} {l : List α} {css : List (List Value)} {base g cap : Nat} {e : TypeId} (h : ownL c F w l css)
    (hr : w.ownsRow base e c.n (.slice (some ⟨g, 0, none⟩) l.length cap) l.length css.flatten) (hg : g ∉ F) (hm : l.length ≤ maxLen) :
    (cSlice c).own (g :: F) w l [.slice (some ⟨g, 0, none⟩) l.length cap] := by
  obtain ⟨G, hG, hGG, he⟩ := ownL_get h
  have hlt := (hr.lt g rfl).2
  have hcap : l.length ≤ cap := by
    rcases hr.2 with ⟨h0, _⟩ | ⟨g', cap', cur, e0, _, _, hnc, _⟩
    · cases h0
    · simp at e0; omega
  refine ⟨_, _, rfl, ⟨hm, hcap⟩, .inr ⟨g, 0, G, rfl, by simp, hlt, fun j hj k hk => ⟨List.mem_cons_of_mem _ (hG j hj k hk), fun e => hg (e ▸ hG j hj k hk)⟩, hGG, fun j hj => by rw [Nat.zero_add]; exact hr.frozenAt j, fun j hj => ?_⟩⟩
  obtain ⟨es, h1, h2⟩ := he j hj
  refine ⟨es, h1, fun i hi => ?_⟩
  rw [Nat.zero_add, hr.cellAt _ ?_, h2 i hi]
  calc j * c.n + i < j * c.n + c.n := by omega
    _ = (j + 1) * c.n := by rw [Nat.succ_mul]
    _ ≤ l.length * c.n := Nat.mul_le_mul_right _ hj
/-- The slice nil. -/
theorem Own.nil (B : Nat) (w : World) : Own (cSlice c) B w [] [.slice none 0 0] := ⟨[], ⟨none, 0, rfl, by simp, .inl ⟨rfl, rfl⟩⟩, by simp⟩
/-- A slice of the call's own, of data of the call's own. -/
theorem Own.slice {w : World} {F : List Nat} {l : List α} {css : List (List Value)} {base g cap : Nat} {e : TypeId} (h : ownL c F w l css)
    (hr : w.ownsRow base e c.n (.slice (some ⟨g, 0, none⟩) l.length cap) l.length css.flatten) (hF : ∀ k, k ∈ F → base ≤ k ∧ k < w.heap.size ∧ k ≠ g) (hm : l.length ≤ maxLen) :
    Own (cSlice c) base w l [.slice (some ⟨g, 0, none⟩) l.length cap] := by
  refine ⟨g :: F, slice_of_ownL h hr (fun hg => (hF g hg).2.2 rfl) hm, fun k hk => ?_⟩
  rcases List.mem_cons.1 hk with rfl | hk
  · exact hr.lt _ rfl
  · exact ⟨(hF k hk).1, (hF k hk).2.1⟩
/-- Data without memory behind them. -/
theorem ownL_flat (enc : α → List Value) (w : World) : ∀ l : List α, (∀ x, x ∈ l → c.own [] w x (enc x)) → ownL c [] w l (l.map enc)
  | [], _ => rfl
  | x :: l, h => ⟨[], [], rfl, h x (by simp), ownL_flat enc w l (fun y hy => h y (by simp [hy])), by simp⟩
theorem Own.setCell {w : World} {B : Nat} {x : α} {cs : List Value} (h : Own c B w x cs) {p : Addr} (hp : p.block < B) (u : Value) : Own c B (w.setCell p u) x cs := by
  obtain ⟨F, h1, h2⟩ := h
  exact ⟨F, c.keepO h1 (fun k hk => Below.heap_setCell _ _ _ _ (by have := (h2 k hk).1; omega)), fun k hk => ⟨(h2 k hk).1, by simpa [World.setCell] using (h2 k hk).2⟩⟩
/-- In a step that keeps what stands in blocks of the list. -/
theorem ownL_below {w w' : World} {F : List Nat} {l : List α} {css : List (List Value)} {C : Nat} (h : ownL c F w l css) (hb : Below C w w') (hF : ∀ k, k ∈ F → k < C) : ownL c F w' l css :=
  ownL_keep h (fun k hk => hb.block k (hF k hk))
end Go.Proofs.YtgipcnofonejcaaDoor
end

section
/- TyOne: TyA TyB TyB2. -/
/- Numbers in a slice, relations, facts: the laws' helpers on them (size, copy, equality). -/
namespace Go.Proofs.YtgipcnofonejcaaDoor
open Go.RowKit
set_option linter.unusedVariables false
set_option maxRecDepth 100000

/-- What is left of an allowance behind n, or -1. -/
def szR (left : Int) (n : Nat) : Int := if left - (n : Int) < 0 then -1 else left - (n : Int)

theorem szR_le (left : Int) (n : Nat) (h : 0 ≤ left) : szR left n ≤ left := by unfold szR; split <;> omega
theorem szR_ge {left : Int} {n M : Nat} (h : ¬ szR left n < 0) (hM : left ≤ (M : Int)) : n ≤ M := by unfold szR at h; split at h <;> omega
/-- A number as a cell. -/
def iv (x : Int) : Value := .int .i64 x
/-- The row when k numbers are written: the first k, then zeros. -/
def doneI (l : List Int) (k n : Nat) : List Value := (l.take k).map iv ++ List.replicate (n - k) (iv 0)
theorem flat_ints (l : List Int) : (l.map fun x => [iv x]).flatten = l.map iv := by
  induction l with
  | nil => rfl
  | cons x l ih => simp [ih]
theorem Below.drewN' {B : Nat} {a w : World} (h : Below B a w) (n : Nat) : Below B a (w.drewN n) := ⟨h.os, h.tape, h.output, h.size, h.block⟩
theorem ownsRow_below {base : Nat} {w w' : World} {e : TypeId} {sz : Nat} {v : Value} {n : Nat} {xs : List Value} (h : w.ownsRow base e sz v n xs) (k : Below w.heap.size w w') : w'.ownsRow base e sz v n xs := by
  refine ⟨h.1, ?_⟩
  rcases h.2 with h0 | ⟨g, cap, cur, rfl, hb, hg, hrest⟩
  · exact .inl h0
  · have hlt := (h.lt g rfl).2
    exact .inr ⟨g, cap, cur, rfl, hb, (k.block g hlt).trans hg, hrest⟩
theorem eqIntS_c {a a' : Option Addr} {cap cap' : Nat} {l m : List Int} {w : World} (h : At (cSlice cInt) w l [.slice a l.length cap]) (h' : At (cSlice cInt) w m [.slice a' m.length cap']) :
    Calls Tryd.prog 25 #[.slice a l.length cap, .slice a' m.length cap'] w fun e w' => e = .returned (.bool (decide (l = m))) ∧ Below w.heap.size w w' := by
  have hm := (slice_len h).2
  have hm' := (slice_len h').2
  unfold maxLen at hm hm'
  by_cases hne : l.length = m.length
  · obtain ⟨n, hn⟩ : ∃ n : Nat, l.length = n := ⟨_, rfl⟩
    have Hr : Hid (∀ w' : World, Below w.heap.size w w' → ∀ j (hj : j < l.length), ∃ b off, a = some ⟨b, off, none⟩ ∧ b < w.heap.size ∧ w'.cell? ⟨b, off + j, none⟩ = some (.int .i64 l[j])) := fun w' hb j hj => ints_at (Cod.ok_below h hb) j hj
    have Hr' : Hid (∀ w' : World, Below w.heap.size w w' → ∀ j (hj : j < m.length), ∃ b off, a' = some ⟨b, off, none⟩ ∧ b < w.heap.size ∧ w'.cell? ⟨b, off + j, none⟩ = some (.int .i64 m[j])) := fun w' hb j hj => ints_at (Cod.ok_below h' hb) j hj
    clear h h'
    rw [← hne, hn]
    have Hn := Lib.hid hn
    have Hm : Hid (m.length = n) := by rw [← hne]; exact hn
    have hm2 : n ≤ 2 ^ 63 - 1 := by omega
    generalize hR : decide (l = m) = R
    have HR : Hid (decide (l.drop 0 = m.drop 0) = R) := hR
    clear hR hne hn hm hm'
    go_enter Tryd.func25, Tryd.ntmps25
    go_wp2
    go_loopw [5] (fun iv wr => ∃ k : Nat, k ≤ n ∧ iv = .int .i64 k ∧ Hid (decide (l.drop k = m.drop k) = R) ∧ Below w.heap.size w wr) (fun iv _ => n - (intOf iv).toNat)
    case atStart => exact ⟨0, by omega, by go_num, HR, Below.refl _ _⟩
    case round =>
      obtain ⟨k, hk, rfl, Hq, hb⟩ := hrel
      by_cases hlt : k < n
      · have hkl : k < l.length := by rw [Hn.out]; exact hlt
        have hkm : k < m.length := by rw [Hm.out]; exact hlt
        have Hst : Hid (R = (decide (l[k] = m[k]) && decide (l.drop (k + 1) = m.drop (k + 1)))) := by
          show R = _
          rw [← Hq.out, ← Bool.decide_and]; congr 1; rw [List.drop_eq_getElem_cons hkl, List.drop_eq_getElem_cons hkm, List.cons.injEq]
        obtain ⟨b, off, rfl, hbB, c0⟩ := Hr.out _ hb k hkl
        obtain ⟨b', off', rfl, hbB', c0'⟩ := Hr'.out _ hb k hkm
        generalize hrk : l[k] = r at *
        generalize hrk' : m[k] = r' at *
        clear hrk hrk'
        by_cases he : r = r'
        · have hn : (r != r') = false := by simp [he]
          have hst := Hst.out
          rw [decide_eq_true he, Bool.true_and] at hst
          have Hst2 := Lib.hid hst.symm
          clear hst Hst he
          go_wp2
          go_quiet (fail)
          go_wp2
          go_roundw
          case rel => exact ⟨k + 1, by omega, by go_num, Hst2, Below.drewN' hb _⟩
          case measure => simp [intOf]; omega
        · have hn : (r != r') = true := by simp [he]
          have hR : R = false := by have := Hst.out; rw [decide_eq_false he, Bool.false_and] at this; exact this
          clear Hst he
          go_wp2
          go_quiet (fail)
          go_wp2
          go_ret
          exact ⟨by rw [hR]; rfl, Below.drewN' hb _⟩
      · obtain rfl : k = n := by omega
        have hR : R = true := by
          have := Hq.out
          rw [List.drop_eq_nil_of_le (by rw [Hn.out]; exact Nat.le_refl _), List.drop_eq_nil_of_le (by rw [Hm.out]; exact Nat.le_refl _)] at this
          simpa using this.symm
        go_wp2
        go_ret
        exact ⟨by rw [hR]; rfl, hb⟩
  · rw [decide_eq_false (fun e => hne (by rw [e]))]
    have hne2 : (l.length != m.length) = true := by simpa using hne
    go_enter Tryd.func25, Tryd.ntmps25
    go_wp2
    go_ret
    exact ⟨rfl, Below.refl _ _⟩
end Go.Proofs.YtgipcnofonejcaaDoor

/- Relations and facts: structures, readings, the laws' helpers on one of them. -/
namespace Go.Proofs.YtgipcnofonejcaaDoor
open Go.RowKit
set_option linter.unusedVariables false
set_option maxRecDepth 100000

/-- A relation: its name, its arity, its key's length. -/
structure Rel where
  name : ByteArray
  arity : Int
  key : Int
deriving DecidableEq
def cRel : Cod Rel := cMap (fun x => (x.name, x.arity, x.key)) (cPair cStr (cPair cInt cInt))
theorem cRel_mkO {w : World} {x : Rel} (h : x.name.size ≤ maxLen) (h1 : inR x.arity) (h2 : inR x.key) : cRel.own [] w x [.string x.name, .int .i64 x.arity, .int .i64 x.key] := ⟨[_], [_, _], [], [], rfl, ⟨⟨rfl, h⟩, rfl⟩, ⟨[_], [_], [], [], rfl, ⟨⟨rfl, h1⟩, rfl⟩, ⟨⟨rfl, h2⟩, rfl⟩, rfl, by simp⟩, rfl, by simp⟩
theorem Own.rel {B : Nat} {w : World} {x : Rel} (h : x.name.size ≤ maxLen) (h1 : inR x.arity) (h2 : inR x.key) : Own cRel B w x [.string x.name, .int .i64 x.arity, .int .i64 x.key] := ⟨[], cRel_mkO h h1 h2, by simp⟩
end Go.Proofs.YtgipcnofonejcaaDoor

/- Structs: readings, the laws' helpers on them (size, copy, equality). -/
namespace Go.Proofs.YtgipcnofonejcaaDoor
open Go.RowKit
set_option linter.unusedVariables false
set_option maxRecDepth 100000

/-- A fact: its relation's place, its values. -/
structure Fct where
  rel : Int
  vals : List Int
deriving DecidableEq
def cFct : Cod Fct := cMap (fun x => (x.rel, x.vals)) (cPair cInt (cSlice cInt))
/-- Its size: its leaves behind slices. -/
def sizeFact (x : Fct) : Nat := x.vals.length
end Go.Proofs.YtgipcnofonejcaaDoor
end

section
/- TyTwo: TyC TyD. -/
/- Slices of structs: the laws' helpers on them (size, copy, equality). -/
namespace Go.Proofs.YtgipcnofonejcaaDoor
open Go.RowKit
set_option linter.unusedVariables false
set_option maxRecDepth 100000

/-- The leaves of such a slice. -/
def sumRelation (l : List Rel) : Nat := (l.map fun x => x.name.size).sum
/-- The size of such a slice: its length and its leaves. -/
def sizeRelationS (l : List Rel) : Nat := l.length + sumRelation l
/-- The leaves of such a slice. -/
def sumFact (l : List Fct) : Nat := (l.map fun x => x.vals.length).sum
/-- The size of such a slice: its length and its leaves. -/
def sizeFactS (l : List Fct) : Nat := l.length + sumFact l
end Go.Proofs.YtgipcnofonejcaaDoor

/- Structs: readings, the laws' helpers on them (size, copy, equality). -/
namespace Go.Proofs.YtgipcnofonejcaaDoor
open Go.RowKit
set_option linter.unusedVariables false
set_option maxRecDepth 100000

/-- A database: its relations, its facts. -/
structure Dbs where
  rels : List Rel
  facts : List Fct
deriving DecidableEq
def cDbs : Cod Dbs := cMap (fun x => (x.rels, x.facts)) (cPair (cSlice cRel) (cSlice cFct))
/-- Its size: its leaves behind slices. -/
def sizeDatabase (x : Dbs) : Nat := sizeRelationS x.rels + (sizeFactS x.facts)
end Go.Proofs.YtgipcnofonejcaaDoor
end

section
/- What a row's reading says, in the words of the readings of data. -/
namespace Go.Proofs.YtgipcnofonejcaaDoor
open Go.RowKit Go.Deep
set_option linter.unusedVariables false
set_option maxRecDepth 100000

section
variable {H : Type} {enc : TypeId × Value → H} {P : Program} {w : World} {base : Nat} {spare : Nat → Bool} {held : Bool}
theorem rd_int {t : TypeId} (ht : P.underlying t = some (.int .i64)) {fuel : Nat} {cs : List Value} {x : DataW H × List MemPlace} (h : DataW.trod enc P w base spare held fuel t cs = some x) : ∃ y, cInt.ok w.heap.size w y cs := by
  obtain ⟨n, e, _, hw⟩ := DataW.trod_int ht h
  refine ⟨n, e, ?_⟩
  simp [Lit.wf] at hw
  unfold inR
  have h0 : IntKind.i64.min = -9223372036854775808 := by decide
  omega
theorem rd_slice {α : Type} {c : Cod α} {t e : TypeId} (ht : P.underlying t = some (.slice e)) (hc : P.cellsOf e = c.n) (hn : 0 < c.n) (he : ∀ (fuel : Nat) (cs : List Value) (x : DataW H × List MemPlace), DataW.trod enc P w base spare held fuel e cs = some x → ∃ y, c.ok w.heap.size w y cs)
    {fuel : Nat} {cs : List Value} {x : DataW H × List MemPlace} (h : DataW.trod enc P w base spare held fuel t cs = some x) : ∃ l, (cSlice c).ok w.heap.size w l cs := by
  rcases open_slice ht h with ⟨rfl, _⟩ | ⟨a, len, cap, m, n, D, Pl, rfl, hb, hl, hm, hmm, _, hx⟩
  · exact ⟨[], none, 0, rfl, by simp, by simp⟩
  · have hlm : len ≤ m := by rw [hmm]; split <;> omega
    rw [hc] at hx
    have hex : ∀ i, i < len → ∃ y : α, ∃ es, c.ok w.heap.size w y es ∧ ∀ k, k < c.n → w.cell? ((a.add (i * c.n)).add k) = es[k]? := by
      intro i hi
      obtain ⟨cs', h1, h2⟩ := hx i (by omega)
      obtain ⟨y, hy⟩ := he _ _ _ h2
      exact ⟨y, cs', hy, fun k hk => (World.cells?_some h1).2.2 k hk⟩
    by_cases h0 : len = 0
    · subst h0
      exact ⟨[], some a, cap, rfl, by simp, by simp⟩
    · obtain ⟨y0, hy0⟩ := hex 0 (by omega)
      haveI : Inhabited α := ⟨y0⟩
      obtain ⟨R, hR⟩ := choose_lt hex
      have hsp : a.spot = none := by
        obtain ⟨es, h1, h2⟩ := hy0
        have h3 := h2 0 hn
        have h4 := c.len h1
        rw [List.getElem?_eq_getElem (by omega)] at h3
        simp [Addr.add] at h3
        exact World.cell?_spot h3
      obtain ⟨bb, off, sp⟩ := a
      obtain rfl : sp = none := hsp
      refine ⟨(List.range len).map R, some ⟨bb, off, none⟩, cap, by simp, by simp; omega, fun j hj => ?_⟩
      simp at hj
      obtain ⟨es, h1, h2⟩ := hR j hj
      have ea (k : Nat) : (Addr.mk bb off none).add k = ⟨bb, off + k, none⟩ := by unfold Addr.add; split <;> simp_all
      have eb (k q : Nat) : (Addr.mk bb (off + k) none).add q = ⟨bb, off + k + q, none⟩ := by unfold Addr.add; split <;> simp_all
      have h3 : ∀ k, k < c.n → w.cell? ⟨bb, off + j * c.n + k, none⟩ = es[k]? := by
        intro k hk
        have := h2 k hk
        rw [ea, eb] at this
        exact this
      refine ⟨bb, off, es, rfl, ?_, by simpa using h1, h3⟩
      have h4 := h3 0 hn
      rw [List.getElem?_eq_getElem (by have := c.len h1; omega)] at h4
      exact block_lt_of_cell h4
/-- A slice among a row's parameters. -/
theorem row_slice {α : Type} {c : Cod α} {t e : TypeId} (ht : P.underlying t = some (.slice e)) (hc : P.cellsOf e = c.n) (hn : 0 < c.n) (he : ∀ (fuel : Nat) (cs : List Value) (x : DataW H × List MemPlace), DataW.trod enc P w base spare held fuel e cs = some x → ∃ y, c.ok w.heap.size w y cs)
    {r0 : Reach} {b0 : Nat} {v : Value} {d : DataW H} {ps : List MemPlace} (hval : Value.okWide P w r0 b0 t v) (h : DataW.Trod enc P w base spare held t v d ps) :
    ∃ (a : Option Addr) (cap : Nat) (l : List α), v = .slice a l.length cap ∧ At (cSlice c) w l [.slice a l.length cap] := by
  obtain ⟨a, len, cap, rfl⟩ := Go.WideShapes.okWide_slice ht hval
  obtain ⟨m, hm⟩ := h
  obtain ⟨l, hl⟩ := rd_slice ht hc hn he hm
  have hl2 := hl
  obtain ⟨a', cap', e, _⟩ := hl2
  simp [Value.cells] at e
  obtain ⟨rfl, rfl, rfl⟩ := e
  exact ⟨a, cap, l, rfl, hl⟩
end
end Go.Proofs.YtgipcnofonejcaaDoor
end

section
/- TyTre: TyE TyF TyG TyH. -/
/- Slices of structs: the laws' helpers on them (size, copy, equality). -/
namespace Go.Proofs.YtgipcnofonejcaaDoor
open Go.RowKit
set_option linter.unusedVariables false
set_option maxRecDepth 100000

/-- Element j of such a slice. -/
theorem at_IntS {B : Nat} {w : World} {l : List (List Int)} {a0 : Option Addr} {len cap0 : Nat} (h : (cSlice (cSlice cInt)).ok B w l [.slice a0 len cap0]) (j : Nat) (hj : j < l.length) :
    ∃ b off a cap, a0 = some ⟨b, off, none⟩ ∧ b < B ∧ w.cell? ⟨b, off + j, none⟩ = some (.slice a l[j].length cap) ∧ (cSlice cInt).ok B w l[j] [.slice a l[j].length cap] := by
  obtain ⟨b, off, es, rfl, hb, he, hc⟩ := slice_at h j hj
  obtain ⟨a, cap, rfl, hx⟩ := slice_open he
  exact ⟨b, off, a, cap, rfl, hb, by have := hc 0 (by decide); rw [show (cSlice cInt).n = 1 from rfl, Nat.mul_one, Nat.add_zero] at this; exact this, hx⟩
/-- The leaves of such a slice. -/
def sumIntS (l : List (List Int)) : Nat := (l.map fun x => x.length).sum
/-- The size of such a slice: its length and its leaves. -/
def sizeIntSS (l : List (List Int)) : Nat := l.length + sumIntS l
set_option maxHeartbeats 1600000 in
theorem eqIntSS_c {a0 a0' : Option Addr} {cap0 cap0' : Nat} {l m : List (List Int)} {w : World} (h : At (cSlice (cSlice cInt)) w l [.slice a0 l.length cap0]) (h' : At (cSlice (cSlice cInt)) w m [.slice a0' m.length cap0']) :
    Calls Tryd.prog 13 #[.slice a0 l.length cap0, .slice a0' m.length cap0'] w fun e w' => e = .returned (.bool (decide (l = m))) ∧ Below w.heap.size w w' := by
  have hm := (slice_len h).2
  have hm' := (slice_len h').2
  unfold maxLen at hm hm'
  by_cases hne : l.length = m.length
  · obtain ⟨n, hn⟩ : ∃ n : Nat, l.length = n := ⟨_, rfl⟩
    have Hr : Hid (∀ w' : World, Below w.heap.size w w' → ∀ j (hj : j < l.length), _) := fun w' hb j hj => at_IntS (Cod.ok_below h hb) j hj
    have Hr' : Hid (∀ w' : World, Below w.heap.size w w' → ∀ j (hj : j < m.length), _) := fun w' hb j hj => at_IntS (Cod.ok_below h' hb) j hj
    clear h h'
    rw [← hne, hn]
    have Hn := Lib.hid hn
    have Hm : Hid (m.length = n) := by rw [← hne]; exact hn
    have hm2 : n ≤ 2 ^ 63 - 1 := by omega
    generalize hR : decide (l = m) = R
    have HR : Hid (decide (l.drop 0 = m.drop 0) = R) := hR
    clear hR hne hn hm hm'
    go_enter Tryd.func13, Tryd.ntmps13
    go_wp2
    go_loopw [5] (fun iv wr => ∃ k : Nat, k ≤ n ∧ iv = .int .i64 k ∧ Hid (decide (l.drop k = m.drop k) = R) ∧ Below w.heap.size w wr) (fun iv _ => n - (intOf iv).toNat)
    case atStart => exact ⟨0, by omega, by go_num, HR, Below.refl _ _⟩
    case round =>
      clear HR
      obtain ⟨k, hk, rfl, Hq, hb⟩ := hrel
      by_cases hlt : k < n
      · have hkl : k < l.length := by rw [Hn.out]; exact hlt
        have hkm : k < m.length := by rw [Hm.out]; exact hlt
        have Hst : Hid (R = (decide (l[k] = m[k]) && decide (l.drop (k + 1) = m.drop (k + 1)))) := by
          show R = _
          rw [← Hq.out, ← Bool.decide_and]; congr 1; rw [List.drop_eq_getElem_cons hkl, List.drop_eq_getElem_cons hkm, List.cons.injEq]
        obtain ⟨b, off, a, cap, rfl, hbB, c0, hx⟩ := Hr.out _ hb k hkl
        obtain ⟨b', off', a', cap', rfl, hbB', e0, hy⟩ := Hr'.out _ hb k hkm
        have Hc : Hid (∀ ww, Below w.heap.size wr ww → Calls Tryd.prog 25 #[.slice a l[k].length cap, .slice a' m[k].length cap'] ww fun e w' => e = .returned (.bool (decide (l[k] = m[k]))) ∧ Below ww.heap.size ww w') :=
          fun ww hw2 => eqIntS_c ((cSlice cInt).keep hx (fun k hk => hw2.block k hk) (Nat.le_trans hb.size hw2.size)) ((cSlice cInt).keep hy (fun k hk => hw2.block k hk) (Nat.le_trans hb.size hw2.size))
        clear hx hy Hq
        generalize l[k] = r at *
        generalize m[k] = r' at *
        generalize decide (r = r') = z at *
        cases z with
        | true =>
          go_wp2_with fail
          go_region_with (go_at_call 25; refine (Hc.out _ ?hww).mono ?_; (case hww => first | exact Below.refl _ _ | exact (Below.refl _ _).drew | exact Below.drewN' (Below.refl _ _) _); rintro e w1 ⟨rfl, hb1⟩)
          all_goals
            go_wp2
            go_roundw
            case rel =>
              have h := Hst.out
              rw [Bool.true_and] at h
              exact ⟨k + 1, by omega, by go_num, h.symm, hb.drew.trans (hb1.mono hb.size)⟩
            case measure => simp [intOf]; omega
        | false =>
          have hR : R = false := by have h := Hst.out; rw [Bool.false_and] at h; exact h
          go_wp2_with fail
          go_region_with (go_at_call 25; refine (Hc.out _ ?hww).mono ?_; (case hww => first | exact Below.refl _ _ | exact (Below.refl _ _).drew | exact Below.drewN' (Below.refl _ _) _); rintro e w1 ⟨rfl, hb1⟩)
          all_goals
            go_wp2
            go_ret
            exact ⟨by rw [hR]; rfl, hb.drew.trans (hb1.mono hb.size)⟩
      · obtain rfl : k = n := by omega
        have hR : R = true := by
          have := Hq.out
          rw [List.drop_eq_nil_of_le (by rw [Hn.out]; exact Nat.le_refl _), List.drop_eq_nil_of_le (by rw [Hm.out]; exact Nat.le_refl _)] at this
          simpa using this.symm
        go_wp2
        go_ret
        exact ⟨by rw [hR]; rfl, hb⟩
  · rw [decide_eq_false (fun e => hne (by rw [e]))]
    have hne2 : (l.length != m.length) = true := by simpa using hne
    go_enter Tryd.func13, Tryd.ntmps13
    go_wp2
    go_ret
    exact ⟨rfl, Below.refl _ _⟩
end Go.Proofs.YtgipcnofonejcaaDoor

/- Structs: readings, the laws' helpers on them (size, copy, equality). -/
namespace Go.Proofs.YtgipcnofonejcaaDoor
open Go.RowKit
set_option linter.unusedVariables false
set_option maxRecDepth 100000

/-- A denial constraint. -/
structure Dcn where
  r1 : Int
  r2 : Int
  j1 : Int
  j2 : Int
  c1 : Int
  c2 : Int
  cmp : Int
deriving DecidableEq
def cDcn : Cod Dcn := cMap (fun x => (x.r1, (x.r2, (x.j1, (x.j2, (x.c1, (x.c2, x.cmp))))))) (cPair cInt (cPair cInt (cPair cInt (cPair cInt (cPair cInt (cPair cInt cInt))))))
/-- An edge: two vertices. -/
structure Edg where
  a : Int
  b : Int
deriving DecidableEq
def cEdg : Cod Edg := cMap (fun x => (x.a, x.b)) (cPair cInt cInt)
theorem cEdg_fields {B : Nat} {w : World} {x : Edg} {cs : List Value} (h : cEdg.ok B w x cs) : cs = [.int .i64 x.a, .int .i64 x.b] ∧ inR x.a ∧ inR x.b := by
  obtain ⟨_, _, rfl, h0, h1⟩ := h
  obtain ⟨rfl, g0⟩ := h0
  obtain ⟨rfl, g1⟩ := h1
  exact ⟨rfl, g0, g1⟩
theorem cEdg_open {B : Nat} {w : World} {x : Edg} {cs : List Value} (h : cEdg.ok B w x cs) : cs = [.int .i64 x.a, .int .i64 x.b] ∧ cEdg.ok B w x [.int .i64 x.a, .int .i64 x.b] := by
  have h0 := h
  obtain ⟨rfl, _⟩ := cEdg_fields h
  exact ⟨rfl, h0⟩
theorem cEdg_inv {B : Nat} {w : World} {x : Edg} {v0 v1 : Value} (h : cEdg.ok B w x [v0, v1]) : inR x.a ∧ inR x.b := by
  obtain ⟨e, g0, g1⟩ := cEdg_fields h
  simp only [List.cons.injEq, and_true] at e
  obtain ⟨rfl, rfl⟩ := e
  exact ⟨g0, g1⟩
theorem cEdg_own {lo hi  : Nat} {w : World} {x : Edg} (g0 : inR x.a) (g1 : inR x.b) (q : lo ≤ hi) : OwnIn cEdg lo hi w x [.int .i64 x.a, .int .i64 x.b] := (OwnIn.pair (OwnIn.int lo lo _ g0) (OwnIn.int lo hi _ g1) (by omega) (by omega))
theorem toConflictEdge_c {x : Edg} {w : World} (h : At cEdg w x [.int .i64 x.a, .int .i64 x.b]) :
    Calls Tryd.prog 63 #[.agg #[.int .i64 x.a, .int .i64 x.b]] w fun e w' => (e = .returned (.agg #[.int .i64 x.a, .int .i64 x.b]) ∧ Own cEdg w.heap.size w' x [.int .i64 x.a, .int .i64 x.b]) ∧ Below w.heap.size w w' := by
  obtain ⟨g0, g1⟩ := cEdg_inv h
  have Ho : Hid (∀ w' : World, Own cEdg w.heap.size w' x [.int .i64 x.a, .int .i64 x.b]) := fun w' => OwnIn.flat (cEdg_own (lo := w.heap.size) (hi := w.heap.size) (w := w') (x := x) g0 g1 (Nat.le_refl _))
  clear h g0 g1
  obtain ⟨a, b⟩ := x
  simp only at *
  go_enter Tryd.func63, Tryd.ntmps63
  go_wp2
  go_returns
  refine ⟨⟨?_, Ho.out _⟩, ?_⟩
  · simp
  · go_grown
theorem eqConflictEdge_c {x y : Edg} {w : World} (h : At cEdg w x [.int .i64 x.a, .int .i64 x.b]) (h' : At cEdg w y [.int .i64 y.a, .int .i64 y.b]) :
    Calls Tryd.prog 67 #[.agg #[.int .i64 x.a, .int .i64 x.b], .agg #[.int .i64 y.a, .int .i64 y.b]] w fun e w' => e = .returned (.bool (decide (x = y))) ∧ Below w.heap.size w w' := by
  clear h h'
  obtain ⟨a, b⟩ := x
  obtain ⟨a', b'⟩ := y
  have he : decide (Edg.mk a b = Edg.mk a' b') = (decide (a = a') && decide (b = b')) := by
    simp only [← Bool.decide_and]; congr 1; rw [Edg.mk.injEq]
  rw [he]
  clear he
  simp only at *
  by_cases hr0 : a = a'
  · subst hr0
    rw [decide_eq_true rfl, Bool.true_and]
    by_cases hr1 : b = b'
    · subst hr1
      rw [decide_eq_true rfl]
      go_enter Tryd.func67, Tryd.ntmps67
      go_wp2
      go_ret
      exact ⟨by simp, by go_grown⟩
    · have hn1 : (b != b') = true := by simp [hr1]
      rw [decide_eq_false hr1]
      go_enter Tryd.func67, Tryd.ntmps67
      go_wp2
      go_ret
      exact ⟨by simp, by go_grown⟩
  · have hn0 : (a != a') = true := by simp [hr0]
    rw [decide_eq_false hr0, Bool.false_and]
    go_enter Tryd.func67, Tryd.ntmps67
    go_wp2
    go_ret
    exact ⟨by simp, by go_grown⟩
/-- An atom: its relation's place, its terms. -/
structure Atm where
  rel : Int
  terms : List Int
deriving DecidableEq
def cAtm : Cod Atm := cMap (fun x => (x.rel, x.terms)) (cPair cInt (cSlice cInt))
/-- Its size: its leaves behind slices. -/
def sizeAtom (x : Atm) : Nat := x.terms.length
end Go.Proofs.YtgipcnofonejcaaDoor
namespace Go.Proofs.YtgipcnofonejcaaDoor
open Go.RowKit
set_option linter.unusedVariables false
set_option maxRecDepth 100000
/-- Element j of such a slice. -/
theorem at_ConflictEdge {B : Nat} {w : World} {l : List Edg} {a0 : Option Addr} {len cap0 : Nat} (h : (cSlice cEdg).ok B w l [.slice a0 len cap0]) (j : Nat) (hj : j < l.length) :
    ∃ b off, a0 = some ⟨b, off, none⟩ ∧ b < B ∧ w.cell? ⟨b, off + j * 2, none⟩ = some (.int .i64 l[j].a) ∧ w.cell? ⟨b, off + j * 2 + 1, none⟩ = some (.int .i64 l[j].b) ∧ cEdg.ok B w l[j] [.int .i64 l[j].a, .int .i64 l[j].b] := by
  obtain ⟨b, off, es, rfl, hb, he, hc⟩ := slice_at h j hj
  obtain ⟨rfl, hx⟩ := cEdg_open he
  exact ⟨b, off, rfl, hb, by exact hc 0 (by decide), by exact hc 1 (by decide), hx⟩
theorem szConflictEdgeS_c {a0 : Option Addr} {cap0 : Nat} {l : List Edg} {left : Int} {w : World} (hl : 0 ≤ left) (hl2 : left ≤ 1048576) (h : At (cSlice cEdg) w l [.slice a0 l.length cap0]) :
    Calls Tryd.prog 28 #[.slice a0 l.length cap0, .int .i64 left] w fun e w' => e = .returned (.int .i64 (szR left l.length)) ∧ Below w.heap.size w w' := by
  have hm := (slice_len h).2
  unfold maxLen at hm
  have hw : wrap64 (left - (l.length : Int)) = left - (l.length : Int) := IntWalk.wrap64_in _ ⟨by omega, by omega⟩
  unfold szR
  by_cases h : left - (l.length : Int) < 0
  · rw [if_pos h]
    go_enter Tryd.func28, Tryd.ntmps28
    go_wp2
    go_ret
    exact ⟨rfl, Below.refl _ _⟩
  · rw [if_neg h]
    go_enter Tryd.func28, Tryd.ntmps28
    go_wp2
    go_ret
    exact ⟨rfl, Below.refl _ _⟩
theorem zConflictEdge_at (A : List Value) (k n : Nat) (h : A.length = k * 2) (hk : k < n) : (A ++ (List.replicate (n - k) ([.int .i64 0, .int .i64 0] : List Value)).flatten)[k * 2]? = some (.int .i64 0) ∧ (A ++ (List.replicate (n - k) ([.int .i64 0, .int .i64 0] : List Value)).flatten)[k * 2 + 1]? = some (.int .i64 0) := by
  have e1 : n - k = (n - (k + 1)) + 1 := by omega
  rw [e1, List.replicate_succ, List.flatten_cons]
  refine ⟨?_, ?_⟩
  · rw [List.getElem?_append_right (by omega)]; simp [h]
  · rw [List.getElem?_append_right (by omega)]; simp [h]
theorem zConflictEdge_step (A : List Value) (k n : Nat) (h : A.length = k * 2) (hk : k < n) (v0 v1 : Value) : ((A ++ (List.replicate (n - k) ([.int .i64 0, .int .i64 0] : List Value)).flatten).set (k * 2) v0).set (k * 2 + 1) v1 = (A ++ [v0, v1]) ++ (List.replicate (n - (k + 1)) ([.int .i64 0, .int .i64 0] : List Value)).flatten := by
  have e1 : n - k = (n - (k + 1)) + 1 := by omega
  rw [e1, List.replicate_succ, List.flatten_cons]
  rw [List.set_append_right _ _ (by omega), List.set_append_right _ _ (by omega)]
  simp [h]
theorem zConflictEdge_made (n : Nat) : (madeCells #[.int .i64 0, .int .i64 0] (n * 2)).toList = (List.replicate n [.int .i64 0, .int .i64 0]).flatten := by
  induction n with
  | zero => simp [madeCells]
  | succ n ih =>
    rw [List.replicate_succ', List.flatten_append, ← ih]
    unfold madeCells
    simp [Array.range_succ, Array.toList_range, Nat.add_mod, Nat.mul_mod_left, Nat.succ_mul]
theorem Tryd.infoConflictEdge : (Tryd.prog.info? 89).map (fun i => (i.zero, i.size, i.bytes)) = some (some (.agg #[.int .i64 0, .int .i64 0]), 2, 16) := by kernel_rfl
set_option maxHeartbeats 1600000 in
theorem toConflictEdgeS_c {a0 : Option Addr} {cap0 : Nat} {l : List Edg} {w : World} (hs : l.length ≤ 1048576) (h : At (cSlice cEdg) w l [.slice a0 l.length cap0]) :
    Calls Tryd.prog 30 #[.slice a0 l.length cap0] w fun e w' => (∃ a' cap', e = .returned (.slice a' l.length cap') ∧ Own (cSlice cEdg) w.heap.size w' l [.slice a' l.length cap']) ∧ Below w.heap.size w w' := by
  obtain ⟨n, hn⟩ : ∃ n : Nat, l.length = n := ⟨_, rfl⟩
  have Hn := Lib.hid hn
  have Hr : Hid (∀ w' : World, Below w.heap.size w w' → ∀ j (hj : j < l.length), _) := fun w' hb j hj => at_ConflictEdge (Cod.ok_below h hb) j hj
  rw [hn] at hs ⊢
  clear hn h
  obtain ⟨i0, hi, hz0, hz1, hz2⟩ := info_parts Tryd.infoConflictEdge
  go_enter Tryd.func30, Tryd.ntmps30
  go_wp2_with (at_make; refine wpList_make_full _ rfl (.tmp 6) (.tmp 6) 56 rfl w.heap.size 89 i0 (.agg #[.int .i64 0, .int .i64 0]) 2 Tryd.underlying56 hi hz0 hz1 .i64 .i64 n n n rfl rfl rfl rfl ?c1 ?c2 (Nat.le_refl _) ?_)
  case c1 => rw [hz2]; omega
  case c2 => unfold maxLen; omega
  intro w1 hown hg1
  rw [show (madeCells #[.int .i64 0, .int .i64 0] (n * 2)).toList = [].flatten ++ (List.replicate (n - 0) [.int .i64 0, .int .i64 0]).flatten by rw [zConflictEdge_made]; simp] at hown
  have hb0 : Below w.heap.size w w1 := (Below.refl _ _).grown hg1 (Nat.le_refl _) (fun k hk => by cases hk)
  clear hg1 hi hz0 hz1 hz2
  go_wp2
  go_loopw [4] (fun iv wr => ∃ (k : Nat) (F : List Nat) (css : List (List Value)), k ≤ n ∧ iv = .int .i64 k ∧ ownL cEdg F wr (l.take k) css ∧ (∀ x, x ∈ F → w.heap.size < x ∧ x < wr.heap.size) ∧ wr.ownsRow w.heap.size 89 2 (.slice (some ⟨w.heap.size, 0, none⟩) n n) n (css.flatten ++ (List.replicate (n - k) [.int .i64 0, .int .i64 0]).flatten) ∧ Below w.heap.size w wr) (fun iv _ => n - (intOf iv).toNat)
  case atStart => exact ⟨0, [], [], by omega, by go_num, ownL_nil _, by simp, hown, hb0⟩
  case round =>
    clear hown hb0
    obtain ⟨k, F, css, hk, rfl, hL, hF, hown, hb⟩ := hrel
    by_cases hlt : k < n
    · have hkl : k < l.length := by rw [Hn.out]; exact hlt
      obtain ⟨b, off, rfl, hbB, c0, c1, hx⟩ := Hr.out _ hb k hkl
      have Hc : Hid (∀ ww, Below w.heap.size wr ww → Calls Tryd.prog 63 #[.agg #[.int .i64 l[k].a, .int .i64 l[k].b]] ww fun e w' => (e = .returned (.agg #[.int .i64 l[k].a, .int .i64 l[k].b]) ∧ Own cEdg ww.heap.size w' l[k] [.int .i64 l[k].a, .int .i64 l[k].b]) ∧ Below ww.heap.size ww w') :=
        fun ww hw2 => toConflictEdge_c (cEdg.keep hx (fun k hk => hw2.block k hk) (Nat.le_trans hb.size hw2.size))
      have hlen : css.flatten.length = k * 2 := by
        have := (ownL_len hL).2
        rw [List.length_take, Nat.min_eq_left (by omega)] at this
        exact this
      have Hat := Lib.hid (zConflictEdge_at css.flatten k n hlen hlt)
      have Hstep := Lib.hid (zConflictEdge_step css.flatten k n hlen hlt)
      have Htake : Hid (l.take (k + 1) = l.take k ++ [l[k]]) := List.take_succ_eq_append_getElem hkl
      have HL := Lib.hid hL
      have HF := Lib.hid hF
      have Hown := Lib.hid hown
      clear hx hL hF hlen hown
      generalize l[k] = r at *
      go_wp2_with fail
      refine (Hc.out _ (Below.refl _ _)).mono ?_
      rintro e w2 ⟨⟨rfl, ho⟩, hb2⟩
      have hown2 := ownsRow_below Hown.out hb2
      have Hown2 := Lib.hid hown2
      have hgw : w.heap.size < wr.heap.size := (Hown.out.lt _ rfl).2
      have f0 := hown2.frozenAt (k * 2)
      have d0 := (hown2.cellAt (k * 2) (by omega)).trans Hat.out.1
      have f1 := hown2.frozenAt (k * 2 + 1)
      have d1 := (hown2.cellAt (k * 2 + 1) (by omega)).trans Hat.out.2
      have Ho := Lib.hid ho
      have hbw : Below w.heap.size w w2 := hb.trans (hb2.mono hb.size)
      clear ho hown2
      go_wp2
      go_roundw
      case rel =>
        obtain ⟨G, hG1, hG2⟩ := Ho.out
        have hown2 := Hown2.out
        have s0 := (hown2.stored (k * 2) (.int .i64 r.a)).1
        have s1 := (s0.stored (k * 2 + 1) (.int .i64 r.b)).1
        rw [Hstep.out] at s1
        have hkeep : ∀ kk, kk ≠ w.heap.size → ((w2.setCell ⟨w.heap.size, k * 2, none⟩ (.int .i64 r.a)).setCell ⟨w.heap.size, k * 2 + 1, none⟩ (.int .i64 r.b)).heap[kk]? = w2.heap[kk]? := fun kk hne => (heap_setCell_other _ ⟨w.heap.size, k * 2 + 1, none⟩ _ _ hne).trans ((heap_setCell_other _ ⟨w.heap.size, k * 2, none⟩ _ _ hne).trans (rfl))
        refine ⟨k + 1, F ++ G, css ++ [[.int .i64 r.a, .int .i64 r.b]], by omega, by go_num, ?_, ?_, ?_, ((hbw).setCell (Nat.le_refl _) _).setCell (Nat.le_refl _) _⟩
        · rw [Htake.out]
          refine ownL_snoc (cEdg.keepO hG1 (fun kk hkk => hkeep kk (by have := (hG2 kk hkk).1; omega))) (ownL_keep (ownL_below HL.out hb2 (fun kk hkk => (HF.out kk hkk).2)) (fun kk hkk => hkeep kk (by have := (HF.out kk hkk).1; omega))) ?_
          intro kk hkk hg
          have := (HF.out kk hkk).2
          have := (hG2 kk hg).1
          omega
        · intro x hx
          simp only [World.setCell, Array.size_modify]
          rcases List.mem_append.1 hx with hx | hx
          · have := HF.out x hx; have := hb2.size; omega
          · have := hG2 x hx; omega
        · simpa using s1
      case measure => simp [intOf]; omega
    · obtain rfl : k = n := by omega
      have hlk : l.take k = l := List.take_of_length_le (by rw [Hn.out]; exact Nat.le_refl _)
      rw [hlk] at hL
      rw [Nat.sub_self, List.replicate_zero, List.flatten_nil, List.append_nil] at hown
      clear hlk
      go_wp2
      go_ret
      refine ⟨⟨_, _, rfl, ?_⟩, hb⟩
      have hlen : l.length = k := Hn.out
      subst hlen
      exact Own.slice (c := cEdg) hL hown (fun x hx => by have := hF x hx; omega) (by unfold maxLen; omega)
set_option maxHeartbeats 1600000 in
theorem eqConflictEdgeS_c {a0 a0' : Option Addr} {cap0 cap0' : Nat} {l m : List Edg} {w : World} (h : At (cSlice cEdg) w l [.slice a0 l.length cap0]) (h' : At (cSlice cEdg) w m [.slice a0' m.length cap0']) :
    Calls Tryd.prog 32 #[.slice a0 l.length cap0, .slice a0' m.length cap0'] w fun e w' => e = .returned (.bool (decide (l = m))) ∧ Below w.heap.size w w' := by
  have hm := (slice_len h).2
  have hm' := (slice_len h').2
  unfold maxLen at hm hm'
  by_cases hne : l.length = m.length
  · obtain ⟨n, hn⟩ : ∃ n : Nat, l.length = n := ⟨_, rfl⟩
    have Hr : Hid (∀ w' : World, Below w.heap.size w w' → ∀ j (hj : j < l.length), _) := fun w' hb j hj => at_ConflictEdge (Cod.ok_below h hb) j hj
    have Hr' : Hid (∀ w' : World, Below w.heap.size w w' → ∀ j (hj : j < m.length), _) := fun w' hb j hj => at_ConflictEdge (Cod.ok_below h' hb) j hj
    clear h h'
    rw [← hne, hn]
    have Hn := Lib.hid hn
    have Hm : Hid (m.length = n) := by rw [← hne]; exact hn
    have hm2 : n ≤ 2 ^ 63 - 1 := by omega
    generalize hR : decide (l = m) = R
    have HR : Hid (decide (l.drop 0 = m.drop 0) = R) := hR
    clear hR hne hn hm hm'
    go_enter Tryd.func32, Tryd.ntmps32
    go_wp2
    go_loopw [5] (fun iv wr => ∃ k : Nat, k ≤ n ∧ iv = .int .i64 k ∧ Hid (decide (l.drop k = m.drop k) = R) ∧ Below w.heap.size w wr) (fun iv _ => n - (intOf iv).toNat)
    case atStart => exact ⟨0, by omega, by go_num, HR, Below.refl _ _⟩
    case round =>
      clear HR
      obtain ⟨k, hk, rfl, Hq, hb⟩ := hrel
      by_cases hlt : k < n
      · have hkl : k < l.length := by rw [Hn.out]; exact hlt
        have hkm : k < m.length := by rw [Hm.out]; exact hlt
        have Hst : Hid (R = (decide (l[k] = m[k]) && decide (l.drop (k + 1) = m.drop (k + 1)))) := by
          show R = _
          rw [← Hq.out, ← Bool.decide_and]; congr 1; rw [List.drop_eq_getElem_cons hkl, List.drop_eq_getElem_cons hkm, List.cons.injEq]
        obtain ⟨b, off, rfl, hbB, c0, c1, hx⟩ := Hr.out _ hb k hkl
        obtain ⟨b', off', rfl, hbB', e0, e1, hy⟩ := Hr'.out _ hb k hkm
        have Hc : Hid (∀ ww, Below w.heap.size wr ww → Calls Tryd.prog 67 #[.agg #[.int .i64 l[k].a, .int .i64 l[k].b], .agg #[.int .i64 m[k].a, .int .i64 m[k].b]] ww fun e w' => e = .returned (.bool (decide (l[k] = m[k]))) ∧ Below ww.heap.size ww w') :=
          fun ww hw2 => eqConflictEdge_c (cEdg.keep hx (fun k hk => hw2.block k hk) (Nat.le_trans hb.size hw2.size)) (cEdg.keep hy (fun k hk => hw2.block k hk) (Nat.le_trans hb.size hw2.size))
        clear hx hy Hq
        generalize l[k] = r at *
        generalize m[k] = r' at *
        generalize decide (r = r') = z at *
        cases z with
        | true =>
          go_wp2_with fail
          go_region_with (go_at_call 67; refine (Hc.out _ ?hww).mono ?_; (case hww => first | exact Below.refl _ _ | exact (Below.refl _ _).drew | exact Below.drewN' (Below.refl _ _) _); rintro e w1 ⟨rfl, hb1⟩)
          all_goals
            go_wp2
            go_roundw
            case rel =>
              have h := Hst.out
              rw [Bool.true_and] at h
              exact ⟨k + 1, by omega, by go_num, h.symm, hb.drew.trans (hb1.mono hb.size)⟩
            case measure => simp [intOf]; omega
        | false =>
          have hR : R = false := by have h := Hst.out; rw [Bool.false_and] at h; exact h
          go_wp2_with fail
          go_region_with (go_at_call 67; refine (Hc.out _ ?hww).mono ?_; (case hww => first | exact Below.refl _ _ | exact (Below.refl _ _).drew | exact Below.drewN' (Below.refl _ _) _); rintro e w1 ⟨rfl, hb1⟩)
          all_goals
            go_wp2
            go_ret
            exact ⟨by rw [hR]; rfl, hb.drew.trans (hb1.mono hb.size)⟩
      · obtain rfl : k = n := by omega
        have hR : R = true := by
          have := Hq.out
          rw [List.drop_eq_nil_of_le (by rw [Hn.out]; exact Nat.le_refl _), List.drop_eq_nil_of_le (by rw [Hm.out]; exact Nat.le_refl _)] at this
          simpa using this.symm
        go_wp2
        go_ret
        exact ⟨by rw [hR]; rfl, hb⟩
  · rw [decide_eq_false (fun e => hne (by rw [e]))]
    have hne2 : (l.length != m.length) = true := by simpa using hne
    go_enter Tryd.func32, Tryd.ntmps32
    go_wp2
    go_ret
    exact ⟨rfl, Below.refl _ _⟩
/-- The leaves of such a slice. -/
def sumAtom (l : List Atm) : Nat := (l.map fun x => x.terms.length).sum
/-- The size of such a slice: its length and its leaves. -/
def sizeAtomS (l : List Atm) : Nat := l.length + sumAtom l
end Go.Proofs.YtgipcnofonejcaaDoor
namespace Go.Proofs.YtgipcnofonejcaaDoor
open Go.RowKit
set_option linter.unusedVariables false
set_option maxRecDepth 100000
/-- A query: its number of variables, its atoms, its free variables. -/
structure Qry where
  vars : Int
  atoms : List Atm
  free : List Int
deriving DecidableEq
def cQry : Cod Qry := cMap (fun x => (x.vars, (x.atoms, x.free))) (cPair cInt (cPair (cSlice cAtm) (cSlice cInt)))
/-- Its size: its leaves behind slices. -/
def sizeQuery (x : Qry) : Nat := sizeAtomS x.atoms + (x.free.length)
end Go.Proofs.YtgipcnofonejcaaDoor
end

section
/- RowTwo: RowT RowU. -/
/- The readings of the laws' own types, as a row reads them. -/
namespace Go.Proofs.YtgipcnofonejcaaDoor
open Go.RowKit Go.Deep
set_option linter.unusedVariables false
set_option maxRecDepth 100000

theorem Tryd.cells_int : Tryd.prog.cellsOf 3 = 1 := by kernel_rfl
section
variable {H : Type} {enc : TypeId × Value → H} {w : World} {base : Nat} {spare : Nat → Bool} {held : Bool}
end
end Go.Proofs.YtgipcnofonejcaaDoor

/- The readings of the laws' own types, as a row reads them: constraints, edges, atoms, queries. -/
namespace Go.Proofs.YtgipcnofonejcaaDoor
open Go.RowKit Go.Deep
set_option linter.unusedVariables false
set_option maxRecDepth 100000

section
variable {H : Type} {enc : TypeId × Value → H} {w : World} {base : Nat} {spare : Nat → Bool} {held : Bool}
theorem Tryd.cells_ConflictEdge : Tryd.prog.cellsOf 91 = 2 := by kernel_rfl
theorem rd_ConflictEdge {fuel : Nat} {cs : List Value} {x : DataW H × List MemPlace} (h : DataW.trod enc Tryd.prog w base spare held fuel 91 cs = some x) : ∃ y, cEdg.ok w.heap.size w y cs := by
  obtain ⟨xs, n, _, rfl, hl, hlen, hf⟩ := DataW.trod_struct Tryd.underlying91 h
  rw [Tryd.cells_ConflictEdge] at hl
  have h0 := hf 0 _ rfl
  rw [List.getElem?_eq_getElem (by rw [hlen]; decide)] at h0
  have h1 := hf 1 _ rfl
  rw [List.getElem?_eq_getElem (by rw [hlen]; decide)] at h1
  match cs, hl with
  | [v0, v1], _ =>
    simp only [Tryd.cells_int, List.getElem_toArray, List.getElem_cons_zero, List.getElem_cons_succ, List.drop_zero, List.drop_succ_cons, List.take_succ_cons, List.take_zero] at h0 h1
    obtain ⟨y0, k0⟩ := rd_int Tryd.underlying3 h0
    obtain ⟨y1, k1⟩ := rd_int Tryd.underlying3 h1
    exact ⟨⟨y0, y1⟩, [_], _, rfl, k0, k1⟩
theorem row_ConflictEdgeS {r0 : Reach} {b0 : Nat} {v : Value} {d : DataW H} {ps : List MemPlace} (hval : Value.okWide Tryd.prog w r0 b0 53 v) (h : DataW.Trod enc Tryd.prog w base spare held 53 v d ps) : ∃ a cap l, v = .slice a l.length cap ∧ At (cSlice cEdg) w l [.slice a l.length cap] := row_slice Tryd.underlying53 Tryd.cells_ConflictEdge (by decide) (fun _ _ _ h => rd_ConflictEdge h) hval h
end
end Go.Proofs.YtgipcnofonejcaaDoor
end

section
/- A region that draws its order, whose operations read and whose callees make memory of their own and hand back a plain value: one walk, in the order of the text. -/
namespace Go.Proofs.YtgipcnofonejcaaDoor
open Go.RowKit
set_option linter.unusedVariables false
set_option maxRecDepth 100000

/-- A world in which all that stood in w stands as it did. -/
structure Grow (w : World) where
  W : World
  below : Below w.heap.size w W
instance {w : World} : Nonempty (Grow w) := ⟨⟨w, Below.refl _ _⟩⟩
theorem grow_cell {w : World} {p : Addr} {v : Value} (h : w.cell? p = some v) : ∀ s : Grow w, s.W.cell? p = some v :=
  fun s => (s.below.cell (World.block_lt_of_cell? w _ h)).trans h
theorem wp_region_grow {P : Program} {id : Nat} {Q : Exit → Act → World → Prop} {a : Act} {w : World} {l : List Oper} (hm : P.follows .mixedOrders = true) (hB : Region.lexB .any l.toArray = true)
    (h : wpQuiet P l.toArray (fun w' => ∃ s : Grow w, w' = s.W) (fun a' => ∀ w', (∃ s : Grow w, w' = s.W) → Q .normal a' w') l a) : (Code.region id l.toArray true).wp P Q a w :=
  wp_region_quiet (C := fun w' => ∃ s : Grow w, w' = s.W) hm hB ⟨⟨w.drew, (Below.refl _ _).drew⟩, rfl⟩ (by simpa using h)
theorem Calls.grow {P : Program} {f : FuncId} {args : Array Value} {w : World} {s : Grow w} {v : Value} (h : ∀ ww, Below w.heap.size w ww → Calls P f args ww fun e w' => e = .returned v ∧ Below ww.heap.size ww w') :
    Calls P f args s.W fun e w'' => e = .returned v ∧ ∃ s' : Grow w, w'' = s'.W :=
  (h s.W s.below).mono fun _ w' ⟨he, hb⟩ => ⟨he, ⟨w', s.below.trans (hb.mono s.below.size)⟩, rfl⟩
end Go.Proofs.YtgipcnofonejcaaDoor
end

section
/- MarkOne: MarkA MarkB MarkC MarkD. -/
/- The laws' marks: numbers written into every place of a datum, and read again. The text of a mark, marks in a slice of numbers. -/
namespace Go.Proofs.YtgipcnofonejcaaDoor
open Go.RowKit
set_option linter.unusedVariables false
set_option maxRecDepth 100000

/-- From w to w' nothing has turned but in the blocks F, and what is new. -/
structure Only (F : List Nat) (w w' : World) : Prop where
  os : w'.os = w.os
  tape : w'.tape = w.tape
  output : w'.output = w.output
  size : w.heap.size ≤ w'.heap.size
  block : ∀ k, k < w.heap.size → k ∉ F → w'.heap[k]? = w.heap[k]?
theorem Only.refl (F : List Nat) (w : World) : Only F w w := ⟨rfl, rfl, rfl, Nat.le_refl _, fun _ _ _ => rfl⟩
theorem Only.trans {F G H : List Nat} {a b c : World} (h : Only F a b) (k : Only G b c) (hF : ∀ x, x ∈ F → x ∈ H) (hG : ∀ x, x ∈ G → x ∈ H) : Only H a c :=
  ⟨k.os.trans h.os, k.tape.trans h.tape, k.output.trans h.output, Nat.le_trans h.size k.size, fun i hi hn => (k.block i (Nat.lt_of_lt_of_le hi h.size) (fun x => hn (hG i x))).trans (h.block i hi (fun x => hn (hF i x)))⟩
theorem Only.setCell {F : List Nat} {a w : World} (h : Only F a w) {p : Addr} (hp : p.block ∈ F) (u : Value) : Only F a (w.setCell p u) :=
  h.trans (G := [p.block]) (H := F) ⟨rfl, rfl, rfl, by simp [World.setCell], fun k hk hn => Below.heap_setCell _ _ _ _ (by simpa using hn)⟩ (fun _ h => h) (fun x hx => by simp at hx; exact hx ▸ hp)
theorem Only.below {F : List Nat} {w w' : World} {B : Nat} (h : Only F w w') (hF : ∀ k, k ∈ F → B ≤ k) (hB : B ≤ w.heap.size) : Below B w w' :=
  ⟨h.os, h.tape, h.output, h.size, fun k hk => h.block k (by omega) (fun hm => by have := hF k hm; omega)⟩
/-- A step that turns the blocks F alone, seen from what stands elsewhere. -/
theorem OwnIn.only {α : Type} {c : Cod α} {lo hi lo' hi' : Nat} {F : List Nat} {w w' : World} {x : α} {cs : List Value} (h : OwnIn c lo hi w x cs) (ho : Only F w w') (hF : ∀ k, k ∈ F → lo' ≤ k ∧ k < hi') (hs : hi ≤ w.heap.size) (hd : hi ≤ lo' ∨ hi' ≤ lo) : OwnIn c lo hi w' x cs := by
  obtain ⟨G, h1, h2⟩ := h
  exact ⟨G, c.keepO h1 (fun k hk => ho.block k (by have := (h2 k hk).2; omega) (fun hm => by have := h2 k hk; have := hF k hm; omega)), h2⟩
theorem OwnIn.at {α : Type} {c : Cod α} {lo hi : Nat} {w : World} {x : α} {cs : List Value} (h : OwnIn c lo hi w x cs) (hs : hi ≤ w.heap.size) : At c w x cs := by
  obtain ⟨G, h1, h2⟩ := h
  exact c.ofO h1 (fun k hk => by have := (h2 k hk).2; omega)
theorem OwnIn.next {α : Type} {c : Cod α} {lo hi : Nat} {w W w' : World} {x : α} {cs : List Value} (h : OwnIn c lo hi w x cs) (hs : hi ≤ w.heap.size) (hb : Below W.heap.size W w') (hW : W.heap = w.heap := by rfl) : OwnIn c lo hi w' x cs := by
  obtain ⟨G, h1, h2⟩ := h
  exact ⟨G, c.keepO h1 (fun k hk => by rw [← hW]; exact hb.block k (by rw [hW]; have := (h2 k hk).2; omega)), h2⟩
/-- The digits of what is left, ahead of those in hand. -/
def mpre (q : Nat) (acc : List UInt8) : List UInt8 := if q = 0 then acc else Lib.decDigits q ++ acc
/-- The text of mark m. -/
def mT (m : Nat) : ByteArray := str (109 :: Lib.decDigits m)
end Go.Proofs.YtgipcnofonejcaaDoor

/- The laws' marks in slices: a slice of the call's own, element by element; marks in a slice of numbers. -/
namespace Go.Proofs.YtgipcnofonejcaaDoor
open Go.RowKit
set_option linter.unusedVariables false
set_option maxRecDepth 100000

/-- A slice of the call's own that is not empty, laid open: its block g, its first place off, each element's blocks G and cells es. -/
structure SL {α : Type} (c : Cod α) (F : List Nat) (g off : Nat) (G : Nat → List Nat) (es : Nat → List Value) (w : World) (l : List α) : Prop where
  gF : g ∈ F
  lt : ∀ k, k ∈ F → k < w.heap.size
  sub : ∀ j, j < l.length → ∀ k, k ∈ G j → k ∈ F ∧ k ≠ g
  dis : ∀ i j, i < l.length → j < l.length → i ≠ j → ∀ k, k ∈ G i → k ∉ G j
  fr : ∀ j, j < l.length * c.n → w.frozen? ⟨g, off + j, none⟩ = false
  el : ∀ j (hj : j < l.length), c.own (G j) w l[j] (es j) ∧ ∀ i, i < c.n → w.cell? ⟨g, off + j * c.n + i, none⟩ = (es j)[i]?
variable {α : Type} {c : Cod α}
theorem SL.of_own {F : List Nat} {w : World} {l : List α} {a : Option Addr} {n cap : Nat} (h : (cSlice c).own F w l [.slice a n cap]) (hl : ∀ k, k ∈ F → k < w.heap.size) (h0 : 0 < l.length) :
    ∃ g off G es, a = some ⟨g, off, none⟩ ∧ SL c F g off G es w l := by
  obtain ⟨a', cap', e, hm, h⟩ := h
  simp at e
  obtain ⟨rfl, rfl, rfl⟩ := e
  rcases h with ⟨rfl, _⟩ | ⟨g, off, G, rfl, h1, h2, h3, h4, h5, h6⟩
  · simp at h0
  · have hex : ∀ j, ∃ es, ∀ hj : j < l.length, c.own (G j) w l[j] es ∧ ∀ i, i < c.n → w.cell? ⟨g, off + j * c.n + i, none⟩ = es[i]? := by
      intro j
      by_cases hj : j < l.length
      · obtain ⟨es, h⟩ := h6 j hj
        exact ⟨es, fun _ => h⟩
      · exact ⟨[], fun h => absurd h hj⟩
    exact ⟨g, off, G, fun j => Classical.choose (hex j), rfl, ⟨h1, hl, h3, h4, h5, fun j hj => Classical.choose_spec (hex j) hj⟩⟩
theorem SL.own {F : List Nat} {g off : Nat} {G : Nat → List Nat} {es : Nat → List Value} {w : World} {l : List α} (h : SL c F g off G es w l) (cap : Nat) (hm : l.length ≤ maxLen ∧ l.length ≤ cap) :
    (cSlice c).own F w l [.slice (some ⟨g, off, none⟩) l.length cap] :=
  ⟨_, _, rfl, hm, .inr ⟨g, off, G, rfl, h.gF, h.lt g h.gF, h.sub, h.dis, h.fr, fun j hj => ⟨es j, h.el j hj⟩⟩⟩
theorem SL.upd {F : List Nat} {g off : Nat} {G : Nat → List Nat} {es : Nat → List Value} {w w' : World} {l : List α} (h : SL c F g off G es w l) (j : Nat) (hj : j < l.length) (x' : α) (es' : List Value)
    (hsz : w.heap.size ≤ w'.heap.size) (hfr : ∀ i, w'.frozen? ⟨g, i, none⟩ = w.frozen? ⟨g, i, none⟩) (hcell : ∀ i, i < off + j * c.n ∨ off + j * c.n + c.n ≤ i → w'.cell? ⟨g, i, none⟩ = w.cell? ⟨g, i, none⟩)
    (hblk : ∀ k, k ∈ F → k ≠ g → k ∉ G j → w'.heap[k]? = w.heap[k]?) (hown : c.own (G j) w' x' es') (hc : ∀ i, i < c.n → w'.cell? ⟨g, off + j * c.n + i, none⟩ = es'[i]?) :
    SL c F g off G (fun q => if q = j then es' else es q) w' (l.set j x') := by
  refine ⟨h.gF, fun k hk => Nat.lt_of_lt_of_le (h.lt k hk) hsz, ?_, ?_, ?_, ?_⟩
  · simpa using h.sub
  · simpa using h.dis
  · intro i hi; rw [hfr]; exact h.fr i (by simpa using hi)
  · intro q hq
    have hq' : q < l.length := by simpa using hq
    by_cases he : q = j
    · subst he
      simp only [List.getElem_set_self, if_true]
      exact ⟨hown, hc⟩
    · simp only [List.getElem_set_ne (Ne.symm he), if_neg he]
      obtain ⟨h1, h2⟩ := h.el q hq'
      refine ⟨c.keepO h1 (fun k hk => hblk k (h.sub q hq' k hk).1 (h.sub q hq' k hk).2 (h.dis q j hq' hj he k hk)), fun i hi => ?_⟩
      rw [hcell, h2 i hi]
      rcases Nat.lt_or_gt_of_ne he with hlt | hgt
      · left
        have : (q + 1) * c.n ≤ j * c.n := Nat.mul_le_mul_right _ hlt
        rw [Nat.succ_mul] at this
        omega
      · right
        have : (j + 1) * c.n ≤ q * c.n := Nat.mul_le_mul_right _ hgt
        rw [Nat.succ_mul] at this
        omega

/-- Marks in a list: each element marked from the count that is reached. -/
def markL (mk : Nat → α → α) (lv : α → Nat) : Nat → List α → List α
  | _, [] => []
  | k, x :: l => mk k x :: markL mk lv (k + lv x) l
/-- The leaves of a list. -/
def lvs (lv : α → Nat) (l : List α) : Nat := (l.map lv).sum
theorem markL_length (mk : Nat → α → α) (lv : α → Nat) (k : Nat) (l : List α) : (markL mk lv k l).length = l.length := by
  induction l generalizing k with
  | nil => rfl
  | cons x l ih => simp [markL, ih]
theorem lvs_drop (lv : α → Nat) (l : List α) (j : Nat) (hj : j < l.length) : lvs lv (l.drop j) = lv l[j] + lvs lv (l.drop (j + 1)) := by
  unfold lvs; rw [List.drop_eq_getElem_cons hj, List.map_cons, List.sum_cons]
theorem lvs_nil (lv : α → Nat) : lvs lv [] = 0 := rfl
theorem markL_drop (mk : Nat → α → α) (lv : α → Nat) (k : Nat) (l : List α) (j : Nat) (hj : j < l.length) : markL mk lv k (l.drop j) = mk k l[j] :: markL mk lv (k + lv l[j]) (l.drop (j + 1)) := by
  rw [List.drop_eq_getElem_cons hj]; rfl
theorem set_mid (dn r : List α) (x y : α) (j : Nat) (h : dn.length = j) : (dn ++ x :: r).set j y = (dn ++ [y]) ++ r := by
  subst h; simp
theorem get_mid (dn r : List α) (x : α) (j : Nat) (h : dn.length = j) (hj : j < (dn ++ x :: r).length) : (dn ++ x :: r)[j] = x := by
  subst h; simp

/-- Marks in a list of numbers. -/
def markI (k : Nat) (l : List Int) : List Int := markL (fun k _ => (k : Int)) (fun _ => 1) k l
theorem markI_length (k : Nat) (l : List Int) : (markI k l).length = l.length := markL_length _ _ _ _
set_option maxHeartbeats 800000 in
theorem markIntS_c {F : List Nat} {a : Option Addr} {cap : Nat} {l : List Int} {k : Nat} {w : World} (hk : (k + l.length : Nat) ≤ 4611686018427387904) (hF : ∀ k, k ∈ F → k < w.heap.size) (h : (cSlice cInt).own F w l [.slice a l.length cap]) :
    Calls Tryd.prog 26 #[.slice a l.length cap, .int .i64 k] w fun e w' => e = .returned (.int .i64 ((k + l.length : Nat) : Int)) ∧ (cSlice cInt).own F w' (markI k l) [.slice a l.length cap] ∧ Only F w w' := by
  have hm := (own_slice_len h).1
  have Hcp := Lib.hid (own_slice_len h).2
  rcases Nat.eq_zero_or_pos l.length with h0 | h0
  · have hl := List.eq_nil_of_length_eq_zero h0
    subst hl
    have Ho := Lib.hid h
    clear h hm h0
    simp only [List.length_nil] at *
    go_enter Tryd.func26, Tryd.ntmps26
    go_wp2
    go_loopw [1, 5] (fun kv iv wr => kv = .int .i64 k ∧ iv = .int .i64 0 ∧ wr = w) (fun _ _ _ => 0)
    case atStart => exact ⟨rfl, rfl, rfl⟩
    case round =>
      obtain ⟨rfl, rfl, rfl⟩ := hrel
      go_wp2
      go_ret
      exact ⟨rfl, Ho.out, Only.refl _ _⟩
  · obtain ⟨g, off, G, es, rfl, hS⟩ := SL.of_own h hF h0
    clear h h0
    obtain ⟨n, hn⟩ : ∃ n : Nat, l.length = n := ⟨_, rfl⟩
    have Hn := Lib.hid hn
    rw [hn] at hk ⊢
    unfold maxLen at hm
    rw [hn] at hm
    clear hn
    generalize hM : markI k l = M
    have HM : Hid ([] ++ markL (fun k _ => (k : Int)) (fun _ => 1) k (l.drop 0) = M) := hM
    have HS : Hid (SL cInt F g off G es w ([] ++ l.drop 0)) := hS
    have HgF : Hid (g ∈ F) := hS.gF
    clear hM hS hF
    go_enter Tryd.func26, Tryd.ntmps26
    go_wp2
    go_loopw [1, 5] (fun kv iv wr => ∃ (j : Nat) (dn : List Int) (es : Nat → List Value), j ≤ n ∧ kv = .int .i64 ((k + j : Nat) : Int) ∧ iv = .int .i64 j ∧ Hid (dn.length = j) ∧ Hid (dn ++ markL (fun k _ => (k : Int)) (fun _ => 1) (k + j) (l.drop j) = M) ∧ Hid (SL cInt F g off G es wr (dn ++ l.drop j)) ∧ Only F w wr) (fun _ iv _ => n - (intOf iv).toNat)
    case atStart => exact ⟨0, [], es, by omega, by go_num, by go_num, rfl, HM, HS, Only.refl _ _⟩
    case round =>
      clear HM HS
      obtain ⟨j, dn, es, hj, rfl, rfl, Hd, HM, HS, ho⟩ := hrel
      by_cases hlt : j < n
      · have hjl : j < l.length := by rw [Hn.out]; exact hlt
        have hdl := List.drop_eq_getElem_cons hjl
        have hjl2 : j < (dn ++ l.drop j).length := by rw [List.length_append, List.length_drop, Hd.out]; omega
        have hel := HS.out.el j hjl2
        have hfr := HS.out.fr j (by show j < _ * 1; omega)
        obtain ⟨⟨⟨he, _⟩, hG⟩, hc⟩ := hel
        have hc0 : wr.cell? ⟨g, off + j, none⟩ = some (.int .i64 (dn ++ l.drop j)[j]) := by
          have := hc 0 (by decide)
          rw [he] at this
          simpa [cInt] using this
        have Hc := Lib.hid hc0
        have HG := Lib.hid hG
        generalize (dn ++ l.drop j)[j] = z at hc0
        clear hc he hG
        go_wp2
        go_roundw
        case rel =>
          have hw : (wr.setCell ⟨g, off + j, none⟩ (.int .i64 ((k + j : Nat) : Int))).cell? ⟨g, off + j, none⟩ = some (.int .i64 ((k + j : Nat) : Int)) := World.cell?_setCell_same _ _ _ hc0
          have hu := HS.out.upd (w' := wr.setCell ⟨g, off + j, none⟩ (.int .i64 ((k + j : Nat) : Int))) j hjl2 ((k + j : Nat) : Int) [.int .i64 ((k + j : Nat) : Int)] (by simp [World.setCell]) (fun i => World.frozen?_setCell _ _ _ _)
            (fun i hi => World.cell?_setCell_other _ _ _ _ (by intro e; simp at e; have : cInt.n = 1 := rfl; rw [this] at hi; omega))
            (fun kk hk1 hk2 _ => heap_setCell_other _ _ _ _ hk2) ⟨⟨rfl, by unfold inR; omega⟩, HG.out⟩ (by
              intro i hi
              have : cInt.n = 1 := rfl
              rw [this] at hi
              obtain rfl : i = 0 := by omega
              simpa [this] using hw)
          rw [hdl, set_mid dn _ _ _ j Hd.out] at hu
          have hM2 := HM.out
          rw [markL_drop _ _ _ _ _ hjl] at hM2
          refine ⟨j + 1, dn ++ [((k + j : Nat) : Int)], _, by omega, by go_num, by go_num, show _ = _ by simp [Hd.out], show _ = _ by rw [← hM2]; simp [Nat.add_assoc], hu, ho.setCell HgF.out _⟩
        case measure => simp [intOf]; omega
      · obtain rfl : j = n := by omega
        have hd : l.drop j = [] := List.drop_eq_nil_of_le (by rw [Hn.out]; exact Nat.le_refl _)
        have hM2 := HM.out
        have hS2 := HS.out
        rw [hd] at hM2 hS2
        simp only [markL, List.append_nil] at hM2 hS2
        subst hM2
        have hown := hS2.own cap (by rw [Hd.out]; have hcp := Hcp.out; have hnn := Hn.out; unfold maxLen; exact ⟨by omega, by omega⟩)
        rw [Hd.out] at hown
        have Hown := Lib.hid hown
        clear hown hS2 hd
        go_wp2
        go_ret
        exact ⟨rfl, Hown.out, ho⟩
end Go.Proofs.YtgipcnofonejcaaDoor

/- The laws' marks, read again in slices of numbers; marks in relations. -/
namespace Go.Proofs.YtgipcnofonejcaaDoor
open Go.RowKit
set_option linter.unusedVariables false
set_option maxRecDepth 100000

theorem markI_get (k : Nat) (l : List Int) (j : Nat) (hj : j < (markI k l).length) : (markI k l)[j] = ((k + j : Nat) : Int) := by
  induction l generalizing k j with
  | nil => simp [markI, markL] at hj
  | cons x l ih =>
    cases j with
    | zero => simp [markI, markL]
    | succ j =>
      have := ih (k + 1) j (by simpa [markI, markL] using hj)
      simp only [markI, markL, List.getElem_cons_succ] at this ⊢
      rw [this]; omega
theorem heldIntS_c {a : Option Addr} {cap : Nat} {l : List Int} {k : Nat} {w : World} (hk : (k + l.length : Nat) ≤ 4611686018427387904) (hM : ∀ j (hj : j < l.length), l[j] = ((k + j : Nat) : Int)) (h : At (cSlice cInt) w l [.slice a l.length cap]) :
    Calls Tryd.prog 27 #[.slice a l.length cap, .int .i64 k] w fun e w' => e = .returned (.int .i64 ((k + l.length : Nat) : Int)) ∧ Below w.heap.size w w' := by
  have hm := (slice_len h).2
  unfold maxLen at hm
  obtain ⟨n, hn⟩ : ∃ n : Nat, l.length = n := ⟨_, rfl⟩
  have Hr : Hid (∀ w' : World, Below w.heap.size w w' → ∀ j (hj : j < l.length), _) := fun w' hb j hj => ints_at (Cod.ok_below h hb) j hj
  have HM := Lib.hid hM
  have Hn := Lib.hid hn
  rw [hn] at hk hm ⊢
  clear hn h hM
  go_enter Tryd.func27, Tryd.ntmps27
  go_wp2
  go_loopw [1, 5] (fun kv iv wr => ∃ j : Nat, j ≤ n ∧ kv = .int .i64 ((k + j : Nat) : Int) ∧ iv = .int .i64 j ∧ Below w.heap.size w wr) (fun _ iv _ => n - (intOf iv).toNat)
  case atStart => exact ⟨0, by omega, by go_num, by go_num, Below.refl _ _⟩
  case round =>
    obtain ⟨j, hj, rfl, rfl, hb⟩ := hrel
    by_cases hlt : j < n
    · have hjl : j < l.length := by rw [Hn.out]; exact hlt
      obtain ⟨b, off, rfl, hbB, c0⟩ := Hr.out _ hb j hjl
      rw [HM.out j hjl] at c0
      have hne : (((k + j : Nat) : Int) != ((k + j : Nat) : Int)) = false := bne_self_eq_false _
      go_wp2
      go_roundw
      case rel => exact ⟨j + 1, by omega, by go_num, by go_num, hb⟩
      case measure => simp [intOf]; omega
    · obtain rfl : j = n := by omega
      go_wp2
      go_ret
      exact ⟨rfl, hb⟩

/-- Marks in a relation; in a list of relations. -/
def markR (k : Nat) (_ : Rel) : Rel := ⟨mT k, ((k + 1 : Nat) : Int), ((k + 2 : Nat) : Int)⟩
def markRs (k : Nat) (l : List Rel) : List Rel := markL markR (fun _ => 3) k l
theorem inR_nat {k : Nat} (h : k ≤ 4611686018427387904) : inR (k : Int) := by unfold inR; omega
end Go.Proofs.YtgipcnofonejcaaDoor

/- The laws' marks, read again in relations; marks in facts and in slices of slices of numbers. -/
namespace Go.Proofs.YtgipcnofonejcaaDoor
open Go.RowKit
set_option linter.unusedVariables false
set_option maxRecDepth 100000

end Go.Proofs.YtgipcnofonejcaaDoor
end

section
/- MarkTwo: MarkE MarkF MarkG MarkH. -/
/- The laws' marks in facts. -/
namespace Go.Proofs.YtgipcnofonejcaaDoor
open Go.RowKit
set_option linter.unusedVariables false
set_option maxRecDepth 100000

end Go.Proofs.YtgipcnofonejcaaDoor
namespace Go.Proofs.YtgipcnofonejcaaDoor
open Go.RowKit
set_option linter.unusedVariables false
set_option maxRecDepth 100000
/-- Marks in a fact of a list. -/
def markF (k : Nat) (x : Fct) : Fct := ⟨(k : Int), markI (k + 1) x.vals⟩
/-- The leaves of a fact of a list. -/
def lvF (x : Fct) : Nat := x.vals.length + 1
def markFs (k : Nat) (l : List Fct) : List Fct := markL markF lvF k l
end Go.Proofs.YtgipcnofonejcaaDoor

/- The laws' marks, read again in slices of facts; marks in slices of slices of numbers and in databases. -/
namespace Go.Proofs.YtgipcnofonejcaaDoor
open Go.RowKit
set_option linter.unusedVariables false
set_option maxRecDepth 100000

theorem markL_at {α : Type} (mk : Nat → α → α) (lv : α → Nat) (q : Nat) (l M : List α) (j : Nat) (hj : j < l.length) (hM : j < M.length) (h : M.drop j = markL mk lv q (l.drop j)) : M[j] = mk q l[j] ∧ M.drop (j + 1) = markL mk lv (q + lv l[j]) (l.drop (j + 1)) := by
  rw [List.drop_eq_getElem_cons hM, markL_drop _ _ _ _ _ hj] at h
  simp only [List.cons.injEq] at h
  exact h
/-- Marks in a slice of slices of numbers. -/
def markIs (k : Nat) (l : List (List Int)) : List (List Int) := markL markI List.length k l
set_option maxHeartbeats 1600000 in
theorem markIntSS_c {F : List Nat} {a : Option Addr} {cap : Nat} {l : List (List Int)} {k : Nat} {w : World} (hk : (k + lvs List.length l : Nat) ≤ 4611686018427387900) (hF : ∀ k, k ∈ F → k < w.heap.size) (h : (cSlice (cSlice cInt)).own F w l [.slice a l.length cap]) :
    Calls Tryd.prog 18 #[.slice a l.length cap, .int .i64 k] w fun e w' => e = .returned (.int .i64 ((k + lvs List.length l : Nat) : Int)) ∧ (cSlice (cSlice cInt)).own F w' (markIs k l) [.slice a l.length cap] ∧ Only F w w' := by
  have hm := (own_slice_len h).1
  have Hcp := Lib.hid (own_slice_len h).2
  rcases Nat.eq_zero_or_pos l.length with h0 | h0
  · have hl := List.eq_nil_of_length_eq_zero h0
    subst hl
    have Ho := Lib.hid h
    clear h hm h0
    simp only [List.length_nil, lvs_nil] at *
    go_enter Tryd.func18, Tryd.ntmps18
    go_wp2
    go_loopw [1, 5] (fun kv iv wr => kv = .int .i64 k ∧ iv = .int .i64 0 ∧ wr = w) (fun _ _ _ => 0)
    case atStart => exact ⟨rfl, rfl, rfl⟩
    case round =>
      obtain ⟨rfl, rfl, rfl⟩ := hrel
      go_wp2
      go_ret
      exact ⟨rfl, Ho.out, Only.refl _ _⟩
  · obtain ⟨g, off, G, es, rfl, hS⟩ := SL.of_own h hF h0
    clear h h0
    obtain ⟨n, hn⟩ : ∃ n : Nat, l.length = n := ⟨_, rfl⟩
    have Hn := Lib.hid hn
    obtain ⟨K, hK⟩ : ∃ K : Nat, k + lvs List.length l = K := ⟨_, rfl⟩
    have HK : Hid (k + lvs List.length (l.drop 0) = K) := hK
    rw [hn]
    rw [hK] at hk ⊢
    unfold maxLen at hm
    rw [hn] at hm
    clear hn hK
    generalize hM : markIs k l = M
    have HM : Hid ([] ++ markL markI List.length k (l.drop 0) = M) := hM
    have HS : Hid (SL (cSlice cInt) F g off G es w ([] ++ l.drop 0)) := hS
    have HgF : Hid (g ∈ F) := hS.gF
    clear hM hS hF
    go_enter Tryd.func18, Tryd.ntmps18
    go_wp2
    go_loopw [1, 5] (fun kv iv wr => ∃ (j q : Nat) (dn : List (List Int)) (es : Nat → List Value), j ≤ n ∧ kv = .int .i64 (q : Int) ∧ iv = .int .i64 j ∧ Hid (q + lvs List.length (l.drop j) = K) ∧ Hid (dn.length = j) ∧ Hid (dn ++ markL markI List.length q (l.drop j) = M) ∧ Hid (SL (cSlice cInt) F g off G es wr (dn ++ l.drop j)) ∧ Only F w wr) (fun _ iv _ => n - (intOf iv).toNat)
    case atStart => exact ⟨0, k, [], es, by omega, rfl, by go_num, HK, rfl, HM, HS, Only.refl _ _⟩
    case round =>
      clear HM HS HK
      obtain ⟨j, q, dn, es, hj, rfl, rfl, HK, Hd, HM, HS, ho⟩ := hrel
      by_cases hlt : j < n
      · have hjl : j < l.length := by rw [Hn.out]; exact hlt
        have hdl := List.drop_eq_getElem_cons hjl
        have hjl2 : j < (dn ++ l.drop j).length := by rw [List.length_append, List.length_drop, Hd.out]; omega
        have hel := HS.out.el j hjl2
        have hz : (dn ++ l.drop j)[j] = l[j] := by
          have := get_mid dn (l.drop (j + 1)) l[j] j Hd.out (by rw [← hdl]; exact hjl2)
          simpa only [← hdl] using this
        rw [hz] at hel
        obtain ⟨hG, hc⟩ := hel
        obtain ⟨a1, cap1, he, hv⟩ := slice_openO hG
        rw [he] at hc
        have c1 : wr.cell? ⟨g, off + j, none⟩ = some (.slice a1 l[j].length cap1) := by
          have := hc 0 (by decide)
          rw [show (cSlice cInt).n = 1 from rfl, Nat.mul_one, Nat.add_zero] at this
          exact this
        have hgw := World.block_lt_of_cell? wr _ c1
        have hK2 := HK.out
        rw [lvs_drop List.length l j hjl] at hK2
        have hqk : q + l[j].length ≤ K := by omega
        have hGlt : ∀ x, x ∈ G j → x < wr.heap.size := fun x hx => HS.out.lt x (HS.out.sub j hjl2 x hx).1
        have hGg : ∀ x, x ∈ G j → x ≠ g := fun x hx => (HS.out.sub j hjl2 x hx).2
        have Hm : Hid (Calls Tryd.prog 26 #[.slice a1 l[j].length cap1, .int .i64 (q : Int)] wr fun e w' => e = .returned (.int .i64 ((q + l[j].length : Nat) : Int)) ∧ (cSlice cInt).own (G j) w' (markI q l[j]) [.slice a1 l[j].length cap1] ∧ Only (G j) wr w') :=
          markIntS_c (by omega) hGlt hv
        have HK2 := Lib.hid hK2
        have HGg := Lib.hid hGg
        have Hc1 := Lib.hid c1
        clear hc he hG hv hz hK2 hGlt hGg
        obtain ⟨nv, hnv⟩ : ∃ nv, l[j].length = nv := ⟨_, rfl⟩
        have Hnv := Lib.hid hnv
        rw [hnv] at Hm c1 Hc1 hqk
        clear hnv
        go_wp2_with fail
        refine Hm.out.mono ?_
        rintro e w2 ⟨rfl, hown, ho2⟩
        have Hown := Lib.hid hown
        have Ho2 := Lib.hid ho2
        clear hown ho2 c1
        go_wp2
        go_roundw
        case rel =>
          have ho2 := Ho2.out
          have hgG : g ∉ G j := fun hg => HGg.out g hg rfl
          have hbg : w2.heap[g]? = wr.heap[g]? := ho2.block g hgw hgG
          have hu := HS.out.upd (w' := w2) j hjl2 (markI q l[j]) [.slice a1 nv cap1] ho2.size
            (fun i => World.frozen?_of_block (w := wr) hbg) (fun i _ => World.cell?_of_block (w := wr) hbg)
            (fun kk hk1 hk2 hk3 => ho2.block kk (HS.out.lt kk hk1) hk3) Hown.out
            (by
              rw [show (cSlice cInt).n = 1 from rfl, Nat.mul_one]
              intro i hi
              obtain rfl : i = 0 := by omega
              exact (World.cell?_of_block (w := wr) hbg).trans Hc1.out)
          rw [hdl, set_mid dn _ _ _ j Hd.out] at hu
          obtain ⟨es2, hu⟩ : ∃ es2, SL (cSlice cInt) F g off G es2 _ _ := ⟨_, hu⟩
          have hM2 := HM.out
          rw [markL_drop _ _ _ _ _ hjl] at hM2
          have hK3 := HK2.out
          rw [Hnv.out] at hM2 hK3
          refine ⟨j + 1, q + nv, dn ++ [markI q l[j]], es2, by omega, by go_num, by go_num, show _ = _ by omega, show _ = _ by simp [Hd.out], show _ = _ by rw [← hM2]; simp, hu, ?_⟩
          exact Only.trans (H := F) ho ho2 (fun _ h => h) (fun x hx => (HS.out.sub j hjl2 x hx).1)
        case measure => simp [intOf]; omega
      · obtain rfl : j = n := by omega
        have hd : l.drop j = [] := List.drop_eq_nil_of_le (by rw [Hn.out]; exact Nat.le_refl _)
        have hM2 := HM.out
        have hS2 := HS.out
        have hK2 := HK.out
        rw [hd] at hM2 hS2 hK2
        simp only [markL, List.append_nil, lvs_nil, Nat.add_zero] at hM2 hS2 hK2
        subst hM2
        subst hK2
        have hown := hS2.own cap (by rw [Hd.out]; have hcp := Hcp.out; have hnn := Hn.out; unfold maxLen; exact ⟨by omega, by omega⟩)
        rw [Hd.out] at hown
        have Hown := Lib.hid hown
        clear hown hS2 hd
        go_wp2
        go_ret
        exact ⟨rfl, Hown.out, ho⟩
end Go.Proofs.YtgipcnofonejcaaDoor

/- The laws' marks in databases; read again in slices of slices of numbers. -/
namespace Go.Proofs.YtgipcnofonejcaaDoor
open Go.RowKit
set_option linter.unusedVariables false
set_option maxRecDepth 100000

theorem at_IntSS {B : Nat} {w : World} {l : List (List Int)} {a0 : Option Addr} {len cap0 : Nat} (h : (cSlice (cSlice cInt)).ok B w l [.slice a0 len cap0]) (j : Nat) (hj : j < l.length) :
    ∃ b off a cap, a0 = some ⟨b, off, none⟩ ∧ b < B ∧ w.cell? ⟨b, off + j, none⟩ = some (.slice a l[j].length cap) ∧ (cSlice cInt).ok B w l[j] [.slice a l[j].length cap] := by
  obtain ⟨b, off, es, rfl, hb, he, hc⟩ := slice_at h j hj
  obtain ⟨a, cap, rfl, hx⟩ := slice_open he
  refine ⟨b, off, a, cap, rfl, hb, ?_, hx⟩
  have := hc 0 (by decide)
  rw [show (cSlice cInt).n = 1 from rfl, Nat.mul_one, Nat.add_zero] at this
  exact this
set_option maxHeartbeats 1600000 in
theorem heldIntSS_c {a : Option Addr} {cap : Nat} {l : List (List Int)} {k : Nat} {w : World} (hk : (k + lvs List.length l : Nat) ≤ 4611686018427387900) (h : At (cSlice (cSlice cInt)) w (markIs k l) [.slice a l.length cap]) :
    Calls Tryd.prog 19 #[.slice a l.length cap, .int .i64 k] w fun e w' => e = .returned (.int .i64 ((k + lvs List.length l : Nat) : Int)) ∧ Below w.heap.size w w' := by
  have hlen := (slice_len h).1
  have hm := (slice_len h).2
  unfold maxLen at hm
  obtain ⟨n, hn⟩ : ∃ n : Nat, l.length = n := ⟨_, rfl⟩
  obtain ⟨M, hM⟩ : ∃ M, markIs k l = M := ⟨_, rfl⟩
  have HM : Hid (M.drop 0 = markL markI List.length k (l.drop 0)) := hM.symm
  obtain ⟨K, hK⟩ : ∃ K : Nat, k + lvs List.length l = K := ⟨_, rfl⟩
  have HK : Hid (k + lvs List.length (l.drop 0) = K) := hK
  rw [hM] at h hlen hm
  have Hr : Hid (∀ w' : World, Below w.heap.size w w' → ∀ j (hj : j < M.length), _) := fun w' hb j hj => at_IntSS (Cod.ok_below h hb) j hj
  have Hlen : Hid (M.length = n) := by rw [← hn]; exact hlen.symm
  have Hn := Lib.hid hn
  rw [← hlen, hn] at hm
  rw [hn]
  rw [hK] at hk ⊢
  clear hn h hM hlen hK
  go_enter Tryd.func19, Tryd.ntmps19
  go_wp2
  go_loopw [1, 5] (fun kv iv wr => ∃ j q : Nat, j ≤ n ∧ kv = .int .i64 (q : Int) ∧ iv = .int .i64 j ∧ Hid (q + lvs List.length (l.drop j) = K) ∧ Hid (M.drop j = markL markI List.length q (l.drop j)) ∧ Below w.heap.size w wr) (fun _ iv _ => n - (intOf iv).toNat)
  case atStart => exact ⟨0, k, by omega, rfl, by go_num, HK, HM, Below.refl _ _⟩
  case round =>
    clear HM HK
    obtain ⟨j, q, hj, rfl, rfl, HK, HM, hb⟩ := hrel
    by_cases hlt : j < n
    · have hjl : j < l.length := by rw [Hn.out]; exact hlt
      have hjm : j < M.length := by rw [Hlen.out]; exact hlt
      obtain ⟨hMj, hMd⟩ := markL_at _ _ _ _ _ j hjl hjm HM.out
      have HMd := Lib.hid hMd
      obtain ⟨b, off, a1, cap1, rfl, hbB, c1, hv⟩ := Hr.out _ hb j hjm
      rw [hMj] at c1 hv
      have hvl : (markI q l[j]).length = l[j].length := markI_length _ _
      have hK2 := HK.out
      rw [lvs_drop List.length l j hjl] at hK2
      have Hc : Hid (∀ ww, Below w.heap.size wr ww → Calls Tryd.prog 27 #[.slice a1 (markI q l[j]).length cap1, .int .i64 (q : Int)] ww fun e w' => e = .returned (.int .i64 ((q + (markI q l[j]).length : Nat) : Int)) ∧ Below ww.heap.size ww w') :=
        fun ww hw2 => heldIntS_c (by rw [hvl]; omega) (fun i hi => markI_get _ _ _ hi) ((cSlice cInt).keep hv (fun k hk => hw2.block k hk) (Nat.le_trans hb.size hw2.size))
      have HK2 := Lib.hid hK2
      rw [hvl] at c1 Hc
      clear hv hvl hK2 hMj hMd
      obtain ⟨nv, hnv⟩ : ∃ nv, l[j].length = nv := ⟨_, rfl⟩
      have Hnv := Lib.hid hnv
      rw [hnv] at c1 Hc
      have hqk : q + nv ≤ K := by have := HK2.out; rw [hnv] at this; omega
      clear hnv
      have hge : decide (((q + nv : Nat) : Int) < 0) = false := decide_eq_false (by omega)
      go_wp2_with fail
      refine (Hc.out _ (Below.refl _ _)).mono ?_
      rintro e w1 ⟨rfl, hb1⟩
      go_wp2
      go_roundw
      case rel => exact ⟨j + 1, q + nv, by omega, by go_num, by go_num, show _ = _ by have := HK2.out; rw [Hnv.out] at this; omega, show _ = _ by rw [HMd.out, Hnv.out], hb.trans (hb1.mono hb.size)⟩
      case measure => simp [intOf]; omega
    · obtain rfl : j = n := by omega
      have hd : l.drop j = [] := List.drop_eq_nil_of_le (by rw [Hn.out]; exact Nat.le_refl _)
      have hK2 := HK.out
      rw [hd, lvs_nil, Nat.add_zero] at hK2
      subst hK2
      go_wp2
      go_ret
      exact ⟨rfl, hb⟩

/-- Marks in a database. -/
def markD (k : Nat) (x : Dbs) : Dbs := ⟨markRs k x.rels, markFs (k + x.rels.length * 3) x.facts⟩
def lvD (x : Dbs) : Nat := x.rels.length * 3 + lvs lvF x.facts
end Go.Proofs.YtgipcnofonejcaaDoor
end

section
/- The laws' marks in slices of structs of numbers. Written by gen/markflat.py. -/
namespace Go.Proofs.YtgipcnofonejcaaDoor
open Go.RowKit
set_option linter.unusedVariables false
set_option maxRecDepth 100000

def markE (k : Nat) (_ : Edg) : Edg := ⟨((k : Nat) : Int), ((k + 1 : Nat) : Int)⟩
def markEs (k : Nat) (l : List Edg) : List Edg := markL markE (fun _ => 2) k l
theorem cEdg_own_nil {F : List Nat} {w : World} {x : Edg} {cs : List Value} (h : cEdg.own F w x cs) : F = [] := by
  obtain ⟨_, _, F1, F2, _, ⟨_, rfl⟩, ⟨_, rfl⟩, rfl, _⟩ := h
  rfl
set_option maxHeartbeats 1600000 in
theorem markConflictEdgeS_c {F : List Nat} {a : Option Addr} {cap : Nat} {l : List Edg} {k : Nat} {w : World} (hk : (k + l.length * 2 : Nat) ≤ 4611686018427387900) (hF : ∀ k, k ∈ F → k < w.heap.size) (h : (cSlice cEdg).own F w l [.slice a l.length cap]) :
    Calls Tryd.prog 33 #[.slice a l.length cap, .int .i64 k] w fun e w' => e = .returned (.int .i64 ((k + l.length * 2 : Nat) : Int)) ∧ (cSlice cEdg).own F w' (markEs k l) [.slice a l.length cap] ∧ Only F w w' := by
  have hm := (own_slice_len h).1
  have Hcp := Lib.hid (own_slice_len h).2
  rcases Nat.eq_zero_or_pos l.length with h0 | h0
  · have hl := List.eq_nil_of_length_eq_zero h0
    subst hl
    have Ho := Lib.hid h
    clear h hm h0
    simp only [List.length_nil] at *
    go_enter Tryd.func33, Tryd.ntmps33
    go_wp2
    go_loopw [1, 5] (fun kv iv wr => kv = .int .i64 k ∧ iv = .int .i64 0 ∧ wr = w) (fun _ _ _ => 0)
    case atStart => exact ⟨rfl, rfl, rfl⟩
    case round =>
      obtain ⟨rfl, rfl, rfl⟩ := hrel
      go_wp2
      go_ret
      exact ⟨rfl, Ho.out, Only.refl _ _⟩
  · obtain ⟨g, off, G, es, rfl, hS⟩ := SL.of_own h hF h0
    clear h h0
    obtain ⟨n, hn⟩ : ∃ n : Nat, l.length = n := ⟨_, rfl⟩
    have Hn := Lib.hid hn
    rw [hn] at hk ⊢
    unfold maxLen at hm
    rw [hn] at hm
    clear hn
    generalize hM : markEs k l = M
    have HM : Hid ([] ++ markL markE (fun _ => 2) k (l.drop 0) = M) := hM
    have HS : Hid (SL cEdg F g off G es w ([] ++ l.drop 0)) := hS
    have HgF : Hid (g ∈ F) := hS.gF
    clear hM hS hF
    go_enter Tryd.func33, Tryd.ntmps33
    go_wp2
    go_loopw [1, 5] (fun kv iv wr => ∃ (j : Nat) (dn : List Edg) (es : Nat → List Value), j ≤ n ∧ kv = .int .i64 ((k + j * 2 : Nat) : Int) ∧ iv = .int .i64 j ∧ Hid (dn.length = j) ∧ Hid (dn ++ markL markE (fun _ => 2) (k + j * 2) (l.drop j) = M) ∧ Hid (SL cEdg F g off G es wr (dn ++ l.drop j)) ∧ Only F w wr) (fun _ iv _ => n - (intOf iv).toNat)
    case atStart => exact ⟨0, [], es, by omega, by go_num, by go_num, rfl, HM, HS, Only.refl _ _⟩
    case round =>
      clear HM HS
      obtain ⟨j, dn, es, hj, rfl, rfl, Hd, HM, HS, ho⟩ := hrel
      by_cases hlt : j < n
      · have hjl : j < l.length := by rw [Hn.out]; exact hlt
        have hdl := List.drop_eq_getElem_cons hjl
        have hjl2 : j < (dn ++ l.drop j).length := by rw [List.length_append, List.length_drop, Hd.out]; omega
        have hel := HS.out.el j hjl2
        have hfr : ∀ i, i < 2 → wr.frozen? ⟨g, off + j * 2 + i, none⟩ = false := by
          intro i hi
          have := HS.out.fr (j * 2 + i) (by show _ < _ * 2; omega)
          rw [← Nat.add_assoc] at this
          exact this
        obtain ⟨hG, hc⟩ := hel
        have he := (cEdg_open (cEdg.ofO (B := F.sum + g + 1) hG (fun kk hkk => by have := le_sum (HS.out.sub j hjl2 kk hkk).1; omega))).1
        rw [he] at hc hG
        generalize (dn ++ l.drop j)[j] = z at hc hG
        have c0 : wr.cell? ⟨g, off + j * 2, none⟩ = some (.int .i64 z.a) := by exact hc 0 (by decide)
        have c1 : wr.cell? ⟨g, off + j * 2 + 1, none⟩ = some (.int .i64 z.b) := by exact hc 1 (by decide)
        have f0 : wr.frozen? ⟨g, off + j * 2, none⟩ = false := hfr 0 (by decide)
        have f1 : wr.frozen? ⟨g, off + j * 2 + 1, none⟩ = false := hfr 1 (by decide)
        have hgw := World.block_lt_of_cell? wr _ c0
        have HG := Lib.hid hG
        clear hc he hG hfr
        go_wp2
        go_roundw
        case rel =>
          have hGj : G j = [] := cEdg_own_nil HG.out
          have e0 := World.cell?_setCell_same wr _ (.int .i64 ((k + j * 2 : Nat) : Int)) (c0)
          have e1 := World.cell?_setCell_same (wr.setCell ⟨g, off + j * 2, none⟩ (.int .i64 ((k + j * 2 : Nat) : Int))) _ (.int .i64 ((k + j * 2 + 1 : Nat) : Int)) ((World.cell?_setCell_other _ ⟨g, off + j * 2, none⟩ ⟨g, off + j * 2 + 1, none⟩ (.int .i64 ((k + j * 2 : Nat) : Int)) (by simp)).trans (c1))
          have hu := HS.out.upd (w' := ((wr.setCell ⟨g, off + j * 2, none⟩ (.int .i64 ((k + j * 2 : Nat) : Int))).setCell ⟨g, off + j * 2 + 1, none⟩ (.int .i64 ((k + j * 2 + 1 : Nat) : Int)))) j hjl2
            (markE (k + j * 2) z) [.int .i64 ((k + j * 2 : Nat) : Int), .int .i64 ((k + j * 2 + 1 : Nat) : Int)] (by simp only [World.setCell, Array.size_modify]; exact Nat.le_refl _)
            (fun i => by rw [World.frozen?_setCell, World.frozen?_setCell])
            (fun i hi => by
              have hn3 : cEdg.n = 2 := rfl
              rw [hn3] at hi
              rw [World.cell?_setCell_other _ _ _ _ (by intro e; simp at e <;> omega), World.cell?_setCell_other _ _ _ _ (by intro e; simp at e <;> omega)])
            (fun kk hk1 hk2 _ => by
              rw [heap_setCell_other _ _ _ _ hk2, heap_setCell_other _ _ _ _ hk2])
            (by rw [hGj]; exact ⟨[_], _, [], [], rfl, ⟨⟨rfl, inR_nat (by omega)⟩, rfl⟩, ⟨⟨rfl, inR_nat (by omega)⟩, rfl⟩, rfl, fun _ h => by cases h⟩)
            (by
              have hn3 : cEdg.n = 2 := rfl
              rw [hn3]
              intro i hi
              match i, hi with
              | 0, _ => exact (World.cell?_setCell_other _ _ _ _ (by simp)).trans (e0)
              | 1, _ => exact e1)
          rw [hdl, set_mid dn _ _ _ j Hd.out] at hu
          have hM2 := HM.out
          rw [markL_drop _ _ _ _ _ hjl] at hM2
          obtain ⟨es2, hu⟩ : ∃ es2, SL cEdg F g off G es2 _ _ := ⟨_, hu⟩
          refine ⟨j + 1, dn ++ [markE (k + j * 2) z], es2, by omega, by go_num, by go_num, show _ = _ by simp [Hd.out], show _ = _ by rw [← hM2, show k + (j + 1) * 2 = k + j * 2 + 2 by omega]; simp [markE], ?_, (Only.setCell (p := ⟨g, off + j * 2 + 1, none⟩) (Only.setCell (p := ⟨g, off + j * 2, none⟩) ho HgF.out _) HgF.out _)⟩
          exact hu
        case measure => simp [intOf]; omega
      · obtain rfl : j = n := by omega
        have hd : l.drop j = [] := List.drop_eq_nil_of_le (by rw [Hn.out]; exact Nat.le_refl _)
        have hM2 := HM.out
        have hS2 := HS.out
        rw [hd] at hM2 hS2
        simp only [markL, List.append_nil] at hM2 hS2
        subst hM2
        have hown := hS2.own cap (by rw [Hd.out]; have hcp := Hcp.out; have hnn := Hn.out; unfold maxLen; exact ⟨by omega, by omega⟩)
        rw [Hd.out] at hown
        have Hown := Lib.hid hown
        clear hown hS2 hd
        go_wp2
        go_ret
        exact ⟨rfl, Hown.out, ho⟩
end Go.Proofs.YtgipcnofonejcaaDoor
end

section
/- Structs: readings, the laws' helpers on them (size, copy, equality). -/
namespace Go.Proofs.YtgipcnofonejcaaDoor
open Go.RowKit
set_option linter.unusedVariables false
set_option maxRecDepth 100000

end Go.Proofs.YtgipcnofonejcaaDoor
end

section
/- Slices of structs: the laws' helpers on them (size, copy, equality). -/
namespace Go.Proofs.YtgipcnofonejcaaDoor
open Go.RowKit
set_option linter.unusedVariables false
set_option maxRecDepth 100000

end Go.Proofs.YtgipcnofonejcaaDoor
end

section
/- The laws' marks in slices of structs of numbers. Written by gen/markflat.py. -/
namespace Go.Proofs.YtgipcnofonejcaaDoor
open Go.RowKit
set_option linter.unusedVariables false
set_option maxRecDepth 100000

def markC (k : Nat) (_ : Dcn) : Dcn := ⟨((k : Nat) : Int), ((k + 1 : Nat) : Int), ((k + 2 : Nat) : Int), ((k + 3 : Nat) : Int), ((k + 4 : Nat) : Int), ((k + 5 : Nat) : Int), ((k + 6 : Nat) : Int)⟩
def markCs (k : Nat) (l : List Dcn) : List Dcn := markL markC (fun _ => 7) k l
end Go.Proofs.YtgipcnofonejcaaDoor
end

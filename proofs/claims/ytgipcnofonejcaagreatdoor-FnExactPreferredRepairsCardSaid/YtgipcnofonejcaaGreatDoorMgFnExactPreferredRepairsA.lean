/- Texts behind FnExactPreferredRepairs, put together. -/
import Derived.WalkKit
import Derived.WalkSpells
import Derived.WalkLawsBesides
import Derived.Handy
import Derived.Lib.Hide
import Derived.StillTailTactics
import Derived.Below
import Derived.ProofKit
import Derived.Test.YtgipcnofonejcaaGreatDoorRows
import Derived.BigQuiet
import Derived.Deep.QuietTactic
import Derived.Deep.RegionWith
import Derived.Lib.Strings
import Derived.ChangeShapes
import Derived.ChangeArms
import Derived.ChangeMaps5
import Derived.Deep.Slices
import Derived.Deep.Strs
import Derived.Lib.ItoaLen
import Derived.Deep.Cut
import Derived.OwnWalk
import Derived.LoopN
import Derived.Tactics
import Derived.Deep.MidRow
import Derived.Laws.Small
import Derived.Laws.CopyRow
import Derived.Great.BuildSlice
import Derived.Maps.AppendAt
import Derived.Still
import Derived.Test.YtgipcnofonejcaaGreatDoorProg
import Derived.RegionTactic
import Derived.Shelf.Small.Strs
import Derived.Shelf.Small.Wraps
import Derived.Shelf.Slices.Equal
import Derived.Ground.Names2Prog
import Derived.Shelf.Slices.SearchI
import Derived.Shelf.Slices.Empties2
import Derived.BigRegion
import Derived.Lib.Bytealg
import Derived.Deep.RegionHeld3
import Derived.Lib.Small
import Derived.Lib.TrailingZeros
import Derived.Maps.OwnSet
import Derived.Maps.Views
import Derived.Maps.OwnOps
import Derived.LaidMore
import Derived.LaidLaws
import Derived.Lib.LaidTab
import Derived.Stop.LaidErr
import Derived.Shelf.Spec.TrailingZeros
import Derived.Test.YtgipcnofonejcaaGreatDoorCards
import Derived.Test.YtgipcnofonejcaaGreatDoorTie
import Derived.Stop.Joined
import Derived.SevenTiedAt
import Derived.OpenShut
import Derived.ShutString
import Derived.ChangeOld
set_option linter.unusedSimpArgs false
set_option linter.unusedVariables false
set_option linter.unusedSectionVars false
set_option linter.constructorNameAsVariable false
set_option maxRecDepth 100000
open Nat (reduceLT reduceAdd reduceMul reduceLeDiff reduceSub reduceEqDiff)
namespace Go.Proofs.YtgipcnofonejcaaGreatDoor
section
/- CodOne: Aid Cod CodL. -/
/- Small aids, over any program: bytes of a slice as a string, facts on lists of bytes. -/
open Go.RowKit
def str (l : List UInt8) : ByteArray := ⟨l.toArray⟩
def byteV (u : UInt8) : Value := .int .u8 (u.toNat : Int)
theorem str_append (a b : List UInt8) : str a ++ str b = str (a ++ b) := by
 apply ByteArray.ext; simp [str, ByteArray.data_append]
theorem str_size (l : List UInt8) : (str l).size = l.length := by simp [str, ByteArray.size]
theorem str_of (s : ByteArray) : s = str s.data.toList := by apply ByteArray.ext; simp [str]
section
variable {P : Program}
theorem run_conv_byte (w : World) (src dst e : TypeId) (hs : P.underlying src = some (.slice e)) (he : P.underlying e = some (.int .u8)) (hd : P.underlying dst = some .string) (x : Int) (u : UInt8) (hx : x = (u.toNat : Int)) :
   (convert src dst (.slice (some ⟨w.heap.size, 0, none⟩) 1 1)).run P (w.alloc (.cells #[.int .u8 x] e)) = .ok (.string (str [u])) (w.alloc (.cells #[.int .u8 x] e)) := by
 have h := run_convert_bytes_arg (P := P) (w.alloc (.cells #[.int .u8 x] e)) src e hs he w.heap.size 0 1 1 [x] rfl (by
   intro i hi
   obtain rfl : i = 0 := by omega
   simp [World.cell?_alloc_at]) dst hd
 rw [h]
 congr 2
 unfold strOfNums str
 simp [hx]
end
/- How data stand in memory: a reading for numbers, strings, bools, structs and slices, put together from small parts. -/
open Go.RowKit
structure Cod (α : Type) where
 n : Nat
 ok : Nat → World → α → List Value → Prop
 own : List Nat → World → α → List Value → Prop
 len : ∀ {B w x cs}, ok B w x cs → cs.length = n
 keep : ∀ {B C w w' x cs}, ok B w x cs → (∀ k, k < B → w'.heap[k]? = w.heap[k]?) → B ≤ C → ok C w' x cs
 keepO : ∀ {F w w' x cs}, own F w x cs → (∀ k, k ∈ F → w'.heap[k]? = w.heap[k]?) → own F w' x cs
 ofO : ∀ {F B w x cs}, own F w x cs → (∀ k, k ∈ F → k < B) → ok B w x cs
def inR (x : Int) : Prop := -9223372036854775808 ≤ x ∧ x ≤ 9223372036854775807
def cInt : Cod Int where
 n := 1
 ok _ _ x cs := cs = [.int .i64 x] ∧ inR x
 own F _ x cs := (cs = [.int .i64 x] ∧ inR x) ∧ F = []
 len h := by rw [h.1]; rfl
 keep h _ _ := h
 keepO h _ := h
 ofO h _ := h.1
def cBool : Cod Bool where
 n := 1
 ok _ _ x cs := cs = [.bool x]
 own F _ x cs := cs = [.bool x] ∧ F = []
 len h := by subst h; rfl
 keep h _ _ := h
 keepO h _ := h
 ofO h _ := h.1
def cStr : Cod ByteArray where
 n := 1
 ok _ _ x cs := cs = [.string x] ∧ x.size ≤ maxLen
 own F _ x cs := (cs = [.string x] ∧ x.size ≤ maxLen) ∧ F = []
 len h := by rw [h.1]; rfl
 keep h _ _ := h
 keepO h _ := h
 ofO h _ := h.1
def cPair {α β : Type} (c : Cod α) (d : Cod β) : Cod (α × β) where
 n := c.n + d.n
 ok B w x cs := ∃ u v, cs = u ++ v ∧ c.ok B w x.1 u ∧ d.ok B w x.2 v
 own F w x cs := ∃ u v F1 F2, cs = u ++ v ∧ c.own F1 w x.1 u ∧ d.own F2 w x.2 v ∧ F = F1 ++ F2 ∧ (∀ k, k ∈ F1 → k ∉ F2)
 len := by rintro B w x cs ⟨u, v, rfl, h1, h2⟩; simp [c.len h1, d.len h2]
 keep := by rintro B C w w' x cs ⟨u, v, rfl, h1, h2⟩ hk hB; exact ⟨u, v, rfl, c.keep h1 hk hB, d.keep h2 hk hB⟩
 keepO := by
   rintro F w w' x cs ⟨u, v, F1, F2, rfl, h1, h2, rfl, hd⟩ hk
   exact ⟨u, v, F1, F2, rfl, c.keepO h1 (fun k hk1 => hk k (List.mem_append_left _ hk1)), d.keepO h2 (fun k hk1 => hk k (List.mem_append_right _ hk1)), rfl, hd⟩
 ofO := by
   rintro F B w x cs ⟨u, v, F1, F2, rfl, h1, h2, rfl, hd⟩ hB
   exact ⟨u, v, rfl, c.ofO h1 (fun k hk1 => hB k (List.mem_append_left _ hk1)), d.ofO h2 (fun k hk1 => hB k (List.mem_append_right _ hk1))⟩
def cMap {α β : Type} (f : α → β) (c : Cod β) : Cod α where
 n := c.n
 ok B w x cs := c.ok B w (f x) cs
 own F w x cs := c.own F w (f x) cs
 len h := c.len h
 keep h := c.keep h
 keepO h := c.keepO h
 ofO h := c.ofO h
def cSlice {α : Type} (c : Cod α) : Cod (List α) where
 n := 1
 ok B w l cs := ∃ a cap, cs = [.slice a l.length cap] ∧ (l.length ≤ maxLen ∧ l.length ≤ cap) ∧ ∀ j (hj : j < l.length), ∃ b off es, a = some ⟨b, off, none⟩ ∧ b < B ∧ c.ok B w l[j] es ∧ ∀ i, i < c.n → w.cell? ⟨b, off + j * c.n + i, none⟩ = es[i]?
 own F w l cs := ∃ a cap, cs = [.slice a l.length cap] ∧ (l.length ≤ maxLen ∧ l.length ≤ cap) ∧ ((l = [] ∧ F = []) ∨ ∃ (g off : Nat) (G : Nat → List Nat), a = some ⟨g, off, none⟩ ∧ g ∈ F ∧ g < w.heap.size ∧ (∀ j, j < l.length → ∀ k, k ∈ G j → k ∈ F ∧ k ≠ g) ∧
   (∀ i j, i < l.length → j < l.length → i ≠ j → ∀ k, k ∈ G i → k ∉ G j) ∧ (∀ j, j < l.length * c.n → w.frozen? ⟨g, off + j, none⟩ = false) ∧
   ∀ j (hj : j < l.length), ∃ es, c.own (G j) w l[j] es ∧ ∀ i, i < c.n → w.cell? ⟨g, off + j * c.n + i, none⟩ = es[i]?)
 len := by rintro B w x cs ⟨a, cap, rfl, _⟩; rfl
 keep := by
   rintro B C w w' l cs ⟨a, cap, rfl, hm, h⟩ hk hB
   refine ⟨a, cap, rfl, hm, fun j hj => ?_⟩
   obtain ⟨b, off, es, rfl, hb, h1, h2⟩ := h j hj
   exact ⟨b, off, es, rfl, by omega, c.keep h1 hk hB, fun i hi => (World.cell?_of_block (hk b hb)).trans (h2 i hi)⟩
 keepO := by
   rintro F w w' l cs ⟨a, cap, rfl, hm, h⟩ hk
   refine ⟨a, cap, rfl, hm, ?_⟩
   rcases h with h | ⟨g, off, G, rfl, hg, hgs, hG, hGG, hf, he⟩
   · exact .inl h
   · refine .inr ⟨g, off, G, rfl, hg, ?_, hG, hGG, fun j hj => (World.frozen?_of_block (hk g hg)).trans (hf j hj), fun j hj => ?_⟩
     · have := hk g hg
       rw [Array.getElem?_eq_getElem hgs] at this
       exact (Array.getElem?_eq_some_iff.1 this).1
     · obtain ⟨es, h1, h2⟩ := he j hj
       exact ⟨es, c.keepO h1 (fun k hk1 => hk k (hG j hj k hk1).1), fun i hi => (World.cell?_of_block (hk g hg)).trans (h2 i hi)⟩
 ofO := by
   rintro F B w l cs ⟨a, cap, rfl, hm, h⟩ hB
   refine ⟨a, cap, rfl, hm, fun j hj => ?_⟩
   rcases h with ⟨rfl, _⟩ | ⟨g, off, G, rfl, hg, hgs, hG, hGG, hf, he⟩
   · simp at hj
   · obtain ⟨es, h1, h2⟩ := he j hj
     exact ⟨g, off, es, rfl, hB g hg, c.ofO h1 (fun k hk1 => hB k (hG j hj k hk1).1), h2⟩
def At {α : Type} (c : Cod α) (w : World) (x : α) (cs : List Value) : Prop := c.ok w.heap.size w x cs
theorem At.below {α : Type} {c : Cod α} {w w' : World} {x : α} {cs : List Value} {C : Nat} (h : At c w x cs) (hb : Below C w w') (hC : w.heap.size ≤ C) : At c w' x cs :=
 c.keep h (fun k hk => hb.block k (by omega)) hb.size
theorem At.here {α : Type} {c : Cod α} {w W : World} {x : α} {cs : List Value} (h : At c w x cs) (hW : W.heap = w.heap := by rfl) : At c W x cs :=
 c.keep h (fun k hk => by rw [hW]) (by rw [hW]; exact Nat.le_refl _)
theorem At.next {α : Type} {c : Cod α} {w W w' : World} {x : α} {cs : List Value} (h : At c w x cs) (hb : Below W.heap.size W w') (hW : W.heap = w.heap := by rfl) : At c w' x cs :=
 At.below (At.here h hW) hb (Nat.le_refl _)
theorem Below.next {w0 w W w' : World} (h : Below w0.heap.size w0 w) (hb : Below W.heap.size W w') (hW : W.heap = w.heap ∧ W.os = w.os ∧ W.tape = w.tape ∧ W.output = w.output := by exact ⟨rfl, rfl, rfl, rfl⟩) : Below w0.heap.size w0 w' := by
 obtain ⟨h1, h2, h3, h4⟩ := hW
 have hB := h.size
 exact h.trans ⟨hb.os.trans h2, hb.tape.trans h3, hb.output.trans h4, by rw [← h1]; exact hb.size, fun k hk => by rw [← h1]; exact hb.block k (by rw [h1]; omega)⟩
theorem cell_next {w W w' : World} {p : Addr} {v : Value} (h : w.cell? p = some v) (hb : Below W.heap.size W w') (hW : W.heap = w.heap := by rfl) : w'.cell? p = some v :=
 (hb.cell (by rw [hW]; exact World.block_lt_of_cell? w _ h)).trans ((World.cell?_of_block (w := w) (by rw [hW])).trans h)
theorem dec_self {α : Type} [DecidableEq α] (x : α) : decide (x = x) = true := decide_eq_true rfl
theorem Cod.ok_below {α : Type} {c : Cod α} {w w' : World} {x : α} {cs : List Value} {B : Nat} (h : c.ok B w x cs) (hb : Below B w w') : c.ok B w' x cs :=
 c.keep h (fun k hk => hb.block k hk) (Nat.le_refl _)
def Own {α : Type} (c : Cod α) (B : Nat) (w : World) (x : α) (cs : List Value) : Prop := ∃ F, c.own F w x cs ∧ ∀ k, k ∈ F → B ≤ k ∧ k < w.heap.size
theorem Own.at {α : Type} {c : Cod α} {B : Nat} {w : World} {x : α} {cs : List Value} (h : Own c B w x cs) : At c w x cs := by
 obtain ⟨F, h1, h2⟩ := h
 exact c.ofO h1 (fun k hk => (h2 k hk).2)
def OwnIn {α : Type} (c : Cod α) (lo hi : Nat) (w : World) (x : α) (cs : List Value) : Prop := ∃ F, c.own F w x cs ∧ ∀ k, k ∈ F → lo ≤ k ∧ k < hi
theorem OwnIn.below {α : Type} {c : Cod α} {lo hi C : Nat} {w w' : World} {x : α} {cs : List Value} (h : OwnIn c lo hi w x cs) (hb : Below C w w') (hC : hi ≤ C) : OwnIn c lo hi w' x cs := by
 obtain ⟨F, h1, h2⟩ := h
 exact ⟨F, c.keepO h1 (fun k hk => hb.block k (by have := (h2 k hk).2; omega)), h2⟩
theorem OwnIn.setCell {α : Type} {c : Cod α} {lo hi : Nat} {w : World} {x : α} {cs : List Value} (h : OwnIn c lo hi w x cs) {p : Addr} (hp : p.block < lo) (u : Value) : OwnIn c lo hi (w.setCell p u) x cs := by
 obtain ⟨F, h1, h2⟩ := h
 exact ⟨F, c.keepO h1 (fun k hk => Below.heap_setCell _ _ _ _ (by have := (h2 k hk).1; omega)), h2⟩
theorem OwnIn.own {α : Type} {c : Cod α} {lo hi : Nat} {w : World} {x : α} {cs : List Value} (h : OwnIn c lo hi w x cs) (hh : hi ≤ w.heap.size) : Own c lo w x cs := by
 obtain ⟨F, h1, h2⟩ := h
 exact ⟨F, h1, fun k hk => ⟨(h2 k hk).1, by have := (h2 k hk).2; omega⟩⟩
theorem OwnIn.wide {α : Type} {c : Cod α} {lo hi lo' hi' : Nat} {w : World} {x : α} {cs : List Value} (h : OwnIn c lo hi w x cs) (h1 : lo' ≤ lo) (h2 : hi ≤ hi') : OwnIn c lo' hi' w x cs := by
 obtain ⟨F, h3, h4⟩ := h
 exact ⟨F, h3, fun k hk => ⟨by have := (h4 k hk).1; omega, by have := (h4 k hk).2; omega⟩⟩
theorem OwnIn.pair {α β : Type} {c : Cod α} {d : Cod β} {lo mid hi : Nat} {w : World} {x : α} {y : β} {u v : List Value} (h : OwnIn c lo mid w x u) (k : OwnIn d mid hi w y v) (h1 : lo ≤ mid) (h2 : mid ≤ hi) : OwnIn (cPair c d) lo hi w (x, y) (u ++ v) := by
 obtain ⟨F, h3, h4⟩ := h
 obtain ⟨G, h5, h6⟩ := k
 refine ⟨F ++ G, ⟨u, v, F, G, rfl, h3, h5, rfl, fun k hk hg => ?_⟩, fun k hk => ?_⟩
 · have := (h4 k hk).2; have := (h6 k hg).1; omega
 · rcases List.mem_append.1 hk with hk | hk
   · exact ⟨(h4 k hk).1, by have := (h4 k hk).2; omega⟩
   · exact ⟨by have := (h6 k hk).1; omega, (h6 k hk).2⟩
theorem OwnIn.int (lo hi : Nat) (w : World) {x : Int} (h : inR x) : OwnIn cInt lo hi w x [.int .i64 x] := ⟨[], ⟨⟨rfl, h⟩, rfl⟩, by simp⟩
theorem OwnIn.flat {α : Type} {c : Cod α} {lo : Nat} {w w' : World} {x : α} {cs : List Value} (h : OwnIn c lo lo w x cs) : Own c lo w' x cs := by
 obtain ⟨F, h1, h2⟩ := h
 exact ⟨F, c.keepO h1 (fun k hk => absurd (h2 k hk) (by omega)), fun k hk => absurd (h2 k hk) (by omega)⟩
theorem slice_open {α : Type} {c : Cod α} {B : Nat} {w : World} {l : List α} {cs : List Value} (h : (cSlice c).ok B w l cs) : ∃ a cap, cs = [.slice a l.length cap] ∧ (cSlice c).ok B w l [.slice a l.length cap] := by
 have h0 := h
 obtain ⟨a, cap, rfl, _⟩ := h
 exact ⟨a, cap, rfl, h0⟩
theorem slice_openO {α : Type} {c : Cod α} {F : List Nat} {w : World} {l : List α} {cs : List Value} (h : (cSlice c).own F w l cs) : ∃ a cap, cs = [.slice a l.length cap] ∧ (cSlice c).own F w l [.slice a l.length cap] := by
 have h0 := h
 obtain ⟨a, cap, rfl, _⟩ := h
 exact ⟨a, cap, rfl, h0⟩
theorem slice_at {α : Type} {c : Cod α} {B : Nat} {w : World} {l : List α} {a : Option Addr} {len cap : Nat} (h : (cSlice c).ok B w l [.slice a len cap]) (j : Nat) (hj : j < l.length) :
   ∃ b off es, a = some ⟨b, off, none⟩ ∧ b < B ∧ c.ok B w l[j] es ∧ ∀ i, i < c.n → w.cell? ⟨b, off + j * c.n + i, none⟩ = es[i]? := by
 obtain ⟨a', cap', e, hm, h⟩ := h
 simp at e
 obtain ⟨rfl, rfl, rfl⟩ := e
 exact h j hj
theorem slice_len {α : Type} {c : Cod α} {B : Nat} {w : World} {l : List α} {a : Option Addr} {len cap : Nat} (h : (cSlice c).ok B w l [.slice a len cap]) : len = l.length ∧ l.length ≤ maxLen := by
 obtain ⟨a', cap', e, hm, h⟩ := h
 simp at e
 exact ⟨e.2.1, hm.1⟩
theorem slice_cap {α : Type} {c : Cod α} {B : Nat} {w : World} {l : List α} {a : Option Addr} {len cap : Nat} (h : (cSlice c).ok B w l [.slice a len cap]) : l.length ≤ cap := by
 obtain ⟨a', cap', e, hm, h⟩ := h
 simp at e
 obtain ⟨rfl, rfl, rfl⟩ := e
 exact hm.2
theorem own_slice_len {α : Type} {c : Cod α} {F : List Nat} {w : World} {l : List α} {a : Option Addr} {len cap : Nat} (h : (cSlice c).own F w l [.slice a len cap]) : l.length ≤ maxLen ∧ l.length ≤ cap := by
 obtain ⟨a', cap', e, hm, h⟩ := h
 simp at e
 obtain ⟨rfl, rfl, rfl⟩ := e
 exact hm
theorem ints_at {B : Nat} {w : World} {l : List Int} {a : Option Addr} {len cap : Nat} (h : (cSlice cInt).ok B w l [.slice a len cap]) (j : Nat) (hj : j < l.length) :
   ∃ b off, a = some ⟨b, off, none⟩ ∧ b < B ∧ w.cell? ⟨b, off + j, none⟩ = some (.int .i64 l[j]) := by
 obtain ⟨b, off, es, rfl, hb, he, hc⟩ := slice_at h j hj
 obtain ⟨rfl, _⟩ := he
 exact ⟨b, off, rfl, hb, by simpa [cInt] using hc 0 (by decide)⟩
theorem ints_rng {B : Nat} {w : World} {l : List Int} {cs : List Value} (h : (cSlice cInt).ok B w l cs) : ∀ x, x ∈ l → inR x := by
 intro x hx
 obtain ⟨j, hj, rfl⟩ := List.getElem_of_mem hx
 obtain ⟨_, _, rfl, _, h⟩ := h
 obtain ⟨b, off, es, _, hb, he, hc⟩ := h j hj
 exact he.2
/- Lists of data of the call's own, and the slices that they make. -/
open Go.RowKit
def ownL {α : Type} (c : Cod α) : List Nat → World → List α → List (List Value) → Prop
 | F, _, [], [] => F = []
 | F, w, x :: l, cs :: css => ∃ F1 F2, F = F1 ++ F2 ∧ c.own F1 w x cs ∧ ownL c F2 w l css ∧ ∀ k, k ∈ F1 → k ∉ F2
 | _, _, [], _ :: _ => False
 | _, _, _ :: _, [] => False
variable {α : Type} {c : Cod α}
theorem le_sum {F : List Nat} {k : Nat} (h : k ∈ F) : k ≤ F.sum := by
 induction F with
 | nil => cases h
 | cons a F ih =>
   rw [List.sum_cons]
   rcases List.mem_cons.1 h with rfl | h
   · omega
   · have := ih h; omega
theorem Cod.lenO {F : List Nat} {w : World} {x : α} {cs : List Value} (h : c.own F w x cs) : cs.length = c.n :=
 c.len (c.ofO (B := F.sum + 1) h (fun k hk => by have := le_sum hk; omega))
theorem ownL_nil (w : World) : ownL c [] w [] [] := rfl
theorem ownL_keep {w w' : World} : ∀ {F : List Nat} {l : List α} {css : List (List Value)}, ownL c F w l css → (∀ k, k ∈ F → w'.heap[k]? = w.heap[k]?) → ownL c F w' l css
 | F, [], [], h, _ => h
 | F, x :: l, cs :: css, ⟨F1, F2, e, h1, h2, hd⟩, hk => by
   subst e
   exact ⟨F1, F2, rfl, c.keepO h1 (fun k hk1 => hk k (List.mem_append_left _ hk1)), ownL_keep h2 (fun k hk1 => hk k (List.mem_append_right _ hk1)), hd⟩
 | _, [], _ :: _, h, _ => h.elim
 | _, _ :: _, [], h, _ => h.elim
theorem ownL_snoc {w : World} {x : α} {cs : List Value} {G : List Nat} (hx : c.own G w x cs) : ∀ {F : List Nat} {l : List α} {css : List (List Value)}, ownL c F w l css → (∀ k, k ∈ F → k ∉ G) → ownL c (F ++ G) w (l ++ [x]) (css ++ [cs])
 | F, [], [], h, _ => by obtain rfl : F = [] := h; exact ⟨G, [], by simp, hx, rfl, by simp⟩
 | F, y :: l, ds :: css, ⟨F1, F2, e, h1, h2, hd⟩, hk => by
   subst e
   refine ⟨F1, F2 ++ G, by simp, h1, ownL_snoc hx h2 (fun k hk1 => hk k (List.mem_append_right _ hk1)), fun k h => ?_⟩
   simp only [List.mem_append, not_or]
   exact ⟨hd k h, hk k (List.mem_append_left _ h)⟩
 | _, [], _ :: _, h, _ => h.elim
 | _, _ :: _, [], h, _ => h.elim
theorem ownL_len {w : World} : ∀ {F : List Nat} {l : List α} {css : List (List Value)}, ownL c F w l css → css.length = l.length ∧ css.flatten.length = l.length * c.n
 | F, [], [], _ => by simp
 | F, x :: l, cs :: css, ⟨F1, F2, _, h1, h2, _⟩ => by
   have := ownL_len h2
   have h3 := Cod.lenO h1
   refine ⟨by simp [this.1], ?_⟩
   rw [List.flatten_cons, List.length_append, this.2, h3, List.length_cons, Nat.succ_mul, Nat.add_comm]
 | _, [], _ :: _, h => h.elim
 | _, _ :: _, [], h => h.elim
theorem ownL_get {w : World} : ∀ {F : List Nat} {l : List α} {css : List (List Value)}, ownL c F w l css → ∃ G : Nat → List Nat, (∀ j, j < l.length → ∀ k, k ∈ G j → k ∈ F) ∧
   (∀ i j, i < l.length → j < l.length → i ≠ j → ∀ k, k ∈ G i → k ∉ G j) ∧ ∀ j (hj : j < l.length), ∃ es, c.own (G j) w l[j] es ∧ ∀ i, i < c.n → css.flatten[j * c.n + i]? = es[i]?
 | F, [], [], _ => ⟨fun _ => [], by simp, by simp, by simp⟩
 | F, x :: l, cs :: css, ⟨F1, F2, e, h1, h2, hd⟩ => by
   subst e
   obtain ⟨G, hG, hGG, he⟩ := ownL_get h2
   have hn := Cod.lenO h1
   refine ⟨fun j => match j with | 0 => F1 | j + 1 => G j, ?_, ?_, ?_⟩
   · intro j hj k hk
     cases j with
     | zero => exact List.mem_append_left _ hk
     | succ j => exact List.mem_append_right _ (hG j (by simpa using hj) k hk)
   · intro i j hi hj hij k hk
     cases i with
     | zero => cases j with
       | zero => exact absurd rfl hij
       | succ j => intro h; exact hd k hk (hG j (by simpa using hj) k h)
     | succ i => cases j with
       | zero => intro h; exact hd k h (hG i (by simpa using hi) k hk)
       | succ j => exact hGG i j (by simpa using hi) (by simpa using hj) (by omega) k hk
   · intro j hj
     cases j with
     | zero =>
       refine ⟨cs, h1, fun i hi => ?_⟩
       rw [Nat.zero_mul, Nat.zero_add, List.flatten_cons, List.getElem?_append_left (by omega)]
     | succ j =>
       obtain ⟨es, h3, h4⟩ := he j (by simpa using hj)
       refine ⟨es, h3, fun i hi => ?_⟩
       rw [List.flatten_cons, List.getElem?_append_right (by rw [hn, Nat.succ_mul]; omega), ← h4 i hi]
       congr 1
       rw [hn, Nat.succ_mul]; omega
 | _, [], _ :: _, h => h.elim
 | _, _ :: _, [], h => h.elim
theorem slice_of_ownL {w : World} {F : List Nat} {l : List α} {css : List (List Value)} {base g cap : Nat} {e : TypeId} (h : ownL c F w l css)
   (hr : w.ownsRow base e c.n (.slice (some ⟨g, 0, none⟩) l.length cap) l.length css.flatten) (hg : g ∉ F) (hm : l.length ≤ maxLen) :
   (cSlice c).own (g :: F) w l [.slice (some ⟨g, 0, none⟩) l.length cap] := by
 obtain ⟨G, hG, hGG, he⟩ := ownL_get h
 have hlt := (hr.lt g rfl).2
 have hcap : l.length ≤ cap := by
   rcases hr.2 with ⟨h0, _⟩ | ⟨g', cap', cur, e0, _, _, hnc, _⟩
   · cases h0
   · simp at e0; omega
 refine ⟨_, _, rfl, ⟨hm, hcap⟩, .inr ⟨g, 0, G, rfl, by simp, hlt, fun j hj k hk => ⟨List.mem_cons_of_mem _ (hG j hj k hk), fun e => hg (e ▸ hG j hj k hk)⟩, hGG, fun j hj => by rw [Nat.zero_add]; exact hr.frozenAt j, fun j hj => ?_⟩⟩
 obtain ⟨es, h1, h2⟩ := he j hj
 refine ⟨es, h1, fun i hi => ?_⟩
 rw [Nat.zero_add, hr.cellAt _ ?_, h2 i hi]
 calc j * c.n + i < j * c.n + c.n := by omega
   _ = (j + 1) * c.n := by rw [Nat.succ_mul]
   _ ≤ l.length * c.n := Nat.mul_le_mul_right _ hj
theorem Own.nil (B : Nat) (w : World) : Own (cSlice c) B w [] [.slice none 0 0] := ⟨[], ⟨none, 0, rfl, by simp, .inl ⟨rfl, rfl⟩⟩, by simp⟩
theorem Own.slice {w : World} {F : List Nat} {l : List α} {css : List (List Value)} {base g cap : Nat} {e : TypeId} (h : ownL c F w l css)
   (hr : w.ownsRow base e c.n (.slice (some ⟨g, 0, none⟩) l.length cap) l.length css.flatten) (hF : ∀ k, k ∈ F → base ≤ k ∧ k < w.heap.size ∧ k ≠ g) (hm : l.length ≤ maxLen) :
   Own (cSlice c) base w l [.slice (some ⟨g, 0, none⟩) l.length cap] := by
 refine ⟨g :: F, slice_of_ownL h hr (fun hg => (hF g hg).2.2 rfl) hm, fun k hk => ?_⟩
 rcases List.mem_cons.1 hk with rfl | hk
 · exact hr.lt _ rfl
 · exact ⟨(hF k hk).1, (hF k hk).2.1⟩
theorem ownL_flat (enc : α → List Value) (w : World) : ∀ l : List α, (∀ x, x ∈ l → c.own [] w x (enc x)) → ownL c [] w l (l.map enc)
 | [], _ => rfl
 | x :: l, h => ⟨[], [], rfl, h x (by simp), ownL_flat enc w l (fun y hy => h y (by simp [hy])), by simp⟩
theorem ownL_below {w w' : World} {F : List Nat} {l : List α} {css : List (List Value)} {C : Nat} (h : ownL c F w l css) (hb : Below C w w') (hF : ∀ k, k ∈ F → k < C) : ownL c F w' l css :=
 ownL_keep h (fun k hk => hb.block k (hF k hk))
end

section
/- TyOne: TyA TyB TyB2. -/
/- Numbers in a slice, relations, facts: the laws' helpers on them (size, copy, equality). -/
open Go.RowKit
def szR (left : Int) (n : Nat) : Int := if left - (n : Int) < 0 then -1 else left - (n : Int)
theorem szR_le (left : Int) (n : Nat) (h : 0 ≤ left) : szR left n ≤ left := by unfold szR; split <;> omega
theorem szR_ge {left : Int} {n M : Nat} (h : ¬ szR left n < 0) (hM : left ≤ (M : Int)) : n ≤ M := by unfold szR at h; split at h <;> omega
theorem szR_neg {left : Int} {n : Nat} (h : szR left n < 0) : szR left n = -1 := by unfold szR at *; split at h <;> simp_all
theorem szR_step (q : Int) (s t : Nat) : szR q (s + t) = if szR q s < 0 then -1 else szR (szR q s) t := by
 unfold szR
 by_cases h : q - (s : Int) < 0
 · rw [if_pos h, if_pos (by omega), if_pos (by omega)]
 · rw [if_neg h, if_neg h]
   by_cases h2 : q - (s : Int) - (t : Int) < 0
   · rw [if_pos (by omega), if_pos h2]
   · rw [if_neg (by omega), if_neg h2]; omega
theorem szIntS_c {a : Option Addr} {cap : Nat} {l : List Int} {left : Int} {w : World} (hl : 0 ≤ left) (hl2 : left ≤ 1048576) (h : At (cSlice cInt) w l [.slice a l.length cap]) :
   Calls Tryz.prog 68 #[.slice a l.length cap, .int .i64 left] w fun e w' => e = .returned (.int .i64 (szR left l.length)) ∧ Below w.heap.size w w' := by
 have hm := (slice_len h).2
 unfold maxLen at hm
 have hw : wrap64 (left - (l.length : Int)) = left - (l.length : Int) := IntWalk.wrap64_in _ ⟨by omega, by omega⟩
 unfold szR
 by_cases h : left - (l.length : Int) < 0
 · rw [if_pos h]
   go_enter Tryz.func68, Tryz.ntmps68
   go_wp2
   go_ret
   exact ⟨rfl, Below.refl _ _⟩
 · rw [if_neg h]
   go_enter Tryz.func68, Tryz.ntmps68
   go_wp2
   go_ret
   exact ⟨rfl, Below.refl _ _⟩
def iv (x : Int) : Value := .int .i64 x
def doneI (l : List Int) (k n : Nat) : List Value := (l.take k).map iv ++ List.replicate (n - k) (iv 0)
theorem doneI_step (l : List Int) (k n : Nat) (hn : l.length = n) (hk : k < n) (hkl : k < l.length) : (doneI l k n).set k (.int .i64 l[k]) = doneI l (k + 1) n := by
 unfold doneI
 have e1 : n - k = (n - (k + 1)) + 1 := by omega
 have e2 : ((l.take k).map iv).length = k := by simp; omega
 rw [e1, List.replicate_succ, List.set_append_right _ _ (by omega), e2, Nat.sub_self, List.set_cons_zero, List.take_succ_eq_append_getElem hkl, List.map_append]
 simp [iv]
theorem doneI_all (l : List Int) (n : Nat) (h : l.length = n) : doneI l n n = l.map iv := by subst h; simp [doneI]
theorem doneI_at (l : List Int) (k n : Nat) (hn : l.length = n) (hk : k < n) : (doneI l k n)[k]? = some (.int .i64 0) := by
 have e1 : n - k = (n - (k + 1)) + 1 := by omega
 have e2 : ((l.take k).map iv).length = k := by simp; omega
 unfold doneI
 rw [e1, List.replicate_succ, List.getElem?_append_right (by omega), e2]
 simp [iv]
theorem made_ints (n : Nat) (l : List Int) : (madeCells #[.int .i64 0] n).toList = doneI l 0 n := by
 unfold doneI madeCells
 apply List.ext_getElem
 · simp
 · intro i h1 h2
   simp [iv, Nat.mod_one]
theorem flat_ints (l : List Int) : (l.map fun x => [iv x]).flatten = l.map iv := by
 induction l with
 | nil => rfl
 | cons x l ih => simp [ih]
theorem Tryz.infoI : (Tryz.prog.info? 3).map (fun i => (i.zero, i.size, i.bytes)) = some (some (.int .i64 0), 1, 8) := by kernel_rfl
theorem Below.drewN' {B : Nat} {a w : World} (h : Below B a w) (n : Nat) : Below B a (w.drewN n) := ⟨h.os, h.tape, h.output, h.size, h.block⟩
theorem ownsRow_below {base : Nat} {w w' : World} {e : TypeId} {sz : Nat} {v : Value} {n : Nat} {xs : List Value} (h : w.ownsRow base e sz v n xs) (k : Below w.heap.size w w') : w'.ownsRow base e sz v n xs := by
 refine ⟨h.1, ?_⟩
 rcases h.2 with h0 | ⟨g, cap, cur, rfl, hb, hg, hrest⟩
 · exact .inl h0
 · have hlt := (h.lt g rfl).2
   exact .inr ⟨g, cap, cur, rfl, hb, (k.block g hlt).trans hg, hrest⟩
theorem own_ints {w : World} {base : Nat} {e : TypeId} {v : Value} {n : Nat} {l : List Int} (h : w.ownsRow base e 1 v n (l.map iv)) (hr : ∀ x, x ∈ l → inR x) : Own (cSlice cInt) base w l [v] := by
 have hn : l.length = n := by simpa using h.1
 subst hn
 rcases h.2 with ⟨rfl, h0⟩ | ⟨g, cap, cur, rfl, hb, hg, h1, h2, _⟩
 · obtain rfl := List.eq_nil_of_length_eq_zero h0
   exact Own.nil _ _
 · exact Own.slice (c := cInt) (F := []) (css := l.map fun x => [iv x]) (ownL_flat (c := cInt) (fun x => [iv x]) w l (fun x hx => ⟨⟨rfl, hr x hx⟩, rfl⟩)) (by rw [flat_ints]; exact h) (by simp) (by omega)
set_option maxHeartbeats 800000 in
theorem toIntS_c {a : Option Addr} {cap : Nat} {l : List Int} {w : World} (hs : l.length ≤ 1048576) (h : At (cSlice cInt) w l [.slice a l.length cap]) :
   Calls Tryz.prog 71 #[.slice a l.length cap] w fun e w' => (∃ a' cap', e = .returned (.slice a' l.length cap') ∧ Own (cSlice cInt) w.heap.size w' l [.slice a' l.length cap']) ∧ Below w.heap.size w w' := by
 obtain ⟨n, hn⟩ : ∃ n : Nat, l.length = n := ⟨_, rfl⟩
 have Hn := Lib.hid hn
 have Hr : Hid (∀ w' : World, Below w.heap.size w w' → ∀ j (hj : j < l.length), ∃ b off, a = some ⟨b, off, none⟩ ∧ b < w.heap.size ∧ w'.cell? ⟨b, off + j, none⟩ = some (.int .i64 l[j])) := fun w' hb j hj => ints_at (Cod.ok_below h hb) j hj
 have Hg := Lib.hid (ints_rng h)
 rw [hn] at hs h ⊢
 clear hn h
 obtain ⟨i0, hi, hz0, hz1, hz2⟩ := info_parts Tryz.infoI
 go_enter Tryz.func71, Tryz.ntmps71
 go_wp2_with (at_make; refine wpList_make_full _ rfl (.tmp 6) (.tmp 6) 55 rfl w.heap.size 3 i0 (.int .i64 0) 1 Tryz.underlying55 hi hz0 hz1 .i64 .i64 n n n rfl rfl rfl rfl ?c1 ?c2 (Nat.le_refl _) ?_)
 case c1 => rw [hz2]; omega
 case c2 => unfold maxLen; omega
 intro w1 hown hg1
 rw [made_ints n l] at hown
 have hb0 : Below w.heap.size w w1 := (Below.refl _ _).grown hg1 (Nat.le_refl _) (fun k hk => by cases hk)
 clear hg1 hi hz0 hz1 hz2
 go_wp2
 go_loopw [4] (fun iv wr => ∃ k : Nat, k ≤ n ∧ iv = .int .i64 k ∧ wr.ownsRow w.heap.size 3 1 (.slice (some ⟨w.heap.size, 0, none⟩) n n) n (doneI l k n) ∧ Below w.heap.size w wr) (fun iv _ => n - (intOf iv).toNat)
 case atStart => exact ⟨0, by omega, by go_num, hown, hb0⟩
 case round =>
   clear hown hb0
   obtain ⟨k, hk, rfl, hown, hb⟩ := hrel
   by_cases hlt : k < n
   · have hkl : k < l.length := by rw [Hn.out]; exact hlt
     obtain ⟨b, off, rfl, hbB, c0⟩ := Hr.out _ hb k hkl
     have Hstep := Lib.hid (doneI_step l k n Hn.out hlt hkl)
     have f0 := hown.frozenAt k
     have d0 := (hown.cellAt k (by omega)).trans (doneI_at l k n Hn.out hlt)
     generalize hrk : l[k] = r at *
     clear hrk
     go_wp2
     go_roundw
     case rel =>
       have h1 := (hown.stored k (.int .i64 r)).1
       rw [Hstep.out] at h1
       exact ⟨k + 1, by omega, by go_num, h1, hb.setCell (Nat.le_refl _) _⟩
     case measure => simp [intOf]; omega
   · obtain rfl : k = n := by omega
     rw [doneI_all l k Hn.out] at hown
     go_wp2
     go_ret
     exact ⟨⟨_, _, rfl, own_ints hown Hg.out⟩, hb⟩
theorem eqIntS_c {a a' : Option Addr} {cap cap' : Nat} {l m : List Int} {w : World} (h : At (cSlice cInt) w l [.slice a l.length cap]) (h' : At (cSlice cInt) w m [.slice a' m.length cap']) :
   Calls Tryz.prog 33 #[.slice a l.length cap, .slice a' m.length cap'] w fun e w' => e = .returned (.bool (decide (l = m))) ∧ Below w.heap.size w w' := by
 have hm := (slice_len h).2
 have hm' := (slice_len h').2
 unfold maxLen at hm hm'
 by_cases hne : l.length = m.length
 · obtain ⟨n, hn⟩ : ∃ n : Nat, l.length = n := ⟨_, rfl⟩
   have Hr : Hid (∀ w' : World, Below w.heap.size w w' → ∀ j (hj : j < l.length), ∃ b off, a = some ⟨b, off, none⟩ ∧ b < w.heap.size ∧ w'.cell? ⟨b, off + j, none⟩ = some (.int .i64 l[j])) := fun w' hb j hj => ints_at (Cod.ok_below h hb) j hj
   have Hr' : Hid (∀ w' : World, Below w.heap.size w w' → ∀ j (hj : j < m.length), ∃ b off, a' = some ⟨b, off, none⟩ ∧ b < w.heap.size ∧ w'.cell? ⟨b, off + j, none⟩ = some (.int .i64 m[j])) := fun w' hb j hj => ints_at (Cod.ok_below h' hb) j hj
   clear h h'
   rw [← hne, hn]
   have Hn := Lib.hid hn
   have Hm : Hid (m.length = n) := by rw [← hne]; exact hn
   have hm2 : n ≤ 2 ^ 63 - 1 := by omega
   generalize hR : decide (l = m) = R
   have HR : Hid (decide (l.drop 0 = m.drop 0) = R) := hR
   clear hR hne hn hm hm'
   go_enter Tryz.func33, Tryz.ntmps33
   go_wp2
   go_loopw [5] (fun iv wr => ∃ k : Nat, k ≤ n ∧ iv = .int .i64 k ∧ Hid (decide (l.drop k = m.drop k) = R) ∧ Below w.heap.size w wr) (fun iv _ => n - (intOf iv).toNat)
   case atStart => exact ⟨0, by omega, by go_num, HR, Below.refl _ _⟩
   case round =>
     obtain ⟨k, hk, rfl, Hq, hb⟩ := hrel
     by_cases hlt : k < n
     · have hkl : k < l.length := by rw [Hn.out]; exact hlt
       have hkm : k < m.length := by rw [Hm.out]; exact hlt
       have Hst : Hid (R = (decide (l[k] = m[k]) && decide (l.drop (k + 1) = m.drop (k + 1)))) := by
         show R = _
         rw [← Hq.out, ← Bool.decide_and]; congr 1; rw [List.drop_eq_getElem_cons hkl, List.drop_eq_getElem_cons hkm, List.cons.injEq]
       obtain ⟨b, off, rfl, hbB, c0⟩ := Hr.out _ hb k hkl
       obtain ⟨b', off', rfl, hbB', c0'⟩ := Hr'.out _ hb k hkm
       generalize hrk : l[k] = r at *
       generalize hrk' : m[k] = r' at *
       clear hrk hrk'
       by_cases he : r = r'
       · have hn : (r != r') = false := by simp [he]
         have hst := Hst.out
         rw [decide_eq_true he, Bool.true_and] at hst
         have Hst2 := Lib.hid hst.symm
         clear hst Hst he
         go_wp2
         go_quiet (fail)
         go_wp2
         go_roundw
         case rel => exact ⟨k + 1, by omega, by go_num, Hst2, Below.drewN' hb _⟩
         case measure => simp [intOf]; omega
       · have hn : (r != r') = true := by simp [he]
         have hR : R = false := by have := Hst.out; rw [decide_eq_false he, Bool.false_and] at this; exact this
         clear Hst he
         go_wp2
         go_quiet (fail)
         go_wp2
         go_ret
         exact ⟨by rw [hR]; rfl, Below.drewN' hb _⟩
     · obtain rfl : k = n := by omega
       have hR : R = true := by
         have := Hq.out
         rw [List.drop_eq_nil_of_le (by rw [Hn.out]; exact Nat.le_refl _), List.drop_eq_nil_of_le (by rw [Hm.out]; exact Nat.le_refl _)] at this
         simpa using this.symm
       go_wp2
       go_ret
       exact ⟨by rw [hR]; rfl, hb⟩
 · rw [decide_eq_false (fun e => hne (by rw [e]))]
   have hne2 : (l.length != m.length) = true := by simpa using hne
   go_enter Tryz.func33, Tryz.ntmps33
   go_wp2
   go_ret
   exact ⟨rfl, Below.refl _ _⟩
/- Relations and facts: structures, readings, the laws' helpers on one of them. -/
open Go.RowKit
structure Rel where
 name : ByteArray
 arity : Int
 key : Int
deriving DecidableEq
def cRel : Cod Rel := cMap (fun x => (x.name, x.arity, x.key)) (cPair cStr (cPair cInt cInt))
theorem cRel_inv {B : Nat} {w : World} {x : Rel} {cs : List Value} (h : cRel.ok B w x cs) : cs = [.string x.name, .int .i64 x.arity, .int .i64 x.key] ∧ x.name.size ≤ maxLen ∧ inR x.arity ∧ inR x.key := by
 obtain ⟨_, _, rfl, ⟨rfl, hs⟩, _, _, rfl, ⟨rfl, h1⟩, ⟨rfl, h2⟩⟩ := h
 exact ⟨rfl, hs, h1, h2⟩
theorem cRel_open {B : Nat} {w : World} {x : Rel} {cs : List Value} (h : cRel.ok B w x cs) : cs = [.string x.name, .int .i64 x.arity, .int .i64 x.key] ∧ cRel.ok B w x [.string x.name, .int .i64 x.arity, .int .i64 x.key] := by
 have h2 := cRel_inv h
 exact ⟨h2.1, h2.1 ▸ h⟩
theorem cRel_mkO {w : World} {x : Rel} (h : x.name.size ≤ maxLen) (h1 : inR x.arity) (h2 : inR x.key) : cRel.own [] w x [.string x.name, .int .i64 x.arity, .int .i64 x.key] := ⟨[_], [_, _], [], [], rfl, ⟨⟨rfl, h⟩, rfl⟩, ⟨[_], [_], [], [], rfl, ⟨⟨rfl, h1⟩, rfl⟩, ⟨⟨rfl, h2⟩, rfl⟩, rfl, by simp⟩, rfl, by simp⟩
theorem Own.rel {B : Nat} {w : World} {x : Rel} (h : x.name.size ≤ maxLen) (h1 : inR x.arity) (h2 : inR x.key) : Own cRel B w x [.string x.name, .int .i64 x.arity, .int .i64 x.key] := ⟨[], cRel_mkO h h1 h2, by simp⟩
theorem szRelation_c {x : Rel} {left : Int} {w : World} (hl : 0 ≤ left) (hl2 : left ≤ 1048576) (h : At cRel w x [.string x.name, .int .i64 x.arity, .int .i64 x.key]) :
   Calls Tryz.prog 48 #[.agg #[.string x.name, .int .i64 x.arity, .int .i64 x.key], .int .i64 left] w fun e w' =>
     e = .returned (.int .i64 (szR left x.name.size)) ∧ Below w.heap.size w w' := by
 have hr := (cRel_inv h).2.1
 clear h
 obtain ⟨n, a, k⟩ := x
 unfold maxLen at hr
 simp only [szR] at *
 have hw : wrap64 (left - (n.size : Int)) = left - (n.size : Int) := IntWalk.wrap64_in _ ⟨by omega, by omega⟩
 by_cases h : (left - n.size) < 0
 · rw [if_pos h]
   go_enter Tryz.func48, Tryz.ntmps48
   go_wp2
   go_ret
   exact ⟨rfl, (Below.refl _ _).alloc (Nat.le_refl _) _⟩
 · rw [if_neg h]
   go_enter Tryz.func48, Tryz.ntmps48
   go_wp2
   go_ret
   exact ⟨rfl, (Below.refl _ _).alloc (Nat.le_refl _) _⟩
theorem toRelation_c {x : Rel} {w : World} (hs : x.name.size ≤ 1048576) (h : At cRel w x [.string x.name, .int .i64 x.arity, .int .i64 x.key]) :
   Calls Tryz.prog 51 #[.agg #[.string x.name, .int .i64 x.arity, .int .i64 x.key]] w fun e w' => (e = .returned (.agg #[.string x.name, .int .i64 x.arity, .int .i64 x.key]) ∧ Own cRel w.heap.size w' x [.string x.name, .int .i64 x.arity, .int .i64 x.key]) ∧ Below w.heap.size w w' := by
 have ho : ∀ w', Own cRel w.heap.size w' x [.string x.name, .int .i64 x.arity, .int .i64 x.key] := fun w' => Own.rel (cRel_inv h).2.1 (cRel_inv h).2.2.1 (cRel_inv h).2.2.2
 have Ho := Lib.hid ho
 clear ho h
 obtain ⟨n, a, k⟩ := x
 simp only at *
 go_enter Tryz.func51, Tryz.ntmps51
 go_wp2
 go_returns
 refine ⟨⟨?_, Ho.out _⟩, ?_⟩
 · simp
 · go_grown
theorem eqRelation_c {x y : Rel} {w : World} (h : At cRel w x [.string x.name, .int .i64 x.arity, .int .i64 x.key]) (h' : At cRel w y [.string y.name, .int .i64 y.arity, .int .i64 y.key]) :
   Calls Tryz.prog 56 #[.agg #[.string x.name, .int .i64 x.arity, .int .i64 x.key], .agg #[.string y.name, .int .i64 y.arity, .int .i64 y.key]] w fun e w' => e = .returned (.bool (decide (x = y))) ∧ Below w.heap.size w w' := by
 clear h h'
 obtain ⟨n, a, k⟩ := x
 obtain ⟨n', a', k'⟩ := y
 simp only [Rel.mk.injEq] at *
 by_cases h1 : n = n'
 · subst h1
   have h1' : (n.toList == n.toList) = true := by simp
   by_cases h2 : a = a'
   · subst h2
     by_cases h3 : k = k'
     · subst h3
       go_enter Tryz.func56, Tryz.ntmps56
       go_wp2
       go_ret
       exact ⟨by simp, by go_grown⟩
     · have hn : (k != k') = true := by simp [h3]
       go_enter Tryz.func56, Tryz.ntmps56
       go_wp2
       go_ret
       exact ⟨by simp [h3], by go_grown⟩
   · have hn : (a != a') = true := by simp [h2]
     go_enter Tryz.func56, Tryz.ntmps56
     go_wp2
     go_ret
     exact ⟨by simp [h2], by go_grown⟩
 · have h1' : (n.toList == n'.toList) = false := by
     rw [Lib.toList_data, Lib.toList_data]
     simp only [beq_eq_false_iff_ne, ne_eq]
     intro e; exact h1 (by rw [str_of n, str_of n', e])
   go_enter Tryz.func56, Tryz.ntmps56
   go_wp2
   go_ret
   exact ⟨by simp [h1], by go_grown⟩
/- Structs: readings, the laws' helpers on them (size, copy, equality). -/
open Go.RowKit
structure Fct where
 rel : Int
 vals : List Int
deriving DecidableEq
def cFct : Cod Fct := cMap (fun x => (x.rel, x.vals)) (cPair cInt (cSlice cInt))
theorem cFct_fields {B : Nat} {w : World} {x : Fct} {cs : List Value} (h : cFct.ok B w x cs) : ∃ a1 cap1, cs = [.int .i64 x.rel, .slice a1 x.vals.length cap1] ∧ (cSlice cInt).ok B w x.vals [.slice a1 x.vals.length cap1] ∧ inR x.rel := by
 obtain ⟨_, _, rfl, h0, h1⟩ := h
 obtain ⟨rfl, g0⟩ := h0
 have k1 := h1
 obtain ⟨a1, cap1, rfl, _⟩ := k1
 exact ⟨a1, cap1, rfl, h1, g0⟩
theorem cFct_open {B : Nat} {w : World} {x : Fct} {cs : List Value} (h : cFct.ok B w x cs) : ∃ a1 cap1, cs = [.int .i64 x.rel, .slice a1 x.vals.length cap1] ∧ cFct.ok B w x [.int .i64 x.rel, .slice a1 x.vals.length cap1] := by
 have h0 := h
 obtain ⟨a1, cap1, rfl, _⟩ := cFct_fields h
 exact ⟨a1, cap1, rfl, h0⟩
theorem cFct_inv {B : Nat} {w : World} {x : Fct} {v0 v1 : Value} (h : cFct.ok B w x [v0, v1]) : (cSlice cInt).ok B w x.vals [v1] ∧ inR x.rel := by
 obtain ⟨a1, cap1, e, h1, g0⟩ := cFct_fields h
 simp only [List.cons.injEq, and_true] at e
 obtain ⟨rfl, rfl⟩ := e
 exact ⟨h1, g0⟩
theorem cFct_own {lo hi lo1 hi1 : Nat} {w : World} {x : Fct} {v1 : Value} (h1 : OwnIn (cSlice cInt) lo1 hi1 w x.vals [v1]) (l1 : lo1 ≤ hi1) (g0 : inR x.rel) (q1 : lo ≤ lo1) (q : hi1 ≤ hi) : OwnIn cFct lo hi w x [.int .i64 x.rel, v1] := (OwnIn.pair (OwnIn.int lo lo _ g0) (h1.wide (lo' := lo) (hi' := hi) (by omega) (by omega)) (by omega) (by omega))
def sizeFact (x : Fct) : Nat := x.vals.length
theorem szFact_c {a1 : Option Addr} {cap1 : Nat} {x : Fct} {left : Int} {w : World} (hl : 0 ≤ left) (hl2 : left ≤ 1048576) (h : At cFct w x [.int .i64 x.rel, .slice a1 x.vals.length cap1]) :
   Calls Tryz.prog 49 #[.agg #[.int .i64 x.rel, .slice a1 x.vals.length cap1], .int .i64 left] w fun e w' => e = .returned (.int .i64 (szR left (sizeFact x))) ∧ Below w.heap.size w w' := by
 obtain ⟨k1, _⟩ := cFct_inv h
 unfold sizeFact
 clear h
 obtain ⟨rel, vals⟩ := x
 simp only at *
 have H1 : Hid (∀ q : Int, 0 ≤ q → q ≤ 1048576 → ∀ ww, Below w.heap.size w ww → Calls Tryz.prog 68 #[.slice a1 vals.length cap1, .int .i64 q] ww fun e w' => e = .returned (.int .i64 (szR q (vals.length))) ∧ Below ww.heap.size ww w') :=
   fun q h0 h1 ww hb => szIntS_c h0 h1 (At.below (c := (cSlice cInt)) k1 hb (Nat.le_refl _))
 clear k1
 have G1 := Lib.hid (H1.out (left) (by omega) (by omega))
 have hn1 : szR (left) (vals.length) < 0 → szR (left) (vals.length) = -1 := szR_neg
 have hle1 := szR_le (left) (vals.length) (by omega)
 generalize szR (left) (vals.length) = z1 at *
 by_cases hz1 : z1 < 0
 · obtain rfl : z1 = -1 := hn1 hz1
   clear hn1
   go_enter Tryz.func49, Tryz.ntmps49
   go_wp2_with fail
   refine (G1.out _ ?hb).mono ?_
   case hb => go_grown
   rintro e w1 ⟨rfl, hb1⟩
   have hbb1 : Below w.heap.size w w1 := Below.trans (by go_grown) (hb1.mono (by simp; try omega))
   have hsz1 : w.heap.size + 1 ≤ w1.heap.size := by have := hb1.size; simp at this; omega
   have p1_0 : w1.cell? ⟨w.heap.size, 0, none⟩ = some (.int .i64 rel) := (hb1.cell (by simp)).trans (by go_simp)
   have p1_1 : w1.cell? ⟨w.heap.size, 1, none⟩ = some (.slice a1 vals.length cap1) := (hb1.cell (by simp)).trans (by go_simp)
   clear hb1
   go_wp2
   go_ret
   exact ⟨rfl, hbb1⟩
 · clear hn1
   go_enter Tryz.func49, Tryz.ntmps49
   go_wp2_with fail
   refine (G1.out _ ?hb).mono ?_
   case hb => go_grown
   rintro e w1 ⟨rfl, hb1⟩
   have hbb1 : Below w.heap.size w w1 := Below.trans (by go_grown) (hb1.mono (by simp; try omega))
   have hsz1 : w.heap.size + 1 ≤ w1.heap.size := by have := hb1.size; simp at this; omega
   have p1_0 : w1.cell? ⟨w.heap.size, 0, none⟩ = some (.int .i64 rel) := (hb1.cell (by simp)).trans (by go_simp)
   have p1_1 : w1.cell? ⟨w.heap.size, 1, none⟩ = some (.slice a1 vals.length cap1) := (hb1.cell (by simp)).trans (by go_simp)
   clear hb1
   go_wp2
   go_ret
   exact ⟨rfl, hbb1⟩
set_option maxHeartbeats 800000 in
theorem toFact_c {a1 : Option Addr} {cap1 : Nat} {x : Fct} {w : World} (hs : sizeFact x ≤ 1048576) (h : At cFct w x [.int .i64 x.rel, .slice a1 x.vals.length cap1]) :
   Calls Tryz.prog 52 #[.agg #[.int .i64 x.rel, .slice a1 x.vals.length cap1]] w fun e w' => (∃ a1' cap1', e = .returned (.agg #[.int .i64 x.rel, .slice a1' x.vals.length cap1']) ∧ Own cFct w.heap.size w' x [.int .i64 x.rel, .slice a1' x.vals.length cap1']) ∧ Below w.heap.size w w' := by
 unfold sizeFact at hs
 obtain ⟨k1, g0⟩ := cFct_inv h
 have G0 := Lib.hid g0
 clear g0
 clear h
 obtain ⟨rel, vals⟩ := x
 simp only at *
 have H1 : Hid (∀ ww, Below w.heap.size w ww → Calls Tryz.prog 71 #[.slice a1 vals.length cap1] ww fun e w' => (∃ a' cap', e = .returned (.slice a' vals.length cap') ∧ Own (cSlice cInt) ww.heap.size w' vals [.slice a' vals.length cap']) ∧ Below ww.heap.size ww w') :=
   fun ww hb => toIntS_c (by omega) (At.below (c := (cSlice cInt)) k1 hb (Nat.le_refl _))
 clear hs k1
 go_enter Tryz.func52, Tryz.ntmps52
 go_wp2_with fail
 refine (H1.out _ ?hb).mono ?_
 case hb => go_grown
 rintro e w1 ⟨⟨a1', cap1', rfl, ho1⟩, hb1⟩
 have hbb1 : Below w.heap.size w w1 := Below.trans (by go_grown) (hb1.mono (by simp; try omega))
 have hsz1 : w.heap.size + 3 ≤ w1.heap.size := by have := hb1.size; simp at this; omega
 have p1_0 : w1.cell? ⟨w.heap.size, 0, none⟩ = some (.int .i64 rel) := (hb1.cell (by simp; try omega)).trans (by go_simp)
 have o1_0 : w1.cell? ⟨w.heap.size + 1 + 1, 0, none⟩ = some (.int .i64 rel) := (hb1.cell (by simp; try omega)).trans (by go_simp)
 have f1_0 : w1.frozen? ⟨w.heap.size + 1 + 1, 0, none⟩ = false := (hb1.frozen (by simp; try omega)).trans (by go_simp)
 have e1_0 : w1.cell? ⟨w.heap.size + 1, 0, none⟩ = some (.int .i64 0) := (hb1.cell (by simp; try omega)).trans (by go_simp)
 have g1_0 : w1.frozen? ⟨w.heap.size + 1, 0, none⟩ = false := (hb1.frozen (by simp; try omega)).trans (by go_simp)
 have p1_1 : w1.cell? ⟨w.heap.size, 1, none⟩ = some (.slice a1 vals.length cap1) := (hb1.cell (by simp; try omega)).trans (by go_simp)
 have o1_1 : w1.cell? ⟨w.heap.size + 1 + 1, 1, none⟩ = some (.slice none 0 0) := (hb1.cell (by simp; try omega)).trans (by go_simp)
 have f1_1 : w1.frozen? ⟨w.heap.size + 1 + 1, 1, none⟩ = false := (hb1.frozen (by simp; try omega)).trans (by go_simp)
 have e1_1 : w1.cell? ⟨w.heap.size + 1, 1, none⟩ = some (.slice none 0 0) := (hb1.cell (by simp; try omega)).trans (by go_simp)
 have g1_1 : w1.frozen? ⟨w.heap.size + 1, 1, none⟩ = false := (hb1.frozen (by simp; try omega)).trans (by go_simp)
 have hR1 : w1.heap[w.heap.size + 1]? = some (.cells #[.int .i64 0, .slice none 0 0] 89 (0, 0)) := (hb1.block _ (by simp; try omega)).trans (by rw [Go.heap_alloc_old _ _ (by simp; try omega)]; exact heap_alloc2_new _ _ _)
 have u1 : OwnIn (cSlice cInt) (w.heap.size + 3) w1.heap.size w1 vals _ := OwnIn.wide ho1 (by simp; try omega) (Nat.le_refl _)
 clear hb1 ho1
 have U1 := Lib.hid u1
 clear u1
 go_wp2
 (try simp only [Exit.inBlock, Exit.then])
 refine bodyPost_ret (results_cell_row rfl _ _ (w.heap.size + 1) _ _ _ _ rfl (heap_setCell_same _ _ 1 _ _ _ (heap_setCell_same _ _ 0 _ _ _ ((heap_setCell_other _ _ _ _ (by simp)).trans (hR1)))) Tryz.underlying89 rfl (by kernel_rfl)) rfl ?_
 exact ⟨⟨_, _, rfl, OwnIn.own (cFct_own (x := ⟨rel, vals⟩) (lo := w.heap.size) (hi := w1.heap.size) ((((U1.out).setCell (by simp; try omega) _).setCell (by simp; try omega) _).setCell (by simp; try omega) _) (by omega) G0.out (by omega) (by omega)) (by simp [World.setCell])⟩, (((hbb1).setCell (by simp; try omega) _).setCell (by simp; try omega) _).setCell (by simp; try omega) _⟩
theorem eqFact_c {a1 : Option Addr} {cap1 : Nat} {a1' : Option Addr} {cap1' : Nat} {x y : Fct} {w : World} (h : At cFct w x [.int .i64 x.rel, .slice a1 x.vals.length cap1]) (h' : At cFct w y [.int .i64 y.rel, .slice a1' y.vals.length cap1']) :
   Calls Tryz.prog 57 #[.agg #[.int .i64 x.rel, .slice a1 x.vals.length cap1], .agg #[.int .i64 y.rel, .slice a1' y.vals.length cap1']] w fun e w' => e = .returned (.bool (decide (x = y))) ∧ Below w.heap.size w w' := by
 obtain ⟨k1, _⟩ := cFct_inv h
 obtain ⟨m1, _⟩ := cFct_inv h'
 clear h h'
 obtain ⟨rel, vals⟩ := x
 obtain ⟨rel', vals'⟩ := y
 have he : decide (Fct.mk rel vals = Fct.mk rel' vals') = (decide (rel = rel') && decide (vals = vals')) := by
   simp only [← Bool.decide_and]; congr 1; rw [Fct.mk.injEq]
 rw [he]
 clear he
 simp only at *
 have H1 : Hid (∀ ww, Below w.heap.size w ww → Calls Tryz.prog 33 #[.slice a1 vals.length cap1, .slice a1' vals'.length cap1'] ww fun e w' => e = .returned (.bool (decide (vals = vals'))) ∧ Below ww.heap.size ww w') :=
   fun ww hb => eqIntS_c (At.below (c := (cSlice cInt)) k1 hb (Nat.le_refl _)) (At.below (c := (cSlice cInt)) m1 hb (Nat.le_refl _))
 clear k1 m1
 by_cases hr0 : rel = rel'
 · subst hr0
   rw [decide_eq_true rfl, Bool.true_and]
   generalize decide (vals = vals') = z1 at *
   cases z1 with
   | true =>
     go_enter Tryz.func57, Tryz.ntmps57
     go_wp2_with fail
     refine (H1.out _ ?hb).mono ?_
     case hb => go_grown
     rintro e w1 ⟨rfl, hb1⟩
     have hbb1 : Below w.heap.size w w1 := Below.trans (by go_grown) (hb1.mono (by simp; try omega))
     have hsz1 : w.heap.size + 2 ≤ w1.heap.size := by have := hb1.size; simp at this; omega
     have p1_0 : w1.cell? ⟨w.heap.size, 0, none⟩ = some (.int .i64 rel) := (hb1.cell (by simp; try omega)).trans (by go_simp)
     have r1_0 : w1.cell? ⟨w.heap.size + 1, 0, none⟩ = some (.int .i64 rel) := (hb1.cell (by simp; try omega)).trans (by go_simp)
     have p1_1 : w1.cell? ⟨w.heap.size, 1, none⟩ = some (.slice a1 vals.length cap1) := (hb1.cell (by simp; try omega)).trans (by go_simp)
     have r1_1 : w1.cell? ⟨w.heap.size + 1, 1, none⟩ = some (.slice a1' vals'.length cap1') := (hb1.cell (by simp; try omega)).trans (by go_simp)
     clear hb1
     go_wp2
     go_ret
     exact ⟨by simp, hbb1⟩
   | false =>
     go_enter Tryz.func57, Tryz.ntmps57
     go_wp2_with fail
     refine (H1.out _ ?hb).mono ?_
     case hb => go_grown
     rintro e w1 ⟨rfl, hb1⟩
     have hbb1 : Below w.heap.size w w1 := Below.trans (by go_grown) (hb1.mono (by simp; try omega))
     have hsz1 : w.heap.size + 2 ≤ w1.heap.size := by have := hb1.size; simp at this; omega
     have p1_0 : w1.cell? ⟨w.heap.size, 0, none⟩ = some (.int .i64 rel) := (hb1.cell (by simp; try omega)).trans (by go_simp)
     have r1_0 : w1.cell? ⟨w.heap.size + 1, 0, none⟩ = some (.int .i64 rel) := (hb1.cell (by simp; try omega)).trans (by go_simp)
     have p1_1 : w1.cell? ⟨w.heap.size, 1, none⟩ = some (.slice a1 vals.length cap1) := (hb1.cell (by simp; try omega)).trans (by go_simp)
     have r1_1 : w1.cell? ⟨w.heap.size + 1, 1, none⟩ = some (.slice a1' vals'.length cap1') := (hb1.cell (by simp; try omega)).trans (by go_simp)
     clear hb1
     go_wp2
     go_ret
     exact ⟨by simp, hbb1⟩
 · have hn0 : (rel != rel') = true := by simp [hr0]
   rw [decide_eq_false hr0, Bool.false_and]
   go_enter Tryz.func57, Tryz.ntmps57
   go_wp2
   go_ret
   exact ⟨by simp, by go_grown⟩
end

section
/- TyTwo: TyC TyD. -/
/- Slices of structs: the laws' helpers on them (size, copy, equality). -/
open Go.RowKit
theorem at_Relation {B : Nat} {w : World} {l : List Rel} {a0 : Option Addr} {len cap0 : Nat} (h : (cSlice cRel).ok B w l [.slice a0 len cap0]) (j : Nat) (hj : j < l.length) :
   ∃ b off, a0 = some ⟨b, off, none⟩ ∧ b < B ∧ w.cell? ⟨b, off + j * 3, none⟩ = some (.string l[j].name) ∧ w.cell? ⟨b, off + j * 3 + 1, none⟩ = some (.int .i64 l[j].arity) ∧ w.cell? ⟨b, off + j * 3 + 2, none⟩ = some (.int .i64 l[j].key) ∧ cRel.ok B w l[j] [.string l[j].name, .int .i64 l[j].arity, .int .i64 l[j].key] := by
 obtain ⟨b, off, es, rfl, hb, he, hc⟩ := slice_at h j hj
 obtain ⟨rfl, hx⟩ := cRel_open he
 exact ⟨b, off, rfl, hb, by exact hc 0 (by decide), by exact hc 1 (by decide), by exact hc 2 (by decide), hx⟩
def sumRelation (l : List Rel) : Nat := (l.map fun x => x.name.size).sum
def sizeRelationS (l : List Rel) : Nat := l.length + sumRelation l
theorem sumRelation_ge (l : List Rel) (k : Nat) (hk : k < l.length) : (l[k].name.size) ≤ sumRelation l := by
 induction l generalizing k with
 | nil => simp at hk
 | cons x l ih =>
   unfold sumRelation at *
   rw [List.map_cons, List.sum_cons]
   cases k with
   | zero => exact Nat.le_add_right _ _
   | succ k => exact Nat.le_trans (ih k (by simpa using hk)) (Nat.le_add_left _ _)
theorem sumRelation_drop (l : List Rel) (k : Nat) (hk : k < l.length) : sumRelation (l.drop k) = (l[k].name.size) + sumRelation (l.drop (k + 1)) := by
 unfold sumRelation; rw [List.drop_eq_getElem_cons hk, List.map_cons, List.sum_cons]
theorem szRelationS_c {a0 : Option Addr} {cap0 : Nat} {l : List Rel} {left : Int} {w : World} (hl : 0 ≤ left) (hl2 : left ≤ 1048576) (h : At (cSlice cRel) w l [.slice a0 l.length cap0]) :
   Calls Tryz.prog 24 #[.slice a0 l.length cap0, .int .i64 left] w fun e w' => e = .returned (.int .i64 (szR left (sizeRelationS l))) ∧ Below w.heap.size w w' := by
 have hm := (slice_len h).2
 unfold maxLen at hm
 have hw : wrap64 (left - (l.length : Int)) = left - (l.length : Int) := IntWalk.wrap64_in _ ⟨by omega, by omega⟩
 obtain ⟨n, hn⟩ : ∃ n : Nat, l.length = n := ⟨_, rfl⟩
 have Hn := Lib.hid hn
 have Hr : Hid (∀ w' : World, Below w.heap.size w w' → ∀ j (hj : j < l.length), _) := fun w' hb j hj => at_Relation (Cod.ok_below h hb) j hj
 unfold sizeRelationS
 rw [hn] at hw hm ⊢
 clear h hn
 rw [szR_step left n]
 by_cases h0 : left - (n : Int) < 0
 · rw [if_pos (by unfold szR; rw [if_pos h0]; decide)]
   go_enter Tryz.func24, Tryz.ntmps24
   go_wp2
   go_ret
   exact ⟨rfl, Below.refl _ _⟩
 · have hz : szR left n = left - (n : Int) := if_neg h0
   rw [hz, if_neg h0]
   clear hz
   generalize hR : szR (left - (n : Int)) (sumRelation l) = R
   have HR : Hid (szR (left - (n : Int)) (sumRelation (l.drop 0)) = R) := hR
   clear hR
   go_enter Tryz.func24, Tryz.ntmps24
   go_wp2
   go_loopw [1, 5] (fun lv iv wr => ∃ (k : Nat) (q : Int), k ≤ n ∧ lv = .int .i64 q ∧ iv = .int .i64 k ∧ 0 ≤ q ∧ q ≤ 1048576 ∧ Hid (szR q (sumRelation (l.drop k)) = R) ∧ Below w.heap.size w wr) (fun _ iv _ => n - (intOf iv).toNat)
   case atStart => exact ⟨0, left - n, by omega, rfl, rfl, by omega, by omega, HR, Below.refl _ _⟩
   case round =>
     clear HR hw
     obtain ⟨k, q, hk, rfl, rfl, hq0, hq1, Hq, hb⟩ := hrel
     by_cases hlt : k < n
     · have hkl : k < l.length := by rw [Hn.out]; exact hlt
       obtain ⟨b, off, rfl, hbB, c0, c1, c2, hx⟩ := Hr.out _ hb k hkl
       have hst : Hid (R = if szR q (l[k].name.size) < 0 then -1 else szR (szR q (l[k].name.size)) (sumRelation (l.drop (k + 1)))) := by
         show R = _
         rw [← szR_step, ← sumRelation_drop l k hkl, Hq.out]
       have Hc : Hid (∀ ww, Below w.heap.size wr ww → Calls Tryz.prog 48 #[.agg #[.string l[k].name, .int .i64 l[k].arity, .int .i64 l[k].key], .int .i64 q] ww fun e w' => e = .returned (.int .i64 (szR q (l[k].name.size))) ∧ Below ww.heap.size ww w') :=
         fun ww hw2 => szRelation_c hq0 hq1 (cRel.keep hx (fun k hk => hw2.block k hk) (Nat.le_trans hb.size hw2.size))
       have hle := szR_le q (l[k].name.size) hq0
       generalize hz : szR q (l[k].name.size) = z at *
       clear hz hx Hq
       generalize l[k] = r at *
       by_cases hneg : z < 0
       · have hR : R = -1 := by have := hst.out; rw [if_pos hneg] at this; exact this
         go_wp2_with fail
         refine (Hc.out _ (Below.refl _ _)).mono ?_
         rintro e w1 ⟨rfl, hb1⟩
         go_wp2
         go_ret
         exact ⟨by rw [hR]; rfl, hb.trans (hb1.mono hb.size)⟩
       · go_wp2_with fail
         refine (Hc.out _ (Below.refl _ _)).mono ?_
         rintro e w1 ⟨rfl, hb1⟩
         go_wp2
         go_roundw
         case rel =>
           have := hst.out
           rw [if_neg (by omega)] at this
           exact ⟨k + 1, z, by omega, rfl, by go_num, by omega, by omega, this.symm, hb.trans (hb1.mono hb.size)⟩
         case measure => simp [intOf]; omega
     · obtain rfl : k = n := by omega
       have hd : l.drop k = [] := List.drop_eq_nil_of_le (by rw [Hn.out]; exact Nat.le_refl _)
       have hq : q = R := by have := Hq.out; rw [hd] at this; rw [← this]; unfold szR; simp [sumRelation]; omega
       clear hd Hq
       go_wp2
       go_ret
       exact ⟨by rw [hq]; rfl, hb⟩
theorem zRelation_at (A : List Value) (k n : Nat) (h : A.length = k * 3) (hk : k < n) : (A ++ (List.replicate (n - k) ([.string ByteArray.empty, .int .i64 0, .int .i64 0] : List Value)).flatten)[k * 3]? = some (.string ByteArray.empty) ∧ (A ++ (List.replicate (n - k) ([.string ByteArray.empty, .int .i64 0, .int .i64 0] : List Value)).flatten)[k * 3 + 1]? = some (.int .i64 0) ∧ (A ++ (List.replicate (n - k) ([.string ByteArray.empty, .int .i64 0, .int .i64 0] : List Value)).flatten)[k * 3 + 2]? = some (.int .i64 0) := by
 have e1 : n - k = (n - (k + 1)) + 1 := by omega
 rw [e1, List.replicate_succ, List.flatten_cons]
 refine ⟨?_, ?_, ?_⟩
 · rw [List.getElem?_append_right (by omega)]; simp [h]
 · rw [List.getElem?_append_right (by omega)]; simp [h]
 · rw [List.getElem?_append_right (by omega)]; simp [h]
theorem zRelation_step (A : List Value) (k n : Nat) (h : A.length = k * 3) (hk : k < n) (v0 v1 v2 : Value) : (((A ++ (List.replicate (n - k) ([.string ByteArray.empty, .int .i64 0, .int .i64 0] : List Value)).flatten).set (k * 3) v0).set (k * 3 + 1) v1).set (k * 3 + 2) v2 = (A ++ [v0, v1, v2]) ++ (List.replicate (n - (k + 1)) ([.string ByteArray.empty, .int .i64 0, .int .i64 0] : List Value)).flatten := by
 have e1 : n - k = (n - (k + 1)) + 1 := by omega
 rw [e1, List.replicate_succ, List.flatten_cons]
 rw [List.set_append_right _ _ (by omega), List.set_append_right _ _ (by omega), List.set_append_right _ _ (by omega)]
 simp [h]
theorem zRelation_made (n : Nat) : (madeCells #[.string ByteArray.empty, .int .i64 0, .int .i64 0] (n * 3)).toList = (List.replicate n [.string ByteArray.empty, .int .i64 0, .int .i64 0]).flatten := by
 induction n with
 | zero => simp [madeCells]
 | succ n ih =>
   rw [List.replicate_succ', List.flatten_append, ← ih]
   unfold madeCells
   simp [Array.range_succ, Array.toList_range, Nat.add_mod, Nat.mul_mod_left, Nat.succ_mul]
theorem Tryz.infoRelation : (Tryz.prog.info? 87).map (fun i => (i.zero, i.size, i.bytes)) = some (some (.agg #[.string ByteArray.empty, .int .i64 0, .int .i64 0]), 3, 32) := by kernel_rfl
set_option maxHeartbeats 1600000 in
theorem toRelationS_c {a0 : Option Addr} {cap0 : Nat} {l : List Rel} {w : World} (hS : sizeRelationS l ≤ 1048576) (h : At (cSlice cRel) w l [.slice a0 l.length cap0]) :
   Calls Tryz.prog 27 #[.slice a0 l.length cap0] w fun e w' => (∃ a' cap', e = .returned (.slice a' l.length cap') ∧ Own (cSlice cRel) w.heap.size w' l [.slice a' l.length cap']) ∧ Below w.heap.size w w' := by
 have hs : l.length ≤ 1048576 := Nat.le_trans (Nat.le_add_right _ _) hS
 have hs2 : ∀ j (hj : j < l.length), (l[j].name.size) ≤ 1048576 := fun j hj => Nat.le_trans (sumRelation_ge l j hj) (Nat.le_trans (Nat.le_add_left _ _) hS)
 clear hS
 obtain ⟨n, hn⟩ : ∃ n : Nat, l.length = n := ⟨_, rfl⟩
 have Hn := Lib.hid hn
 have Hr : Hid (∀ w' : World, Below w.heap.size w w' → ∀ j (hj : j < l.length), _) := fun w' hb j hj => at_Relation (Cod.ok_below h hb) j hj
 rw [hn] at hs ⊢
 clear hn h
 obtain ⟨i0, hi, hz0, hz1, hz2⟩ := info_parts Tryz.infoRelation
 go_enter Tryz.func27, Tryz.ntmps27
 go_wp2_with (at_make; refine wpList_make_full _ rfl (.tmp 6) (.tmp 6) 31 rfl w.heap.size 87 i0 (.agg #[.string ByteArray.empty, .int .i64 0, .int .i64 0]) 3 Tryz.underlying31 hi hz0 hz1 .i64 .i64 n n n rfl rfl rfl rfl ?c1 ?c2 (Nat.le_refl _) ?_)
 case c1 => rw [hz2]; omega
 case c2 => unfold maxLen; omega
 intro w1 hown hg1
 rw [show (madeCells #[.string ByteArray.empty, .int .i64 0, .int .i64 0] (n * 3)).toList = [].flatten ++ (List.replicate (n - 0) [.string ByteArray.empty, .int .i64 0, .int .i64 0]).flatten by rw [zRelation_made]; simp] at hown
 have hb0 : Below w.heap.size w w1 := (Below.refl _ _).grown hg1 (Nat.le_refl _) (fun k hk => by cases hk)
 clear hg1 hi hz0 hz1 hz2
 go_wp2
 go_loopw [4] (fun iv wr => ∃ (k : Nat) (F : List Nat) (css : List (List Value)), k ≤ n ∧ iv = .int .i64 k ∧ ownL cRel F wr (l.take k) css ∧ (∀ x, x ∈ F → w.heap.size < x ∧ x < wr.heap.size) ∧ wr.ownsRow w.heap.size 87 3 (.slice (some ⟨w.heap.size, 0, none⟩) n n) n (css.flatten ++ (List.replicate (n - k) [.string ByteArray.empty, .int .i64 0, .int .i64 0]).flatten) ∧ Below w.heap.size w wr) (fun iv _ => n - (intOf iv).toNat)
 case atStart => exact ⟨0, [], [], by omega, by go_num, ownL_nil _, by simp, hown, hb0⟩
 case round =>
   clear hown hb0
   obtain ⟨k, F, css, hk, rfl, hL, hF, hown, hb⟩ := hrel
   by_cases hlt : k < n
   · have hkl : k < l.length := by rw [Hn.out]; exact hlt
     obtain ⟨b, off, rfl, hbB, c0, c1, c2, hx⟩ := Hr.out _ hb k hkl
     have Hc : Hid (∀ ww, Below w.heap.size wr ww → Calls Tryz.prog 51 #[.agg #[.string l[k].name, .int .i64 l[k].arity, .int .i64 l[k].key]] ww fun e w' => (e = .returned (.agg #[.string l[k].name, .int .i64 l[k].arity, .int .i64 l[k].key]) ∧ Own cRel ww.heap.size w' l[k] [.string l[k].name, .int .i64 l[k].arity, .int .i64 l[k].key]) ∧ Below ww.heap.size ww w') :=
       fun ww hw2 => toRelation_c (hs2 k hkl) (cRel.keep hx (fun k hk => hw2.block k hk) (Nat.le_trans hb.size hw2.size))
     have hlen : css.flatten.length = k * 3 := by
       have := (ownL_len hL).2
       rw [List.length_take, Nat.min_eq_left (by omega)] at this
       exact this
     have Hat := Lib.hid (zRelation_at css.flatten k n hlen hlt)
     have Hstep := Lib.hid (zRelation_step css.flatten k n hlen hlt)
     have Htake : Hid (l.take (k + 1) = l.take k ++ [l[k]]) := List.take_succ_eq_append_getElem hkl
     have HL := Lib.hid hL
     have HF := Lib.hid hF
     have Hown := Lib.hid hown
     clear hx hL hF hlen hown
     generalize l[k] = r at *
     go_wp2_with fail
     refine (Hc.out _ (Below.refl _ _)).mono ?_
     rintro e w2 ⟨⟨rfl, ho⟩, hb2⟩
     have hown2 := ownsRow_below Hown.out hb2
     have Hown2 := Lib.hid hown2
     have hgw : w.heap.size < wr.heap.size := (Hown.out.lt _ rfl).2
     have f0 := hown2.frozenAt (k * 3)
     have d0 := (hown2.cellAt (k * 3) (by omega)).trans Hat.out.1
     have f1 := hown2.frozenAt (k * 3 + 1)
     have d1 := (hown2.cellAt (k * 3 + 1) (by omega)).trans Hat.out.2.1
     have f2 := hown2.frozenAt (k * 3 + 2)
     have d2 := (hown2.cellAt (k * 3 + 2) (by omega)).trans Hat.out.2.2
     have Ho := Lib.hid ho
     have hbw : Below w.heap.size w w2 := hb.trans (hb2.mono hb.size)
     clear ho hown2
     go_wp2
     go_roundw
     case rel =>
       obtain ⟨G, hG1, hG2⟩ := Ho.out
       have hown2 := Hown2.out
       have s0 := (hown2.stored (k * 3) (.string r.name)).1
       have s1 := (s0.stored (k * 3 + 1) (.int .i64 r.arity)).1
       have s2 := (s1.stored (k * 3 + 2) (.int .i64 r.key)).1
       rw [Hstep.out] at s2
       have hkeep : ∀ kk, kk ≠ w.heap.size → (((w2.setCell ⟨w.heap.size, k * 3, none⟩ (.string r.name)).setCell ⟨w.heap.size, k * 3 + 1, none⟩ (.int .i64 r.arity)).setCell ⟨w.heap.size, k * 3 + 2, none⟩ (.int .i64 r.key)).heap[kk]? = w2.heap[kk]? := fun kk hne => (heap_setCell_other _ ⟨w.heap.size, k * 3 + 2, none⟩ _ _ hne).trans ((heap_setCell_other _ ⟨w.heap.size, k * 3 + 1, none⟩ _ _ hne).trans ((heap_setCell_other _ ⟨w.heap.size, k * 3, none⟩ _ _ hne).trans (rfl)))
       refine ⟨k + 1, F ++ G, css ++ [[.string r.name, .int .i64 r.arity, .int .i64 r.key]], by omega, by go_num, ?_, ?_, ?_, (((hbw).setCell (Nat.le_refl _) _).setCell (Nat.le_refl _) _).setCell (Nat.le_refl _) _⟩
       · rw [Htake.out]
         refine ownL_snoc (cRel.keepO hG1 (fun kk hkk => hkeep kk (by have := (hG2 kk hkk).1; omega))) (ownL_keep (ownL_below HL.out hb2 (fun kk hkk => (HF.out kk hkk).2)) (fun kk hkk => hkeep kk (by have := (HF.out kk hkk).1; omega))) ?_
         intro kk hkk hg
         have := (HF.out kk hkk).2
         have := (hG2 kk hg).1
         omega
       · intro x hx
         simp only [World.setCell, Array.size_modify]
         rcases List.mem_append.1 hx with hx | hx
         · have := HF.out x hx; have := hb2.size; omega
         · have := hG2 x hx; omega
       · simpa using s2
     case measure => simp [intOf]; omega
   · obtain rfl : k = n := by omega
     have hlk : l.take k = l := List.take_of_length_le (by rw [Hn.out]; exact Nat.le_refl _)
     rw [hlk] at hL
     rw [Nat.sub_self, List.replicate_zero, List.flatten_nil, List.append_nil] at hown
     clear hlk
     go_wp2
     go_ret
     refine ⟨⟨_, _, rfl, ?_⟩, hb⟩
     have hlen : l.length = k := Hn.out
     subst hlen
     exact Own.slice (c := cRel) hL hown (fun x hx => by have := hF x hx; omega) (by unfold maxLen; omega)
set_option maxHeartbeats 1600000 in
theorem eqRelationS_c {a0 a0' : Option Addr} {cap0 cap0' : Nat} {l m : List Rel} {w : World} (h : At (cSlice cRel) w l [.slice a0 l.length cap0]) (h' : At (cSlice cRel) w m [.slice a0' m.length cap0']) :
   Calls Tryz.prog 34 #[.slice a0 l.length cap0, .slice a0' m.length cap0'] w fun e w' => e = .returned (.bool (decide (l = m))) ∧ Below w.heap.size w w' := by
 have hm := (slice_len h).2
 have hm' := (slice_len h').2
 unfold maxLen at hm hm'
 by_cases hne : l.length = m.length
 · obtain ⟨n, hn⟩ : ∃ n : Nat, l.length = n := ⟨_, rfl⟩
   have Hr : Hid (∀ w' : World, Below w.heap.size w w' → ∀ j (hj : j < l.length), _) := fun w' hb j hj => at_Relation (Cod.ok_below h hb) j hj
   have Hr' : Hid (∀ w' : World, Below w.heap.size w w' → ∀ j (hj : j < m.length), _) := fun w' hb j hj => at_Relation (Cod.ok_below h' hb) j hj
   clear h h'
   rw [← hne, hn]
   have Hn := Lib.hid hn
   have Hm : Hid (m.length = n) := by rw [← hne]; exact hn
   have hm2 : n ≤ 2 ^ 63 - 1 := by omega
   generalize hR : decide (l = m) = R
   have HR : Hid (decide (l.drop 0 = m.drop 0) = R) := hR
   clear hR hne hn hm hm'
   go_enter Tryz.func34, Tryz.ntmps34
   go_wp2
   go_loopw [5] (fun iv wr => ∃ k : Nat, k ≤ n ∧ iv = .int .i64 k ∧ Hid (decide (l.drop k = m.drop k) = R) ∧ Below w.heap.size w wr) (fun iv _ => n - (intOf iv).toNat)
   case atStart => exact ⟨0, by omega, by go_num, HR, Below.refl _ _⟩
   case round =>
     clear HR
     obtain ⟨k, hk, rfl, Hq, hb⟩ := hrel
     by_cases hlt : k < n
     · have hkl : k < l.length := by rw [Hn.out]; exact hlt
       have hkm : k < m.length := by rw [Hm.out]; exact hlt
       have Hst : Hid (R = (decide (l[k] = m[k]) && decide (l.drop (k + 1) = m.drop (k + 1)))) := by
         show R = _
         rw [← Hq.out, ← Bool.decide_and]; congr 1; rw [List.drop_eq_getElem_cons hkl, List.drop_eq_getElem_cons hkm, List.cons.injEq]
       obtain ⟨b, off, rfl, hbB, c0, c1, c2, hx⟩ := Hr.out _ hb k hkl
       obtain ⟨b', off', rfl, hbB', e0, e1, e2, hy⟩ := Hr'.out _ hb k hkm
       have Hc : Hid (∀ ww, Below w.heap.size wr ww → Calls Tryz.prog 56 #[.agg #[.string l[k].name, .int .i64 l[k].arity, .int .i64 l[k].key], .agg #[.string m[k].name, .int .i64 m[k].arity, .int .i64 m[k].key]] ww fun e w' => e = .returned (.bool (decide (l[k] = m[k]))) ∧ Below ww.heap.size ww w') :=
         fun ww hw2 => eqRelation_c (cRel.keep hx (fun k hk => hw2.block k hk) (Nat.le_trans hb.size hw2.size)) (cRel.keep hy (fun k hk => hw2.block k hk) (Nat.le_trans hb.size hw2.size))
       clear hx hy Hq
       generalize l[k] = r at *
       generalize m[k] = r' at *
       generalize decide (r = r') = z at *
       cases z with
       | true =>
         go_wp2_with fail
         go_region_with (go_at_call 56; refine (Hc.out _ ?hww).mono ?_; (case hww => first | exact Below.refl _ _ | exact (Below.refl _ _).drew | exact Below.drewN' (Below.refl _ _) _); rintro e w1 ⟨rfl, hb1⟩)
         all_goals
           go_wp2
           go_roundw
           case rel =>
             have h := Hst.out
             rw [Bool.true_and] at h
             exact ⟨k + 1, by omega, by go_num, h.symm, hb.drew.trans (hb1.mono hb.size)⟩
           case measure => simp [intOf]; omega
       | false =>
         have hR : R = false := by have h := Hst.out; rw [Bool.false_and] at h; exact h
         go_wp2_with fail
         go_region_with (go_at_call 56; refine (Hc.out _ ?hww).mono ?_; (case hww => first | exact Below.refl _ _ | exact (Below.refl _ _).drew | exact Below.drewN' (Below.refl _ _) _); rintro e w1 ⟨rfl, hb1⟩)
         all_goals
           go_wp2
           go_ret
           exact ⟨by rw [hR]; rfl, hb.drew.trans (hb1.mono hb.size)⟩
     · obtain rfl : k = n := by omega
       have hR : R = true := by
         have := Hq.out
         rw [List.drop_eq_nil_of_le (by rw [Hn.out]; exact Nat.le_refl _), List.drop_eq_nil_of_le (by rw [Hm.out]; exact Nat.le_refl _)] at this
         simpa using this.symm
       go_wp2
       go_ret
       exact ⟨by rw [hR]; rfl, hb⟩
 · rw [decide_eq_false (fun e => hne (by rw [e]))]
   have hne2 : (l.length != m.length) = true := by simpa using hne
   go_enter Tryz.func34, Tryz.ntmps34
   go_wp2
   go_ret
   exact ⟨rfl, Below.refl _ _⟩
theorem at_Fact {B : Nat} {w : World} {l : List Fct} {a0 : Option Addr} {len cap0 : Nat} (h : (cSlice cFct).ok B w l [.slice a0 len cap0]) (j : Nat) (hj : j < l.length) :
   ∃ b off a1 cap1, a0 = some ⟨b, off, none⟩ ∧ b < B ∧ w.cell? ⟨b, off + j * 2, none⟩ = some (.int .i64 l[j].rel) ∧ w.cell? ⟨b, off + j * 2 + 1, none⟩ = some (.slice a1 l[j].vals.length cap1) ∧ cFct.ok B w l[j] [.int .i64 l[j].rel, .slice a1 l[j].vals.length cap1] := by
 obtain ⟨b, off, es, rfl, hb, he, hc⟩ := slice_at h j hj
 obtain ⟨a1, cap1, rfl, hx⟩ := cFct_open he
 exact ⟨b, off, a1, cap1, rfl, hb, by exact hc 0 (by decide), by exact hc 1 (by decide), hx⟩
def sumFact (l : List Fct) : Nat := (l.map fun x => x.vals.length).sum
def sizeFactS (l : List Fct) : Nat := l.length + sumFact l
theorem sumFact_ge (l : List Fct) (k : Nat) (hk : k < l.length) : (l[k].vals.length) ≤ sumFact l := by
 induction l generalizing k with
 | nil => simp at hk
 | cons x l ih =>
   unfold sumFact at *
   rw [List.map_cons, List.sum_cons]
   cases k with
   | zero => exact Nat.le_add_right _ _
   | succ k => exact Nat.le_trans (ih k (by simpa using hk)) (Nat.le_add_left _ _)
theorem sumFact_drop (l : List Fct) (k : Nat) (hk : k < l.length) : sumFact (l.drop k) = (l[k].vals.length) + sumFact (l.drop (k + 1)) := by
 unfold sumFact; rw [List.drop_eq_getElem_cons hk, List.map_cons, List.sum_cons]
theorem szFactS_c {a0 : Option Addr} {cap0 : Nat} {l : List Fct} {left : Int} {w : World} (hl : 0 ≤ left) (hl2 : left ≤ 1048576) (h : At (cSlice cFct) w l [.slice a0 l.length cap0]) :
   Calls Tryz.prog 25 #[.slice a0 l.length cap0, .int .i64 left] w fun e w' => e = .returned (.int .i64 (szR left (sizeFactS l))) ∧ Below w.heap.size w w' := by
 have hm := (slice_len h).2
 unfold maxLen at hm
 have hw : wrap64 (left - (l.length : Int)) = left - (l.length : Int) := IntWalk.wrap64_in _ ⟨by omega, by omega⟩
 obtain ⟨n, hn⟩ : ∃ n : Nat, l.length = n := ⟨_, rfl⟩
 have Hn := Lib.hid hn
 have Hr : Hid (∀ w' : World, Below w.heap.size w w' → ∀ j (hj : j < l.length), _) := fun w' hb j hj => at_Fact (Cod.ok_below h hb) j hj
 unfold sizeFactS
 rw [hn] at hw hm ⊢
 clear h hn
 rw [szR_step left n]
 by_cases h0 : left - (n : Int) < 0
 · rw [if_pos (by unfold szR; rw [if_pos h0]; decide)]
   go_enter Tryz.func25, Tryz.ntmps25
   go_wp2
   go_ret
   exact ⟨rfl, Below.refl _ _⟩
 · have hz : szR left n = left - (n : Int) := if_neg h0
   rw [hz, if_neg h0]
   clear hz
   generalize hR : szR (left - (n : Int)) (sumFact l) = R
   have HR : Hid (szR (left - (n : Int)) (sumFact (l.drop 0)) = R) := hR
   clear hR
   go_enter Tryz.func25, Tryz.ntmps25
   go_wp2
   go_loopw [1, 5] (fun lv iv wr => ∃ (k : Nat) (q : Int), k ≤ n ∧ lv = .int .i64 q ∧ iv = .int .i64 k ∧ 0 ≤ q ∧ q ≤ 1048576 ∧ Hid (szR q (sumFact (l.drop k)) = R) ∧ Below w.heap.size w wr) (fun _ iv _ => n - (intOf iv).toNat)
   case atStart => exact ⟨0, left - n, by omega, rfl, rfl, by omega, by omega, HR, Below.refl _ _⟩
   case round =>
     clear HR hw
     obtain ⟨k, q, hk, rfl, rfl, hq0, hq1, Hq, hb⟩ := hrel
     by_cases hlt : k < n
     · have hkl : k < l.length := by rw [Hn.out]; exact hlt
       obtain ⟨b, off, a1, cap1, rfl, hbB, c0, c1, hx⟩ := Hr.out _ hb k hkl
       have hst : Hid (R = if szR q (l[k].vals.length) < 0 then -1 else szR (szR q (l[k].vals.length)) (sumFact (l.drop (k + 1)))) := by
         show R = _
         rw [← szR_step, ← sumFact_drop l k hkl, Hq.out]
       have Hc : Hid (∀ ww, Below w.heap.size wr ww → Calls Tryz.prog 49 #[.agg #[.int .i64 l[k].rel, .slice a1 l[k].vals.length cap1], .int .i64 q] ww fun e w' => e = .returned (.int .i64 (szR q (l[k].vals.length))) ∧ Below ww.heap.size ww w') :=
         fun ww hw2 => szFact_c hq0 hq1 (cFct.keep hx (fun k hk => hw2.block k hk) (Nat.le_trans hb.size hw2.size))
       have hle := szR_le q (l[k].vals.length) hq0
       generalize hz : szR q (l[k].vals.length) = z at *
       clear hz hx Hq
       generalize l[k] = r at *
       by_cases hneg : z < 0
       · have hR : R = -1 := by have := hst.out; rw [if_pos hneg] at this; exact this
         go_wp2_with fail
         refine (Hc.out _ (Below.refl _ _)).mono ?_
         rintro e w1 ⟨rfl, hb1⟩
         go_wp2
         go_ret
         exact ⟨by rw [hR]; rfl, hb.trans (hb1.mono hb.size)⟩
       · go_wp2_with fail
         refine (Hc.out _ (Below.refl _ _)).mono ?_
         rintro e w1 ⟨rfl, hb1⟩
         go_wp2
         go_roundw
         case rel =>
           have := hst.out
           rw [if_neg (by omega)] at this
           exact ⟨k + 1, z, by omega, rfl, by go_num, by omega, by omega, this.symm, hb.trans (hb1.mono hb.size)⟩
         case measure => simp [intOf]; omega
     · obtain rfl : k = n := by omega
       have hd : l.drop k = [] := List.drop_eq_nil_of_le (by rw [Hn.out]; exact Nat.le_refl _)
       have hq : q = R := by have := Hq.out; rw [hd] at this; rw [← this]; unfold szR; simp [sumFact]; omega
       clear hd Hq
       go_wp2
       go_ret
       exact ⟨by rw [hq]; rfl, hb⟩
theorem zFact_at (A : List Value) (k n : Nat) (h : A.length = k * 2) (hk : k < n) : (A ++ (List.replicate (n - k) ([.int .i64 0, .slice none 0 0] : List Value)).flatten)[k * 2]? = some (.int .i64 0) ∧ (A ++ (List.replicate (n - k) ([.int .i64 0, .slice none 0 0] : List Value)).flatten)[k * 2 + 1]? = some (.slice none 0 0) := by
 have e1 : n - k = (n - (k + 1)) + 1 := by omega
 rw [e1, List.replicate_succ, List.flatten_cons]
 refine ⟨?_, ?_⟩
 · rw [List.getElem?_append_right (by omega)]; simp [h]
 · rw [List.getElem?_append_right (by omega)]; simp [h]
theorem zFact_step (A : List Value) (k n : Nat) (h : A.length = k * 2) (hk : k < n) (v0 v1 : Value) : ((A ++ (List.replicate (n - k) ([.int .i64 0, .slice none 0 0] : List Value)).flatten).set (k * 2) v0).set (k * 2 + 1) v1 = (A ++ [v0, v1]) ++ (List.replicate (n - (k + 1)) ([.int .i64 0, .slice none 0 0] : List Value)).flatten := by
 have e1 : n - k = (n - (k + 1)) + 1 := by omega
 rw [e1, List.replicate_succ, List.flatten_cons]
 rw [List.set_append_right _ _ (by omega), List.set_append_right _ _ (by omega)]
 simp [h]
theorem zFact_made (n : Nat) : (madeCells #[.int .i64 0, .slice none 0 0] (n * 2)).toList = (List.replicate n [.int .i64 0, .slice none 0 0]).flatten := by
 induction n with
 | zero => simp [madeCells]
 | succ n ih =>
   rw [List.replicate_succ', List.flatten_append, ← ih]
   unfold madeCells
   simp [Array.range_succ, Array.toList_range, Nat.add_mod, Nat.mul_mod_left, Nat.succ_mul]
theorem Tryz.infoFact : (Tryz.prog.info? 89).map (fun i => (i.zero, i.size, i.bytes)) = some (some (.agg #[.int .i64 0, .slice none 0 0]), 2, 32) := by kernel_rfl
set_option maxHeartbeats 1600000 in
theorem toFactS_c {a0 : Option Addr} {cap0 : Nat} {l : List Fct} {w : World} (hS : sizeFactS l ≤ 1048576) (h : At (cSlice cFct) w l [.slice a0 l.length cap0]) :
   Calls Tryz.prog 28 #[.slice a0 l.length cap0] w fun e w' => (∃ a' cap', e = .returned (.slice a' l.length cap') ∧ Own (cSlice cFct) w.heap.size w' l [.slice a' l.length cap']) ∧ Below w.heap.size w w' := by
 have hs : l.length ≤ 1048576 := Nat.le_trans (Nat.le_add_right _ _) hS
 have hs2 : ∀ j (hj : j < l.length), (l[j].vals.length) ≤ 1048576 := fun j hj => Nat.le_trans (sumFact_ge l j hj) (Nat.le_trans (Nat.le_add_left _ _) hS)
 clear hS
 obtain ⟨n, hn⟩ : ∃ n : Nat, l.length = n := ⟨_, rfl⟩
 have Hn := Lib.hid hn
 have Hr : Hid (∀ w' : World, Below w.heap.size w w' → ∀ j (hj : j < l.length), _) := fun w' hb j hj => at_Fact (Cod.ok_below h hb) j hj
 rw [hn] at hs ⊢
 clear hn h
 obtain ⟨i0, hi, hz0, hz1, hz2⟩ := info_parts Tryz.infoFact
 go_enter Tryz.func28, Tryz.ntmps28
 go_wp2_with (at_make; refine wpList_make_full _ rfl (.tmp 6) (.tmp 6) 32 rfl w.heap.size 89 i0 (.agg #[.int .i64 0, .slice none 0 0]) 2 Tryz.underlying32 hi hz0 hz1 .i64 .i64 n n n rfl rfl rfl rfl ?c1 ?c2 (Nat.le_refl _) ?_)
 case c1 => rw [hz2]; omega
 case c2 => unfold maxLen; omega
 intro w1 hown hg1
 rw [show (madeCells #[.int .i64 0, .slice none 0 0] (n * 2)).toList = [].flatten ++ (List.replicate (n - 0) [.int .i64 0, .slice none 0 0]).flatten by rw [zFact_made]; simp] at hown
 have hb0 : Below w.heap.size w w1 := (Below.refl _ _).grown hg1 (Nat.le_refl _) (fun k hk => by cases hk)
 clear hg1 hi hz0 hz1 hz2
 go_wp2
 go_loopw [4] (fun iv wr => ∃ (k : Nat) (F : List Nat) (css : List (List Value)), k ≤ n ∧ iv = .int .i64 k ∧ ownL cFct F wr (l.take k) css ∧ (∀ x, x ∈ F → w.heap.size < x ∧ x < wr.heap.size) ∧ wr.ownsRow w.heap.size 89 2 (.slice (some ⟨w.heap.size, 0, none⟩) n n) n (css.flatten ++ (List.replicate (n - k) [.int .i64 0, .slice none 0 0]).flatten) ∧ Below w.heap.size w wr) (fun iv _ => n - (intOf iv).toNat)
 case atStart => exact ⟨0, [], [], by omega, by go_num, ownL_nil _, by simp, hown, hb0⟩
 case round =>
   clear hown hb0
   obtain ⟨k, F, css, hk, rfl, hL, hF, hown, hb⟩ := hrel
   by_cases hlt : k < n
   · have hkl : k < l.length := by rw [Hn.out]; exact hlt
     obtain ⟨b, off, a1, cap1, rfl, hbB, c0, c1, hx⟩ := Hr.out _ hb k hkl
     have Hc : Hid (∀ ww, Below w.heap.size wr ww → Calls Tryz.prog 52 #[.agg #[.int .i64 l[k].rel, .slice a1 l[k].vals.length cap1]] ww fun e w' => (∃ a1' cap1', e = .returned (.agg #[.int .i64 l[k].rel, .slice a1' l[k].vals.length cap1']) ∧ Own cFct ww.heap.size w' l[k] [.int .i64 l[k].rel, .slice a1' l[k].vals.length cap1']) ∧ Below ww.heap.size ww w') :=
       fun ww hw2 => toFact_c (hs2 k hkl) (cFct.keep hx (fun k hk => hw2.block k hk) (Nat.le_trans hb.size hw2.size))
     have hlen : css.flatten.length = k * 2 := by
       have := (ownL_len hL).2
       rw [List.length_take, Nat.min_eq_left (by omega)] at this
       exact this
     have Hat := Lib.hid (zFact_at css.flatten k n hlen hlt)
     have Hstep := Lib.hid (zFact_step css.flatten k n hlen hlt)
     have Htake : Hid (l.take (k + 1) = l.take k ++ [l[k]]) := List.take_succ_eq_append_getElem hkl
     have HL := Lib.hid hL
     have HF := Lib.hid hF
     have Hown := Lib.hid hown
     clear hx hL hF hlen hown
     generalize l[k] = r at *
     go_wp2_with fail
     refine (Hc.out _ (Below.refl _ _)).mono ?_
     rintro e w2 ⟨⟨a1', cap1', rfl, ho⟩, hb2⟩
     have hown2 := ownsRow_below Hown.out hb2
     have Hown2 := Lib.hid hown2
     have hgw : w.heap.size < wr.heap.size := (Hown.out.lt _ rfl).2
     have f0 := hown2.frozenAt (k * 2)
     have d0 := (hown2.cellAt (k * 2) (by omega)).trans Hat.out.1
     have f1 := hown2.frozenAt (k * 2 + 1)
     have d1 := (hown2.cellAt (k * 2 + 1) (by omega)).trans Hat.out.2
     have Ho := Lib.hid ho
     have hbw : Below w.heap.size w w2 := hb.trans (hb2.mono hb.size)
     clear ho hown2
     go_wp2
     go_roundw
     case rel =>
       obtain ⟨G, hG1, hG2⟩ := Ho.out
       have hown2 := Hown2.out
       have s0 := (hown2.stored (k * 2) (.int .i64 r.rel)).1
       have s1 := (s0.stored (k * 2 + 1) (.slice a1' r.vals.length cap1')).1
       rw [Hstep.out] at s1
       have hkeep : ∀ kk, kk ≠ w.heap.size → ((w2.setCell ⟨w.heap.size, k * 2, none⟩ (.int .i64 r.rel)).setCell ⟨w.heap.size, k * 2 + 1, none⟩ (.slice a1' r.vals.length cap1')).heap[kk]? = w2.heap[kk]? := fun kk hne => (heap_setCell_other _ ⟨w.heap.size, k * 2 + 1, none⟩ _ _ hne).trans ((heap_setCell_other _ ⟨w.heap.size, k * 2, none⟩ _ _ hne).trans (rfl))
       refine ⟨k + 1, F ++ G, css ++ [[.int .i64 r.rel, .slice a1' r.vals.length cap1']], by omega, by go_num, ?_, ?_, ?_, ((hbw).setCell (Nat.le_refl _) _).setCell (Nat.le_refl _) _⟩
       · rw [Htake.out]
         refine ownL_snoc (cFct.keepO hG1 (fun kk hkk => hkeep kk (by have := (hG2 kk hkk).1; omega))) (ownL_keep (ownL_below HL.out hb2 (fun kk hkk => (HF.out kk hkk).2)) (fun kk hkk => hkeep kk (by have := (HF.out kk hkk).1; omega))) ?_
         intro kk hkk hg
         have := (HF.out kk hkk).2
         have := (hG2 kk hg).1
         omega
       · intro x hx
         simp only [World.setCell, Array.size_modify]
         rcases List.mem_append.1 hx with hx | hx
         · have := HF.out x hx; have := hb2.size; omega
         · have := hG2 x hx; omega
       · simpa using s1
     case measure => simp [intOf]; omega
   · obtain rfl : k = n := by omega
     have hlk : l.take k = l := List.take_of_length_le (by rw [Hn.out]; exact Nat.le_refl _)
     rw [hlk] at hL
     rw [Nat.sub_self, List.replicate_zero, List.flatten_nil, List.append_nil] at hown
     clear hlk
     go_wp2
     go_ret
     refine ⟨⟨_, _, rfl, ?_⟩, hb⟩
     have hlen : l.length = k := Hn.out
     subst hlen
     exact Own.slice (c := cFct) hL hown (fun x hx => by have := hF x hx; omega) (by unfold maxLen; omega)
set_option maxHeartbeats 1600000 in
theorem eqFactS_c {a0 a0' : Option Addr} {cap0 cap0' : Nat} {l m : List Fct} {w : World} (h : At (cSlice cFct) w l [.slice a0 l.length cap0]) (h' : At (cSlice cFct) w m [.slice a0' m.length cap0']) :
   Calls Tryz.prog 35 #[.slice a0 l.length cap0, .slice a0' m.length cap0'] w fun e w' => e = .returned (.bool (decide (l = m))) ∧ Below w.heap.size w w' := by
 have hm := (slice_len h).2
 have hm' := (slice_len h').2
 unfold maxLen at hm hm'
 by_cases hne : l.length = m.length
 · obtain ⟨n, hn⟩ : ∃ n : Nat, l.length = n := ⟨_, rfl⟩
   have Hr : Hid (∀ w' : World, Below w.heap.size w w' → ∀ j (hj : j < l.length), _) := fun w' hb j hj => at_Fact (Cod.ok_below h hb) j hj
   have Hr' : Hid (∀ w' : World, Below w.heap.size w w' → ∀ j (hj : j < m.length), _) := fun w' hb j hj => at_Fact (Cod.ok_below h' hb) j hj
   clear h h'
   rw [← hne, hn]
   have Hn := Lib.hid hn
   have Hm : Hid (m.length = n) := by rw [← hne]; exact hn
   have hm2 : n ≤ 2 ^ 63 - 1 := by omega
   generalize hR : decide (l = m) = R
   have HR : Hid (decide (l.drop 0 = m.drop 0) = R) := hR
   clear hR hne hn hm hm'
   go_enter Tryz.func35, Tryz.ntmps35
   go_wp2
   go_loopw [5] (fun iv wr => ∃ k : Nat, k ≤ n ∧ iv = .int .i64 k ∧ Hid (decide (l.drop k = m.drop k) = R) ∧ Below w.heap.size w wr) (fun iv _ => n - (intOf iv).toNat)
   case atStart => exact ⟨0, by omega, by go_num, HR, Below.refl _ _⟩
   case round =>
     clear HR
     obtain ⟨k, hk, rfl, Hq, hb⟩ := hrel
     by_cases hlt : k < n
     · have hkl : k < l.length := by rw [Hn.out]; exact hlt
       have hkm : k < m.length := by rw [Hm.out]; exact hlt
       have Hst : Hid (R = (decide (l[k] = m[k]) && decide (l.drop (k + 1) = m.drop (k + 1)))) := by
         show R = _
         rw [← Hq.out, ← Bool.decide_and]; congr 1; rw [List.drop_eq_getElem_cons hkl, List.drop_eq_getElem_cons hkm, List.cons.injEq]
       obtain ⟨b, off, a1, cap1, rfl, hbB, c0, c1, hx⟩ := Hr.out _ hb k hkl
       obtain ⟨b', off', a1', cap1', rfl, hbB', e0, e1, hy⟩ := Hr'.out _ hb k hkm
       have Hc : Hid (∀ ww, Below w.heap.size wr ww → Calls Tryz.prog 57 #[.agg #[.int .i64 l[k].rel, .slice a1 l[k].vals.length cap1], .agg #[.int .i64 m[k].rel, .slice a1' m[k].vals.length cap1']] ww fun e w' => e = .returned (.bool (decide (l[k] = m[k]))) ∧ Below ww.heap.size ww w') :=
         fun ww hw2 => eqFact_c (cFct.keep hx (fun k hk => hw2.block k hk) (Nat.le_trans hb.size hw2.size)) (cFct.keep hy (fun k hk => hw2.block k hk) (Nat.le_trans hb.size hw2.size))
       clear hx hy Hq
       generalize l[k] = r at *
       generalize m[k] = r' at *
       generalize decide (r = r') = z at *
       cases z with
       | true =>
         go_wp2_with fail
         go_region_with (go_at_call 57; refine (Hc.out _ ?hww).mono ?_; (case hww => first | exact Below.refl _ _ | exact (Below.refl _ _).drew | exact Below.drewN' (Below.refl _ _) _); rintro e w1 ⟨rfl, hb1⟩)
         all_goals
           go_wp2
           go_roundw
           case rel =>
             have h := Hst.out
             rw [Bool.true_and] at h
             exact ⟨k + 1, by omega, by go_num, h.symm, hb.drew.trans (hb1.mono hb.size)⟩
           case measure => simp [intOf]; omega
       | false =>
         have hR : R = false := by have h := Hst.out; rw [Bool.false_and] at h; exact h
         go_wp2_with fail
         go_region_with (go_at_call 57; refine (Hc.out _ ?hww).mono ?_; (case hww => first | exact Below.refl _ _ | exact (Below.refl _ _).drew | exact Below.drewN' (Below.refl _ _) _); rintro e w1 ⟨rfl, hb1⟩)
         all_goals
           go_wp2
           go_ret
           exact ⟨by rw [hR]; rfl, hb.drew.trans (hb1.mono hb.size)⟩
     · obtain rfl : k = n := by omega
       have hR : R = true := by
         have := Hq.out
         rw [List.drop_eq_nil_of_le (by rw [Hn.out]; exact Nat.le_refl _), List.drop_eq_nil_of_le (by rw [Hm.out]; exact Nat.le_refl _)] at this
         simpa using this.symm
       go_wp2
       go_ret
       exact ⟨by rw [hR]; rfl, hb⟩
 · rw [decide_eq_false (fun e => hne (by rw [e]))]
   have hne2 : (l.length != m.length) = true := by simpa using hne
   go_enter Tryz.func35, Tryz.ntmps35
   go_wp2
   go_ret
   exact ⟨rfl, Below.refl _ _⟩
/- Structs: readings, the laws' helpers on them (size, copy, equality). -/
open Go.RowKit
structure Dbs where
 rels : List Rel
 facts : List Fct
deriving DecidableEq
def cDbs : Cod Dbs := cMap (fun x => (x.rels, x.facts)) (cPair (cSlice cRel) (cSlice cFct))
theorem cDbs_fields {B : Nat} {w : World} {x : Dbs} {cs : List Value} (h : cDbs.ok B w x cs) : ∃ a0 cap0 a1 cap1, cs = [.slice a0 x.rels.length cap0, .slice a1 x.facts.length cap1] ∧ (cSlice cRel).ok B w x.rels [.slice a0 x.rels.length cap0] ∧ (cSlice cFct).ok B w x.facts [.slice a1 x.facts.length cap1] := by
 obtain ⟨_, _, rfl, h0, h1⟩ := h
 have k0 := h0
 obtain ⟨a0, cap0, rfl, _⟩ := k0
 have k1 := h1
 obtain ⟨a1, cap1, rfl, _⟩ := k1
 exact ⟨a0, cap0, a1, cap1, rfl, h0, h1⟩
theorem cDbs_open {B : Nat} {w : World} {x : Dbs} {cs : List Value} (h : cDbs.ok B w x cs) : ∃ a0 cap0 a1 cap1, cs = [.slice a0 x.rels.length cap0, .slice a1 x.facts.length cap1] ∧ cDbs.ok B w x [.slice a0 x.rels.length cap0, .slice a1 x.facts.length cap1] := by
 have h0 := h
 obtain ⟨a0, cap0, a1, cap1, rfl, _⟩ := cDbs_fields h
 exact ⟨a0, cap0, a1, cap1, rfl, h0⟩
theorem cDbs_inv {B : Nat} {w : World} {x : Dbs} {v0 v1 : Value} (h : cDbs.ok B w x [v0, v1]) : (cSlice cRel).ok B w x.rels [v0] ∧ (cSlice cFct).ok B w x.facts [v1] := by
 obtain ⟨a0, cap0, a1, cap1, e, h0, h1⟩ := cDbs_fields h
 simp only [List.cons.injEq, and_true] at e
 obtain ⟨rfl, rfl⟩ := e
 exact ⟨h0, h1⟩
theorem cDbs_own {lo hi lo0 hi0 lo1 hi1 : Nat} {w : World} {x : Dbs} {v0 v1 : Value} (h0 : OwnIn (cSlice cRel) lo0 hi0 w x.rels [v0]) (l0 : lo0 ≤ hi0) (h1 : OwnIn (cSlice cFct) lo1 hi1 w x.facts [v1]) (l1 : lo1 ≤ hi1) (q0 : lo ≤ lo0) (q1 : hi0 ≤ lo1) (q : hi1 ≤ hi) : OwnIn cDbs lo hi w x [v0, v1] := (OwnIn.pair (h0.wide (lo' := lo) (hi' := hi0) (by omega) (by omega)) (h1.wide (lo' := hi0) (hi' := hi) (by omega) (by omega)) (by omega) (by omega))
def sizeDatabase (x : Dbs) : Nat := sizeRelationS x.rels + (sizeFactS x.facts)
theorem szDatabase_c {a0 : Option Addr} {cap0 : Nat} {a1 : Option Addr} {cap1 : Nat} {x : Dbs} {left : Int} {w : World} (hl : 0 ≤ left) (hl2 : left ≤ 1048576) (h : At cDbs w x [.slice a0 x.rels.length cap0, .slice a1 x.facts.length cap1]) :
   Calls Tryz.prog 5 #[.agg #[.slice a0 x.rels.length cap0, .slice a1 x.facts.length cap1], .int .i64 left] w fun e w' => e = .returned (.int .i64 (szR left (sizeDatabase x))) ∧ Below w.heap.size w w' := by
 obtain ⟨k0, k1⟩ := cDbs_inv h
 unfold sizeDatabase
 clear h
 obtain ⟨rels, facts⟩ := x
 simp only at *
 have H0 : Hid (∀ q : Int, 0 ≤ q → q ≤ 1048576 → ∀ ww, Below w.heap.size w ww → Calls Tryz.prog 24 #[.slice a0 rels.length cap0, .int .i64 q] ww fun e w' => e = .returned (.int .i64 (szR q (sizeRelationS rels))) ∧ Below ww.heap.size ww w') :=
   fun q h0 h1 ww hb => szRelationS_c h0 h1 (At.below (c := (cSlice cRel)) k0 hb (Nat.le_refl _))
 have H1 : Hid (∀ q : Int, 0 ≤ q → q ≤ 1048576 → ∀ ww, Below w.heap.size w ww → Calls Tryz.prog 25 #[.slice a1 facts.length cap1, .int .i64 q] ww fun e w' => e = .returned (.int .i64 (szR q (sizeFactS facts))) ∧ Below ww.heap.size ww w') :=
   fun q h0 h1 ww hb => szFactS_c h0 h1 (At.below (c := (cSlice cFct)) k1 hb (Nat.le_refl _))
 clear k0 k1
 have G0 := Lib.hid (H0.out (left) (by omega) (by omega))
 rw [szR_step (left) (sizeRelationS rels)]
 have hn0 : szR (left) (sizeRelationS rels) < 0 → szR (left) (sizeRelationS rels) = -1 := szR_neg
 have hle0 := szR_le (left) (sizeRelationS rels) (by omega)
 generalize szR (left) (sizeRelationS rels) = z0 at *
 by_cases hz0 : z0 < 0
 · obtain rfl : z0 = -1 := hn0 hz0
   clear hn0
   rw [if_pos (by decide)]
   go_enter Tryz.func5, Tryz.ntmps5
   go_wp2_with fail
   refine (G0.out _ ?hb).mono ?_
   case hb => go_grown
   rintro e w1 ⟨rfl, hb1⟩
   have hbb1 : Below w.heap.size w w1 := Below.trans (by go_grown) (hb1.mono (by simp; try omega))
   have hsz1 : w.heap.size + 1 ≤ w1.heap.size := by have := hb1.size; simp at this; omega
   have p1_0 : w1.cell? ⟨w.heap.size, 0, none⟩ = some (.slice a0 rels.length cap0) := (hb1.cell (by simp)).trans (by go_simp)
   have p1_1 : w1.cell? ⟨w.heap.size, 1, none⟩ = some (.slice a1 facts.length cap1) := (hb1.cell (by simp)).trans (by go_simp)
   clear hb1
   go_wp2
   go_ret
   exact ⟨rfl, hbb1⟩
 · clear hn0
   rw [if_neg hz0]
   have G1 := Lib.hid (H1.out (z0) (by omega) (by omega))
   have hn1 : szR (z0) (sizeFactS facts) < 0 → szR (z0) (sizeFactS facts) = -1 := szR_neg
   have hle1 := szR_le (z0) (sizeFactS facts) (by omega)
   generalize szR (z0) (sizeFactS facts) = z1 at *
   by_cases hz1 : z1 < 0
   · obtain rfl : z1 = -1 := hn1 hz1
     clear hn1
     go_enter Tryz.func5, Tryz.ntmps5
     go_wp2_with fail
     refine (G0.out _ ?hb).mono ?_
     case hb => go_grown
     rintro e w1 ⟨rfl, hb1⟩
     have hbb1 : Below w.heap.size w w1 := Below.trans (by go_grown) (hb1.mono (by simp; try omega))
     have hsz1 : w.heap.size + 1 ≤ w1.heap.size := by have := hb1.size; simp at this; omega
     have p1_0 : w1.cell? ⟨w.heap.size, 0, none⟩ = some (.slice a0 rels.length cap0) := (hb1.cell (by simp)).trans (by go_simp)
     have p1_1 : w1.cell? ⟨w.heap.size, 1, none⟩ = some (.slice a1 facts.length cap1) := (hb1.cell (by simp)).trans (by go_simp)
     clear hb1
     go_wp2_with fail
     refine (G1.out _ ?hb).mono ?_
     case hb => exact hbb1
     rintro e w2 ⟨rfl, hb2⟩
     have hbb2 : Below w.heap.size w w2 := hbb1.trans (hb2.mono (by omega))
     have hsz2 : w.heap.size + 1 ≤ w2.heap.size := by have := hb2.size; omega
     have p2_0 := (hb2.cell (p := ⟨w.heap.size, 0, none⟩) (by simp; try omega)).trans p1_0
     have p2_1 := (hb2.cell (p := ⟨w.heap.size, 1, none⟩) (by simp; try omega)).trans p1_1
     clear p1_0 p1_1
     clear hb2
     go_wp2
     go_ret
     exact ⟨rfl, hbb2⟩
   · clear hn1
     go_enter Tryz.func5, Tryz.ntmps5
     go_wp2_with fail
     refine (G0.out _ ?hb).mono ?_
     case hb => go_grown
     rintro e w1 ⟨rfl, hb1⟩
     have hbb1 : Below w.heap.size w w1 := Below.trans (by go_grown) (hb1.mono (by simp; try omega))
     have hsz1 : w.heap.size + 1 ≤ w1.heap.size := by have := hb1.size; simp at this; omega
     have p1_0 : w1.cell? ⟨w.heap.size, 0, none⟩ = some (.slice a0 rels.length cap0) := (hb1.cell (by simp)).trans (by go_simp)
     have p1_1 : w1.cell? ⟨w.heap.size, 1, none⟩ = some (.slice a1 facts.length cap1) := (hb1.cell (by simp)).trans (by go_simp)
     clear hb1
     go_wp2_with fail
     refine (G1.out _ ?hb).mono ?_
     case hb => exact hbb1
     rintro e w2 ⟨rfl, hb2⟩
     have hbb2 : Below w.heap.size w w2 := hbb1.trans (hb2.mono (by omega))
     have hsz2 : w.heap.size + 1 ≤ w2.heap.size := by have := hb2.size; omega
     have p2_0 := (hb2.cell (p := ⟨w.heap.size, 0, none⟩) (by simp; try omega)).trans p1_0
     have p2_1 := (hb2.cell (p := ⟨w.heap.size, 1, none⟩) (by simp; try omega)).trans p1_1
     clear p1_0 p1_1
     clear hb2
     go_wp2
     go_ret
     exact ⟨rfl, hbb2⟩
set_option maxHeartbeats 800000 in
theorem toDatabase_c {a0 : Option Addr} {cap0 : Nat} {a1 : Option Addr} {cap1 : Nat} {x : Dbs} {w : World} (hs : sizeDatabase x ≤ 1048576) (h : At cDbs w x [.slice a0 x.rels.length cap0, .slice a1 x.facts.length cap1]) :
   Calls Tryz.prog 8 #[.agg #[.slice a0 x.rels.length cap0, .slice a1 x.facts.length cap1]] w fun e w' => (∃ a0' cap0' a1' cap1', e = .returned (.agg #[.slice a0' x.rels.length cap0', .slice a1' x.facts.length cap1']) ∧ Own cDbs w.heap.size w' x [.slice a0' x.rels.length cap0', .slice a1' x.facts.length cap1']) ∧ Below w.heap.size w w' := by
 unfold sizeDatabase at hs
 obtain ⟨k0, k1⟩ := cDbs_inv h
 clear h
 obtain ⟨rels, facts⟩ := x
 simp only at *
 have H0 : Hid (∀ ww, Below w.heap.size w ww → Calls Tryz.prog 27 #[.slice a0 rels.length cap0] ww fun e w' => (∃ a' cap', e = .returned (.slice a' rels.length cap') ∧ Own (cSlice cRel) ww.heap.size w' rels [.slice a' rels.length cap']) ∧ Below ww.heap.size ww w') :=
   fun ww hb => toRelationS_c (by omega) (At.below (c := (cSlice cRel)) k0 hb (Nat.le_refl _))
 have H1 : Hid (∀ ww, Below w.heap.size w ww → Calls Tryz.prog 28 #[.slice a1 facts.length cap1] ww fun e w' => (∃ a' cap', e = .returned (.slice a' facts.length cap') ∧ Own (cSlice cFct) ww.heap.size w' facts [.slice a' facts.length cap']) ∧ Below ww.heap.size ww w') :=
   fun ww hb => toFactS_c (by omega) (At.below (c := (cSlice cFct)) k1 hb (Nat.le_refl _))
 clear hs k0 k1
 go_enter Tryz.func8, Tryz.ntmps8
 go_wp2_with fail
 refine (H0.out _ ?hb).mono ?_
 case hb => go_grown
 rintro e w1 ⟨⟨a0', cap0', rfl, ho0⟩, hb1⟩
 have hbb1 : Below w.heap.size w w1 := Below.trans (by go_grown) (hb1.mono (by simp; try omega))
 have hsz1 : w.heap.size + 3 ≤ w1.heap.size := by have := hb1.size; simp at this; omega
 have p1_0 : w1.cell? ⟨w.heap.size, 0, none⟩ = some (.slice a0 rels.length cap0) := (hb1.cell (by simp; try omega)).trans (by go_simp)
 have o1_0 : w1.cell? ⟨w.heap.size + 1 + 1, 0, none⟩ = some (.slice none 0 0) := (hb1.cell (by simp; try omega)).trans (by go_simp)
 have f1_0 : w1.frozen? ⟨w.heap.size + 1 + 1, 0, none⟩ = false := (hb1.frozen (by simp; try omega)).trans (by go_simp)
 have e1_0 : w1.cell? ⟨w.heap.size + 1, 0, none⟩ = some (.slice none 0 0) := (hb1.cell (by simp; try omega)).trans (by go_simp)
 have g1_0 : w1.frozen? ⟨w.heap.size + 1, 0, none⟩ = false := (hb1.frozen (by simp; try omega)).trans (by go_simp)
 have p1_1 : w1.cell? ⟨w.heap.size, 1, none⟩ = some (.slice a1 facts.length cap1) := (hb1.cell (by simp; try omega)).trans (by go_simp)
 have o1_1 : w1.cell? ⟨w.heap.size + 1 + 1, 1, none⟩ = some (.slice none 0 0) := (hb1.cell (by simp; try omega)).trans (by go_simp)
 have f1_1 : w1.frozen? ⟨w.heap.size + 1 + 1, 1, none⟩ = false := (hb1.frozen (by simp; try omega)).trans (by go_simp)
 have e1_1 : w1.cell? ⟨w.heap.size + 1, 1, none⟩ = some (.slice none 0 0) := (hb1.cell (by simp; try omega)).trans (by go_simp)
 have g1_1 : w1.frozen? ⟨w.heap.size + 1, 1, none⟩ = false := (hb1.frozen (by simp; try omega)).trans (by go_simp)
 have hR1 : w1.heap[w.heap.size + 1]? = some (.cells #[.slice none 0 0, .slice none 0 0] 34 (0, 0)) := (hb1.block _ (by simp; try omega)).trans (by rw [Go.heap_alloc_old _ _ (by simp; try omega)]; exact heap_alloc2_new _ _ _)
 have u0 : OwnIn (cSlice cRel) (w.heap.size + 3) w1.heap.size w1 rels _ := OwnIn.wide ho0 (by simp; try omega) (Nat.le_refl _)
 clear hb1 ho0
 go_wp2_with fail
 refine (H1.out _ ?hb).mono ?_
 case hb => exact hbb1.setCell (by simp; try omega) _
 rintro e w2 ⟨⟨a1', cap1', rfl, ho1⟩, hb2⟩
 have hW : (w1.setCell ⟨w.heap.size + 1 + 1, 0, none⟩ (.slice a0' rels.length cap0')).heap.size = w1.heap.size := by simp [World.setCell]
 rw [hW] at ho1 hb2
 have hbb2 : Below w.heap.size w w2 := (hbb1.setCell (p := ⟨w.heap.size + 1 + 1, 0, none⟩) (by simp; try omega) _).trans (hb2.mono (by omega))
 have hsz2 : w.heap.size + 3 ≤ w2.heap.size := by have := hb2.size; rw [hW] at this; omega
 have p2_0 := (hb2.cell (p := ⟨w.heap.size, 0, none⟩) (by simp; try omega)).trans ((World.cell?_setCell_other _ _ _ _ (by first | (simp; done) | (simp; omega))).trans p1_0)
 have o2_0 := (hb2.cell (p := ⟨w.heap.size + 1 + 1, 0, none⟩) (by simp; try omega)).trans (World.cell?_setCell_same _ _ _ o1_0)
 have f2_0 := (hb2.frozen (p := ⟨w.heap.size + 1 + 1, 0, none⟩) (by simp; try omega)).trans ((World.frozen?_setCell _ _ _ _).trans f1_0)
 have e2_0 := (hb2.cell (p := ⟨w.heap.size + 1, 0, none⟩) (by simp; try omega)).trans ((World.cell?_setCell_other _ _ _ _ (by first | (simp; done) | (simp; omega))).trans e1_0)
 have g2_0 := (hb2.frozen (p := ⟨w.heap.size + 1, 0, none⟩) (by simp; try omega)).trans ((World.frozen?_setCell _ _ _ _).trans g1_0)
 have p2_1 := (hb2.cell (p := ⟨w.heap.size, 1, none⟩) (by simp; try omega)).trans ((World.cell?_setCell_other _ _ _ _ (by first | (simp; done) | (simp; omega))).trans p1_1)
 have o2_1 := (hb2.cell (p := ⟨w.heap.size + 1 + 1, 1, none⟩) (by simp; try omega)).trans ((World.cell?_setCell_other _ _ _ _ (by first | (simp; done) | (simp; omega))).trans o1_1)
 have f2_1 := (hb2.frozen (p := ⟨w.heap.size + 1 + 1, 1, none⟩) (by simp; try omega)).trans ((World.frozen?_setCell _ _ _ _).trans f1_1)
 have e2_1 := (hb2.cell (p := ⟨w.heap.size + 1, 1, none⟩) (by simp; try omega)).trans ((World.cell?_setCell_other _ _ _ _ (by first | (simp; done) | (simp; omega))).trans e1_1)
 have g2_1 := (hb2.frozen (p := ⟨w.heap.size + 1, 1, none⟩) (by simp; try omega)).trans ((World.frozen?_setCell _ _ _ _).trans g1_1)
 have hR2 := (hb2.block (w.heap.size + 1) (by omega)).trans ((heap_setCell_other _ _ _ _ (by simp)).trans hR1)
 have u0 := (OwnIn.setCell u0 (p := ⟨w.heap.size + 1 + 1, 0, none⟩) (by simp; try omega) (.slice a0' rels.length cap0')).below hb2 (by omega)
 have u1 : OwnIn (cSlice cFct) w1.heap.size w2.heap.size w2 facts _ := ho1
 have hm0 := hb2.size
 rw [hW] at hm0
 clear hW p1_0 o1_0 f1_0 e1_0 g1_0 p1_1 o1_1 f1_1 e1_1 g1_1 hR1
 clear hb2 ho1
 have U0 := Lib.hid u0
 have U1 := Lib.hid u1
 clear u0 u1
 go_wp2
 (try simp only [Exit.inBlock, Exit.then])
 refine bodyPost_ret (results_cell_row rfl _ _ (w.heap.size + 1) _ _ _ _ rfl (heap_setCell_same _ _ 1 _ _ _ (heap_setCell_same _ _ 0 _ _ _ ((heap_setCell_other _ _ _ _ (by simp)).trans (hR2)))) Tryz.underlying34 rfl (by kernel_rfl)) rfl ?_
 exact ⟨⟨_, _, _, _, rfl, OwnIn.own (cDbs_own (x := ⟨rels, facts⟩) (lo := w.heap.size) (hi := w2.heap.size) ((((U0.out).setCell (by simp; try omega) _).setCell (by simp; try omega) _).setCell (by simp; try omega) _) (by omega) ((((U1.out).setCell (by simp; try omega) _).setCell (by simp; try omega) _).setCell (by simp; try omega) _) (by omega) (by omega) (by omega) (by omega)) (by simp [World.setCell])⟩, (((hbb2).setCell (by simp; try omega) _).setCell (by simp; try omega) _).setCell (by simp; try omega) _⟩
theorem eqDatabase_c {a0 : Option Addr} {cap0 : Nat} {a1 : Option Addr} {cap1 : Nat} {a0' : Option Addr} {cap0' : Nat} {a1' : Option Addr} {cap1' : Nat} {x y : Dbs} {w : World} (h : At cDbs w x [.slice a0 x.rels.length cap0, .slice a1 x.facts.length cap1]) (h' : At cDbs w y [.slice a0' y.rels.length cap0', .slice a1' y.facts.length cap1']) :
   Calls Tryz.prog 12 #[.agg #[.slice a0 x.rels.length cap0, .slice a1 x.facts.length cap1], .agg #[.slice a0' y.rels.length cap0', .slice a1' y.facts.length cap1']] w fun e w' => e = .returned (.bool (decide (x = y))) ∧ Below w.heap.size w w' := by
 obtain ⟨k0, k1⟩ := cDbs_inv h
 obtain ⟨m0, m1⟩ := cDbs_inv h'
 clear h h'
 obtain ⟨rels, facts⟩ := x
 obtain ⟨rels', facts'⟩ := y
 have he : decide (Dbs.mk rels facts = Dbs.mk rels' facts') = (decide (rels = rels') && decide (facts = facts')) := by
   simp only [← Bool.decide_and]; congr 1; rw [Dbs.mk.injEq]
 rw [he]
 clear he
 simp only at *
 have H0 : Hid (∀ ww, Below w.heap.size w ww → Calls Tryz.prog 34 #[.slice a0 rels.length cap0, .slice a0' rels'.length cap0'] ww fun e w' => e = .returned (.bool (decide (rels = rels'))) ∧ Below ww.heap.size ww w') :=
   fun ww hb => eqRelationS_c (At.below (c := (cSlice cRel)) k0 hb (Nat.le_refl _)) (At.below (c := (cSlice cRel)) m0 hb (Nat.le_refl _))
 have H1 : Hid (∀ ww, Below w.heap.size w ww → Calls Tryz.prog 35 #[.slice a1 facts.length cap1, .slice a1' facts'.length cap1'] ww fun e w' => e = .returned (.bool (decide (facts = facts'))) ∧ Below ww.heap.size ww w') :=
   fun ww hb => eqFactS_c (At.below (c := (cSlice cFct)) k1 hb (Nat.le_refl _)) (At.below (c := (cSlice cFct)) m1 hb (Nat.le_refl _))
 clear k0 m0 k1 m1
 generalize decide (rels = rels') = z0 at *
 cases z0 with
 | true =>
   rw [Bool.true_and]
   generalize decide (facts = facts') = z1 at *
   cases z1 with
   | true =>
     go_enter Tryz.func12, Tryz.ntmps12
     go_wp2_with fail
     refine (H0.out _ ?hb).mono ?_
     case hb => go_grown
     rintro e w1 ⟨rfl, hb1⟩
     have hbb1 : Below w.heap.size w w1 := Below.trans (by go_grown) (hb1.mono (by simp; try omega))
     have hsz1 : w.heap.size + 2 ≤ w1.heap.size := by have := hb1.size; simp at this; omega
     have p1_0 : w1.cell? ⟨w.heap.size, 0, none⟩ = some (.slice a0 rels.length cap0) := (hb1.cell (by simp; try omega)).trans (by go_simp)
     have r1_0 : w1.cell? ⟨w.heap.size + 1, 0, none⟩ = some (.slice a0' rels'.length cap0') := (hb1.cell (by simp; try omega)).trans (by go_simp)
     have p1_1 : w1.cell? ⟨w.heap.size, 1, none⟩ = some (.slice a1 facts.length cap1) := (hb1.cell (by simp; try omega)).trans (by go_simp)
     have r1_1 : w1.cell? ⟨w.heap.size + 1, 1, none⟩ = some (.slice a1' facts'.length cap1') := (hb1.cell (by simp; try omega)).trans (by go_simp)
     clear hb1
     go_wp2_with fail
     refine (H1.out _ ?hb).mono ?_
     case hb => exact hbb1
     rintro e w2 ⟨rfl, hb2⟩
     have hbb2 : Below w.heap.size w w2 := hbb1.trans (hb2.mono (by omega))
     have hsz2 : w.heap.size + 2 ≤ w2.heap.size := by have := hb2.size; omega
     have p2_0 := (hb2.cell (p := ⟨w.heap.size, 0, none⟩) (by simp; try omega)).trans p1_0
     have r2_0 := (hb2.cell (p := ⟨w.heap.size + 1, 0, none⟩) (by simp; try omega)).trans r1_0
     have p2_1 := (hb2.cell (p := ⟨w.heap.size, 1, none⟩) (by simp; try omega)).trans p1_1
     have r2_1 := (hb2.cell (p := ⟨w.heap.size + 1, 1, none⟩) (by simp; try omega)).trans r1_1
     clear p1_0 r1_0 p1_1 r1_1
     clear hb2
     go_wp2
     go_ret
     exact ⟨by simp, hbb2⟩
   | false =>
     go_enter Tryz.func12, Tryz.ntmps12
     go_wp2_with fail
     refine (H0.out _ ?hb).mono ?_
     case hb => go_grown
     rintro e w1 ⟨rfl, hb1⟩
     have hbb1 : Below w.heap.size w w1 := Below.trans (by go_grown) (hb1.mono (by simp; try omega))
     have hsz1 : w.heap.size + 2 ≤ w1.heap.size := by have := hb1.size; simp at this; omega
     have p1_0 : w1.cell? ⟨w.heap.size, 0, none⟩ = some (.slice a0 rels.length cap0) := (hb1.cell (by simp; try omega)).trans (by go_simp)
     have r1_0 : w1.cell? ⟨w.heap.size + 1, 0, none⟩ = some (.slice a0' rels'.length cap0') := (hb1.cell (by simp; try omega)).trans (by go_simp)
     have p1_1 : w1.cell? ⟨w.heap.size, 1, none⟩ = some (.slice a1 facts.length cap1) := (hb1.cell (by simp; try omega)).trans (by go_simp)
     have r1_1 : w1.cell? ⟨w.heap.size + 1, 1, none⟩ = some (.slice a1' facts'.length cap1') := (hb1.cell (by simp; try omega)).trans (by go_simp)
     clear hb1
     go_wp2_with fail
     refine (H1.out _ ?hb).mono ?_
     case hb => exact hbb1
     rintro e w2 ⟨rfl, hb2⟩
     have hbb2 : Below w.heap.size w w2 := hbb1.trans (hb2.mono (by omega))
     have hsz2 : w.heap.size + 2 ≤ w2.heap.size := by have := hb2.size; omega
     have p2_0 := (hb2.cell (p := ⟨w.heap.size, 0, none⟩) (by simp; try omega)).trans p1_0
     have r2_0 := (hb2.cell (p := ⟨w.heap.size + 1, 0, none⟩) (by simp; try omega)).trans r1_0
     have p2_1 := (hb2.cell (p := ⟨w.heap.size, 1, none⟩) (by simp; try omega)).trans p1_1
     have r2_1 := (hb2.cell (p := ⟨w.heap.size + 1, 1, none⟩) (by simp; try omega)).trans r1_1
     clear p1_0 r1_0 p1_1 r1_1
     clear hb2
     go_wp2
     go_ret
     exact ⟨by simp, hbb2⟩
 | false =>
   rw [Bool.false_and]
   go_enter Tryz.func12, Tryz.ntmps12
   go_wp2_with fail
   refine (H0.out _ ?hb).mono ?_
   case hb => go_grown
   rintro e w1 ⟨rfl, hb1⟩
   have hbb1 : Below w.heap.size w w1 := Below.trans (by go_grown) (hb1.mono (by simp; try omega))
   have hsz1 : w.heap.size + 2 ≤ w1.heap.size := by have := hb1.size; simp at this; omega
   have p1_0 : w1.cell? ⟨w.heap.size, 0, none⟩ = some (.slice a0 rels.length cap0) := (hb1.cell (by simp; try omega)).trans (by go_simp)
   have r1_0 : w1.cell? ⟨w.heap.size + 1, 0, none⟩ = some (.slice a0' rels'.length cap0') := (hb1.cell (by simp; try omega)).trans (by go_simp)
   have p1_1 : w1.cell? ⟨w.heap.size, 1, none⟩ = some (.slice a1 facts.length cap1) := (hb1.cell (by simp; try omega)).trans (by go_simp)
   have r1_1 : w1.cell? ⟨w.heap.size + 1, 1, none⟩ = some (.slice a1' facts'.length cap1') := (hb1.cell (by simp; try omega)).trans (by go_simp)
   clear hb1
   go_wp2
   go_ret
   exact ⟨by simp, hbb1⟩
end

section
/- What a row's reading says, in the words of the readings of data. -/
open Go.RowKit Go.Deep
section
variable {H : Type} {enc : TypeId × Value → H} {P : Program} {w : World} {base : Nat} {spare : Nat → Bool} {held : Bool}
theorem rd_int {t : TypeId} (ht : P.underlying t = some (.int .i64)) {fuel : Nat} {cs : List Value} {x : DataW H × List MemPlace} (h : DataW.trod enc P w base spare held fuel t cs = some x) : ∃ y, cInt.ok w.heap.size w y cs := by
 obtain ⟨n, e, _, hw⟩ := DataW.trod_int ht h
 refine ⟨n, e, ?_⟩
 simp [Lit.wf] at hw
 unfold inR
 have h0 : IntKind.i64.min = -9223372036854775808 := by decide
 omega
theorem rd_string {t : TypeId} (ht : P.underlying t = some .string) {fuel : Nat} {cs : List Value} {x : DataW H × List MemPlace} (h : DataW.trod enc P w base spare held fuel t cs = some x) : ∃ y, cStr.ok w.heap.size w y cs := by
 obtain ⟨s, e, _, hs⟩ := DataW.trod_string ht h
 exact ⟨s, e, hs⟩
theorem rd_slice {α : Type} {c : Cod α} {t e : TypeId} (ht : P.underlying t = some (.slice e)) (hc : P.cellsOf e = c.n) (hn : 0 < c.n) (he : ∀ (fuel : Nat) (cs : List Value) (x : DataW H × List MemPlace), DataW.trod enc P w base spare held fuel e cs = some x → ∃ y, c.ok w.heap.size w y cs)
   {fuel : Nat} {cs : List Value} {x : DataW H × List MemPlace} (h : DataW.trod enc P w base spare held fuel t cs = some x) : ∃ l, (cSlice c).ok w.heap.size w l cs := by
 rcases open_slice ht h with ⟨rfl, _⟩ | ⟨a, len, cap, m, n, D, Pl, rfl, hb, hl, hm, hmm, _, hx⟩
 · exact ⟨[], none, 0, rfl, by simp, by simp⟩
 · have hlm : len ≤ m := by rw [hmm]; split <;> omega
   rw [hc] at hx
   have hex : ∀ i, i < len → ∃ y : α, ∃ es, c.ok w.heap.size w y es ∧ ∀ k, k < c.n → w.cell? ((a.add (i * c.n)).add k) = es[k]? := by
     intro i hi
     obtain ⟨cs', h1, h2⟩ := hx i (by omega)
     obtain ⟨y, hy⟩ := he _ _ _ h2
     exact ⟨y, cs', hy, fun k hk => (World.cells?_some h1).2.2 k hk⟩
   by_cases h0 : len = 0
   · subst h0
     exact ⟨[], some a, cap, rfl, by simp, by simp⟩
   · obtain ⟨y0, hy0⟩ := hex 0 (by omega)
     haveI : Inhabited α := ⟨y0⟩
     obtain ⟨R, hR⟩ := choose_lt hex
     have hsp : a.spot = none := by
       obtain ⟨es, h1, h2⟩ := hy0
       have h3 := h2 0 hn
       have h4 := c.len h1
       rw [List.getElem?_eq_getElem (by omega)] at h3
       simp [Addr.add] at h3
       exact World.cell?_spot h3
     obtain ⟨bb, off, sp⟩ := a
     obtain rfl : sp = none := hsp
     refine ⟨(List.range len).map R, some ⟨bb, off, none⟩, cap, by simp, by simp; omega, fun j hj => ?_⟩
     simp at hj
     obtain ⟨es, h1, h2⟩ := hR j hj
     have ea (k : Nat) : (Addr.mk bb off none).add k = ⟨bb, off + k, none⟩ := by unfold Addr.add; split <;> simp_all
     have eb (k q : Nat) : (Addr.mk bb (off + k) none).add q = ⟨bb, off + k + q, none⟩ := by unfold Addr.add; split <;> simp_all
     have h3 : ∀ k, k < c.n → w.cell? ⟨bb, off + j * c.n + k, none⟩ = es[k]? := by
       intro k hk
       have := h2 k hk
       rw [ea, eb] at this
       exact this
     refine ⟨bb, off, es, rfl, ?_, by simpa using h1, h3⟩
     have h4 := h3 0 hn
     rw [List.getElem?_eq_getElem (by have := c.len h1; omega)] at h4
     exact block_lt_of_cell h4
theorem row_slice {α : Type} {c : Cod α} {t e : TypeId} (ht : P.underlying t = some (.slice e)) (hc : P.cellsOf e = c.n) (hn : 0 < c.n) (he : ∀ (fuel : Nat) (cs : List Value) (x : DataW H × List MemPlace), DataW.trod enc P w base spare held fuel e cs = some x → ∃ y, c.ok w.heap.size w y cs)
   {r0 : Reach} {b0 : Nat} {v : Value} {d : DataW H} {ps : List MemPlace} (hval : Value.okWide P w r0 b0 t v) (h : DataW.Trod enc P w base spare held t v d ps) :
   ∃ (a : Option Addr) (cap : Nat) (l : List α), v = .slice a l.length cap ∧ At (cSlice c) w l [.slice a l.length cap] := by
 obtain ⟨a, len, cap, rfl⟩ := Go.WideShapes.okWide_slice ht hval
 obtain ⟨m, hm⟩ := h
 obtain ⟨l, hl⟩ := rd_slice ht hc hn he hm
 have hl2 := hl
 obtain ⟨a', cap', e, _⟩ := hl2
 simp [Value.cells] at e
 obtain ⟨rfl, rfl, rfl⟩ := e
 exact ⟨a, cap, l, rfl, hl⟩
theorem row_struct {α : Type} {c : Cod α} {t : TypeId} {fs : Array Field} (ht : P.underlying t = some (.struct fs)) (he : ∀ (fuel : Nat) (cs : List Value) (x : DataW H × List MemPlace), DataW.trod enc P w base spare held fuel t cs = some x → ∃ y, c.ok w.heap.size w y cs)
   {r0 : Reach} {b0 : Nat} {v : Value} {d : DataW H} {ps : List MemPlace} (hval : Value.okWide P w r0 b0 t v) (h : DataW.Trod enc P w base spare held t v d ps) :
   ∃ (y : α) (cs : List Value), v = .agg cs.toArray ∧ At c w y cs := by
 obtain ⟨cs, rfl, _⟩ := Go.WideShapes.okWide_struct ht hval
 obtain ⟨m, hm⟩ := h
 obtain ⟨y, hy⟩ := he _ _ _ hm
 exact ⟨y, cs.toList, by simp, by show c.ok _ _ _ _; simpa [Value.cells] using hy⟩
end
end

section
/- TyTre: TyE TyF TyG TyH. -/
/- Slices of structs: the laws' helpers on them (size, copy, equality). -/
open Go.RowKit
theorem at_IntS {B : Nat} {w : World} {l : List (List Int)} {a0 : Option Addr} {len cap0 : Nat} (h : (cSlice (cSlice cInt)).ok B w l [.slice a0 len cap0]) (j : Nat) (hj : j < l.length) :
   ∃ b off a cap, a0 = some ⟨b, off, none⟩ ∧ b < B ∧ w.cell? ⟨b, off + j, none⟩ = some (.slice a l[j].length cap) ∧ (cSlice cInt).ok B w l[j] [.slice a l[j].length cap] := by
 obtain ⟨b, off, es, rfl, hb, he, hc⟩ := slice_at h j hj
 obtain ⟨a, cap, rfl, hx⟩ := slice_open he
 exact ⟨b, off, a, cap, rfl, hb, by have := hc 0 (by decide); rw [show (cSlice cInt).n = 1 from rfl, Nat.mul_one, Nat.add_zero] at this; exact this, hx⟩
def sumIntS (l : List (List Int)) : Nat := (l.map fun x => x.length).sum
def sizeIntSS (l : List (List Int)) : Nat := l.length + sumIntS l
theorem zIntS_at (A : List Value) (k n : Nat) (h : A.length = k * 1) (hk : k < n) : (A ++ (List.replicate (n - k) ([.slice none 0 0] : List Value)).flatten)[k]? = some (.slice none 0 0) := by
 have e1 : n - k = (n - (k + 1)) + 1 := by omega
 rw [e1, List.replicate_succ, List.flatten_cons]
 refine ?_
 rw [List.getElem?_append_right (by omega)]; simp [h]
set_option maxHeartbeats 1600000 in
theorem eqIntSS_c {a0 a0' : Option Addr} {cap0 cap0' : Nat} {l m : List (List Int)} {w : World} (h : At (cSlice (cSlice cInt)) w l [.slice a0 l.length cap0]) (h' : At (cSlice (cSlice cInt)) w m [.slice a0' m.length cap0']) :
   Calls Tryz.prog 11 #[.slice a0 l.length cap0, .slice a0' m.length cap0'] w fun e w' => e = .returned (.bool (decide (l = m))) ∧ Below w.heap.size w w' := by
 have hm := (slice_len h).2
 have hm' := (slice_len h').2
 unfold maxLen at hm hm'
 by_cases hne : l.length = m.length
 · obtain ⟨n, hn⟩ : ∃ n : Nat, l.length = n := ⟨_, rfl⟩
   have Hr : Hid (∀ w' : World, Below w.heap.size w w' → ∀ j (hj : j < l.length), _) := fun w' hb j hj => at_IntS (Cod.ok_below h hb) j hj
   have Hr' : Hid (∀ w' : World, Below w.heap.size w w' → ∀ j (hj : j < m.length), _) := fun w' hb j hj => at_IntS (Cod.ok_below h' hb) j hj
   clear h h'
   rw [← hne, hn]
   have Hn := Lib.hid hn
   have Hm : Hid (m.length = n) := by rw [← hne]; exact hn
   have hm2 : n ≤ 2 ^ 63 - 1 := by omega
   generalize hR : decide (l = m) = R
   have HR : Hid (decide (l.drop 0 = m.drop 0) = R) := hR
   clear hR hne hn hm hm'
   go_enter Tryz.func11, Tryz.ntmps11
   go_wp2
   go_loopw [5] (fun iv wr => ∃ k : Nat, k ≤ n ∧ iv = .int .i64 k ∧ Hid (decide (l.drop k = m.drop k) = R) ∧ Below w.heap.size w wr) (fun iv _ => n - (intOf iv).toNat)
   case atStart => exact ⟨0, by omega, by go_num, HR, Below.refl _ _⟩
   case round =>
     clear HR
     obtain ⟨k, hk, rfl, Hq, hb⟩ := hrel
     by_cases hlt : k < n
     · have hkl : k < l.length := by rw [Hn.out]; exact hlt
       have hkm : k < m.length := by rw [Hm.out]; exact hlt
       have Hst : Hid (R = (decide (l[k] = m[k]) && decide (l.drop (k + 1) = m.drop (k + 1)))) := by
         show R = _
         rw [← Hq.out, ← Bool.decide_and]; congr 1; rw [List.drop_eq_getElem_cons hkl, List.drop_eq_getElem_cons hkm, List.cons.injEq]
       obtain ⟨b, off, a, cap, rfl, hbB, c0, hx⟩ := Hr.out _ hb k hkl
       obtain ⟨b', off', a', cap', rfl, hbB', e0, hy⟩ := Hr'.out _ hb k hkm
       have Hc : Hid (∀ ww, Below w.heap.size wr ww → Calls Tryz.prog 33 #[.slice a l[k].length cap, .slice a' m[k].length cap'] ww fun e w' => e = .returned (.bool (decide (l[k] = m[k]))) ∧ Below ww.heap.size ww w') :=
         fun ww hw2 => eqIntS_c ((cSlice cInt).keep hx (fun k hk => hw2.block k hk) (Nat.le_trans hb.size hw2.size)) ((cSlice cInt).keep hy (fun k hk => hw2.block k hk) (Nat.le_trans hb.size hw2.size))
       clear hx hy Hq
       generalize l[k] = r at *
       generalize m[k] = r' at *
       generalize decide (r = r') = z at *
       cases z with
       | true =>
         go_wp2_with fail
         go_region_with (go_at_call 33; refine (Hc.out _ ?hww).mono ?_; (case hww => first | exact Below.refl _ _ | exact (Below.refl _ _).drew | exact Below.drewN' (Below.refl _ _) _); rintro e w1 ⟨rfl, hb1⟩)
         all_goals
           go_wp2
           go_roundw
           case rel =>
             have h := Hst.out
             rw [Bool.true_and] at h
             exact ⟨k + 1, by omega, by go_num, h.symm, hb.drew.trans (hb1.mono hb.size)⟩
           case measure => simp [intOf]; omega
       | false =>
         have hR : R = false := by have h := Hst.out; rw [Bool.false_and] at h; exact h
         go_wp2_with fail
         go_region_with (go_at_call 33; refine (Hc.out _ ?hww).mono ?_; (case hww => first | exact Below.refl _ _ | exact (Below.refl _ _).drew | exact Below.drewN' (Below.refl _ _) _); rintro e w1 ⟨rfl, hb1⟩)
         all_goals
           go_wp2
           go_ret
           exact ⟨by rw [hR]; rfl, hb.drew.trans (hb1.mono hb.size)⟩
     · obtain rfl : k = n := by omega
       have hR : R = true := by
         have := Hq.out
         rw [List.drop_eq_nil_of_le (by rw [Hn.out]; exact Nat.le_refl _), List.drop_eq_nil_of_le (by rw [Hm.out]; exact Nat.le_refl _)] at this
         simpa using this.symm
       go_wp2
       go_ret
       exact ⟨by rw [hR]; rfl, hb⟩
 · rw [decide_eq_false (fun e => hne (by rw [e]))]
   have hne2 : (l.length != m.length) = true := by simpa using hne
   go_enter Tryz.func11, Tryz.ntmps11
   go_wp2
   go_ret
   exact ⟨rfl, Below.refl _ _⟩
/- Structs: readings, the laws' helpers on them (size, copy, equality). -/
open Go.RowKit
structure Dcn where
 r1 : Int
 r2 : Int
 j1 : Int
 j2 : Int
 c1 : Int
 c2 : Int
 cmp : Int
deriving DecidableEq
def cDcn : Cod Dcn := cMap (fun x => (x.r1, (x.r2, (x.j1, (x.j2, (x.c1, (x.c2, x.cmp))))))) (cPair cInt (cPair cInt (cPair cInt (cPair cInt (cPair cInt (cPair cInt cInt))))))
theorem cDcn_fields {B : Nat} {w : World} {x : Dcn} {cs : List Value} (h : cDcn.ok B w x cs) : cs = [.int .i64 x.r1, .int .i64 x.r2, .int .i64 x.j1, .int .i64 x.j2, .int .i64 x.c1, .int .i64 x.c2, .int .i64 x.cmp] ∧ inR x.r1 ∧ inR x.r2 ∧ inR x.j1 ∧ inR x.j2 ∧ inR x.c1 ∧ inR x.c2 ∧ inR x.cmp := by
 obtain ⟨_, _, rfl, h0, _, _, rfl, h1, _, _, rfl, h2, _, _, rfl, h3, _, _, rfl, h4, _, _, rfl, h5, h6⟩ := h
 obtain ⟨rfl, g0⟩ := h0
 obtain ⟨rfl, g1⟩ := h1
 obtain ⟨rfl, g2⟩ := h2
 obtain ⟨rfl, g3⟩ := h3
 obtain ⟨rfl, g4⟩ := h4
 obtain ⟨rfl, g5⟩ := h5
 obtain ⟨rfl, g6⟩ := h6
 exact ⟨rfl, g0, g1, g2, g3, g4, g5, g6⟩
theorem cDcn_open {B : Nat} {w : World} {x : Dcn} {cs : List Value} (h : cDcn.ok B w x cs) : cs = [.int .i64 x.r1, .int .i64 x.r2, .int .i64 x.j1, .int .i64 x.j2, .int .i64 x.c1, .int .i64 x.c2, .int .i64 x.cmp] ∧ cDcn.ok B w x [.int .i64 x.r1, .int .i64 x.r2, .int .i64 x.j1, .int .i64 x.j2, .int .i64 x.c1, .int .i64 x.c2, .int .i64 x.cmp] := by
 have h0 := h
 obtain ⟨rfl, _⟩ := cDcn_fields h
 exact ⟨rfl, h0⟩
theorem cDcn_inv {B : Nat} {w : World} {x : Dcn} {v0 v1 v2 v3 v4 v5 v6 : Value} (h : cDcn.ok B w x [v0, v1, v2, v3, v4, v5, v6]) : inR x.r1 ∧ inR x.r2 ∧ inR x.j1 ∧ inR x.j2 ∧ inR x.c1 ∧ inR x.c2 ∧ inR x.cmp := by
 obtain ⟨e, g0, g1, g2, g3, g4, g5, g6⟩ := cDcn_fields h
 simp only [List.cons.injEq, and_true] at e
 obtain ⟨rfl, rfl, rfl, rfl, rfl, rfl, rfl⟩ := e
 exact ⟨g0, g1, g2, g3, g4, g5, g6⟩
theorem cDcn_own {lo hi  : Nat} {w : World} {x : Dcn} (g0 : inR x.r1) (g1 : inR x.r2) (g2 : inR x.j1) (g3 : inR x.j2) (g4 : inR x.c1) (g5 : inR x.c2) (g6 : inR x.cmp) (q : lo ≤ hi) : OwnIn cDcn lo hi w x [.int .i64 x.r1, .int .i64 x.r2, .int .i64 x.j1, .int .i64 x.j2, .int .i64 x.c1, .int .i64 x.c2, .int .i64 x.cmp] := (OwnIn.pair (OwnIn.int lo lo _ g0) (OwnIn.pair (OwnIn.int lo lo _ g1) (OwnIn.pair (OwnIn.int lo lo _ g2) (OwnIn.pair (OwnIn.int lo lo _ g3) (OwnIn.pair (OwnIn.int lo lo _ g4) (OwnIn.pair (OwnIn.int lo lo _ g5) (OwnIn.int lo hi _ g6) (by omega) (by omega)) (by omega) (by omega)) (by omega) (by omega)) (by omega) (by omega)) (by omega) (by omega)) (by omega) (by omega))
theorem toDenialConstraint_c {x : Dcn} {w : World} (h : At cDcn w x [.int .i64 x.r1, .int .i64 x.r2, .int .i64 x.j1, .int .i64 x.j2, .int .i64 x.c1, .int .i64 x.c2, .int .i64 x.cmp]) :
   Calls Tryz.prog 29 #[.agg #[.int .i64 x.r1, .int .i64 x.r2, .int .i64 x.j1, .int .i64 x.j2, .int .i64 x.c1, .int .i64 x.c2, .int .i64 x.cmp]] w fun e w' => (e = .returned (.agg #[.int .i64 x.r1, .int .i64 x.r2, .int .i64 x.j1, .int .i64 x.j2, .int .i64 x.c1, .int .i64 x.c2, .int .i64 x.cmp]) ∧ Own cDcn w.heap.size w' x [.int .i64 x.r1, .int .i64 x.r2, .int .i64 x.j1, .int .i64 x.j2, .int .i64 x.c1, .int .i64 x.c2, .int .i64 x.cmp]) ∧ Below w.heap.size w w' := by
 obtain ⟨g0, g1, g2, g3, g4, g5, g6⟩ := cDcn_inv h
 have Ho : Hid (∀ w' : World, Own cDcn w.heap.size w' x [.int .i64 x.r1, .int .i64 x.r2, .int .i64 x.j1, .int .i64 x.j2, .int .i64 x.c1, .int .i64 x.c2, .int .i64 x.cmp]) := fun w' => OwnIn.flat (cDcn_own (lo := w.heap.size) (hi := w.heap.size) (w := w') (x := x) g0 g1 g2 g3 g4 g5 g6 (Nat.le_refl _))
 clear h g0 g1 g2 g3 g4 g5 g6
 obtain ⟨r1, r2, j1, j2, c1, c2, cmp⟩ := x
 simp only at *
 go_enter Tryz.func29, Tryz.ntmps29
 go_wp2
 go_returns
 refine ⟨⟨?_, Ho.out _⟩, ?_⟩
 · simp
 · go_grown
structure Edg where
 a : Int
 b : Int
deriving DecidableEq
def cEdg : Cod Edg := cMap (fun x => (x.a, x.b)) (cPair cInt cInt)
theorem cEdg_fields {B : Nat} {w : World} {x : Edg} {cs : List Value} (h : cEdg.ok B w x cs) : cs = [.int .i64 x.a, .int .i64 x.b] ∧ inR x.a ∧ inR x.b := by
 obtain ⟨_, _, rfl, h0, h1⟩ := h
 obtain ⟨rfl, g0⟩ := h0
 obtain ⟨rfl, g1⟩ := h1
 exact ⟨rfl, g0, g1⟩
theorem cEdg_open {B : Nat} {w : World} {x : Edg} {cs : List Value} (h : cEdg.ok B w x cs) : cs = [.int .i64 x.a, .int .i64 x.b] ∧ cEdg.ok B w x [.int .i64 x.a, .int .i64 x.b] := by
 have h0 := h
 obtain ⟨rfl, _⟩ := cEdg_fields h
 exact ⟨rfl, h0⟩
theorem cEdg_inv {B : Nat} {w : World} {x : Edg} {v0 v1 : Value} (h : cEdg.ok B w x [v0, v1]) : inR x.a ∧ inR x.b := by
 obtain ⟨e, g0, g1⟩ := cEdg_fields h
 simp only [List.cons.injEq, and_true] at e
 obtain ⟨rfl, rfl⟩ := e
 exact ⟨g0, g1⟩
theorem cEdg_own {lo hi  : Nat} {w : World} {x : Edg} (g0 : inR x.a) (g1 : inR x.b) (q : lo ≤ hi) : OwnIn cEdg lo hi w x [.int .i64 x.a, .int .i64 x.b] := (OwnIn.pair (OwnIn.int lo lo _ g0) (OwnIn.int lo hi _ g1) (by omega) (by omega))
theorem toConflictEdge_c {x : Edg} {w : World} (h : At cEdg w x [.int .i64 x.a, .int .i64 x.b]) :
   Calls Tryz.prog 44 #[.agg #[.int .i64 x.a, .int .i64 x.b]] w fun e w' => (e = .returned (.agg #[.int .i64 x.a, .int .i64 x.b]) ∧ Own cEdg w.heap.size w' x [.int .i64 x.a, .int .i64 x.b]) ∧ Below w.heap.size w w' := by
 obtain ⟨g0, g1⟩ := cEdg_inv h
 have Ho : Hid (∀ w' : World, Own cEdg w.heap.size w' x [.int .i64 x.a, .int .i64 x.b]) := fun w' => OwnIn.flat (cEdg_own (lo := w.heap.size) (hi := w.heap.size) (w := w') (x := x) g0 g1 (Nat.le_refl _))
 clear h g0 g1
 obtain ⟨a, b⟩ := x
 simp only at *
 go_enter Tryz.func44, Tryz.ntmps44
 go_wp2
 go_returns
 refine ⟨⟨?_, Ho.out _⟩, ?_⟩
 · simp
 · go_grown
theorem eqConflictEdge_c {x y : Edg} {w : World} (h : At cEdg w x [.int .i64 x.a, .int .i64 x.b]) (h' : At cEdg w y [.int .i64 y.a, .int .i64 y.b]) :
   Calls Tryz.prog 47 #[.agg #[.int .i64 x.a, .int .i64 x.b], .agg #[.int .i64 y.a, .int .i64 y.b]] w fun e w' => e = .returned (.bool (decide (x = y))) ∧ Below w.heap.size w w' := by
 clear h h'
 obtain ⟨a, b⟩ := x
 obtain ⟨a', b'⟩ := y
 have he : decide (Edg.mk a b = Edg.mk a' b') = (decide (a = a') && decide (b = b')) := by
   simp only [← Bool.decide_and]; congr 1; rw [Edg.mk.injEq]
 rw [he]
 clear he
 simp only at *
 by_cases hr0 : a = a'
 · subst hr0
   rw [decide_eq_true rfl, Bool.true_and]
   by_cases hr1 : b = b'
   · subst hr1
     rw [decide_eq_true rfl]
     go_enter Tryz.func47, Tryz.ntmps47
     go_wp2
     go_ret
     exact ⟨by simp, by go_grown⟩
   · have hn1 : (b != b') = true := by simp [hr1]
     rw [decide_eq_false hr1]
     go_enter Tryz.func47, Tryz.ntmps47
     go_wp2
     go_ret
     exact ⟨by simp, by go_grown⟩
 · have hn0 : (a != a') = true := by simp [hr0]
   rw [decide_eq_false hr0, Bool.false_and]
   go_enter Tryz.func47, Tryz.ntmps47
   go_wp2
   go_ret
   exact ⟨by simp, by go_grown⟩
structure Atm where
 rel : Int
 terms : List Int
deriving DecidableEq
def cAtm : Cod Atm := cMap (fun x => (x.rel, x.terms)) (cPair cInt (cSlice cInt))
def sizeAtom (x : Atm) : Nat := x.terms.length
open Go.RowKit
theorem at_ConflictEdge {B : Nat} {w : World} {l : List Edg} {a0 : Option Addr} {len cap0 : Nat} (h : (cSlice cEdg).ok B w l [.slice a0 len cap0]) (j : Nat) (hj : j < l.length) :
   ∃ b off, a0 = some ⟨b, off, none⟩ ∧ b < B ∧ w.cell? ⟨b, off + j * 2, none⟩ = some (.int .i64 l[j].a) ∧ w.cell? ⟨b, off + j * 2 + 1, none⟩ = some (.int .i64 l[j].b) ∧ cEdg.ok B w l[j] [.int .i64 l[j].a, .int .i64 l[j].b] := by
 obtain ⟨b, off, es, rfl, hb, he, hc⟩ := slice_at h j hj
 obtain ⟨rfl, hx⟩ := cEdg_open he
 exact ⟨b, off, rfl, hb, by exact hc 0 (by decide), by exact hc 1 (by decide), hx⟩
theorem szConflictEdgeS_c {a0 : Option Addr} {cap0 : Nat} {l : List Edg} {left : Int} {w : World} (hl : 0 ≤ left) (hl2 : left ≤ 1048576) (h : At (cSlice cEdg) w l [.slice a0 l.length cap0]) :
   Calls Tryz.prog 18 #[.slice a0 l.length cap0, .int .i64 left] w fun e w' => e = .returned (.int .i64 (szR left l.length)) ∧ Below w.heap.size w w' := by
 have hm := (slice_len h).2
 unfold maxLen at hm
 have hw : wrap64 (left - (l.length : Int)) = left - (l.length : Int) := IntWalk.wrap64_in _ ⟨by omega, by omega⟩
 unfold szR
 by_cases h : left - (l.length : Int) < 0
 · rw [if_pos h]
   go_enter Tryz.func18, Tryz.ntmps18
   go_wp2
   go_ret
   exact ⟨rfl, Below.refl _ _⟩
 · rw [if_neg h]
   go_enter Tryz.func18, Tryz.ntmps18
   go_wp2
   go_ret
   exact ⟨rfl, Below.refl _ _⟩
theorem zConflictEdge_at (A : List Value) (k n : Nat) (h : A.length = k * 2) (hk : k < n) : (A ++ (List.replicate (n - k) ([.int .i64 0, .int .i64 0] : List Value)).flatten)[k * 2]? = some (.int .i64 0) ∧ (A ++ (List.replicate (n - k) ([.int .i64 0, .int .i64 0] : List Value)).flatten)[k * 2 + 1]? = some (.int .i64 0) := by
 have e1 : n - k = (n - (k + 1)) + 1 := by omega
 rw [e1, List.replicate_succ, List.flatten_cons]
 refine ⟨?_, ?_⟩
 · rw [List.getElem?_append_right (by omega)]; simp [h]
 · rw [List.getElem?_append_right (by omega)]; simp [h]
theorem zConflictEdge_step (A : List Value) (k n : Nat) (h : A.length = k * 2) (hk : k < n) (v0 v1 : Value) : ((A ++ (List.replicate (n - k) ([.int .i64 0, .int .i64 0] : List Value)).flatten).set (k * 2) v0).set (k * 2 + 1) v1 = (A ++ [v0, v1]) ++ (List.replicate (n - (k + 1)) ([.int .i64 0, .int .i64 0] : List Value)).flatten := by
 have e1 : n - k = (n - (k + 1)) + 1 := by omega
 rw [e1, List.replicate_succ, List.flatten_cons]
 rw [List.set_append_right _ _ (by omega), List.set_append_right _ _ (by omega)]
 simp [h]
theorem zConflictEdge_made (n : Nat) : (madeCells #[.int .i64 0, .int .i64 0] (n * 2)).toList = (List.replicate n [.int .i64 0, .int .i64 0]).flatten := by
 induction n with
 | zero => simp [madeCells]
 | succ n ih =>
   rw [List.replicate_succ', List.flatten_append, ← ih]
   unfold madeCells
   simp [Array.range_succ, Array.toList_range, Nat.add_mod, Nat.mul_mod_left, Nat.succ_mul]
theorem Tryz.infoConflictEdge : (Tryz.prog.info? 75).map (fun i => (i.zero, i.size, i.bytes)) = some (some (.agg #[.int .i64 0, .int .i64 0]), 2, 16) := by kernel_rfl
set_option maxHeartbeats 1600000 in
theorem toConflictEdgeS_c {a0 : Option Addr} {cap0 : Nat} {l : List Edg} {w : World} (hs : l.length ≤ 1048576) (h : At (cSlice cEdg) w l [.slice a0 l.length cap0]) :
   Calls Tryz.prog 20 #[.slice a0 l.length cap0] w fun e w' => (∃ a' cap', e = .returned (.slice a' l.length cap') ∧ Own (cSlice cEdg) w.heap.size w' l [.slice a' l.length cap']) ∧ Below w.heap.size w w' := by
 obtain ⟨n, hn⟩ : ∃ n : Nat, l.length = n := ⟨_, rfl⟩
 have Hn := Lib.hid hn
 have Hr : Hid (∀ w' : World, Below w.heap.size w w' → ∀ j (hj : j < l.length), _) := fun w' hb j hj => at_ConflictEdge (Cod.ok_below h hb) j hj
 rw [hn] at hs ⊢
 clear hn h
 obtain ⟨i0, hi, hz0, hz1, hz2⟩ := info_parts Tryz.infoConflictEdge
 go_enter Tryz.func20, Tryz.ntmps20
 go_wp2_with (at_make; refine wpList_make_full _ rfl (.tmp 6) (.tmp 6) 48 rfl w.heap.size 75 i0 (.agg #[.int .i64 0, .int .i64 0]) 2 Tryz.underlying48 hi hz0 hz1 .i64 .i64 n n n rfl rfl rfl rfl ?c1 ?c2 (Nat.le_refl _) ?_)
 case c1 => rw [hz2]; omega
 case c2 => unfold maxLen; omega
 intro w1 hown hg1
 rw [show (madeCells #[.int .i64 0, .int .i64 0] (n * 2)).toList = [].flatten ++ (List.replicate (n - 0) [.int .i64 0, .int .i64 0]).flatten by rw [zConflictEdge_made]; simp] at hown
 have hb0 : Below w.heap.size w w1 := (Below.refl _ _).grown hg1 (Nat.le_refl _) (fun k hk => by cases hk)
 clear hg1 hi hz0 hz1 hz2
 go_wp2
 go_loopw [4] (fun iv wr => ∃ (k : Nat) (F : List Nat) (css : List (List Value)), k ≤ n ∧ iv = .int .i64 k ∧ ownL cEdg F wr (l.take k) css ∧ (∀ x, x ∈ F → w.heap.size < x ∧ x < wr.heap.size) ∧ wr.ownsRow w.heap.size 75 2 (.slice (some ⟨w.heap.size, 0, none⟩) n n) n (css.flatten ++ (List.replicate (n - k) [.int .i64 0, .int .i64 0]).flatten) ∧ Below w.heap.size w wr) (fun iv _ => n - (intOf iv).toNat)
 case atStart => exact ⟨0, [], [], by omega, by go_num, ownL_nil _, by simp, hown, hb0⟩
 case round =>
   clear hown hb0
   obtain ⟨k, F, css, hk, rfl, hL, hF, hown, hb⟩ := hrel
   by_cases hlt : k < n
   · have hkl : k < l.length := by rw [Hn.out]; exact hlt
     obtain ⟨b, off, rfl, hbB, c0, c1, hx⟩ := Hr.out _ hb k hkl
     have Hc : Hid (∀ ww, Below w.heap.size wr ww → Calls Tryz.prog 44 #[.agg #[.int .i64 l[k].a, .int .i64 l[k].b]] ww fun e w' => (e = .returned (.agg #[.int .i64 l[k].a, .int .i64 l[k].b]) ∧ Own cEdg ww.heap.size w' l[k] [.int .i64 l[k].a, .int .i64 l[k].b]) ∧ Below ww.heap.size ww w') :=
       fun ww hw2 => toConflictEdge_c (cEdg.keep hx (fun k hk => hw2.block k hk) (Nat.le_trans hb.size hw2.size))
     have hlen : css.flatten.length = k * 2 := by
       have := (ownL_len hL).2
       rw [List.length_take, Nat.min_eq_left (by omega)] at this
       exact this
     have Hat := Lib.hid (zConflictEdge_at css.flatten k n hlen hlt)
     have Hstep := Lib.hid (zConflictEdge_step css.flatten k n hlen hlt)
     have Htake : Hid (l.take (k + 1) = l.take k ++ [l[k]]) := List.take_succ_eq_append_getElem hkl
     have HL := Lib.hid hL
     have HF := Lib.hid hF
     have Hown := Lib.hid hown
     clear hx hL hF hlen hown
     generalize l[k] = r at *
     go_wp2_with fail
     refine (Hc.out _ (Below.refl _ _)).mono ?_
     rintro e w2 ⟨⟨rfl, ho⟩, hb2⟩
     have hown2 := ownsRow_below Hown.out hb2
     have Hown2 := Lib.hid hown2
     have hgw : w.heap.size < wr.heap.size := (Hown.out.lt _ rfl).2
     have f0 := hown2.frozenAt (k * 2)
     have d0 := (hown2.cellAt (k * 2) (by omega)).trans Hat.out.1
     have f1 := hown2.frozenAt (k * 2 + 1)
     have d1 := (hown2.cellAt (k * 2 + 1) (by omega)).trans Hat.out.2
     have Ho := Lib.hid ho
     have hbw : Below w.heap.size w w2 := hb.trans (hb2.mono hb.size)
     clear ho hown2
     go_wp2
     go_roundw
     case rel =>
       obtain ⟨G, hG1, hG2⟩ := Ho.out
       have hown2 := Hown2.out
       have s0 := (hown2.stored (k * 2) (.int .i64 r.a)).1
       have s1 := (s0.stored (k * 2 + 1) (.int .i64 r.b)).1
       rw [Hstep.out] at s1
       have hkeep : ∀ kk, kk ≠ w.heap.size → ((w2.setCell ⟨w.heap.size, k * 2, none⟩ (.int .i64 r.a)).setCell ⟨w.heap.size, k * 2 + 1, none⟩ (.int .i64 r.b)).heap[kk]? = w2.heap[kk]? := fun kk hne => (heap_setCell_other _ ⟨w.heap.size, k * 2 + 1, none⟩ _ _ hne).trans ((heap_setCell_other _ ⟨w.heap.size, k * 2, none⟩ _ _ hne).trans (rfl))
       refine ⟨k + 1, F ++ G, css ++ [[.int .i64 r.a, .int .i64 r.b]], by omega, by go_num, ?_, ?_, ?_, ((hbw).setCell (Nat.le_refl _) _).setCell (Nat.le_refl _) _⟩
       · rw [Htake.out]
         refine ownL_snoc (cEdg.keepO hG1 (fun kk hkk => hkeep kk (by have := (hG2 kk hkk).1; omega))) (ownL_keep (ownL_below HL.out hb2 (fun kk hkk => (HF.out kk hkk).2)) (fun kk hkk => hkeep kk (by have := (HF.out kk hkk).1; omega))) ?_
         intro kk hkk hg
         have := (HF.out kk hkk).2
         have := (hG2 kk hg).1
         omega
       · intro x hx
         simp only [World.setCell, Array.size_modify]
         rcases List.mem_append.1 hx with hx | hx
         · have := HF.out x hx; have := hb2.size; omega
         · have := hG2 x hx; omega
       · simpa using s1
     case measure => simp [intOf]; omega
   · obtain rfl : k = n := by omega
     have hlk : l.take k = l := List.take_of_length_le (by rw [Hn.out]; exact Nat.le_refl _)
     rw [hlk] at hL
     rw [Nat.sub_self, List.replicate_zero, List.flatten_nil, List.append_nil] at hown
     clear hlk
     go_wp2
     go_ret
     refine ⟨⟨_, _, rfl, ?_⟩, hb⟩
     have hlen : l.length = k := Hn.out
     subst hlen
     exact Own.slice (c := cEdg) hL hown (fun x hx => by have := hF x hx; omega) (by unfold maxLen; omega)
set_option maxHeartbeats 1600000 in
theorem eqConflictEdgeS_c {a0 a0' : Option Addr} {cap0 cap0' : Nat} {l m : List Edg} {w : World} (h : At (cSlice cEdg) w l [.slice a0 l.length cap0]) (h' : At (cSlice cEdg) w m [.slice a0' m.length cap0']) :
   Calls Tryz.prog 22 #[.slice a0 l.length cap0, .slice a0' m.length cap0'] w fun e w' => e = .returned (.bool (decide (l = m))) ∧ Below w.heap.size w w' := by
 have hm := (slice_len h).2
 have hm' := (slice_len h').2
 unfold maxLen at hm hm'
 by_cases hne : l.length = m.length
 · obtain ⟨n, hn⟩ : ∃ n : Nat, l.length = n := ⟨_, rfl⟩
   have Hr : Hid (∀ w' : World, Below w.heap.size w w' → ∀ j (hj : j < l.length), _) := fun w' hb j hj => at_ConflictEdge (Cod.ok_below h hb) j hj
   have Hr' : Hid (∀ w' : World, Below w.heap.size w w' → ∀ j (hj : j < m.length), _) := fun w' hb j hj => at_ConflictEdge (Cod.ok_below h' hb) j hj
   clear h h'
   rw [← hne, hn]
   have Hn := Lib.hid hn
   have Hm : Hid (m.length = n) := by rw [← hne]; exact hn
   have hm2 : n ≤ 2 ^ 63 - 1 := by omega
   generalize hR : decide (l = m) = R
   have HR : Hid (decide (l.drop 0 = m.drop 0) = R) := hR
   clear hR hne hn hm hm'
   go_enter Tryz.func22, Tryz.ntmps22
   go_wp2
   go_loopw [5] (fun iv wr => ∃ k : Nat, k ≤ n ∧ iv = .int .i64 k ∧ Hid (decide (l.drop k = m.drop k) = R) ∧ Below w.heap.size w wr) (fun iv _ => n - (intOf iv).toNat)
   case atStart => exact ⟨0, by omega, by go_num, HR, Below.refl _ _⟩
   case round =>
     clear HR
     obtain ⟨k, hk, rfl, Hq, hb⟩ := hrel
     by_cases hlt : k < n
     · have hkl : k < l.length := by rw [Hn.out]; exact hlt
       have hkm : k < m.length := by rw [Hm.out]; exact hlt
       have Hst : Hid (R = (decide (l[k] = m[k]) && decide (l.drop (k + 1) = m.drop (k + 1)))) := by
         show R = _
         rw [← Hq.out, ← Bool.decide_and]; congr 1; rw [List.drop_eq_getElem_cons hkl, List.drop_eq_getElem_cons hkm, List.cons.injEq]
       obtain ⟨b, off, rfl, hbB, c0, c1, hx⟩ := Hr.out _ hb k hkl
       obtain ⟨b', off', rfl, hbB', e0, e1, hy⟩ := Hr'.out _ hb k hkm
       have Hc : Hid (∀ ww, Below w.heap.size wr ww → Calls Tryz.prog 47 #[.agg #[.int .i64 l[k].a, .int .i64 l[k].b], .agg #[.int .i64 m[k].a, .int .i64 m[k].b]] ww fun e w' => e = .returned (.bool (decide (l[k] = m[k]))) ∧ Below ww.heap.size ww w') :=
         fun ww hw2 => eqConflictEdge_c (cEdg.keep hx (fun k hk => hw2.block k hk) (Nat.le_trans hb.size hw2.size)) (cEdg.keep hy (fun k hk => hw2.block k hk) (Nat.le_trans hb.size hw2.size))
       clear hx hy Hq
       generalize l[k] = r at *
       generalize m[k] = r' at *
       generalize decide (r = r') = z at *
       cases z with
       | true =>
         go_wp2_with fail
         go_region_with (go_at_call 47; refine (Hc.out _ ?hww).mono ?_; (case hww => first | exact Below.refl _ _ | exact (Below.refl _ _).drew | exact Below.drewN' (Below.refl _ _) _); rintro e w1 ⟨rfl, hb1⟩)
         all_goals
           go_wp2
           go_roundw
           case rel =>
             have h := Hst.out
             rw [Bool.true_and] at h
             exact ⟨k + 1, by omega, by go_num, h.symm, hb.drew.trans (hb1.mono hb.size)⟩
           case measure => simp [intOf]; omega
       | false =>
         have hR : R = false := by have h := Hst.out; rw [Bool.false_and] at h; exact h
         go_wp2_with fail
         go_region_with (go_at_call 47; refine (Hc.out _ ?hww).mono ?_; (case hww => first | exact Below.refl _ _ | exact (Below.refl _ _).drew | exact Below.drewN' (Below.refl _ _) _); rintro e w1 ⟨rfl, hb1⟩)
         all_goals
           go_wp2
           go_ret
           exact ⟨by rw [hR]; rfl, hb.drew.trans (hb1.mono hb.size)⟩
     · obtain rfl : k = n := by omega
       have hR : R = true := by
         have := Hq.out
         rw [List.drop_eq_nil_of_le (by rw [Hn.out]; exact Nat.le_refl _), List.drop_eq_nil_of_le (by rw [Hm.out]; exact Nat.le_refl _)] at this
         simpa using this.symm
       go_wp2
       go_ret
       exact ⟨by rw [hR]; rfl, hb⟩
 · rw [decide_eq_false (fun e => hne (by rw [e]))]
   have hne2 : (l.length != m.length) = true := by simpa using hne
   go_enter Tryz.func22, Tryz.ntmps22
   go_wp2
   go_ret
   exact ⟨rfl, Below.refl _ _⟩
def sumAtom (l : List Atm) : Nat := (l.map fun x => x.terms.length).sum
def sizeAtomS (l : List Atm) : Nat := l.length + sumAtom l
open Go.RowKit
structure Qry where
 vars : Int
 atoms : List Atm
 free : List Int
deriving DecidableEq
def cQry : Cod Qry := cMap (fun x => (x.vars, (x.atoms, x.free))) (cPair cInt (cPair (cSlice cAtm) (cSlice cInt)))
def sizeQuery (x : Qry) : Nat := sizeAtomS x.atoms + (x.free.length)
end

section
/- RowTwo: RowT RowU. -/
/- The readings of the laws' own types, as a row reads them. -/
open Go.RowKit Go.Deep
theorem Tryz.cells_int : Tryz.prog.cellsOf 3 = 1 := by kernel_rfl
section
variable {H : Type} {enc : TypeId × Value → H} {w : World} {base : Nat} {spare : Nat → Bool} {held : Bool}
theorem rd_intS {fuel : Nat} {cs : List Value} {x : DataW H × List MemPlace} (h : DataW.trod enc Tryz.prog w base spare held fuel 55 cs = some x) : ∃ y, (cSlice cInt).ok w.heap.size w y cs := rd_slice Tryz.underlying55 Tryz.cells_int (by decide) (fun _ _ _ h => rd_int Tryz.underlying3 h) h
theorem Tryz.cells_ints : Tryz.prog.cellsOf 55 = 1 := by kernel_rfl
theorem Tryz.cells_str : Tryz.prog.cellsOf 9 = 1 := by kernel_rfl
theorem Tryz.cells_Relation : Tryz.prog.cellsOf 82 = 3 := by kernel_rfl
theorem rd_Relation {fuel : Nat} {cs : List Value} {x : DataW H × List MemPlace} (h : DataW.trod enc Tryz.prog w base spare held fuel 82 cs = some x) : ∃ y, cRel.ok w.heap.size w y cs := by
 obtain ⟨xs, n, _, rfl, hl, hlen, hf⟩ := DataW.trod_struct Tryz.underlying82 h
 rw [Tryz.cells_Relation] at hl
 have h0 := hf 0 _ rfl
 rw [List.getElem?_eq_getElem (by rw [hlen]; decide)] at h0
 have h1 := hf 1 _ rfl
 rw [List.getElem?_eq_getElem (by rw [hlen]; decide)] at h1
 have h2 := hf 2 _ rfl
 rw [List.getElem?_eq_getElem (by rw [hlen]; decide)] at h2
 match cs, hl with
 | [v0, v1, v2], _ =>
   simp only [Tryz.cells_str, Tryz.cells_int, List.getElem_toArray, List.getElem_cons_zero, List.getElem_cons_succ, List.drop_zero, List.drop_succ_cons, List.take_succ_cons, List.take_zero] at h0 h1 h2
   obtain ⟨y0, k0⟩ := rd_string Tryz.underlying9 h0
   obtain ⟨y1, k1⟩ := rd_int Tryz.underlying3 h1
   obtain ⟨y2, k2⟩ := rd_int Tryz.underlying3 h2
   exact ⟨⟨y0, y1, y2⟩, [_], _, rfl, k0, [_], _, rfl, k1, k2⟩
theorem rd_RelationS {fuel : Nat} {cs : List Value} {x : DataW H × List MemPlace} (h : DataW.trod enc Tryz.prog w base spare held fuel 22 cs = some x) : ∃ y, (cSlice cRel).ok w.heap.size w y cs := rd_slice Tryz.underlying22 Tryz.cells_Relation (by decide) (fun _ _ _ h => rd_Relation h) h
theorem Tryz.cells_RelationS : Tryz.prog.cellsOf 22 = 1 := by kernel_rfl
theorem Tryz.cells_Fact : Tryz.prog.cellsOf 85 = 2 := by kernel_rfl
theorem rd_Fact {fuel : Nat} {cs : List Value} {x : DataW H × List MemPlace} (h : DataW.trod enc Tryz.prog w base spare held fuel 85 cs = some x) : ∃ y, cFct.ok w.heap.size w y cs := by
 obtain ⟨xs, n, _, rfl, hl, hlen, hf⟩ := DataW.trod_struct Tryz.underlying85 h
 rw [Tryz.cells_Fact] at hl
 have h0 := hf 0 _ rfl
 rw [List.getElem?_eq_getElem (by rw [hlen]; decide)] at h0
 have h1 := hf 1 _ rfl
 rw [List.getElem?_eq_getElem (by rw [hlen]; decide)] at h1
 match cs, hl with
 | [v0, v1], _ =>
   simp only [Tryz.cells_int, Tryz.cells_ints, List.getElem_toArray, List.getElem_cons_zero, List.getElem_cons_succ, List.drop_zero, List.drop_succ_cons, List.take_succ_cons, List.take_zero] at h0 h1
   obtain ⟨y0, k0⟩ := rd_int Tryz.underlying3 h0
   obtain ⟨y1, k1⟩ := rd_intS h1
   exact ⟨⟨y0, y1⟩, [_], _, rfl, k0, k1⟩
theorem rd_FactS {fuel : Nat} {cs : List Value} {x : DataW H × List MemPlace} (h : DataW.trod enc Tryz.prog w base spare held fuel 23 cs = some x) : ∃ y, (cSlice cFct).ok w.heap.size w y cs := rd_slice Tryz.underlying23 Tryz.cells_Fact (by decide) (fun _ _ _ h => rd_Fact h) h
theorem Tryz.cells_FactS : Tryz.prog.cellsOf 23 = 1 := by kernel_rfl
theorem Tryz.cells_Database : Tryz.prog.cellsOf 25 = 2 := by kernel_rfl
theorem rd_Database {fuel : Nat} {cs : List Value} {x : DataW H × List MemPlace} (h : DataW.trod enc Tryz.prog w base spare held fuel 25 cs = some x) : ∃ y, cDbs.ok w.heap.size w y cs := by
 obtain ⟨xs, n, _, rfl, hl, hlen, hf⟩ := DataW.trod_struct Tryz.underlying25 h
 rw [Tryz.cells_Database] at hl
 have h0 := hf 0 _ rfl
 rw [List.getElem?_eq_getElem (by rw [hlen]; decide)] at h0
 have h1 := hf 1 _ rfl
 rw [List.getElem?_eq_getElem (by rw [hlen]; decide)] at h1
 match cs, hl with
 | [v0, v1], _ =>
   simp only [Tryz.cells_RelationS, Tryz.cells_FactS, List.getElem_toArray, List.getElem_cons_zero, List.getElem_cons_succ, List.drop_zero, List.drop_succ_cons, List.take_succ_cons, List.take_zero] at h0 h1
   obtain ⟨y0, k0⟩ := rd_RelationS h0
   obtain ⟨y1, k1⟩ := rd_FactS h1
   exact ⟨⟨y0, y1⟩, [_], _, rfl, k0, k1⟩
theorem row_Database {r0 : Reach} {b0 : Nat} {v : Value} {d : DataW H} {ps : List MemPlace} (hval : Value.okWide Tryz.prog w r0 b0 25 v) (h : DataW.Trod enc Tryz.prog w base spare held 25 v d ps) : ∃ x a0 cap0 a1 cap1, v = .agg #[.slice a0 x.rels.length cap0, .slice a1 x.facts.length cap1] ∧ At cDbs w x [.slice a0 x.rels.length cap0, .slice a1 x.facts.length cap1] := by
 obtain ⟨x, cs, rfl, hx⟩ := row_struct Tryz.underlying25 (fun _ _ _ h => rd_Database h) hval h
 obtain ⟨a0, cap0, a1, cap1, rfl, h2⟩ := cDbs_open hx
 exact ⟨x, a0, cap0, a1, cap1, rfl, h2⟩
end
/- The readings of the laws' own types, as a row reads them: constraints, edges, atoms, queries. -/
open Go.RowKit Go.Deep
section
variable {H : Type} {enc : TypeId × Value → H} {w : World} {base : Nat} {spare : Nat → Bool} {held : Bool}
theorem Tryz.cells_DenialConstraint : Tryz.prog.cellsOf 61 = 7 := by kernel_rfl
theorem rd_DenialConstraint {fuel : Nat} {cs : List Value} {x : DataW H × List MemPlace} (h : DataW.trod enc Tryz.prog w base spare held fuel 61 cs = some x) : ∃ y, cDcn.ok w.heap.size w y cs := by
 obtain ⟨xs, n, _, rfl, hl, hlen, hf⟩ := DataW.trod_struct Tryz.underlying61 h
 rw [Tryz.cells_DenialConstraint] at hl
 have h0 := hf 0 _ rfl
 rw [List.getElem?_eq_getElem (by rw [hlen]; decide)] at h0
 have h1 := hf 1 _ rfl
 rw [List.getElem?_eq_getElem (by rw [hlen]; decide)] at h1
 have h2 := hf 2 _ rfl
 rw [List.getElem?_eq_getElem (by rw [hlen]; decide)] at h2
 have h3 := hf 3 _ rfl
 rw [List.getElem?_eq_getElem (by rw [hlen]; decide)] at h3
 have h4 := hf 4 _ rfl
 rw [List.getElem?_eq_getElem (by rw [hlen]; decide)] at h4
 have h5 := hf 5 _ rfl
 rw [List.getElem?_eq_getElem (by rw [hlen]; decide)] at h5
 have h6 := hf 6 _ rfl
 rw [List.getElem?_eq_getElem (by rw [hlen]; decide)] at h6
 match cs, hl with
 | [v0, v1, v2, v3, v4, v5, v6], _ =>
   simp only [Tryz.cells_int, List.getElem_toArray, List.getElem_cons_zero, List.getElem_cons_succ, List.drop_zero, List.drop_succ_cons, List.take_succ_cons, List.take_zero] at h0 h1 h2 h3 h4 h5 h6
   obtain ⟨y0, k0⟩ := rd_int Tryz.underlying3 h0
   obtain ⟨y1, k1⟩ := rd_int Tryz.underlying3 h1
   obtain ⟨y2, k2⟩ := rd_int Tryz.underlying3 h2
   obtain ⟨y3, k3⟩ := rd_int Tryz.underlying3 h3
   obtain ⟨y4, k4⟩ := rd_int Tryz.underlying3 h4
   obtain ⟨y5, k5⟩ := rd_int Tryz.underlying3 h5
   obtain ⟨y6, k6⟩ := rd_int Tryz.underlying3 h6
   exact ⟨⟨y0, y1, y2, y3, y4, y5, y6⟩, [_], _, rfl, k0, [_], _, rfl, k1, [_], _, rfl, k2, [_], _, rfl, k3, [_], _, rfl, k4, [_], _, rfl, k5, k6⟩
theorem Tryz.cells_ConflictEdge : Tryz.prog.cellsOf 77 = 2 := by kernel_rfl
theorem rd_ConflictEdge {fuel : Nat} {cs : List Value} {x : DataW H × List MemPlace} (h : DataW.trod enc Tryz.prog w base spare held fuel 77 cs = some x) : ∃ y, cEdg.ok w.heap.size w y cs := by
 obtain ⟨xs, n, _, rfl, hl, hlen, hf⟩ := DataW.trod_struct Tryz.underlying77 h
 rw [Tryz.cells_ConflictEdge] at hl
 have h0 := hf 0 _ rfl
 rw [List.getElem?_eq_getElem (by rw [hlen]; decide)] at h0
 have h1 := hf 1 _ rfl
 rw [List.getElem?_eq_getElem (by rw [hlen]; decide)] at h1
 match cs, hl with
 | [v0, v1], _ =>
   simp only [Tryz.cells_int, List.getElem_toArray, List.getElem_cons_zero, List.getElem_cons_succ, List.drop_zero, List.drop_succ_cons, List.take_succ_cons, List.take_zero] at h0 h1
   obtain ⟨y0, k0⟩ := rd_int Tryz.underlying3 h0
   obtain ⟨y1, k1⟩ := rd_int Tryz.underlying3 h1
   exact ⟨⟨y0, y1⟩, [_], _, rfl, k0, k1⟩
theorem row_ConflictEdgeS {r0 : Reach} {b0 : Nat} {v : Value} {d : DataW H} {ps : List MemPlace} (hval : Value.okWide Tryz.prog w r0 b0 45 v) (h : DataW.Trod enc Tryz.prog w base spare held 45 v d ps) : ∃ a cap l, v = .slice a l.length cap ∧ At (cSlice cEdg) w l [.slice a l.length cap] := row_slice Tryz.underlying45 Tryz.cells_ConflictEdge (by decide) (fun _ _ _ h => rd_ConflictEdge h) hval h
end
end

section
/- The readings of the laws' own types, as a row reads them: constraints in a slice. -/
open Go.RowKit Go.Deep
section
variable {H : Type} {enc : TypeId × Value → H} {w : World} {base : Nat} {spare : Nat → Bool} {held : Bool}
theorem row_DenialConstraintS {r0 : Reach} {b0 : Nat} {v : Value} {d : DataW H} {ps : List MemPlace} (hval : Value.okWide Tryz.prog w r0 b0 26 v) (h : DataW.Trod enc Tryz.prog w base spare held 26 v d ps) : ∃ a cap l, v = .slice a l.length cap ∧ At (cSlice cDcn) w l [.slice a l.length cap] := row_slice Tryz.underlying26 Tryz.cells_DenialConstraint (by decide) (fun _ _ _ h => rd_DenialConstraint h) hval h
end
end

section
/- Structs: readings, the laws' helpers on them (size, copy, equality). -/
open Go.RowKit
theorem eqDenialConstraint_c {x y : Dcn} {w : World} (h : At cDcn w x [.int .i64 x.r1, .int .i64 x.r2, .int .i64 x.j1, .int .i64 x.j2, .int .i64 x.c1, .int .i64 x.c2, .int .i64 x.cmp]) (h' : At cDcn w y [.int .i64 y.r1, .int .i64 y.r2, .int .i64 y.j1, .int .i64 y.j2, .int .i64 y.c1, .int .i64 y.c2, .int .i64 y.cmp]) :
   Calls Tryz.prog 36 #[.agg #[.int .i64 x.r1, .int .i64 x.r2, .int .i64 x.j1, .int .i64 x.j2, .int .i64 x.c1, .int .i64 x.c2, .int .i64 x.cmp], .agg #[.int .i64 y.r1, .int .i64 y.r2, .int .i64 y.j1, .int .i64 y.j2, .int .i64 y.c1, .int .i64 y.c2, .int .i64 y.cmp]] w fun e w' => e = .returned (.bool (decide (x = y))) ∧ Below w.heap.size w w' := by
 clear h h'
 obtain ⟨r1, r2, j1, j2, c1, c2, cmp⟩ := x
 obtain ⟨r1', r2', j1', j2', c1', c2', cmp'⟩ := y
 have he : decide (Dcn.mk r1 r2 j1 j2 c1 c2 cmp = Dcn.mk r1' r2' j1' j2' c1' c2' cmp') = (decide (r1 = r1') && (decide (r2 = r2') && (decide (j1 = j1') && (decide (j2 = j2') && (decide (c1 = c1') && (decide (c2 = c2') && decide (cmp = cmp'))))))) := by
   simp only [← Bool.decide_and]; congr 1; rw [Dcn.mk.injEq]
 rw [he]
 clear he
 simp only at *
 by_cases hr0 : r1 = r1'
 · subst hr0
   rw [decide_eq_true rfl, Bool.true_and]
   by_cases hr1 : r2 = r2'
   · subst hr1
     rw [decide_eq_true rfl, Bool.true_and]
     by_cases hr2 : j1 = j1'
     · subst hr2
       rw [decide_eq_true rfl, Bool.true_and]
       by_cases hr3 : j2 = j2'
       · subst hr3
         rw [decide_eq_true rfl, Bool.true_and]
         by_cases hr4 : c1 = c1'
         · subst hr4
           rw [decide_eq_true rfl, Bool.true_and]
           by_cases hr5 : c2 = c2'
           · subst hr5
             rw [decide_eq_true rfl, Bool.true_and]
             by_cases hr6 : cmp = cmp'
             · subst hr6
               rw [decide_eq_true rfl]
               go_enter Tryz.func36, Tryz.ntmps36
               go_wp2
               go_ret
               exact ⟨by simp, by go_grown⟩
             · have hn6 : (cmp != cmp') = true := by simp [hr6]
               rw [decide_eq_false hr6]
               go_enter Tryz.func36, Tryz.ntmps36
               go_wp2
               go_ret
               exact ⟨by simp, by go_grown⟩
           · have hn5 : (c2 != c2') = true := by simp [hr5]
             rw [decide_eq_false hr5, Bool.false_and]
             go_enter Tryz.func36, Tryz.ntmps36
             go_wp2
             go_ret
             exact ⟨by simp, by go_grown⟩
         · have hn4 : (c1 != c1') = true := by simp [hr4]
           rw [decide_eq_false hr4, Bool.false_and]
           go_enter Tryz.func36, Tryz.ntmps36
           go_wp2
           go_ret
           exact ⟨by simp, by go_grown⟩
       · have hn3 : (j2 != j2') = true := by simp [hr3]
         rw [decide_eq_false hr3, Bool.false_and]
         go_enter Tryz.func36, Tryz.ntmps36
         go_wp2
         go_ret
         exact ⟨by simp, by go_grown⟩
     · have hn2 : (j1 != j1') = true := by simp [hr2]
       rw [decide_eq_false hr2, Bool.false_and]
       go_enter Tryz.func36, Tryz.ntmps36
       go_wp2
       go_ret
       exact ⟨by simp, by go_grown⟩
   · have hn1 : (r2 != r2') = true := by simp [hr1]
     rw [decide_eq_false hr1, Bool.false_and]
     go_enter Tryz.func36, Tryz.ntmps36
     go_wp2
     go_ret
     exact ⟨by simp, by go_grown⟩
 · have hn0 : (r1 != r1') = true := by simp [hr0]
   rw [decide_eq_false hr0, Bool.false_and]
   go_enter Tryz.func36, Tryz.ntmps36
   go_wp2
   go_ret
   exact ⟨by simp, by go_grown⟩
end

section
/- Slices of structs: the laws' helpers on them (size, copy, equality). -/
open Go.RowKit
theorem at_DenialConstraint {B : Nat} {w : World} {l : List Dcn} {a0 : Option Addr} {len cap0 : Nat} (h : (cSlice cDcn).ok B w l [.slice a0 len cap0]) (j : Nat) (hj : j < l.length) :
   ∃ b off, a0 = some ⟨b, off, none⟩ ∧ b < B ∧ w.cell? ⟨b, off + j * 7, none⟩ = some (.int .i64 l[j].r1) ∧ w.cell? ⟨b, off + j * 7 + 1, none⟩ = some (.int .i64 l[j].r2) ∧ w.cell? ⟨b, off + j * 7 + 2, none⟩ = some (.int .i64 l[j].j1) ∧ w.cell? ⟨b, off + j * 7 + 3, none⟩ = some (.int .i64 l[j].j2) ∧ w.cell? ⟨b, off + j * 7 + 4, none⟩ = some (.int .i64 l[j].c1) ∧ w.cell? ⟨b, off + j * 7 + 5, none⟩ = some (.int .i64 l[j].c2) ∧ w.cell? ⟨b, off + j * 7 + 6, none⟩ = some (.int .i64 l[j].cmp) ∧ cDcn.ok B w l[j] [.int .i64 l[j].r1, .int .i64 l[j].r2, .int .i64 l[j].j1, .int .i64 l[j].j2, .int .i64 l[j].c1, .int .i64 l[j].c2, .int .i64 l[j].cmp] := by
 obtain ⟨b, off, es, rfl, hb, he, hc⟩ := slice_at h j hj
 obtain ⟨rfl, hx⟩ := cDcn_open he
 exact ⟨b, off, rfl, hb, by exact hc 0 (by decide), by exact hc 1 (by decide), by exact hc 2 (by decide), by exact hc 3 (by decide), by exact hc 4 (by decide), by exact hc 5 (by decide), by exact hc 6 (by decide), hx⟩
theorem szDenialConstraintS_c {a0 : Option Addr} {cap0 : Nat} {l : List Dcn} {left : Int} {w : World} (hl : 0 ≤ left) (hl2 : left ≤ 1048576) (h : At (cSlice cDcn) w l [.slice a0 l.length cap0]) :
   Calls Tryz.prog 6 #[.slice a0 l.length cap0, .int .i64 left] w fun e w' => e = .returned (.int .i64 (szR left l.length)) ∧ Below w.heap.size w w' := by
 have hm := (slice_len h).2
 unfold maxLen at hm
 have hw : wrap64 (left - (l.length : Int)) = left - (l.length : Int) := IntWalk.wrap64_in _ ⟨by omega, by omega⟩
 unfold szR
 by_cases h : left - (l.length : Int) < 0
 · rw [if_pos h]
   go_enter Tryz.func6, Tryz.ntmps6
   go_wp2
   go_ret
   exact ⟨rfl, Below.refl _ _⟩
 · rw [if_neg h]
   go_enter Tryz.func6, Tryz.ntmps6
   go_wp2
   go_ret
   exact ⟨rfl, Below.refl _ _⟩
theorem zDenialConstraint_at (A : List Value) (k n : Nat) (h : A.length = k * 7) (hk : k < n) : (A ++ (List.replicate (n - k) ([.int .i64 0, .int .i64 0, .int .i64 0, .int .i64 0, .int .i64 0, .int .i64 0, .int .i64 0] : List Value)).flatten)[k * 7]? = some (.int .i64 0) ∧ (A ++ (List.replicate (n - k) ([.int .i64 0, .int .i64 0, .int .i64 0, .int .i64 0, .int .i64 0, .int .i64 0, .int .i64 0] : List Value)).flatten)[k * 7 + 1]? = some (.int .i64 0) ∧ (A ++ (List.replicate (n - k) ([.int .i64 0, .int .i64 0, .int .i64 0, .int .i64 0, .int .i64 0, .int .i64 0, .int .i64 0] : List Value)).flatten)[k * 7 + 2]? = some (.int .i64 0) ∧ (A ++ (List.replicate (n - k) ([.int .i64 0, .int .i64 0, .int .i64 0, .int .i64 0, .int .i64 0, .int .i64 0, .int .i64 0] : List Value)).flatten)[k * 7 + 3]? = some (.int .i64 0) ∧ (A ++ (List.replicate (n - k) ([.int .i64 0, .int .i64 0, .int .i64 0, .int .i64 0, .int .i64 0, .int .i64 0, .int .i64 0] : List Value)).flatten)[k * 7 + 4]? = some (.int .i64 0) ∧ (A ++ (List.replicate (n - k) ([.int .i64 0, .int .i64 0, .int .i64 0, .int .i64 0, .int .i64 0, .int .i64 0, .int .i64 0] : List Value)).flatten)[k * 7 + 5]? = some (.int .i64 0) ∧ (A ++ (List.replicate (n - k) ([.int .i64 0, .int .i64 0, .int .i64 0, .int .i64 0, .int .i64 0, .int .i64 0, .int .i64 0] : List Value)).flatten)[k * 7 + 6]? = some (.int .i64 0) := by
 have e1 : n - k = (n - (k + 1)) + 1 := by omega
 rw [e1, List.replicate_succ, List.flatten_cons]
 refine ⟨?_, ?_, ?_, ?_, ?_, ?_, ?_⟩
 · rw [List.getElem?_append_right (by omega)]; simp [h]
 · rw [List.getElem?_append_right (by omega)]; simp [h]
 · rw [List.getElem?_append_right (by omega)]; simp [h]
 · rw [List.getElem?_append_right (by omega)]; simp [h]
 · rw [List.getElem?_append_right (by omega)]; simp [h]
 · rw [List.getElem?_append_right (by omega)]; simp [h]
 · rw [List.getElem?_append_right (by omega)]; simp [h]
theorem zDenialConstraint_step (A : List Value) (k n : Nat) (h : A.length = k * 7) (hk : k < n) (v0 v1 v2 v3 v4 v5 v6 : Value) : (((((((A ++ (List.replicate (n - k) ([.int .i64 0, .int .i64 0, .int .i64 0, .int .i64 0, .int .i64 0, .int .i64 0, .int .i64 0] : List Value)).flatten).set (k * 7) v0).set (k * 7 + 1) v1).set (k * 7 + 2) v2).set (k * 7 + 3) v3).set (k * 7 + 4) v4).set (k * 7 + 5) v5).set (k * 7 + 6) v6 = (A ++ [v0, v1, v2, v3, v4, v5, v6]) ++ (List.replicate (n - (k + 1)) ([.int .i64 0, .int .i64 0, .int .i64 0, .int .i64 0, .int .i64 0, .int .i64 0, .int .i64 0] : List Value)).flatten := by
 have e1 : n - k = (n - (k + 1)) + 1 := by omega
 rw [e1, List.replicate_succ, List.flatten_cons]
 rw [List.set_append_right _ _ (by omega), List.set_append_right _ _ (by omega), List.set_append_right _ _ (by omega), List.set_append_right _ _ (by omega), List.set_append_right _ _ (by omega), List.set_append_right _ _ (by omega), List.set_append_right _ _ (by omega)]
 simp [h]
theorem zDenialConstraint_made (n : Nat) : (madeCells #[.int .i64 0, .int .i64 0, .int .i64 0, .int .i64 0, .int .i64 0, .int .i64 0, .int .i64 0] (n * 7)).toList = (List.replicate n [.int .i64 0, .int .i64 0, .int .i64 0, .int .i64 0, .int .i64 0, .int .i64 0, .int .i64 0]).flatten := by
 induction n with
 | zero => simp [madeCells]
 | succ n ih =>
   rw [List.replicate_succ', List.flatten_append, ← ih]
   unfold madeCells
   simp [Array.range_succ, Array.toList_range, Nat.add_mod, Nat.mul_mod_left, Nat.succ_mul]
theorem Tryz.infoDenialConstraint : (Tryz.prog.info? 59).map (fun i => (i.zero, i.size, i.bytes)) = some (some (.agg #[.int .i64 0, .int .i64 0, .int .i64 0, .int .i64 0, .int .i64 0, .int .i64 0, .int .i64 0]), 7, 56) := by kernel_rfl
set_option maxHeartbeats 1600000 in
theorem toDenialConstraintS_c {a0 : Option Addr} {cap0 : Nat} {l : List Dcn} {w : World} (hs : l.length ≤ 1048576) (h : At (cSlice cDcn) w l [.slice a0 l.length cap0]) :
   Calls Tryz.prog 9 #[.slice a0 l.length cap0] w fun e w' => (∃ a' cap', e = .returned (.slice a' l.length cap') ∧ Own (cSlice cDcn) w.heap.size w' l [.slice a' l.length cap']) ∧ Below w.heap.size w w' := by
 obtain ⟨n, hn⟩ : ∃ n : Nat, l.length = n := ⟨_, rfl⟩
 have Hn := Lib.hid hn
 have Hr : Hid (∀ w' : World, Below w.heap.size w w' → ∀ j (hj : j < l.length), _) := fun w' hb j hj => at_DenialConstraint (Cod.ok_below h hb) j hj
 rw [hn] at hs ⊢
 clear hn h
 obtain ⟨i0, hi, hz0, hz1, hz2⟩ := info_parts Tryz.infoDenialConstraint
 go_enter Tryz.func9, Tryz.ntmps9
 go_wp2_with (at_make; refine wpList_make_full _ rfl (.tmp 6) (.tmp 6) 36 rfl w.heap.size 59 i0 (.agg #[.int .i64 0, .int .i64 0, .int .i64 0, .int .i64 0, .int .i64 0, .int .i64 0, .int .i64 0]) 7 Tryz.underlying36 hi hz0 hz1 .i64 .i64 n n n rfl rfl rfl rfl ?c1 ?c2 (Nat.le_refl _) ?_)
 case c1 => rw [hz2]; omega
 case c2 => unfold maxLen; omega
 intro w1 hown hg1
 rw [show (madeCells #[.int .i64 0, .int .i64 0, .int .i64 0, .int .i64 0, .int .i64 0, .int .i64 0, .int .i64 0] (n * 7)).toList = [].flatten ++ (List.replicate (n - 0) [.int .i64 0, .int .i64 0, .int .i64 0, .int .i64 0, .int .i64 0, .int .i64 0, .int .i64 0]).flatten by rw [zDenialConstraint_made]; simp] at hown
 have hb0 : Below w.heap.size w w1 := (Below.refl _ _).grown hg1 (Nat.le_refl _) (fun k hk => by cases hk)
 clear hg1 hi hz0 hz1 hz2
 go_wp2
 go_loopw [4] (fun iv wr => ∃ (k : Nat) (F : List Nat) (css : List (List Value)), k ≤ n ∧ iv = .int .i64 k ∧ ownL cDcn F wr (l.take k) css ∧ (∀ x, x ∈ F → w.heap.size < x ∧ x < wr.heap.size) ∧ wr.ownsRow w.heap.size 59 7 (.slice (some ⟨w.heap.size, 0, none⟩) n n) n (css.flatten ++ (List.replicate (n - k) [.int .i64 0, .int .i64 0, .int .i64 0, .int .i64 0, .int .i64 0, .int .i64 0, .int .i64 0]).flatten) ∧ Below w.heap.size w wr) (fun iv _ => n - (intOf iv).toNat)
 case atStart => exact ⟨0, [], [], by omega, by go_num, ownL_nil _, by simp, hown, hb0⟩
 case round =>
   clear hown hb0
   obtain ⟨k, F, css, hk, rfl, hL, hF, hown, hb⟩ := hrel
   by_cases hlt : k < n
   · have hkl : k < l.length := by rw [Hn.out]; exact hlt
     obtain ⟨b, off, rfl, hbB, c0, c1, c2, c3, c4, c5, c6, hx⟩ := Hr.out _ hb k hkl
     have Hc : Hid (∀ ww, Below w.heap.size wr ww → Calls Tryz.prog 29 #[.agg #[.int .i64 l[k].r1, .int .i64 l[k].r2, .int .i64 l[k].j1, .int .i64 l[k].j2, .int .i64 l[k].c1, .int .i64 l[k].c2, .int .i64 l[k].cmp]] ww fun e w' => (e = .returned (.agg #[.int .i64 l[k].r1, .int .i64 l[k].r2, .int .i64 l[k].j1, .int .i64 l[k].j2, .int .i64 l[k].c1, .int .i64 l[k].c2, .int .i64 l[k].cmp]) ∧ Own cDcn ww.heap.size w' l[k] [.int .i64 l[k].r1, .int .i64 l[k].r2, .int .i64 l[k].j1, .int .i64 l[k].j2, .int .i64 l[k].c1, .int .i64 l[k].c2, .int .i64 l[k].cmp]) ∧ Below ww.heap.size ww w') :=
       fun ww hw2 => toDenialConstraint_c (cDcn.keep hx (fun k hk => hw2.block k hk) (Nat.le_trans hb.size hw2.size))
     have hlen : css.flatten.length = k * 7 := by
       have := (ownL_len hL).2
       rw [List.length_take, Nat.min_eq_left (by omega)] at this
       exact this
     have Hat := Lib.hid (zDenialConstraint_at css.flatten k n hlen hlt)
     have Hstep := Lib.hid (zDenialConstraint_step css.flatten k n hlen hlt)
     have Htake : Hid (l.take (k + 1) = l.take k ++ [l[k]]) := List.take_succ_eq_append_getElem hkl
     have HL := Lib.hid hL
     have HF := Lib.hid hF
     have Hown := Lib.hid hown
     clear hx hL hF hlen hown
     generalize l[k] = r at *
     go_wp2_with fail
     refine (Hc.out _ (Below.refl _ _)).mono ?_
     rintro e w2 ⟨⟨rfl, ho⟩, hb2⟩
     have hown2 := ownsRow_below Hown.out hb2
     have Hown2 := Lib.hid hown2
     have hgw : w.heap.size < wr.heap.size := (Hown.out.lt _ rfl).2
     have f0 := hown2.frozenAt (k * 7)
     have d0 := (hown2.cellAt (k * 7) (by omega)).trans Hat.out.1
     have f1 := hown2.frozenAt (k * 7 + 1)
     have d1 := (hown2.cellAt (k * 7 + 1) (by omega)).trans Hat.out.2.1
     have f2 := hown2.frozenAt (k * 7 + 2)
     have d2 := (hown2.cellAt (k * 7 + 2) (by omega)).trans Hat.out.2.2.1
     have f3 := hown2.frozenAt (k * 7 + 3)
     have d3 := (hown2.cellAt (k * 7 + 3) (by omega)).trans Hat.out.2.2.2.1
     have f4 := hown2.frozenAt (k * 7 + 4)
     have d4 := (hown2.cellAt (k * 7 + 4) (by omega)).trans Hat.out.2.2.2.2.1
     have f5 := hown2.frozenAt (k * 7 + 5)
     have d5 := (hown2.cellAt (k * 7 + 5) (by omega)).trans Hat.out.2.2.2.2.2.1
     have f6 := hown2.frozenAt (k * 7 + 6)
     have d6 := (hown2.cellAt (k * 7 + 6) (by omega)).trans Hat.out.2.2.2.2.2.2
     have Ho := Lib.hid ho
     have hbw : Below w.heap.size w w2 := hb.trans (hb2.mono hb.size)
     clear ho hown2
     go_wp2
     go_roundw
     case rel =>
       obtain ⟨G, hG1, hG2⟩ := Ho.out
       have hown2 := Hown2.out
       have s0 := (hown2.stored (k * 7) (.int .i64 r.r1)).1
       have s1 := (s0.stored (k * 7 + 1) (.int .i64 r.r2)).1
       have s2 := (s1.stored (k * 7 + 2) (.int .i64 r.j1)).1
       have s3 := (s2.stored (k * 7 + 3) (.int .i64 r.j2)).1
       have s4 := (s3.stored (k * 7 + 4) (.int .i64 r.c1)).1
       have s5 := (s4.stored (k * 7 + 5) (.int .i64 r.c2)).1
       have s6 := (s5.stored (k * 7 + 6) (.int .i64 r.cmp)).1
       rw [Hstep.out] at s6
       have hkeep : ∀ kk, kk ≠ w.heap.size → (((((((w2.setCell ⟨w.heap.size, k * 7, none⟩ (.int .i64 r.r1)).setCell ⟨w.heap.size, k * 7 + 1, none⟩ (.int .i64 r.r2)).setCell ⟨w.heap.size, k * 7 + 2, none⟩ (.int .i64 r.j1)).setCell ⟨w.heap.size, k * 7 + 3, none⟩ (.int .i64 r.j2)).setCell ⟨w.heap.size, k * 7 + 4, none⟩ (.int .i64 r.c1)).setCell ⟨w.heap.size, k * 7 + 5, none⟩ (.int .i64 r.c2)).setCell ⟨w.heap.size, k * 7 + 6, none⟩ (.int .i64 r.cmp)).heap[kk]? = w2.heap[kk]? := fun kk hne => (heap_setCell_other _ ⟨w.heap.size, k * 7 + 6, none⟩ _ _ hne).trans ((heap_setCell_other _ ⟨w.heap.size, k * 7 + 5, none⟩ _ _ hne).trans ((heap_setCell_other _ ⟨w.heap.size, k * 7 + 4, none⟩ _ _ hne).trans ((heap_setCell_other _ ⟨w.heap.size, k * 7 + 3, none⟩ _ _ hne).trans ((heap_setCell_other _ ⟨w.heap.size, k * 7 + 2, none⟩ _ _ hne).trans ((heap_setCell_other _ ⟨w.heap.size, k * 7 + 1, none⟩ _ _ hne).trans ((heap_setCell_other _ ⟨w.heap.size, k * 7, none⟩ _ _ hne).trans (rfl)))))))
       refine ⟨k + 1, F ++ G, css ++ [[.int .i64 r.r1, .int .i64 r.r2, .int .i64 r.j1, .int .i64 r.j2, .int .i64 r.c1, .int .i64 r.c2, .int .i64 r.cmp]], by omega, by go_num, ?_, ?_, ?_, (((((((hbw).setCell (Nat.le_refl _) _).setCell (Nat.le_refl _) _).setCell (Nat.le_refl _) _).setCell (Nat.le_refl _) _).setCell (Nat.le_refl _) _).setCell (Nat.le_refl _) _).setCell (Nat.le_refl _) _⟩
       · rw [Htake.out]
         refine ownL_snoc (cDcn.keepO hG1 (fun kk hkk => hkeep kk (by have := (hG2 kk hkk).1; omega))) (ownL_keep (ownL_below HL.out hb2 (fun kk hkk => (HF.out kk hkk).2)) (fun kk hkk => hkeep kk (by have := (HF.out kk hkk).1; omega))) ?_
         intro kk hkk hg
         have := (HF.out kk hkk).2
         have := (hG2 kk hg).1
         omega
       · intro x hx
         simp only [World.setCell, Array.size_modify]
         rcases List.mem_append.1 hx with hx | hx
         · have := HF.out x hx; have := hb2.size; omega
         · have := hG2 x hx; omega
       · simpa using s6
     case measure => simp [intOf]; omega
   · obtain rfl : k = n := by omega
     have hlk : l.take k = l := List.take_of_length_le (by rw [Hn.out]; exact Nat.le_refl _)
     rw [hlk] at hL
     rw [Nat.sub_self, List.replicate_zero, List.flatten_nil, List.append_nil] at hown
     clear hlk
     go_wp2
     go_ret
     refine ⟨⟨_, _, rfl, ?_⟩, hb⟩
     have hlen : l.length = k := Hn.out
     subst hlen
     exact Own.slice (c := cDcn) hL hown (fun x hx => by have := hF x hx; omega) (by unfold maxLen; omega)
set_option maxHeartbeats 1600000 in
theorem eqDenialConstraintS_c {a0 a0' : Option Addr} {cap0 cap0' : Nat} {l m : List Dcn} {w : World} (h : At (cSlice cDcn) w l [.slice a0 l.length cap0]) (h' : At (cSlice cDcn) w m [.slice a0' m.length cap0']) :
   Calls Tryz.prog 13 #[.slice a0 l.length cap0, .slice a0' m.length cap0'] w fun e w' => e = .returned (.bool (decide (l = m))) ∧ Below w.heap.size w w' := by
 have hm := (slice_len h).2
 have hm' := (slice_len h').2
 unfold maxLen at hm hm'
 by_cases hne : l.length = m.length
 · obtain ⟨n, hn⟩ : ∃ n : Nat, l.length = n := ⟨_, rfl⟩
   have Hr : Hid (∀ w' : World, Below w.heap.size w w' → ∀ j (hj : j < l.length), _) := fun w' hb j hj => at_DenialConstraint (Cod.ok_below h hb) j hj
   have Hr' : Hid (∀ w' : World, Below w.heap.size w w' → ∀ j (hj : j < m.length), _) := fun w' hb j hj => at_DenialConstraint (Cod.ok_below h' hb) j hj
   clear h h'
   rw [← hne, hn]
   have Hn := Lib.hid hn
   have Hm : Hid (m.length = n) := by rw [← hne]; exact hn
   have hm2 : n ≤ 2 ^ 63 - 1 := by omega
   generalize hR : decide (l = m) = R
   have HR : Hid (decide (l.drop 0 = m.drop 0) = R) := hR
   clear hR hne hn hm hm'
   go_enter Tryz.func13, Tryz.ntmps13
   go_wp2
   go_loopw [5] (fun iv wr => ∃ k : Nat, k ≤ n ∧ iv = .int .i64 k ∧ Hid (decide (l.drop k = m.drop k) = R) ∧ Below w.heap.size w wr) (fun iv _ => n - (intOf iv).toNat)
   case atStart => exact ⟨0, by omega, by go_num, HR, Below.refl _ _⟩
   case round =>
     clear HR
     obtain ⟨k, hk, rfl, Hq, hb⟩ := hrel
     by_cases hlt : k < n
     · have hkl : k < l.length := by rw [Hn.out]; exact hlt
       have hkm : k < m.length := by rw [Hm.out]; exact hlt
       have Hst : Hid (R = (decide (l[k] = m[k]) && decide (l.drop (k + 1) = m.drop (k + 1)))) := by
         show R = _
         rw [← Hq.out, ← Bool.decide_and]; congr 1; rw [List.drop_eq_getElem_cons hkl, List.drop_eq_getElem_cons hkm, List.cons.injEq]
       obtain ⟨b, off, rfl, hbB, c0, c1, c2, c3, c4, c5, c6, hx⟩ := Hr.out _ hb k hkl
       obtain ⟨b', off', rfl, hbB', e0, e1, e2, e3, e4, e5, e6, hy⟩ := Hr'.out _ hb k hkm
       have Hc : Hid (∀ ww, Below w.heap.size wr ww → Calls Tryz.prog 36 #[.agg #[.int .i64 l[k].r1, .int .i64 l[k].r2, .int .i64 l[k].j1, .int .i64 l[k].j2, .int .i64 l[k].c1, .int .i64 l[k].c2, .int .i64 l[k].cmp], .agg #[.int .i64 m[k].r1, .int .i64 m[k].r2, .int .i64 m[k].j1, .int .i64 m[k].j2, .int .i64 m[k].c1, .int .i64 m[k].c2, .int .i64 m[k].cmp]] ww fun e w' => e = .returned (.bool (decide (l[k] = m[k]))) ∧ Below ww.heap.size ww w') :=
         fun ww hw2 => eqDenialConstraint_c (cDcn.keep hx (fun k hk => hw2.block k hk) (Nat.le_trans hb.size hw2.size)) (cDcn.keep hy (fun k hk => hw2.block k hk) (Nat.le_trans hb.size hw2.size))
       clear hx hy Hq
       generalize l[k] = r at *
       generalize m[k] = r' at *
       generalize decide (r = r') = z at *
       cases z with
       | true =>
         go_wp2_with fail
         go_region_with (go_at_call 36; refine (Hc.out _ ?hww).mono ?_; (case hww => first | exact Below.refl _ _ | exact (Below.refl _ _).drew | exact Below.drewN' (Below.refl _ _) _); rintro e w1 ⟨rfl, hb1⟩)
         all_goals
           go_wp2
           go_roundw
           case rel =>
             have h := Hst.out
             rw [Bool.true_and] at h
             exact ⟨k + 1, by omega, by go_num, h.symm, hb.drew.trans (hb1.mono hb.size)⟩
           case measure => simp [intOf]; omega
       | false =>
         have hR : R = false := by have h := Hst.out; rw [Bool.false_and] at h; exact h
         go_wp2_with fail
         go_region_with (go_at_call 36; refine (Hc.out _ ?hww).mono ?_; (case hww => first | exact Below.refl _ _ | exact (Below.refl _ _).drew | exact Below.drewN' (Below.refl _ _) _); rintro e w1 ⟨rfl, hb1⟩)
         all_goals
           go_wp2
           go_ret
           exact ⟨by rw [hR]; rfl, hb.drew.trans (hb1.mono hb.size)⟩
     · obtain rfl : k = n := by omega
       have hR : R = true := by
         have := Hq.out
         rw [List.drop_eq_nil_of_le (by rw [Hn.out]; exact Nat.le_refl _), List.drop_eq_nil_of_le (by rw [Hm.out]; exact Nat.le_refl _)] at this
         simpa using this.symm
       go_wp2
       go_ret
       exact ⟨by rw [hR]; rfl, hb⟩
 · rw [decide_eq_false (fun e => hne (by rw [e]))]
   have hne2 : (l.length != m.length) = true := by simpa using hne
   go_enter Tryz.func13, Tryz.ntmps13
   go_wp2
   go_ret
   exact ⟨rfl, Below.refl _ _⟩
end

section
/- A region that draws its order, whose operations read and whose callees make memory of their own and hand back a plain value: one walk, in the order of the text. -/
open Go.RowKit
structure Grow (w : World) where
 W : World
 below : Below w.heap.size w W
instance {w : World} : Nonempty (Grow w) := ⟨⟨w, Below.refl _ _⟩⟩
theorem grow_cell {w : World} {p : Addr} {v : Value} (h : w.cell? p = some v) : ∀ s : Grow w, s.W.cell? p = some v :=
 fun s => (s.below.cell (World.block_lt_of_cell? w _ h)).trans h
theorem wp_region_grow {P : Program} {id : Nat} {Q : Exit → Act → World → Prop} {a : Act} {w : World} {l : List Oper} (hm : P.follows .mixedOrders = true) (hB : Region.lexB .any l.toArray = true)
   (h : wpQuiet P l.toArray (fun w' => ∃ s : Grow w, w' = s.W) (fun a' => ∀ w', (∃ s : Grow w, w' = s.W) → Q .normal a' w') l a) : (Code.region id l.toArray true).wp P Q a w :=
 wp_region_quiet (C := fun w' => ∃ s : Grow w, w' = s.W) hm hB ⟨⟨w.drew, (Below.refl _ _).drew⟩, rfl⟩ (by simpa using h)
theorem Calls.grow {P : Program} {f : FuncId} {args : Array Value} {w : World} {s : Grow w} {v : Value} (h : ∀ ww, Below w.heap.size w ww → Calls P f args ww fun e w' => e = .returned v ∧ Below ww.heap.size ww w') :
   Calls P f args s.W fun e w'' => e = .returned v ∧ ∃ s' : Grow w, w'' = s'.W :=
 (h s.W s.below).mono fun _ w' ⟨he, hb⟩ => ⟨he, ⟨w', s.below.trans (hb.mono s.below.size)⟩, rfl⟩
end

section
/- MarkOne: MarkA MarkB MarkC MarkD. -/
/- The laws' marks: numbers written into every place of a datum, and read again. The text of a mark, marks in a slice of numbers. -/
open Go.RowKit
structure Only (F : List Nat) (w w' : World) : Prop where
 os : w'.os = w.os
 tape : w'.tape = w.tape
 output : w'.output = w.output
 size : w.heap.size ≤ w'.heap.size
 block : ∀ k, k < w.heap.size → k ∉ F → w'.heap[k]? = w.heap[k]?
theorem Only.refl (F : List Nat) (w : World) : Only F w w := ⟨rfl, rfl, rfl, Nat.le_refl _, fun _ _ _ => rfl⟩
theorem Only.trans {F G H : List Nat} {a b c : World} (h : Only F a b) (k : Only G b c) (hF : ∀ x, x ∈ F → x ∈ H) (hG : ∀ x, x ∈ G → x ∈ H) : Only H a c :=
 ⟨k.os.trans h.os, k.tape.trans h.tape, k.output.trans h.output, Nat.le_trans h.size k.size, fun i hi hn => (k.block i (Nat.lt_of_lt_of_le hi h.size) (fun x => hn (hG i x))).trans (h.block i hi (fun x => hn (hF i x)))⟩
theorem Only.of_below {F : List Nat} {w w' : World} (h : Below w.heap.size w w') : Only F w w' := ⟨h.os, h.tape, h.output, h.size, fun k hk _ => h.block k hk⟩
theorem Only.setCell {F : List Nat} {a w : World} (h : Only F a w) {p : Addr} (hp : p.block ∈ F) (u : Value) : Only F a (w.setCell p u) :=
 h.trans (G := [p.block]) (H := F) ⟨rfl, rfl, rfl, by simp [World.setCell], fun k hk hn => Below.heap_setCell _ _ _ _ (by simpa using hn)⟩ (fun _ h => h) (fun x hx => by simp at hx; exact hx ▸ hp)
theorem Only.below {F : List Nat} {w w' : World} {B : Nat} (h : Only F w w') (hF : ∀ k, k ∈ F → B ≤ k) (hB : B ≤ w.heap.size) : Below B w w' :=
 ⟨h.os, h.tape, h.output, h.size, fun k hk => h.block k (by omega) (fun hm => by have := hF k hm; omega)⟩
theorem OwnIn.only {α : Type} {c : Cod α} {lo hi lo' hi' : Nat} {F : List Nat} {w w' : World} {x : α} {cs : List Value} (h : OwnIn c lo hi w x cs) (ho : Only F w w') (hF : ∀ k, k ∈ F → lo' ≤ k ∧ k < hi') (hs : hi ≤ w.heap.size) (hd : hi ≤ lo' ∨ hi' ≤ lo) : OwnIn c lo hi w' x cs := by
 obtain ⟨G, h1, h2⟩ := h
 exact ⟨G, c.keepO h1 (fun k hk => ho.block k (by have := (h2 k hk).2; omega) (fun hm => by have := h2 k hk; have := hF k hm; omega)), h2⟩
theorem cell_only {lo' hi' : Nat} {F : List Nat} {w w' : World} {p : Addr} {v : Value} (h : w.cell? p = some v) (ho : Only F w w') (hF : ∀ k, k ∈ F → lo' ≤ k ∧ k < hi') (hd : p.block < lo' ∨ hi' ≤ p.block) : w'.cell? p = some v :=
 (World.cell?_of_block (w := w) (ho.block p.block (World.block_lt_of_cell? w _ h) (fun hm => by have := hF _ hm; omega))).trans h
theorem OwnIn.at {α : Type} {c : Cod α} {lo hi : Nat} {w : World} {x : α} {cs : List Value} (h : OwnIn c lo hi w x cs) (hs : hi ≤ w.heap.size) : At c w x cs := by
 obtain ⟨G, h1, h2⟩ := h
 exact c.ofO h1 (fun k hk => by have := (h2 k hk).2; omega)
theorem OwnIn.next {α : Type} {c : Cod α} {lo hi : Nat} {w W w' : World} {x : α} {cs : List Value} (h : OwnIn c lo hi w x cs) (hs : hi ≤ w.heap.size) (hb : Below W.heap.size W w') (hW : W.heap = w.heap := by rfl) : OwnIn c lo hi w' x cs := by
 obtain ⟨G, h1, h2⟩ := h
 exact ⟨G, c.keepO h1 (fun k hk => by rw [← hW]; exact hb.block k (by rw [hW]; have := (h2 k hk).2; omega)), h2⟩
theorem decDigits_snoc' {u : Nat} (h : ¬ u < 10) : Lib.decDigits u = Lib.decDigits (u / 10) ++ [UInt8.ofNat (48 + u % 10)] := by
 rw [Lib.decDigits, dif_neg h]
def mpre (q : Nat) (acc : List UInt8) : List UInt8 := if q = 0 then acc else Lib.decDigits q ++ acc
theorem mpre_step {q : Nat} (h : q ≠ 0) (acc : List UInt8) : mpre q acc = mpre (q / 10) (UInt8.ofNat (48 + q % 10) :: acc) := by
 unfold mpre
 rw [if_neg h]
 by_cases hq : q < 10
 · rw [if_pos (by omega), Lib.decDigits_one hq, Nat.mod_eq_of_lt hq]; rfl
 · rw [if_neg (by omega), decDigits_snoc' hq, List.append_assoc]; rfl
theorem mdig_le (u : Nat) (h : u < 18446744073709551616) : (Lib.decDigits u).length ≤ 20 := by rw [Lib.decDigits_length]; exact Lib.nDigits_le20 u h
theorem mpre_len {q m : Nat} {acc : List UInt8} (H : mpre q acc = Lib.decDigits m) (h : m < 18446744073709551616) : acc.length ≤ 20 := by
 have h1 := mdig_le m h
 rw [← H] at h1
 unfold mpre at h1
 split at h1
 · exact h1
 · rw [List.length_append] at h1; omega
def mT (m : Nat) : ByteArray := str (109 :: Lib.decDigits m)
theorem mT_size (m : Nat) (h : m < 18446744073709551616) : (mT m).size ≤ 21 := by unfold mT; rw [str_size, List.length_cons]; have := mdig_le m h; omega
set_option maxHeartbeats 800000 in
theorem markText_c (m : Nat) (h0 : 0 < m) (hm : (m : Int) ≤ 4611686018427387904) (w : World) :
   Calls Tryz.prog 58 #[.int .i64 m] w fun e w' => e = .returned (.string (mT m)) ∧ Below w.heap.size w w' := by
 have hm2 : m < 18446744073709551616 := by omega
 have Hm2 := Lib.hid hm2
 have hle : decide ((m : Int) ≤ 0) = false := decide_eq_false (by omega)
 clear hm2
 go_enter Tryz.func58, Tryz.ntmps58
 go_wp2
 go_loopw [0, 3] (fun v o wr => ∃ (q : Nat) (acc : List UInt8), v = .int .i64 q ∧ o = .string (str acc) ∧ q ≤ m ∧ Hid (mpre q acc = Lib.decDigits m) ∧ Below w.heap.size w wr) (fun v _ _ => (intOf v).toNat)
 case atStart => exact ⟨m, [], rfl, rfl, Nat.le_refl _, show _ = _ by rw [mpre, if_neg (by omega), List.append_nil], Below.refl _ _⟩
 case round =>
   obtain ⟨q, acc, rfl, rfl, hq, Hq, hb⟩ := hrel
   by_cases hq0 : q = 0
   · have hE : decide ((0 : Int) < (q : Int)) = false := decide_eq_false (by omega)
     have hE2 : decide (0 < q) = false := decide_eq_false (by omega)
     have hacc : acc = Lib.decDigits m := by rw [← Hq.out, mpre, if_pos hq0]
     have hlen := mpre_len Hq.out Hm2.out
     have Hacc := Lib.hid hacc
     have hsz : (str [109]).size + (str acc).size < 100 := by simp only [str_size, List.length_singleton]; omega
     have hsz' : 1 + (str acc).size < 100 := by simp only [str_size]; omega
     clear hacc hq0
     go_wp2
     go_ret
     exact ⟨by unfold mT; rw [← Hacc.out, show 109 :: acc = [109] ++ acc from rfl, ← str_append]; rfl, hb⟩
   · have hE : decide ((0 : Int) < (q : Int)) = true := decide_eq_true (by omega)
     have hE2 : decide (0 < q) = true := decide_eq_true (by omega)
     have hlen := mpre_len Hq.out Hm2.out
     have hnext := mpre_step hq0 acc
     have Hn := Lib.hid hnext
     have H0 := Lib.hid hq0
     obtain ⟨u, hu⟩ : ∃ u, u = UInt8.ofNat (48 + q % 10) := ⟨_, rfl⟩
     rw [← hu] at Hn
     have hcv := fun ww => run_conv_byte (P := Tryz.prog) ww 119 9 5 Tryz.underlying119 Tryz.underlying5 Tryz.underlying9 (48 + (q : Int) % 10) u (by rw [hu]; simp; omega)
     have hd : 0 ≤ (q : Int) % 10 := by omega
     have hsz : (str [u]).size + (str acc).size < 100 := by simp only [str_size, List.length_singleton]; omega
     clear hnext hq0 hu
     go_wp2
     go_roundw
     case rel => exact ⟨q / 10, u :: acc, by go_num, by rw [str_append]; rfl, by omega, show _ = _ by rw [← Hn.out, Hq.out], hb.alloc hb.size _⟩
     case measure => simp [intOf]; have := H0.out; omega
/- The laws' marks in slices: a slice of the call's own, element by element; marks in a slice of numbers. -/
open Go.RowKit
structure SL {α : Type} (c : Cod α) (F : List Nat) (g off : Nat) (G : Nat → List Nat) (es : Nat → List Value) (w : World) (l : List α) : Prop where
 gF : g ∈ F
 lt : ∀ k, k ∈ F → k < w.heap.size
 sub : ∀ j, j < l.length → ∀ k, k ∈ G j → k ∈ F ∧ k ≠ g
 dis : ∀ i j, i < l.length → j < l.length → i ≠ j → ∀ k, k ∈ G i → k ∉ G j
 fr : ∀ j, j < l.length * c.n → w.frozen? ⟨g, off + j, none⟩ = false
 el : ∀ j (hj : j < l.length), c.own (G j) w l[j] (es j) ∧ ∀ i, i < c.n → w.cell? ⟨g, off + j * c.n + i, none⟩ = (es j)[i]?
variable {α : Type} {c : Cod α}
theorem SL.of_own {F : List Nat} {w : World} {l : List α} {a : Option Addr} {n cap : Nat} (h : (cSlice c).own F w l [.slice a n cap]) (hl : ∀ k, k ∈ F → k < w.heap.size) (h0 : 0 < l.length) :
   ∃ g off G es, a = some ⟨g, off, none⟩ ∧ SL c F g off G es w l := by
 obtain ⟨a', cap', e, hm, h⟩ := h
 simp at e
 obtain ⟨rfl, rfl, rfl⟩ := e
 rcases h with ⟨rfl, _⟩ | ⟨g, off, G, rfl, h1, h2, h3, h4, h5, h6⟩
 · simp at h0
 · have hex : ∀ j, ∃ es, ∀ hj : j < l.length, c.own (G j) w l[j] es ∧ ∀ i, i < c.n → w.cell? ⟨g, off + j * c.n + i, none⟩ = es[i]? := by
     intro j
     by_cases hj : j < l.length
     · obtain ⟨es, h⟩ := h6 j hj
       exact ⟨es, fun _ => h⟩
     · exact ⟨[], fun h => absurd h hj⟩
   exact ⟨g, off, G, fun j => Classical.choose (hex j), rfl, ⟨h1, hl, h3, h4, h5, fun j hj => Classical.choose_spec (hex j) hj⟩⟩
theorem SL.own {F : List Nat} {g off : Nat} {G : Nat → List Nat} {es : Nat → List Value} {w : World} {l : List α} (h : SL c F g off G es w l) (cap : Nat) (hm : l.length ≤ maxLen ∧ l.length ≤ cap) :
   (cSlice c).own F w l [.slice (some ⟨g, off, none⟩) l.length cap] :=
 ⟨_, _, rfl, hm, .inr ⟨g, off, G, rfl, h.gF, h.lt g h.gF, h.sub, h.dis, h.fr, fun j hj => ⟨es j, h.el j hj⟩⟩⟩
theorem SL.upd {F : List Nat} {g off : Nat} {G : Nat → List Nat} {es : Nat → List Value} {w w' : World} {l : List α} (h : SL c F g off G es w l) (j : Nat) (hj : j < l.length) (x' : α) (es' : List Value)
   (hsz : w.heap.size ≤ w'.heap.size) (hfr : ∀ i, w'.frozen? ⟨g, i, none⟩ = w.frozen? ⟨g, i, none⟩) (hcell : ∀ i, i < off + j * c.n ∨ off + j * c.n + c.n ≤ i → w'.cell? ⟨g, i, none⟩ = w.cell? ⟨g, i, none⟩)
   (hblk : ∀ k, k ∈ F → k ≠ g → k ∉ G j → w'.heap[k]? = w.heap[k]?) (hown : c.own (G j) w' x' es') (hc : ∀ i, i < c.n → w'.cell? ⟨g, off + j * c.n + i, none⟩ = es'[i]?) :
   SL c F g off G (fun q => if q = j then es' else es q) w' (l.set j x') := by
 refine ⟨h.gF, fun k hk => Nat.lt_of_lt_of_le (h.lt k hk) hsz, ?_, ?_, ?_, ?_⟩
 · simpa using h.sub
 · simpa using h.dis
 · intro i hi; rw [hfr]; exact h.fr i (by simpa using hi)
 · intro q hq
   have hq' : q < l.length := by simpa using hq
   by_cases he : q = j
   · subst he
     simp only [List.getElem_set_self, if_true]
     exact ⟨hown, hc⟩
   · simp only [List.getElem_set_ne (Ne.symm he), if_neg he]
     obtain ⟨h1, h2⟩ := h.el q hq'
     refine ⟨c.keepO h1 (fun k hk => hblk k (h.sub q hq' k hk).1 (h.sub q hq' k hk).2 (h.dis q j hq' hj he k hk)), fun i hi => ?_⟩
     rw [hcell, h2 i hi]
     rcases Nat.lt_or_gt_of_ne he with hlt | hgt
     · left
       have : (q + 1) * c.n ≤ j * c.n := Nat.mul_le_mul_right _ hlt
       rw [Nat.succ_mul] at this
       omega
     · right
       have : (j + 1) * c.n ≤ q * c.n := Nat.mul_le_mul_right _ hgt
       rw [Nat.succ_mul] at this
       omega
def markL (mk : Nat → α → α) (lv : α → Nat) : Nat → List α → List α
 | _, [] => []
 | k, x :: l => mk k x :: markL mk lv (k + lv x) l
def lvs (lv : α → Nat) (l : List α) : Nat := (l.map lv).sum
theorem markL_length (mk : Nat → α → α) (lv : α → Nat) (k : Nat) (l : List α) : (markL mk lv k l).length = l.length := by
 induction l generalizing k with
 | nil => rfl
 | cons x l ih => simp [markL, ih]
theorem lvs_drop (lv : α → Nat) (l : List α) (j : Nat) (hj : j < l.length) : lvs lv (l.drop j) = lv l[j] + lvs lv (l.drop (j + 1)) := by
 unfold lvs; rw [List.drop_eq_getElem_cons hj, List.map_cons, List.sum_cons]
theorem lvs_nil (lv : α → Nat) : lvs lv [] = 0 := rfl
theorem markL_drop (mk : Nat → α → α) (lv : α → Nat) (k : Nat) (l : List α) (j : Nat) (hj : j < l.length) : markL mk lv k (l.drop j) = mk k l[j] :: markL mk lv (k + lv l[j]) (l.drop (j + 1)) := by
 rw [List.drop_eq_getElem_cons hj]; rfl
theorem set_mid (dn r : List α) (x y : α) (j : Nat) (h : dn.length = j) : (dn ++ x :: r).set j y = (dn ++ [y]) ++ r := by
 subst h; simp
theorem get_mid (dn r : List α) (x : α) (j : Nat) (h : dn.length = j) (hj : j < (dn ++ x :: r).length) : (dn ++ x :: r)[j] = x := by
 subst h; simp
def markI (k : Nat) (l : List Int) : List Int := markL (fun k _ => (k : Int)) (fun _ => 1) k l
theorem markI_length (k : Nat) (l : List Int) : (markI k l).length = l.length := markL_length _ _ _ _
set_option maxHeartbeats 800000 in
theorem markIntS_c {F : List Nat} {a : Option Addr} {cap : Nat} {l : List Int} {k : Nat} {w : World} (hk : (k + l.length : Nat) ≤ 4611686018427387904) (hF : ∀ k, k ∈ F → k < w.heap.size) (h : (cSlice cInt).own F w l [.slice a l.length cap]) :
   Calls Tryz.prog 39 #[.slice a l.length cap, .int .i64 k] w fun e w' => e = .returned (.int .i64 ((k + l.length : Nat) : Int)) ∧ (cSlice cInt).own F w' (markI k l) [.slice a l.length cap] ∧ Only F w w' := by
 have hm := (own_slice_len h).1
 have Hcp := Lib.hid (own_slice_len h).2
 rcases Nat.eq_zero_or_pos l.length with h0 | h0
 · have hl := List.eq_nil_of_length_eq_zero h0
   subst hl
   have Ho := Lib.hid h
   clear h hm h0
   simp only [List.length_nil] at *
   go_enter Tryz.func39, Tryz.ntmps39
   go_wp2
   go_loopw [1, 5] (fun kv iv wr => kv = .int .i64 k ∧ iv = .int .i64 0 ∧ wr = w) (fun _ _ _ => 0)
   case atStart => exact ⟨rfl, rfl, rfl⟩
   case round =>
     obtain ⟨rfl, rfl, rfl⟩ := hrel
     go_wp2
     go_ret
     exact ⟨rfl, Ho.out, Only.refl _ _⟩
 · obtain ⟨g, off, G, es, rfl, hS⟩ := SL.of_own h hF h0
   clear h h0
   obtain ⟨n, hn⟩ : ∃ n : Nat, l.length = n := ⟨_, rfl⟩
   have Hn := Lib.hid hn
   rw [hn] at hk ⊢
   unfold maxLen at hm
   rw [hn] at hm
   clear hn
   generalize hM : markI k l = M
   have HM : Hid ([] ++ markL (fun k _ => (k : Int)) (fun _ => 1) k (l.drop 0) = M) := hM
   have HS : Hid (SL cInt F g off G es w ([] ++ l.drop 0)) := hS
   have HgF : Hid (g ∈ F) := hS.gF
   clear hM hS hF
   go_enter Tryz.func39, Tryz.ntmps39
   go_wp2
   go_loopw [1, 5] (fun kv iv wr => ∃ (j : Nat) (dn : List Int) (es : Nat → List Value), j ≤ n ∧ kv = .int .i64 ((k + j : Nat) : Int) ∧ iv = .int .i64 j ∧ Hid (dn.length = j) ∧ Hid (dn ++ markL (fun k _ => (k : Int)) (fun _ => 1) (k + j) (l.drop j) = M) ∧ Hid (SL cInt F g off G es wr (dn ++ l.drop j)) ∧ Only F w wr) (fun _ iv _ => n - (intOf iv).toNat)
   case atStart => exact ⟨0, [], es, by omega, by go_num, by go_num, rfl, HM, HS, Only.refl _ _⟩
   case round =>
     clear HM HS
     obtain ⟨j, dn, es, hj, rfl, rfl, Hd, HM, HS, ho⟩ := hrel
     by_cases hlt : j < n
     · have hjl : j < l.length := by rw [Hn.out]; exact hlt
       have hdl := List.drop_eq_getElem_cons hjl
       have hjl2 : j < (dn ++ l.drop j).length := by rw [List.length_append, List.length_drop, Hd.out]; omega
       have hel := HS.out.el j hjl2
       have hfr := HS.out.fr j (by show j < _ * 1; omega)
       obtain ⟨⟨⟨he, _⟩, hG⟩, hc⟩ := hel
       have hc0 : wr.cell? ⟨g, off + j, none⟩ = some (.int .i64 (dn ++ l.drop j)[j]) := by
         have := hc 0 (by decide)
         rw [he] at this
         simpa [cInt] using this
       have Hc := Lib.hid hc0
       have HG := Lib.hid hG
       generalize (dn ++ l.drop j)[j] = z at hc0
       clear hc he hG
       go_wp2
       go_roundw
       case rel =>
         have hw : (wr.setCell ⟨g, off + j, none⟩ (.int .i64 ((k + j : Nat) : Int))).cell? ⟨g, off + j, none⟩ = some (.int .i64 ((k + j : Nat) : Int)) := World.cell?_setCell_same _ _ _ hc0
         have hu := HS.out.upd (w' := wr.setCell ⟨g, off + j, none⟩ (.int .i64 ((k + j : Nat) : Int))) j hjl2 ((k + j : Nat) : Int) [.int .i64 ((k + j : Nat) : Int)] (by simp [World.setCell]) (fun i => World.frozen?_setCell _ _ _ _)
           (fun i hi => World.cell?_setCell_other _ _ _ _ (by intro e; simp at e; have : cInt.n = 1 := rfl; rw [this] at hi; omega))
           (fun kk hk1 hk2 _ => heap_setCell_other _ _ _ _ hk2) ⟨⟨rfl, by unfold inR; omega⟩, HG.out⟩ (by
             intro i hi
             have : cInt.n = 1 := rfl
             rw [this] at hi
             obtain rfl : i = 0 := by omega
             simpa [this] using hw)
         rw [hdl, set_mid dn _ _ _ j Hd.out] at hu
         have hM2 := HM.out
         rw [markL_drop _ _ _ _ _ hjl] at hM2
         refine ⟨j + 1, dn ++ [((k + j : Nat) : Int)], _, by omega, by go_num, by go_num, show _ = _ by simp [Hd.out], show _ = _ by rw [← hM2]; simp [Nat.add_assoc], hu, ho.setCell HgF.out _⟩
       case measure => simp [intOf]; omega
     · obtain rfl : j = n := by omega
       have hd : l.drop j = [] := List.drop_eq_nil_of_le (by rw [Hn.out]; exact Nat.le_refl _)
       have hM2 := HM.out
       have hS2 := HS.out
       rw [hd] at hM2 hS2
       simp only [markL, List.append_nil] at hM2 hS2
       subst hM2
       have hown := hS2.own cap (by rw [Hd.out]; have hcp := Hcp.out; have hnn := Hn.out; unfold maxLen; exact ⟨by omega, by omega⟩)
       rw [Hd.out] at hown
       have Hown := Lib.hid hown
       clear hown hS2 hd
       go_wp2
       go_ret
       exact ⟨rfl, Hown.out, ho⟩
/- The laws' marks, read again in slices of numbers; marks in relations. -/
open Go.RowKit
theorem markI_get (k : Nat) (l : List Int) (j : Nat) (hj : j < (markI k l).length) : (markI k l)[j] = ((k + j : Nat) : Int) := by
 induction l generalizing k j with
 | nil => simp [markI, markL] at hj
 | cons x l ih =>
   cases j with
   | zero => simp [markI, markL]
   | succ j =>
     have := ih (k + 1) j (by simpa [markI, markL] using hj)
     simp only [markI, markL, List.getElem_cons_succ] at this ⊢
     rw [this]; omega
theorem heldIntS_c {a : Option Addr} {cap : Nat} {l : List Int} {k : Nat} {w : World} (hk : (k + l.length : Nat) ≤ 4611686018427387904) (hM : ∀ j (hj : j < l.length), l[j] = ((k + j : Nat) : Int)) (h : At (cSlice cInt) w l [.slice a l.length cap]) :
   Calls Tryz.prog 40 #[.slice a l.length cap, .int .i64 k] w fun e w' => e = .returned (.int .i64 ((k + l.length : Nat) : Int)) ∧ Below w.heap.size w w' := by
 have hm := (slice_len h).2
 unfold maxLen at hm
 obtain ⟨n, hn⟩ : ∃ n : Nat, l.length = n := ⟨_, rfl⟩
 have Hr : Hid (∀ w' : World, Below w.heap.size w w' → ∀ j (hj : j < l.length), _) := fun w' hb j hj => ints_at (Cod.ok_below h hb) j hj
 have HM := Lib.hid hM
 have Hn := Lib.hid hn
 rw [hn] at hk hm ⊢
 clear hn h hM
 go_enter Tryz.func40, Tryz.ntmps40
 go_wp2
 go_loopw [1, 5] (fun kv iv wr => ∃ j : Nat, j ≤ n ∧ kv = .int .i64 ((k + j : Nat) : Int) ∧ iv = .int .i64 j ∧ Below w.heap.size w wr) (fun _ iv _ => n - (intOf iv).toNat)
 case atStart => exact ⟨0, by omega, by go_num, by go_num, Below.refl _ _⟩
 case round =>
   obtain ⟨j, hj, rfl, rfl, hb⟩ := hrel
   by_cases hlt : j < n
   · have hjl : j < l.length := by rw [Hn.out]; exact hlt
     obtain ⟨b, off, rfl, hbB, c0⟩ := Hr.out _ hb j hjl
     rw [HM.out j hjl] at c0
     have hne : (((k + j : Nat) : Int) != ((k + j : Nat) : Int)) = false := bne_self_eq_false _
     go_wp2
     go_roundw
     case rel => exact ⟨j + 1, by omega, by go_num, by go_num, hb⟩
     case measure => simp [intOf]; omega
   · obtain rfl : j = n := by omega
     go_wp2
     go_ret
     exact ⟨rfl, hb⟩
theorem cRel_own_nil {F : List Nat} {w : World} {x : Rel} {cs : List Value} (h : cRel.own F w x cs) : F = [] := by
 obtain ⟨_, _, F1, F2, _, ⟨_, rfl⟩, ⟨_, _, F3, F4, _, ⟨_, rfl⟩, ⟨_, rfl⟩, rfl, _⟩, rfl, _⟩ := h
 rfl
def markR (k : Nat) (_ : Rel) : Rel := ⟨mT k, ((k + 1 : Nat) : Int), ((k + 2 : Nat) : Int)⟩
def markRs (k : Nat) (l : List Rel) : List Rel := markL markR (fun _ => 3) k l
theorem inR_nat {k : Nat} (h : k ≤ 4611686018427387904) : inR (k : Int) := by unfold inR; omega
set_option maxHeartbeats 1600000 in
theorem markRelationS_c {F : List Nat} {a : Option Addr} {cap : Nat} {l : List Rel} {k : Nat} {w : World} (h1 : 1 ≤ k) (hk : (k + l.length * 3 : Nat) ≤ 4611686018427387900) (hF : ∀ k, k ∈ F → k < w.heap.size) (h : (cSlice cRel).own F w l [.slice a l.length cap]) :
   Calls Tryz.prog 37 #[.slice a l.length cap, .int .i64 k] w fun e w' => e = .returned (.int .i64 ((k + l.length * 3 : Nat) : Int)) ∧ (cSlice cRel).own F w' (markRs k l) [.slice a l.length cap] ∧ Only F w w' := by
 have hm := (own_slice_len h).1
 have Hcp := Lib.hid (own_slice_len h).2
 rcases Nat.eq_zero_or_pos l.length with h0 | h0
 · have hl := List.eq_nil_of_length_eq_zero h0
   subst hl
   have Ho := Lib.hid h
   clear h hm h0
   simp only [List.length_nil] at *
   go_enter Tryz.func37, Tryz.ntmps37
   go_wp2
   go_loopw [1, 5] (fun kv iv wr => kv = .int .i64 k ∧ iv = .int .i64 0 ∧ wr = w) (fun _ _ _ => 0)
   case atStart => exact ⟨rfl, rfl, rfl⟩
   case round =>
     obtain ⟨rfl, rfl, rfl⟩ := hrel
     go_wp2
     go_ret
     exact ⟨rfl, Ho.out, Only.refl _ _⟩
 · obtain ⟨g, off, G, es, rfl, hS⟩ := SL.of_own h hF h0
   clear h h0
   obtain ⟨n, hn⟩ : ∃ n : Nat, l.length = n := ⟨_, rfl⟩
   have Hn := Lib.hid hn
   rw [hn] at hk ⊢
   unfold maxLen at hm
   rw [hn] at hm
   clear hn
   generalize hM : markRs k l = M
   have HM : Hid ([] ++ markL markR (fun _ => 3) k (l.drop 0) = M) := hM
   have HS : Hid (SL cRel F g off G es w ([] ++ l.drop 0)) := hS
   have HgF : Hid (g ∈ F) := hS.gF
   clear hM hS hF
   go_enter Tryz.func37, Tryz.ntmps37
   go_wp2
   go_loopw [1, 5] (fun kv iv wr => ∃ (j : Nat) (dn : List Rel) (es : Nat → List Value), j ≤ n ∧ kv = .int .i64 ((k + j * 3 : Nat) : Int) ∧ iv = .int .i64 j ∧ Hid (dn.length = j) ∧ Hid (dn ++ markL markR (fun _ => 3) (k + j * 3) (l.drop j) = M) ∧ Hid (SL cRel F g off G es wr (dn ++ l.drop j)) ∧ Only F w wr) (fun _ iv _ => n - (intOf iv).toNat)
   case atStart => exact ⟨0, [], es, by omega, by go_num, by go_num, rfl, HM, HS, Only.refl _ _⟩
   case round =>
     clear HM HS
     obtain ⟨j, dn, es, hj, rfl, rfl, Hd, HM, HS, ho⟩ := hrel
     by_cases hlt : j < n
     · have hjl : j < l.length := by rw [Hn.out]; exact hlt
       have hdl := List.drop_eq_getElem_cons hjl
       have hjl2 : j < (dn ++ l.drop j).length := by rw [List.length_append, List.length_drop, Hd.out]; omega
       have hel := HS.out.el j hjl2
       have hfr : ∀ i, i < 3 → wr.frozen? ⟨g, off + j * 3 + i, none⟩ = false := by
         intro i hi
         have := HS.out.fr (j * 3 + i) (by show _ < _ * 3; omega)
         rw [← Nat.add_assoc] at this
         exact this
       obtain ⟨hG, hc⟩ := hel
       have he := (cRel_inv (cRel.ofO (B := F.sum + g + 1) hG (fun kk hkk => by have := le_sum (HS.out.sub j hjl2 kk hkk).1; omega))).1
       rw [he] at hc hG
       generalize (dn ++ l.drop j)[j] = z at hc hG
       have c0 : wr.cell? ⟨g, off + j * 3, none⟩ = some (.string z.name) := by exact hc 0 (by decide)
       have c1 : wr.cell? ⟨g, off + j * 3 + 1, none⟩ = some (.int .i64 z.arity) := by exact hc 1 (by decide)
       have c2 : wr.cell? ⟨g, off + j * 3 + 2, none⟩ = some (.int .i64 z.key) := by exact hc 2 (by decide)
       have f0 := hfr 0 (by decide)
       have f1 := hfr 1 (by decide)
       have f2 := hfr 2 (by decide)
       have hgw := World.block_lt_of_cell? wr _ c0
       have HG := Lib.hid hG
       clear hc he hG hfr
       go_wp2_with fail
       refine (markText_c (k + j * 3) (by omega) (by omega) _).mono ?_
       rintro e w1 ⟨rfl, hb1⟩
       have d0 := (hb1.cell (p := ⟨g, off + j * 3, none⟩) hgw).trans c0
       have d1 := (hb1.cell (p := ⟨g, off + j * 3 + 1, none⟩) hgw).trans c1
       have d2 := (hb1.cell (p := ⟨g, off + j * 3 + 2, none⟩) hgw).trans c2
       have g0 := (hb1.frozen (p := ⟨g, off + j * 3, none⟩) hgw).trans f0
       have g1 := (hb1.frozen (p := ⟨g, off + j * 3 + 1, none⟩) hgw).trans f1
       have g2 := (hb1.frozen (p := ⟨g, off + j * 3 + 2, none⟩) hgw).trans f2
       clear c0 c1 c2 f0 f1 f2
       go_wp2
       go_roundw
       case rel =>
         have hGj : G j = [] := cRel_own_nil HG.out
         have e0 := World.cell?_setCell_same _ _ (.string (mT (k + j * 3))) d0
         have e1 := World.cell?_setCell_same _ _ (.int .i64 ((k + j * 3 + 1 : Nat) : Int)) ((World.cell?_setCell_other w1 ⟨g, off + j * 3, none⟩ ⟨g, off + j * 3 + 1, none⟩ (.string (mT (k + j * 3))) (by simp)).trans d1)
         have e2 := World.cell?_setCell_same _ _ (.int .i64 ((k + j * 3 + 2 : Nat) : Int)) ((World.cell?_setCell_other _ ⟨g, off + j * 3 + 1, none⟩ ⟨g, off + j * 3 + 2, none⟩ (.int .i64 ((k + j * 3 + 1 : Nat) : Int)) (by simp)).trans ((World.cell?_setCell_other w1 ⟨g, off + j * 3, none⟩ ⟨g, off + j * 3 + 2, none⟩ (.string (mT (k + j * 3))) (by simp)).trans d2))
         have hu := HS.out.upd (w' := ((w1.setCell ⟨g, off + j * 3, none⟩ (.string (mT (k + j * 3)))).setCell ⟨g, off + j * 3 + 1, none⟩ (.int .i64 ((k + j * 3 + 1 : Nat) : Int))).setCell ⟨g, off + j * 3 + 2, none⟩ (.int .i64 ((k + j * 3 + 2 : Nat) : Int))) j hjl2
           (markR (k + j * 3) z) [.string (mT (k + j * 3)), .int .i64 ((k + j * 3 + 1 : Nat) : Int), .int .i64 ((k + j * 3 + 2 : Nat) : Int)] (by simp only [World.setCell, Array.size_modify]; exact hb1.size)
           (fun i => by rw [World.frozen?_setCell, World.frozen?_setCell, World.frozen?_setCell]; exact hb1.frozen hgw)
           (fun i hi => by
             have hn3 : cRel.n = 3 := rfl
             rw [hn3] at hi
             rw [World.cell?_setCell_other _ _ _ _ (by intro e; simp at e <;> omega), World.cell?_setCell_other _ _ _ _ (by intro e; simp at e <;> omega), World.cell?_setCell_other _ _ _ _ (by intro e; simp at e <;> omega)]
             exact hb1.cell hgw)
           (fun kk hk1 hk2 _ => by
             rw [heap_setCell_other _ _ _ _ hk2, heap_setCell_other _ _ _ _ hk2, heap_setCell_other _ _ _ _ hk2]
             exact hb1.block kk (HS.out.lt kk hk1))
           (by rw [hGj]; exact cRel_mkO (by show (mT _).size ≤ _; have := mT_size (k + j * 3) (by omega); unfold maxLen; omega) (inR_nat (by omega)) (inR_nat (by omega)))
           (by
             have hn3 : cRel.n = 3 := rfl
             rw [hn3]
             intro i hi
             match i, hi with
             | 0, _ => exact (World.cell?_setCell_other _ _ _ _ (by simp)).trans ((World.cell?_setCell_other _ _ _ _ (by simp)).trans e0)
             | 1, _ => exact (World.cell?_setCell_other _ _ _ _ (by simp)).trans e1
             | 2, _ => exact e2)
         rw [hdl, set_mid dn _ _ _ j Hd.out] at hu
         have hM2 := HM.out
         rw [markL_drop _ _ _ _ _ hjl] at hM2
         obtain ⟨es2, hu⟩ : ∃ es2, SL cRel F g off G es2 _ _ := ⟨_, hu⟩
         refine ⟨j + 1, dn ++ [markR (k + j * 3) z], es2, by omega, by go_num, by go_num, show _ = _ by simp [Hd.out], show _ = _ by rw [← hM2, show k + (j + 1) * 3 = k + j * 3 + 3 by omega]; simp [markR], ?_, Only.setCell (p := ⟨g, off + j * 3 + 2, none⟩) (Only.setCell (p := ⟨g, off + j * 3 + 1, none⟩) (Only.setCell (p := ⟨g, off + j * 3, none⟩) (Only.trans (H := F) ho (Only.of_below (F := F) hb1) (fun _ h => h) (fun _ h => h)) HgF.out _) HgF.out _) HgF.out _⟩
         exact hu
       case measure => simp [intOf]; omega
     · obtain rfl : j = n := by omega
       have hd : l.drop j = [] := List.drop_eq_nil_of_le (by rw [Hn.out]; exact Nat.le_refl _)
       have hM2 := HM.out
       have hS2 := HS.out
       rw [hd] at hM2 hS2
       simp only [markL, List.append_nil] at hM2 hS2
       subst hM2
       have hown := hS2.own cap (by rw [Hd.out]; have hcp := Hcp.out; have hnn := Hn.out; unfold maxLen; exact ⟨by omega, by omega⟩)
       rw [Hd.out] at hown
       have Hown := Lib.hid hown
       clear hown hS2 hd
       go_wp2
       go_ret
       exact ⟨rfl, Hown.out, ho⟩
/- The laws' marks, read again in relations; marks in facts and in slices of slices of numbers. -/
open Go.RowKit
end

section
/- MarkTwo: MarkE MarkF MarkG MarkH. -/
/- The laws' marks in facts. -/
open Go.RowKit
theorem cFct_ownI {F : List Nat} {w : World} {x : Fct} {v0 v1 : Value} (h : cFct.own F w x [v0, v1]) : v0 = .int .i64 x.rel ∧ inR x.rel ∧ (cSlice cInt).own F w x.vals [v1] := by
 obtain ⟨_, _, F1, F2, e, ⟨⟨rfl, hr⟩, rfl⟩, h2, rfl, _⟩ := h
 simp at e
 obtain ⟨rfl, rfl⟩ := e
 exact ⟨rfl, hr, by simpa using h2⟩
theorem cFct_ownMk {F : List Nat} {w : World} {x : Fct} {v1 : Value} (hr : inR x.rel) (h : (cSlice cInt).own F w x.vals [v1]) : cFct.own F w x [.int .i64 x.rel, v1] := ⟨[_], [_], [], F, rfl, ⟨⟨rfl, hr⟩, rfl⟩, h, rfl, by simp⟩
theorem cFct_ownOpen {F : List Nat} {w : World} {x : Fct} {cs : List Value} (h : cFct.own F w x cs) : ∃ a cap, cs = [.int .i64 x.rel, .slice a x.vals.length cap] ∧ cFct.own F w x [.int .i64 x.rel, .slice a x.vals.length cap] := by
 have h0 := h
 obtain ⟨_, _, F1, F2, rfl, ⟨⟨rfl, hr⟩, rfl⟩, h2, rfl, _⟩ := h
 obtain ⟨a, cap, rfl, _⟩ := h2
 exact ⟨a, cap, rfl, h0⟩
open Go.RowKit
def markF (k : Nat) (x : Fct) : Fct := ⟨(k : Int), markI (k + 1) x.vals⟩
def lvF (x : Fct) : Nat := x.vals.length + 1
def markFs (k : Nat) (l : List Fct) : List Fct := markL markF lvF k l
set_option maxHeartbeats 1600000 in
theorem markFactS_c {F : List Nat} {a : Option Addr} {cap : Nat} {l : List Fct} {k : Nat} {w : World} (hk : (k + lvs lvF l : Nat) ≤ 4611686018427387900) (hF : ∀ k, k ∈ F → k < w.heap.size) (h : (cSlice cFct).own F w l [.slice a l.length cap]) :
   Calls Tryz.prog 38 #[.slice a l.length cap, .int .i64 k] w fun e w' => e = .returned (.int .i64 ((k + lvs lvF l : Nat) : Int)) ∧ (cSlice cFct).own F w' (markFs k l) [.slice a l.length cap] ∧ Only F w w' := by
 have hm := (own_slice_len h).1
 have Hcp := Lib.hid (own_slice_len h).2
 rcases Nat.eq_zero_or_pos l.length with h0 | h0
 · have hl := List.eq_nil_of_length_eq_zero h0
   subst hl
   have Ho := Lib.hid h
   clear h hm h0
   simp only [List.length_nil, lvs_nil] at *
   go_enter Tryz.func38, Tryz.ntmps38
   go_wp2
   go_loopw [1, 5] (fun kv iv wr => kv = .int .i64 k ∧ iv = .int .i64 0 ∧ wr = w) (fun _ _ _ => 0)
   case atStart => exact ⟨rfl, rfl, rfl⟩
   case round =>
     obtain ⟨rfl, rfl, rfl⟩ := hrel
     go_wp2
     go_ret
     exact ⟨rfl, Ho.out, Only.refl _ _⟩
 · obtain ⟨g, off, G, es, rfl, hS⟩ := SL.of_own h hF h0
   clear h h0
   obtain ⟨n, hn⟩ : ∃ n : Nat, l.length = n := ⟨_, rfl⟩
   have Hn := Lib.hid hn
   obtain ⟨K, hK⟩ : ∃ K : Nat, k + lvs lvF l = K := ⟨_, rfl⟩
   have HK : Hid (k + lvs lvF (l.drop 0) = K) := hK
   rw [hn]
   rw [hK] at hk ⊢
   unfold maxLen at hm
   rw [hn] at hm
   clear hn hK
   generalize hM : markFs k l = M
   have HM : Hid ([] ++ markL markF lvF k (l.drop 0) = M) := hM
   have HS : Hid (SL cFct F g off G es w ([] ++ l.drop 0)) := hS
   have HgF : Hid (g ∈ F) := hS.gF
   clear hM hS hF
   go_enter Tryz.func38, Tryz.ntmps38
   go_wp2
   go_loopw [1, 5] (fun kv iv wr => ∃ (j q : Nat) (dn : List Fct) (es : Nat → List Value), j ≤ n ∧ kv = .int .i64 (q : Int) ∧ iv = .int .i64 j ∧ Hid (q + lvs lvF (l.drop j) = K) ∧ Hid (dn.length = j) ∧ Hid (dn ++ markL markF lvF q (l.drop j) = M) ∧ Hid (SL cFct F g off G es wr (dn ++ l.drop j)) ∧ Only F w wr) (fun _ iv _ => n - (intOf iv).toNat)
   case atStart => exact ⟨0, k, [], es, by omega, rfl, by go_num, HK, rfl, HM, HS, Only.refl _ _⟩
   case round =>
     clear HM HS HK
     obtain ⟨j, q, dn, es, hj, rfl, rfl, HK, Hd, HM, HS, ho⟩ := hrel
     by_cases hlt : j < n
     · have hjl : j < l.length := by rw [Hn.out]; exact hlt
       have hdl := List.drop_eq_getElem_cons hjl
       have hjl2 : j < (dn ++ l.drop j).length := by rw [List.length_append, List.length_drop, Hd.out]; omega
       have hel := HS.out.el j hjl2
       have f0 : wr.frozen? ⟨g, off + j * 2, none⟩ = false := HS.out.fr (j * 2) (by show _ < _ * 2; omega)
       have hz : (dn ++ l.drop j)[j] = l[j] := by
         have := get_mid dn (l.drop (j + 1)) l[j] j Hd.out (by rw [← hdl]; exact hjl2)
         simpa only [← hdl] using this
       rw [hz] at hel
       obtain ⟨hG, hc⟩ := hel
       obtain ⟨a1, cap1, he, hG1⟩ := cFct_ownOpen hG
       rw [he] at hc
       obtain ⟨_, _, hv⟩ := cFct_ownI hG1
       have c0 : wr.cell? ⟨g, off + j * 2, none⟩ = some (.int .i64 l[j].rel) := by exact hc 0 (by decide)
       have c1 : wr.cell? ⟨g, off + j * 2 + 1, none⟩ = some (.slice a1 l[j].vals.length cap1) := by exact hc 1 (by decide)
       have hgw := World.block_lt_of_cell? wr _ c0
       have hK2 := HK.out
       rw [lvs_drop lvF l j hjl] at hK2
       have hlv : lvF l[j] = l[j].vals.length + 1 := rfl
       have hqk : q + l[j].vals.length + 1 ≤ K := by omega
       have hGlt : ∀ x, x ∈ G j → x < wr.heap.size := fun x hx => HS.out.lt x (HS.out.sub j hjl2 x hx).1
       have hGg : ∀ x, x ∈ G j → x ≠ g := fun x hx => (HS.out.sub j hjl2 x hx).2
       obtain ⟨W1, hW1⟩ : ∃ W1, W1 = wr.setCell ⟨g, off + j * 2, none⟩ (.int .i64 (q : Int)) := ⟨_, rfl⟩
       have hsz1 : W1.heap.size = wr.heap.size := by rw [hW1]; simp [World.setCell]
       have Hm : Hid (Calls Tryz.prog 39 #[.slice a1 l[j].vals.length cap1, .int .i64 ((q + 1 : Nat) : Int)] W1 fun e w' => e = .returned (.int .i64 ((q + 1 + l[j].vals.length : Nat) : Int)) ∧ (cSlice cInt).own (G j) w' (markI (q + 1) l[j].vals) [.slice a1 l[j].vals.length cap1] ∧ Only (G j) W1 w') :=
         markIntS_c (by omega) (fun x hx => by rw [hsz1]; exact hGlt x hx) ((cSlice cInt).keepO hv (fun x hx => by rw [hW1]; exact heap_setCell_other _ _ _ _ (hGg x hx)))
       have e0 : W1.cell? ⟨g, off + j * 2, none⟩ = some (.int .i64 (q : Int)) := by rw [hW1]; exact World.cell?_setCell_same _ _ _ c0
       have e1 : W1.cell? ⟨g, off + j * 2 + 1, none⟩ = some (.slice a1 l[j].vals.length cap1) := by rw [hW1]; exact (World.cell?_setCell_other _ _ _ _ (by simp)).trans c1
       have Hz := Lib.hid hz
       have HK2 := Lib.hid hK2
       have HW1 := Lib.hid hW1
       have HGlt := Lib.hid hGlt
       have HGg := Lib.hid hGg
       clear hc he hG hG1 hv hz hK2 hGlt hGg hlv
       obtain ⟨nv, hnv⟩ : ∃ nv, l[j].vals.length = nv := ⟨_, rfl⟩
       have Hnv := Lib.hid hnv
       rw [hnv] at Hm e1 c1 hqk
       clear hnv
       go_upto_region 6 with fail
       rw [← hW1]
       clear c0 c1 f0 hW1
       go_wp2_with fail
       refine Hm.out.mono ?_
       rintro e w2 ⟨rfl, hown, ho2⟩
       have Hown := Lib.hid hown
       have Ho2 := Lib.hid ho2
       clear hown ho2
       go_wp2
       go_roundw
       case rel =>
         have ho2 := Ho2.out
         have hgw1 : g < W1.heap.size := by rw [hsz1]; exact hgw
         have hgG : g ∉ G j := fun hg => HGg.out g hg rfl
         have hbg : w2.heap[g]? = W1.heap[g]? := ho2.block g hgw1 hgG
         have hu := HS.out.upd (w' := w2) j hjl2 (markF q l[j]) [.int .i64 (q : Int), .slice a1 nv cap1] (by rw [← hsz1]; exact ho2.size)
           (fun i => by rw [World.frozen?_of_block (w := W1) hbg, HW1.out, World.frozen?_setCell])
           (fun i hi => by
             have hn2 : cFct.n = 2 := rfl
             rw [hn2] at hi
             rw [World.cell?_of_block (w := W1) hbg, HW1.out]
             exact World.cell?_setCell_other _ _ _ _ (by intro e; simp at e <;> omega))
           (fun kk hk1 hk2 hk3 => by
             rw [ho2.block kk (by rw [hsz1]; exact HS.out.lt kk hk1) hk3, HW1.out]
             exact heap_setCell_other _ _ _ _ hk2)
           (cFct_ownMk (x := markF q l[j]) (inR_nat (by omega)) Hown.out)
           (by
             have hn2 : cFct.n = 2 := rfl
             rw [hn2]
             intro i hi
             match i, hi with
             | 0, _ => exact (World.cell?_of_block (w := W1) hbg).trans e0
             | 1, _ => exact (World.cell?_of_block (w := W1) hbg).trans e1)
         rw [hdl, set_mid dn _ _ _ j Hd.out] at hu
         obtain ⟨es2, hu⟩ : ∃ es2, SL cFct F g off G es2 _ _ := ⟨_, hu⟩
         have hM2 := HM.out
         rw [markL_drop _ _ _ _ _ hjl] at hM2
         have hlv : lvF l[j] = nv + 1 := by rw [← Hnv.out]; rfl
         have hK3 := HK2.out
         rw [hlv] at hM2 hK3
         refine ⟨j + 1, q + 1 + nv, dn ++ [markF q l[j]], es2, by omega, by go_num, by go_num, show _ = _ by omega, show _ = _ by simp [Hd.out], show _ = _ by rw [← hM2, show q + 1 + nv = q + (nv + 1) by omega]; simp, hu, ?_⟩
         exact Only.trans (H := F) (Only.trans (H := F) ho (by rw [HW1.out]; exact Only.setCell (Only.refl F wr) HgF.out _ : Only F wr W1) (fun _ h => h) (fun _ h => h)) ho2 (fun _ h => h) (fun x hx => (HS.out.sub j hjl2 x hx).1)
       case measure => simp [intOf]; omega
     · obtain rfl : j = n := by omega
       have hd : l.drop j = [] := List.drop_eq_nil_of_le (by rw [Hn.out]; exact Nat.le_refl _)
       have hM2 := HM.out
       have hS2 := HS.out
       have hK2 := HK.out
       rw [hd] at hM2 hS2 hK2
       simp only [markL, List.append_nil, lvs_nil, Nat.add_zero] at hM2 hS2 hK2
       subst hM2
       subst hK2
       have hown := hS2.own cap (by rw [Hd.out]; have hcp := Hcp.out; have hnn := Hn.out; unfold maxLen; exact ⟨by omega, by omega⟩)
       rw [Hd.out] at hown
       have Hown := Lib.hid hown
       clear hown hS2 hd
       go_wp2
       go_ret
       exact ⟨rfl, Hown.out, ho⟩
/- The laws' marks, read again in slices of facts; marks in slices of slices of numbers and in databases. -/
open Go.RowKit
theorem markL_at {α : Type} (mk : Nat → α → α) (lv : α → Nat) (q : Nat) (l M : List α) (j : Nat) (hj : j < l.length) (hM : j < M.length) (h : M.drop j = markL mk lv q (l.drop j)) : M[j] = mk q l[j] ∧ M.drop (j + 1) = markL mk lv (q + lv l[j]) (l.drop (j + 1)) := by
 rw [List.drop_eq_getElem_cons hM, markL_drop _ _ _ _ _ hj] at h
 simp only [List.cons.injEq] at h
 exact h
def markIs (k : Nat) (l : List (List Int)) : List (List Int) := markL markI List.length k l
set_option maxHeartbeats 1600000 in
theorem markIntSS_c {F : List Nat} {a : Option Addr} {cap : Nat} {l : List (List Int)} {k : Nat} {w : World} (hk : (k + lvs List.length l : Nat) ≤ 4611686018427387900) (hF : ∀ k, k ∈ F → k < w.heap.size) (h : (cSlice (cSlice cInt)).own F w l [.slice a l.length cap]) :
   Calls Tryz.prog 16 #[.slice a l.length cap, .int .i64 k] w fun e w' => e = .returned (.int .i64 ((k + lvs List.length l : Nat) : Int)) ∧ (cSlice (cSlice cInt)).own F w' (markIs k l) [.slice a l.length cap] ∧ Only F w w' := by
 have hm := (own_slice_len h).1
 have Hcp := Lib.hid (own_slice_len h).2
 rcases Nat.eq_zero_or_pos l.length with h0 | h0
 · have hl := List.eq_nil_of_length_eq_zero h0
   subst hl
   have Ho := Lib.hid h
   clear h hm h0
   simp only [List.length_nil, lvs_nil] at *
   go_enter Tryz.func16, Tryz.ntmps16
   go_wp2
   go_loopw [1, 5] (fun kv iv wr => kv = .int .i64 k ∧ iv = .int .i64 0 ∧ wr = w) (fun _ _ _ => 0)
   case atStart => exact ⟨rfl, rfl, rfl⟩
   case round =>
     obtain ⟨rfl, rfl, rfl⟩ := hrel
     go_wp2
     go_ret
     exact ⟨rfl, Ho.out, Only.refl _ _⟩
 · obtain ⟨g, off, G, es, rfl, hS⟩ := SL.of_own h hF h0
   clear h h0
   obtain ⟨n, hn⟩ : ∃ n : Nat, l.length = n := ⟨_, rfl⟩
   have Hn := Lib.hid hn
   obtain ⟨K, hK⟩ : ∃ K : Nat, k + lvs List.length l = K := ⟨_, rfl⟩
   have HK : Hid (k + lvs List.length (l.drop 0) = K) := hK
   rw [hn]
   rw [hK] at hk ⊢
   unfold maxLen at hm
   rw [hn] at hm
   clear hn hK
   generalize hM : markIs k l = M
   have HM : Hid ([] ++ markL markI List.length k (l.drop 0) = M) := hM
   have HS : Hid (SL (cSlice cInt) F g off G es w ([] ++ l.drop 0)) := hS
   have HgF : Hid (g ∈ F) := hS.gF
   clear hM hS hF
   go_enter Tryz.func16, Tryz.ntmps16
   go_wp2
   go_loopw [1, 5] (fun kv iv wr => ∃ (j q : Nat) (dn : List (List Int)) (es : Nat → List Value), j ≤ n ∧ kv = .int .i64 (q : Int) ∧ iv = .int .i64 j ∧ Hid (q + lvs List.length (l.drop j) = K) ∧ Hid (dn.length = j) ∧ Hid (dn ++ markL markI List.length q (l.drop j) = M) ∧ Hid (SL (cSlice cInt) F g off G es wr (dn ++ l.drop j)) ∧ Only F w wr) (fun _ iv _ => n - (intOf iv).toNat)
   case atStart => exact ⟨0, k, [], es, by omega, rfl, by go_num, HK, rfl, HM, HS, Only.refl _ _⟩
   case round =>
     clear HM HS HK
     obtain ⟨j, q, dn, es, hj, rfl, rfl, HK, Hd, HM, HS, ho⟩ := hrel
     by_cases hlt : j < n
     · have hjl : j < l.length := by rw [Hn.out]; exact hlt
       have hdl := List.drop_eq_getElem_cons hjl
       have hjl2 : j < (dn ++ l.drop j).length := by rw [List.length_append, List.length_drop, Hd.out]; omega
       have hel := HS.out.el j hjl2
       have hz : (dn ++ l.drop j)[j] = l[j] := by
         have := get_mid dn (l.drop (j + 1)) l[j] j Hd.out (by rw [← hdl]; exact hjl2)
         simpa only [← hdl] using this
       rw [hz] at hel
       obtain ⟨hG, hc⟩ := hel
       obtain ⟨a1, cap1, he, hv⟩ := slice_openO hG
       rw [he] at hc
       have c1 : wr.cell? ⟨g, off + j, none⟩ = some (.slice a1 l[j].length cap1) := by
         have := hc 0 (by decide)
         rw [show (cSlice cInt).n = 1 from rfl, Nat.mul_one, Nat.add_zero] at this
         exact this
       have hgw := World.block_lt_of_cell? wr _ c1
       have hK2 := HK.out
       rw [lvs_drop List.length l j hjl] at hK2
       have hqk : q + l[j].length ≤ K := by omega
       have hGlt : ∀ x, x ∈ G j → x < wr.heap.size := fun x hx => HS.out.lt x (HS.out.sub j hjl2 x hx).1
       have hGg : ∀ x, x ∈ G j → x ≠ g := fun x hx => (HS.out.sub j hjl2 x hx).2
       have Hm : Hid (Calls Tryz.prog 39 #[.slice a1 l[j].length cap1, .int .i64 (q : Int)] wr fun e w' => e = .returned (.int .i64 ((q + l[j].length : Nat) : Int)) ∧ (cSlice cInt).own (G j) w' (markI q l[j]) [.slice a1 l[j].length cap1] ∧ Only (G j) wr w') :=
         markIntS_c (by omega) hGlt hv
       have HK2 := Lib.hid hK2
       have HGg := Lib.hid hGg
       have Hc1 := Lib.hid c1
       clear hc he hG hv hz hK2 hGlt hGg
       obtain ⟨nv, hnv⟩ : ∃ nv, l[j].length = nv := ⟨_, rfl⟩
       have Hnv := Lib.hid hnv
       rw [hnv] at Hm c1 Hc1 hqk
       clear hnv
       go_wp2_with fail
       refine Hm.out.mono ?_
       rintro e w2 ⟨rfl, hown, ho2⟩
       have Hown := Lib.hid hown
       have Ho2 := Lib.hid ho2
       clear hown ho2 c1
       go_wp2
       go_roundw
       case rel =>
         have ho2 := Ho2.out
         have hgG : g ∉ G j := fun hg => HGg.out g hg rfl
         have hbg : w2.heap[g]? = wr.heap[g]? := ho2.block g hgw hgG
         have hu := HS.out.upd (w' := w2) j hjl2 (markI q l[j]) [.slice a1 nv cap1] ho2.size
           (fun i => World.frozen?_of_block (w := wr) hbg) (fun i _ => World.cell?_of_block (w := wr) hbg)
           (fun kk hk1 hk2 hk3 => ho2.block kk (HS.out.lt kk hk1) hk3) Hown.out
           (by
             rw [show (cSlice cInt).n = 1 from rfl, Nat.mul_one]
             intro i hi
             obtain rfl : i = 0 := by omega
             exact (World.cell?_of_block (w := wr) hbg).trans Hc1.out)
         rw [hdl, set_mid dn _ _ _ j Hd.out] at hu
         obtain ⟨es2, hu⟩ : ∃ es2, SL (cSlice cInt) F g off G es2 _ _ := ⟨_, hu⟩
         have hM2 := HM.out
         rw [markL_drop _ _ _ _ _ hjl] at hM2
         have hK3 := HK2.out
         rw [Hnv.out] at hM2 hK3
         refine ⟨j + 1, q + nv, dn ++ [markI q l[j]], es2, by omega, by go_num, by go_num, show _ = _ by omega, show _ = _ by simp [Hd.out], show _ = _ by rw [← hM2]; simp, hu, ?_⟩
         exact Only.trans (H := F) ho ho2 (fun _ h => h) (fun x hx => (HS.out.sub j hjl2 x hx).1)
       case measure => simp [intOf]; omega
     · obtain rfl : j = n := by omega
       have hd : l.drop j = [] := List.drop_eq_nil_of_le (by rw [Hn.out]; exact Nat.le_refl _)
       have hM2 := HM.out
       have hS2 := HS.out
       have hK2 := HK.out
       rw [hd] at hM2 hS2 hK2
       simp only [markL, List.append_nil, lvs_nil, Nat.add_zero] at hM2 hS2 hK2
       subst hM2
       subst hK2
       have hown := hS2.own cap (by rw [Hd.out]; have hcp := Hcp.out; have hnn := Hn.out; unfold maxLen; exact ⟨by omega, by omega⟩)
       rw [Hd.out] at hown
       have Hown := Lib.hid hown
       clear hown hS2 hd
       go_wp2
       go_ret
       exact ⟨rfl, Hown.out, ho⟩
/- The laws' marks in databases; read again in slices of slices of numbers. -/
open Go.RowKit
theorem at_IntSS {B : Nat} {w : World} {l : List (List Int)} {a0 : Option Addr} {len cap0 : Nat} (h : (cSlice (cSlice cInt)).ok B w l [.slice a0 len cap0]) (j : Nat) (hj : j < l.length) :
   ∃ b off a cap, a0 = some ⟨b, off, none⟩ ∧ b < B ∧ w.cell? ⟨b, off + j, none⟩ = some (.slice a l[j].length cap) ∧ (cSlice cInt).ok B w l[j] [.slice a l[j].length cap] := by
 obtain ⟨b, off, es, rfl, hb, he, hc⟩ := slice_at h j hj
 obtain ⟨a, cap, rfl, hx⟩ := slice_open he
 refine ⟨b, off, a, cap, rfl, hb, ?_, hx⟩
 have := hc 0 (by decide)
 rw [show (cSlice cInt).n = 1 from rfl, Nat.mul_one, Nat.add_zero] at this
 exact this
set_option maxHeartbeats 1600000 in
theorem heldIntSS_c {a : Option Addr} {cap : Nat} {l : List (List Int)} {k : Nat} {w : World} (hk : (k + lvs List.length l : Nat) ≤ 4611686018427387900) (h : At (cSlice (cSlice cInt)) w (markIs k l) [.slice a l.length cap]) :
   Calls Tryz.prog 17 #[.slice a l.length cap, .int .i64 k] w fun e w' => e = .returned (.int .i64 ((k + lvs List.length l : Nat) : Int)) ∧ Below w.heap.size w w' := by
 have hlen := (slice_len h).1
 have hm := (slice_len h).2
 unfold maxLen at hm
 obtain ⟨n, hn⟩ : ∃ n : Nat, l.length = n := ⟨_, rfl⟩
 obtain ⟨M, hM⟩ : ∃ M, markIs k l = M := ⟨_, rfl⟩
 have HM : Hid (M.drop 0 = markL markI List.length k (l.drop 0)) := hM.symm
 obtain ⟨K, hK⟩ : ∃ K : Nat, k + lvs List.length l = K := ⟨_, rfl⟩
 have HK : Hid (k + lvs List.length (l.drop 0) = K) := hK
 rw [hM] at h hlen hm
 have Hr : Hid (∀ w' : World, Below w.heap.size w w' → ∀ j (hj : j < M.length), _) := fun w' hb j hj => at_IntSS (Cod.ok_below h hb) j hj
 have Hlen : Hid (M.length = n) := by rw [← hn]; exact hlen.symm
 have Hn := Lib.hid hn
 rw [← hlen, hn] at hm
 rw [hn]
 rw [hK] at hk ⊢
 clear hn h hM hlen hK
 go_enter Tryz.func17, Tryz.ntmps17
 go_wp2
 go_loopw [1, 5] (fun kv iv wr => ∃ j q : Nat, j ≤ n ∧ kv = .int .i64 (q : Int) ∧ iv = .int .i64 j ∧ Hid (q + lvs List.length (l.drop j) = K) ∧ Hid (M.drop j = markL markI List.length q (l.drop j)) ∧ Below w.heap.size w wr) (fun _ iv _ => n - (intOf iv).toNat)
 case atStart => exact ⟨0, k, by omega, rfl, by go_num, HK, HM, Below.refl _ _⟩
 case round =>
   clear HM HK
   obtain ⟨j, q, hj, rfl, rfl, HK, HM, hb⟩ := hrel
   by_cases hlt : j < n
   · have hjl : j < l.length := by rw [Hn.out]; exact hlt
     have hjm : j < M.length := by rw [Hlen.out]; exact hlt
     obtain ⟨hMj, hMd⟩ := markL_at _ _ _ _ _ j hjl hjm HM.out
     have HMd := Lib.hid hMd
     obtain ⟨b, off, a1, cap1, rfl, hbB, c1, hv⟩ := Hr.out _ hb j hjm
     rw [hMj] at c1 hv
     have hvl : (markI q l[j]).length = l[j].length := markI_length _ _
     have hK2 := HK.out
     rw [lvs_drop List.length l j hjl] at hK2
     have Hc : Hid (∀ ww, Below w.heap.size wr ww → Calls Tryz.prog 40 #[.slice a1 (markI q l[j]).length cap1, .int .i64 (q : Int)] ww fun e w' => e = .returned (.int .i64 ((q + (markI q l[j]).length : Nat) : Int)) ∧ Below ww.heap.size ww w') :=
       fun ww hw2 => heldIntS_c (by rw [hvl]; omega) (fun i hi => markI_get _ _ _ hi) ((cSlice cInt).keep hv (fun k hk => hw2.block k hk) (Nat.le_trans hb.size hw2.size))
     have HK2 := Lib.hid hK2
     rw [hvl] at c1 Hc
     clear hv hvl hK2 hMj hMd
     obtain ⟨nv, hnv⟩ : ∃ nv, l[j].length = nv := ⟨_, rfl⟩
     have Hnv := Lib.hid hnv
     rw [hnv] at c1 Hc
     have hqk : q + nv ≤ K := by have := HK2.out; rw [hnv] at this; omega
     clear hnv
     have hge : decide (((q + nv : Nat) : Int) < 0) = false := decide_eq_false (by omega)
     go_wp2_with fail
     refine (Hc.out _ (Below.refl _ _)).mono ?_
     rintro e w1 ⟨rfl, hb1⟩
     go_wp2
     go_roundw
     case rel => exact ⟨j + 1, q + nv, by omega, by go_num, by go_num, show _ = _ by have := HK2.out; rw [Hnv.out] at this; omega, show _ = _ by rw [HMd.out, Hnv.out], hb.trans (hb1.mono hb.size)⟩
     case measure => simp [intOf]; omega
   · obtain rfl : j = n := by omega
     have hd : l.drop j = [] := List.drop_eq_nil_of_le (by rw [Hn.out]; exact Nat.le_refl _)
     have hK2 := HK.out
     rw [hd, lvs_nil, Nat.add_zero] at hK2
     subst hK2
     go_wp2
     go_ret
     exact ⟨rfl, hb⟩
theorem cDbs_ownI {F : List Nat} {w : World} {x : Dbs} {v0 v1 : Value} (h : cDbs.own F w x [v0, v1]) : ∃ F1 F2, F = F1 ++ F2 ∧ (cSlice cRel).own F1 w x.rels [v0] ∧ (cSlice cFct).own F2 w x.facts [v1] ∧ ∀ k, k ∈ F1 → k ∉ F2 := by
 obtain ⟨u, v, F1, F2, e, h1, h2, rfl, hd⟩ := h
 have h1' := h1
 have h2' := h2
 obtain ⟨_, _, rfl, _⟩ := h1'
 obtain ⟨_, _, rfl, _⟩ := h2'
 simp at e
 obtain ⟨rfl, rfl⟩ := e
 exact ⟨F1, F2, rfl, h1, h2, hd⟩
def markD (k : Nat) (x : Dbs) : Dbs := ⟨markRs k x.rels, markFs (k + x.rels.length * 3) x.facts⟩
def lvD (x : Dbs) : Nat := x.rels.length * 3 + lvs lvF x.facts
theorem lvs_lvF (l : List Fct) : lvs lvF l = sumFact l + l.length := by
 induction l with
 | nil => rfl
 | cons x l ih =>
   unfold lvs sumFact at *
   rw [List.map_cons, List.sum_cons, ih, List.map_cons, List.sum_cons, List.length_cons]
   show x.vals.length + 1 + _ = _
   omega
theorem lvD_le (x : Dbs) : lvD x ≤ 3 * sizeDatabase x := by
 unfold lvD sizeDatabase sizeRelationS sizeFactS
 rw [lvs_lvF]
 omega
set_option maxHeartbeats 800000 in
theorem markDatabase_c {F : List Nat} {a0 a1 : Option Addr} {cap0 cap1 : Nat} {x : Dbs} {k : Nat} {w : World} (h1 : 1 ≤ k) (hk : (k + lvD x : Nat) ≤ 4611686018427387900) (hF : ∀ k, k ∈ F → k < w.heap.size)
   (h : cDbs.own F w x [.slice a0 x.rels.length cap0, .slice a1 x.facts.length cap1]) :
   Calls Tryz.prog 14 #[.agg #[.slice a0 x.rels.length cap0, .slice a1 x.facts.length cap1], .int .i64 k] w fun e w' => e = .returned (.int .i64 ((k + lvD x : Nat) : Int)) ∧ cDbs.own F w' (markD k x) [.slice a0 x.rels.length cap0, .slice a1 x.facts.length cap1] ∧ Only F w w' := by
 obtain ⟨F1, F2, rfl, o1, o2, hd⟩ := cDbs_ownI h
 have hF1 : ∀ k, k ∈ F1 → k < w.heap.size := fun k hk => hF k (List.mem_append_left _ hk)
 have hF2 : ∀ k, k ∈ F2 → k < w.heap.size := fun k hk => hF k (List.mem_append_right _ hk)
 unfold lvD at hk ⊢
 have H1 : Hid (∀ ww, Below w.heap.size w ww → Calls Tryz.prog 37 #[.slice a0 x.rels.length cap0, .int .i64 k] ww fun e w' => e = .returned (.int .i64 ((k + x.rels.length * 3 : Nat) : Int)) ∧ (cSlice cRel).own F1 w' (markRs k x.rels) [.slice a0 x.rels.length cap0] ∧ Only F1 ww w') :=
   fun ww hb => markRelationS_c h1 (by omega) (fun q hq => Nat.lt_of_lt_of_le (hF1 q hq) hb.size) ((cSlice cRel).keepO o1 (fun q hq => hb.block q (hF1 q hq)))
 have H2 : Hid (∀ ww, Only F1 w ww → Calls Tryz.prog 38 #[.slice a1 x.facts.length cap1, .int .i64 ((k + x.rels.length * 3 : Nat) : Int)] ww fun e w' => e = .returned (.int .i64 ((k + x.rels.length * 3 + lvs lvF x.facts : Nat) : Int)) ∧ (cSlice cFct).own F2 w' (markFs (k + x.rels.length * 3) x.facts) [.slice a1 x.facts.length cap1] ∧ Only F2 ww w') :=
   fun ww ho => markFactS_c (by omega) (fun q hq => Nat.lt_of_lt_of_le (hF2 q hq) ho.size) ((cSlice cFct).keepO o2 (fun q hq => ho.block q (hF2 q hq) (fun h => hd q h hq)))
 have Hd := Lib.hid hd
 have HF1 := Lib.hid hF1
 clear h o1 o2 hd hF hF1 hF2
 obtain ⟨rs, fs⟩ := x
 simp only at *
 go_enter Tryz.func14, Tryz.ntmps14
 go_wp2_with fail
 obtain ⟨wx, hb0, p1, hwx⟩ : ∃ wx, Below w.heap.size w wx ∧ wx.cell? ⟨w.heap.size, 1, none⟩ = some (.slice a1 fs.length cap1) ∧ w.alloc (Obj.cells #[.slice a0 rs.length cap0, .slice a1 fs.length cap1] 34) = wx := ⟨_, by go_grown, by go_simp, rfl⟩
 rw [hwx]
 clear hwx
 refine (H1.out _ hb0).mono ?_
 rintro e w1 ⟨rfl, hown1, ho1⟩
 have hlt := World.block_lt_of_cell? wx _ p1
 have q1 : w1.cell? ⟨w.heap.size, 1, none⟩ = some (.slice a1 fs.length cap1) := (World.cell?_of_block (w := wx) (ho1.block w.heap.size hlt (fun h => by have := HF1.out _ h; omega))).trans p1
 have hw1 : Only F1 w w1 := Only.trans (H := F1) (Only.of_below (F := F1) hb0) ho1 (fun _ h => h) (fun _ h => h)
 have Hown1 := Lib.hid hown1
 clear hown1 ho1 p1
 go_wp2_with fail
 refine (H2.out _ hw1).mono ?_
 rintro e w2 ⟨rfl, hown2, ho2⟩
 have Hown2 := Lib.hid hown2
 have Ho2 := Lib.hid ho2
 clear hown2 ho2 q1
 go_wp2
 go_ret
 refine ⟨by rw [← Nat.add_assoc]; rfl, ⟨[_], [_], F1, F2, rfl, (cSlice cRel).keepO Hown1.out (fun q hq => Ho2.out.block q (Nat.lt_of_lt_of_le (HF1.out q hq) hw1.size) (Hd.out q hq)), Hown2.out, rfl, Hd.out⟩, ?_⟩
 exact Only.trans (H := F1 ++ F2) hw1 Ho2.out (fun _ h => List.mem_append_left _ h) (fun _ h => List.mem_append_right _ h)
end

section
/- The laws' marks in slices of structs of numbers. Written by gen/markflat.py. -/
open Go.RowKit
def markE (k : Nat) (_ : Edg) : Edg := ⟨((k : Nat) : Int), ((k + 1 : Nat) : Int)⟩
def markEs (k : Nat) (l : List Edg) : List Edg := markL markE (fun _ => 2) k l
theorem cEdg_own_nil {F : List Nat} {w : World} {x : Edg} {cs : List Value} (h : cEdg.own F w x cs) : F = [] := by
 obtain ⟨_, _, F1, F2, _, ⟨_, rfl⟩, ⟨_, rfl⟩, rfl, _⟩ := h
 rfl
set_option maxHeartbeats 1600000 in
theorem markConflictEdgeS_c {F : List Nat} {a : Option Addr} {cap : Nat} {l : List Edg} {k : Nat} {w : World} (hk : (k + l.length * 2 : Nat) ≤ 4611686018427387900) (hF : ∀ k, k ∈ F → k < w.heap.size) (h : (cSlice cEdg).own F w l [.slice a l.length cap]) :
   Calls Tryz.prog 23 #[.slice a l.length cap, .int .i64 k] w fun e w' => e = .returned (.int .i64 ((k + l.length * 2 : Nat) : Int)) ∧ (cSlice cEdg).own F w' (markEs k l) [.slice a l.length cap] ∧ Only F w w' := by
 have hm := (own_slice_len h).1
 have Hcp := Lib.hid (own_slice_len h).2
 rcases Nat.eq_zero_or_pos l.length with h0 | h0
 · have hl := List.eq_nil_of_length_eq_zero h0
   subst hl
   have Ho := Lib.hid h
   clear h hm h0
   simp only [List.length_nil] at *
   go_enter Tryz.func23, Tryz.ntmps23
   go_wp2
   go_loopw [1, 5] (fun kv iv wr => kv = .int .i64 k ∧ iv = .int .i64 0 ∧ wr = w) (fun _ _ _ => 0)
   case atStart => exact ⟨rfl, rfl, rfl⟩
   case round =>
     obtain ⟨rfl, rfl, rfl⟩ := hrel
     go_wp2
     go_ret
     exact ⟨rfl, Ho.out, Only.refl _ _⟩
 · obtain ⟨g, off, G, es, rfl, hS⟩ := SL.of_own h hF h0
   clear h h0
   obtain ⟨n, hn⟩ : ∃ n : Nat, l.length = n := ⟨_, rfl⟩
   have Hn := Lib.hid hn
   rw [hn] at hk ⊢
   unfold maxLen at hm
   rw [hn] at hm
   clear hn
   generalize hM : markEs k l = M
   have HM : Hid ([] ++ markL markE (fun _ => 2) k (l.drop 0) = M) := hM
   have HS : Hid (SL cEdg F g off G es w ([] ++ l.drop 0)) := hS
   have HgF : Hid (g ∈ F) := hS.gF
   clear hM hS hF
   go_enter Tryz.func23, Tryz.ntmps23
   go_wp2
   go_loopw [1, 5] (fun kv iv wr => ∃ (j : Nat) (dn : List Edg) (es : Nat → List Value), j ≤ n ∧ kv = .int .i64 ((k + j * 2 : Nat) : Int) ∧ iv = .int .i64 j ∧ Hid (dn.length = j) ∧ Hid (dn ++ markL markE (fun _ => 2) (k + j * 2) (l.drop j) = M) ∧ Hid (SL cEdg F g off G es wr (dn ++ l.drop j)) ∧ Only F w wr) (fun _ iv _ => n - (intOf iv).toNat)
   case atStart => exact ⟨0, [], es, by omega, by go_num, by go_num, rfl, HM, HS, Only.refl _ _⟩
   case round =>
     clear HM HS
     obtain ⟨j, dn, es, hj, rfl, rfl, Hd, HM, HS, ho⟩ := hrel
     by_cases hlt : j < n
     · have hjl : j < l.length := by rw [Hn.out]; exact hlt
       have hdl := List.drop_eq_getElem_cons hjl
       have hjl2 : j < (dn ++ l.drop j).length := by rw [List.length_append, List.length_drop, Hd.out]; omega
       have hel := HS.out.el j hjl2
       have hfr : ∀ i, i < 2 → wr.frozen? ⟨g, off + j * 2 + i, none⟩ = false := by
         intro i hi
         have := HS.out.fr (j * 2 + i) (by show _ < _ * 2; omega)
         rw [← Nat.add_assoc] at this
         exact this
       obtain ⟨hG, hc⟩ := hel
       have he := (cEdg_open (cEdg.ofO (B := F.sum + g + 1) hG (fun kk hkk => by have := le_sum (HS.out.sub j hjl2 kk hkk).1; omega))).1
       rw [he] at hc hG
       generalize (dn ++ l.drop j)[j] = z at hc hG
       have c0 : wr.cell? ⟨g, off + j * 2, none⟩ = some (.int .i64 z.a) := by exact hc 0 (by decide)
       have c1 : wr.cell? ⟨g, off + j * 2 + 1, none⟩ = some (.int .i64 z.b) := by exact hc 1 (by decide)
       have f0 : wr.frozen? ⟨g, off + j * 2, none⟩ = false := hfr 0 (by decide)
       have f1 : wr.frozen? ⟨g, off + j * 2 + 1, none⟩ = false := hfr 1 (by decide)
       have hgw := World.block_lt_of_cell? wr _ c0
       have HG := Lib.hid hG
       clear hc he hG hfr
       go_wp2
       go_roundw
       case rel =>
         have hGj : G j = [] := cEdg_own_nil HG.out
         have e0 := World.cell?_setCell_same wr _ (.int .i64 ((k + j * 2 : Nat) : Int)) (c0)
         have e1 := World.cell?_setCell_same (wr.setCell ⟨g, off + j * 2, none⟩ (.int .i64 ((k + j * 2 : Nat) : Int))) _ (.int .i64 ((k + j * 2 + 1 : Nat) : Int)) ((World.cell?_setCell_other _ ⟨g, off + j * 2, none⟩ ⟨g, off + j * 2 + 1, none⟩ (.int .i64 ((k + j * 2 : Nat) : Int)) (by simp)).trans (c1))
         have hu := HS.out.upd (w' := ((wr.setCell ⟨g, off + j * 2, none⟩ (.int .i64 ((k + j * 2 : Nat) : Int))).setCell ⟨g, off + j * 2 + 1, none⟩ (.int .i64 ((k + j * 2 + 1 : Nat) : Int)))) j hjl2
           (markE (k + j * 2) z) [.int .i64 ((k + j * 2 : Nat) : Int), .int .i64 ((k + j * 2 + 1 : Nat) : Int)] (by simp only [World.setCell, Array.size_modify]; exact Nat.le_refl _)
           (fun i => by rw [World.frozen?_setCell, World.frozen?_setCell])
           (fun i hi => by
             have hn3 : cEdg.n = 2 := rfl
             rw [hn3] at hi
             rw [World.cell?_setCell_other _ _ _ _ (by intro e; simp at e <;> omega), World.cell?_setCell_other _ _ _ _ (by intro e; simp at e <;> omega)])
           (fun kk hk1 hk2 _ => by
             rw [heap_setCell_other _ _ _ _ hk2, heap_setCell_other _ _ _ _ hk2])
           (by rw [hGj]; exact ⟨[_], _, [], [], rfl, ⟨⟨rfl, inR_nat (by omega)⟩, rfl⟩, ⟨⟨rfl, inR_nat (by omega)⟩, rfl⟩, rfl, fun _ h => by cases h⟩)
           (by
             have hn3 : cEdg.n = 2 := rfl
             rw [hn3]
             intro i hi
             match i, hi with
             | 0, _ => exact (World.cell?_setCell_other _ _ _ _ (by simp)).trans (e0)
             | 1, _ => exact e1)
         rw [hdl, set_mid dn _ _ _ j Hd.out] at hu
         have hM2 := HM.out
         rw [markL_drop _ _ _ _ _ hjl] at hM2
         obtain ⟨es2, hu⟩ : ∃ es2, SL cEdg F g off G es2 _ _ := ⟨_, hu⟩
         refine ⟨j + 1, dn ++ [markE (k + j * 2) z], es2, by omega, by go_num, by go_num, show _ = _ by simp [Hd.out], show _ = _ by rw [← hM2, show k + (j + 1) * 2 = k + j * 2 + 2 by omega]; simp [markE], ?_, (Only.setCell (p := ⟨g, off + j * 2 + 1, none⟩) (Only.setCell (p := ⟨g, off + j * 2, none⟩) ho HgF.out _) HgF.out _)⟩
         exact hu
       case measure => simp [intOf]; omega
     · obtain rfl : j = n := by omega
       have hd : l.drop j = [] := List.drop_eq_nil_of_le (by rw [Hn.out]; exact Nat.le_refl _)
       have hM2 := HM.out
       have hS2 := HS.out
       rw [hd] at hM2 hS2
       simp only [markL, List.append_nil] at hM2 hS2
       subst hM2
       have hown := hS2.own cap (by rw [Hd.out]; have hcp := Hcp.out; have hnn := Hn.out; unfold maxLen; exact ⟨by omega, by omega⟩)
       rw [Hd.out] at hown
       have Hown := Lib.hid hown
       clear hown hS2 hd
       go_wp2
       go_ret
       exact ⟨rfl, Hown.out, ho⟩
end

section
/- The laws' marks in slices of structs of numbers. Written by gen/markflat.py. -/
open Go.RowKit
def markC (k : Nat) (_ : Dcn) : Dcn := ⟨((k : Nat) : Int), ((k + 1 : Nat) : Int), ((k + 2 : Nat) : Int), ((k + 3 : Nat) : Int), ((k + 4 : Nat) : Int), ((k + 5 : Nat) : Int), ((k + 6 : Nat) : Int)⟩
def markCs (k : Nat) (l : List Dcn) : List Dcn := markL markC (fun _ => 7) k l
theorem cDcn_own_nil {F : List Nat} {w : World} {x : Dcn} {cs : List Value} (h : cDcn.own F w x cs) : F = [] := by
 obtain ⟨_, _, F1, F2, _, ⟨_, rfl⟩, ⟨_, _, F3, F4, _, ⟨_, rfl⟩, ⟨_, _, F5, F6, _, ⟨_, rfl⟩, ⟨_, _, F7, F8, _, ⟨_, rfl⟩, ⟨_, _, F9, F10, _, ⟨_, rfl⟩, ⟨_, _, F11, F12, _, ⟨_, rfl⟩, ⟨_, rfl⟩, rfl, _⟩, rfl, _⟩, rfl, _⟩, rfl, _⟩, rfl, _⟩, rfl, _⟩ := h
 rfl
set_option maxHeartbeats 1600000 in
theorem markDenialConstraintS_c {F : List Nat} {a : Option Addr} {cap : Nat} {l : List Dcn} {k : Nat} {w : World} (hk : (k + l.length * 7 : Nat) ≤ 4611686018427387900) (hF : ∀ k, k ∈ F → k < w.heap.size) (h : (cSlice cDcn).own F w l [.slice a l.length cap]) :
   Calls Tryz.prog 15 #[.slice a l.length cap, .int .i64 k] w fun e w' => e = .returned (.int .i64 ((k + l.length * 7 : Nat) : Int)) ∧ (cSlice cDcn).own F w' (markCs k l) [.slice a l.length cap] ∧ Only F w w' := by
 have hm := (own_slice_len h).1
 have Hcp := Lib.hid (own_slice_len h).2
 rcases Nat.eq_zero_or_pos l.length with h0 | h0
 · have hl := List.eq_nil_of_length_eq_zero h0
   subst hl
   have Ho := Lib.hid h
   clear h hm h0
   simp only [List.length_nil] at *
   go_enter Tryz.func15, Tryz.ntmps15
   go_wp2
   go_loopw [1, 5] (fun kv iv wr => kv = .int .i64 k ∧ iv = .int .i64 0 ∧ wr = w) (fun _ _ _ => 0)
   case atStart => exact ⟨rfl, rfl, rfl⟩
   case round =>
     obtain ⟨rfl, rfl, rfl⟩ := hrel
     go_wp2
     go_ret
     exact ⟨rfl, Ho.out, Only.refl _ _⟩
 · obtain ⟨g, off, G, es, rfl, hS⟩ := SL.of_own h hF h0
   clear h h0
   obtain ⟨n, hn⟩ : ∃ n : Nat, l.length = n := ⟨_, rfl⟩
   have Hn := Lib.hid hn
   rw [hn] at hk ⊢
   unfold maxLen at hm
   rw [hn] at hm
   clear hn
   generalize hM : markCs k l = M
   have HM : Hid ([] ++ markL markC (fun _ => 7) k (l.drop 0) = M) := hM
   have HS : Hid (SL cDcn F g off G es w ([] ++ l.drop 0)) := hS
   have HgF : Hid (g ∈ F) := hS.gF
   clear hM hS hF
   go_enter Tryz.func15, Tryz.ntmps15
   go_wp2
   go_loopw [1, 5] (fun kv iv wr => ∃ (j : Nat) (dn : List Dcn) (es : Nat → List Value), j ≤ n ∧ kv = .int .i64 ((k + j * 7 : Nat) : Int) ∧ iv = .int .i64 j ∧ Hid (dn.length = j) ∧ Hid (dn ++ markL markC (fun _ => 7) (k + j * 7) (l.drop j) = M) ∧ Hid (SL cDcn F g off G es wr (dn ++ l.drop j)) ∧ Only F w wr) (fun _ iv _ => n - (intOf iv).toNat)
   case atStart => exact ⟨0, [], es, by omega, by go_num, by go_num, rfl, HM, HS, Only.refl _ _⟩
   case round =>
     clear HM HS
     obtain ⟨j, dn, es, hj, rfl, rfl, Hd, HM, HS, ho⟩ := hrel
     by_cases hlt : j < n
     · have hjl : j < l.length := by rw [Hn.out]; exact hlt
       have hdl := List.drop_eq_getElem_cons hjl
       have hjl2 : j < (dn ++ l.drop j).length := by rw [List.length_append, List.length_drop, Hd.out]; omega
       have hel := HS.out.el j hjl2
       have hfr : ∀ i, i < 7 → wr.frozen? ⟨g, off + j * 7 + i, none⟩ = false := by
         intro i hi
         have := HS.out.fr (j * 7 + i) (by show _ < _ * 7; omega)
         rw [← Nat.add_assoc] at this
         exact this
       obtain ⟨hG, hc⟩ := hel
       have he := (cDcn_open (cDcn.ofO (B := F.sum + g + 1) hG (fun kk hkk => by have := le_sum (HS.out.sub j hjl2 kk hkk).1; omega))).1
       rw [he] at hc hG
       generalize (dn ++ l.drop j)[j] = z at hc hG
       have c0 : wr.cell? ⟨g, off + j * 7, none⟩ = some (.int .i64 z.r1) := by exact hc 0 (by decide)
       have c1 : wr.cell? ⟨g, off + j * 7 + 1, none⟩ = some (.int .i64 z.r2) := by exact hc 1 (by decide)
       have c2 : wr.cell? ⟨g, off + j * 7 + 2, none⟩ = some (.int .i64 z.j1) := by exact hc 2 (by decide)
       have c3 : wr.cell? ⟨g, off + j * 7 + 3, none⟩ = some (.int .i64 z.j2) := by exact hc 3 (by decide)
       have c4 : wr.cell? ⟨g, off + j * 7 + 4, none⟩ = some (.int .i64 z.c1) := by exact hc 4 (by decide)
       have c5 : wr.cell? ⟨g, off + j * 7 + 5, none⟩ = some (.int .i64 z.c2) := by exact hc 5 (by decide)
       have c6 : wr.cell? ⟨g, off + j * 7 + 6, none⟩ = some (.int .i64 z.cmp) := by exact hc 6 (by decide)
       have f0 : wr.frozen? ⟨g, off + j * 7, none⟩ = false := hfr 0 (by decide)
       have f1 : wr.frozen? ⟨g, off + j * 7 + 1, none⟩ = false := hfr 1 (by decide)
       have f2 : wr.frozen? ⟨g, off + j * 7 + 2, none⟩ = false := hfr 2 (by decide)
       have f3 : wr.frozen? ⟨g, off + j * 7 + 3, none⟩ = false := hfr 3 (by decide)
       have f4 : wr.frozen? ⟨g, off + j * 7 + 4, none⟩ = false := hfr 4 (by decide)
       have f5 : wr.frozen? ⟨g, off + j * 7 + 5, none⟩ = false := hfr 5 (by decide)
       have f6 : wr.frozen? ⟨g, off + j * 7 + 6, none⟩ = false := hfr 6 (by decide)
       have hgw := World.block_lt_of_cell? wr _ c0
       have HG := Lib.hid hG
       clear hc he hG hfr
       go_wp2
       go_roundw
       case rel =>
         have hGj : G j = [] := cDcn_own_nil HG.out
         have e0 := World.cell?_setCell_same wr _ (.int .i64 ((k + j * 7 : Nat) : Int)) (c0)
         have e1 := World.cell?_setCell_same (wr.setCell ⟨g, off + j * 7, none⟩ (.int .i64 ((k + j * 7 : Nat) : Int))) _ (.int .i64 ((k + j * 7 + 1 : Nat) : Int)) ((World.cell?_setCell_other _ ⟨g, off + j * 7, none⟩ ⟨g, off + j * 7 + 1, none⟩ (.int .i64 ((k + j * 7 : Nat) : Int)) (by simp)).trans (c1))
         have e2 := World.cell?_setCell_same ((wr.setCell ⟨g, off + j * 7, none⟩ (.int .i64 ((k + j * 7 : Nat) : Int))).setCell ⟨g, off + j * 7 + 1, none⟩ (.int .i64 ((k + j * 7 + 1 : Nat) : Int))) _ (.int .i64 ((k + j * 7 + 2 : Nat) : Int)) ((World.cell?_setCell_other _ ⟨g, off + j * 7 + 1, none⟩ ⟨g, off + j * 7 + 2, none⟩ (.int .i64 ((k + j * 7 + 1 : Nat) : Int)) (by simp)).trans ((World.cell?_setCell_other _ ⟨g, off + j * 7, none⟩ ⟨g, off + j * 7 + 2, none⟩ (.int .i64 ((k + j * 7 : Nat) : Int)) (by simp)).trans (c2)))
         have e3 := World.cell?_setCell_same (((wr.setCell ⟨g, off + j * 7, none⟩ (.int .i64 ((k + j * 7 : Nat) : Int))).setCell ⟨g, off + j * 7 + 1, none⟩ (.int .i64 ((k + j * 7 + 1 : Nat) : Int))).setCell ⟨g, off + j * 7 + 2, none⟩ (.int .i64 ((k + j * 7 + 2 : Nat) : Int))) _ (.int .i64 ((k + j * 7 + 3 : Nat) : Int)) ((World.cell?_setCell_other _ ⟨g, off + j * 7 + 2, none⟩ ⟨g, off + j * 7 + 3, none⟩ (.int .i64 ((k + j * 7 + 2 : Nat) : Int)) (by simp)).trans ((World.cell?_setCell_other _ ⟨g, off + j * 7 + 1, none⟩ ⟨g, off + j * 7 + 3, none⟩ (.int .i64 ((k + j * 7 + 1 : Nat) : Int)) (by simp)).trans ((World.cell?_setCell_other _ ⟨g, off + j * 7, none⟩ ⟨g, off + j * 7 + 3, none⟩ (.int .i64 ((k + j * 7 : Nat) : Int)) (by simp)).trans (c3))))
         have e4 := World.cell?_setCell_same ((((wr.setCell ⟨g, off + j * 7, none⟩ (.int .i64 ((k + j * 7 : Nat) : Int))).setCell ⟨g, off + j * 7 + 1, none⟩ (.int .i64 ((k + j * 7 + 1 : Nat) : Int))).setCell ⟨g, off + j * 7 + 2, none⟩ (.int .i64 ((k + j * 7 + 2 : Nat) : Int))).setCell ⟨g, off + j * 7 + 3, none⟩ (.int .i64 ((k + j * 7 + 3 : Nat) : Int))) _ (.int .i64 ((k + j * 7 + 4 : Nat) : Int)) ((World.cell?_setCell_other _ ⟨g, off + j * 7 + 3, none⟩ ⟨g, off + j * 7 + 4, none⟩ (.int .i64 ((k + j * 7 + 3 : Nat) : Int)) (by simp)).trans ((World.cell?_setCell_other _ ⟨g, off + j * 7 + 2, none⟩ ⟨g, off + j * 7 + 4, none⟩ (.int .i64 ((k + j * 7 + 2 : Nat) : Int)) (by simp)).trans ((World.cell?_setCell_other _ ⟨g, off + j * 7 + 1, none⟩ ⟨g, off + j * 7 + 4, none⟩ (.int .i64 ((k + j * 7 + 1 : Nat) : Int)) (by simp)).trans ((World.cell?_setCell_other _ ⟨g, off + j * 7, none⟩ ⟨g, off + j * 7 + 4, none⟩ (.int .i64 ((k + j * 7 : Nat) : Int)) (by simp)).trans (c4)))))
         have e5 := World.cell?_setCell_same (((((wr.setCell ⟨g, off + j * 7, none⟩ (.int .i64 ((k + j * 7 : Nat) : Int))).setCell ⟨g, off + j * 7 + 1, none⟩ (.int .i64 ((k + j * 7 + 1 : Nat) : Int))).setCell ⟨g, off + j * 7 + 2, none⟩ (.int .i64 ((k + j * 7 + 2 : Nat) : Int))).setCell ⟨g, off + j * 7 + 3, none⟩ (.int .i64 ((k + j * 7 + 3 : Nat) : Int))).setCell ⟨g, off + j * 7 + 4, none⟩ (.int .i64 ((k + j * 7 + 4 : Nat) : Int))) _ (.int .i64 ((k + j * 7 + 5 : Nat) : Int)) ((World.cell?_setCell_other _ ⟨g, off + j * 7 + 4, none⟩ ⟨g, off + j * 7 + 5, none⟩ (.int .i64 ((k + j * 7 + 4 : Nat) : Int)) (by simp)).trans ((World.cell?_setCell_other _ ⟨g, off + j * 7 + 3, none⟩ ⟨g, off + j * 7 + 5, none⟩ (.int .i64 ((k + j * 7 + 3 : Nat) : Int)) (by simp)).trans ((World.cell?_setCell_other _ ⟨g, off + j * 7 + 2, none⟩ ⟨g, off + j * 7 + 5, none⟩ (.int .i64 ((k + j * 7 + 2 : Nat) : Int)) (by simp)).trans ((World.cell?_setCell_other _ ⟨g, off + j * 7 + 1, none⟩ ⟨g, off + j * 7 + 5, none⟩ (.int .i64 ((k + j * 7 + 1 : Nat) : Int)) (by simp)).trans ((World.cell?_setCell_other _ ⟨g, off + j * 7, none⟩ ⟨g, off + j * 7 + 5, none⟩ (.int .i64 ((k + j * 7 : Nat) : Int)) (by simp)).trans (c5))))))
         have e6 := World.cell?_setCell_same ((((((wr.setCell ⟨g, off + j * 7, none⟩ (.int .i64 ((k + j * 7 : Nat) : Int))).setCell ⟨g, off + j * 7 + 1, none⟩ (.int .i64 ((k + j * 7 + 1 : Nat) : Int))).setCell ⟨g, off + j * 7 + 2, none⟩ (.int .i64 ((k + j * 7 + 2 : Nat) : Int))).setCell ⟨g, off + j * 7 + 3, none⟩ (.int .i64 ((k + j * 7 + 3 : Nat) : Int))).setCell ⟨g, off + j * 7 + 4, none⟩ (.int .i64 ((k + j * 7 + 4 : Nat) : Int))).setCell ⟨g, off + j * 7 + 5, none⟩ (.int .i64 ((k + j * 7 + 5 : Nat) : Int))) _ (.int .i64 ((k + j * 7 + 6 : Nat) : Int)) ((World.cell?_setCell_other _ ⟨g, off + j * 7 + 5, none⟩ ⟨g, off + j * 7 + 6, none⟩ (.int .i64 ((k + j * 7 + 5 : Nat) : Int)) (by simp)).trans ((World.cell?_setCell_other _ ⟨g, off + j * 7 + 4, none⟩ ⟨g, off + j * 7 + 6, none⟩ (.int .i64 ((k + j * 7 + 4 : Nat) : Int)) (by simp)).trans ((World.cell?_setCell_other _ ⟨g, off + j * 7 + 3, none⟩ ⟨g, off + j * 7 + 6, none⟩ (.int .i64 ((k + j * 7 + 3 : Nat) : Int)) (by simp)).trans ((World.cell?_setCell_other _ ⟨g, off + j * 7 + 2, none⟩ ⟨g, off + j * 7 + 6, none⟩ (.int .i64 ((k + j * 7 + 2 : Nat) : Int)) (by simp)).trans ((World.cell?_setCell_other _ ⟨g, off + j * 7 + 1, none⟩ ⟨g, off + j * 7 + 6, none⟩ (.int .i64 ((k + j * 7 + 1 : Nat) : Int)) (by simp)).trans ((World.cell?_setCell_other _ ⟨g, off + j * 7, none⟩ ⟨g, off + j * 7 + 6, none⟩ (.int .i64 ((k + j * 7 : Nat) : Int)) (by simp)).trans (c6)))))))
         have hu := HS.out.upd (w' := (((((((wr.setCell ⟨g, off + j * 7, none⟩ (.int .i64 ((k + j * 7 : Nat) : Int))).setCell ⟨g, off + j * 7 + 1, none⟩ (.int .i64 ((k + j * 7 + 1 : Nat) : Int))).setCell ⟨g, off + j * 7 + 2, none⟩ (.int .i64 ((k + j * 7 + 2 : Nat) : Int))).setCell ⟨g, off + j * 7 + 3, none⟩ (.int .i64 ((k + j * 7 + 3 : Nat) : Int))).setCell ⟨g, off + j * 7 + 4, none⟩ (.int .i64 ((k + j * 7 + 4 : Nat) : Int))).setCell ⟨g, off + j * 7 + 5, none⟩ (.int .i64 ((k + j * 7 + 5 : Nat) : Int))).setCell ⟨g, off + j * 7 + 6, none⟩ (.int .i64 ((k + j * 7 + 6 : Nat) : Int)))) j hjl2
           (markC (k + j * 7) z) [.int .i64 ((k + j * 7 : Nat) : Int), .int .i64 ((k + j * 7 + 1 : Nat) : Int), .int .i64 ((k + j * 7 + 2 : Nat) : Int), .int .i64 ((k + j * 7 + 3 : Nat) : Int), .int .i64 ((k + j * 7 + 4 : Nat) : Int), .int .i64 ((k + j * 7 + 5 : Nat) : Int), .int .i64 ((k + j * 7 + 6 : Nat) : Int)] (by simp only [World.setCell, Array.size_modify]; exact Nat.le_refl _)
           (fun i => by rw [World.frozen?_setCell, World.frozen?_setCell, World.frozen?_setCell, World.frozen?_setCell, World.frozen?_setCell, World.frozen?_setCell, World.frozen?_setCell])
           (fun i hi => by
             have hn3 : cDcn.n = 7 := rfl
             rw [hn3] at hi
             rw [World.cell?_setCell_other _ _ _ _ (by intro e; simp at e <;> omega), World.cell?_setCell_other _ _ _ _ (by intro e; simp at e <;> omega), World.cell?_setCell_other _ _ _ _ (by intro e; simp at e <;> omega), World.cell?_setCell_other _ _ _ _ (by intro e; simp at e <;> omega), World.cell?_setCell_other _ _ _ _ (by intro e; simp at e <;> omega), World.cell?_setCell_other _ _ _ _ (by intro e; simp at e <;> omega), World.cell?_setCell_other _ _ _ _ (by intro e; simp at e <;> omega)])
           (fun kk hk1 hk2 _ => by
             rw [heap_setCell_other _ _ _ _ hk2, heap_setCell_other _ _ _ _ hk2, heap_setCell_other _ _ _ _ hk2, heap_setCell_other _ _ _ _ hk2, heap_setCell_other _ _ _ _ hk2, heap_setCell_other _ _ _ _ hk2, heap_setCell_other _ _ _ _ hk2])
           (by rw [hGj]; exact ⟨[_], _, [], [], rfl, ⟨⟨rfl, inR_nat (by omega)⟩, rfl⟩, ⟨[_], _, [], [], rfl, ⟨⟨rfl, inR_nat (by omega)⟩, rfl⟩, ⟨[_], _, [], [], rfl, ⟨⟨rfl, inR_nat (by omega)⟩, rfl⟩, ⟨[_], _, [], [], rfl, ⟨⟨rfl, inR_nat (by omega)⟩, rfl⟩, ⟨[_], _, [], [], rfl, ⟨⟨rfl, inR_nat (by omega)⟩, rfl⟩, ⟨[_], _, [], [], rfl, ⟨⟨rfl, inR_nat (by omega)⟩, rfl⟩, ⟨⟨rfl, inR_nat (by omega)⟩, rfl⟩, rfl, fun _ h => by cases h⟩, rfl, fun _ h => by cases h⟩, rfl, fun _ h => by cases h⟩, rfl, fun _ h => by cases h⟩, rfl, fun _ h => by cases h⟩, rfl, fun _ h => by cases h⟩)
           (by
             have hn3 : cDcn.n = 7 := rfl
             rw [hn3]
             intro i hi
             match i, hi with
             | 0, _ => exact (World.cell?_setCell_other _ _ _ _ (by simp)).trans ((World.cell?_setCell_other _ _ _ _ (by simp)).trans ((World.cell?_setCell_other _ _ _ _ (by simp)).trans ((World.cell?_setCell_other _ _ _ _ (by simp)).trans ((World.cell?_setCell_other _ _ _ _ (by simp)).trans ((World.cell?_setCell_other _ _ _ _ (by simp)).trans (e0))))))
             | 1, _ => exact (World.cell?_setCell_other _ _ _ _ (by simp)).trans ((World.cell?_setCell_other _ _ _ _ (by simp)).trans ((World.cell?_setCell_other _ _ _ _ (by simp)).trans ((World.cell?_setCell_other _ _ _ _ (by simp)).trans ((World.cell?_setCell_other _ _ _ _ (by simp)).trans (e1)))))
             | 2, _ => exact (World.cell?_setCell_other _ _ _ _ (by simp)).trans ((World.cell?_setCell_other _ _ _ _ (by simp)).trans ((World.cell?_setCell_other _ _ _ _ (by simp)).trans ((World.cell?_setCell_other _ _ _ _ (by simp)).trans (e2))))
             | 3, _ => exact (World.cell?_setCell_other _ _ _ _ (by simp)).trans ((World.cell?_setCell_other _ _ _ _ (by simp)).trans ((World.cell?_setCell_other _ _ _ _ (by simp)).trans (e3)))
             | 4, _ => exact (World.cell?_setCell_other _ _ _ _ (by simp)).trans ((World.cell?_setCell_other _ _ _ _ (by simp)).trans (e4))
             | 5, _ => exact (World.cell?_setCell_other _ _ _ _ (by simp)).trans (e5)
             | 6, _ => exact e6)
         rw [hdl, set_mid dn _ _ _ j Hd.out] at hu
         have hM2 := HM.out
         rw [markL_drop _ _ _ _ _ hjl] at hM2
         obtain ⟨es2, hu⟩ : ∃ es2, SL cDcn F g off G es2 _ _ := ⟨_, hu⟩
         refine ⟨j + 1, dn ++ [markC (k + j * 7) z], es2, by omega, by go_num, by go_num, show _ = _ by simp [Hd.out], show _ = _ by rw [← hM2, show k + (j + 1) * 7 = k + j * 7 + 7 by omega]; simp [markC], ?_, (Only.setCell (p := ⟨g, off + j * 7 + 6, none⟩) (Only.setCell (p := ⟨g, off + j * 7 + 5, none⟩) (Only.setCell (p := ⟨g, off + j * 7 + 4, none⟩) (Only.setCell (p := ⟨g, off + j * 7 + 3, none⟩) (Only.setCell (p := ⟨g, off + j * 7 + 2, none⟩) (Only.setCell (p := ⟨g, off + j * 7 + 1, none⟩) (Only.setCell (p := ⟨g, off + j * 7, none⟩) ho HgF.out _) HgF.out _) HgF.out _) HgF.out _) HgF.out _) HgF.out _) HgF.out _)⟩
         exact hu
       case measure => simp [intOf]; omega
     · obtain rfl : j = n := by omega
       have hd : l.drop j = [] := List.drop_eq_nil_of_le (by rw [Hn.out]; exact Nat.le_refl _)
       have hM2 := HM.out
       have hS2 := HS.out
       rw [hd] at hM2 hS2
       simp only [markL, List.append_nil] at hM2 hS2
       subst hM2
       have hown := hS2.own cap (by rw [Hd.out]; have hcp := Hcp.out; have hnn := Hn.out; unfold maxLen; exact ⟨by omega, by omega⟩)
       rw [Hd.out] at hown
       have Hown := Lib.hid hown
       clear hown hS2 hd
       go_wp2
       go_ret
       exact ⟨rfl, Hown.out, ho⟩
end
end Go.Proofs.YtgipcnofonejcaaGreatDoor

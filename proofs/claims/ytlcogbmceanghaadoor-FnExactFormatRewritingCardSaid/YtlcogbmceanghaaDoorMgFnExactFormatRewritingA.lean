/- Texts behind FnExactFormatRewriting, put together. -/
import Derived.WalkKit
import Derived.WalkSpells
import Derived.WalkLawsBesides
import Derived.Handy
import Derived.Lib.Hide
import Derived.StillTailTactics
import Derived.Below
import Derived.ProofKit
import Derived.Test.YtlcogbmceanghaaDoorRows
import Derived.BigQuiet
import Derived.Deep.QuietTactic
import Derived.Deep.RegionWith
import Derived.Lib.Strings
import Derived.ChangeShapes
import Derived.ChangeArms
import Derived.ChangeMaps5
import Derived.Deep.Slices
import Derived.Deep.Strs
import Derived.Test.YtlcogbmceanghaaDoorProg
import Derived.Lib.LaidTab
import Derived.Lib.ItoaLen
import Derived.OwnWalk
import Derived.LoopN
import Derived.Tactics
import Derived.Deep.MidRow
import Derived.Laws.Small
import Derived.Laws.CopyRow
import Derived.Great.BuildSlice
import Derived.Maps.AppendAt
import Derived.Still
import Derived.RegionTactic
import Derived.Shelf.Strings.Builder1
import Derived.Shelf.Strings.Builder2
import Derived.Shelf.Strings.OnBuilder
import Derived.Shelf.Small.Strs
import Derived.Shelf.Small.Wraps
import Derived.Shelf.Strings.BuilderF
import Derived.Shelf.Strings.BuilderK
import Derived.Shelf.Strings.Builder2Cap
import Derived.Shelf.Strconv.Itoa0
import Derived.Shelf.Strconv.Itoa1
import Derived.Shelf.LaysM
import Derived.Shelf.Strconv.Itoa2
import Derived.Shelf.Strconv.Itoa3
import Derived.Shelf.Strings.BuilderCap
import Derived.Shelf.Slices.Turned
import Derived.Ground.Names2Prog
import Derived.Shelf.Slices.SearchI
import Derived.BigRegion
import Derived.Lib.Bytealg
import Derived.Deep.RegionHeld3
import Derived.Lib.Small
import Derived.Deep.Cut
import Derived.Lib.Builder
import Derived.Lib.IndexBytes
import Derived.LaidMore
import Derived.LaidLaws
import Derived.Stop.LaidErr
import Derived.Shelf.Spec.TrailingZeros
import Derived.Lib.Join
import Derived.Test.YtlcogbmceanghaaDoorCards
import Derived.Test.YtlcogbmceanghaaDoorTie
import Derived.Stop.Joined
import Derived.SevenTiedAt
import Derived.OpenShut
import Derived.ShutString
import Derived.ChangeOld
set_option linter.unusedSimpArgs false
set_option linter.unusedVariables false
set_option linter.unusedSectionVars false
set_option linter.constructorNameAsVariable false
set_option maxRecDepth 100000
open Nat (reduceLT reduceAdd reduceMul reduceLeDiff reduceSub reduceEqDiff)
namespace Go.Proofs.YtlcogbmceanghaaDoor
section
/- CodOne: Aid Cod CodL. -/
/- Small aids, over any program: bytes of a slice as a string, facts on lists of bytes. -/
open Go.RowKit
def str (l : List UInt8) : ByteArray := ⟨l.toArray⟩
def byteV (u : UInt8) : Value := .int .u8 (u.toNat : Int)
theorem str_append (a b : List UInt8) : str a ++ str b = str (a ++ b) := by
 apply ByteArray.ext; simp [str, ByteArray.data_append]
theorem str_size (l : List UInt8) : (str l).size = l.length := by simp [str, ByteArray.size]
theorem str_of (s : ByteArray) : s = str s.data.toList := by apply ByteArray.ext; simp [str]
section
variable {P : Program}
theorem run_conv_byte (w : World) (src dst e : TypeId) (hs : P.underlying src = some (.slice e)) (he : P.underlying e = some (.int .u8)) (hd : P.underlying dst = some .string) (x : Int) (u : UInt8) (hx : x = (u.toNat : Int)) :
   (convert src dst (.slice (some ⟨w.heap.size, 0, none⟩) 1 1)).run P (w.alloc (.cells #[.int .u8 x] e)) = .ok (.string (str [u])) (w.alloc (.cells #[.int .u8 x] e)) := by
 have h := run_convert_bytes_arg (P := P) (w.alloc (.cells #[.int .u8 x] e)) src e hs he w.heap.size 0 1 1 [x] rfl (by
   intro i hi
   obtain rfl : i = 0 := by omega
   simp [World.cell?_alloc_at]) dst hd
 rw [h]
 congr 2
 unfold strOfNums str
 simp [hx]
end
theorem one_oneCell (k : IntKind) (x : Int) : ∀ u ∈ [Value.int k x], u.oneCell' = true := by
 intro u hu; simp at hu; subst hu; rfl
theorem one_at (w : World) (v : Value) (e : TypeId) : ∀ j u, [v][j]? = some u → (w.alloc (.cells #[v] e)).cell? ((⟨w.heap.size, 0, none⟩ : Addr).add j) = some u := by
 intro j u hj
 match j, hj with
 | 0, hj => simp at hj; subst hj; simp [Addr.add, World.cell?_alloc_at]
/- How data stand in memory: a reading for numbers, strings, bools, structs and slices, put together from small parts. -/
open Go.RowKit
structure Cod (α : Type) where
 n : Nat
 ok : Nat → World → α → List Value → Prop
 own : List Nat → World → α → List Value → Prop
 len : ∀ {B w x cs}, ok B w x cs → cs.length = n
 keep : ∀ {B C w w' x cs}, ok B w x cs → (∀ k, k < B → w'.heap[k]? = w.heap[k]?) → B ≤ C → ok C w' x cs
 keepO : ∀ {F w w' x cs}, own F w x cs → (∀ k, k ∈ F → w'.heap[k]? = w.heap[k]?) → own F w' x cs
 ofO : ∀ {F B w x cs}, own F w x cs → (∀ k, k ∈ F → k < B) → ok B w x cs
def inR (x : Int) : Prop := -9223372036854775808 ≤ x ∧ x ≤ 9223372036854775807
def cInt : Cod Int where
 n := 1
 ok _ _ x cs := cs = [.int .i64 x] ∧ inR x
 own F _ x cs := (cs = [.int .i64 x] ∧ inR x) ∧ F = []
 len h := by rw [h.1]; rfl
 keep h _ _ := h
 keepO h _ := h
 ofO h _ := h.1
def cBool : Cod Bool where
 n := 1
 ok _ _ x cs := cs = [.bool x]
 own F _ x cs := cs = [.bool x] ∧ F = []
 len h := by subst h; rfl
 keep h _ _ := h
 keepO h _ := h
 ofO h _ := h.1
def cStr : Cod ByteArray where
 n := 1
 ok _ _ x cs := cs = [.string x] ∧ x.size ≤ maxLen
 own F _ x cs := (cs = [.string x] ∧ x.size ≤ maxLen) ∧ F = []
 len h := by rw [h.1]; rfl
 keep h _ _ := h
 keepO h _ := h
 ofO h _ := h.1
def cPair {α β : Type} (c : Cod α) (d : Cod β) : Cod (α × β) where
 n := c.n + d.n
 ok B w x cs := ∃ u v, cs = u ++ v ∧ c.ok B w x.1 u ∧ d.ok B w x.2 v
 own F w x cs := ∃ u v F1 F2, cs = u ++ v ∧ c.own F1 w x.1 u ∧ d.own F2 w x.2 v ∧ F = F1 ++ F2 ∧ (∀ k, k ∈ F1 → k ∉ F2)
 len := by rintro B w x cs ⟨u, v, rfl, h1, h2⟩; simp [c.len h1, d.len h2]
 keep := by rintro B C w w' x cs ⟨u, v, rfl, h1, h2⟩ hk hB; exact ⟨u, v, rfl, c.keep h1 hk hB, d.keep h2 hk hB⟩
 keepO := by
   rintro F w w' x cs ⟨u, v, F1, F2, rfl, h1, h2, rfl, hd⟩ hk
   exact ⟨u, v, F1, F2, rfl, c.keepO h1 (fun k hk1 => hk k (List.mem_append_left _ hk1)), d.keepO h2 (fun k hk1 => hk k (List.mem_append_right _ hk1)), rfl, hd⟩
 ofO := by
   rintro F B w x cs ⟨u, v, F1, F2, rfl, h1, h2, rfl, hd⟩ hB
   exact ⟨u, v, rfl, c.ofO h1 (fun k hk1 => hB k (List.mem_append_left _ hk1)), d.ofO h2 (fun k hk1 => hB k (List.mem_append_right _ hk1))⟩
def cMap {α β : Type} (f : α → β) (c : Cod β) : Cod α where
 n := c.n
 ok B w x cs := c.ok B w (f x) cs
 own F w x cs := c.own F w (f x) cs
 len h := c.len h
 keep h := c.keep h
 keepO h := c.keepO h
 ofO h := c.ofO h
def cSlice {α : Type} (c : Cod α) : Cod (List α) where
 n := 1
 ok B w l cs := ∃ a cap, cs = [.slice a l.length cap] ∧ (l.length ≤ maxLen ∧ l.length ≤ cap) ∧ ∀ j (hj : j < l.length), ∃ b off es, a = some ⟨b, off, none⟩ ∧ b < B ∧ c.ok B w l[j] es ∧ ∀ i, i < c.n → w.cell? ⟨b, off + j * c.n + i, none⟩ = es[i]?
 own F w l cs := ∃ a cap, cs = [.slice a l.length cap] ∧ (l.length ≤ maxLen ∧ l.length ≤ cap) ∧ ((l = [] ∧ F = []) ∨ ∃ (g off : Nat) (G : Nat → List Nat), a = some ⟨g, off, none⟩ ∧ g ∈ F ∧ g < w.heap.size ∧ (∀ j, j < l.length → ∀ k, k ∈ G j → k ∈ F ∧ k ≠ g) ∧
   (∀ i j, i < l.length → j < l.length → i ≠ j → ∀ k, k ∈ G i → k ∉ G j) ∧ (∀ j, j < l.length * c.n → w.frozen? ⟨g, off + j, none⟩ = false) ∧
   ∀ j (hj : j < l.length), ∃ es, c.own (G j) w l[j] es ∧ ∀ i, i < c.n → w.cell? ⟨g, off + j * c.n + i, none⟩ = es[i]?)
 len := by rintro B w x cs ⟨a, cap, rfl, _⟩; rfl
 keep := by
   rintro B C w w' l cs ⟨a, cap, rfl, hm, h⟩ hk hB
   refine ⟨a, cap, rfl, hm, fun j hj => ?_⟩
   obtain ⟨b, off, es, rfl, hb, h1, h2⟩ := h j hj
   exact ⟨b, off, es, rfl, by omega, c.keep h1 hk hB, fun i hi => (World.cell?_of_block (hk b hb)).trans (h2 i hi)⟩
 keepO := by
   rintro F w w' l cs ⟨a, cap, rfl, hm, h⟩ hk
   refine ⟨a, cap, rfl, hm, ?_⟩
   rcases h with h | ⟨g, off, G, rfl, hg, hgs, hG, hGG, hf, he⟩
   · exact .inl h
   · refine .inr ⟨g, off, G, rfl, hg, ?_, hG, hGG, fun j hj => (World.frozen?_of_block (hk g hg)).trans (hf j hj), fun j hj => ?_⟩
     · have := hk g hg
       rw [Array.getElem?_eq_getElem hgs] at this
       exact (Array.getElem?_eq_some_iff.1 this).1
     · obtain ⟨es, h1, h2⟩ := he j hj
       exact ⟨es, c.keepO h1 (fun k hk1 => hk k (hG j hj k hk1).1), fun i hi => (World.cell?_of_block (hk g hg)).trans (h2 i hi)⟩
 ofO := by
   rintro F B w l cs ⟨a, cap, rfl, hm, h⟩ hB
   refine ⟨a, cap, rfl, hm, fun j hj => ?_⟩
   rcases h with ⟨rfl, _⟩ | ⟨g, off, G, rfl, hg, hgs, hG, hGG, hf, he⟩
   · simp at hj
   · obtain ⟨es, h1, h2⟩ := he j hj
     exact ⟨g, off, es, rfl, hB g hg, c.ofO h1 (fun k hk1 => hB k (hG j hj k hk1).1), h2⟩
def At {α : Type} (c : Cod α) (w : World) (x : α) (cs : List Value) : Prop := c.ok w.heap.size w x cs
theorem At.below {α : Type} {c : Cod α} {w w' : World} {x : α} {cs : List Value} {C : Nat} (h : At c w x cs) (hb : Below C w w') (hC : w.heap.size ≤ C) : At c w' x cs :=
 c.keep h (fun k hk => hb.block k (by omega)) hb.size
theorem At.here {α : Type} {c : Cod α} {w W : World} {x : α} {cs : List Value} (h : At c w x cs) (hW : W.heap = w.heap := by rfl) : At c W x cs :=
 c.keep h (fun k hk => by rw [hW]) (by rw [hW]; exact Nat.le_refl _)
theorem At.next {α : Type} {c : Cod α} {w W w' : World} {x : α} {cs : List Value} (h : At c w x cs) (hb : Below W.heap.size W w') (hW : W.heap = w.heap := by rfl) : At c w' x cs :=
 At.below (At.here h hW) hb (Nat.le_refl _)
theorem Below.next {w0 w W w' : World} (h : Below w0.heap.size w0 w) (hb : Below W.heap.size W w') (hW : W.heap = w.heap ∧ W.os = w.os ∧ W.tape = w.tape ∧ W.output = w.output := by exact ⟨rfl, rfl, rfl, rfl⟩) : Below w0.heap.size w0 w' := by
 obtain ⟨h1, h2, h3, h4⟩ := hW
 have hB := h.size
 exact h.trans ⟨hb.os.trans h2, hb.tape.trans h3, hb.output.trans h4, by rw [← h1]; exact hb.size, fun k hk => by rw [← h1]; exact hb.block k (by rw [h1]; omega)⟩
theorem cell_next {w W w' : World} {p : Addr} {v : Value} (h : w.cell? p = some v) (hb : Below W.heap.size W w') (hW : W.heap = w.heap := by rfl) : w'.cell? p = some v :=
 (hb.cell (by rw [hW]; exact World.block_lt_of_cell? w _ h)).trans ((World.cell?_of_block (w := w) (by rw [hW])).trans h)
theorem dec_self {α : Type} [DecidableEq α] (x : α) : decide (x = x) = true := decide_eq_true rfl
theorem Cod.ok_below {α : Type} {c : Cod α} {w w' : World} {x : α} {cs : List Value} {B : Nat} (h : c.ok B w x cs) (hb : Below B w w') : c.ok B w' x cs :=
 c.keep h (fun k hk => hb.block k hk) (Nat.le_refl _)
def Own {α : Type} (c : Cod α) (B : Nat) (w : World) (x : α) (cs : List Value) : Prop := ∃ F, c.own F w x cs ∧ ∀ k, k ∈ F → B ≤ k ∧ k < w.heap.size
theorem Own.at {α : Type} {c : Cod α} {B : Nat} {w : World} {x : α} {cs : List Value} (h : Own c B w x cs) : At c w x cs := by
 obtain ⟨F, h1, h2⟩ := h
 exact c.ofO h1 (fun k hk => (h2 k hk).2)
theorem Own.mono {α : Type} {c : Cod α} {B B' : Nat} {w : World} {x : α} {cs : List Value} (h : Own c B w x cs) (hB : B' ≤ B) : Own c B' w x cs := by
 obtain ⟨F, h1, h2⟩ := h
 exact ⟨F, h1, fun k hk => ⟨by have := (h2 k hk).1; omega, (h2 k hk).2⟩⟩
def OwnIn {α : Type} (c : Cod α) (lo hi : Nat) (w : World) (x : α) (cs : List Value) : Prop := ∃ F, c.own F w x cs ∧ ∀ k, k ∈ F → lo ≤ k ∧ k < hi
theorem OwnIn.below {α : Type} {c : Cod α} {lo hi C : Nat} {w w' : World} {x : α} {cs : List Value} (h : OwnIn c lo hi w x cs) (hb : Below C w w') (hC : hi ≤ C) : OwnIn c lo hi w' x cs := by
 obtain ⟨F, h1, h2⟩ := h
 exact ⟨F, c.keepO h1 (fun k hk => hb.block k (by have := (h2 k hk).2; omega)), h2⟩
theorem OwnIn.setCell {α : Type} {c : Cod α} {lo hi : Nat} {w : World} {x : α} {cs : List Value} (h : OwnIn c lo hi w x cs) {p : Addr} (hp : p.block < lo) (u : Value) : OwnIn c lo hi (w.setCell p u) x cs := by
 obtain ⟨F, h1, h2⟩ := h
 exact ⟨F, c.keepO h1 (fun k hk => Below.heap_setCell _ _ _ _ (by have := (h2 k hk).1; omega)), h2⟩
theorem OwnIn.own {α : Type} {c : Cod α} {lo hi : Nat} {w : World} {x : α} {cs : List Value} (h : OwnIn c lo hi w x cs) (hh : hi ≤ w.heap.size) : Own c lo w x cs := by
 obtain ⟨F, h1, h2⟩ := h
 exact ⟨F, h1, fun k hk => ⟨(h2 k hk).1, by have := (h2 k hk).2; omega⟩⟩
theorem OwnIn.wide {α : Type} {c : Cod α} {lo hi lo' hi' : Nat} {w : World} {x : α} {cs : List Value} (h : OwnIn c lo hi w x cs) (h1 : lo' ≤ lo) (h2 : hi ≤ hi') : OwnIn c lo' hi' w x cs := by
 obtain ⟨F, h3, h4⟩ := h
 exact ⟨F, h3, fun k hk => ⟨by have := (h4 k hk).1; omega, by have := (h4 k hk).2; omega⟩⟩
theorem OwnIn.pair {α β : Type} {c : Cod α} {d : Cod β} {lo mid hi : Nat} {w : World} {x : α} {y : β} {u v : List Value} (h : OwnIn c lo mid w x u) (k : OwnIn d mid hi w y v) (h1 : lo ≤ mid) (h2 : mid ≤ hi) : OwnIn (cPair c d) lo hi w (x, y) (u ++ v) := by
 obtain ⟨F, h3, h4⟩ := h
 obtain ⟨G, h5, h6⟩ := k
 refine ⟨F ++ G, ⟨u, v, F, G, rfl, h3, h5, rfl, fun k hk hg => ?_⟩, fun k hk => ?_⟩
 · have := (h4 k hk).2; have := (h6 k hg).1; omega
 · rcases List.mem_append.1 hk with hk | hk
   · exact ⟨(h4 k hk).1, by have := (h4 k hk).2; omega⟩
   · exact ⟨by have := (h6 k hk).1; omega, (h6 k hk).2⟩
theorem OwnIn.int (lo hi : Nat) (w : World) {x : Int} (h : inR x) : OwnIn cInt lo hi w x [.int .i64 x] := ⟨[], ⟨⟨rfl, h⟩, rfl⟩, by simp⟩
theorem slice_at {α : Type} {c : Cod α} {B : Nat} {w : World} {l : List α} {a : Option Addr} {len cap : Nat} (h : (cSlice c).ok B w l [.slice a len cap]) (j : Nat) (hj : j < l.length) :
   ∃ b off es, a = some ⟨b, off, none⟩ ∧ b < B ∧ c.ok B w l[j] es ∧ ∀ i, i < c.n → w.cell? ⟨b, off + j * c.n + i, none⟩ = es[i]? := by
 obtain ⟨a', cap', e, hm, h⟩ := h
 simp at e
 obtain ⟨rfl, rfl, rfl⟩ := e
 exact h j hj
theorem slice_len {α : Type} {c : Cod α} {B : Nat} {w : World} {l : List α} {a : Option Addr} {len cap : Nat} (h : (cSlice c).ok B w l [.slice a len cap]) : len = l.length ∧ l.length ≤ maxLen := by
 obtain ⟨a', cap', e, hm, h⟩ := h
 simp at e
 exact ⟨e.2.1, hm.1⟩
theorem slice_cap {α : Type} {c : Cod α} {B : Nat} {w : World} {l : List α} {a : Option Addr} {len cap : Nat} (h : (cSlice c).ok B w l [.slice a len cap]) : l.length ≤ cap := by
 obtain ⟨a', cap', e, hm, h⟩ := h
 simp at e
 obtain ⟨rfl, rfl, rfl⟩ := e
 exact hm.2
theorem ints_at {B : Nat} {w : World} {l : List Int} {a : Option Addr} {len cap : Nat} (h : (cSlice cInt).ok B w l [.slice a len cap]) (j : Nat) (hj : j < l.length) :
   ∃ b off, a = some ⟨b, off, none⟩ ∧ b < B ∧ w.cell? ⟨b, off + j, none⟩ = some (.int .i64 l[j]) := by
 obtain ⟨b, off, es, rfl, hb, he, hc⟩ := slice_at h j hj
 obtain ⟨rfl, _⟩ := he
 exact ⟨b, off, rfl, hb, by simpa [cInt] using hc 0 (by decide)⟩
theorem ints_rng {B : Nat} {w : World} {l : List Int} {cs : List Value} (h : (cSlice cInt).ok B w l cs) : ∀ x, x ∈ l → inR x := by
 intro x hx
 obtain ⟨j, hj, rfl⟩ := List.getElem_of_mem hx
 obtain ⟨_, _, rfl, _, h⟩ := h
 obtain ⟨b, off, es, _, hb, he, hc⟩ := h j hj
 exact he.2
/- Lists of data of the call's own, and the slices that they make. -/
open Go.RowKit
def ownL {α : Type} (c : Cod α) : List Nat → World → List α → List (List Value) → Prop
 | F, _, [], [] => F = []
 | F, w, x :: l, cs :: css => ∃ F1 F2, F = F1 ++ F2 ∧ c.own F1 w x cs ∧ ownL c F2 w l css ∧ ∀ k, k ∈ F1 → k ∉ F2
 | _, _, [], _ :: _ => False
 | _, _, _ :: _, [] => False
variable {α : Type} {c : Cod α}
theorem le_sum {F : List Nat} {k : Nat} (h : k ∈ F) : k ≤ F.sum := by
 induction F with
 | nil => cases h
 | cons a F ih =>
   rw [List.sum_cons]
   rcases List.mem_cons.1 h with rfl | h
   · omega
   · have := ih h; omega
theorem Cod.lenO {F : List Nat} {w : World} {x : α} {cs : List Value} (h : c.own F w x cs) : cs.length = c.n :=
 c.len (c.ofO (B := F.sum + 1) h (fun k hk => by have := le_sum hk; omega))
theorem ownL_nil (w : World) : ownL c [] w [] [] := rfl
theorem ownL_keep {w w' : World} : ∀ {F : List Nat} {l : List α} {css : List (List Value)}, ownL c F w l css → (∀ k, k ∈ F → w'.heap[k]? = w.heap[k]?) → ownL c F w' l css
 | F, [], [], h, _ => h
 | F, x :: l, cs :: css, ⟨F1, F2, e, h1, h2, hd⟩, hk => by
   subst e
   exact ⟨F1, F2, rfl, c.keepO h1 (fun k hk1 => hk k (List.mem_append_left _ hk1)), ownL_keep h2 (fun k hk1 => hk k (List.mem_append_right _ hk1)), hd⟩
 | _, [], _ :: _, h, _ => h.elim
 | _, _ :: _, [], h, _ => h.elim
theorem ownL_snoc {w : World} {x : α} {cs : List Value} {G : List Nat} (hx : c.own G w x cs) : ∀ {F : List Nat} {l : List α} {css : List (List Value)}, ownL c F w l css → (∀ k, k ∈ F → k ∉ G) → ownL c (F ++ G) w (l ++ [x]) (css ++ [cs])
 | F, [], [], h, _ => by obtain rfl : F = [] := h; exact ⟨G, [], by simp, hx, rfl, by simp⟩
 | F, y :: l, ds :: css, ⟨F1, F2, e, h1, h2, hd⟩, hk => by
   subst e
   refine ⟨F1, F2 ++ G, by simp, h1, ownL_snoc hx h2 (fun k hk1 => hk k (List.mem_append_right _ hk1)), fun k h => ?_⟩
   simp only [List.mem_append, not_or]
   exact ⟨hd k h, hk k (List.mem_append_left _ h)⟩
 | _, [], _ :: _, h, _ => h.elim
 | _, _ :: _, [], h, _ => h.elim
theorem ownL_len {w : World} : ∀ {F : List Nat} {l : List α} {css : List (List Value)}, ownL c F w l css → css.length = l.length ∧ css.flatten.length = l.length * c.n
 | F, [], [], _ => by simp
 | F, x :: l, cs :: css, ⟨F1, F2, _, h1, h2, _⟩ => by
   have := ownL_len h2
   have h3 := Cod.lenO h1
   refine ⟨by simp [this.1], ?_⟩
   rw [List.flatten_cons, List.length_append, this.2, h3, List.length_cons, Nat.succ_mul, Nat.add_comm]
 | _, [], _ :: _, h => h.elim
 | _, _ :: _, [], h => h.elim
theorem ownL_get {w : World} : ∀ {F : List Nat} {l : List α} {css : List (List Value)}, ownL c F w l css → ∃ G : Nat → List Nat, (∀ j, j < l.length → ∀ k, k ∈ G j → k ∈ F) ∧
   (∀ i j, i < l.length → j < l.length → i ≠ j → ∀ k, k ∈ G i → k ∉ G j) ∧ ∀ j (hj : j < l.length), ∃ es, c.own (G j) w l[j] es ∧ ∀ i, i < c.n → css.flatten[j * c.n + i]? = es[i]?
 | F, [], [], _ => ⟨fun _ => [], by simp, by simp, by simp⟩
 | F, x :: l, cs :: css, ⟨F1, F2, e, h1, h2, hd⟩ => by
   subst e
   obtain ⟨G, hG, hGG, he⟩ := ownL_get h2
   have hn := Cod.lenO h1
   refine ⟨fun j => match j with | 0 => F1 | j + 1 => G j, ?_, ?_, ?_⟩
   · intro j hj k hk
     cases j with
     | zero => exact List.mem_append_left _ hk
     | succ j => exact List.mem_append_right _ (hG j (by simpa using hj) k hk)
   · intro i j hi hj hij k hk
     cases i with
     | zero => cases j with
       | zero => exact absurd rfl hij
       | succ j => intro h; exact hd k hk (hG j (by simpa using hj) k h)
     | succ i => cases j with
       | zero => intro h; exact hd k h (hG i (by simpa using hi) k hk)
       | succ j => exact hGG i j (by simpa using hi) (by simpa using hj) (by omega) k hk
   · intro j hj
     cases j with
     | zero =>
       refine ⟨cs, h1, fun i hi => ?_⟩
       rw [Nat.zero_mul, Nat.zero_add, List.flatten_cons, List.getElem?_append_left (by omega)]
     | succ j =>
       obtain ⟨es, h3, h4⟩ := he j (by simpa using hj)
       refine ⟨es, h3, fun i hi => ?_⟩
       rw [List.flatten_cons, List.getElem?_append_right (by rw [hn, Nat.succ_mul]; omega), ← h4 i hi]
       congr 1
       rw [hn, Nat.succ_mul]; omega
 | _, [], _ :: _, h => h.elim
 | _, _ :: _, [], h => h.elim
theorem slice_of_ownL {w : World} {F : List Nat} {l : List α} {css : List (List Value)} {base g cap : Nat} {e : TypeId} (h : ownL c F w l css)
   (hr : w.ownsRow base e c.n (.slice (some ⟨g, 0, none⟩) l.length cap) l.length css.flatten) (hg : g ∉ F) (hm : l.length ≤ maxLen) :
   (cSlice c).own (g :: F) w l [.slice (some ⟨g, 0, none⟩) l.length cap] := by
 obtain ⟨G, hG, hGG, he⟩ := ownL_get h
 have hlt := (hr.lt g rfl).2
 have hcap : l.length ≤ cap := by
   rcases hr.2 with ⟨h0, _⟩ | ⟨g', cap', cur, e0, _, _, hnc, _⟩
   · cases h0
   · simp at e0; omega
 refine ⟨_, _, rfl, ⟨hm, hcap⟩, .inr ⟨g, 0, G, rfl, by simp, hlt, fun j hj k hk => ⟨List.mem_cons_of_mem _ (hG j hj k hk), fun e => hg (e ▸ hG j hj k hk)⟩, hGG, fun j hj => by rw [Nat.zero_add]; exact hr.frozenAt j, fun j hj => ?_⟩⟩
 obtain ⟨es, h1, h2⟩ := he j hj
 refine ⟨es, h1, fun i hi => ?_⟩
 rw [Nat.zero_add, hr.cellAt _ ?_, h2 i hi]
 calc j * c.n + i < j * c.n + c.n := by omega
   _ = (j + 1) * c.n := by rw [Nat.succ_mul]
   _ ≤ l.length * c.n := Nat.mul_le_mul_right _ hj
theorem Own.nil (B : Nat) (w : World) : Own (cSlice c) B w [] [.slice none 0 0] := ⟨[], ⟨none, 0, rfl, by simp, .inl ⟨rfl, rfl⟩⟩, by simp⟩
theorem Own.slice {w : World} {F : List Nat} {l : List α} {css : List (List Value)} {base g cap : Nat} {e : TypeId} (h : ownL c F w l css)
   (hr : w.ownsRow base e c.n (.slice (some ⟨g, 0, none⟩) l.length cap) l.length css.flatten) (hF : ∀ k, k ∈ F → base ≤ k ∧ k < w.heap.size ∧ k ≠ g) (hm : l.length ≤ maxLen) :
   Own (cSlice c) base w l [.slice (some ⟨g, 0, none⟩) l.length cap] := by
 refine ⟨g :: F, slice_of_ownL h hr (fun hg => (hF g hg).2.2 rfl) hm, fun k hk => ?_⟩
 rcases List.mem_cons.1 hk with rfl | hk
 · exact hr.lt _ rfl
 · exact ⟨(hF k hk).1, (hF k hk).2.1⟩
theorem ownL_flat (enc : α → List Value) (w : World) : ∀ l : List α, (∀ x, x ∈ l → c.own [] w x (enc x)) → ownL c [] w l (l.map enc)
 | [], _ => rfl
 | x :: l, h => ⟨[], [], rfl, h x (by simp), ownL_flat enc w l (fun y hy => h y (by simp [hy])), by simp⟩
theorem ownL_below {w w' : World} {F : List Nat} {l : List α} {css : List (List Value)} {C : Nat} (h : ownL c F w l css) (hb : Below C w w') (hF : ∀ k, k ∈ F → k < C) : ownL c F w' l css :=
 ownL_keep h (fun k hk => hb.block k (hF k hk))
end

section
/- TyOne: TyA TyB TyB2. -/
/- Numbers in a slice, relations, facts: the laws' helpers on them (size, copy, equality). -/
open Go.RowKit
def szR (left : Int) (n : Nat) : Int := if left - (n : Int) < 0 then -1 else left - (n : Int)
theorem szR_le (left : Int) (n : Nat) (h : 0 ≤ left) : szR left n ≤ left := by unfold szR; split <;> omega
theorem szR_ge {left : Int} {n M : Nat} (h : ¬ szR left n < 0) (hM : left ≤ (M : Int)) : n ≤ M := by unfold szR at h; split at h <;> omega
theorem szR_neg {left : Int} {n : Nat} (h : szR left n < 0) : szR left n = -1 := by unfold szR at *; split at h <;> simp_all
theorem szR_step (q : Int) (s t : Nat) : szR q (s + t) = if szR q s < 0 then -1 else szR (szR q s) t := by
 unfold szR
 by_cases h : q - (s : Int) < 0
 · rw [if_pos h, if_pos (by omega), if_pos (by omega)]
 · rw [if_neg h, if_neg h]
   by_cases h2 : q - (s : Int) - (t : Int) < 0
   · rw [if_pos (by omega), if_pos h2]
   · rw [if_neg (by omega), if_neg h2]; omega
theorem szIntS_c {a : Option Addr} {cap : Nat} {l : List Int} {left : Int} {w : World} (hl : 0 ≤ left) (hl2 : left ≤ 1048576) (h : At (cSlice cInt) w l [.slice a l.length cap]) :
   Calls Tryd.prog 45 #[.slice a l.length cap, .int .i64 left] w fun e w' => e = .returned (.int .i64 (szR left l.length)) ∧ Below w.heap.size w w' := by
 have hm := (slice_len h).2
 unfold maxLen at hm
 have hw : wrap64 (left - (l.length : Int)) = left - (l.length : Int) := IntWalk.wrap64_in _ ⟨by omega, by omega⟩
 unfold szR
 by_cases h : left - (l.length : Int) < 0
 · rw [if_pos h]
   go_enter Tryd.func45, Tryd.ntmps45
   go_wp2
   go_ret
   exact ⟨rfl, Below.refl _ _⟩
 · rw [if_neg h]
   go_enter Tryd.func45, Tryd.ntmps45
   go_wp2
   go_ret
   exact ⟨rfl, Below.refl _ _⟩
def iv (x : Int) : Value := .int .i64 x
def doneI (l : List Int) (k n : Nat) : List Value := (l.take k).map iv ++ List.replicate (n - k) (iv 0)
theorem doneI_step (l : List Int) (k n : Nat) (hn : l.length = n) (hk : k < n) (hkl : k < l.length) : (doneI l k n).set k (.int .i64 l[k]) = doneI l (k + 1) n := by
 unfold doneI
 have e1 : n - k = (n - (k + 1)) + 1 := by omega
 have e2 : ((l.take k).map iv).length = k := by simp; omega
 rw [e1, List.replicate_succ, List.set_append_right _ _ (by omega), e2, Nat.sub_self, List.set_cons_zero, List.take_succ_eq_append_getElem hkl, List.map_append]
 simp [iv]
theorem doneI_all (l : List Int) (n : Nat) (h : l.length = n) : doneI l n n = l.map iv := by subst h; simp [doneI]
theorem doneI_at (l : List Int) (k n : Nat) (hn : l.length = n) (hk : k < n) : (doneI l k n)[k]? = some (.int .i64 0) := by
 have e1 : n - k = (n - (k + 1)) + 1 := by omega
 have e2 : ((l.take k).map iv).length = k := by simp; omega
 unfold doneI
 rw [e1, List.replicate_succ, List.getElem?_append_right (by omega), e2]
 simp [iv]
theorem made_ints (n : Nat) (l : List Int) : (madeCells #[.int .i64 0] n).toList = doneI l 0 n := by
 unfold doneI madeCells
 apply List.ext_getElem
 · simp
 · intro i h1 h2
   simp [iv, Nat.mod_one]
theorem flat_ints (l : List Int) : (l.map fun x => [iv x]).flatten = l.map iv := by
 induction l with
 | nil => rfl
 | cons x l ih => simp [ih]
theorem Tryd.infoI : (Tryd.prog.info? 3).map (fun i => (i.zero, i.size, i.bytes)) = some (some (.int .i64 0), 1, 8) := by kernel_rfl
theorem Below.drewN' {B : Nat} {a w : World} (h : Below B a w) (n : Nat) : Below B a (w.drewN n) := ⟨h.os, h.tape, h.output, h.size, h.block⟩
theorem ownsRow_below {base : Nat} {w w' : World} {e : TypeId} {sz : Nat} {v : Value} {n : Nat} {xs : List Value} (h : w.ownsRow base e sz v n xs) (k : Below w.heap.size w w') : w'.ownsRow base e sz v n xs := by
 refine ⟨h.1, ?_⟩
 rcases h.2 with h0 | ⟨g, cap, cur, rfl, hb, hg, hrest⟩
 · exact .inl h0
 · have hlt := (h.lt g rfl).2
   exact .inr ⟨g, cap, cur, rfl, hb, (k.block g hlt).trans hg, hrest⟩
theorem own_ints {w : World} {base : Nat} {e : TypeId} {v : Value} {n : Nat} {l : List Int} (h : w.ownsRow base e 1 v n (l.map iv)) (hr : ∀ x, x ∈ l → inR x) : Own (cSlice cInt) base w l [v] := by
 have hn : l.length = n := by simpa using h.1
 subst hn
 rcases h.2 with ⟨rfl, h0⟩ | ⟨g, cap, cur, rfl, hb, hg, h1, h2, _⟩
 · obtain rfl := List.eq_nil_of_length_eq_zero h0
   exact Own.nil _ _
 · exact Own.slice (c := cInt) (F := []) (css := l.map fun x => [iv x]) (ownL_flat (c := cInt) (fun x => [iv x]) w l (fun x hx => ⟨⟨rfl, hr x hx⟩, rfl⟩)) (by rw [flat_ints]; exact h) (by simp) (by omega)
set_option maxHeartbeats 800000 in
theorem toIntS_c {a : Option Addr} {cap : Nat} {l : List Int} {w : World} (hs : l.length ≤ 1048576) (h : At (cSlice cInt) w l [.slice a l.length cap]) :
   Calls Tryd.prog 51 #[.slice a l.length cap] w fun e w' => (∃ a' cap', e = .returned (.slice a' l.length cap') ∧ Own (cSlice cInt) w.heap.size w' l [.slice a' l.length cap']) ∧ Below w.heap.size w w' := by
 obtain ⟨n, hn⟩ : ∃ n : Nat, l.length = n := ⟨_, rfl⟩
 have Hn := Lib.hid hn
 have Hr : Hid (∀ w' : World, Below w.heap.size w w' → ∀ j (hj : j < l.length), ∃ b off, a = some ⟨b, off, none⟩ ∧ b < w.heap.size ∧ w'.cell? ⟨b, off + j, none⟩ = some (.int .i64 l[j])) := fun w' hb j hj => ints_at (Cod.ok_below h hb) j hj
 have Hg := Lib.hid (ints_rng h)
 rw [hn] at hs h ⊢
 clear hn h
 obtain ⟨i0, hi, hz0, hz1, hz2⟩ := info_parts Tryd.infoI
 go_enter Tryd.func51, Tryd.ntmps51
 go_wp2_with (at_make; refine wpList_make_full _ rfl (.tmp 6) (.tmp 6) 24 rfl w.heap.size 3 i0 (.int .i64 0) 1 Tryd.underlying24 hi hz0 hz1 .i64 .i64 n n n rfl rfl rfl rfl ?c1 ?c2 (Nat.le_refl _) ?_)
 case c1 => rw [hz2]; omega
 case c2 => unfold maxLen; omega
 intro w1 hown hg1
 rw [made_ints n l] at hown
 have hb0 : Below w.heap.size w w1 := (Below.refl _ _).grown hg1 (Nat.le_refl _) (fun k hk => by cases hk)
 clear hg1 hi hz0 hz1 hz2
 go_wp2
 go_loopw [4] (fun iv wr => ∃ k : Nat, k ≤ n ∧ iv = .int .i64 k ∧ wr.ownsRow w.heap.size 3 1 (.slice (some ⟨w.heap.size, 0, none⟩) n n) n (doneI l k n) ∧ Below w.heap.size w wr) (fun iv _ => n - (intOf iv).toNat)
 case atStart => exact ⟨0, by omega, by go_num, hown, hb0⟩
 case round =>
   clear hown hb0
   obtain ⟨k, hk, rfl, hown, hb⟩ := hrel
   by_cases hlt : k < n
   · have hkl : k < l.length := by rw [Hn.out]; exact hlt
     obtain ⟨b, off, rfl, hbB, c0⟩ := Hr.out _ hb k hkl
     have Hstep := Lib.hid (doneI_step l k n Hn.out hlt hkl)
     have f0 := hown.frozenAt k
     have d0 := (hown.cellAt k (by omega)).trans (doneI_at l k n Hn.out hlt)
     generalize hrk : l[k] = r at *
     clear hrk
     go_wp2
     go_roundw
     case rel =>
       have h1 := (hown.stored k (.int .i64 r)).1
       rw [Hstep.out] at h1
       exact ⟨k + 1, by omega, by go_num, h1, hb.setCell (Nat.le_refl _) _⟩
     case measure => simp [intOf]; omega
   · obtain rfl : k = n := by omega
     rw [doneI_all l k Hn.out] at hown
     go_wp2
     go_ret
     exact ⟨⟨_, _, rfl, own_ints hown Hg.out⟩, hb⟩
theorem eqIntS_c {a a' : Option Addr} {cap cap' : Nat} {l m : List Int} {w : World} (h : At (cSlice cInt) w l [.slice a l.length cap]) (h' : At (cSlice cInt) w m [.slice a' m.length cap']) :
   Calls Tryd.prog 58 #[.slice a l.length cap, .slice a' m.length cap'] w fun e w' => e = .returned (.bool (decide (l = m))) ∧ Below w.heap.size w w' := by
 have hm := (slice_len h).2
 have hm' := (slice_len h').2
 unfold maxLen at hm hm'
 by_cases hne : l.length = m.length
 · obtain ⟨n, hn⟩ : ∃ n : Nat, l.length = n := ⟨_, rfl⟩
   have Hr : Hid (∀ w' : World, Below w.heap.size w w' → ∀ j (hj : j < l.length), ∃ b off, a = some ⟨b, off, none⟩ ∧ b < w.heap.size ∧ w'.cell? ⟨b, off + j, none⟩ = some (.int .i64 l[j])) := fun w' hb j hj => ints_at (Cod.ok_below h hb) j hj
   have Hr' : Hid (∀ w' : World, Below w.heap.size w w' → ∀ j (hj : j < m.length), ∃ b off, a' = some ⟨b, off, none⟩ ∧ b < w.heap.size ∧ w'.cell? ⟨b, off + j, none⟩ = some (.int .i64 m[j])) := fun w' hb j hj => ints_at (Cod.ok_below h' hb) j hj
   clear h h'
   rw [← hne, hn]
   have Hn := Lib.hid hn
   have Hm : Hid (m.length = n) := by rw [← hne]; exact hn
   have hm2 : n ≤ 2 ^ 63 - 1 := by omega
   generalize hR : decide (l = m) = R
   have HR : Hid (decide (l.drop 0 = m.drop 0) = R) := hR
   clear hR hne hn hm hm'
   go_enter Tryd.func58, Tryd.ntmps58
   go_wp2
   go_loopw [5] (fun iv wr => ∃ k : Nat, k ≤ n ∧ iv = .int .i64 k ∧ Hid (decide (l.drop k = m.drop k) = R) ∧ Below w.heap.size w wr) (fun iv _ => n - (intOf iv).toNat)
   case atStart => exact ⟨0, by omega, by go_num, HR, Below.refl _ _⟩
   case round =>
     obtain ⟨k, hk, rfl, Hq, hb⟩ := hrel
     by_cases hlt : k < n
     · have hkl : k < l.length := by rw [Hn.out]; exact hlt
       have hkm : k < m.length := by rw [Hm.out]; exact hlt
       have Hst : Hid (R = (decide (l[k] = m[k]) && decide (l.drop (k + 1) = m.drop (k + 1)))) := by
         show R = _
         rw [← Hq.out, ← Bool.decide_and]; congr 1; rw [List.drop_eq_getElem_cons hkl, List.drop_eq_getElem_cons hkm, List.cons.injEq]
       obtain ⟨b, off, rfl, hbB, c0⟩ := Hr.out _ hb k hkl
       obtain ⟨b', off', rfl, hbB', c0'⟩ := Hr'.out _ hb k hkm
       generalize hrk : l[k] = r at *
       generalize hrk' : m[k] = r' at *
       clear hrk hrk'
       by_cases he : r = r'
       · have hn : (r != r') = false := by simp [he]
         have hst := Hst.out
         rw [decide_eq_true he, Bool.true_and] at hst
         have Hst2 := Lib.hid hst.symm
         clear hst Hst he
         go_wp2
         go_quiet (fail)
         go_wp2
         go_roundw
         case rel => exact ⟨k + 1, by omega, by go_num, Hst2, Below.drewN' hb _⟩
         case measure => simp [intOf]; omega
       · have hn : (r != r') = true := by simp [he]
         have hR : R = false := by have := Hst.out; rw [decide_eq_false he, Bool.false_and] at this; exact this
         clear Hst he
         go_wp2
         go_quiet (fail)
         go_wp2
         go_ret
         exact ⟨by rw [hR]; rfl, Below.drewN' hb _⟩
     · obtain rfl : k = n := by omega
       have hR : R = true := by
         have := Hq.out
         rw [List.drop_eq_nil_of_le (by rw [Hn.out]; exact Nat.le_refl _), List.drop_eq_nil_of_le (by rw [Hm.out]; exact Nat.le_refl _)] at this
         simpa using this.symm
       go_wp2
       go_ret
       exact ⟨by rw [hR]; rfl, hb⟩
 · rw [decide_eq_false (fun e => hne (by rw [e]))]
   have hne2 : (l.length != m.length) = true := by simpa using hne
   go_enter Tryd.func58, Tryd.ntmps58
   go_wp2
   go_ret
   exact ⟨rfl, Below.refl _ _⟩
/- Relations and facts: structures, readings, the laws' helpers on one of them. -/
open Go.RowKit
structure Rel where
 name : ByteArray
 arity : Int
 key : Int
deriving DecidableEq
def cRel : Cod Rel := cMap (fun x => (x.name, x.arity, x.key)) (cPair cStr (cPair cInt cInt))
theorem cRel_inv {B : Nat} {w : World} {x : Rel} {cs : List Value} (h : cRel.ok B w x cs) : cs = [.string x.name, .int .i64 x.arity, .int .i64 x.key] ∧ x.name.size ≤ maxLen ∧ inR x.arity ∧ inR x.key := by
 obtain ⟨_, _, rfl, ⟨rfl, hs⟩, _, _, rfl, ⟨rfl, h1⟩, ⟨rfl, h2⟩⟩ := h
 exact ⟨rfl, hs, h1, h2⟩
theorem cRel_open {B : Nat} {w : World} {x : Rel} {cs : List Value} (h : cRel.ok B w x cs) : cs = [.string x.name, .int .i64 x.arity, .int .i64 x.key] ∧ cRel.ok B w x [.string x.name, .int .i64 x.arity, .int .i64 x.key] := by
 have h2 := cRel_inv h
 exact ⟨h2.1, h2.1 ▸ h⟩
theorem cRel_mkO {w : World} {x : Rel} (h : x.name.size ≤ maxLen) (h1 : inR x.arity) (h2 : inR x.key) : cRel.own [] w x [.string x.name, .int .i64 x.arity, .int .i64 x.key] := ⟨[_], [_, _], [], [], rfl, ⟨⟨rfl, h⟩, rfl⟩, ⟨[_], [_], [], [], rfl, ⟨⟨rfl, h1⟩, rfl⟩, ⟨⟨rfl, h2⟩, rfl⟩, rfl, by simp⟩, rfl, by simp⟩
theorem Own.rel {B : Nat} {w : World} {x : Rel} (h : x.name.size ≤ maxLen) (h1 : inR x.arity) (h2 : inR x.key) : Own cRel B w x [.string x.name, .int .i64 x.arity, .int .i64 x.key] := ⟨[], cRel_mkO h h1 h2, by simp⟩
theorem szRelation_c {x : Rel} {left : Int} {w : World} (hl : 0 ≤ left) (hl2 : left ≤ 1048576) (h : At cRel w x [.string x.name, .int .i64 x.arity, .int .i64 x.key]) :
   Calls Tryd.prog 43 #[.agg #[.string x.name, .int .i64 x.arity, .int .i64 x.key], .int .i64 left] w fun e w' =>
     e = .returned (.int .i64 (szR left x.name.size)) ∧ Below w.heap.size w w' := by
 have hr := (cRel_inv h).2.1
 clear h
 obtain ⟨n, a, k⟩ := x
 unfold maxLen at hr
 simp only [szR] at *
 have hw : wrap64 (left - (n.size : Int)) = left - (n.size : Int) := IntWalk.wrap64_in _ ⟨by omega, by omega⟩
 by_cases h : (left - n.size) < 0
 · rw [if_pos h]
   go_enter Tryd.func43, Tryd.ntmps43
   go_wp2
   go_ret
   exact ⟨rfl, (Below.refl _ _).alloc (Nat.le_refl _) _⟩
 · rw [if_neg h]
   go_enter Tryd.func43, Tryd.ntmps43
   go_wp2
   go_ret
   exact ⟨rfl, (Below.refl _ _).alloc (Nat.le_refl _) _⟩
theorem toRelation_c {x : Rel} {w : World} (hs : x.name.size ≤ 1048576) (h : At cRel w x [.string x.name, .int .i64 x.arity, .int .i64 x.key]) :
   Calls Tryd.prog 49 #[.agg #[.string x.name, .int .i64 x.arity, .int .i64 x.key]] w fun e w' => (e = .returned (.agg #[.string x.name, .int .i64 x.arity, .int .i64 x.key]) ∧ Own cRel w.heap.size w' x [.string x.name, .int .i64 x.arity, .int .i64 x.key]) ∧ Below w.heap.size w w' := by
 have ho : ∀ w', Own cRel w.heap.size w' x [.string x.name, .int .i64 x.arity, .int .i64 x.key] := fun w' => Own.rel (cRel_inv h).2.1 (cRel_inv h).2.2.1 (cRel_inv h).2.2.2
 have Ho := Lib.hid ho
 clear ho h
 obtain ⟨n, a, k⟩ := x
 simp only at *
 go_enter Tryd.func49, Tryd.ntmps49
 go_wp2
 go_returns
 refine ⟨⟨?_, Ho.out _⟩, ?_⟩
 · simp
 · go_grown
theorem eqRelation_c {x y : Rel} {w : World} (h : At cRel w x [.string x.name, .int .i64 x.arity, .int .i64 x.key]) (h' : At cRel w y [.string y.name, .int .i64 y.arity, .int .i64 y.key]) :
   Calls Tryd.prog 32 #[.agg #[.string x.name, .int .i64 x.arity, .int .i64 x.key], .agg #[.string y.name, .int .i64 y.arity, .int .i64 y.key]] w fun e w' => e = .returned (.bool (decide (x = y))) ∧ Below w.heap.size w w' := by
 clear h h'
 obtain ⟨n, a, k⟩ := x
 obtain ⟨n', a', k'⟩ := y
 simp only [Rel.mk.injEq] at *
 by_cases h1 : n = n'
 · subst h1
   have h1' : (n.toList == n.toList) = true := by simp
   by_cases h2 : a = a'
   · subst h2
     by_cases h3 : k = k'
     · subst h3
       go_enter Tryd.func32, Tryd.ntmps32
       go_wp2
       go_ret
       exact ⟨by simp, by go_grown⟩
     · have hn : (k != k') = true := by simp [h3]
       go_enter Tryd.func32, Tryd.ntmps32
       go_wp2
       go_ret
       exact ⟨by simp [h3], by go_grown⟩
   · have hn : (a != a') = true := by simp [h2]
     go_enter Tryd.func32, Tryd.ntmps32
     go_wp2
     go_ret
     exact ⟨by simp [h2], by go_grown⟩
 · have h1' : (n.toList == n'.toList) = false := by
     rw [Lib.toList_data, Lib.toList_data]
     simp only [beq_eq_false_iff_ne, ne_eq]
     intro e; exact h1 (by rw [str_of n, str_of n', e])
   go_enter Tryd.func32, Tryd.ntmps32
   go_wp2
   go_ret
   exact ⟨by simp [h1], by go_grown⟩
/- Structs: readings, the laws' helpers on them (size, copy, equality). -/
open Go.RowKit
structure Fct where
 rel : Int
 vals : List Int
deriving DecidableEq
def cFct : Cod Fct := cMap (fun x => (x.rel, x.vals)) (cPair cInt (cSlice cInt))
def sizeFact (x : Fct) : Nat := x.vals.length
end

section
/- TyTwo: TyC TyD. -/
/- Slices of structs: the laws' helpers on them (size, copy, equality). -/
open Go.RowKit
theorem at_Relation {B : Nat} {w : World} {l : List Rel} {a0 : Option Addr} {len cap0 : Nat} (h : (cSlice cRel).ok B w l [.slice a0 len cap0]) (j : Nat) (hj : j < l.length) :
   ∃ b off, a0 = some ⟨b, off, none⟩ ∧ b < B ∧ w.cell? ⟨b, off + j * 3, none⟩ = some (.string l[j].name) ∧ w.cell? ⟨b, off + j * 3 + 1, none⟩ = some (.int .i64 l[j].arity) ∧ w.cell? ⟨b, off + j * 3 + 2, none⟩ = some (.int .i64 l[j].key) ∧ cRel.ok B w l[j] [.string l[j].name, .int .i64 l[j].arity, .int .i64 l[j].key] := by
 obtain ⟨b, off, es, rfl, hb, he, hc⟩ := slice_at h j hj
 obtain ⟨rfl, hx⟩ := cRel_open he
 exact ⟨b, off, rfl, hb, by exact hc 0 (by decide), by exact hc 1 (by decide), by exact hc 2 (by decide), hx⟩
def sumRelation (l : List Rel) : Nat := (l.map fun x => x.name.size).sum
def sizeRelationS (l : List Rel) : Nat := l.length + sumRelation l
theorem sumRelation_ge (l : List Rel) (k : Nat) (hk : k < l.length) : (l[k].name.size) ≤ sumRelation l := by
 induction l generalizing k with
 | nil => simp at hk
 | cons x l ih =>
   unfold sumRelation at *
   rw [List.map_cons, List.sum_cons]
   cases k with
   | zero => exact Nat.le_add_right _ _
   | succ k => exact Nat.le_trans (ih k (by simpa using hk)) (Nat.le_add_left _ _)
theorem sumRelation_drop (l : List Rel) (k : Nat) (hk : k < l.length) : sumRelation (l.drop k) = (l[k].name.size) + sumRelation (l.drop (k + 1)) := by
 unfold sumRelation; rw [List.drop_eq_getElem_cons hk, List.map_cons, List.sum_cons]
theorem szRelationS_c {a0 : Option Addr} {cap0 : Nat} {l : List Rel} {left : Int} {w : World} (hl : 0 ≤ left) (hl2 : left ≤ 1048576) (h : At (cSlice cRel) w l [.slice a0 l.length cap0]) :
   Calls Tryd.prog 9 #[.slice a0 l.length cap0, .int .i64 left] w fun e w' => e = .returned (.int .i64 (szR left (sizeRelationS l))) ∧ Below w.heap.size w w' := by
 have hm := (slice_len h).2
 unfold maxLen at hm
 have hw : wrap64 (left - (l.length : Int)) = left - (l.length : Int) := IntWalk.wrap64_in _ ⟨by omega, by omega⟩
 obtain ⟨n, hn⟩ : ∃ n : Nat, l.length = n := ⟨_, rfl⟩
 have Hn := Lib.hid hn
 have Hr : Hid (∀ w' : World, Below w.heap.size w w' → ∀ j (hj : j < l.length), _) := fun w' hb j hj => at_Relation (Cod.ok_below h hb) j hj
 unfold sizeRelationS
 rw [hn] at hw hm ⊢
 clear h hn
 rw [szR_step left n]
 by_cases h0 : left - (n : Int) < 0
 · rw [if_pos (by unfold szR; rw [if_pos h0]; decide)]
   go_enter Tryd.func9, Tryd.ntmps9
   go_wp2
   go_ret
   exact ⟨rfl, Below.refl _ _⟩
 · have hz : szR left n = left - (n : Int) := if_neg h0
   rw [hz, if_neg h0]
   clear hz
   generalize hR : szR (left - (n : Int)) (sumRelation l) = R
   have HR : Hid (szR (left - (n : Int)) (sumRelation (l.drop 0)) = R) := hR
   clear hR
   go_enter Tryd.func9, Tryd.ntmps9
   go_wp2
   go_loopw [1, 5] (fun lv iv wr => ∃ (k : Nat) (q : Int), k ≤ n ∧ lv = .int .i64 q ∧ iv = .int .i64 k ∧ 0 ≤ q ∧ q ≤ 1048576 ∧ Hid (szR q (sumRelation (l.drop k)) = R) ∧ Below w.heap.size w wr) (fun _ iv _ => n - (intOf iv).toNat)
   case atStart => exact ⟨0, left - n, by omega, rfl, rfl, by omega, by omega, HR, Below.refl _ _⟩
   case round =>
     clear HR hw
     obtain ⟨k, q, hk, rfl, rfl, hq0, hq1, Hq, hb⟩ := hrel
     by_cases hlt : k < n
     · have hkl : k < l.length := by rw [Hn.out]; exact hlt
       obtain ⟨b, off, rfl, hbB, c0, c1, c2, hx⟩ := Hr.out _ hb k hkl
       have hst : Hid (R = if szR q (l[k].name.size) < 0 then -1 else szR (szR q (l[k].name.size)) (sumRelation (l.drop (k + 1)))) := by
         show R = _
         rw [← szR_step, ← sumRelation_drop l k hkl, Hq.out]
       have Hc : Hid (∀ ww, Below w.heap.size wr ww → Calls Tryd.prog 43 #[.agg #[.string l[k].name, .int .i64 l[k].arity, .int .i64 l[k].key], .int .i64 q] ww fun e w' => e = .returned (.int .i64 (szR q (l[k].name.size))) ∧ Below ww.heap.size ww w') :=
         fun ww hw2 => szRelation_c hq0 hq1 (cRel.keep hx (fun k hk => hw2.block k hk) (Nat.le_trans hb.size hw2.size))
       have hle := szR_le q (l[k].name.size) hq0
       generalize hz : szR q (l[k].name.size) = z at *
       clear hz hx Hq
       generalize l[k] = r at *
       by_cases hneg : z < 0
       · have hR : R = -1 := by have := hst.out; rw [if_pos hneg] at this; exact this
         go_wp2_with fail
         refine (Hc.out _ (Below.refl _ _)).mono ?_
         rintro e w1 ⟨rfl, hb1⟩
         go_wp2
         go_ret
         exact ⟨by rw [hR]; rfl, hb.trans (hb1.mono hb.size)⟩
       · go_wp2_with fail
         refine (Hc.out _ (Below.refl _ _)).mono ?_
         rintro e w1 ⟨rfl, hb1⟩
         go_wp2
         go_roundw
         case rel =>
           have := hst.out
           rw [if_neg (by omega)] at this
           exact ⟨k + 1, z, by omega, rfl, by go_num, by omega, by omega, this.symm, hb.trans (hb1.mono hb.size)⟩
         case measure => simp [intOf]; omega
     · obtain rfl : k = n := by omega
       have hd : l.drop k = [] := List.drop_eq_nil_of_le (by rw [Hn.out]; exact Nat.le_refl _)
       have hq : q = R := by have := Hq.out; rw [hd] at this; rw [← this]; unfold szR; simp [sumRelation]; omega
       clear hd Hq
       go_wp2
       go_ret
       exact ⟨by rw [hq]; rfl, hb⟩
theorem zRelation_at (A : List Value) (k n : Nat) (h : A.length = k * 3) (hk : k < n) : (A ++ (List.replicate (n - k) ([.string ByteArray.empty, .int .i64 0, .int .i64 0] : List Value)).flatten)[k * 3]? = some (.string ByteArray.empty) ∧ (A ++ (List.replicate (n - k) ([.string ByteArray.empty, .int .i64 0, .int .i64 0] : List Value)).flatten)[k * 3 + 1]? = some (.int .i64 0) ∧ (A ++ (List.replicate (n - k) ([.string ByteArray.empty, .int .i64 0, .int .i64 0] : List Value)).flatten)[k * 3 + 2]? = some (.int .i64 0) := by
 have e1 : n - k = (n - (k + 1)) + 1 := by omega
 rw [e1, List.replicate_succ, List.flatten_cons]
 refine ⟨?_, ?_, ?_⟩
 · rw [List.getElem?_append_right (by omega)]; simp [h]
 · rw [List.getElem?_append_right (by omega)]; simp [h]
 · rw [List.getElem?_append_right (by omega)]; simp [h]
theorem zRelation_step (A : List Value) (k n : Nat) (h : A.length = k * 3) (hk : k < n) (v0 v1 v2 : Value) : (((A ++ (List.replicate (n - k) ([.string ByteArray.empty, .int .i64 0, .int .i64 0] : List Value)).flatten).set (k * 3) v0).set (k * 3 + 1) v1).set (k * 3 + 2) v2 = (A ++ [v0, v1, v2]) ++ (List.replicate (n - (k + 1)) ([.string ByteArray.empty, .int .i64 0, .int .i64 0] : List Value)).flatten := by
 have e1 : n - k = (n - (k + 1)) + 1 := by omega
 rw [e1, List.replicate_succ, List.flatten_cons]
 rw [List.set_append_right _ _ (by omega), List.set_append_right _ _ (by omega), List.set_append_right _ _ (by omega)]
 simp [h]
theorem zRelation_made (n : Nat) : (madeCells #[.string ByteArray.empty, .int .i64 0, .int .i64 0] (n * 3)).toList = (List.replicate n [.string ByteArray.empty, .int .i64 0, .int .i64 0]).flatten := by
 induction n with
 | zero => simp [madeCells]
 | succ n ih =>
   rw [List.replicate_succ', List.flatten_append, ← ih]
   unfold madeCells
   simp [Array.range_succ, Array.toList_range, Nat.add_mod, Nat.mul_mod_left, Nat.succ_mul]
theorem Tryd.infoRelation : (Tryd.prog.info? 68).map (fun i => (i.zero, i.size, i.bytes)) = some (some (.agg #[.string ByteArray.empty, .int .i64 0, .int .i64 0]), 3, 32) := by kernel_rfl
set_option maxHeartbeats 1600000 in
theorem toRelationS_c {a0 : Option Addr} {cap0 : Nat} {l : List Rel} {w : World} (hS : sizeRelationS l ≤ 1048576) (h : At (cSlice cRel) w l [.slice a0 l.length cap0]) :
   Calls Tryd.prog 12 #[.slice a0 l.length cap0] w fun e w' => (∃ a' cap', e = .returned (.slice a' l.length cap') ∧ Own (cSlice cRel) w.heap.size w' l [.slice a' l.length cap']) ∧ Below w.heap.size w w' := by
 have hs : l.length ≤ 1048576 := Nat.le_trans (Nat.le_add_right _ _) hS
 have hs2 : ∀ j (hj : j < l.length), (l[j].name.size) ≤ 1048576 := fun j hj => Nat.le_trans (sumRelation_ge l j hj) (Nat.le_trans (Nat.le_add_left _ _) hS)
 clear hS
 obtain ⟨n, hn⟩ : ∃ n : Nat, l.length = n := ⟨_, rfl⟩
 have Hn := Lib.hid hn
 have Hr : Hid (∀ w' : World, Below w.heap.size w w' → ∀ j (hj : j < l.length), _) := fun w' hb j hj => at_Relation (Cod.ok_below h hb) j hj
 rw [hn] at hs ⊢
 clear hn h
 obtain ⟨i0, hi, hz0, hz1, hz2⟩ := info_parts Tryd.infoRelation
 go_enter Tryd.func12, Tryd.ntmps12
 go_wp2_with (at_make; refine wpList_make_full _ rfl (.tmp 6) (.tmp 6) 30 rfl w.heap.size 68 i0 (.agg #[.string ByteArray.empty, .int .i64 0, .int .i64 0]) 3 Tryd.underlying30 hi hz0 hz1 .i64 .i64 n n n rfl rfl rfl rfl ?c1 ?c2 (Nat.le_refl _) ?_)
 case c1 => rw [hz2]; omega
 case c2 => unfold maxLen; omega
 intro w1 hown hg1
 rw [show (madeCells #[.string ByteArray.empty, .int .i64 0, .int .i64 0] (n * 3)).toList = [].flatten ++ (List.replicate (n - 0) [.string ByteArray.empty, .int .i64 0, .int .i64 0]).flatten by rw [zRelation_made]; simp] at hown
 have hb0 : Below w.heap.size w w1 := (Below.refl _ _).grown hg1 (Nat.le_refl _) (fun k hk => by cases hk)
 clear hg1 hi hz0 hz1 hz2
 go_wp2
 go_loopw [4] (fun iv wr => ∃ (k : Nat) (F : List Nat) (css : List (List Value)), k ≤ n ∧ iv = .int .i64 k ∧ ownL cRel F wr (l.take k) css ∧ (∀ x, x ∈ F → w.heap.size < x ∧ x < wr.heap.size) ∧ wr.ownsRow w.heap.size 68 3 (.slice (some ⟨w.heap.size, 0, none⟩) n n) n (css.flatten ++ (List.replicate (n - k) [.string ByteArray.empty, .int .i64 0, .int .i64 0]).flatten) ∧ Below w.heap.size w wr) (fun iv _ => n - (intOf iv).toNat)
 case atStart => exact ⟨0, [], [], by omega, by go_num, ownL_nil _, by simp, hown, hb0⟩
 case round =>
   clear hown hb0
   obtain ⟨k, F, css, hk, rfl, hL, hF, hown, hb⟩ := hrel
   by_cases hlt : k < n
   · have hkl : k < l.length := by rw [Hn.out]; exact hlt
     obtain ⟨b, off, rfl, hbB, c0, c1, c2, hx⟩ := Hr.out _ hb k hkl
     have Hc : Hid (∀ ww, Below w.heap.size wr ww → Calls Tryd.prog 49 #[.agg #[.string l[k].name, .int .i64 l[k].arity, .int .i64 l[k].key]] ww fun e w' => (e = .returned (.agg #[.string l[k].name, .int .i64 l[k].arity, .int .i64 l[k].key]) ∧ Own cRel ww.heap.size w' l[k] [.string l[k].name, .int .i64 l[k].arity, .int .i64 l[k].key]) ∧ Below ww.heap.size ww w') :=
       fun ww hw2 => toRelation_c (hs2 k hkl) (cRel.keep hx (fun k hk => hw2.block k hk) (Nat.le_trans hb.size hw2.size))
     have hlen : css.flatten.length = k * 3 := by
       have := (ownL_len hL).2
       rw [List.length_take, Nat.min_eq_left (by omega)] at this
       exact this
     have Hat := Lib.hid (zRelation_at css.flatten k n hlen hlt)
     have Hstep := Lib.hid (zRelation_step css.flatten k n hlen hlt)
     have Htake : Hid (l.take (k + 1) = l.take k ++ [l[k]]) := List.take_succ_eq_append_getElem hkl
     have HL := Lib.hid hL
     have HF := Lib.hid hF
     have Hown := Lib.hid hown
     clear hx hL hF hlen hown
     generalize l[k] = r at *
     go_wp2_with fail
     refine (Hc.out _ (Below.refl _ _)).mono ?_
     rintro e w2 ⟨⟨rfl, ho⟩, hb2⟩
     have hown2 := ownsRow_below Hown.out hb2
     have Hown2 := Lib.hid hown2
     have hgw : w.heap.size < wr.heap.size := (Hown.out.lt _ rfl).2
     have f0 := hown2.frozenAt (k * 3)
     have d0 := (hown2.cellAt (k * 3) (by omega)).trans Hat.out.1
     have f1 := hown2.frozenAt (k * 3 + 1)
     have d1 := (hown2.cellAt (k * 3 + 1) (by omega)).trans Hat.out.2.1
     have f2 := hown2.frozenAt (k * 3 + 2)
     have d2 := (hown2.cellAt (k * 3 + 2) (by omega)).trans Hat.out.2.2
     have Ho := Lib.hid ho
     have hbw : Below w.heap.size w w2 := hb.trans (hb2.mono hb.size)
     clear ho hown2
     go_wp2
     go_roundw
     case rel =>
       obtain ⟨G, hG1, hG2⟩ := Ho.out
       have hown2 := Hown2.out
       have s0 := (hown2.stored (k * 3) (.string r.name)).1
       have s1 := (s0.stored (k * 3 + 1) (.int .i64 r.arity)).1
       have s2 := (s1.stored (k * 3 + 2) (.int .i64 r.key)).1
       rw [Hstep.out] at s2
       have hkeep : ∀ kk, kk ≠ w.heap.size → (((w2.setCell ⟨w.heap.size, k * 3, none⟩ (.string r.name)).setCell ⟨w.heap.size, k * 3 + 1, none⟩ (.int .i64 r.arity)).setCell ⟨w.heap.size, k * 3 + 2, none⟩ (.int .i64 r.key)).heap[kk]? = w2.heap[kk]? := fun kk hne => (heap_setCell_other _ ⟨w.heap.size, k * 3 + 2, none⟩ _ _ hne).trans ((heap_setCell_other _ ⟨w.heap.size, k * 3 + 1, none⟩ _ _ hne).trans ((heap_setCell_other _ ⟨w.heap.size, k * 3, none⟩ _ _ hne).trans (rfl)))
       refine ⟨k + 1, F ++ G, css ++ [[.string r.name, .int .i64 r.arity, .int .i64 r.key]], by omega, by go_num, ?_, ?_, ?_, (((hbw).setCell (Nat.le_refl _) _).setCell (Nat.le_refl _) _).setCell (Nat.le_refl _) _⟩
       · rw [Htake.out]
         refine ownL_snoc (cRel.keepO hG1 (fun kk hkk => hkeep kk (by have := (hG2 kk hkk).1; omega))) (ownL_keep (ownL_below HL.out hb2 (fun kk hkk => (HF.out kk hkk).2)) (fun kk hkk => hkeep kk (by have := (HF.out kk hkk).1; omega))) ?_
         intro kk hkk hg
         have := (HF.out kk hkk).2
         have := (hG2 kk hg).1
         omega
       · intro x hx
         simp only [World.setCell, Array.size_modify]
         rcases List.mem_append.1 hx with hx | hx
         · have := HF.out x hx; have := hb2.size; omega
         · have := hG2 x hx; omega
       · simpa using s2
     case measure => simp [intOf]; omega
   · obtain rfl : k = n := by omega
     have hlk : l.take k = l := List.take_of_length_le (by rw [Hn.out]; exact Nat.le_refl _)
     rw [hlk] at hL
     rw [Nat.sub_self, List.replicate_zero, List.flatten_nil, List.append_nil] at hown
     clear hlk
     go_wp2
     go_ret
     refine ⟨⟨_, _, rfl, ?_⟩, hb⟩
     have hlen : l.length = k := Hn.out
     subst hlen
     exact Own.slice (c := cRel) hL hown (fun x hx => by have := hF x hx; omega) (by unfold maxLen; omega)
set_option maxHeartbeats 1600000 in
theorem eqRelationS_c {a0 a0' : Option Addr} {cap0 cap0' : Nat} {l m : List Rel} {w : World} (h : At (cSlice cRel) w l [.slice a0 l.length cap0]) (h' : At (cSlice cRel) w m [.slice a0' m.length cap0']) :
   Calls Tryd.prog 15 #[.slice a0 l.length cap0, .slice a0' m.length cap0'] w fun e w' => e = .returned (.bool (decide (l = m))) ∧ Below w.heap.size w w' := by
 have hm := (slice_len h).2
 have hm' := (slice_len h').2
 unfold maxLen at hm hm'
 by_cases hne : l.length = m.length
 · obtain ⟨n, hn⟩ : ∃ n : Nat, l.length = n := ⟨_, rfl⟩
   have Hr : Hid (∀ w' : World, Below w.heap.size w w' → ∀ j (hj : j < l.length), _) := fun w' hb j hj => at_Relation (Cod.ok_below h hb) j hj
   have Hr' : Hid (∀ w' : World, Below w.heap.size w w' → ∀ j (hj : j < m.length), _) := fun w' hb j hj => at_Relation (Cod.ok_below h' hb) j hj
   clear h h'
   rw [← hne, hn]
   have Hn := Lib.hid hn
   have Hm : Hid (m.length = n) := by rw [← hne]; exact hn
   have hm2 : n ≤ 2 ^ 63 - 1 := by omega
   generalize hR : decide (l = m) = R
   have HR : Hid (decide (l.drop 0 = m.drop 0) = R) := hR
   clear hR hne hn hm hm'
   go_enter Tryd.func15, Tryd.ntmps15
   go_wp2
   go_loopw [5] (fun iv wr => ∃ k : Nat, k ≤ n ∧ iv = .int .i64 k ∧ Hid (decide (l.drop k = m.drop k) = R) ∧ Below w.heap.size w wr) (fun iv _ => n - (intOf iv).toNat)
   case atStart => exact ⟨0, by omega, by go_num, HR, Below.refl _ _⟩
   case round =>
     clear HR
     obtain ⟨k, hk, rfl, Hq, hb⟩ := hrel
     by_cases hlt : k < n
     · have hkl : k < l.length := by rw [Hn.out]; exact hlt
       have hkm : k < m.length := by rw [Hm.out]; exact hlt
       have Hst : Hid (R = (decide (l[k] = m[k]) && decide (l.drop (k + 1) = m.drop (k + 1)))) := by
         show R = _
         rw [← Hq.out, ← Bool.decide_and]; congr 1; rw [List.drop_eq_getElem_cons hkl, List.drop_eq_getElem_cons hkm, List.cons.injEq]
       obtain ⟨b, off, rfl, hbB, c0, c1, c2, hx⟩ := Hr.out _ hb k hkl
       obtain ⟨b', off', rfl, hbB', e0, e1, e2, hy⟩ := Hr'.out _ hb k hkm
       have Hc : Hid (∀ ww, Below w.heap.size wr ww → Calls Tryd.prog 32 #[.agg #[.string l[k].name, .int .i64 l[k].arity, .int .i64 l[k].key], .agg #[.string m[k].name, .int .i64 m[k].arity, .int .i64 m[k].key]] ww fun e w' => e = .returned (.bool (decide (l[k] = m[k]))) ∧ Below ww.heap.size ww w') :=
         fun ww hw2 => eqRelation_c (cRel.keep hx (fun k hk => hw2.block k hk) (Nat.le_trans hb.size hw2.size)) (cRel.keep hy (fun k hk => hw2.block k hk) (Nat.le_trans hb.size hw2.size))
       clear hx hy Hq
       generalize l[k] = r at *
       generalize m[k] = r' at *
       generalize decide (r = r') = z at *
       cases z with
       | true =>
         go_wp2_with fail
         go_region_with (go_at_call 32; refine (Hc.out _ ?hww).mono ?_; (case hww => first | exact Below.refl _ _ | exact (Below.refl _ _).drew | exact Below.drewN' (Below.refl _ _) _); rintro e w1 ⟨rfl, hb1⟩)
         all_goals
           go_wp2
           go_roundw
           case rel =>
             have h := Hst.out
             rw [Bool.true_and] at h
             exact ⟨k + 1, by omega, by go_num, h.symm, hb.drew.trans (hb1.mono hb.size)⟩
           case measure => simp [intOf]; omega
       | false =>
         have hR : R = false := by have h := Hst.out; rw [Bool.false_and] at h; exact h
         go_wp2_with fail
         go_region_with (go_at_call 32; refine (Hc.out _ ?hww).mono ?_; (case hww => first | exact Below.refl _ _ | exact (Below.refl _ _).drew | exact Below.drewN' (Below.refl _ _) _); rintro e w1 ⟨rfl, hb1⟩)
         all_goals
           go_wp2
           go_ret
           exact ⟨by rw [hR]; rfl, hb.drew.trans (hb1.mono hb.size)⟩
     · obtain rfl : k = n := by omega
       have hR : R = true := by
         have := Hq.out
         rw [List.drop_eq_nil_of_le (by rw [Hn.out]; exact Nat.le_refl _), List.drop_eq_nil_of_le (by rw [Hm.out]; exact Nat.le_refl _)] at this
         simpa using this.symm
       go_wp2
       go_ret
       exact ⟨by rw [hR]; rfl, hb⟩
 · rw [decide_eq_false (fun e => hne (by rw [e]))]
   have hne2 : (l.length != m.length) = true := by simpa using hne
   go_enter Tryd.func15, Tryd.ntmps15
   go_wp2
   go_ret
   exact ⟨rfl, Below.refl _ _⟩
def sumFact (l : List Fct) : Nat := (l.map fun x => x.vals.length).sum
def sizeFactS (l : List Fct) : Nat := l.length + sumFact l
/- Structs: readings, the laws' helpers on them (size, copy, equality). -/
open Go.RowKit
structure Dbs where
 rels : List Rel
 facts : List Fct
deriving DecidableEq
def cDbs : Cod Dbs := cMap (fun x => (x.rels, x.facts)) (cPair (cSlice cRel) (cSlice cFct))
def sizeDatabase (x : Dbs) : Nat := sizeRelationS x.rels + (sizeFactS x.facts)
end

section
/- TyTre: TyE TyF TyG TyH. -/
/- Slices of structs: the laws' helpers on them (size, copy, equality). -/
open Go.RowKit
def sumIntS (l : List (List Int)) : Nat := (l.map fun x => x.length).sum
def sizeIntSS (l : List (List Int)) : Nat := l.length + sumIntS l
open Go.RowKit
structure Dcn where
 r1 : Int
 r2 : Int
 j1 : Int
 j2 : Int
 c1 : Int
 c2 : Int
 cmp : Int
deriving DecidableEq
def cDcn : Cod Dcn := cMap (fun x => (x.r1, (x.r2, (x.j1, (x.j2, (x.c1, (x.c2, x.cmp))))))) (cPair cInt (cPair cInt (cPair cInt (cPair cInt (cPair cInt (cPair cInt cInt))))))
structure Edg where
 a : Int
 b : Int
deriving DecidableEq
def cEdg : Cod Edg := cMap (fun x => (x.a, x.b)) (cPair cInt cInt)
structure Atm where
 rel : Int
 terms : List Int
deriving DecidableEq
def cAtm : Cod Atm := cMap (fun x => (x.rel, x.terms)) (cPair cInt (cSlice cInt))
theorem cAtm_fields {B : Nat} {w : World} {x : Atm} {cs : List Value} (h : cAtm.ok B w x cs) : ∃ a1 cap1, cs = [.int .i64 x.rel, .slice a1 x.terms.length cap1] ∧ (cSlice cInt).ok B w x.terms [.slice a1 x.terms.length cap1] ∧ inR x.rel := by
 obtain ⟨_, _, rfl, h0, h1⟩ := h
 obtain ⟨rfl, g0⟩ := h0
 have k1 := h1
 obtain ⟨a1, cap1, rfl, _⟩ := k1
 exact ⟨a1, cap1, rfl, h1, g0⟩
theorem cAtm_open {B : Nat} {w : World} {x : Atm} {cs : List Value} (h : cAtm.ok B w x cs) : ∃ a1 cap1, cs = [.int .i64 x.rel, .slice a1 x.terms.length cap1] ∧ cAtm.ok B w x [.int .i64 x.rel, .slice a1 x.terms.length cap1] := by
 have h0 := h
 obtain ⟨a1, cap1, rfl, _⟩ := cAtm_fields h
 exact ⟨a1, cap1, rfl, h0⟩
theorem cAtm_inv {B : Nat} {w : World} {x : Atm} {v0 v1 : Value} (h : cAtm.ok B w x [v0, v1]) : (cSlice cInt).ok B w x.terms [v1] ∧ inR x.rel := by
 obtain ⟨a1, cap1, e, h1, g0⟩ := cAtm_fields h
 simp only [List.cons.injEq, and_true] at e
 obtain ⟨rfl, rfl⟩ := e
 exact ⟨h1, g0⟩
theorem cAtm_own {lo hi lo1 hi1 : Nat} {w : World} {x : Atm} {v1 : Value} (h1 : OwnIn (cSlice cInt) lo1 hi1 w x.terms [v1]) (l1 : lo1 ≤ hi1) (g0 : inR x.rel) (q1 : lo ≤ lo1) (q : hi1 ≤ hi) : OwnIn cAtm lo hi w x [.int .i64 x.rel, v1] := (OwnIn.pair (OwnIn.int lo lo _ g0) (h1.wide (lo' := lo) (hi' := hi) (by omega) (by omega)) (by omega) (by omega))
def sizeAtom (x : Atm) : Nat := x.terms.length
theorem szAtom_c {a1 : Option Addr} {cap1 : Nat} {x : Atm} {left : Int} {w : World} (hl : 0 ≤ left) (hl2 : left ≤ 1048576) (h : At cAtm w x [.int .i64 x.rel, .slice a1 x.terms.length cap1]) :
   Calls Tryd.prog 93 #[.agg #[.int .i64 x.rel, .slice a1 x.terms.length cap1], .int .i64 left] w fun e w' => e = .returned (.int .i64 (szR left (sizeAtom x))) ∧ Below w.heap.size w w' := by
 obtain ⟨k1, _⟩ := cAtm_inv h
 unfold sizeAtom
 clear h
 obtain ⟨rel, terms⟩ := x
 simp only at *
 have H1 : Hid (∀ q : Int, 0 ≤ q → q ≤ 1048576 → ∀ ww, Below w.heap.size w ww → Calls Tryd.prog 45 #[.slice a1 terms.length cap1, .int .i64 q] ww fun e w' => e = .returned (.int .i64 (szR q (terms.length))) ∧ Below ww.heap.size ww w') :=
   fun q h0 h1 ww hb => szIntS_c h0 h1 (At.below (c := (cSlice cInt)) k1 hb (Nat.le_refl _))
 clear k1
 have G1 := Lib.hid (H1.out (left) (by omega) (by omega))
 have hn1 : szR (left) (terms.length) < 0 → szR (left) (terms.length) = -1 := szR_neg
 have hle1 := szR_le (left) (terms.length) (by omega)
 generalize szR (left) (terms.length) = z1 at *
 by_cases hz1 : z1 < 0
 · obtain rfl : z1 = -1 := hn1 hz1
   clear hn1
   go_enter Tryd.func93, Tryd.ntmps93
   go_wp2_with fail
   refine (G1.out _ ?hb).mono ?_
   case hb => go_grown
   rintro e w1 ⟨rfl, hb1⟩
   have hbb1 : Below w.heap.size w w1 := Below.trans (by go_grown) (hb1.mono (by simp; try omega))
   have hsz1 : w.heap.size + 1 ≤ w1.heap.size := by have := hb1.size; simp at this; omega
   have p1_0 : w1.cell? ⟨w.heap.size, 0, none⟩ = some (.int .i64 rel) := (hb1.cell (by simp)).trans (by go_simp)
   have p1_1 : w1.cell? ⟨w.heap.size, 1, none⟩ = some (.slice a1 terms.length cap1) := (hb1.cell (by simp)).trans (by go_simp)
   clear hb1
   go_wp2
   go_ret
   exact ⟨rfl, hbb1⟩
 · clear hn1
   go_enter Tryd.func93, Tryd.ntmps93
   go_wp2_with fail
   refine (G1.out _ ?hb).mono ?_
   case hb => go_grown
   rintro e w1 ⟨rfl, hb1⟩
   have hbb1 : Below w.heap.size w w1 := Below.trans (by go_grown) (hb1.mono (by simp; try omega))
   have hsz1 : w.heap.size + 1 ≤ w1.heap.size := by have := hb1.size; simp at this; omega
   have p1_0 : w1.cell? ⟨w.heap.size, 0, none⟩ = some (.int .i64 rel) := (hb1.cell (by simp)).trans (by go_simp)
   have p1_1 : w1.cell? ⟨w.heap.size, 1, none⟩ = some (.slice a1 terms.length cap1) := (hb1.cell (by simp)).trans (by go_simp)
   clear hb1
   go_wp2
   go_ret
   exact ⟨rfl, hbb1⟩
set_option maxHeartbeats 800000 in
theorem toAtom_c {a1 : Option Addr} {cap1 : Nat} {x : Atm} {w : World} (hs : sizeAtom x ≤ 1048576) (h : At cAtm w x [.int .i64 x.rel, .slice a1 x.terms.length cap1]) :
   Calls Tryd.prog 96 #[.agg #[.int .i64 x.rel, .slice a1 x.terms.length cap1]] w fun e w' => (∃ a1' cap1', e = .returned (.agg #[.int .i64 x.rel, .slice a1' x.terms.length cap1']) ∧ Own cAtm w.heap.size w' x [.int .i64 x.rel, .slice a1' x.terms.length cap1']) ∧ Below w.heap.size w w' := by
 unfold sizeAtom at hs
 obtain ⟨k1, g0⟩ := cAtm_inv h
 have G0 := Lib.hid g0
 clear g0
 clear h
 obtain ⟨rel, terms⟩ := x
 simp only at *
 have H1 : Hid (∀ ww, Below w.heap.size w ww → Calls Tryd.prog 51 #[.slice a1 terms.length cap1] ww fun e w' => (∃ a' cap', e = .returned (.slice a' terms.length cap') ∧ Own (cSlice cInt) ww.heap.size w' terms [.slice a' terms.length cap']) ∧ Below ww.heap.size ww w') :=
   fun ww hb => toIntS_c (by omega) (At.below (c := (cSlice cInt)) k1 hb (Nat.le_refl _))
 clear hs k1
 go_enter Tryd.func96, Tryd.ntmps96
 go_wp2_with fail
 refine (H1.out _ ?hb).mono ?_
 case hb => go_grown
 rintro e w1 ⟨⟨a1', cap1', rfl, ho1⟩, hb1⟩
 have hbb1 : Below w.heap.size w w1 := Below.trans (by go_grown) (hb1.mono (by simp; try omega))
 have hsz1 : w.heap.size + 3 ≤ w1.heap.size := by have := hb1.size; simp at this; omega
 have p1_0 : w1.cell? ⟨w.heap.size, 0, none⟩ = some (.int .i64 rel) := (hb1.cell (by simp; try omega)).trans (by go_simp)
 have o1_0 : w1.cell? ⟨w.heap.size + 1 + 1, 0, none⟩ = some (.int .i64 rel) := (hb1.cell (by simp; try omega)).trans (by go_simp)
 have f1_0 : w1.frozen? ⟨w.heap.size + 1 + 1, 0, none⟩ = false := (hb1.frozen (by simp; try omega)).trans (by go_simp)
 have e1_0 : w1.cell? ⟨w.heap.size + 1, 0, none⟩ = some (.int .i64 0) := (hb1.cell (by simp; try omega)).trans (by go_simp)
 have g1_0 : w1.frozen? ⟨w.heap.size + 1, 0, none⟩ = false := (hb1.frozen (by simp; try omega)).trans (by go_simp)
 have p1_1 : w1.cell? ⟨w.heap.size, 1, none⟩ = some (.slice a1 terms.length cap1) := (hb1.cell (by simp; try omega)).trans (by go_simp)
 have o1_1 : w1.cell? ⟨w.heap.size + 1 + 1, 1, none⟩ = some (.slice none 0 0) := (hb1.cell (by simp; try omega)).trans (by go_simp)
 have f1_1 : w1.frozen? ⟨w.heap.size + 1 + 1, 1, none⟩ = false := (hb1.frozen (by simp; try omega)).trans (by go_simp)
 have e1_1 : w1.cell? ⟨w.heap.size + 1, 1, none⟩ = some (.slice none 0 0) := (hb1.cell (by simp; try omega)).trans (by go_simp)
 have g1_1 : w1.frozen? ⟨w.heap.size + 1, 1, none⟩ = false := (hb1.frozen (by simp; try omega)).trans (by go_simp)
 have hR1 : w1.heap[w.heap.size + 1]? = some (.cells #[.int .i64 0, .slice none 0 0] 95 (0, 0)) := (hb1.block _ (by simp; try omega)).trans (by rw [Go.heap_alloc_old _ _ (by simp; try omega)]; exact heap_alloc2_new _ _ _)
 have u1 : OwnIn (cSlice cInt) (w.heap.size + 3) w1.heap.size w1 terms _ := OwnIn.wide ho1 (by simp; try omega) (Nat.le_refl _)
 clear hb1 ho1
 have U1 := Lib.hid u1
 clear u1
 go_wp2
 (try simp only [Exit.inBlock, Exit.then])
 refine bodyPost_ret (results_cell_row rfl _ _ (w.heap.size + 1) _ _ _ _ rfl (heap_setCell_same _ _ 1 _ _ _ (heap_setCell_same _ _ 0 _ _ _ ((heap_setCell_other _ _ _ _ (by simp)).trans (hR1)))) Tryd.underlying95 rfl (by kernel_rfl)) rfl ?_
 exact ⟨⟨_, _, rfl, OwnIn.own (cAtm_own (x := ⟨rel, terms⟩) (lo := w.heap.size) (hi := w1.heap.size) ((((U1.out).setCell (by simp; try omega) _).setCell (by simp; try omega) _).setCell (by simp; try omega) _) (by omega) G0.out (by omega) (by omega)) (by simp [World.setCell])⟩, (((hbb1).setCell (by simp; try omega) _).setCell (by simp; try omega) _).setCell (by simp; try omega) _⟩
theorem eqAtom_c {a1 : Option Addr} {cap1 : Nat} {a1' : Option Addr} {cap1' : Nat} {x y : Atm} {w : World} (h : At cAtm w x [.int .i64 x.rel, .slice a1 x.terms.length cap1]) (h' : At cAtm w y [.int .i64 y.rel, .slice a1' y.terms.length cap1']) :
   Calls Tryd.prog 107 #[.agg #[.int .i64 x.rel, .slice a1 x.terms.length cap1], .agg #[.int .i64 y.rel, .slice a1' y.terms.length cap1']] w fun e w' => e = .returned (.bool (decide (x = y))) ∧ Below w.heap.size w w' := by
 obtain ⟨k1, _⟩ := cAtm_inv h
 obtain ⟨m1, _⟩ := cAtm_inv h'
 clear h h'
 obtain ⟨rel, terms⟩ := x
 obtain ⟨rel', terms'⟩ := y
 have he : decide (Atm.mk rel terms = Atm.mk rel' terms') = (decide (rel = rel') && decide (terms = terms')) := by
   simp only [← Bool.decide_and]; congr 1; rw [Atm.mk.injEq]
 rw [he]
 clear he
 simp only at *
 have H1 : Hid (∀ ww, Below w.heap.size w ww → Calls Tryd.prog 58 #[.slice a1 terms.length cap1, .slice a1' terms'.length cap1'] ww fun e w' => e = .returned (.bool (decide (terms = terms'))) ∧ Below ww.heap.size ww w') :=
   fun ww hb => eqIntS_c (At.below (c := (cSlice cInt)) k1 hb (Nat.le_refl _)) (At.below (c := (cSlice cInt)) m1 hb (Nat.le_refl _))
 clear k1 m1
 by_cases hr0 : rel = rel'
 · subst hr0
   rw [decide_eq_true rfl, Bool.true_and]
   generalize decide (terms = terms') = z1 at *
   cases z1 with
   | true =>
     go_enter Tryd.func107, Tryd.ntmps107
     go_wp2_with fail
     refine (H1.out _ ?hb).mono ?_
     case hb => go_grown
     rintro e w1 ⟨rfl, hb1⟩
     have hbb1 : Below w.heap.size w w1 := Below.trans (by go_grown) (hb1.mono (by simp; try omega))
     have hsz1 : w.heap.size + 2 ≤ w1.heap.size := by have := hb1.size; simp at this; omega
     have p1_0 : w1.cell? ⟨w.heap.size, 0, none⟩ = some (.int .i64 rel) := (hb1.cell (by simp; try omega)).trans (by go_simp)
     have r1_0 : w1.cell? ⟨w.heap.size + 1, 0, none⟩ = some (.int .i64 rel) := (hb1.cell (by simp; try omega)).trans (by go_simp)
     have p1_1 : w1.cell? ⟨w.heap.size, 1, none⟩ = some (.slice a1 terms.length cap1) := (hb1.cell (by simp; try omega)).trans (by go_simp)
     have r1_1 : w1.cell? ⟨w.heap.size + 1, 1, none⟩ = some (.slice a1' terms'.length cap1') := (hb1.cell (by simp; try omega)).trans (by go_simp)
     clear hb1
     go_wp2
     go_ret
     exact ⟨by simp, hbb1⟩
   | false =>
     go_enter Tryd.func107, Tryd.ntmps107
     go_wp2_with fail
     refine (H1.out _ ?hb).mono ?_
     case hb => go_grown
     rintro e w1 ⟨rfl, hb1⟩
     have hbb1 : Below w.heap.size w w1 := Below.trans (by go_grown) (hb1.mono (by simp; try omega))
     have hsz1 : w.heap.size + 2 ≤ w1.heap.size := by have := hb1.size; simp at this; omega
     have p1_0 : w1.cell? ⟨w.heap.size, 0, none⟩ = some (.int .i64 rel) := (hb1.cell (by simp; try omega)).trans (by go_simp)
     have r1_0 : w1.cell? ⟨w.heap.size + 1, 0, none⟩ = some (.int .i64 rel) := (hb1.cell (by simp; try omega)).trans (by go_simp)
     have p1_1 : w1.cell? ⟨w.heap.size, 1, none⟩ = some (.slice a1 terms.length cap1) := (hb1.cell (by simp; try omega)).trans (by go_simp)
     have r1_1 : w1.cell? ⟨w.heap.size + 1, 1, none⟩ = some (.slice a1' terms'.length cap1') := (hb1.cell (by simp; try omega)).trans (by go_simp)
     clear hb1
     go_wp2
     go_ret
     exact ⟨by simp, hbb1⟩
 · have hn0 : (rel != rel') = true := by simp [hr0]
   rw [decide_eq_false hr0, Bool.false_and]
   go_enter Tryd.func107, Tryd.ntmps107
   go_wp2
   go_ret
   exact ⟨by simp, by go_grown⟩
/- Slices of structs: the laws' helpers on them (size, copy, equality). -/
open Go.RowKit
def sumAtom (l : List Atm) : Nat := (l.map fun x => x.terms.length).sum
def sizeAtomS (l : List Atm) : Nat := l.length + sumAtom l
/- Structs: readings, the laws' helpers on them (size, copy, equality). -/
open Go.RowKit
structure Qry where
 vars : Int
 atoms : List Atm
 free : List Int
deriving DecidableEq
def cQry : Cod Qry := cMap (fun x => (x.vars, (x.atoms, x.free))) (cPair cInt (cPair (cSlice cAtm) (cSlice cInt)))
def sizeQuery (x : Qry) : Nat := sizeAtomS x.atoms + (x.free.length)
end

section
/- Structs that hold structs: readings, the laws' helpers on them (size, copy, equality). -/
open Go.RowKit
structure Rst where
 atom : Atm
 ex : List Int
 un : List Int
deriving DecidableEq
def cRst : Cod Rst := cMap (fun x => (x.atom, (x.ex, x.un))) (cPair cAtm (cPair (cSlice cInt) (cSlice cInt)))
theorem cRst_fields {B : Nat} {w : World} {x : Rst} {cs : List Value} (h : cRst.ok B w x cs) : ∃ a1 cap1 a2 cap2 a3 cap3, cs = [.int .i64 x.atom.rel, .slice a1 x.atom.terms.length cap1, .slice a2 x.ex.length cap2, .slice a3 x.un.length cap3] ∧ cAtm.ok B w x.atom [.int .i64 x.atom.rel, .slice a1 x.atom.terms.length cap1] ∧ (cSlice cInt).ok B w x.ex [.slice a2 x.ex.length cap2] ∧ (cSlice cInt).ok B w x.un [.slice a3 x.un.length cap3] := by
 obtain ⟨_, _, rfl, h0, _, _, rfl, h1, h2⟩ := h
 obtain ⟨a1, cap1, rfl, k0⟩ := cAtm_open h0
 have k1 := h1
 obtain ⟨a2, cap2, rfl, _⟩ := k1
 have k2 := h2
 obtain ⟨a3, cap3, rfl, _⟩ := k2
 exact ⟨a1, cap1, a2, cap2, a3, cap3, rfl, k0, h1, h2⟩
theorem cRst_open {B : Nat} {w : World} {x : Rst} {cs : List Value} (h : cRst.ok B w x cs) : ∃ a1 cap1 a2 cap2 a3 cap3, cs = [.int .i64 x.atom.rel, .slice a1 x.atom.terms.length cap1, .slice a2 x.ex.length cap2, .slice a3 x.un.length cap3] ∧ cRst.ok B w x [.int .i64 x.atom.rel, .slice a1 x.atom.terms.length cap1, .slice a2 x.ex.length cap2, .slice a3 x.un.length cap3] := by
 have h0 := h
 obtain ⟨a1, cap1, a2, cap2, a3, cap3, rfl, _⟩ := cRst_fields h
 exact ⟨a1, cap1, a2, cap2, a3, cap3, rfl, h0⟩
theorem cRst_inv {B : Nat} {w : World} {x : Rst} {v0 v1 v2 v3 : Value} (h : cRst.ok B w x [v0, v1, v2, v3]) : cAtm.ok B w x.atom [v0, v1] ∧ (cSlice cInt).ok B w x.ex [v2] ∧ (cSlice cInt).ok B w x.un [v3] := by
 obtain ⟨a1, cap1, a2, cap2, a3, cap3, e, h0, h1, h2⟩ := cRst_fields h
 simp only [List.cons.injEq, and_true] at e
 obtain ⟨rfl, rfl, rfl, rfl⟩ := e
 exact ⟨h0, h1, h2⟩
theorem cRst_own {lo hi lo0 hi0 lo1 hi1 lo2 hi2 : Nat} {w : World} {x : Rst} {v0 v1 v2 v3 : Value} (h0 : OwnIn cAtm lo0 hi0 w x.atom [v0, v1]) (l0 : lo0 ≤ hi0) (h1 : OwnIn (cSlice cInt) lo1 hi1 w x.ex [v2]) (l1 : lo1 ≤ hi1) (h2 : OwnIn (cSlice cInt) lo2 hi2 w x.un [v3]) (l2 : lo2 ≤ hi2) (q0 : lo ≤ lo0) (q1 : hi0 ≤ lo1) (q2 : hi1 ≤ lo2) (q : hi2 ≤ hi) : OwnIn cRst lo hi w x [v0, v1, v2, v3] := (OwnIn.pair (h0.wide (lo' := lo) (hi' := hi0) (by omega) (by omega)) (OwnIn.pair (h1.wide (lo' := hi0) (hi' := hi1) (by omega) (by omega)) (h2.wide (lo' := hi1) (hi' := hi) (by omega) (by omega)) (by omega) (by omega)) (by omega) (by omega))
def sizeRewritingStep (x : Rst) : Nat := sizeAtom x.atom + (x.ex.length + (x.un.length))
theorem szRewritingStep_c {a1 : Option Addr} {cap1 : Nat} {a2 : Option Addr} {cap2 : Nat} {a3 : Option Addr} {cap3 : Nat} {x : Rst} {left : Int} {w : World} (hl : 0 ≤ left) (hl2 : left ≤ 1048576) (h : At cRst w x [.int .i64 x.atom.rel, .slice a1 x.atom.terms.length cap1, .slice a2 x.ex.length cap2, .slice a3 x.un.length cap3]) :
   Calls Tryd.prog 85 #[.agg #[.int .i64 x.atom.rel, .slice a1 x.atom.terms.length cap1, .slice a2 x.ex.length cap2, .slice a3 x.un.length cap3], .int .i64 left] w fun e w' => e = .returned (.int .i64 (szR left (sizeRewritingStep x))) ∧ Below w.heap.size w w' := by
 obtain ⟨k0, k1, k2⟩ := cRst_inv h
 unfold sizeRewritingStep
 clear h
 obtain ⟨⟨rel, terms⟩, ex, un⟩ := x
 simp only at *
 have H0 : Hid (∀ q : Int, 0 ≤ q → q ≤ 1048576 → ∀ ww, Below w.heap.size w ww → Calls Tryd.prog 93 #[.agg #[.int .i64 rel, .slice a1 terms.length cap1], .int .i64 q] ww fun e w' => e = .returned (.int .i64 (szR q (sizeAtom (Atm.mk rel terms)))) ∧ Below ww.heap.size ww w') :=
   fun q h0 h1 ww hb => szAtom_c h0 h1 (At.below (c := cAtm) k0 hb (Nat.le_refl _))
 have H1 : Hid (∀ q : Int, 0 ≤ q → q ≤ 1048576 → ∀ ww, Below w.heap.size w ww → Calls Tryd.prog 45 #[.slice a2 ex.length cap2, .int .i64 q] ww fun e w' => e = .returned (.int .i64 (szR q (ex.length))) ∧ Below ww.heap.size ww w') :=
   fun q h0 h1 ww hb => szIntS_c h0 h1 (At.below (c := (cSlice cInt)) k1 hb (Nat.le_refl _))
 have H2 : Hid (∀ q : Int, 0 ≤ q → q ≤ 1048576 → ∀ ww, Below w.heap.size w ww → Calls Tryd.prog 45 #[.slice a3 un.length cap3, .int .i64 q] ww fun e w' => e = .returned (.int .i64 (szR q (un.length))) ∧ Below ww.heap.size ww w') :=
   fun q h0 h1 ww hb => szIntS_c h0 h1 (At.below (c := (cSlice cInt)) k2 hb (Nat.le_refl _))
 clear k0 k1 k2
 generalize sizeAtom (Atm.mk rel terms) = Z0 at *
 have G0 := Lib.hid (H0.out (left) (by omega) (by omega))
 rw [szR_step (left) (Z0)]
 have hn0 : szR (left) (Z0) < 0 → szR (left) (Z0) = -1 := szR_neg
 have hle0 := szR_le (left) (Z0) (by omega)
 generalize szR (left) (Z0) = z0 at *
 by_cases hz0 : z0 < 0
 · obtain rfl : z0 = -1 := hn0 hz0
   clear hn0
   rw [if_pos (by decide)]
   go_enter Tryd.func85, Tryd.ntmps85
   go_wp2_with fail
   refine (G0.out _ ?hb).mono ?_
   case hb => go_grown
   rintro e w1 ⟨rfl, hb1⟩
   have hbb1 : Below w.heap.size w w1 := Below.trans (by go_grown) (hb1.mono (by simp; try omega))
   have hsz1 : w.heap.size + 1 ≤ w1.heap.size := by have := hb1.size; simp at this; omega
   have p1_0 : w1.cell? ⟨w.heap.size, 0, none⟩ = some (.int .i64 rel) := (hb1.cell (by simp)).trans (by go_simp)
   have p1_1 : w1.cell? ⟨w.heap.size, 1, none⟩ = some (.slice a1 terms.length cap1) := (hb1.cell (by simp)).trans (by go_simp)
   have p1_2 : w1.cell? ⟨w.heap.size, 2, none⟩ = some (.slice a2 ex.length cap2) := (hb1.cell (by simp)).trans (by go_simp)
   have p1_3 : w1.cell? ⟨w.heap.size, 3, none⟩ = some (.slice a3 un.length cap3) := (hb1.cell (by simp)).trans (by go_simp)
   clear hb1
   go_wp2
   go_ret
   exact ⟨rfl, hbb1⟩
 · clear hn0
   rw [if_neg hz0]
   have G1 := Lib.hid (H1.out (z0) (by omega) (by omega))
   rw [szR_step (z0) (ex.length)]
   have hn1 : szR (z0) (ex.length) < 0 → szR (z0) (ex.length) = -1 := szR_neg
   have hle1 := szR_le (z0) (ex.length) (by omega)
   generalize szR (z0) (ex.length) = z1 at *
   by_cases hz1 : z1 < 0
   · obtain rfl : z1 = -1 := hn1 hz1
     clear hn1
     rw [if_pos (by decide)]
     go_enter Tryd.func85, Tryd.ntmps85
     go_wp2_with fail
     refine (G0.out _ ?hb).mono ?_
     case hb => go_grown
     rintro e w1 ⟨rfl, hb1⟩
     have hbb1 : Below w.heap.size w w1 := Below.trans (by go_grown) (hb1.mono (by simp; try omega))
     have hsz1 : w.heap.size + 1 ≤ w1.heap.size := by have := hb1.size; simp at this; omega
     have p1_0 : w1.cell? ⟨w.heap.size, 0, none⟩ = some (.int .i64 rel) := (hb1.cell (by simp)).trans (by go_simp)
     have p1_1 : w1.cell? ⟨w.heap.size, 1, none⟩ = some (.slice a1 terms.length cap1) := (hb1.cell (by simp)).trans (by go_simp)
     have p1_2 : w1.cell? ⟨w.heap.size, 2, none⟩ = some (.slice a2 ex.length cap2) := (hb1.cell (by simp)).trans (by go_simp)
     have p1_3 : w1.cell? ⟨w.heap.size, 3, none⟩ = some (.slice a3 un.length cap3) := (hb1.cell (by simp)).trans (by go_simp)
     clear hb1
     go_wp2_with fail
     refine (G1.out _ ?hb).mono ?_
     case hb => exact hbb1
     rintro e w2 ⟨rfl, hb2⟩
     have hbb2 : Below w.heap.size w w2 := hbb1.trans (hb2.mono (by omega))
     have hsz2 : w.heap.size + 1 ≤ w2.heap.size := by have := hb2.size; omega
     have p2_0 := (hb2.cell (p := ⟨w.heap.size, 0, none⟩) (by simp; try omega)).trans p1_0
     have p2_1 := (hb2.cell (p := ⟨w.heap.size, 1, none⟩) (by simp; try omega)).trans p1_1
     have p2_2 := (hb2.cell (p := ⟨w.heap.size, 2, none⟩) (by simp; try omega)).trans p1_2
     have p2_3 := (hb2.cell (p := ⟨w.heap.size, 3, none⟩) (by simp; try omega)).trans p1_3
     clear p1_0 p1_1 p1_2 p1_3
     clear hb2
     go_wp2
     go_ret
     exact ⟨rfl, hbb2⟩
   · clear hn1
     rw [if_neg hz1]
     have G2 := Lib.hid (H2.out (z1) (by omega) (by omega))
     have hn2 : szR (z1) (un.length) < 0 → szR (z1) (un.length) = -1 := szR_neg
     have hle2 := szR_le (z1) (un.length) (by omega)
     generalize szR (z1) (un.length) = z2 at *
     by_cases hz2 : z2 < 0
     · obtain rfl : z2 = -1 := hn2 hz2
       clear hn2
       go_enter Tryd.func85, Tryd.ntmps85
       go_wp2_with fail
       refine (G0.out _ ?hb).mono ?_
       case hb => go_grown
       rintro e w1 ⟨rfl, hb1⟩
       have hbb1 : Below w.heap.size w w1 := Below.trans (by go_grown) (hb1.mono (by simp; try omega))
       have hsz1 : w.heap.size + 1 ≤ w1.heap.size := by have := hb1.size; simp at this; omega
       have p1_0 : w1.cell? ⟨w.heap.size, 0, none⟩ = some (.int .i64 rel) := (hb1.cell (by simp)).trans (by go_simp)
       have p1_1 : w1.cell? ⟨w.heap.size, 1, none⟩ = some (.slice a1 terms.length cap1) := (hb1.cell (by simp)).trans (by go_simp)
       have p1_2 : w1.cell? ⟨w.heap.size, 2, none⟩ = some (.slice a2 ex.length cap2) := (hb1.cell (by simp)).trans (by go_simp)
       have p1_3 : w1.cell? ⟨w.heap.size, 3, none⟩ = some (.slice a3 un.length cap3) := (hb1.cell (by simp)).trans (by go_simp)
       clear hb1
       go_wp2_with fail
       refine (G1.out _ ?hb).mono ?_
       case hb => exact hbb1
       rintro e w2 ⟨rfl, hb2⟩
       have hbb2 : Below w.heap.size w w2 := hbb1.trans (hb2.mono (by omega))
       have hsz2 : w.heap.size + 1 ≤ w2.heap.size := by have := hb2.size; omega
       have p2_0 := (hb2.cell (p := ⟨w.heap.size, 0, none⟩) (by simp; try omega)).trans p1_0
       have p2_1 := (hb2.cell (p := ⟨w.heap.size, 1, none⟩) (by simp; try omega)).trans p1_1
       have p2_2 := (hb2.cell (p := ⟨w.heap.size, 2, none⟩) (by simp; try omega)).trans p1_2
       have p2_3 := (hb2.cell (p := ⟨w.heap.size, 3, none⟩) (by simp; try omega)).trans p1_3
       clear p1_0 p1_1 p1_2 p1_3
       clear hb2
       go_wp2_with fail
       refine (G2.out _ ?hb).mono ?_
       case hb => exact hbb2
       rintro e w3 ⟨rfl, hb3⟩
       have hbb3 : Below w.heap.size w w3 := hbb2.trans (hb3.mono (by omega))
       have hsz3 : w.heap.size + 1 ≤ w3.heap.size := by have := hb3.size; omega
       have p3_0 := (hb3.cell (p := ⟨w.heap.size, 0, none⟩) (by simp; try omega)).trans p2_0
       have p3_1 := (hb3.cell (p := ⟨w.heap.size, 1, none⟩) (by simp; try omega)).trans p2_1
       have p3_2 := (hb3.cell (p := ⟨w.heap.size, 2, none⟩) (by simp; try omega)).trans p2_2
       have p3_3 := (hb3.cell (p := ⟨w.heap.size, 3, none⟩) (by simp; try omega)).trans p2_3
       clear p2_0 p2_1 p2_2 p2_3
       clear hb3
       go_wp2
       go_ret
       exact ⟨rfl, hbb3⟩
     · clear hn2
       go_enter Tryd.func85, Tryd.ntmps85
       go_wp2_with fail
       refine (G0.out _ ?hb).mono ?_
       case hb => go_grown
       rintro e w1 ⟨rfl, hb1⟩
       have hbb1 : Below w.heap.size w w1 := Below.trans (by go_grown) (hb1.mono (by simp; try omega))
       have hsz1 : w.heap.size + 1 ≤ w1.heap.size := by have := hb1.size; simp at this; omega
       have p1_0 : w1.cell? ⟨w.heap.size, 0, none⟩ = some (.int .i64 rel) := (hb1.cell (by simp)).trans (by go_simp)
       have p1_1 : w1.cell? ⟨w.heap.size, 1, none⟩ = some (.slice a1 terms.length cap1) := (hb1.cell (by simp)).trans (by go_simp)
       have p1_2 : w1.cell? ⟨w.heap.size, 2, none⟩ = some (.slice a2 ex.length cap2) := (hb1.cell (by simp)).trans (by go_simp)
       have p1_3 : w1.cell? ⟨w.heap.size, 3, none⟩ = some (.slice a3 un.length cap3) := (hb1.cell (by simp)).trans (by go_simp)
       clear hb1
       go_wp2_with fail
       refine (G1.out _ ?hb).mono ?_
       case hb => exact hbb1
       rintro e w2 ⟨rfl, hb2⟩
       have hbb2 : Below w.heap.size w w2 := hbb1.trans (hb2.mono (by omega))
       have hsz2 : w.heap.size + 1 ≤ w2.heap.size := by have := hb2.size; omega
       have p2_0 := (hb2.cell (p := ⟨w.heap.size, 0, none⟩) (by simp; try omega)).trans p1_0
       have p2_1 := (hb2.cell (p := ⟨w.heap.size, 1, none⟩) (by simp; try omega)).trans p1_1
       have p2_2 := (hb2.cell (p := ⟨w.heap.size, 2, none⟩) (by simp; try omega)).trans p1_2
       have p2_3 := (hb2.cell (p := ⟨w.heap.size, 3, none⟩) (by simp; try omega)).trans p1_3
       clear p1_0 p1_1 p1_2 p1_3
       clear hb2
       go_wp2_with fail
       refine (G2.out _ ?hb).mono ?_
       case hb => exact hbb2
       rintro e w3 ⟨rfl, hb3⟩
       have hbb3 : Below w.heap.size w w3 := hbb2.trans (hb3.mono (by omega))
       have hsz3 : w.heap.size + 1 ≤ w3.heap.size := by have := hb3.size; omega
       have p3_0 := (hb3.cell (p := ⟨w.heap.size, 0, none⟩) (by simp; try omega)).trans p2_0
       have p3_1 := (hb3.cell (p := ⟨w.heap.size, 1, none⟩) (by simp; try omega)).trans p2_1
       have p3_2 := (hb3.cell (p := ⟨w.heap.size, 2, none⟩) (by simp; try omega)).trans p2_2
       have p3_3 := (hb3.cell (p := ⟨w.heap.size, 3, none⟩) (by simp; try omega)).trans p2_3
       clear p2_0 p2_1 p2_2 p2_3
       clear hb3
       go_wp2
       go_ret
       exact ⟨rfl, hbb3⟩
set_option maxHeartbeats 1600000 in
theorem toRewritingStep_c {a1 : Option Addr} {cap1 : Nat} {a2 : Option Addr} {cap2 : Nat} {a3 : Option Addr} {cap3 : Nat} {x : Rst} {w : World} (hs : sizeRewritingStep x ≤ 1048576) (h : At cRst w x [.int .i64 x.atom.rel, .slice a1 x.atom.terms.length cap1, .slice a2 x.ex.length cap2, .slice a3 x.un.length cap3]) :
   Calls Tryd.prog 88 #[.agg #[.int .i64 x.atom.rel, .slice a1 x.atom.terms.length cap1, .slice a2 x.ex.length cap2, .slice a3 x.un.length cap3]] w fun e w' => (∃ a1' cap1' a2' cap2' a3' cap3', e = .returned (.agg #[.int .i64 x.atom.rel, .slice a1' x.atom.terms.length cap1', .slice a2' x.ex.length cap2', .slice a3' x.un.length cap3']) ∧ Own cRst w.heap.size w' x [.int .i64 x.atom.rel, .slice a1' x.atom.terms.length cap1', .slice a2' x.ex.length cap2', .slice a3' x.un.length cap3']) ∧ Below w.heap.size w w' := by
 unfold sizeRewritingStep at hs
 obtain ⟨k0, k1, k2⟩ := cRst_inv h
 clear h
 obtain ⟨⟨rel, terms⟩, ex, un⟩ := x
 simp only at *
 have H0 : Hid (∀ ww, Below w.heap.size w ww → Calls Tryd.prog 96 #[.agg #[.int .i64 rel, .slice a1 terms.length cap1]] ww fun e w' => (∃ a1' cap1', e = .returned (.agg #[.int .i64 rel, .slice a1' terms.length cap1']) ∧ Own cAtm ww.heap.size w' (Atm.mk rel terms) [.int .i64 rel, .slice a1' terms.length cap1']) ∧ Below ww.heap.size ww w') :=
   fun ww hb => toAtom_c (by omega) (At.below (c := cAtm) k0 hb (Nat.le_refl _))
 have H1 : Hid (∀ ww, Below w.heap.size w ww → Calls Tryd.prog 51 #[.slice a2 ex.length cap2] ww fun e w' => (∃ a2' cap2', e = .returned (.slice a2' ex.length cap2') ∧ Own (cSlice cInt) ww.heap.size w' ex [.slice a2' ex.length cap2']) ∧ Below ww.heap.size ww w') :=
   fun ww hb => toIntS_c (by omega) (At.below (c := (cSlice cInt)) k1 hb (Nat.le_refl _))
 have H2 : Hid (∀ ww, Below w.heap.size w ww → Calls Tryd.prog 51 #[.slice a3 un.length cap3] ww fun e w' => (∃ a3' cap3', e = .returned (.slice a3' un.length cap3') ∧ Own (cSlice cInt) ww.heap.size w' un [.slice a3' un.length cap3']) ∧ Below ww.heap.size ww w') :=
   fun ww hb => toIntS_c (by omega) (At.below (c := (cSlice cInt)) k2 hb (Nat.le_refl _))
 clear hs k0 k1 k2
 go_enter Tryd.func88, Tryd.ntmps88
 go_wp2_with fail
 refine (H0.out _ ?hb).mono ?_
 case hb => go_grown
 rintro e w1 ⟨⟨a1', cap1', rfl, ho0⟩, hb1⟩
 have hbb1 : Below w.heap.size w w1 := Below.trans (by go_grown) (hb1.mono (by simp; try omega))
 have hsz1 : w.heap.size + 3 ≤ w1.heap.size := by have := hb1.size; simp at this; omega
 have p1_0 : w1.cell? ⟨w.heap.size, 0, none⟩ = some (.int .i64 rel) := (hb1.cell (by simp; try omega)).trans (by go_simp)
 have o1_0 : w1.cell? ⟨w.heap.size + 1 + 1, 0, none⟩ = some (.int .i64 0) := (hb1.cell (by simp; try omega)).trans (by go_simp)
 have f1_0 : w1.frozen? ⟨w.heap.size + 1 + 1, 0, none⟩ = false := (hb1.frozen (by simp; try omega)).trans (by go_simp)
 have e1_0 : w1.cell? ⟨w.heap.size + 1, 0, none⟩ = some (.int .i64 0) := (hb1.cell (by simp; try omega)).trans (by go_simp)
 have g1_0 : w1.frozen? ⟨w.heap.size + 1, 0, none⟩ = false := (hb1.frozen (by simp; try omega)).trans (by go_simp)
 have p1_1 : w1.cell? ⟨w.heap.size, 1, none⟩ = some (.slice a1 terms.length cap1) := (hb1.cell (by simp; try omega)).trans (by go_simp)
 have o1_1 : w1.cell? ⟨w.heap.size + 1 + 1, 1, none⟩ = some (.slice none 0 0) := (hb1.cell (by simp; try omega)).trans (by go_simp)
 have f1_1 : w1.frozen? ⟨w.heap.size + 1 + 1, 1, none⟩ = false := (hb1.frozen (by simp; try omega)).trans (by go_simp)
 have e1_1 : w1.cell? ⟨w.heap.size + 1, 1, none⟩ = some (.slice none 0 0) := (hb1.cell (by simp; try omega)).trans (by go_simp)
 have g1_1 : w1.frozen? ⟨w.heap.size + 1, 1, none⟩ = false := (hb1.frozen (by simp; try omega)).trans (by go_simp)
 have p1_2 : w1.cell? ⟨w.heap.size, 2, none⟩ = some (.slice a2 ex.length cap2) := (hb1.cell (by simp; try omega)).trans (by go_simp)
 have o1_2 : w1.cell? ⟨w.heap.size + 1 + 1, 2, none⟩ = some (.slice none 0 0) := (hb1.cell (by simp; try omega)).trans (by go_simp)
 have f1_2 : w1.frozen? ⟨w.heap.size + 1 + 1, 2, none⟩ = false := (hb1.frozen (by simp; try omega)).trans (by go_simp)
 have e1_2 : w1.cell? ⟨w.heap.size + 1, 2, none⟩ = some (.slice none 0 0) := (hb1.cell (by simp; try omega)).trans (by go_simp)
 have g1_2 : w1.frozen? ⟨w.heap.size + 1, 2, none⟩ = false := (hb1.frozen (by simp; try omega)).trans (by go_simp)
 have p1_3 : w1.cell? ⟨w.heap.size, 3, none⟩ = some (.slice a3 un.length cap3) := (hb1.cell (by simp; try omega)).trans (by go_simp)
 have o1_3 : w1.cell? ⟨w.heap.size + 1 + 1, 3, none⟩ = some (.slice none 0 0) := (hb1.cell (by simp; try omega)).trans (by go_simp)
 have f1_3 : w1.frozen? ⟨w.heap.size + 1 + 1, 3, none⟩ = false := (hb1.frozen (by simp; try omega)).trans (by go_simp)
 have e1_3 : w1.cell? ⟨w.heap.size + 1, 3, none⟩ = some (.slice none 0 0) := (hb1.cell (by simp; try omega)).trans (by go_simp)
 have g1_3 : w1.frozen? ⟨w.heap.size + 1, 3, none⟩ = false := (hb1.frozen (by simp; try omega)).trans (by go_simp)
 have hR1 : w1.heap[w.heap.size + 1]? = some (.cells #[.int .i64 0, .slice none 0 0, .slice none 0 0, .slice none 0 0] 139 (0, 0)) := (hb1.block _ (by simp; try omega)).trans (by rw [Go.heap_alloc_old _ _ (by simp; try omega)]; exact heap_alloc2_new _ _ _)
 have u0 : OwnIn cAtm (w.heap.size + 3) w1.heap.size w1 (Atm.mk rel terms) _ := OwnIn.wide ho0 (by simp; try omega) (Nat.le_refl _)
 clear hb1 ho0
 go_wp2_with fail
 refine (H1.out _ ?hb).mono ?_
 case hb => exact ((hbb1).setCell (by simp; try omega) _).setCell (by simp; try omega) _
 rintro e w2 ⟨⟨a2', cap2', rfl, ho1⟩, hb2⟩
 have hW : ((w1.setCell ⟨w.heap.size + 1 + 1, 0, none⟩ (.int .i64 rel)).setCell ⟨w.heap.size + 1 + 1, 1, none⟩ (.slice a1' terms.length cap1')).heap.size = w1.heap.size := by simp [World.setCell]
 rw [hW] at ho1 hb2
 have hbb2 : Below w.heap.size w w2 := (((hbb1.setCell (p := ⟨w.heap.size + 1 + 1, 0, none⟩) (by simp; try omega) _).setCell (p := ⟨w.heap.size + 1 + 1, 1, none⟩) (by simp; try omega) _)).trans (hb2.mono (by omega))
 have hsz2 : w.heap.size + 3 ≤ w2.heap.size := by have := hb2.size; rw [hW] at this; omega
 have p2_0 := (hb2.cell (p := ⟨w.heap.size, 0, none⟩) (by simp; try omega)).trans ((World.cell?_setCell_other _ _ _ _ (by first | (simp; done) | (simp; omega))).trans ((World.cell?_setCell_other _ _ _ _ (by first | (simp; done) | (simp; omega))).trans p1_0))
 have o2_0 := (hb2.cell (p := ⟨w.heap.size + 1 + 1, 0, none⟩) (by simp; try omega)).trans ((World.cell?_setCell_other _ _ _ _ (by first | (simp; done) | (simp; omega))).trans (World.cell?_setCell_same _ _ _ o1_0))
 have f2_0 := (hb2.frozen (p := ⟨w.heap.size + 1 + 1, 0, none⟩) (by simp; try omega)).trans ((World.frozen?_setCell _ _ _ _).trans ((World.frozen?_setCell _ _ _ _).trans f1_0))
 have e2_0 := (hb2.cell (p := ⟨w.heap.size + 1, 0, none⟩) (by simp; try omega)).trans ((World.cell?_setCell_other _ _ _ _ (by first | (simp; done) | (simp; omega))).trans ((World.cell?_setCell_other _ _ _ _ (by first | (simp; done) | (simp; omega))).trans e1_0))
 have g2_0 := (hb2.frozen (p := ⟨w.heap.size + 1, 0, none⟩) (by simp; try omega)).trans ((World.frozen?_setCell _ _ _ _).trans ((World.frozen?_setCell _ _ _ _).trans g1_0))
 have p2_1 := (hb2.cell (p := ⟨w.heap.size, 1, none⟩) (by simp; try omega)).trans ((World.cell?_setCell_other _ _ _ _ (by first | (simp; done) | (simp; omega))).trans ((World.cell?_setCell_other _ _ _ _ (by first | (simp; done) | (simp; omega))).trans p1_1))
 have o2_1 := (hb2.cell (p := ⟨w.heap.size + 1 + 1, 1, none⟩) (by simp; try omega)).trans (World.cell?_setCell_same _ _ _ ((World.cell?_setCell_other _ _ _ _ (by first | (simp; done) | (simp; omega))).trans o1_1))
 have f2_1 := (hb2.frozen (p := ⟨w.heap.size + 1 + 1, 1, none⟩) (by simp; try omega)).trans ((World.frozen?_setCell _ _ _ _).trans ((World.frozen?_setCell _ _ _ _).trans f1_1))
 have e2_1 := (hb2.cell (p := ⟨w.heap.size + 1, 1, none⟩) (by simp; try omega)).trans ((World.cell?_setCell_other _ _ _ _ (by first | (simp; done) | (simp; omega))).trans ((World.cell?_setCell_other _ _ _ _ (by first | (simp; done) | (simp; omega))).trans e1_1))
 have g2_1 := (hb2.frozen (p := ⟨w.heap.size + 1, 1, none⟩) (by simp; try omega)).trans ((World.frozen?_setCell _ _ _ _).trans ((World.frozen?_setCell _ _ _ _).trans g1_1))
 have p2_2 := (hb2.cell (p := ⟨w.heap.size, 2, none⟩) (by simp; try omega)).trans ((World.cell?_setCell_other _ _ _ _ (by first | (simp; done) | (simp; omega))).trans ((World.cell?_setCell_other _ _ _ _ (by first | (simp; done) | (simp; omega))).trans p1_2))
 have o2_2 := (hb2.cell (p := ⟨w.heap.size + 1 + 1, 2, none⟩) (by simp; try omega)).trans ((World.cell?_setCell_other _ _ _ _ (by first | (simp; done) | (simp; omega))).trans ((World.cell?_setCell_other _ _ _ _ (by first | (simp; done) | (simp; omega))).trans o1_2))
 have f2_2 := (hb2.frozen (p := ⟨w.heap.size + 1 + 1, 2, none⟩) (by simp; try omega)).trans ((World.frozen?_setCell _ _ _ _).trans ((World.frozen?_setCell _ _ _ _).trans f1_2))
 have e2_2 := (hb2.cell (p := ⟨w.heap.size + 1, 2, none⟩) (by simp; try omega)).trans ((World.cell?_setCell_other _ _ _ _ (by first | (simp; done) | (simp; omega))).trans ((World.cell?_setCell_other _ _ _ _ (by first | (simp; done) | (simp; omega))).trans e1_2))
 have g2_2 := (hb2.frozen (p := ⟨w.heap.size + 1, 2, none⟩) (by simp; try omega)).trans ((World.frozen?_setCell _ _ _ _).trans ((World.frozen?_setCell _ _ _ _).trans g1_2))
 have p2_3 := (hb2.cell (p := ⟨w.heap.size, 3, none⟩) (by simp; try omega)).trans ((World.cell?_setCell_other _ _ _ _ (by first | (simp; done) | (simp; omega))).trans ((World.cell?_setCell_other _ _ _ _ (by first | (simp; done) | (simp; omega))).trans p1_3))
 have o2_3 := (hb2.cell (p := ⟨w.heap.size + 1 + 1, 3, none⟩) (by simp; try omega)).trans ((World.cell?_setCell_other _ _ _ _ (by first | (simp; done) | (simp; omega))).trans ((World.cell?_setCell_other _ _ _ _ (by first | (simp; done) | (simp; omega))).trans o1_3))
 have f2_3 := (hb2.frozen (p := ⟨w.heap.size + 1 + 1, 3, none⟩) (by simp; try omega)).trans ((World.frozen?_setCell _ _ _ _).trans ((World.frozen?_setCell _ _ _ _).trans f1_3))
 have e2_3 := (hb2.cell (p := ⟨w.heap.size + 1, 3, none⟩) (by simp; try omega)).trans ((World.cell?_setCell_other _ _ _ _ (by first | (simp; done) | (simp; omega))).trans ((World.cell?_setCell_other _ _ _ _ (by first | (simp; done) | (simp; omega))).trans e1_3))
 have g2_3 := (hb2.frozen (p := ⟨w.heap.size + 1, 3, none⟩) (by simp; try omega)).trans ((World.frozen?_setCell _ _ _ _).trans ((World.frozen?_setCell _ _ _ _).trans g1_3))
 have hR2 := (hb2.block (w.heap.size + 1) (by omega)).trans ((heap_setCell_other _ _ _ _ (by simp)).trans ((heap_setCell_other _ _ _ _ (by simp)).trans hR1))
 have u0 := (OwnIn.setCell (OwnIn.setCell u0 (p := ⟨w.heap.size + 1 + 1, 0, none⟩) (by simp; try omega) (.int .i64 rel)) (p := ⟨w.heap.size + 1 + 1, 1, none⟩) (by simp; try omega) (.slice a1' terms.length cap1')).below hb2 (by omega)
 have u1 : OwnIn (cSlice cInt) w1.heap.size w2.heap.size w2 ex _ := ho1
 have hm1 := hb2.size
 rw [hW] at hm1
 clear hW p1_0 o1_0 f1_0 e1_0 g1_0 p1_1 o1_1 f1_1 e1_1 g1_1 p1_2 o1_2 f1_2 e1_2 g1_2 p1_3 o1_3 f1_3 e1_3 g1_3 hR1
 clear hb2 ho1
 go_wp2_with fail
 refine (H2.out _ ?hb).mono ?_
 case hb => exact (hbb2).setCell (by simp; try omega) _
 rintro e w3 ⟨⟨a3', cap3', rfl, ho2⟩, hb3⟩
 have hW : (w2.setCell ⟨w.heap.size + 1 + 1, 2, none⟩ (.slice a2' ex.length cap2')).heap.size = w2.heap.size := by simp [World.setCell]
 rw [hW] at ho2 hb3
 have hbb3 : Below w.heap.size w w3 := ((hbb2.setCell (p := ⟨w.heap.size + 1 + 1, 2, none⟩) (by simp; try omega) _)).trans (hb3.mono (by omega))
 have hsz3 : w.heap.size + 3 ≤ w3.heap.size := by have := hb3.size; rw [hW] at this; omega
 have p3_0 := (hb3.cell (p := ⟨w.heap.size, 0, none⟩) (by simp; try omega)).trans ((World.cell?_setCell_other _ _ _ _ (by first | (simp; done) | (simp; omega))).trans p2_0)
 have o3_0 := (hb3.cell (p := ⟨w.heap.size + 1 + 1, 0, none⟩) (by simp; try omega)).trans ((World.cell?_setCell_other _ _ _ _ (by first | (simp; done) | (simp; omega))).trans o2_0)
 have f3_0 := (hb3.frozen (p := ⟨w.heap.size + 1 + 1, 0, none⟩) (by simp; try omega)).trans ((World.frozen?_setCell _ _ _ _).trans f2_0)
 have e3_0 := (hb3.cell (p := ⟨w.heap.size + 1, 0, none⟩) (by simp; try omega)).trans ((World.cell?_setCell_other _ _ _ _ (by first | (simp; done) | (simp; omega))).trans e2_0)
 have g3_0 := (hb3.frozen (p := ⟨w.heap.size + 1, 0, none⟩) (by simp; try omega)).trans ((World.frozen?_setCell _ _ _ _).trans g2_0)
 have p3_1 := (hb3.cell (p := ⟨w.heap.size, 1, none⟩) (by simp; try omega)).trans ((World.cell?_setCell_other _ _ _ _ (by first | (simp; done) | (simp; omega))).trans p2_1)
 have o3_1 := (hb3.cell (p := ⟨w.heap.size + 1 + 1, 1, none⟩) (by simp; try omega)).trans ((World.cell?_setCell_other _ _ _ _ (by first | (simp; done) | (simp; omega))).trans o2_1)
 have f3_1 := (hb3.frozen (p := ⟨w.heap.size + 1 + 1, 1, none⟩) (by simp; try omega)).trans ((World.frozen?_setCell _ _ _ _).trans f2_1)
 have e3_1 := (hb3.cell (p := ⟨w.heap.size + 1, 1, none⟩) (by simp; try omega)).trans ((World.cell?_setCell_other _ _ _ _ (by first | (simp; done) | (simp; omega))).trans e2_1)
 have g3_1 := (hb3.frozen (p := ⟨w.heap.size + 1, 1, none⟩) (by simp; try omega)).trans ((World.frozen?_setCell _ _ _ _).trans g2_1)
 have p3_2 := (hb3.cell (p := ⟨w.heap.size, 2, none⟩) (by simp; try omega)).trans ((World.cell?_setCell_other _ _ _ _ (by first | (simp; done) | (simp; omega))).trans p2_2)
 have o3_2 := (hb3.cell (p := ⟨w.heap.size + 1 + 1, 2, none⟩) (by simp; try omega)).trans (World.cell?_setCell_same _ _ _ o2_2)
 have f3_2 := (hb3.frozen (p := ⟨w.heap.size + 1 + 1, 2, none⟩) (by simp; try omega)).trans ((World.frozen?_setCell _ _ _ _).trans f2_2)
 have e3_2 := (hb3.cell (p := ⟨w.heap.size + 1, 2, none⟩) (by simp; try omega)).trans ((World.cell?_setCell_other _ _ _ _ (by first | (simp; done) | (simp; omega))).trans e2_2)
 have g3_2 := (hb3.frozen (p := ⟨w.heap.size + 1, 2, none⟩) (by simp; try omega)).trans ((World.frozen?_setCell _ _ _ _).trans g2_2)
 have p3_3 := (hb3.cell (p := ⟨w.heap.size, 3, none⟩) (by simp; try omega)).trans ((World.cell?_setCell_other _ _ _ _ (by first | (simp; done) | (simp; omega))).trans p2_3)
 have o3_3 := (hb3.cell (p := ⟨w.heap.size + 1 + 1, 3, none⟩) (by simp; try omega)).trans ((World.cell?_setCell_other _ _ _ _ (by first | (simp; done) | (simp; omega))).trans o2_3)
 have f3_3 := (hb3.frozen (p := ⟨w.heap.size + 1 + 1, 3, none⟩) (by simp; try omega)).trans ((World.frozen?_setCell _ _ _ _).trans f2_3)
 have e3_3 := (hb3.cell (p := ⟨w.heap.size + 1, 3, none⟩) (by simp; try omega)).trans ((World.cell?_setCell_other _ _ _ _ (by first | (simp; done) | (simp; omega))).trans e2_3)
 have g3_3 := (hb3.frozen (p := ⟨w.heap.size + 1, 3, none⟩) (by simp; try omega)).trans ((World.frozen?_setCell _ _ _ _).trans g2_3)
 have hR3 := (hb3.block (w.heap.size + 1) (by omega)).trans ((heap_setCell_other _ _ _ _ (by simp)).trans hR2)
 have u0 := (OwnIn.setCell u0 (p := ⟨w.heap.size + 1 + 1, 2, none⟩) (by simp; try omega) (.slice a2' ex.length cap2')).below hb3 (by have := hm1; omega)
 have u1 := (OwnIn.setCell u1 (p := ⟨w.heap.size + 1 + 1, 2, none⟩) (by simp; try omega) (.slice a2' ex.length cap2')).below hb3 (by omega)
 have u2 : OwnIn (cSlice cInt) w2.heap.size w3.heap.size w3 un _ := ho2
 have hm2 := hb3.size
 rw [hW] at hm2
 clear hW p2_0 o2_0 f2_0 e2_0 g2_0 p2_1 o2_1 f2_1 e2_1 g2_1 p2_2 o2_2 f2_2 e2_2 g2_2 p2_3 o2_3 f2_3 e2_3 g2_3 hR2
 clear hb3 ho2
 have U0 := Lib.hid u0
 have U1 := Lib.hid u1
 have U2 := Lib.hid u2
 clear u0 u1 u2
 go_wp2
 (try simp only [Exit.inBlock, Exit.then])
 refine bodyPost_ret (results_cell_row rfl _ _ (w.heap.size + 1) _ _ _ _ rfl (heap_setCell_same _ _ 3 _ _ _ (heap_setCell_same _ _ 2 _ _ _ (heap_setCell_same _ _ 1 _ _ _ (heap_setCell_same _ _ 0 _ _ _ ((heap_setCell_other _ _ _ _ (by simp)).trans (hR3)))))) Tryd.underlying139 rfl (by kernel_rfl)) rfl ?_
 exact ⟨⟨_, _, _, _, _, _, rfl, OwnIn.own (cRst_own (x := ⟨⟨rel, terms⟩, ex, un⟩) (lo := w.heap.size) (hi := w3.heap.size) ((((((U0.out).setCell (by simp; try omega) _).setCell (by simp; try omega) _).setCell (by simp; try omega) _).setCell (by simp; try omega) _).setCell (by simp; try omega) _) (by omega) ((((((U1.out).setCell (by simp; try omega) _).setCell (by simp; try omega) _).setCell (by simp; try omega) _).setCell (by simp; try omega) _).setCell (by simp; try omega) _) (by omega) ((((((U2.out).setCell (by simp; try omega) _).setCell (by simp; try omega) _).setCell (by simp; try omega) _).setCell (by simp; try omega) _).setCell (by simp; try omega) _) (by omega) (by omega) (by omega) (by omega) (by omega)) (by simp [World.setCell])⟩, (((((hbb3).setCell (by simp; try omega) _).setCell (by simp; try omega) _).setCell (by simp; try omega) _).setCell (by simp; try omega) _).setCell (by simp; try omega) _⟩
theorem eqRewritingStep_c {a1 : Option Addr} {cap1 : Nat} {a2 : Option Addr} {cap2 : Nat} {a3 : Option Addr} {cap3 : Nat} {a1' : Option Addr} {cap1' : Nat} {a2' : Option Addr} {cap2' : Nat} {a3' : Option Addr} {cap3' : Nat} {x y : Rst} {w : World} (h : At cRst w x [.int .i64 x.atom.rel, .slice a1 x.atom.terms.length cap1, .slice a2 x.ex.length cap2, .slice a3 x.un.length cap3]) (h' : At cRst w y [.int .i64 y.atom.rel, .slice a1' y.atom.terms.length cap1', .slice a2' y.ex.length cap2', .slice a3' y.un.length cap3']) :
   Calls Tryd.prog 92 #[.agg #[.int .i64 x.atom.rel, .slice a1 x.atom.terms.length cap1, .slice a2 x.ex.length cap2, .slice a3 x.un.length cap3], .agg #[.int .i64 y.atom.rel, .slice a1' y.atom.terms.length cap1', .slice a2' y.ex.length cap2', .slice a3' y.un.length cap3']] w fun e w' => e = .returned (.bool (decide (x = y))) ∧ Below w.heap.size w w' := by
 obtain ⟨k0, k1, k2⟩ := cRst_inv h
 obtain ⟨m0, m1, m2⟩ := cRst_inv h'
 clear h h'
 obtain ⟨⟨rel, terms⟩, ex, un⟩ := x
 obtain ⟨⟨rel', terms'⟩, ex', un'⟩ := y
 have he : decide (Rst.mk (Atm.mk rel terms) ex un = Rst.mk (Atm.mk rel' terms') ex' un') = (decide ((Atm.mk rel terms) = (Atm.mk rel' terms')) && (decide (ex = ex') && decide (un = un'))) := by
   simp only [← Bool.decide_and]; congr 1; rw [Rst.mk.injEq]
 rw [he]
 clear he
 simp only at *
 have H0 : Hid (∀ ww, Below w.heap.size w ww → Calls Tryd.prog 107 #[.agg #[.int .i64 rel, .slice a1 terms.length cap1], .agg #[.int .i64 rel', .slice a1' terms'.length cap1']] ww fun e w' => e = .returned (.bool (decide ((Atm.mk rel terms) = (Atm.mk rel' terms')))) ∧ Below ww.heap.size ww w') :=
   fun ww hb => eqAtom_c (At.below (c := cAtm) k0 hb (Nat.le_refl _)) (At.below (c := cAtm) m0 hb (Nat.le_refl _))
 have H1 : Hid (∀ ww, Below w.heap.size w ww → Calls Tryd.prog 58 #[.slice a2 ex.length cap2, .slice a2' ex'.length cap2'] ww fun e w' => e = .returned (.bool (decide (ex = ex'))) ∧ Below ww.heap.size ww w') :=
   fun ww hb => eqIntS_c (At.below (c := (cSlice cInt)) k1 hb (Nat.le_refl _)) (At.below (c := (cSlice cInt)) m1 hb (Nat.le_refl _))
 have H2 : Hid (∀ ww, Below w.heap.size w ww → Calls Tryd.prog 58 #[.slice a3 un.length cap3, .slice a3' un'.length cap3'] ww fun e w' => e = .returned (.bool (decide (un = un'))) ∧ Below ww.heap.size ww w') :=
   fun ww hb => eqIntS_c (At.below (c := (cSlice cInt)) k2 hb (Nat.le_refl _)) (At.below (c := (cSlice cInt)) m2 hb (Nat.le_refl _))
 clear k0 m0 k1 m1 k2 m2
 generalize decide ((Atm.mk rel terms) = (Atm.mk rel' terms')) = z0 at *
 cases z0 with
 | true =>
   rw [Bool.true_and]
   generalize decide (ex = ex') = z1 at *
   cases z1 with
   | true =>
     rw [Bool.true_and]
     generalize decide (un = un') = z2 at *
     cases z2 with
     | true =>
       go_enter Tryd.func92, Tryd.ntmps92
       go_wp2_with fail
       refine (H0.out _ ?hb).mono ?_
       case hb => go_grown
       rintro e w1 ⟨rfl, hb1⟩
       have hbb1 : Below w.heap.size w w1 := Below.trans (by go_grown) (hb1.mono (by simp; try omega))
       have hsz1 : w.heap.size + 2 ≤ w1.heap.size := by have := hb1.size; simp at this; omega
       have p1_0 : w1.cell? ⟨w.heap.size, 0, none⟩ = some (.int .i64 rel) := (hb1.cell (by simp; try omega)).trans (by go_simp)
       have r1_0 : w1.cell? ⟨w.heap.size + 1, 0, none⟩ = some (.int .i64 rel') := (hb1.cell (by simp; try omega)).trans (by go_simp)
       have p1_1 : w1.cell? ⟨w.heap.size, 1, none⟩ = some (.slice a1 terms.length cap1) := (hb1.cell (by simp; try omega)).trans (by go_simp)
       have r1_1 : w1.cell? ⟨w.heap.size + 1, 1, none⟩ = some (.slice a1' terms'.length cap1') := (hb1.cell (by simp; try omega)).trans (by go_simp)
       have p1_2 : w1.cell? ⟨w.heap.size, 2, none⟩ = some (.slice a2 ex.length cap2) := (hb1.cell (by simp; try omega)).trans (by go_simp)
       have r1_2 : w1.cell? ⟨w.heap.size + 1, 2, none⟩ = some (.slice a2' ex'.length cap2') := (hb1.cell (by simp; try omega)).trans (by go_simp)
       have p1_3 : w1.cell? ⟨w.heap.size, 3, none⟩ = some (.slice a3 un.length cap3) := (hb1.cell (by simp; try omega)).trans (by go_simp)
       have r1_3 : w1.cell? ⟨w.heap.size + 1, 3, none⟩ = some (.slice a3' un'.length cap3') := (hb1.cell (by simp; try omega)).trans (by go_simp)
       clear hb1
       go_wp2_with fail
       refine (H1.out _ ?hb).mono ?_
       case hb => exact hbb1
       rintro e w2 ⟨rfl, hb2⟩
       have hbb2 : Below w.heap.size w w2 := hbb1.trans (hb2.mono (by omega))
       have hsz2 : w.heap.size + 2 ≤ w2.heap.size := by have := hb2.size; omega
       have p2_0 := (hb2.cell (p := ⟨w.heap.size, 0, none⟩) (by simp; try omega)).trans p1_0
       have r2_0 := (hb2.cell (p := ⟨w.heap.size + 1, 0, none⟩) (by simp; try omega)).trans r1_0
       have p2_1 := (hb2.cell (p := ⟨w.heap.size, 1, none⟩) (by simp; try omega)).trans p1_1
       have r2_1 := (hb2.cell (p := ⟨w.heap.size + 1, 1, none⟩) (by simp; try omega)).trans r1_1
       have p2_2 := (hb2.cell (p := ⟨w.heap.size, 2, none⟩) (by simp; try omega)).trans p1_2
       have r2_2 := (hb2.cell (p := ⟨w.heap.size + 1, 2, none⟩) (by simp; try omega)).trans r1_2
       have p2_3 := (hb2.cell (p := ⟨w.heap.size, 3, none⟩) (by simp; try omega)).trans p1_3
       have r2_3 := (hb2.cell (p := ⟨w.heap.size + 1, 3, none⟩) (by simp; try omega)).trans r1_3
       clear p1_0 r1_0 p1_1 r1_1 p1_2 r1_2 p1_3 r1_3
       clear hb2
       go_wp2_with fail
       refine (H2.out _ ?hb).mono ?_
       case hb => exact hbb2
       rintro e w3 ⟨rfl, hb3⟩
       have hbb3 : Below w.heap.size w w3 := hbb2.trans (hb3.mono (by omega))
       have hsz3 : w.heap.size + 2 ≤ w3.heap.size := by have := hb3.size; omega
       have p3_0 := (hb3.cell (p := ⟨w.heap.size, 0, none⟩) (by simp; try omega)).trans p2_0
       have r3_0 := (hb3.cell (p := ⟨w.heap.size + 1, 0, none⟩) (by simp; try omega)).trans r2_0
       have p3_1 := (hb3.cell (p := ⟨w.heap.size, 1, none⟩) (by simp; try omega)).trans p2_1
       have r3_1 := (hb3.cell (p := ⟨w.heap.size + 1, 1, none⟩) (by simp; try omega)).trans r2_1
       have p3_2 := (hb3.cell (p := ⟨w.heap.size, 2, none⟩) (by simp; try omega)).trans p2_2
       have r3_2 := (hb3.cell (p := ⟨w.heap.size + 1, 2, none⟩) (by simp; try omega)).trans r2_2
       have p3_3 := (hb3.cell (p := ⟨w.heap.size, 3, none⟩) (by simp; try omega)).trans p2_3
       have r3_3 := (hb3.cell (p := ⟨w.heap.size + 1, 3, none⟩) (by simp; try omega)).trans r2_3
       clear p2_0 r2_0 p2_1 r2_1 p2_2 r2_2 p2_3 r2_3
       clear hb3
       go_wp2
       go_ret
       exact ⟨by simp, hbb3⟩
     | false =>
       go_enter Tryd.func92, Tryd.ntmps92
       go_wp2_with fail
       refine (H0.out _ ?hb).mono ?_
       case hb => go_grown
       rintro e w1 ⟨rfl, hb1⟩
       have hbb1 : Below w.heap.size w w1 := Below.trans (by go_grown) (hb1.mono (by simp; try omega))
       have hsz1 : w.heap.size + 2 ≤ w1.heap.size := by have := hb1.size; simp at this; omega
       have p1_0 : w1.cell? ⟨w.heap.size, 0, none⟩ = some (.int .i64 rel) := (hb1.cell (by simp; try omega)).trans (by go_simp)
       have r1_0 : w1.cell? ⟨w.heap.size + 1, 0, none⟩ = some (.int .i64 rel') := (hb1.cell (by simp; try omega)).trans (by go_simp)
       have p1_1 : w1.cell? ⟨w.heap.size, 1, none⟩ = some (.slice a1 terms.length cap1) := (hb1.cell (by simp; try omega)).trans (by go_simp)
       have r1_1 : w1.cell? ⟨w.heap.size + 1, 1, none⟩ = some (.slice a1' terms'.length cap1') := (hb1.cell (by simp; try omega)).trans (by go_simp)
       have p1_2 : w1.cell? ⟨w.heap.size, 2, none⟩ = some (.slice a2 ex.length cap2) := (hb1.cell (by simp; try omega)).trans (by go_simp)
       have r1_2 : w1.cell? ⟨w.heap.size + 1, 2, none⟩ = some (.slice a2' ex'.length cap2') := (hb1.cell (by simp; try omega)).trans (by go_simp)
       have p1_3 : w1.cell? ⟨w.heap.size, 3, none⟩ = some (.slice a3 un.length cap3) := (hb1.cell (by simp; try omega)).trans (by go_simp)
       have r1_3 : w1.cell? ⟨w.heap.size + 1, 3, none⟩ = some (.slice a3' un'.length cap3') := (hb1.cell (by simp; try omega)).trans (by go_simp)
       clear hb1
       go_wp2_with fail
       refine (H1.out _ ?hb).mono ?_
       case hb => exact hbb1
       rintro e w2 ⟨rfl, hb2⟩
       have hbb2 : Below w.heap.size w w2 := hbb1.trans (hb2.mono (by omega))
       have hsz2 : w.heap.size + 2 ≤ w2.heap.size := by have := hb2.size; omega
       have p2_0 := (hb2.cell (p := ⟨w.heap.size, 0, none⟩) (by simp; try omega)).trans p1_0
       have r2_0 := (hb2.cell (p := ⟨w.heap.size + 1, 0, none⟩) (by simp; try omega)).trans r1_0
       have p2_1 := (hb2.cell (p := ⟨w.heap.size, 1, none⟩) (by simp; try omega)).trans p1_1
       have r2_1 := (hb2.cell (p := ⟨w.heap.size + 1, 1, none⟩) (by simp; try omega)).trans r1_1
       have p2_2 := (hb2.cell (p := ⟨w.heap.size, 2, none⟩) (by simp; try omega)).trans p1_2
       have r2_2 := (hb2.cell (p := ⟨w.heap.size + 1, 2, none⟩) (by simp; try omega)).trans r1_2
       have p2_3 := (hb2.cell (p := ⟨w.heap.size, 3, none⟩) (by simp; try omega)).trans p1_3
       have r2_3 := (hb2.cell (p := ⟨w.heap.size + 1, 3, none⟩) (by simp; try omega)).trans r1_3
       clear p1_0 r1_0 p1_1 r1_1 p1_2 r1_2 p1_3 r1_3
       clear hb2
       go_wp2_with fail
       refine (H2.out _ ?hb).mono ?_
       case hb => exact hbb2
       rintro e w3 ⟨rfl, hb3⟩
       have hbb3 : Below w.heap.size w w3 := hbb2.trans (hb3.mono (by omega))
       have hsz3 : w.heap.size + 2 ≤ w3.heap.size := by have := hb3.size; omega
       have p3_0 := (hb3.cell (p := ⟨w.heap.size, 0, none⟩) (by simp; try omega)).trans p2_0
       have r3_0 := (hb3.cell (p := ⟨w.heap.size + 1, 0, none⟩) (by simp; try omega)).trans r2_0
       have p3_1 := (hb3.cell (p := ⟨w.heap.size, 1, none⟩) (by simp; try omega)).trans p2_1
       have r3_1 := (hb3.cell (p := ⟨w.heap.size + 1, 1, none⟩) (by simp; try omega)).trans r2_1
       have p3_2 := (hb3.cell (p := ⟨w.heap.size, 2, none⟩) (by simp; try omega)).trans p2_2
       have r3_2 := (hb3.cell (p := ⟨w.heap.size + 1, 2, none⟩) (by simp; try omega)).trans r2_2
       have p3_3 := (hb3.cell (p := ⟨w.heap.size, 3, none⟩) (by simp; try omega)).trans p2_3
       have r3_3 := (hb3.cell (p := ⟨w.heap.size + 1, 3, none⟩) (by simp; try omega)).trans r2_3
       clear p2_0 r2_0 p2_1 r2_1 p2_2 r2_2 p2_3 r2_3
       clear hb3
       go_wp2
       go_ret
       exact ⟨by simp, hbb3⟩
   | false =>
     rw [Bool.false_and]
     go_enter Tryd.func92, Tryd.ntmps92
     go_wp2_with fail
     refine (H0.out _ ?hb).mono ?_
     case hb => go_grown
     rintro e w1 ⟨rfl, hb1⟩
     have hbb1 : Below w.heap.size w w1 := Below.trans (by go_grown) (hb1.mono (by simp; try omega))
     have hsz1 : w.heap.size + 2 ≤ w1.heap.size := by have := hb1.size; simp at this; omega
     have p1_0 : w1.cell? ⟨w.heap.size, 0, none⟩ = some (.int .i64 rel) := (hb1.cell (by simp; try omega)).trans (by go_simp)
     have r1_0 : w1.cell? ⟨w.heap.size + 1, 0, none⟩ = some (.int .i64 rel') := (hb1.cell (by simp; try omega)).trans (by go_simp)
     have p1_1 : w1.cell? ⟨w.heap.size, 1, none⟩ = some (.slice a1 terms.length cap1) := (hb1.cell (by simp; try omega)).trans (by go_simp)
     have r1_1 : w1.cell? ⟨w.heap.size + 1, 1, none⟩ = some (.slice a1' terms'.length cap1') := (hb1.cell (by simp; try omega)).trans (by go_simp)
     have p1_2 : w1.cell? ⟨w.heap.size, 2, none⟩ = some (.slice a2 ex.length cap2) := (hb1.cell (by simp; try omega)).trans (by go_simp)
     have r1_2 : w1.cell? ⟨w.heap.size + 1, 2, none⟩ = some (.slice a2' ex'.length cap2') := (hb1.cell (by simp; try omega)).trans (by go_simp)
     have p1_3 : w1.cell? ⟨w.heap.size, 3, none⟩ = some (.slice a3 un.length cap3) := (hb1.cell (by simp; try omega)).trans (by go_simp)
     have r1_3 : w1.cell? ⟨w.heap.size + 1, 3, none⟩ = some (.slice a3' un'.length cap3') := (hb1.cell (by simp; try omega)).trans (by go_simp)
     clear hb1
     go_wp2_with fail
     refine (H1.out _ ?hb).mono ?_
     case hb => exact hbb1
     rintro e w2 ⟨rfl, hb2⟩
     have hbb2 : Below w.heap.size w w2 := hbb1.trans (hb2.mono (by omega))
     have hsz2 : w.heap.size + 2 ≤ w2.heap.size := by have := hb2.size; omega
     have p2_0 := (hb2.cell (p := ⟨w.heap.size, 0, none⟩) (by simp; try omega)).trans p1_0
     have r2_0 := (hb2.cell (p := ⟨w.heap.size + 1, 0, none⟩) (by simp; try omega)).trans r1_0
     have p2_1 := (hb2.cell (p := ⟨w.heap.size, 1, none⟩) (by simp; try omega)).trans p1_1
     have r2_1 := (hb2.cell (p := ⟨w.heap.size + 1, 1, none⟩) (by simp; try omega)).trans r1_1
     have p2_2 := (hb2.cell (p := ⟨w.heap.size, 2, none⟩) (by simp; try omega)).trans p1_2
     have r2_2 := (hb2.cell (p := ⟨w.heap.size + 1, 2, none⟩) (by simp; try omega)).trans r1_2
     have p2_3 := (hb2.cell (p := ⟨w.heap.size, 3, none⟩) (by simp; try omega)).trans p1_3
     have r2_3 := (hb2.cell (p := ⟨w.heap.size + 1, 3, none⟩) (by simp; try omega)).trans r1_3
     clear p1_0 r1_0 p1_1 r1_1 p1_2 r1_2 p1_3 r1_3
     clear hb2
     go_wp2
     go_ret
     exact ⟨by simp, hbb2⟩
 | false =>
   rw [Bool.false_and]
   go_enter Tryd.func92, Tryd.ntmps92
   go_wp2_with fail
   refine (H0.out _ ?hb).mono ?_
   case hb => go_grown
   rintro e w1 ⟨rfl, hb1⟩
   have hbb1 : Below w.heap.size w w1 := Below.trans (by go_grown) (hb1.mono (by simp; try omega))
   have hsz1 : w.heap.size + 2 ≤ w1.heap.size := by have := hb1.size; simp at this; omega
   have p1_0 : w1.cell? ⟨w.heap.size, 0, none⟩ = some (.int .i64 rel) := (hb1.cell (by simp; try omega)).trans (by go_simp)
   have r1_0 : w1.cell? ⟨w.heap.size + 1, 0, none⟩ = some (.int .i64 rel') := (hb1.cell (by simp; try omega)).trans (by go_simp)
   have p1_1 : w1.cell? ⟨w.heap.size, 1, none⟩ = some (.slice a1 terms.length cap1) := (hb1.cell (by simp; try omega)).trans (by go_simp)
   have r1_1 : w1.cell? ⟨w.heap.size + 1, 1, none⟩ = some (.slice a1' terms'.length cap1') := (hb1.cell (by simp; try omega)).trans (by go_simp)
   have p1_2 : w1.cell? ⟨w.heap.size, 2, none⟩ = some (.slice a2 ex.length cap2) := (hb1.cell (by simp; try omega)).trans (by go_simp)
   have r1_2 : w1.cell? ⟨w.heap.size + 1, 2, none⟩ = some (.slice a2' ex'.length cap2') := (hb1.cell (by simp; try omega)).trans (by go_simp)
   have p1_3 : w1.cell? ⟨w.heap.size, 3, none⟩ = some (.slice a3 un.length cap3) := (hb1.cell (by simp; try omega)).trans (by go_simp)
   have r1_3 : w1.cell? ⟨w.heap.size + 1, 3, none⟩ = some (.slice a3' un'.length cap3') := (hb1.cell (by simp; try omega)).trans (by go_simp)
   clear hb1
   go_wp2
   go_ret
   exact ⟨by simp, hbb1⟩
end

section
/- Slices of structs: the laws' helpers on them (size, copy, equality). -/
open Go.RowKit
theorem at_RewritingStep {B : Nat} {w : World} {l : List Rst} {a0 : Option Addr} {len cap0 : Nat} (h : (cSlice cRst).ok B w l [.slice a0 len cap0]) (j : Nat) (hj : j < l.length) :
   ∃ b off a1 cap1 a2 cap2 a3 cap3, a0 = some ⟨b, off, none⟩ ∧ b < B ∧ w.cell? ⟨b, off + j * 4, none⟩ = some (.int .i64 l[j].atom.rel) ∧ w.cell? ⟨b, off + j * 4 + 1, none⟩ = some (.slice a1 l[j].atom.terms.length cap1) ∧ w.cell? ⟨b, off + j * 4 + 2, none⟩ = some (.slice a2 l[j].ex.length cap2) ∧ w.cell? ⟨b, off + j * 4 + 3, none⟩ = some (.slice a3 l[j].un.length cap3) ∧ cRst.ok B w l[j] [.int .i64 l[j].atom.rel, .slice a1 l[j].atom.terms.length cap1, .slice a2 l[j].ex.length cap2, .slice a3 l[j].un.length cap3] := by
 obtain ⟨b, off, es, rfl, hb, he, hc⟩ := slice_at h j hj
 obtain ⟨a1, cap1, a2, cap2, a3, cap3, rfl, hx⟩ := cRst_open he
 exact ⟨b, off, a1, cap1, a2, cap2, a3, cap3, rfl, hb, by exact hc 0 (by decide), by exact hc 1 (by decide), by exact hc 2 (by decide), by exact hc 3 (by decide), hx⟩
def sumRewritingStep (l : List Rst) : Nat := (l.map fun x => sizeRewritingStep x).sum
def sizeRewritingStepS (l : List Rst) : Nat := l.length + sumRewritingStep l
theorem sumRewritingStep_ge (l : List Rst) (k : Nat) (hk : k < l.length) : (sizeRewritingStep l[k]) ≤ sumRewritingStep l := by
 induction l generalizing k with
 | nil => simp at hk
 | cons x l ih =>
   unfold sumRewritingStep at *
   rw [List.map_cons, List.sum_cons]
   cases k with
   | zero => exact Nat.le_add_right _ _
   | succ k => exact Nat.le_trans (ih k (by simpa using hk)) (Nat.le_add_left _ _)
theorem sumRewritingStep_drop (l : List Rst) (k : Nat) (hk : k < l.length) : sumRewritingStep (l.drop k) = (sizeRewritingStep l[k]) + sumRewritingStep (l.drop (k + 1)) := by
 unfold sumRewritingStep; rw [List.drop_eq_getElem_cons hk, List.map_cons, List.sum_cons]
theorem szRewritingStepS_c {a0 : Option Addr} {cap0 : Nat} {l : List Rst} {left : Int} {w : World} (hl : 0 ≤ left) (hl2 : left ≤ 1048576) (h : At (cSlice cRst) w l [.slice a0 l.length cap0]) :
   Calls Tryd.prog 38 #[.slice a0 l.length cap0, .int .i64 left] w fun e w' => e = .returned (.int .i64 (szR left (sizeRewritingStepS l))) ∧ Below w.heap.size w w' := by
 have hm := (slice_len h).2
 unfold maxLen at hm
 have hw : wrap64 (left - (l.length : Int)) = left - (l.length : Int) := IntWalk.wrap64_in _ ⟨by omega, by omega⟩
 obtain ⟨n, hn⟩ : ∃ n : Nat, l.length = n := ⟨_, rfl⟩
 have Hn := Lib.hid hn
 have Hr : Hid (∀ w' : World, Below w.heap.size w w' → ∀ j (hj : j < l.length), _) := fun w' hb j hj => at_RewritingStep (Cod.ok_below h hb) j hj
 unfold sizeRewritingStepS
 rw [hn] at hw hm ⊢
 clear h hn
 rw [szR_step left n]
 by_cases h0 : left - (n : Int) < 0
 · rw [if_pos (by unfold szR; rw [if_pos h0]; decide)]
   go_enter Tryd.func38, Tryd.ntmps38
   go_wp2
   go_ret
   exact ⟨rfl, Below.refl _ _⟩
 · have hz : szR left n = left - (n : Int) := if_neg h0
   rw [hz, if_neg h0]
   clear hz
   generalize hR : szR (left - (n : Int)) (sumRewritingStep l) = R
   have HR : Hid (szR (left - (n : Int)) (sumRewritingStep (l.drop 0)) = R) := hR
   clear hR
   go_enter Tryd.func38, Tryd.ntmps38
   go_wp2
   go_loopw [1, 5] (fun lv iv wr => ∃ (k : Nat) (q : Int), k ≤ n ∧ lv = .int .i64 q ∧ iv = .int .i64 k ∧ 0 ≤ q ∧ q ≤ 1048576 ∧ Hid (szR q (sumRewritingStep (l.drop k)) = R) ∧ Below w.heap.size w wr) (fun _ iv _ => n - (intOf iv).toNat)
   case atStart => exact ⟨0, left - n, by omega, rfl, rfl, by omega, by omega, HR, Below.refl _ _⟩
   case round =>
     clear HR hw
     obtain ⟨k, q, hk, rfl, rfl, hq0, hq1, Hq, hb⟩ := hrel
     by_cases hlt : k < n
     · have hkl : k < l.length := by rw [Hn.out]; exact hlt
       obtain ⟨b, off, a1, cap1, a2, cap2, a3, cap3, rfl, hbB, c0, c1, c2, c3, hx⟩ := Hr.out _ hb k hkl
       have hst : Hid (R = if szR q (sizeRewritingStep l[k]) < 0 then -1 else szR (szR q (sizeRewritingStep l[k])) (sumRewritingStep (l.drop (k + 1)))) := by
         show R = _
         rw [← szR_step, ← sumRewritingStep_drop l k hkl, Hq.out]
       have Hc : Hid (∀ ww, Below w.heap.size wr ww → Calls Tryd.prog 85 #[.agg #[.int .i64 l[k].atom.rel, .slice a1 l[k].atom.terms.length cap1, .slice a2 l[k].ex.length cap2, .slice a3 l[k].un.length cap3], .int .i64 q] ww fun e w' => e = .returned (.int .i64 (szR q (sizeRewritingStep l[k]))) ∧ Below ww.heap.size ww w') :=
         fun ww hw2 => szRewritingStep_c hq0 hq1 (cRst.keep hx (fun k hk => hw2.block k hk) (Nat.le_trans hb.size hw2.size))
       have hle := szR_le q (sizeRewritingStep l[k]) hq0
       generalize hz : szR q (sizeRewritingStep l[k]) = z at *
       clear hz hx Hq
       generalize l[k] = r at *
       by_cases hneg : z < 0
       · have hR : R = -1 := by have := hst.out; rw [if_pos hneg] at this; exact this
         go_wp2_with fail
         refine (Hc.out _ (Below.refl _ _)).mono ?_
         rintro e w1 ⟨rfl, hb1⟩
         go_wp2
         go_ret
         exact ⟨by rw [hR]; rfl, hb.trans (hb1.mono hb.size)⟩
       · go_wp2_with fail
         refine (Hc.out _ (Below.refl _ _)).mono ?_
         rintro e w1 ⟨rfl, hb1⟩
         go_wp2
         go_roundw
         case rel =>
           have := hst.out
           rw [if_neg (by omega)] at this
           exact ⟨k + 1, z, by omega, rfl, by go_num, by omega, by omega, this.symm, hb.trans (hb1.mono hb.size)⟩
         case measure => simp [intOf]; omega
     · obtain rfl : k = n := by omega
       have hd : l.drop k = [] := List.drop_eq_nil_of_le (by rw [Hn.out]; exact Nat.le_refl _)
       have hq : q = R := by have := Hq.out; rw [hd] at this; rw [← this]; unfold szR; simp [sumRewritingStep]; omega
       clear hd Hq
       go_wp2
       go_ret
       exact ⟨by rw [hq]; rfl, hb⟩
theorem zRewritingStep_at (A : List Value) (k n : Nat) (h : A.length = k * 4) (hk : k < n) : (A ++ (List.replicate (n - k) ([.int .i64 0, .slice none 0 0, .slice none 0 0, .slice none 0 0] : List Value)).flatten)[k * 4]? = some (.int .i64 0) ∧ (A ++ (List.replicate (n - k) ([.int .i64 0, .slice none 0 0, .slice none 0 0, .slice none 0 0] : List Value)).flatten)[k * 4 + 1]? = some (.slice none 0 0) ∧ (A ++ (List.replicate (n - k) ([.int .i64 0, .slice none 0 0, .slice none 0 0, .slice none 0 0] : List Value)).flatten)[k * 4 + 2]? = some (.slice none 0 0) ∧ (A ++ (List.replicate (n - k) ([.int .i64 0, .slice none 0 0, .slice none 0 0, .slice none 0 0] : List Value)).flatten)[k * 4 + 3]? = some (.slice none 0 0) := by
 have e1 : n - k = (n - (k + 1)) + 1 := by omega
 rw [e1, List.replicate_succ, List.flatten_cons]
 refine ⟨?_, ?_, ?_, ?_⟩
 · rw [List.getElem?_append_right (by omega)]; simp [h]
 · rw [List.getElem?_append_right (by omega)]; simp [h]
 · rw [List.getElem?_append_right (by omega)]; simp [h]
 · rw [List.getElem?_append_right (by omega)]; simp [h]
theorem zRewritingStep_step (A : List Value) (k n : Nat) (h : A.length = k * 4) (hk : k < n) (v0 v1 v2 v3 : Value) : ((((A ++ (List.replicate (n - k) ([.int .i64 0, .slice none 0 0, .slice none 0 0, .slice none 0 0] : List Value)).flatten).set (k * 4) v0).set (k * 4 + 1) v1).set (k * 4 + 2) v2).set (k * 4 + 3) v3 = (A ++ [v0, v1, v2, v3]) ++ (List.replicate (n - (k + 1)) ([.int .i64 0, .slice none 0 0, .slice none 0 0, .slice none 0 0] : List Value)).flatten := by
 have e1 : n - k = (n - (k + 1)) + 1 := by omega
 rw [e1, List.replicate_succ, List.flatten_cons]
 rw [List.set_append_right _ _ (by omega), List.set_append_right _ _ (by omega), List.set_append_right _ _ (by omega), List.set_append_right _ _ (by omega)]
 simp [h]
theorem zRewritingStep_made (n : Nat) : (madeCells #[.int .i64 0, .slice none 0 0, .slice none 0 0, .slice none 0 0] (n * 4)).toList = (List.replicate n [.int .i64 0, .slice none 0 0, .slice none 0 0, .slice none 0 0]).flatten := by
 induction n with
 | zero => simp [madeCells]
 | succ n ih =>
   rw [List.replicate_succ', List.flatten_append, ← ih]
   unfold madeCells
   simp [Array.range_succ, Array.toList_range, Nat.add_mod, Nat.mul_mod_left, Nat.succ_mul]
theorem Tryd.infoRewritingStep : (Tryd.prog.info? 139).map (fun i => (i.zero, i.size, i.bytes)) = some (some (.agg #[.int .i64 0, .slice none 0 0, .slice none 0 0, .slice none 0 0]), 4, 80) := by kernel_rfl
set_option maxHeartbeats 1600000 in
theorem toRewritingStepS_c {a0 : Option Addr} {cap0 : Nat} {l : List Rst} {w : World} (hS : sizeRewritingStepS l ≤ 1048576) (h : At (cSlice cRst) w l [.slice a0 l.length cap0]) :
   Calls Tryd.prog 40 #[.slice a0 l.length cap0] w fun e w' => (∃ a' cap', e = .returned (.slice a' l.length cap') ∧ Own (cSlice cRst) w.heap.size w' l [.slice a' l.length cap']) ∧ Below w.heap.size w w' := by
 have hs : l.length ≤ 1048576 := Nat.le_trans (Nat.le_add_right _ _) hS
 have hs2 : ∀ j (hj : j < l.length), (sizeRewritingStep l[j]) ≤ 1048576 := fun j hj => Nat.le_trans (sumRewritingStep_ge l j hj) (Nat.le_trans (Nat.le_add_left _ _) hS)
 clear hS
 obtain ⟨n, hn⟩ : ∃ n : Nat, l.length = n := ⟨_, rfl⟩
 have Hn := Lib.hid hn
 have Hr : Hid (∀ w' : World, Below w.heap.size w w' → ∀ j (hj : j < l.length), _) := fun w' hb j hj => at_RewritingStep (Cod.ok_below h hb) j hj
 rw [hn] at hs ⊢
 clear hn h
 obtain ⟨i0, hi, hz0, hz1, hz2⟩ := info_parts Tryd.infoRewritingStep
 go_enter Tryd.func40, Tryd.ntmps40
 go_wp2_with (at_make; refine wpList_make_full _ rfl (.tmp 6) (.tmp 6) 83 rfl w.heap.size 139 i0 (.agg #[.int .i64 0, .slice none 0 0, .slice none 0 0, .slice none 0 0]) 4 Tryd.underlying83 hi hz0 hz1 .i64 .i64 n n n rfl rfl rfl rfl ?c1 ?c2 (Nat.le_refl _) ?_)
 case c1 => rw [hz2]; omega
 case c2 => unfold maxLen; omega
 intro w1 hown hg1
 rw [show (madeCells #[.int .i64 0, .slice none 0 0, .slice none 0 0, .slice none 0 0] (n * 4)).toList = [].flatten ++ (List.replicate (n - 0) [.int .i64 0, .slice none 0 0, .slice none 0 0, .slice none 0 0]).flatten by rw [zRewritingStep_made]; simp] at hown
 have hb0 : Below w.heap.size w w1 := (Below.refl _ _).grown hg1 (Nat.le_refl _) (fun k hk => by cases hk)
 clear hg1 hi hz0 hz1 hz2
 go_wp2
 go_loopw [4] (fun iv wr => ∃ (k : Nat) (F : List Nat) (css : List (List Value)), k ≤ n ∧ iv = .int .i64 k ∧ ownL cRst F wr (l.take k) css ∧ (∀ x, x ∈ F → w.heap.size < x ∧ x < wr.heap.size) ∧ wr.ownsRow w.heap.size 139 4 (.slice (some ⟨w.heap.size, 0, none⟩) n n) n (css.flatten ++ (List.replicate (n - k) [.int .i64 0, .slice none 0 0, .slice none 0 0, .slice none 0 0]).flatten) ∧ Below w.heap.size w wr) (fun iv _ => n - (intOf iv).toNat)
 case atStart => exact ⟨0, [], [], by omega, by go_num, ownL_nil _, by simp, hown, hb0⟩
 case round =>
   clear hown hb0
   obtain ⟨k, F, css, hk, rfl, hL, hF, hown, hb⟩ := hrel
   by_cases hlt : k < n
   · have hkl : k < l.length := by rw [Hn.out]; exact hlt
     obtain ⟨b, off, a1, cap1, a2, cap2, a3, cap3, rfl, hbB, c0, c1, c2, c3, hx⟩ := Hr.out _ hb k hkl
     have Hc : Hid (∀ ww, Below w.heap.size wr ww → Calls Tryd.prog 88 #[.agg #[.int .i64 l[k].atom.rel, .slice a1 l[k].atom.terms.length cap1, .slice a2 l[k].ex.length cap2, .slice a3 l[k].un.length cap3]] ww fun e w' => (∃ a1' cap1' a2' cap2' a3' cap3', e = .returned (.agg #[.int .i64 l[k].atom.rel, .slice a1' l[k].atom.terms.length cap1', .slice a2' l[k].ex.length cap2', .slice a3' l[k].un.length cap3']) ∧ Own cRst ww.heap.size w' l[k] [.int .i64 l[k].atom.rel, .slice a1' l[k].atom.terms.length cap1', .slice a2' l[k].ex.length cap2', .slice a3' l[k].un.length cap3']) ∧ Below ww.heap.size ww w') :=
       fun ww hw2 => toRewritingStep_c (hs2 k hkl) (cRst.keep hx (fun k hk => hw2.block k hk) (Nat.le_trans hb.size hw2.size))
     have hlen : css.flatten.length = k * 4 := by
       have := (ownL_len hL).2
       rw [List.length_take, Nat.min_eq_left (by omega)] at this
       exact this
     have Hat := Lib.hid (zRewritingStep_at css.flatten k n hlen hlt)
     have Hstep := Lib.hid (zRewritingStep_step css.flatten k n hlen hlt)
     have Htake : Hid (l.take (k + 1) = l.take k ++ [l[k]]) := List.take_succ_eq_append_getElem hkl
     have HL := Lib.hid hL
     have HF := Lib.hid hF
     have Hown := Lib.hid hown
     clear hx hL hF hlen hown
     generalize l[k] = r at *
     go_wp2_with fail
     refine (Hc.out _ (Below.refl _ _)).mono ?_
     rintro e w2 ⟨⟨a1', cap1', a2', cap2', a3', cap3', rfl, ho⟩, hb2⟩
     have hown2 := ownsRow_below Hown.out hb2
     have Hown2 := Lib.hid hown2
     have hgw : w.heap.size < wr.heap.size := (Hown.out.lt _ rfl).2
     have f0 := hown2.frozenAt (k * 4)
     have d0 := (hown2.cellAt (k * 4) (by omega)).trans Hat.out.1
     have f1 := hown2.frozenAt (k * 4 + 1)
     have d1 := (hown2.cellAt (k * 4 + 1) (by omega)).trans Hat.out.2.1
     have f2 := hown2.frozenAt (k * 4 + 2)
     have d2 := (hown2.cellAt (k * 4 + 2) (by omega)).trans Hat.out.2.2.1
     have f3 := hown2.frozenAt (k * 4 + 3)
     have d3 := (hown2.cellAt (k * 4 + 3) (by omega)).trans Hat.out.2.2.2
     have Ho := Lib.hid ho
     have hbw : Below w.heap.size w w2 := hb.trans (hb2.mono hb.size)
     clear ho hown2
     go_wp2
     go_roundw
     case rel =>
       obtain ⟨G, hG1, hG2⟩ := Ho.out
       have hown2 := Hown2.out
       have s0 := (hown2.stored (k * 4) (.int .i64 r.atom.rel)).1
       have s1 := (s0.stored (k * 4 + 1) (.slice a1' r.atom.terms.length cap1')).1
       have s2 := (s1.stored (k * 4 + 2) (.slice a2' r.ex.length cap2')).1
       have s3 := (s2.stored (k * 4 + 3) (.slice a3' r.un.length cap3')).1
       rw [Hstep.out] at s3
       have hkeep : ∀ kk, kk ≠ w.heap.size → ((((w2.setCell ⟨w.heap.size, k * 4, none⟩ (.int .i64 r.atom.rel)).setCell ⟨w.heap.size, k * 4 + 1, none⟩ (.slice a1' r.atom.terms.length cap1')).setCell ⟨w.heap.size, k * 4 + 2, none⟩ (.slice a2' r.ex.length cap2')).setCell ⟨w.heap.size, k * 4 + 3, none⟩ (.slice a3' r.un.length cap3')).heap[kk]? = w2.heap[kk]? := fun kk hne => (heap_setCell_other _ ⟨w.heap.size, k * 4 + 3, none⟩ _ _ hne).trans ((heap_setCell_other _ ⟨w.heap.size, k * 4 + 2, none⟩ _ _ hne).trans ((heap_setCell_other _ ⟨w.heap.size, k * 4 + 1, none⟩ _ _ hne).trans ((heap_setCell_other _ ⟨w.heap.size, k * 4, none⟩ _ _ hne).trans (rfl))))
       refine ⟨k + 1, F ++ G, css ++ [[.int .i64 r.atom.rel, .slice a1' r.atom.terms.length cap1', .slice a2' r.ex.length cap2', .slice a3' r.un.length cap3']], by omega, by go_num, ?_, ?_, ?_, ((((hbw).setCell (Nat.le_refl _) _).setCell (Nat.le_refl _) _).setCell (Nat.le_refl _) _).setCell (Nat.le_refl _) _⟩
       · rw [Htake.out]
         refine ownL_snoc (cRst.keepO hG1 (fun kk hkk => hkeep kk (by have := (hG2 kk hkk).1; omega))) (ownL_keep (ownL_below HL.out hb2 (fun kk hkk => (HF.out kk hkk).2)) (fun kk hkk => hkeep kk (by have := (HF.out kk hkk).1; omega))) ?_
         intro kk hkk hg
         have := (HF.out kk hkk).2
         have := (hG2 kk hg).1
         omega
       · intro x hx
         simp only [World.setCell, Array.size_modify]
         rcases List.mem_append.1 hx with hx | hx
         · have := HF.out x hx; have := hb2.size; omega
         · have := hG2 x hx; omega
       · simpa using s3
     case measure => simp [intOf]; omega
   · obtain rfl : k = n := by omega
     have hlk : l.take k = l := List.take_of_length_le (by rw [Hn.out]; exact Nat.le_refl _)
     rw [hlk] at hL
     rw [Nat.sub_self, List.replicate_zero, List.flatten_nil, List.append_nil] at hown
     clear hlk
     go_wp2
     go_ret
     refine ⟨⟨_, _, rfl, ?_⟩, hb⟩
     have hlen : l.length = k := Hn.out
     subst hlen
     exact Own.slice (c := cRst) hL hown (fun x hx => by have := hF x hx; omega) (by unfold maxLen; omega)
set_option maxHeartbeats 1600000 in
theorem eqRewritingStepS_c {a0 a0' : Option Addr} {cap0 cap0' : Nat} {l m : List Rst} {w : World} (h : At (cSlice cRst) w l [.slice a0 l.length cap0]) (h' : At (cSlice cRst) w m [.slice a0' m.length cap0']) :
   Calls Tryd.prog 42 #[.slice a0 l.length cap0, .slice a0' m.length cap0'] w fun e w' => e = .returned (.bool (decide (l = m))) ∧ Below w.heap.size w w' := by
 have hm := (slice_len h).2
 have hm' := (slice_len h').2
 unfold maxLen at hm hm'
 by_cases hne : l.length = m.length
 · obtain ⟨n, hn⟩ : ∃ n : Nat, l.length = n := ⟨_, rfl⟩
   have Hr : Hid (∀ w' : World, Below w.heap.size w w' → ∀ j (hj : j < l.length), _) := fun w' hb j hj => at_RewritingStep (Cod.ok_below h hb) j hj
   have Hr' : Hid (∀ w' : World, Below w.heap.size w w' → ∀ j (hj : j < m.length), _) := fun w' hb j hj => at_RewritingStep (Cod.ok_below h' hb) j hj
   clear h h'
   rw [← hne, hn]
   have Hn := Lib.hid hn
   have Hm : Hid (m.length = n) := by rw [← hne]; exact hn
   have hm2 : n ≤ 2 ^ 63 - 1 := by omega
   generalize hR : decide (l = m) = R
   have HR : Hid (decide (l.drop 0 = m.drop 0) = R) := hR
   clear hR hne hn hm hm'
   go_enter Tryd.func42, Tryd.ntmps42
   go_wp2
   go_loopw [5] (fun iv wr => ∃ k : Nat, k ≤ n ∧ iv = .int .i64 k ∧ Hid (decide (l.drop k = m.drop k) = R) ∧ Below w.heap.size w wr) (fun iv _ => n - (intOf iv).toNat)
   case atStart => exact ⟨0, by omega, by go_num, HR, Below.refl _ _⟩
   case round =>
     clear HR
     obtain ⟨k, hk, rfl, Hq, hb⟩ := hrel
     by_cases hlt : k < n
     · have hkl : k < l.length := by rw [Hn.out]; exact hlt
       have hkm : k < m.length := by rw [Hm.out]; exact hlt
       have Hst : Hid (R = (decide (l[k] = m[k]) && decide (l.drop (k + 1) = m.drop (k + 1)))) := by
         show R = _
         rw [← Hq.out, ← Bool.decide_and]; congr 1; rw [List.drop_eq_getElem_cons hkl, List.drop_eq_getElem_cons hkm, List.cons.injEq]
       obtain ⟨b, off, a1, cap1, a2, cap2, a3, cap3, rfl, hbB, c0, c1, c2, c3, hx⟩ := Hr.out _ hb k hkl
       obtain ⟨b', off', a1', cap1', a2', cap2', a3', cap3', rfl, hbB', e0, e1, e2, e3, hy⟩ := Hr'.out _ hb k hkm
       have Hc : Hid (∀ ww, Below w.heap.size wr ww → Calls Tryd.prog 92 #[.agg #[.int .i64 l[k].atom.rel, .slice a1 l[k].atom.terms.length cap1, .slice a2 l[k].ex.length cap2, .slice a3 l[k].un.length cap3], .agg #[.int .i64 m[k].atom.rel, .slice a1' m[k].atom.terms.length cap1', .slice a2' m[k].ex.length cap2', .slice a3' m[k].un.length cap3']] ww fun e w' => e = .returned (.bool (decide (l[k] = m[k]))) ∧ Below ww.heap.size ww w') :=
         fun ww hw2 => eqRewritingStep_c (cRst.keep hx (fun k hk => hw2.block k hk) (Nat.le_trans hb.size hw2.size)) (cRst.keep hy (fun k hk => hw2.block k hk) (Nat.le_trans hb.size hw2.size))
       clear hx hy Hq
       generalize l[k] = r at *
       generalize m[k] = r' at *
       generalize decide (r = r') = z at *
       cases z with
       | true =>
         go_wp2_with fail
         go_region_with (go_at_call 92; refine (Hc.out _ ?hww).mono ?_; (case hww => first | exact Below.refl _ _ | exact (Below.refl _ _).drew | exact Below.drewN' (Below.refl _ _) _); rintro e w1 ⟨rfl, hb1⟩)
         all_goals
           go_wp2
           go_roundw
           case rel =>
             have h := Hst.out
             rw [Bool.true_and] at h
             exact ⟨k + 1, by omega, by go_num, h.symm, hb.drew.trans (hb1.mono hb.size)⟩
           case measure => simp [intOf]; omega
       | false =>
         have hR : R = false := by have h := Hst.out; rw [Bool.false_and] at h; exact h
         go_wp2_with fail
         go_region_with (go_at_call 92; refine (Hc.out _ ?hww).mono ?_; (case hww => first | exact Below.refl _ _ | exact (Below.refl _ _).drew | exact Below.drewN' (Below.refl _ _) _); rintro e w1 ⟨rfl, hb1⟩)
         all_goals
           go_wp2
           go_ret
           exact ⟨by rw [hR]; rfl, hb.drew.trans (hb1.mono hb.size)⟩
     · obtain rfl : k = n := by omega
       have hR : R = true := by
         have := Hq.out
         rw [List.drop_eq_nil_of_le (by rw [Hn.out]; exact Nat.le_refl _), List.drop_eq_nil_of_le (by rw [Hm.out]; exact Nat.le_refl _)] at this
         simpa using this.symm
       go_wp2
       go_ret
       exact ⟨by rw [hR]; rfl, hb⟩
 · rw [decide_eq_false (fun e => hne (by rw [e]))]
   have hne2 : (l.length != m.length) = true := by simpa using hne
   go_enter Tryd.func42, Tryd.ntmps42
   go_wp2
   go_ret
   exact ⟨rfl, Below.refl _ _⟩
end

section
/- What a row's reading says, in the words of the readings of data. -/
open Go.RowKit Go.Deep
section
variable {H : Type} {enc : TypeId × Value → H} {P : Program} {w : World} {base : Nat} {spare : Nat → Bool} {held : Bool}
theorem rd_int {t : TypeId} (ht : P.underlying t = some (.int .i64)) {fuel : Nat} {cs : List Value} {x : DataW H × List MemPlace} (h : DataW.trod enc P w base spare held fuel t cs = some x) : ∃ y, cInt.ok w.heap.size w y cs := by
 obtain ⟨n, e, _, hw⟩ := DataW.trod_int ht h
 refine ⟨n, e, ?_⟩
 simp [Lit.wf] at hw
 unfold inR
 have h0 : IntKind.i64.min = -9223372036854775808 := by decide
 omega
theorem rd_string {t : TypeId} (ht : P.underlying t = some .string) {fuel : Nat} {cs : List Value} {x : DataW H × List MemPlace} (h : DataW.trod enc P w base spare held fuel t cs = some x) : ∃ y, cStr.ok w.heap.size w y cs := by
 obtain ⟨s, e, _, hs⟩ := DataW.trod_string ht h
 exact ⟨s, e, hs⟩
theorem rd_slice {α : Type} {c : Cod α} {t e : TypeId} (ht : P.underlying t = some (.slice e)) (hc : P.cellsOf e = c.n) (hn : 0 < c.n) (he : ∀ (fuel : Nat) (cs : List Value) (x : DataW H × List MemPlace), DataW.trod enc P w base spare held fuel e cs = some x → ∃ y, c.ok w.heap.size w y cs)
   {fuel : Nat} {cs : List Value} {x : DataW H × List MemPlace} (h : DataW.trod enc P w base spare held fuel t cs = some x) : ∃ l, (cSlice c).ok w.heap.size w l cs := by
 rcases open_slice ht h with ⟨rfl, _⟩ | ⟨a, len, cap, m, n, D, Pl, rfl, hb, hl, hm, hmm, _, hx⟩
 · exact ⟨[], none, 0, rfl, by simp, by simp⟩
 · have hlm : len ≤ m := by rw [hmm]; split <;> omega
   rw [hc] at hx
   have hex : ∀ i, i < len → ∃ y : α, ∃ es, c.ok w.heap.size w y es ∧ ∀ k, k < c.n → w.cell? ((a.add (i * c.n)).add k) = es[k]? := by
     intro i hi
     obtain ⟨cs', h1, h2⟩ := hx i (by omega)
     obtain ⟨y, hy⟩ := he _ _ _ h2
     exact ⟨y, cs', hy, fun k hk => (World.cells?_some h1).2.2 k hk⟩
   by_cases h0 : len = 0
   · subst h0
     exact ⟨[], some a, cap, rfl, by simp, by simp⟩
   · obtain ⟨y0, hy0⟩ := hex 0 (by omega)
     haveI : Inhabited α := ⟨y0⟩
     obtain ⟨R, hR⟩ := choose_lt hex
     have hsp : a.spot = none := by
       obtain ⟨es, h1, h2⟩ := hy0
       have h3 := h2 0 hn
       have h4 := c.len h1
       rw [List.getElem?_eq_getElem (by omega)] at h3
       simp [Addr.add] at h3
       exact World.cell?_spot h3
     obtain ⟨bb, off, sp⟩ := a
     obtain rfl : sp = none := hsp
     refine ⟨(List.range len).map R, some ⟨bb, off, none⟩, cap, by simp, by simp; omega, fun j hj => ?_⟩
     simp at hj
     obtain ⟨es, h1, h2⟩ := hR j hj
     have ea (k : Nat) : (Addr.mk bb off none).add k = ⟨bb, off + k, none⟩ := by unfold Addr.add; split <;> simp_all
     have eb (k q : Nat) : (Addr.mk bb (off + k) none).add q = ⟨bb, off + k + q, none⟩ := by unfold Addr.add; split <;> simp_all
     have h3 : ∀ k, k < c.n → w.cell? ⟨bb, off + j * c.n + k, none⟩ = es[k]? := by
       intro k hk
       have := h2 k hk
       rw [ea, eb] at this
       exact this
     refine ⟨bb, off, es, rfl, ?_, by simpa using h1, h3⟩
     have h4 := h3 0 hn
     rw [List.getElem?_eq_getElem (by have := c.len h1; omega)] at h4
     exact block_lt_of_cell h4
theorem row_slice {α : Type} {c : Cod α} {t e : TypeId} (ht : P.underlying t = some (.slice e)) (hc : P.cellsOf e = c.n) (hn : 0 < c.n) (he : ∀ (fuel : Nat) (cs : List Value) (x : DataW H × List MemPlace), DataW.trod enc P w base spare held fuel e cs = some x → ∃ y, c.ok w.heap.size w y cs)
   {r0 : Reach} {b0 : Nat} {v : Value} {d : DataW H} {ps : List MemPlace} (hval : Value.okWide P w r0 b0 t v) (h : DataW.Trod enc P w base spare held t v d ps) :
   ∃ (a : Option Addr) (cap : Nat) (l : List α), v = .slice a l.length cap ∧ At (cSlice c) w l [.slice a l.length cap] := by
 obtain ⟨a, len, cap, rfl⟩ := Go.WideShapes.okWide_slice ht hval
 obtain ⟨m, hm⟩ := h
 obtain ⟨l, hl⟩ := rd_slice ht hc hn he hm
 have hl2 := hl
 obtain ⟨a', cap', e, _⟩ := hl2
 simp [Value.cells] at e
 obtain ⟨rfl, rfl, rfl⟩ := e
 exact ⟨a, cap, l, rfl, hl⟩
end
end

section
/- RowTwo: RowT RowU. -/
/- The readings of the laws' own types, as a row reads them. -/
open Go.RowKit Go.Deep
theorem Tryd.cells_int : Tryd.prog.cellsOf 3 = 1 := by kernel_rfl
section
variable {H : Type} {enc : TypeId × Value → H} {w : World} {base : Nat} {spare : Nat → Bool} {held : Bool}
theorem rd_intS {fuel : Nat} {cs : List Value} {x : DataW H × List MemPlace} (h : DataW.trod enc Tryd.prog w base spare held fuel 24 cs = some x) : ∃ y, (cSlice cInt).ok w.heap.size w y cs := rd_slice Tryd.underlying24 Tryd.cells_int (by decide) (fun _ _ _ h => rd_int Tryd.underlying3 h) h
theorem Tryd.cells_ints : Tryd.prog.cellsOf 24 = 1 := by kernel_rfl
theorem Tryd.cells_str : Tryd.prog.cellsOf 9 = 1 := by kernel_rfl
theorem Tryd.cells_Relation : Tryd.prog.cellsOf 88 = 3 := by kernel_rfl
theorem rd_Relation {fuel : Nat} {cs : List Value} {x : DataW H × List MemPlace} (h : DataW.trod enc Tryd.prog w base spare held fuel 88 cs = some x) : ∃ y, cRel.ok w.heap.size w y cs := by
 obtain ⟨xs, n, _, rfl, hl, hlen, hf⟩ := DataW.trod_struct Tryd.underlying88 h
 rw [Tryd.cells_Relation] at hl
 have h0 := hf 0 _ rfl
 rw [List.getElem?_eq_getElem (by rw [hlen]; decide)] at h0
 have h1 := hf 1 _ rfl
 rw [List.getElem?_eq_getElem (by rw [hlen]; decide)] at h1
 have h2 := hf 2 _ rfl
 rw [List.getElem?_eq_getElem (by rw [hlen]; decide)] at h2
 match cs, hl with
 | [v0, v1, v2], _ =>
   simp only [Tryd.cells_str, Tryd.cells_int, List.getElem_toArray, List.getElem_cons_zero, List.getElem_cons_succ, List.drop_zero, List.drop_succ_cons, List.take_succ_cons, List.take_zero] at h0 h1 h2
   obtain ⟨y0, k0⟩ := rd_string Tryd.underlying9 h0
   obtain ⟨y1, k1⟩ := rd_int Tryd.underlying3 h1
   obtain ⟨y2, k2⟩ := rd_int Tryd.underlying3 h2
   exact ⟨⟨y0, y1, y2⟩, [_], _, rfl, k0, [_], _, rfl, k1, k2⟩
theorem row_RelationS {r0 : Reach} {b0 : Nat} {v : Value} {d : DataW H} {ps : List MemPlace} (hval : Value.okWide Tryd.prog w r0 b0 22 v) (h : DataW.Trod enc Tryd.prog w base spare held 22 v d ps) : ∃ a cap l, v = .slice a l.length cap ∧ At (cSlice cRel) w l [.slice a l.length cap] := row_slice Tryd.underlying22 Tryd.cells_Relation (by decide) (fun _ _ _ h => rd_Relation h) hval h
end
/- The readings of the laws' own types, as a row reads them: constraints, edges, atoms, queries. -/
open Go.RowKit Go.Deep
section
variable {H : Type} {enc : TypeId × Value → H} {w : World} {base : Nat} {spare : Nat → Bool} {held : Bool}
theorem Tryd.cells_Atom : Tryd.prog.cellsOf 134 = 2 := by kernel_rfl
theorem rd_Atom {fuel : Nat} {cs : List Value} {x : DataW H × List MemPlace} (h : DataW.trod enc Tryd.prog w base spare held fuel 134 cs = some x) : ∃ y, cAtm.ok w.heap.size w y cs := by
 obtain ⟨xs, n, _, rfl, hl, hlen, hf⟩ := DataW.trod_struct Tryd.underlying134 h
 rw [Tryd.cells_Atom] at hl
 have h0 := hf 0 _ rfl
 rw [List.getElem?_eq_getElem (by rw [hlen]; decide)] at h0
 have h1 := hf 1 _ rfl
 rw [List.getElem?_eq_getElem (by rw [hlen]; decide)] at h1
 match cs, hl with
 | [v0, v1], _ =>
   simp only [Tryd.cells_int, Tryd.cells_ints, List.getElem_toArray, List.getElem_cons_zero, List.getElem_cons_succ, List.drop_zero, List.drop_succ_cons, List.take_succ_cons, List.take_zero] at h0 h1
   obtain ⟨y0, k0⟩ := rd_int Tryd.underlying3 h0
   obtain ⟨y1, k1⟩ := rd_intS h1
   exact ⟨⟨y0, y1⟩, [_], _, rfl, k0, k1⟩
end
end

section
/- The readings of the laws' own types, as a row reads them: structs in structs. -/
open Go.RowKit Go.Deep
section
variable {H : Type} {enc : TypeId × Value → H} {w : World} {base : Nat} {spare : Nat → Bool} {held : Bool}
theorem Tryd.cells_RewritingStep : Tryd.prog.cellsOf 136 = 4 := by kernel_rfl
theorem rd_RewritingStep {fuel : Nat} {cs : List Value} {x : DataW H × List MemPlace} (h : DataW.trod enc Tryd.prog w base spare held fuel 136 cs = some x) : ∃ y, cRst.ok w.heap.size w y cs := by
 obtain ⟨xs, n, _, rfl, hl, hlen, hf⟩ := DataW.trod_struct Tryd.underlying136 h
 rw [Tryd.cells_RewritingStep] at hl
 have h0 := hf 0 _ rfl
 rw [List.getElem?_eq_getElem (by rw [hlen]; decide)] at h0
 have h1 := hf 1 _ rfl
 rw [List.getElem?_eq_getElem (by rw [hlen]; decide)] at h1
 have h2 := hf 2 _ rfl
 rw [List.getElem?_eq_getElem (by rw [hlen]; decide)] at h2
 match cs, hl with
 | [v0, v1, v2, v3], _ =>
   simp only [Tryd.cells_int, Tryd.cells_ints, Tryd.cells_Atom, List.getElem_toArray, List.getElem_cons_zero, List.getElem_cons_succ, List.drop_zero, List.drop_succ_cons, List.take_succ_cons, List.take_zero] at h0 h1 h2
   obtain ⟨y0, k0⟩ := rd_Atom h0
   obtain ⟨y1, k1⟩ := rd_intS h1
   obtain ⟨y2, k2⟩ := rd_intS h2
   exact ⟨⟨y0, y1, y2⟩, [_, _], _, rfl, k0, [_], _, rfl, k1, k2⟩
theorem row_RewritingStepS {r0 : Reach} {b0 : Nat} {v : Value} {d : DataW H} {ps : List MemPlace} (hval : Value.okWide Tryd.prog w r0 b0 80 v) (h : DataW.Trod enc Tryd.prog w base spare held 80 v d ps) : ∃ a cap l, v = .slice a l.length cap ∧ At (cSlice cRst) w l [.slice a l.length cap] := row_slice Tryd.underlying80 Tryd.cells_RewritingStep (by decide) (fun _ _ _ h => rd_RewritingStep h) hval h
end
end
end Go.Proofs.YtlcogbmceanghaaDoor

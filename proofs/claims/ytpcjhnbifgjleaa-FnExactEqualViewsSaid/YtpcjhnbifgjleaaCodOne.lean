/- CodOne: Aid Cod CodL. -/
import Derived.WalkKit
import Derived.WalkSpells
import Derived.WalkLawsBesides
import Derived.Handy
import Derived.Lib.Hide
import Derived.StillTailTactics
import Derived.Below
import Derived.ProofKit
/- Small aids, over any program: bytes of a slice as a string, facts on lists of bytes. -/
namespace Go.Proofs.Ytpcjhnbifgjleaa
open Go.RowKit
set_option linter.unusedVariables false

/-- A list of bytes as Go's string. -/
def str (l : List UInt8) : ByteArray := ⟨l.toArray⟩
/-- A byte as Go's value. -/
def byteV (u : UInt8) : Value := .int .u8 (u.toNat : Int)
theorem str_append (a b : List UInt8) : str a ++ str b = str (a ++ b) := by
  apply ByteArray.ext; simp [str, ByteArray.data_append]
theorem str_size (l : List UInt8) : (str l).size = l.length := by simp [str, ByteArray.size]
theorem str_toList (l : List UInt8) : (str l).data.toList = l := rfl
theorem str_inj {a b : List UInt8} (h : str a = str b) : a = b := by
  have := congrArg (fun x : ByteArray => x.data.toList) h; simpa [str] using this
theorem str_of (s : ByteArray) : s = str s.data.toList := by apply ByteArray.ext; simp [str]
theorem strOf_nums (l : List UInt8) : strOfNums (l.map fun u => (u.toNat : Int)) = str l := by
  unfold strOfNums str
  congr 1
  simp [List.map_map, Function.comp_def]

section
variable {P : Program}
theorem run_conv_one (w : World) (src dst e : TypeId) (hs : P.underlying src = some (.slice e)) (he : P.underlying e = some (.int .u8)) (hd : P.underlying dst = some .string) (q : Nat) :
    (convert src dst (.slice (some ⟨w.heap.size, 0, none⟩) 1 1)).run P (w.alloc (.cells #[.int .u8 ((q : Int) % 256)] e)) = .ok (.string (str [UInt8.ofNat (q % 256)])) (w.alloc (.cells #[.int .u8 ((q : Int) % 256)] e)) := by
  have h := run_convert_bytes_arg (P := P) (w.alloc (.cells #[.int .u8 ((q : Int) % 256)] e)) src e hs he w.heap.size 0 1 1 [(q : Int) % 256] rfl (by
    intro i hi
    obtain rfl : i = 0 := by omega
    simp [World.cell?_alloc_at]) dst hd
  rw [h]
  congr 2

/-- The same, at whatever spelling of the byte. -/
theorem run_conv_byte (w : World) (src dst e : TypeId) (hs : P.underlying src = some (.slice e)) (he : P.underlying e = some (.int .u8)) (hd : P.underlying dst = some .string) (x : Int) (u : UInt8) (hx : x = (u.toNat : Int)) :
    (convert src dst (.slice (some ⟨w.heap.size, 0, none⟩) 1 1)).run P (w.alloc (.cells #[.int .u8 x] e)) = .ok (.string (str [u])) (w.alloc (.cells #[.int .u8 x] e)) := by
  have h := run_convert_bytes_arg (P := P) (w.alloc (.cells #[.int .u8 x] e)) src e hs he w.heap.size 0 1 1 [x] rfl (by
    intro i hi
    obtain rfl : i = 0 := by omega
    simp [World.cell?_alloc_at]) dst hd
  rw [h]
  congr 2
  unfold strOfNums str
  simp [hx]

theorem run_conv_own (w : World) (src dst e : TypeId) (hs : P.underlying src = some (.slice e)) (he : P.underlying e = some (.int .u8)) (hd : P.underlying dst = some .string) (base : Nat) (v : Value) (n : Nat) (l : List UInt8)
    (hown : w.ownsRow base e 1 v n (l.map byteV)) : (convert src dst v).run P w = .ok (.string (str l)) w := by
  have hn : l.length = n := by simpa using hown.1
  rcases hown.2 with ⟨rfl, hx⟩ | ⟨g, cap, cur, rfl, _, hg, hnc, hcm, hcs, htake⟩
  · have : l = [] := List.eq_nil_of_length_eq_zero (by omega)
    subst this
    rw [run_convert_bytes_nil w src e hs he 0 0 dst hd]
    rfl
  · have h := run_convert_bytes_arg (P := P) w src e hs he g 0 n cap (l.map fun u => (u.toNat : Int)) (by simpa using hn) (by
      intro i hi
      have := hown.cellAt i (by omega)
      rw [Nat.zero_add, this]
      have hil : i < l.length := by omega
      simp [List.getElem?_eq_getElem hil, List.getD, byteV]) dst hd
    rw [h, strOf_nums]
end

theorem i64_or_nat (a b : Nat) (ha : a < 9223372036854775808) (hb : b < 9223372036854775808) : bits .or .i64 (a : Int) (b : Int) = ((a ||| b : Nat) : Int) := by
  have hx : a ||| b < 2 ^ 63 := Nat.or_lt_two_pow (by omega) (by omega)
  show IntKind.i64.wrap ((BitVec.ofInt 64 (a : Int) ||| BitVec.ofInt 64 (b : Int)).toNat : Int) = _
  rw [BitVec.toNat_or, ofInt_u64 a (by omega), ofInt_u64 b (by omega), IntKind.wrap_i64]
  omega
theorem i64_and_nat (a b : Nat) (ha : a < 9223372036854775808) (hb : b < 9223372036854775808) : bits .and .i64 (a : Int) (b : Int) = ((a &&& b : Nat) : Int) := by
  have hx : a &&& b < 2 ^ 63 := Nat.and_lt_two_pow _ (by omega)
  show IntKind.i64.wrap ((BitVec.ofInt 64 (a : Int) &&& BitVec.ofInt 64 (b : Int)).toNat : Int) = _
  rw [BitVec.toNat_and, ofInt_u64 a (by omega), ofInt_u64 b (by omega), IntKind.wrap_i64]
  omega
/-- 'x | y' where y lies below the lowest bit of x that is set. -/
theorem i64_join (i a b : Nat) (hx : a % 2 ^ i = 0) (hy : b < 2 ^ i) (ha : a < 9223372036854775808) (hb : b < 9223372036854775808) : bits .or .i64 (a : Int) (b : Int) = ((a + b : Nat) : Int) := by
  rw [i64_or_nat a b ha hb, nat_join i a b hx hy]

theorem own_snoc {w : World} {base : Nat} {e : TypeId} {v : Value} {n : Nat} {l : List UInt8} {x : Int} (b : UInt8) (hx : x = (b.toNat : Int)) (h : w.ownsRow base e 1 v n (l.map byteV ++ [.int .u8 x])) : w.ownsRow base e 1 v n ((l ++ [b]).map byteV) := by
  rw [List.map_append]; subst hx; exact h
theorem own_len {w : World} {base : Nat} {e : TypeId} {v : Value} {n : Nat} {l : List UInt8} (h : w.ownsRow base e 1 v n (l.map byteV)) : l.length = n := by simpa using h.1
theorem one_oneCell (k : IntKind) (x : Int) : ∀ u ∈ [Value.int k x], u.oneCell' = true := by
  intro u hu; simp at hu; subst hu; rfl
theorem one_at (w : World) (v : Value) (e : TypeId) : ∀ j u, [v][j]? = some u → (w.alloc (.cells #[v] e)).cell? ((⟨w.heap.size, 0, none⟩ : Addr).add j) = some u := by
  intro j u hj
  match j, hj with
  | 0, hj => simp at hj; subst hj; simp [Addr.add, World.cell?_alloc_at]
end Go.Proofs.Ytpcjhnbifgjleaa

/- How data stand in memory: a reading for numbers, strings, bools, structs and slices, put together from small parts. -/
namespace Go.Proofs.Ytpcjhnbifgjleaa
open Go.RowKit
set_option linter.unusedVariables false
set_option maxRecDepth 100000

/-- A reading: how a datum stands in a list of cells. 'ok B': all that lies behind it lies in blocks below B. 'own F': what lies behind it lies in the blocks F, each its own. -/
structure Cod (α : Type) where
  n : Nat
  ok : Nat → World → α → List Value → Prop
  own : List Nat → World → α → List Value → Prop
  len : ∀ {B w x cs}, ok B w x cs → cs.length = n
  keep : ∀ {B C w w' x cs}, ok B w x cs → (∀ k, k < B → w'.heap[k]? = w.heap[k]?) → B ≤ C → ok C w' x cs
  keepO : ∀ {F w w' x cs}, own F w x cs → (∀ k, k ∈ F → w'.heap[k]? = w.heap[k]?) → own F w' x cs
  ofO : ∀ {F B w x cs}, own F w x cs → (∀ k, k ∈ F → k < B) → ok B w x cs

/-- A number that fits 64 bits. -/
def inR (x : Int) : Prop := -9223372036854775808 ≤ x ∧ x ≤ 9223372036854775807
def cInt : Cod Int where
  n := 1
  ok _ _ x cs := cs = [.int .i64 x] ∧ inR x
  own F _ x cs := (cs = [.int .i64 x] ∧ inR x) ∧ F = []
  len h := by rw [h.1]; rfl
  keep h _ _ := h
  keepO h _ := h
  ofO h _ := h.1
def cBool : Cod Bool where
  n := 1
  ok _ _ x cs := cs = [.bool x]
  own F _ x cs := cs = [.bool x] ∧ F = []
  len h := by subst h; rfl
  keep h _ _ := h
  keepO h _ := h
  ofO h _ := h.1
def cStr : Cod ByteArray where
  n := 1
  ok _ _ x cs := cs = [.string x] ∧ x.size ≤ maxLen
  own F _ x cs := (cs = [.string x] ∧ x.size ≤ maxLen) ∧ F = []
  len h := by rw [h.1]; rfl
  keep h _ _ := h
  keepO h _ := h
  ofO h _ := h.1
/-- Two data side by side. -/
def cPair {α β : Type} (c : Cod α) (d : Cod β) : Cod (α × β) where
  n := c.n + d.n
  ok B w x cs := ∃ u v, cs = u ++ v ∧ c.ok B w x.1 u ∧ d.ok B w x.2 v
  own F w x cs := ∃ u v F1 F2, cs = u ++ v ∧ c.own F1 w x.1 u ∧ d.own F2 w x.2 v ∧ F = F1 ++ F2 ∧ (∀ k, k ∈ F1 → k ∉ F2)
  len := by rintro B w x cs ⟨u, v, rfl, h1, h2⟩; simp [c.len h1, d.len h2]
  keep := by rintro B C w w' x cs ⟨u, v, rfl, h1, h2⟩ hk hB; exact ⟨u, v, rfl, c.keep h1 hk hB, d.keep h2 hk hB⟩
  keepO := by
    rintro F w w' x cs ⟨u, v, F1, F2, rfl, h1, h2, rfl, hd⟩ hk
    exact ⟨u, v, F1, F2, rfl, c.keepO h1 (fun k hk1 => hk k (List.mem_append_left _ hk1)), d.keepO h2 (fun k hk1 => hk k (List.mem_append_right _ hk1)), rfl, hd⟩
  ofO := by
    rintro F B w x cs ⟨u, v, F1, F2, rfl, h1, h2, rfl, hd⟩ hB
    exact ⟨u, v, rfl, c.ofO h1 (fun k hk1 => hB k (List.mem_append_left _ hk1)), d.ofO h2 (fun k hk1 => hB k (List.mem_append_right _ hk1))⟩
/-- The same, of another type. -/
def cMap {α β : Type} (f : α → β) (c : Cod β) : Cod α where
  n := c.n
  ok B w x cs := c.ok B w (f x) cs
  own F w x cs := c.own F w (f x) cs
  len h := c.len h
  keep h := c.keep h
  keepO h := c.keepO h
  ofO h := c.ofO h
/-- A slice. -/
def cSlice {α : Type} (c : Cod α) : Cod (List α) where
  n := 1
  ok B w l cs := ∃ a cap, cs = [.slice a l.length cap] ∧ (l.length ≤ maxLen ∧ l.length ≤ cap) ∧ ∀ j (hj : j < l.length), ∃ b off es, a = some ⟨b, off, none⟩ ∧ b < B ∧ c.ok B w l[j] es ∧ ∀ i, i < c.n → w.cell? ⟨b, off + j * c.n + i, none⟩ = es[i]?
  own F w l cs := ∃ a cap, cs = [.slice a l.length cap] ∧ (l.length ≤ maxLen ∧ l.length ≤ cap) ∧ ((l = [] ∧ F = []) ∨ ∃ (g off : Nat) (G : Nat → List Nat), a = some ⟨g, off, none⟩ ∧ g ∈ F ∧ g < w.heap.size ∧ (∀ j, j < l.length → ∀ k, k ∈ G j → k ∈ F ∧ k ≠ g) ∧
    (∀ i j, i < l.length → j < l.length → i ≠ j → ∀ k, k ∈ G i → k ∉ G j) ∧ (∀ j, j < l.length * c.n → w.frozen? ⟨g, off + j, none⟩ = false) ∧
    ∀ j (hj : j < l.length), ∃ es, c.own (G j) w l[j] es ∧ ∀ i, i < c.n → w.cell? ⟨g, off + j * c.n + i, none⟩ = es[i]?)
  len := by rintro B w x cs ⟨a, cap, rfl, _⟩; rfl
  keep := by
    rintro B C w w' l cs ⟨a, cap, rfl, hm, h⟩ hk hB
    refine ⟨a, cap, rfl, hm, fun j hj => ?_⟩
    obtain ⟨b, off, es, rfl, hb, h1, h2⟩ := h j hj
    exact ⟨b, off, es, rfl, by omega, c.keep h1 hk hB, fun i hi => (World.cell?_of_block (hk b hb)).trans (h2 i hi)⟩
  keepO := by
    rintro F w w' l cs ⟨a, cap, rfl, hm, h⟩ hk
    refine ⟨a, cap, rfl, hm, ?_⟩
    rcases h with h | ⟨g, off, G, rfl, hg, hgs, hG, hGG, hf, he⟩
    · exact .inl h
    · refine .inr ⟨g, off, G, rfl, hg, ?_, hG, hGG, fun j hj => (World.frozen?_of_block (hk g hg)).trans (hf j hj), fun j hj => ?_⟩
      · have := hk g hg
        rw [Array.getElem?_eq_getElem hgs] at this
        exact (Array.getElem?_eq_some_iff.1 this).1
      · obtain ⟨es, h1, h2⟩ := he j hj
        exact ⟨es, c.keepO h1 (fun k hk1 => hk k (hG j hj k hk1).1), fun i hi => (World.cell?_of_block (hk g hg)).trans (h2 i hi)⟩
  ofO := by
    rintro F B w l cs ⟨a, cap, rfl, hm, h⟩ hB
    refine ⟨a, cap, rfl, hm, fun j hj => ?_⟩
    rcases h with ⟨rfl, _⟩ | ⟨g, off, G, rfl, hg, hgs, hG, hGG, hf, he⟩
    · simp at hj
    · obtain ⟨es, h1, h2⟩ := he j hj
      exact ⟨g, off, es, rfl, hB g hg, c.ofO h1 (fun k hk1 => hB k (hG j hj k hk1).1), h2⟩

/-- A datum stands in these cells, in this world. -/
def At {α : Type} (c : Cod α) (w : World) (x : α) (cs : List Value) : Prop := c.ok w.heap.size w x cs
theorem At.below {α : Type} {c : Cod α} {w w' : World} {x : α} {cs : List Value} {C : Nat} (h : At c w x cs) (hb : Below C w w') (hC : w.heap.size ≤ C) : At c w' x cs :=
  c.keep h (fun k hk => hb.block k (by omega)) hb.size
/-- The same, in a world that has only drawn. -/
theorem At.here {α : Type} {c : Cod α} {w W : World} {x : α} {cs : List Value} (h : At c w x cs) (hW : W.heap = w.heap := by rfl) : At c W x cs :=
  c.keep h (fun k hk => by rw [hW]) (by rw [hW]; exact Nat.le_refl _)
/-- The same, behind a call. -/
theorem At.next {α : Type} {c : Cod α} {w W w' : World} {x : α} {cs : List Value} (h : At c w x cs) (hb : Below W.heap.size W w') (hW : W.heap = w.heap := by rfl) : At c w' x cs :=
  At.below (At.here h hW) hb (Nat.le_refl _)
theorem Below.next {w0 w W w' : World} (h : Below w0.heap.size w0 w) (hb : Below W.heap.size W w') (hW : W.heap = w.heap ∧ W.os = w.os ∧ W.tape = w.tape ∧ W.output = w.output := by exact ⟨rfl, rfl, rfl, rfl⟩) : Below w0.heap.size w0 w' := by
  obtain ⟨h1, h2, h3, h4⟩ := hW
  have hB := h.size
  exact h.trans ⟨hb.os.trans h2, hb.tape.trans h3, hb.output.trans h4, by rw [← h1]; exact hb.size, fun k hk => by rw [← h1]; exact hb.block k (by rw [h1]; omega)⟩
theorem cell_next {w W w' : World} {p : Addr} {v : Value} (h : w.cell? p = some v) (hb : Below W.heap.size W w') (hW : W.heap = w.heap := by rfl) : w'.cell? p = some v :=
  (hb.cell (by rw [hW]; exact World.block_lt_of_cell? w _ h)).trans ((World.cell?_of_block (w := w) (by rw [hW])).trans h)
theorem dec_self {α : Type} [DecidableEq α] (x : α) : decide (x = x) = true := decide_eq_true rfl
/-- In blocks below B of the world w, seen in a later world. -/
theorem Cod.ok_below {α : Type} {c : Cod α} {w w' : World} {x : α} {cs : List Value} {B : Nat} (h : c.ok B w x cs) (hb : Below B w w') : c.ok B w' x cs :=
  c.keep h (fun k hk => hb.block k hk) (Nat.le_refl _)
/-- A datum of the call's own: in blocks from B on. -/
def Own {α : Type} (c : Cod α) (B : Nat) (w : World) (x : α) (cs : List Value) : Prop := ∃ F, c.own F w x cs ∧ ∀ k, k ∈ F → B ≤ k ∧ k < w.heap.size
theorem Own.at {α : Type} {c : Cod α} {B : Nat} {w : World} {x : α} {cs : List Value} (h : Own c B w x cs) : At c w x cs := by
  obtain ⟨F, h1, h2⟩ := h
  exact c.ofO h1 (fun k hk => (h2 k hk).2)
theorem Own.below {α : Type} {c : Cod α} {B C : Nat} {w w' : World} {x : α} {cs : List Value} (h : Own c B w x cs) (hb : Below C w w') (hC : w.heap.size ≤ C) : Own c B w' x cs := by
  obtain ⟨F, h1, h2⟩ := h
  exact ⟨F, c.keepO h1 (fun k hk => hb.block k (by have := (h2 k hk).2; omega)), fun k hk => ⟨(h2 k hk).1, by have := (h2 k hk).2; have := hb.size; omega⟩⟩
theorem Own.mono {α : Type} {c : Cod α} {B B' : Nat} {w : World} {x : α} {cs : List Value} (h : Own c B w x cs) (hB : B' ≤ B) : Own c B' w x cs := by
  obtain ⟨F, h1, h2⟩ := h
  exact ⟨F, h1, fun k hk => ⟨by have := (h2 k hk).1; omega, (h2 k hk).2⟩⟩

/-- A datum of the call's own, in blocks from lo to hi. -/
def OwnIn {α : Type} (c : Cod α) (lo hi : Nat) (w : World) (x : α) (cs : List Value) : Prop := ∃ F, c.own F w x cs ∧ ∀ k, k ∈ F → lo ≤ k ∧ k < hi
theorem OwnIn.below {α : Type} {c : Cod α} {lo hi C : Nat} {w w' : World} {x : α} {cs : List Value} (h : OwnIn c lo hi w x cs) (hb : Below C w w') (hC : hi ≤ C) : OwnIn c lo hi w' x cs := by
  obtain ⟨F, h1, h2⟩ := h
  exact ⟨F, c.keepO h1 (fun k hk => hb.block k (by have := (h2 k hk).2; omega)), h2⟩
theorem OwnIn.setCell {α : Type} {c : Cod α} {lo hi : Nat} {w : World} {x : α} {cs : List Value} (h : OwnIn c lo hi w x cs) {p : Addr} (hp : p.block < lo) (u : Value) : OwnIn c lo hi (w.setCell p u) x cs := by
  obtain ⟨F, h1, h2⟩ := h
  exact ⟨F, c.keepO h1 (fun k hk => Below.heap_setCell _ _ _ _ (by have := (h2 k hk).1; omega)), h2⟩
theorem OwnIn.own {α : Type} {c : Cod α} {lo hi : Nat} {w : World} {x : α} {cs : List Value} (h : OwnIn c lo hi w x cs) (hh : hi ≤ w.heap.size) : Own c lo w x cs := by
  obtain ⟨F, h1, h2⟩ := h
  exact ⟨F, h1, fun k hk => ⟨(h2 k hk).1, by have := (h2 k hk).2; omega⟩⟩
theorem Own.in {α : Type} {c : Cod α} {B : Nat} {w : World} {x : α} {cs : List Value} (h : Own c B w x cs) : OwnIn c B w.heap.size w x cs := h
theorem OwnIn.wide {α : Type} {c : Cod α} {lo hi lo' hi' : Nat} {w : World} {x : α} {cs : List Value} (h : OwnIn c lo hi w x cs) (h1 : lo' ≤ lo) (h2 : hi ≤ hi') : OwnIn c lo' hi' w x cs := by
  obtain ⟨F, h3, h4⟩ := h
  exact ⟨F, h3, fun k hk => ⟨by have := (h4 k hk).1; omega, by have := (h4 k hk).2; omega⟩⟩
theorem OwnIn.pair {α β : Type} {c : Cod α} {d : Cod β} {lo mid hi : Nat} {w : World} {x : α} {y : β} {u v : List Value} (h : OwnIn c lo mid w x u) (k : OwnIn d mid hi w y v) (h1 : lo ≤ mid) (h2 : mid ≤ hi) : OwnIn (cPair c d) lo hi w (x, y) (u ++ v) := by
  obtain ⟨F, h3, h4⟩ := h
  obtain ⟨G, h5, h6⟩ := k
  refine ⟨F ++ G, ⟨u, v, F, G, rfl, h3, h5, rfl, fun k hk hg => ?_⟩, fun k hk => ?_⟩
  · have := (h4 k hk).2; have := (h6 k hg).1; omega
  · rcases List.mem_append.1 hk with hk | hk
    · exact ⟨(h4 k hk).1, by have := (h4 k hk).2; omega⟩
    · exact ⟨by have := (h6 k hk).1; omega, (h6 k hk).2⟩
theorem OwnIn.int (lo hi : Nat) (w : World) {x : Int} (h : inR x) : OwnIn cInt lo hi w x [.int .i64 x] := ⟨[], ⟨⟨rfl, h⟩, rfl⟩, by simp⟩
theorem OwnIn.flat {α : Type} {c : Cod α} {lo : Nat} {w w' : World} {x : α} {cs : List Value} (h : OwnIn c lo lo w x cs) : Own c lo w' x cs := by
  obtain ⟨F, h1, h2⟩ := h
  exact ⟨F, c.keepO h1 (fun k hk => absurd (h2 k hk) (by omega)), fun k hk => absurd (h2 k hk) (by omega)⟩
theorem slice_open {α : Type} {c : Cod α} {B : Nat} {w : World} {l : List α} {cs : List Value} (h : (cSlice c).ok B w l cs) : ∃ a cap, cs = [.slice a l.length cap] ∧ (cSlice c).ok B w l [.slice a l.length cap] := by
  have h0 := h
  obtain ⟨a, cap, rfl, _⟩ := h
  exact ⟨a, cap, rfl, h0⟩
theorem slice_openO {α : Type} {c : Cod α} {F : List Nat} {w : World} {l : List α} {cs : List Value} (h : (cSlice c).own F w l cs) : ∃ a cap, cs = [.slice a l.length cap] ∧ (cSlice c).own F w l [.slice a l.length cap] := by
  have h0 := h
  obtain ⟨a, cap, rfl, _⟩ := h
  exact ⟨a, cap, rfl, h0⟩

/-- A slice of one-cell elements: the element's cell. -/
theorem slice_at {α : Type} {c : Cod α} {B : Nat} {w : World} {l : List α} {a : Option Addr} {len cap : Nat} (h : (cSlice c).ok B w l [.slice a len cap]) (j : Nat) (hj : j < l.length) :
    ∃ b off es, a = some ⟨b, off, none⟩ ∧ b < B ∧ c.ok B w l[j] es ∧ ∀ i, i < c.n → w.cell? ⟨b, off + j * c.n + i, none⟩ = es[i]? := by
  obtain ⟨a', cap', e, hm, h⟩ := h
  simp at e
  obtain ⟨rfl, rfl, rfl⟩ := e
  exact h j hj
theorem slice_len {α : Type} {c : Cod α} {B : Nat} {w : World} {l : List α} {a : Option Addr} {len cap : Nat} (h : (cSlice c).ok B w l [.slice a len cap]) : len = l.length ∧ l.length ≤ maxLen := by
  obtain ⟨a', cap', e, hm, h⟩ := h
  simp at e
  exact ⟨e.2.1, hm.1⟩
theorem slice_cap {α : Type} {c : Cod α} {B : Nat} {w : World} {l : List α} {a : Option Addr} {len cap : Nat} (h : (cSlice c).ok B w l [.slice a len cap]) : l.length ≤ cap := by
  obtain ⟨a', cap', e, hm, h⟩ := h
  simp at e
  obtain ⟨rfl, rfl, rfl⟩ := e
  exact hm.2
theorem own_slice_len {α : Type} {c : Cod α} {F : List Nat} {w : World} {l : List α} {a : Option Addr} {len cap : Nat} (h : (cSlice c).own F w l [.slice a len cap]) : l.length ≤ maxLen ∧ l.length ≤ cap := by
  obtain ⟨a', cap', e, hm, h⟩ := h
  simp at e
  obtain ⟨rfl, rfl, rfl⟩ := e
  exact hm
/-- A slice of numbers: element j. -/
theorem ints_at {B : Nat} {w : World} {l : List Int} {a : Option Addr} {len cap : Nat} (h : (cSlice cInt).ok B w l [.slice a len cap]) (j : Nat) (hj : j < l.length) :
    ∃ b off, a = some ⟨b, off, none⟩ ∧ b < B ∧ w.cell? ⟨b, off + j, none⟩ = some (.int .i64 l[j]) := by
  obtain ⟨b, off, es, rfl, hb, he, hc⟩ := slice_at h j hj
  obtain ⟨rfl, _⟩ := he
  exact ⟨b, off, rfl, hb, by simpa [cInt] using hc 0 (by decide)⟩
theorem ints_rng {B : Nat} {w : World} {l : List Int} {cs : List Value} (h : (cSlice cInt).ok B w l cs) : ∀ x, x ∈ l → inR x := by
  intro x hx
  obtain ⟨j, hj, rfl⟩ := List.getElem_of_mem hx
  obtain ⟨_, _, rfl, _, h⟩ := h
  obtain ⟨b, off, es, _, hb, he, hc⟩ := h j hj
  exact he.2
end Go.Proofs.Ytpcjhnbifgjleaa

/- Lists of data of the call's own, and the slices that they make. -/
namespace Go.Proofs.Ytpcjhnbifgjleaa
open Go.RowKit
set_option linter.unusedVariables false
set_option maxRecDepth 100000

/-- A list of data, each in blocks of its own. -/
def ownL {α : Type} (c : Cod α) : List Nat → World → List α → List (List Value) → Prop
  | F, _, [], [] => F = []
  | F, w, x :: l, cs :: css => ∃ F1 F2, F = F1 ++ F2 ∧ c.own F1 w x cs ∧ ownL c F2 w l css ∧ ∀ k, k ∈ F1 → k ∉ F2
  | _, _, [], _ :: _ => False
  | _, _, _ :: _, [] => False
variable {α : Type} {c : Cod α}
theorem le_sum {F : List Nat} {k : Nat} (h : k ∈ F) : k ≤ F.sum := by
  induction F with
  | nil => cases h
  | cons a F ih =>
    rw [List.sum_cons]
    rcases List.mem_cons.1 h with rfl | h
    · omega
    · have := ih h; omega
theorem Cod.lenO {F : List Nat} {w : World} {x : α} {cs : List Value} (h : c.own F w x cs) : cs.length = c.n :=
  c.len (c.ofO (B := F.sum + 1) h (fun k hk => by have := le_sum hk; omega))
theorem ownL_nil (w : World) : ownL c [] w [] [] := rfl
theorem ownL_keep {w w' : World} : ∀ {F : List Nat} {l : List α} {css : List (List Value)}, ownL c F w l css → (∀ k, k ∈ F → w'.heap[k]? = w.heap[k]?) → ownL c F w' l css
  | F, [], [], h, _ => h
  | F, x :: l, cs :: css, ⟨F1, F2, e, h1, h2, hd⟩, hk => by
    subst e
    exact ⟨F1, F2, rfl, c.keepO h1 (fun k hk1 => hk k (List.mem_append_left _ hk1)), ownL_keep h2 (fun k hk1 => hk k (List.mem_append_right _ hk1)), hd⟩
  | _, [], _ :: _, h, _ => h.elim
  | _, _ :: _, [], h, _ => h.elim
theorem ownL_snoc {w : World} {x : α} {cs : List Value} {G : List Nat} (hx : c.own G w x cs) : ∀ {F : List Nat} {l : List α} {css : List (List Value)}, ownL c F w l css → (∀ k, k ∈ F → k ∉ G) → ownL c (F ++ G) w (l ++ [x]) (css ++ [cs])
  | F, [], [], h, _ => by obtain rfl : F = [] := h; exact ⟨G, [], by simp, hx, rfl, by simp⟩
  | F, y :: l, ds :: css, ⟨F1, F2, e, h1, h2, hd⟩, hk => by
    subst e
    refine ⟨F1, F2 ++ G, by simp, h1, ownL_snoc hx h2 (fun k hk1 => hk k (List.mem_append_right _ hk1)), fun k h => ?_⟩
    simp only [List.mem_append, not_or]
    exact ⟨hd k h, hk k (List.mem_append_left _ h)⟩
  | _, [], _ :: _, h, _ => h.elim
  | _, _ :: _, [], h, _ => h.elim
theorem ownL_len {w : World} : ∀ {F : List Nat} {l : List α} {css : List (List Value)}, ownL c F w l css → css.length = l.length ∧ css.flatten.length = l.length * c.n
  | F, [], [], _ => by simp
  | F, x :: l, cs :: css, ⟨F1, F2, _, h1, h2, _⟩ => by
    have := ownL_len h2
    have h3 := Cod.lenO h1
    refine ⟨by simp [this.1], ?_⟩
    rw [List.flatten_cons, List.length_append, this.2, h3, List.length_cons, Nat.succ_mul, Nat.add_comm]
  | _, [], _ :: _, h => h.elim
  | _, _ :: _, [], h => h.elim
theorem ownL_get {w : World} : ∀ {F : List Nat} {l : List α} {css : List (List Value)}, ownL c F w l css → ∃ G : Nat → List Nat, (∀ j, j < l.length → ∀ k, k ∈ G j → k ∈ F) ∧
    (∀ i j, i < l.length → j < l.length → i ≠ j → ∀ k, k ∈ G i → k ∉ G j) ∧ ∀ j (hj : j < l.length), ∃ es, c.own (G j) w l[j] es ∧ ∀ i, i < c.n → css.flatten[j * c.n + i]? = es[i]?
  | F, [], [], _ => ⟨fun _ => [], by simp, by simp, by simp⟩
  | F, x :: l, cs :: css, ⟨F1, F2, e, h1, h2, hd⟩ => by
    subst e
    obtain ⟨G, hG, hGG, he⟩ := ownL_get h2
    have hn := Cod.lenO h1
    refine ⟨fun j => match j with | 0 => F1 | j + 1 => G j, ?_, ?_, ?_⟩
    · intro j hj k hk
      cases j with
      | zero => exact List.mem_append_left _ hk
      | succ j => exact List.mem_append_right _ (hG j (by simpa using hj) k hk)
    · intro i j hi hj hij k hk
      cases i with
      | zero => cases j with
        | zero => exact absurd rfl hij
        | succ j => intro h; exact hd k hk (hG j (by simpa using hj) k h)
      | succ i => cases j with
        | zero => intro h; exact hd k h (hG i (by simpa using hi) k hk)
        | succ j => exact hGG i j (by simpa using hi) (by simpa using hj) (by omega) k hk
    · intro j hj
      cases j with
      | zero =>
        refine ⟨cs, h1, fun i hi => ?_⟩
        rw [Nat.zero_mul, Nat.zero_add, List.flatten_cons, List.getElem?_append_left (by omega)]
      | succ j =>
        obtain ⟨es, h3, h4⟩ := he j (by simpa using hj)
        refine ⟨es, h3, fun i hi => ?_⟩
        rw [List.flatten_cons, List.getElem?_append_right (by rw [hn, Nat.succ_mul]; omega), ← h4 i hi]
        congr 1
        rw [hn, Nat.succ_mul]; omega
  | _, [], _ :: _, h => h.elim
  | _, _ :: _, [], h => h.elim
theorem slice_of_ownL {w : World} {F : List Nat} {l : List α} {css : List (List Value)} {base g cap : Nat} {e : TypeId} (h : ownL c F w l css)
    (hr : w.ownsRow base e c.n (.slice (some ⟨g, 0, none⟩) l.length cap) l.length css.flatten) (hg : g ∉ F) (hm : l.length ≤ maxLen) :
    (cSlice c).own (g :: F) w l [.slice (some ⟨g, 0, none⟩) l.length cap] := by
  obtain ⟨G, hG, hGG, he⟩ := ownL_get h
  have hlt := (hr.lt g rfl).2
  have hcap : l.length ≤ cap := by
    rcases hr.2 with ⟨h0, _⟩ | ⟨g', cap', cur, e0, _, _, hnc, _⟩
    · cases h0
    · simp at e0; omega
  refine ⟨_, _, rfl, ⟨hm, hcap⟩, .inr ⟨g, 0, G, rfl, by simp, hlt, fun j hj k hk => ⟨List.mem_cons_of_mem _ (hG j hj k hk), fun e => hg (e ▸ hG j hj k hk)⟩, hGG, fun j hj => by rw [Nat.zero_add]; exact hr.frozenAt j, fun j hj => ?_⟩⟩
  obtain ⟨es, h1, h2⟩ := he j hj
  refine ⟨es, h1, fun i hi => ?_⟩
  rw [Nat.zero_add, hr.cellAt _ ?_, h2 i hi]
  calc j * c.n + i < j * c.n + c.n := by omega
    _ = (j + 1) * c.n := by rw [Nat.succ_mul]
    _ ≤ l.length * c.n := Nat.mul_le_mul_right _ hj
/-- The slice nil. -/
theorem Own.nil (B : Nat) (w : World) : Own (cSlice c) B w [] [.slice none 0 0] := ⟨[], ⟨none, 0, rfl, by simp, .inl ⟨rfl, rfl⟩⟩, by simp⟩
/-- A slice of the call's own, of data of the call's own. -/
theorem Own.slice {w : World} {F : List Nat} {l : List α} {css : List (List Value)} {base g cap : Nat} {e : TypeId} (h : ownL c F w l css)
    (hr : w.ownsRow base e c.n (.slice (some ⟨g, 0, none⟩) l.length cap) l.length css.flatten) (hF : ∀ k, k ∈ F → base ≤ k ∧ k < w.heap.size ∧ k ≠ g) (hm : l.length ≤ maxLen) :
    Own (cSlice c) base w l [.slice (some ⟨g, 0, none⟩) l.length cap] := by
  refine ⟨g :: F, slice_of_ownL h hr (fun hg => (hF g hg).2.2 rfl) hm, fun k hk => ?_⟩
  rcases List.mem_cons.1 hk with rfl | hk
  · exact hr.lt _ rfl
  · exact ⟨(hF k hk).1, (hF k hk).2.1⟩
/-- Data without memory behind them. -/
theorem ownL_flat (enc : α → List Value) (w : World) : ∀ l : List α, (∀ x, x ∈ l → c.own [] w x (enc x)) → ownL c [] w l (l.map enc)
  | [], _ => rfl
  | x :: l, h => ⟨[], [], rfl, h x (by simp), ownL_flat enc w l (fun y hy => h y (by simp [hy])), by simp⟩
theorem Own.setCell {w : World} {B : Nat} {x : α} {cs : List Value} (h : Own c B w x cs) {p : Addr} (hp : p.block < B) (u : Value) : Own c B (w.setCell p u) x cs := by
  obtain ⟨F, h1, h2⟩ := h
  exact ⟨F, c.keepO h1 (fun k hk => Below.heap_setCell _ _ _ _ (by have := (h2 k hk).1; omega)), fun k hk => ⟨(h2 k hk).1, by simpa [World.setCell] using (h2 k hk).2⟩⟩
/-- In a step that keeps what stands in blocks of the list. -/
theorem ownL_below {w w' : World} {F : List Nat} {l : List α} {css : List (List Value)} {C : Nat} (h : ownL c F w l css) (hb : Below C w w') (hF : ∀ k, k ∈ F → k < C) : ownL c F w' l css :=
  ownL_keep h (fun k hk => hb.block k (hF k hk))
end Go.Proofs.Ytpcjhnbifgjleaa


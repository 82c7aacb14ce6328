/- Small aids, over any program: bytes of a slice as a string, facts on lists of bytes. -/
import Derived.WalkKit
import Derived.WalkSpells
import Derived.WalkLawsBesides
import Derived.Handy
import Derived.Lib.Hide
namespace Go.Proofs.Ytbdichnloeijfaa
open Go.RowKit
set_option linter.unusedVariables false

/-- A list of bytes as Go's string. -/
def str (l : List UInt8) : ByteArray := ⟨l.toArray⟩
/-- A byte as Go's value. -/
def byteV (u : UInt8) : Value := .int .u8 (u.toNat : Int)
theorem str_append (a b : List UInt8) : str a ++ str b = str (a ++ b) := by
  apply ByteArray.ext; simp [str, ByteArray.data_append]
theorem str_size (l : List UInt8) : (str l).size = l.length := by simp [str, ByteArray.size]
theorem str_toList (l : List UInt8) : (str l).data.toList = l := rfl
theorem str_inj {a b : List UInt8} (h : str a = str b) : a = b := by
  have := congrArg (fun x : ByteArray => x.data.toList) h; simpa [str] using this
theorem str_of (s : ByteArray) : s = str s.data.toList := by apply ByteArray.ext; simp [str]
theorem strOf_nums (l : List UInt8) : strOfNums (l.map fun u => (u.toNat : Int)) = str l := by
  unfold strOfNums str
  congr 1
  simp [List.map_map, Function.comp_def]

section
variable {P : Program}
theorem run_conv_one (w : World) (src dst e : TypeId) (hs : P.underlying src = some (.slice e)) (he : P.underlying e = some (.int .u8)) (hd : P.underlying dst = some .string) (q : Nat) :
    (convert src dst (.slice (some ⟨w.heap.size, 0, none⟩) 1 1)).run P (w.alloc (.cells #[.int .u8 ((q : Int) % 256)] e)) = .ok (.string (str [UInt8.ofNat (q % 256)])) (w.alloc (.cells #[.int .u8 ((q : Int) % 256)] e)) := by
  have h := run_convert_bytes_arg (P := P) (w.alloc (.cells #[.int .u8 ((q : Int) % 256)] e)) src e hs he w.heap.size 0 1 1 [(q : Int) % 256] rfl (by
    intro i hi
    obtain rfl : i = 0 := by omega
    simp [World.cell?_alloc_at]) dst hd
  rw [h]
  congr 2

/-- The same, at whatever spelling of the byte. -/
theorem run_conv_byte (w : World) (src dst e : TypeId) (hs : P.underlying src = some (.slice e)) (he : P.underlying e = some (.int .u8)) (hd : P.underlying dst = some .string) (x : Int) (u : UInt8) (hx : x = (u.toNat : Int)) :
    (convert src dst (.slice (some ⟨w.heap.size, 0, none⟩) 1 1)).run P (w.alloc (.cells #[.int .u8 x] e)) = .ok (.string (str [u])) (w.alloc (.cells #[.int .u8 x] e)) := by
  have h := run_convert_bytes_arg (P := P) (w.alloc (.cells #[.int .u8 x] e)) src e hs he w.heap.size 0 1 1 [x] rfl (by
    intro i hi
    obtain rfl : i = 0 := by omega
    simp [World.cell?_alloc_at]) dst hd
  rw [h]
  congr 2
  unfold strOfNums str
  simp [hx]

theorem run_conv_own (w : World) (src dst e : TypeId) (hs : P.underlying src = some (.slice e)) (he : P.underlying e = some (.int .u8)) (hd : P.underlying dst = some .string) (base : Nat) (v : Value) (n : Nat) (l : List UInt8)
    (hown : w.ownsRow base e 1 v n (l.map byteV)) : (convert src dst v).run P w = .ok (.string (str l)) w := by
  have hn : l.length = n := by simpa using hown.1
  rcases hown.2 with ⟨rfl, hx⟩ | ⟨g, cap, cur, rfl, _, hg, hnc, hcm, hcs, htake⟩
  · have : l = [] := List.eq_nil_of_length_eq_zero (by omega)
    subst this
    rw [run_convert_bytes_nil w src e hs he 0 0 dst hd]
    rfl
  · have h := run_convert_bytes_arg (P := P) w src e hs he g 0 n cap (l.map fun u => (u.toNat : Int)) (by simpa using hn) (by
      intro i hi
      have := hown.cellAt i (by omega)
      rw [Nat.zero_add, this]
      have hil : i < l.length := by omega
      simp [List.getElem?_eq_getElem hil, List.getD, byteV]) dst hd
    rw [h, strOf_nums]
end

theorem i64_or_nat (a b : Nat) (ha : a < 9223372036854775808) (hb : b < 9223372036854775808) : bits .or .i64 (a : Int) (b : Int) = ((a ||| b : Nat) : Int) := by
  have hx : a ||| b < 2 ^ 63 := Nat.or_lt_two_pow (by omega) (by omega)
  show IntKind.i64.wrap ((BitVec.ofInt 64 (a : Int) ||| BitVec.ofInt 64 (b : Int)).toNat : Int) = _
  rw [BitVec.toNat_or, ofInt_u64 a (by omega), ofInt_u64 b (by omega), IntKind.wrap_i64]
  omega
theorem i64_and_nat (a b : Nat) (ha : a < 9223372036854775808) (hb : b < 9223372036854775808) : bits .and .i64 (a : Int) (b : Int) = ((a &&& b : Nat) : Int) := by
  have hx : a &&& b < 2 ^ 63 := Nat.and_lt_two_pow _ (by omega)
  show IntKind.i64.wrap ((BitVec.ofInt 64 (a : Int) &&& BitVec.ofInt 64 (b : Int)).toNat : Int) = _
  rw [BitVec.toNat_and, ofInt_u64 a (by omega), ofInt_u64 b (by omega), IntKind.wrap_i64]
  omega
/-- 'x | y' where y lies below the lowest bit of x that is set. -/
theorem i64_join (i a b : Nat) (hx : a % 2 ^ i = 0) (hy : b < 2 ^ i) (ha : a < 9223372036854775808) (hb : b < 9223372036854775808) : bits .or .i64 (a : Int) (b : Int) = ((a + b : Nat) : Int) := by
  rw [i64_or_nat a b ha hb, nat_join i a b hx hy]

theorem own_snoc {w : World} {base : Nat} {e : TypeId} {v : Value} {n : Nat} {l : List UInt8} {x : Int} (b : UInt8) (hx : x = (b.toNat : Int)) (h : w.ownsRow base e 1 v n (l.map byteV ++ [.int .u8 x])) : w.ownsRow base e 1 v n ((l ++ [b]).map byteV) := by
  rw [List.map_append]; subst hx; exact h
theorem own_len {w : World} {base : Nat} {e : TypeId} {v : Value} {n : Nat} {l : List UInt8} (h : w.ownsRow base e 1 v n (l.map byteV)) : l.length = n := by simpa using h.1
theorem one_oneCell (k : IntKind) (x : Int) : ∀ u ∈ [Value.int k x], u.oneCell' = true := by
  intro u hu; simp at hu; subst hu; rfl
theorem one_at (w : World) (v : Value) (e : TypeId) : ∀ j u, [v][j]? = some u → (w.alloc (.cells #[v] e)).cell? ((⟨w.heap.size, 0, none⟩ : Addr).add j) = some u := by
  intro j u hj
  match j, hj with
  | 0, hj => simp at hj; subst hj; simp [Addr.add, World.cell?_alloc_at]
end Go.Proofs.Ytbdichnloeijfaa


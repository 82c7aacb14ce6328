/- The model's draws: the cursor, one byte, a number below n. -/
import Derived.Test.YtdieggjnnlldeaaDoorRows
import Derived.Test.YtdieggjnnlldeaaDoorAid
import Derived.BigQuiet
import Derived.Deep.QuietTactic
namespace Go.Proofs.YtdieggjnnlldeaaDoor
open Go.RowKit
set_option linter.unusedVariables false
set_option maxRecDepth 100000

/-- The cursor: a block of its own that holds the code, the place and the hash. -/
def CurAt (B : Nat) (a : Option Addr) (len cap : Nat) (i : Nat) (h : Int) (w : World) : Prop :=
  w.heap[B]? = some (.cells #[.slice a len cap, .int .i64 i, .int .i64 h] 57 (0, 0))
/-- The code: cell j behind the address holds number j. -/
def CodeAt (a : Option Addr) (zs : List Int) (B : Nat) (w : World) : Prop :=
  ∀ j (hj : j < zs.length), ∃ b off, a = some ⟨b, off, none⟩ ∧ b ≠ B ∧ b < w.heap.size ∧ w.cell? ⟨b, off + j, none⟩ = some (.int .u8 zs[j]) ∧ 0 ≤ zs[j] ∧ zs[j] ≤ 255
/-- Of what was there only block B has turned. -/
structure OnlyB (B : Nat) (w w' : World) : Prop where
  os : w'.os = w.os
  tape : w'.tape = w.tape
  output : w'.output = w.output
  size : w.heap.size ≤ w'.heap.size
  block : ∀ k, k < w.heap.size → k ≠ B → w'.heap[k]? = w.heap[k]?
theorem OnlyB.refl (B : Nat) (w : World) : OnlyB B w w := ⟨rfl, rfl, rfl, Nat.le_refl _, fun _ _ _ => rfl⟩
theorem OnlyB.trans {B : Nat} {a b c : World} (h : OnlyB B a b) (k : OnlyB B b c) : OnlyB B a c :=
  ⟨k.os.trans h.os, k.tape.trans h.tape, k.output.trans h.output, Nat.le_trans h.size k.size, fun i hi hn => (k.block i (Nat.lt_of_lt_of_le hi h.size) hn).trans (h.block i hi hn)⟩
theorem OnlyB.drew {B : Nat} {a w : World} (h : OnlyB B a w) : OnlyB B a w.drew := ⟨h.os, h.tape, h.output, h.size, h.block⟩
theorem OnlyB.drewN {B : Nat} {a w : World} (h : OnlyB B a w) (n : Nat) : OnlyB B a (w.drewN n) := ⟨h.os, h.tape, h.output, h.size, h.block⟩
theorem OnlyB.setCell {B : Nat} {a w : World} (h : OnlyB B a w) (o : Nat) (u : Value) : OnlyB B a (w.setCell ⟨B, o, none⟩ u) :=
  h.trans ⟨rfl, rfl, rfl, by simp [World.setCell], fun k _ hn => Below.heap_setCell _ _ _ _ hn⟩
theorem OnlyB.below {B : Nat} {w w' : World} (h : OnlyB B w w') {N : Nat} (hN : N ≤ B) (hB : B < w.heap.size) : Below N w w' :=
  ⟨h.os, h.tape, h.output, h.size, fun k hk => h.block k (by omega) (by omega)⟩
theorem OnlyB.ofBelow {B : Nat} {w w' : World} (h : Below w.heap.size w w') : OnlyB B w w' := ⟨h.os, h.tape, h.output, h.size, fun k hk _ => h.block k hk⟩
theorem CodeAt.keep {a : Option Addr} {zs : List Int} {B : Nat} {w w' : World} (h : CodeAt a zs B w) (k : OnlyB B w w') : CodeAt a zs B w' := by
  intro j hj
  obtain ⟨b, off, ha, hb, hlt, hc, hr⟩ := h j hj
  exact ⟨b, off, ha, hb, Nat.lt_of_lt_of_le hlt k.size, (World.cell?_of_block (w := w) (a := ⟨b, off + j, none⟩) (k.block b hlt hb)).trans hc, hr⟩

theorem and255 (x : Int) : 0 ≤ bits BinOp.and IntKind.i64 x 255 ∧ bits BinOp.and IntKind.i64 x 255 ≤ 255 := by
  have e : bits BinOp.and IntKind.i64 x 255 = IntKind.i64.wrap ((BitVec.ofInt 64 x &&& BitVec.ofInt 64 255).toNat : Int) := rfl
  have h255 : (BitVec.ofInt 64 255).toNat = 255 := by decide
  have hle : (BitVec.ofInt 64 x &&& BitVec.ofInt 64 255).toNat ≤ 255 := by
    rw [BitVec.toNat_and, h255]; exact Nat.and_le_right
  rw [e, IntWalk.i64_in _ (by omega)]
  omega
def xOf (h : Int) : Int := bits BinOp.and IntKind.i64 (bits BinOp.xor IntKind.i64 (h / 8589934592) (h / 35184372088832)) 255
def hNext (h : Int) : Int := wrap64 (wrap64 (h * 6364136223846793005) + 1442695040888963407)

/-- One byte of the draw: the byte, the place and the hash behind it. -/
def nextB (zs : List Int) (i : Nat) (h : Int) : Int × Nat × Int :=
  if i < zs.length then (bits BinOp.and IntKind.i64 (xOf (hNext h) + zs.getD i 0) 255, i + 1, hNext h) else (xOf (hNext h), i, hNext h)
theorem nextB_range (zs : List Int) (i : Nat) (h : Int) : 0 ≤ (nextB zs i h).1 ∧ (nextB zs i h).1 ≤ 255 := by
  unfold nextB; split
  · exact and255 _
  · exact and255 _

set_option maxHeartbeats 1600000 in
theorem l1Byte_any (B : Nat) (a : Option Addr) (cap i : Nat) (h : Int) (zs : List Int) (w : World) (hi63 : zs.length ≤ 9223372036854775806) (hc : CurAt B a zs.length cap i h w) (hz : CodeAt a zs B w) :
    Calls Tryd.prog 35 #[.pointer (some ⟨B, 0, none⟩)] w fun e w' => e = .returned (.int .i64 (nextB zs i h).1) ∧ CurAt B a zs.length cap (nextB zs i h).2.1 (nextB zs i h).2.2 w' ∧ OnlyB B w w' := by
  have c0 : w.cell? ⟨B, 0, none⟩ = some (.slice a zs.length cap) := by rw [cell_of_row w B 0 _ _ _ hc]; rfl
  have c1 : w.cell? ⟨B, 1, none⟩ = some (.int .i64 i) := by rw [cell_of_row w B 1 _ _ _ hc]; rfl
  have c2 : w.cell? ⟨B, 2, none⟩ = some (.int .i64 h) := by rw [cell_of_row w B 2 _ _ _ hc]; rfl
  have f1 : w.frozen? ⟨B, 1, none⟩ = false := frozen_of_row w B 1 _ _ hc
  have f2 : w.frozen? ⟨B, 2, none⟩ = false := frozen_of_row w B 2 _ _ hc
  go_enter Tryd.func35, Tryd.ntmps35
  go_wp2
  generalize hh : wrap64 (wrap64 (h * 6364136223846793005) + 1442695040888963407) = h'
  generalize hw : w.setCell { block := B, off := 2 } (Value.int IntKind.i64 h') = w1
  have ho : OnlyB B w w1 := by rw [← hw]; exact (OnlyB.refl B w).setCell 2 _
  have hc1 : CurAt B a zs.length cap i h' w1 := by rw [← hw]; exact heap_setCell_same w B 2 _ _ _ hc
  have hz1 := hz.keep ho
  have Hh := Lib.hid hh
  clear hw hh c0 c1 c2 f1 f2 hc hz
  have c0 : w1.cell? ⟨B, 0, none⟩ = some (.slice a zs.length cap) := by rw [cell_of_row w1 B 0 _ _ _ hc1]; rfl
  have c1 : w1.cell? ⟨B, 1, none⟩ = some (.int .i64 i) := by rw [cell_of_row w1 B 1 _ _ _ hc1]; rfl
  have c2 : w1.cell? ⟨B, 2, none⟩ = some (.int .i64 h') := by rw [cell_of_row w1 B 2 _ _ _ hc1]; rfl
  have f1 : w1.frozen? ⟨B, 1, none⟩ = false := frozen_of_row w1 B 1 _ _ hc1
  go_quiet (fail)
  have hx := and255 (bits BinOp.xor IntKind.i64 (h' / 8589934592) (h' / 35184372088832))
  generalize hxx : bits BinOp.and IntKind.i64 (bits BinOp.xor IntKind.i64 (h' / 8589934592) (h' / 35184372088832)) 255 = x at hx ⊢
  have hh2 : hNext h = h' := Hh.out
  have hxx2 : xOf (hNext h) = x := by rw [hh2]; exact hxx
  have Hx := Lib.hid hxx2
  have Hh2 := Lib.hid hh2
  clear hxx hxx2 hh2 Hh
  obtain ⟨x0, x1⟩ := hx
  by_cases hlt : i < zs.length
  · have hlt' : (i : Int) < (zs.length : Int) := by omega
    obtain ⟨b, off, rfl, hbB, _, hcell, hz0, hz255⟩ := hz1 i hlt
    have hn : nextB zs i h = (bits BinOp.and IntKind.i64 (x + zs[i]) 255, i + 1, h') := by
      unfold nextB
      rw [if_pos hlt, Hx.out, Hh2.out]
      simp [List.getD, hlt]
    have Hn := Lib.hid hn
    clear hn hz1
    go_wp2
    go_quiet (fail)
    go_wp2
    go_quiet (fail)
    go_wp2
    go_ret
    exact ⟨by rw [Hn.out]; rfl, by rw [Hn.out]; exact heap_setCell_same _ B 1 _ _ _ hc1, (ho.drewN _).setCell 1 _⟩
  · have hn : nextB zs i h = (x, i, h') := by unfold nextB; rw [if_neg hlt, Hx.out, Hh2.out]
    have Hn := Lib.hid hn
    have hge : (zs.length : Int) ≤ i := by omega
    clear hn hz1 hlt
    go_wp2
    go_quiet (fail)
    go_wp2
    go_ret
    exact ⟨by rw [Hn.out]; rfl, by rw [Hn.out]; exact hc1, (ho.drewN _).drewN _⟩

/-- A number below n: the number, the place and the hash behind it. -/
def below (zs : List Int) (n : Int) (i : Nat) (h : Int) : Int × Nat × Int :=
  if n ≤ 0 then (0, i, h)
  else if n ≤ 256 then ((nextB zs i h).1 % n, (nextB zs i h).2)
  else
    let p := nextB zs i h
    let q := nextB zs p.2.1 p.2.2
    let r := nextB zs q.2.1 q.2.2
    let t := nextB zs r.2.1 r.2.2
    ((p.1 * 16777216 + q.1 * 65536 + r.1 * 256 + t.1) % n, t.2)
theorem below_range (zs : List Int) (n : Int) (i : Nat) (h : Int) : 0 ≤ (below zs n i h).1 ∧ (0 < n → (below zs n i h).1 < n) := by
  unfold below
  split
  · exact ⟨Int.le_refl _, fun h => by omega⟩
  · split
    · exact ⟨Int.emod_nonneg _ (by omega), fun h => Int.emod_lt_of_pos _ h⟩
    · exact ⟨Int.emod_nonneg _ (by omega), fun h => Int.emod_lt_of_pos _ h⟩

theorem below_big {zs : List Int} {n : Int} {i i1 i2 i3 i4 : Nat} {h h1 h2 h3 h4 x1 x2 x3 x4 : Int} (hn : ¬ n ≤ 256) (e1 : nextB zs i h = (x1, i1, h1)) (e2 : nextB zs i1 h1 = (x2, i2, h2)) (e3 : nextB zs i2 h2 = (x3, i3, h3)) (e4 : nextB zs i3 h3 = (x4, i4, h4)) :
    below zs n i h = ((x1 * 16777216 + x2 * 65536 + x3 * 256 + x4) % n, i4, h4) := by
  unfold below; rw [if_neg (by omega), if_neg hn]; simp only [e1, e2, e3, e4]

/-- What a draw leaves: its value, the cursor, the rest as it was. -/
def Drawn (B : Nat) (a : Option Addr) (zs : List Int) (cap : Nat) (r : Int × Nat × Int) (w : World) (e : Ending) (w' : World) : Prop :=
  e = .returned (.int .i64 r.1) ∧ CurAt B a zs.length cap r.2.1 r.2.2 w' ∧ OnlyB B w w'

set_option maxHeartbeats 1600000 in
theorem l1Below_any (B : Nat) (a : Option Addr) (cap i : Nat) (h : Int) (zs : List Int) (n : Int) (w : World) (hi63 : zs.length ≤ 9223372036854775806) (hc : CurAt B a zs.length cap i h w) (hz : CodeAt a zs B w) :
    Calls Tryd.prog 33 #[.pointer (some ⟨B, 0, none⟩), .int .i64 n] w (Drawn B a zs cap (below zs n i h) w) := by
  by_cases hn0 : n ≤ 0
  · have hr : below zs n i h = (0, i, h) := by unfold below; rw [if_pos hn0]
    rw [hr]
    go_enter Tryd.func33, Tryd.ntmps33
    go_wp2
    go_ret
    exact ⟨rfl, hc, OnlyB.refl _ _⟩
  · by_cases hn1 : n ≤ 256
    · have hr : below zs n i h = ((nextB zs i h).1 % n, (nextB zs i h).2) := by unfold below; rw [if_neg hn0, if_pos hn1]
      have hrg := nextB_range zs i h
      have hB := l1Byte_any B a cap i h zs w hi63 hc hz
      generalize nextB zs i h = p at hr hrg hB
      obtain ⟨x, i1, h1⟩ := p
      rw [hr]
      have HB := Lib.hid hB
      obtain ⟨x0, x1⟩ := hrg
      clear hr hB hc hz
      simp only at x0 x1
      go_enter Tryd.func33, Tryd.ntmps33
      go_wp2_with fail
      refine HB.out.mono ?_
      rintro e w1 ⟨rfl, hc1, ho1⟩
      go_wp2
      go_ret
      exact ⟨rfl, hc1, ho1⟩
    · obtain ⟨⟨x1, i1, h1⟩, e1⟩ : ∃ p, nextB zs i h = p := ⟨_, rfl⟩
      obtain ⟨⟨x2, i2, h2⟩, e2⟩ : ∃ p, nextB zs i1 h1 = p := ⟨_, rfl⟩
      obtain ⟨⟨x3, i3, h3⟩, e3⟩ : ∃ p, nextB zs i2 h2 = p := ⟨_, rfl⟩
      obtain ⟨⟨x4, i4, h4⟩, e4⟩ : ∃ p, nextB zs i3 h3 = p := ⟨_, rfl⟩
      have hr := below_big hn1 e1 e2 e3 e4
      have r1 := nextB_range zs i h
      have r2 := nextB_range zs i1 h1
      have r3 := nextB_range zs i2 h2
      have r4 := nextB_range zs i3 h3
      have B1 := l1Byte_any B a cap i h zs w hi63 hc hz
      have B2 := fun ww hcc hzz => l1Byte_any B a cap i1 h1 zs ww hi63 hcc hzz
      have B3 := fun ww hcc hzz => l1Byte_any B a cap i2 h2 zs ww hi63 hcc hzz
      have B4 := fun ww hcc hzz => l1Byte_any B a cap i3 h3 zs ww hi63 hcc hzz
      simp only [e1, e2, e3, e4] at r1 r2 r3 r4 B1 B2 B3 B4
      rw [hr]
      have HB1 := Lib.hid B1
      have HB2 := Lib.hid B2
      have HB3 := Lib.hid B3
      have HB4 := Lib.hid B4
      have Hz := Lib.hid hz
      obtain ⟨l1, u1⟩ := r1
      obtain ⟨l2, u2⟩ := r2
      obtain ⟨l3, u3⟩ := r3
      obtain ⟨l4, u4⟩ := r4
      clear hr B1 B2 B3 B4 hc hz e1 e2 e3 e4
      go_enter Tryd.func33, Tryd.ntmps33
      go_wp2_with fail
      refine HB1.out.mono ?_
      rintro e w1 ⟨rfl, hc1, ho1⟩
      have Hc1 := Lib.hid hc1
      clear hc1
      go_wp2_with fail
      refine (HB2.out w1 Hc1.out (Hz.out.keep ho1)).mono ?_
      rintro e w2 ⟨rfl, hc2, ho2⟩
      have Hc2 := Lib.hid hc2
      clear hc2
      go_wp2_with fail
      refine (HB3.out w2 Hc2.out ((Hz.out.keep ho1).keep ho2)).mono ?_
      rintro e w3 ⟨rfl, hc3, ho3⟩
      have Hc3 := Lib.hid hc3
      clear hc3
      go_wp2_with fail
      refine (HB4.out w3 Hc3.out (((Hz.out.keep ho1).keep ho2).keep ho3)).mono ?_
      rintro e w4 ⟨rfl, hc4, ho4⟩
      go_wp2
      go_ret
      exact ⟨rfl, hc4, ((ho1.trans ho2).trans ho3).trans ho4⟩

theorem l1Once_any (B : Nat) (a : Option Addr) (cap i : Nat) (h : Int) (zs : List Int) (n : Int) (w : World) (hi63 : zs.length ≤ 9223372036854775806) (hc : CurAt B a zs.length cap i h w) (hz : CodeAt a zs B w) :
    Calls Tryd.prog 31 #[.pointer (some ⟨B, 0, none⟩), .int .i64 n] w fun e w' => e = .returned (.bool ((below zs n i h).1 == 0)) ∧ CurAt B a zs.length cap (below zs n i h).2.1 (below zs n i h).2.2 w' ∧ OnlyB B w w' := by
  have hB := l1Below_any B a cap i h zs n w hi63 hc hz
  generalize below zs n i h = p at hB ⊢
  obtain ⟨x, i1, h1⟩ := p
  have HB := Lib.hid hB
  clear hB hc hz
  go_enter Tryd.func31, Tryd.ntmps31
  go_wp2_with fail
  refine HB.out.mono ?_
  rintro e w1 ⟨rfl, hc1, ho1⟩
  go_wp2
  all_goals
    go_ret
    exact ⟨by simp_all, hc1, ho1⟩
end Go.Proofs.YtdieggjnnlldeaaDoor

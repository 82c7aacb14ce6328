/- The model's draws: a spoilt text. -/
import Derived.Test.YtdieggjnnlldeaaDoorDraw3
namespace Go.Proofs.YtdieggjnnlldeaaDoor
open Go.RowKit
set_option linter.unusedVariables false
set_option maxRecDepth 100000

/-- Any int as a byte. -/
def toByte (y : Int) : UInt8 := UInt8.ofNat (y % 256).toNat
theorem toByte_wrap (y : Int) : IntKind.u8.wrap y = ((toByte y).toNat : Int) := by
  rw [IntKind.wrap_u8]; unfold toByte; simp; omega
/-- The model's draw of a text with one letter struck, put in, cut or turned. -/
def spoilD (zs : List Int) (l : List UInt8) (i : Nat) (h : Int) : List UInt8 × Nat × Int :=
  if l.length = 0 then textD zs 3 i h
  else
    let k := below zs l.length i h
    let t := below zs 4 k.2.1 k.2.2
    let n := k.1.toNat
    if t.1 = 0 then (l.take n ++ l.drop (n + 1), t.2)
    else if t.1 = 1 then
      let p := nextB zs t.2.1 t.2.2
      (l.take n ++ [toByte p.1] ++ l.drop n, p.2)
    else if t.1 = 2 then (l.take n, t.2)
    else
      let p := below zs 255 t.2.1 t.2.2
      (l.take n ++ [toByte (bits BinOp.xor IntKind.i64 ((l.getD n 0).toNat : Int) (1 + p.1))] ++ l.drop (n + 1), p.2)
theorem spoil_len (zs : List Int) (l : List UInt8) (i : Nat) (h : Int) : (spoilD zs l i h).1.length ≤ l.length + 1000 := by
  unfold spoilD
  split
  · have r := below_range zs 4 (below zs 4 i h).2.1 (below zs 4 i h).2.2
    have := r.2 (by omega)
    unfold textD
    simp only [letters_len]
    have e : (3 : Int) + 1 = 4 := rfl
    rw [e]
    omega
  · simp only
    split
    · simp; omega
    · split
      · simp; omega
      · split
        · simp; omega
        · simp; omega
theorem cut_str (l : List UInt8) (n m : Nat) : (str l).extract n m = str ((l.drop n).take (m - n)) := by
  apply ByteArray.ext
  apply Array.ext'
  rw [Lib.extract_data]
  rfl

theorem head_str (l : List UInt8) (k : Nat) : (str l).extract 0 k = str (l.take k) := by rw [cut_str]; simp
theorem tail_str (l : List UInt8) (k : Nat) : (str l).extract k (str l).size = str (l.drop k) := by
  rw [cut_str, str_size, List.take_of_length_le (by simp)]

set_option maxHeartbeats 3200000 in
theorem l1Spoil_any (B : Nat) (a : Option Addr) (cap i : Nat) (h : Int) (zs : List Int) (l : List UInt8) (w : World) (hi63 : zs.length ≤ 9223372036854775806) (hl : l.length ≤ 1000000) (hc : CurAt B a zs.length cap i h w) (hz : CodeAt a zs B w) (hB : B < w.heap.size) :
    Calls Tryd.prog 32 #[.pointer (some ⟨B, 0, none⟩), .string (str l)] w (DrawnT B a zs cap (spoilD zs l i h) w) := by
  have hsl := str_size l
  by_cases hl0 : l.length = 0
  · have hr : spoilD zs l i h = textD zs 3 i h := by unfold spoilD; rw [if_pos hl0]
    rw [hr]
    have K := Lib.hid (l1Text_any B a cap i h zs 3 w hi63 (by omega) (by omega) hc hz hB)
    have hE : (((str l).size : Int) == 0) = true := by rw [hsl]; simp [hl0]
    clear hr hc hz hl0 hsl
    go_enter Tryd.func32, Tryd.ntmps32
    go_wp2_with fail
    refine K.out.mono ?_
    rintro e w1 ⟨rfl, hc1, ho1⟩
    go_wp2
    go_ret
    exact ⟨rfl, hc1, ho1⟩
  · have hE : (((str l).size : Int) == 0) = false := by rw [hsl, beq_eq_false_iff_ne]; omega
    obtain ⟨⟨n, i1, h1⟩, e1⟩ : ∃ p, below zs l.length i h = p := ⟨_, rfl⟩
    have r1 := below_range zs l.length i h
    have B1 := l1Below_any B a cap i h zs l.length w hi63 hc hz
    simp only [e1] at r1 B1
    obtain ⟨k, rfl⟩ := Int.eq_ofNat_of_zero_le r1.1
    have hkl : k < l.length := by have := r1.2 (by omega); omega
    obtain ⟨⟨t, i2, h2⟩, e2⟩ : ∃ p, below zs 4 i1 h1 = p := ⟨_, rfl⟩
    have B2 := fun ww hcc hzz => l1Below_any B a cap i1 h1 zs 4 ww hi63 hcc hzz
    simp only [e2] at B2
    have K1 := Lib.hid B1
    have K2 := Lib.hid B2
    have Hz := Lib.hid hz
    have hks : k < (str l).size := by omega
    have hks1 : k + 1 ≤ (str l).size := by omega
    have hbig : (str l).size ≤ 1000000 := by omega
    have hks' : (k : Int) ≤ ((str l).size : Int) := by omega
    have hks1' : (k : Int) + 1 ≤ ((str l).size : Int) := by omega
    rw [← hsl] at K1
    have Hsl := Lib.hid hsl
    have Hl0 := Lib.hid hl0
    clear hc hz B1 B2 r1 hsl hl0
    by_cases ht0 : t = 0
    · subst ht0
      have hr : spoilD zs l i h = (l.take k ++ l.drop (k + 1), i2, h2) := by unfold spoilD; rw [if_neg Hl0.out]; simp [e1, e2]
      have Hr := Lib.hid hr
      rw [hr]
      clear hr e1 e2
      go_enter Tryd.func32, Tryd.ntmps32
      go_wp2_with fail
      refine K1.out.mono ?_
      rintro e w1 ⟨rfl, hc1, ho1⟩
      have Hc1 := Lib.hid hc1
      clear hc1
      go_wp2_with fail
      refine (K2.out w1 Hc1.out (Hz.out.keep ho1)).mono ?_
      rintro e w2 ⟨rfl, hc2, ho2⟩
      have Hc2 := Lib.hid hc2
      clear hc2
      go_wp2
      go_quiet (fail)
      go_wp2
      go_ret
      exact ⟨by rw [← str_append, ← head_str, ← tail_str]; rfl, Hc2.out, (ho1.trans ho2).drewN _⟩
    by_cases ht1 : t = 1
    · subst ht1
      obtain ⟨⟨p, i3, h3⟩, e3⟩ : ∃ p, nextB zs i2 h2 = p := ⟨_, rfl⟩
      have hr : spoilD zs l i h = (l.take k ++ [toByte p] ++ l.drop k, i3, h3) := by unfold spoilD; rw [if_neg Hl0.out]; simp [e1, e2, e3]
      have B3 := fun ww hcc hzz => l1Byte_any B a cap i2 h2 zs ww hi63 hcc hzz
      simp only [e3] at B3
      have K3 := Lib.hid B3
      rw [hr]
      have hw8 := toByte_wrap p
      obtain ⟨u, hu⟩ : ∃ u, u = toByte p := ⟨_, rfl⟩
      rw [← hu] at hw8 ⊢
      have hcv := fun ww => run_conv_byte (P := Tryd.prog) ww 22 9 5 Tryd.underlying22 Tryd.underlying5 Tryd.underlying9 (u.toNat : Int) u rfl
      have hz1 : (str [u]).size = 1 := str_size _
      have hsum : ((str l).extract 0 k).size + (str [u]).size < 1000003 := by rw [head_str, str_size, str_size]; simp; omega
      have hsum2 : ((str l).extract 0 k ++ str [u]).size + ((str l).extract k (str l).size).size < 1000003 := by rw [head_str, tail_str, str_append, str_size, str_size]; simp; omega
      clear hr e1 e2 e3 B3 hu hz1
      go_enter Tryd.func32, Tryd.ntmps32
      go_wp2_with fail
      refine K1.out.mono ?_
      rintro e w1 ⟨rfl, hc1, ho1⟩
      have Hc1 := Lib.hid hc1
      clear hc1
      go_wp2_with fail
      refine (K2.out w1 Hc1.out (Hz.out.keep ho1)).mono ?_
      rintro e w2 ⟨rfl, hc2, ho2⟩
      have Hc2 := Lib.hid hc2
      clear hc2
      go_wp2_with fail
      go_region_with (first | (go_at_call 35; refine (K3.out w2.drew Hc2.out (((Hz.out.keep ho1).keep ho2).keep ((OnlyB.refl B w2).drew))).mono ?_; rintro e w3 ⟨rfl, hc3, ho3⟩))
      have Hc3 := Lib.hid (hc3.of_block (Below.heap_alloc _ (.cells #[.int .u8 (u.toNat : Int)] 5) _ (by have h1 := ho1.size; have h2 := ho2.size; have h3 := ho3.size; simp at h3; omega)))
      have Ho3 := Lib.hid (((ho1.trans ho2).drew.trans ho3).alloc (.cells #[.int .u8 (u.toNat : Int)] 5))
      clear hc3 ho3
      go_wp2
      go_ret
      exact ⟨by rw [← str_append, ← str_append, ← head_str, ← tail_str]; rfl, Hc3.out, Ho3.out⟩
    by_cases ht2 : t = 2
    · subst ht2
      have hr : spoilD zs l i h = (l.take k, i2, h2) := by unfold spoilD; rw [if_neg Hl0.out]; simp [e1, e2]
      rw [hr]
      clear hr e1 e2
      go_enter Tryd.func32, Tryd.ntmps32
      go_wp2_with fail
      refine K1.out.mono ?_
      rintro e w1 ⟨rfl, hc1, ho1⟩
      have Hc1 := Lib.hid hc1
      clear hc1
      go_wp2_with fail
      refine (K2.out w1 Hc1.out (Hz.out.keep ho1)).mono ?_
      rintro e w2 ⟨rfl, hc2, ho2⟩
      have Hc2 := Lib.hid hc2
      clear hc2
      go_wp2
      go_ret
      exact ⟨by rw [← head_str]; rfl, Hc2.out, ho1.trans ho2⟩
    · obtain ⟨⟨p, i3, h3⟩, e3⟩ : ∃ p, below zs 255 i2 h2 = p := ⟨_, rfl⟩
      have hr : spoilD zs l i h = (l.take k ++ [toByte (bits BinOp.xor IntKind.i64 ((l.getD k 0).toNat : Int) (1 + p))] ++ l.drop (k + 1), i3, h3) := by
        unfold spoilD; rw [if_neg Hl0.out]; simp only [e1, e2, e3, Int.toNat_natCast, if_neg ht0, if_neg ht1, if_neg ht2]
      have B3 := fun ww hcc hzz => l1Below_any B a cap i2 h2 zs 255 ww hi63 hcc hzz
      have r3 := below_range zs 255 i2 h2
      simp only [e3] at B3 r3
      have K3 := Lib.hid B3
      rw [hr]
      have p0 := r3.1
      have p1 := r3.2 (by omega)
      have hw1 : IntKind.i64.wrap (1 + p) = 1 + p := IntWalk.i64_in _ (by omega)
      have hw4 : IntKind.i64.wrap ((k : Int) + 1) = (k : Int) + 1 := IntWalk.i64_in _ (by omega)
      have hw5 : (0 : Int) ≤ (k : Int) + 1 := by omega
      have hw6 : ((k : Int) + 1).toNat = k + 1 := by omega
      have hget : (str l)[k] = l.getD k 0 := by
        have : (str l)[k] = l[k] := rfl
        rw [this, List.getD, List.getElem?_eq_getElem hkl]; rfl
      have hby := (str l)[k].toNat_lt
      have hw2 : IntKind.i64.wrap ((str l)[k].toNat : Int) = (str l)[k].toNat := IntWalk.i64_in _ (by omega)
      have hw3 := toByte_wrap (bits BinOp.xor IntKind.i64 ((str l)[k].toNat : Int) (1 + p))
      obtain ⟨u, hu⟩ : ∃ u, u = toByte (bits BinOp.xor IntKind.i64 ((str l)[k].toNat : Int) (1 + p)) := ⟨_, rfl⟩
      rw [← hget, ← hu]
      rw [← hu] at hw3
      have t0 : (t == 0) = false := by rw [beq_eq_false_iff_ne]; exact ht0
      have t1 : (t == 1) = false := by rw [beq_eq_false_iff_ne]; exact ht1
      have t2 : (t == 2) = false := by rw [beq_eq_false_iff_ne]; exact ht2
      have hcv := fun ww => run_conv_byte (P := Tryd.prog) ww 22 9 5 Tryd.underlying22 Tryd.underlying5 Tryd.underlying9 (u.toNat : Int) u rfl
      have hsum : ((str l).extract 0 k).size + (str [u]).size < 1000003 := by rw [head_str, str_size, str_size]; simp; omega
      have hsum2 : ((str l).extract 0 k ++ str [u]).size + ((str l).extract (k + 1) (str l).size).size < 1000003 := by rw [head_str, tail_str, str_append, str_size, str_size]; simp; omega
      clear hr e1 e2 e3 B3 r3 hu ht0 ht1 ht2 hget
      go_enter Tryd.func32, Tryd.ntmps32
      go_wp2_with fail
      refine K1.out.mono ?_
      rintro e w1 ⟨rfl, hc1, ho1⟩
      have Hc1 := Lib.hid hc1
      clear hc1
      go_wp2_with fail
      refine (K2.out w1 Hc1.out (Hz.out.keep ho1)).mono ?_
      rintro e w2 ⟨rfl, hc2, ho2⟩
      have Hc2 := Lib.hid hc2
      clear hc2
      go_wp2_with fail
      go_region_with (first | (go_at_call 33; refine (K3.out w2.drew Hc2.out (((Hz.out.keep ho1).keep ho2).keep ((OnlyB.refl B w2).drew))).mono ?_; rintro e w3 ⟨rfl, hc3, ho3⟩))
      all_goals
        have Hc3 := Lib.hid (hc3.of_block (Below.heap_alloc _ (.cells #[.int .u8 (u.toNat : Int)] 5) _ (by have h1 := ho1.size; have h2 := ho2.size; have h3 := ho3.size; simp at h3; omega)))
        have Ho3 := Lib.hid (((ho1.trans ho2).drew.trans ho3).alloc (.cells #[.int .u8 (u.toNat : Int)] 5))
        clear hc3 ho3
        go_wp2
        go_ret
        exact ⟨by rw [← str_append, ← str_append, ← head_str, ← tail_str]; rfl, Hc3.out, Ho3.out⟩
end Go.Proofs.YtdieggjnnlldeaaDoor

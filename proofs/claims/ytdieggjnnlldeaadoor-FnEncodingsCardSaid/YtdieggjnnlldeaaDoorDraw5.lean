/- Chapter 1's drawn inputs, as functions of the code's bytes. -/
import Derived.Test.YtdieggjnnlldeaaDoorDraw4
namespace Go.Proofs.YtdieggjnnlldeaaDoor
open Go.RowKit
set_option linter.unusedVariables false
set_option maxRecDepth 100000

def h00 (zs : List Int) : Int := hash0 zs (min 4000 zs.length)
theorem drawEV_any (a : Option Addr) (cap : Nat) (zs : List Int) (w : World) (hl : zs.length ≤ 1048576) (hz : CodeIn a zs w) :
    Calls Tryd.prog 7 #[.slice a zs.length cap] w fun e w' => e = .returned (.int .i64 (numD zs 0 (h00 zs)).1) ∧ Below w.heap.size w w' := by
  have Hz := Lib.hid hz
  have K := Lib.hid (l1New_any a cap zs w hl hz)
  clear hz
  go_enter Tryd.func7, Tryd.ntmps7
  go_wp2_with fail
  refine K.out.mono ?_
  rintro e w1 ⟨rfl, hc1, hb1, hs1⟩
  have K2 := Lib.hid (l1Num_any w.heap.size a cap 0 _ zs w1 (by omega) hc1 (Hz.out.at hb1 (Nat.le_refl _)) hs1)
  clear hc1
  go_wp2_with fail
  refine K2.out.mono ?_
  rintro e w2 ⟨rfl, hc2, ho2⟩
  clear hc2
  go_wp2
  go_ret
  exact ⟨rfl, hb1.trans (ho2.below (Nat.le_refl _) hs1)⟩

theorem drawEH_any (a : Option Addr) (cap : Nat) (zs : List Int) (w : World) (hl : zs.length ≤ 1048576) (hz : CodeIn a zs w) :
    Calls Tryd.prog 8 #[.slice a zs.length cap] w fun e w' => e = .returned (.string (str (textD zs 40 0 (h00 zs)).1)) ∧ Below w.heap.size w w' := by
  have Hz := Lib.hid hz
  have K := Lib.hid (l1New_any a cap zs w hl hz)
  clear hz
  go_enter Tryd.func8, Tryd.ntmps8
  go_wp2_with fail
  refine K.out.mono ?_
  rintro e w1 ⟨rfl, hc1, hb1, hs1⟩
  have K2 := Lib.hid (l1Text_any w.heap.size a cap 0 _ zs 40 w1 (by omega) (by omega) (by omega) hc1 (Hz.out.at hb1 (Nat.le_refl _)) hs1)
  clear hc1
  go_wp2_with fail
  refine K2.out.mono ?_
  rintro e w2 ⟨rfl, hc2, ho2⟩
  clear hc2
  go_wp2
  go_ret
  exact ⟨rfl, hb1.trans (ho2.below (Nat.le_refl _) hs1)⟩

theorem textD_len (zs : List Int) (most : Int) (hm : 0 ≤ most) (i : Nat) (h : Int) : ((textD zs most i h).1.length : Int) ≤ most := by
  unfold textD
  simp only [letters_len]
  have r := below_range zs (most + 1) (below zs 4 i h).2.1 (below zs 4 i h).2.2
  have := r.2 (by omega)
  omega
theorem encV_len (n : Int) : (encV n).length ≤ 7 := by
  unfold encV
  split
  · rename_i h
    simp [inB] at h
    exact vB_le7 _ (by omega)
  · simp

/-- DrawDecodeVarint. -/
def dvD (zs : List Int) : List UInt8 :=
  let n := numD zs 0 (h00 zs)
  let t := textD zs 4 n.2.1 n.2.2
  let o := below zs 4 t.2.1 t.2.2
  if o.1 = 0 then (spoilD zs (encV n.1 ++ t.1) o.2.1 o.2.2).1 else encV n.1 ++ t.1
theorem dvD_len (zs : List Int) : (dvD zs).length ≤ 2000 := by
  have h1 := encV_len (numD zs 0 (h00 zs)).1
  have h2 := textD_len zs 4 (by omega) (numD zs 0 (h00 zs)).2.1 (numD zs 0 (h00 zs)).2.2
  unfold dvD
  simp only
  split
  · refine Nat.le_trans (spoil_len _ _ _ _) ?_
    rw [List.length_append]
    omega
  · rw [List.length_append]; omega

set_option maxHeartbeats 1600000 in
theorem drawDV_any (a : Option Addr) (cap : Nat) (zs : List Int) (w : World) (hl : zs.length ≤ 1048576) (hz : CodeIn a zs w) :
    Calls Tryd.prog 17 #[.slice a zs.length cap] w fun e w' => e = .returned (.string (str (dvD zs))) ∧ Below w.heap.size w w' := by
  obtain ⟨⟨n, i1, h1⟩, e1⟩ : ∃ p, numD zs 0 (h00 zs) = p := ⟨_, rfl⟩
  obtain ⟨⟨t, i2, h2⟩, e2⟩ : ∃ p, textD zs 4 i1 h1 = p := ⟨_, rfl⟩
  obtain ⟨⟨o, i3, h3⟩, e3⟩ : ∃ p, below zs 4 i2 h2 = p := ⟨_, rfl⟩
  have hr : dvD zs = if o = 0 then (spoilD zs (encV n ++ t) i3 h3).1 else encV n ++ t := by unfold dvD; simp only [e1, e2, e3]
  have ht := textD_len zs 4 (by omega) i1 h1
  rw [e2] at ht
  have hv := encV_len n
  have Hz := Lib.hid hz
  have K := Lib.hid (l1New_any a cap zs w hl hz)
  have Hr := Lib.hid hr
  have E1 := Lib.hid e1
  have E2 := Lib.hid e2
  have E3 := Lib.hid e3
  have hsum : (str (encV n)).size + (str t).size < 100 := by rw [str_size, str_size]; simp only at ht; omega
  have htl : t.length ≤ 4 := by simp only at ht; omega
  clear hz hr e1 e2 e3 ht
  go_enter Tryd.func17, Tryd.ntmps17
  go_wp2_with fail
  refine K.out.mono ?_
  rintro e w1 ⟨rfl, hc1, hb1, hs1⟩
  have K2 := l1Num_any w.heap.size a cap 0 _ zs w1 (by omega) hc1 (Hz.out.at hb1 (Nat.le_refl _)) hs1
  rw [show hash0 zs (min 4000 zs.length) = h00 zs from rfl, E1.out] at K2
  have HK2 := Lib.hid K2
  clear hc1 K2
  go_wp2_with fail
  refine HK2.out.mono ?_
  rintro e w2 ⟨rfl, hc2, ho2⟩
  have Hc2 := Lib.hid hc2
  have hb2 := hb1.trans (ho2.below (Nat.le_refl _) hs1)
  have hs2 : w.heap.size < w2.heap.size := Nat.lt_of_lt_of_le hs1 ho2.size
  clear hc2 ho2
  go_wp2_with fail
  refine (specEV _ _).mono ?_
  rintro e w3 ⟨rfl, hb3⟩
  have Hb3 := Lib.hid (hb2.trans (hb3.mono (Nat.le_of_lt hs2)))
  have hs3 : w.heap.size < w3.heap.size := Nat.lt_of_lt_of_le hs2 hb3.size
  have K4 := l1Text_any w.heap.size a cap i1 h1 zs 4 w3 (by omega) (by omega) (by omega) (Hc2.out.of_block (hb3.block _ hs2)) (Hz.out.at Hb3.out (Nat.le_refl _)) hs3
  rw [E2.out] at K4
  have HK4 := Lib.hid K4
  clear K4 hb3
  go_wp2_with fail
  refine HK4.out.mono ?_
  rintro e w4 ⟨rfl, hc4, ho4⟩
  have Hb4 := Lib.hid (Hb3.out.trans (ho4.below (Nat.le_refl _) hs3))
  have hs4 : w.heap.size < w4.heap.size := Nat.lt_of_lt_of_le hs3 ho4.size
  have K5 := l1Once_any w.heap.size a cap i2 h2 zs 4 w4 (by omega) hc4 (Hz.out.at Hb4.out (Nat.le_refl _))
  rw [E3.out] at K5
  have HK5 := Lib.hid K5
  clear K5 ho4 hc4
  go_wp2_with fail
  refine HK5.out.mono ?_
  rintro e w5 ⟨rfl, hc5, ho5⟩
  have Hb5 := Lib.hid (Hb4.out.trans (ho5.below (Nat.le_refl _) hs4))
  have hs5 : w.heap.size < w5.heap.size := Nat.lt_of_lt_of_le hs4 ho5.size
  have K6 := l1Spoil_any w.heap.size a cap i3 h3 zs (encV n ++ t) w5 (by omega) (by rw [List.length_append]; omega) hc5 (Hz.out.at Hb5.out (Nat.le_refl _)) hs5
  rw [← str_append] at K6
  have HK6 := Lib.hid K6
  clear K6 ho5 hc5
  by_cases ho : o = 0
  · have hE : (o == 0) = true := by rw [ho]; rfl
    have hfin : dvD zs = (spoilD zs (encV n ++ t) i3 h3).1 := by rw [Hr.out, if_pos ho]
    have Hfin := Lib.hid hfin
    clear hfin ho
    go_wp2_with fail
    refine HK6.out.mono ?_
    rintro e w6 ⟨rfl, hc6, ho6⟩
    clear hc6
    go_wp2
    go_ret
    exact ⟨by rw [Hfin.out]; rfl, Hb5.out.trans (ho6.below (Nat.le_refl _) hs5)⟩
  · have hE : (o == 0) = false := by rw [beq_eq_false_iff_ne]; exact ho
    have hfin : dvD zs = encV n ++ t := by rw [Hr.out, if_neg ho]
    have Hfin := Lib.hid hfin
    clear hfin ho
    go_wp2
    go_ret
    exact ⟨by rw [Hfin.out, ← str_append]; rfl, Hb5.out⟩
end Go.Proofs.YtdieggjnnlldeaaDoor

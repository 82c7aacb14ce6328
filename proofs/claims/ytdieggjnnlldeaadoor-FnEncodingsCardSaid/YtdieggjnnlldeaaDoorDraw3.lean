/- The model's draws: a number, a spoilt text; chapter 1's drawn inputs. -/
import Derived.Test.YtdieggjnnlldeaaDoorDraw2
import Derived.Test.YtdieggjnnlldeaaDoorNumSpecV
import Derived.Deep.RegionHeld3
namespace Go.Proofs.YtdieggjnnlldeaaDoor
open Go.RowKit
set_option linter.unusedVariables false
set_option maxRecDepth 100000

theorem l1PickInt_any (B : Nat) (a : Option Addr) (cap i : Nat) (h : Int) (zs : List Int) (g : Nat) (ns : List Int) (w : World) (hi63 : zs.length ≤ 9223372036854775806) (hc : CurAt B a zs.length cap i h w) (hz : CodeAt a zs B w)
    (hg : w.heap[g]? = some (.cells (ns.map (Value.int .i64)).toArray 3 (0, 0))) (hgB : g ≠ B) (hn0 : 0 < ns.length) (hn1 : ns.length ≤ 200) :
    Calls Tryd.prog 34 #[.pointer (some ⟨B, 0, none⟩), .slice (some ⟨g, 0, none⟩) ns.length ns.length] w (Drawn B a zs cap (ns.getD (below zs ns.length i h).1.toNat 0, (below zs ns.length i h).2) w) := by
  obtain ⟨⟨x, i1, h1⟩, e1⟩ : ∃ p, below zs ns.length i h = p := ⟨_, rfl⟩
  have r1 := below_range zs ns.length i h
  have B1 := l1Below_any B a cap i h zs ns.length w hi63 hc hz
  simp only [e1] at r1 B1 ⊢
  obtain ⟨m, rfl⟩ := Int.eq_ofNat_of_zero_le r1.1
  have hm : m < ns.length := by have := r1.2 (by omega); omega
  have hgl : g < w.heap.size := by
    rcases Nat.lt_or_ge g w.heap.size with h | h
    · exact h
    · rw [Array.getElem?_eq_none h] at hg; cases hg
  have HB := Lib.hid B1
  have Hg := Lib.hid hg
  clear B1 hc hz hg e1 r1
  go_enter Tryd.func34, Tryd.ntmps34
  go_wp2_with fail
  refine HB.out.mono ?_
  rintro e w1 ⟨rfl, hc1, ho1⟩
  have hg1 : w1.heap[g]? = some (.cells (ns.map (Value.int .i64)).toArray 3 (0, 0)) := (ho1.block g hgl hgB).trans Hg.out
  have hcell : w1.cell? ⟨g, m, none⟩ = some (.int .i64 (ns[m])) := by rw [cell_of_row w1 g m _ _ _ hg1]; simp [hm]
  have hE : ns.getD m 0 = ns[m] := by simp [List.getD, hm]
  have Hc1 := Lib.hid hc1
  have HE := Lib.hid hE
  clear hc1 hg1 hE
  go_wp2
  go_ret
  exact ⟨by rw [Int.toNat_natCast, HE.out]; rfl, Hc1.out, ho1⟩

def numTab : List Int := [-1, 0, 127, 128, 255, 256, 16383, 16384, 65535, 65536, 562949953421311, 562949953421312, 999999999, 1000000000, -999999999, 9223372036854775807, -9223372036854775808]
/-- The model's draw of a number. -/
def numD (zs : List Int) (i : Nat) (h : Int) : Int × Nat × Int :=
  let k := below zs 8 i h
  if k.1 = 0 then (numTab.getD (below zs 17 k.2.1 k.2.2).1.toNat 0, (below zs 17 k.2.1 k.2.2).2)
  else if k.1 = 1 then
    let p := below zs 1000000000 k.2.1 k.2.2
    let q := below zs 1000000000 p.2.1 p.2.2
    (p.1 * q.1, q.2)
  else if k.1 = 2 then (-(below zs 100000 k.2.1 k.2.2).1, (below zs 100000 k.2.1 k.2.2).2)
  else below zs 70000 k.2.1 k.2.2
theorem numTab_range : ∀ x ∈ numTab, -9223372036854775808 ≤ x ∧ x ≤ 9223372036854775807 := by decide
theorem numD_range (zs : List Int) (i : Nat) (h : Int) : -9223372036854775808 ≤ (numD zs i h).1 ∧ (numD zs i h).1 ≤ 9223372036854775807 := by
  unfold numD
  simp only
  split
  · have r := below_range zs 17 (below zs 8 i h).2.1 (below zs 8 i h).2.2
    obtain ⟨m, hm⟩ := Int.eq_ofNat_of_zero_le r.1
    have h2 := r.2 (by omega)
    rw [hm] at h2
    have hlt : m < numTab.length := by show m < 17; omega
    simp only [hm, Int.toNat_natCast, List.getD, List.getElem?_eq_getElem hlt, Option.getD_some]
    exact numTab_range _ (List.getElem_mem hlt)
  · split
    · have r1 := below_range zs 1000000000 (below zs 8 i h).2.1 (below zs 8 i h).2.2
      generalize below zs 1000000000 (below zs 8 i h).2.1 (below zs 8 i h).2.2 = p at r1 ⊢
      have r2 := below_range zs 1000000000 p.2.1 p.2.2
      generalize below zs 1000000000 p.2.1 p.2.2 = q at r2 ⊢
      have a := r1.2 (by omega)
      have b := r2.2 (by omega)
      have h0 := Int.mul_nonneg r1.1 r2.1
      have h1 : p.1 * q.1 ≤ 1000000000 * 1000000000 := Int.mul_le_mul (by omega) (by omega) r2.1 (by omega)
      simp only
      omega
    · split
      · have r := below_range zs 100000 (below zs 8 i h).2.1 (below zs 8 i h).2.2
        have := r.2 (by omega)
        simp only
        omega
      · have r := below_range zs 70000 (below zs 8 i h).2.1 (below zs 8 i h).2.2
        have := r.2 (by omega)
        omega

set_option maxHeartbeats 1600000 in
theorem l1Num_any (B : Nat) (a : Option Addr) (cap i : Nat) (h : Int) (zs : List Int) (w : World) (hi63 : zs.length ≤ 9223372036854775806) (hc : CurAt B a zs.length cap i h w) (hz : CodeAt a zs B w) (hB : B < w.heap.size) :
    Calls Tryd.prog 21 #[.pointer (some ⟨B, 0, none⟩)] w (Drawn B a zs cap (numD zs i h) w) := by
  obtain ⟨⟨x, i1, h1⟩, e1⟩ : ∃ p, below zs 8 i h = p := ⟨_, rfl⟩
  have r1 := below_range zs 8 i h
  have B1 := l1Below_any B a cap i h zs 8 w hi63 hc hz
  have BK := fun n ww hcc hzz => l1Below_any B a cap i1 h1 zs n ww hi63 hcc hzz
  simp only [e1] at r1 B1
  have H1 := Lib.hid B1
  have HK := Lib.hid BK
  have Hz := Lib.hid hz
  clear B1 BK hc hz
  by_cases hx0 : x = 0
  · subst hx0
    have hr : numD zs i h = (numTab.getD (below zs 17 i1 h1).1.toNat 0, (below zs 17 i1 h1).2) := by unfold numD; simp only [e1, if_true]
    rw [hr]
    clear hr e1 r1
    go_enter Tryd.func21, Tryd.ntmps21
    go_wp2_with fail
    refine H1.out.mono ?_
    rintro e w1 ⟨rfl, hc1, ho1⟩
    have Hc1 := Lib.hid hc1
    have hs1 := ho1.size
    clear hc1
    go_wp2_with fail
    refine (l1PickInt_any B a cap i1 h1 zs w1.heap.size numTab _ hi63 (Hc1.out.of_block (Below.heap_alloc _ _ _ (by omega))) ((Hz.out.keep ho1).keep ((OnlyB.refl B w1).alloc _)) (heap_alloc_new w1 _) (by omega) (by decide) (by decide)).mono ?_
    rintro e w2 ⟨rfl, hc2, ho2⟩
    have Hc2 := Lib.hid hc2
    clear hc2
    go_wp2
    go_ret
    exact ⟨rfl, Hc2.out, (ho1.alloc _).trans ho2⟩
  by_cases hx1 : x = 1
  · subst hx1
    obtain ⟨⟨p, i2, h2⟩, e2⟩ : ∃ p, below zs 1000000000 i1 h1 = p := ⟨_, rfl⟩
    obtain ⟨⟨q, i3, h3⟩, e3⟩ : ∃ p, below zs 1000000000 i2 h2 = p := ⟨_, rfl⟩
    have hr : numD zs i h = (p * q, i3, h3) := by unfold numD; simp [e1, e2, e3]
    have rp := below_range zs 1000000000 i1 h1
    have rq := below_range zs 1000000000 i2 h2
    simp only [e2, e3] at rp rq
    have p0 := rp.1
    have p1 := rp.2 (by omega)
    have q0 := rq.1
    have q1 := rq.2 (by omega)
    have hpq0 := Int.mul_nonneg p0 q0
    have hpq1 : p * q ≤ 1000000000 * 1000000000 := Int.mul_le_mul (by omega) (by omega) q0 (by omega)
    rw [hr]
    have K1 := Lib.hid (fun ww hcc hzz => by have := HK.out 1000000000 ww hcc hzz; rw [e2] at this; exact this : ∀ ww, CurAt B a zs.length cap i1 h1 ww → CodeAt a zs B ww → Calls Tryd.prog 33 #[.pointer (some ⟨B, 0, none⟩), .int .i64 1000000000] ww (Drawn B a zs cap (p, i2, h2) ww))
    have K2 := Lib.hid (fun ww hcc hzz => by have := l1Below_any B a cap i2 h2 zs 1000000000 ww hi63 hcc hzz; rw [e3] at this; exact this : ∀ ww, CurAt B a zs.length cap i2 h2 ww → CodeAt a zs B ww → Calls Tryd.prog 33 #[.pointer (some ⟨B, 0, none⟩), .int .i64 1000000000] ww (Drawn B a zs cap (q, i3, h3) ww))
    clear hr e1 e2 e3 r1 rp rq HK
    go_enter Tryd.func21, Tryd.ntmps21
    go_wp2_with fail
    refine H1.out.mono ?_
    rintro e w1 ⟨rfl, hc1, ho1⟩
    have Hc1 := Lib.hid hc1
    clear hc1
    go_wp2_with fail
    refine (K1.out w1 Hc1.out (Hz.out.keep ho1)).mono ?_
    rintro e w2 ⟨rfl, hc2, ho2⟩
    have Hc2 := Lib.hid hc2
    clear hc2
    go_wp2_with fail
    refine (K2.out w2 Hc2.out ((Hz.out.keep ho1).keep ho2)).mono ?_
    rintro e w3 ⟨rfl, hc3, ho3⟩
    have Hc3 := Lib.hid hc3
    clear hc3
    go_wp2
    go_ret
    exact ⟨rfl, Hc3.out, (ho1.trans ho2).trans ho3⟩
  by_cases hx2 : x = 2
  · subst hx2
    obtain ⟨⟨p, i2, h2⟩, e2⟩ : ∃ p, below zs 100000 i1 h1 = p := ⟨_, rfl⟩
    have hr : numD zs i h = (-p, i2, h2) := by unfold numD; simp [e1, e2]
    have rp := below_range zs 100000 i1 h1
    simp only [e2] at rp
    have p0 := rp.1
    have p1 := rp.2 (by omega)
    rw [hr]
    have K1 := Lib.hid (fun ww hcc hzz => by have := HK.out 100000 ww hcc hzz; rw [e2] at this; exact this : ∀ ww, CurAt B a zs.length cap i1 h1 ww → CodeAt a zs B ww → Calls Tryd.prog 33 #[.pointer (some ⟨B, 0, none⟩), .int .i64 100000] ww (Drawn B a zs cap (p, i2, h2) ww))
    clear hr e1 e2 r1 rp HK
    go_enter Tryd.func21, Tryd.ntmps21
    go_wp2_with fail
    refine H1.out.mono ?_
    rintro e w1 ⟨rfl, hc1, ho1⟩
    have Hc1 := Lib.hid hc1
    clear hc1
    go_wp2_with fail
    refine (K1.out w1 Hc1.out (Hz.out.keep ho1)).mono ?_
    rintro e w2 ⟨rfl, hc2, ho2⟩
    have Hc2 := Lib.hid hc2
    clear hc2
    go_wp2
    go_ret
    exact ⟨rfl, Hc2.out, ho1.trans ho2⟩
  · obtain ⟨⟨p, i2, h2⟩, e2⟩ : ∃ p, below zs 70000 i1 h1 = p := ⟨_, rfl⟩
    have hr : numD zs i h = (p, i2, h2) := by unfold numD; simp [e1, e2, hx0, hx1, hx2]
    have t0 : (x == 0) = false := by rw [beq_eq_false_iff_ne]; exact hx0
    have t1 : (x == 1) = false := by rw [beq_eq_false_iff_ne]; exact hx1
    have t2 : (x == 2) = false := by rw [beq_eq_false_iff_ne]; exact hx2
    rw [hr]
    have K1 := Lib.hid (fun ww hcc hzz => by have := HK.out 70000 ww hcc hzz; rw [e2] at this; exact this : ∀ ww, CurAt B a zs.length cap i1 h1 ww → CodeAt a zs B ww → Calls Tryd.prog 33 #[.pointer (some ⟨B, 0, none⟩), .int .i64 70000] ww (Drawn B a zs cap (p, i2, h2) ww))
    clear hr e1 e2 r1 HK hx0 hx1 hx2
    go_enter Tryd.func21, Tryd.ntmps21
    go_wp2_with fail
    refine H1.out.mono ?_
    rintro e w1 ⟨rfl, hc1, ho1⟩
    have Hc1 := Lib.hid hc1
    clear hc1
    go_wp2_with fail
    refine (K1.out w1 Hc1.out (Hz.out.keep ho1)).mono ?_
    rintro e w2 ⟨rfl, hc2, ho2⟩
    have Hc2 := Lib.hid hc2
    clear hc2
    go_wp2
    go_ret
    exact ⟨rfl, Hc2.out, ho1.trans ho2⟩
end Go.Proofs.YtdieggjnnlldeaaDoor

/- Chapters 5 and 7: bounds; CountRepairs, the model's and the program's. -/
import Derived.Test.YtjeenbjmhlbmfaaBlock7
namespace Go.Proofs.Ytjeenbjmhlbmfaa
open Go.RowKit
set_option linter.unusedVariables false
set_option maxRecDepth 100000

theorem sizesL_len (d : Dbs) : (sizesL d).length ≤ 14 := by unfold sizesL; rw [List.length_map]; exact blocksL_len d
theorem sizesL_bnd (d : Dbs) : (sizesL d).length ≤ 4611686018427000000 := Nat.le_trans (sizesL_len d) (by decide)
theorem blockL_len (d : Dbs) (i : Int) : (blockL d i).length ≤ 14 := by
  unfold blockL
  split
  · rename_i h
    simp only [Bool.and_eq_true] at h
    have h14 := dbValid_len h.1
    unfold ints blk
    rw [List.length_map]
    exact Nat.le_trans (List.length_filter_le _ _) (by simpa using h14)
  · simp
theorem blockL_bnd (d : Dbs) (i : Int) : (blockL d i).length ≤ 4611686018427000000 := Nat.le_trans (blockL_len d i) (by decide)
/-- The product of the first k numbers. -/
def prodP (l : List Int) (k : Nat) : Int := (l.take k).foldl (· * ·) 1
theorem prodP_succ (l : List Int) (k : Nat) (hk : k < l.length) : prodP l (k + 1) = prodP l k * l[k] := by
  unfold prodP
  rw [List.take_succ_eq_append_getElem hk, List.foldl_append]; rfl
theorem prodP_le (l : List Int) (h : ∀ x, x ∈ l → 0 ≤ x ∧ x ≤ 14) : ∀ k, k ≤ l.length → 0 ≤ prodP l k ∧ prodP l k ≤ ((14 ^ k : Nat) : Int)
  | 0, _ => by simp [prodP]
  | k + 1, hk => by
    have ih := prodP_le l h k (by omega)
    have hx := h l[k] (List.getElem_mem (by omega))
    rw [prodP_succ l k (by omega)]
    refine ⟨Int.mul_nonneg ih.1 hx.1, ?_⟩
    have h1 : prodP l k * l[k] ≤ prodP l k * 14 := Int.mul_le_mul_of_nonneg_left hx.2 ih.1
    have h2 : prodP l k * 14 ≤ ((14 ^ k : Nat) : Int) * 14 := Int.mul_le_mul_of_nonneg_right ih.2 (by decide)
    have h3 : ((14 ^ (k + 1) : Nat) : Int) = ((14 ^ k : Nat) : Int) * 14 := by rw [Nat.pow_succ, Int.natCast_mul]; rfl
    omega
theorem prodP_small (l : List Int) (h : ∀ x, x ∈ l → 0 ≤ x ∧ x ≤ 14) (k : Nat) (hk : k ≤ l.length) (hl : l.length ≤ 14) : 0 ≤ prodP l k ∧ prodP l k ≤ 11112006825558016 := by
  have h1 := prodP_le l h k hk
  have h2 : 14 ^ k ≤ 14 ^ 14 := Nat.pow_le_pow_right (by decide) (by omega)
  have h3 : (14 : Nat) ^ 14 = 11112006825558016 := by decide
  omega
theorem sizesL_in (d : Dbs) : ∀ x, x ∈ sizesL d → 0 ≤ x ∧ x ≤ 14 := by
  intro x hx
  obtain ⟨b, hb, rfl⟩ := List.mem_map.1 hx
  have := blocksL_each d b hb
  omega
/-- The number of repairs. -/
def countL (d : Dbs) : Int := if validDb d then prodP (sizesL d) (sizesL d).length else 0

set_option maxHeartbeats 3200000 in
theorem implCountRepairs_c {a0 a1 : Option Addr} {cap0 cap1 : Nat} {x : Dbs} {w : World} (h : At cDbs w x [.slice a0 x.rels.length cap0, .slice a1 x.facts.length cap1]) :
    Calls Try.prog 48 #[.agg #[.slice a0 x.rels.length cap0, .slice a1 x.facts.length cap1]] w fun e w' => e = .returned (.int .i64 (countL x)) ∧ Below w.heap.size w w' := by
  have H1 : Hid (∀ ww, Below w.heap.size w ww → Calls Try.prog 81 #[.agg #[.slice a0 x.rels.length cap0, .slice a1 x.facts.length cap1]] ww fun e w' => e = .returned (.bool (validDb x)) ∧ Below ww.heap.size ww w') :=
    fun ww hb => implIsValidDatabase_c (At.below h hb (Nat.le_refl _))
  have H2 : Hid (∀ ww, Below w.heap.size w ww → Calls Try.prog 40 #[.agg #[.slice a0 x.rels.length cap0, .slice a1 x.facts.length cap1]] ww fun e w' => (∃ a cap, e = .returned (.slice a (sizesL x).length cap) ∧ Own (cSlice cInt) ww.heap.size w' (sizesL x) [.slice a (sizesL x).length cap]) ∧ Below ww.heap.size ww w') :=
    fun ww hb => implBlockSizes_c (At.below h hb (Nat.le_refl _))
  clear h
  unfold countL
  have hl := sizesL_len x
  have Hsm := Lib.hid (fun k hk => prodP_small (sizesL x) (sizesL_in x) k hk hl)
  generalize sizesL x = S at *
  generalize validDb x = V at *
  obtain ⟨N, hN⟩ : ∃ N, S.length = N := ⟨_, rfl⟩
  have HN := Lib.hid hN
  rw [hN] at H2 hl ⊢
  clear hN
  generalize x.rels.length = nr at *
  generalize x.facts.length = n at *
  obtain ⟨wx, hwx⟩ : ∃ wx, wx = w.alloc (Obj.cells #[.slice a0 nr cap0, .slice a1 n cap1] 47) := ⟨_, rfl⟩
  have hb0 : Below w.heap.size w wx := by rw [hwx]; go_grown
  have p0 : wx.cell? ⟨w.heap.size, 0, none⟩ = some (.slice a0 nr cap0) := by rw [hwx]; go_simp
  have p1 : wx.cell? ⟨w.heap.size, 1, none⟩ = some (.slice a1 n cap1) := by rw [hwx]; go_simp
  have Hwx := Lib.hid hwx
  clear hwx
  cases V with
  | false =>
    rw [if_neg (by decide)]
    clear H2 Hsm
    go_enter Try.func48, Try.ntmps48
    go_wp2_with fail
    rw [← Hwx.out]
    clear Hwx
    refine (H1.out _ hb0).mono ?_
    rintro e w1 ⟨rfl, hb1⟩
    go_wp2
    go_ret
    exact ⟨rfl, hb0.trans (hb1.mono hb0.size)⟩
  | true =>
    rw [if_pos rfl]
    go_enter Try.func48, Try.ntmps48
    go_wp2_with fail
    rw [← Hwx.out]
    clear Hwx
    refine (H1.out _ hb0).mono ?_
    rintro e w1 ⟨rfl, hb1⟩
    have hbb : Below w.heap.size w w1 := hb0.trans (hb1.mono hb0.size)
    replace p0 := cell_next p0 hb1
    replace p1 := cell_next p1 hb1
    clear hb0 hb1 H1
    go_wp2_with fail
    refine (H2.out _ hbb).mono ?_
    rintro e w2 ⟨⟨sa, sc, rfl, ho⟩, hb2⟩
    have hbw : Below w.heap.size w w2 := hbb.trans (hb2.mono hbb.size)
    have hat := ho.at
    have HB : Hid (∀ W', Below w2.heap.size w2 W' → ∀ j (hj : j < S.length), _) := fun W' hb j hj => ints_at (Cod.ok_below hat hb) j hj
    clear ho hat hb2 hbb H2 p0 p1
    go_wp2
    go_loopw [3, 12] (fun cv kv wr => ∃ (k : Nat), k ≤ N ∧ kv = .int .i64 k ∧ cv = .int .i64 (prodP S k) ∧ Below w2.heap.size w2 wr) (fun _ kv _ => N - (intOf kv).toNat)
    case atStart => exact ⟨0, by omega, by go_num, rfl, Below.refl _ _⟩
    case round =>
      obtain ⟨k, hk, rfl, rfl, hbx⟩ := hrel
      have hb1 : Below w.heap.size w wr := hbw.trans (hbx.mono hbw.size)
      by_cases hlt : k < N
      · have hkl : k < S.length := by rw [HN.out]; exact hlt
        obtain ⟨b, off, rfl, hbB, c0⟩ := HB.out _ hbx k hkl
        have Hs := Lib.hid (prodP_succ S k hkl)
        have hc' := Hsm.out (k + 1) hkl
        generalize hcc : prodP S k = c at *
        clear hcc
        generalize S[k] = s at *
        obtain ⟨m, hm⟩ : ∃ m, c * s = m := ⟨_, rfl⟩
        have Hs2 : Hid (prodP S (k + 1) = m) := Hs.out.trans hm
        have hw2 : wrap64 (c * s) = m := by
          rw [Hs.out, hm] at hc'
          rw [hm]
          exact IntWalk.wrap64_in _ ⟨by omega, by omega⟩
        clear hc' hm Hs
        have j1 : (k : Int) < (N : Int) := by omega
        go_wp2
        go_roundw
        case rel => exact ⟨k + 1, by omega, by go_num, by rw [Hs2.out, hw2], hbx⟩
        case measure => simp [intOf]; omega
      · obtain rfl : k = N := by omega
        go_wp2
        go_ret
        exact ⟨rfl, hb1⟩

set_option maxHeartbeats 3200000 in
theorem specCountRepairs_c {a0 a1 : Option Addr} {cap0 cap1 : Nat} {x : Dbs} {w : World} (h : At cDbs w x [.slice a0 x.rels.length cap0, .slice a1 x.facts.length cap1]) :
    Calls Try.prog 47 #[.agg #[.slice a0 x.rels.length cap0, .slice a1 x.facts.length cap1]] w fun e w' => e = .returned (.int .i64 (countL x)) ∧ Below w.heap.size w w' := by
  have H1 : Hid (∀ ww, Below w.heap.size w ww → Calls Try.prog 80 #[.agg #[.slice a0 x.rels.length cap0, .slice a1 x.facts.length cap1]] ww fun e w' => e = .returned (.bool (validDb x)) ∧ Below ww.heap.size ww w') :=
    fun ww hb => specIsValidDatabase_c (At.below h hb (Nat.le_refl _))
  have H2 : Hid (∀ ww, Below w.heap.size w ww → Calls Try.prog 39 #[.agg #[.slice a0 x.rels.length cap0, .slice a1 x.facts.length cap1]] ww fun e w' => (∃ a cap, e = .returned (.slice a (sizesL x).length cap) ∧ Own (cSlice cInt) ww.heap.size w' (sizesL x) [.slice a (sizesL x).length cap]) ∧ Below ww.heap.size ww w') :=
    fun ww hb => specBlockSizes_c (At.below h hb (Nat.le_refl _))
  clear h
  unfold countL
  have hl := sizesL_len x
  have Hsm := Lib.hid (fun k hk => prodP_small (sizesL x) (sizesL_in x) k hk hl)
  generalize sizesL x = S at *
  generalize validDb x = V at *
  obtain ⟨N, hN⟩ : ∃ N, S.length = N := ⟨_, rfl⟩
  have HN := Lib.hid hN
  rw [hN] at H2 hl ⊢
  clear hN
  generalize x.rels.length = nr at *
  generalize x.facts.length = n at *
  obtain ⟨wx, hwx⟩ : ∃ wx, wx = w.alloc (Obj.cells #[.slice a0 nr cap0, .slice a1 n cap1] 47) := ⟨_, rfl⟩
  have hb0 : Below w.heap.size w wx := by rw [hwx]; go_grown
  have p0 : wx.cell? ⟨w.heap.size, 0, none⟩ = some (.slice a0 nr cap0) := by rw [hwx]; go_simp
  have p1 : wx.cell? ⟨w.heap.size, 1, none⟩ = some (.slice a1 n cap1) := by rw [hwx]; go_simp
  have Hwx := Lib.hid hwx
  clear hwx
  cases V with
  | false =>
    rw [if_neg (by decide)]
    clear H2 Hsm
    go_enter Try.func47, Try.ntmps47
    go_wp2_with fail
    rw [← Hwx.out]
    clear Hwx
    refine (H1.out _ hb0).mono ?_
    rintro e w1 ⟨rfl, hb1⟩
    go_wp2
    go_ret
    exact ⟨rfl, hb0.trans (hb1.mono hb0.size)⟩
  | true =>
    rw [if_pos rfl]
    go_enter Try.func47, Try.ntmps47
    go_wp2_with fail
    rw [← Hwx.out]
    clear Hwx
    refine (H1.out _ hb0).mono ?_
    rintro e w1 ⟨rfl, hb1⟩
    have hbb : Below w.heap.size w w1 := hb0.trans (hb1.mono hb0.size)
    replace p0 := cell_next p0 hb1
    replace p1 := cell_next p1 hb1
    clear hb0 hb1 H1
    go_wp2_with fail
    refine (H2.out _ hbb).mono ?_
    rintro e w2 ⟨⟨sa, sc, rfl, ho⟩, hb2⟩
    have hbw : Below w.heap.size w w2 := hbb.trans (hb2.mono hbb.size)
    have hat := ho.at
    have HB : Hid (∀ W', Below w2.heap.size w2 W' → ∀ j (hj : j < S.length), _) := fun W' hb j hj => ints_at (Cod.ok_below hat hb) j hj
    clear ho hat hb2 hbb H2 p0 p1
    go_wp2
    go_loopw [3, 5] (fun cv kv wr => ∃ (k : Nat), k ≤ N ∧ kv = .int .i64 k ∧ cv = .int .i64 (prodP S k) ∧ Below w2.heap.size w2 wr) (fun _ kv _ => N - (intOf kv).toNat)
    case atStart => exact ⟨0, by omega, by go_num, rfl, Below.refl _ _⟩
    case round =>
      obtain ⟨k, hk, rfl, rfl, hbx⟩ := hrel
      have hb1 : Below w.heap.size w wr := hbw.trans (hbx.mono hbw.size)
      by_cases hlt : k < N
      · have hkl : k < S.length := by rw [HN.out]; exact hlt
        obtain ⟨b, off, rfl, hbB, c0⟩ := HB.out _ hbx k hkl
        have Hs := Lib.hid (prodP_succ S k hkl)
        have hc' := Hsm.out (k + 1) hkl
        generalize hcc : prodP S k = c at *
        clear hcc
        generalize S[k] = s at *
        obtain ⟨m, hm⟩ : ∃ m, c * s = m := ⟨_, rfl⟩
        have Hs2 : Hid (prodP S (k + 1) = m) := Hs.out.trans hm
        have hw2 : wrap64 (c * s) = m := by
          rw [Hs.out, hm] at hc'
          rw [hm]
          exact IntWalk.wrap64_in _ ⟨by omega, by omega⟩
        clear hc' hm Hs
        have j1 : (k : Int) < (N : Int) := by omega
        go_wp2
        go_roundw
        case rel => exact ⟨k + 1, by omega, by go_num, by rw [Hs2.out, hw2], hbx⟩
        case measure => simp [intOf]; omega
      · obtain rfl : k = N := by omega
        go_wp2
        go_ret
        exact ⟨rfl, hb1⟩

end Go.Proofs.Ytjeenbjmhlbmfaa


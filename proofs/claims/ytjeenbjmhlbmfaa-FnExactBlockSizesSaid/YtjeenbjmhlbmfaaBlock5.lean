/- Chapter 5: ConflictingFacts, the model's and the program's. -/
import Derived.Test.YtjeenbjmhlbmfaaBlock3
namespace Go.Proofs.Ytjeenbjmhlbmfaa
open Go.RowKit
set_option linter.unusedVariables false
set_option maxRecDepth 100000

/-- What stands of the facts in conflict behind k rounds. -/
def confPart (d : Dbs) (k : Nat) : List Int := ints ((List.range k).filter fun i => decide (1 < (blk (keyR d) d.facts.length i).length))
theorem confPart_succ (d : Dbs) (k : Nat) : confPart d (k + 1) = if decide (1 < (blk (keyR d) d.facts.length k).length) then confPart d k ++ [(k : Int)] else confPart d k := by
  unfold confPart
  rw [List.range_succ, List.filter_append]
  cases h : decide (1 < (blk (keyR d) d.facts.length k).length)
  · simp at h; simp [h]
  · simp at h; simp [h, ints]
theorem confPart_len (d : Dbs) (k : Nat) : (confPart d k).length ≤ k := by
  unfold confPart ints
  rw [List.length_map]
  exact Nat.le_trans (List.length_filter_le _ _) (by simp)
theorem confPart_inR (d : Dbs) (k : Nat) (hk : k ≤ 14) : ∀ x, x ∈ confPart d k → inR x :=
  ints_inR fun x hx => by
    have := List.mem_range.1 (List.mem_filter.1 hx).1
    omega
/-- The facts in conflict. -/
def confL (d : Dbs) : List Int := if validDb d then confPart d d.facts.length else []

set_option maxHeartbeats 3200000 in
theorem specConflictingFacts_c {a0 a1 : Option Addr} {cap0 cap1 : Nat} {x : Dbs} {w : World} (h : At cDbs w x [.slice a0 x.rels.length cap0, .slice a1 x.facts.length cap1]) :
    Calls Try.prog 43 #[.agg #[.slice a0 x.rels.length cap0, .slice a1 x.facts.length cap1]] w fun e w' => (∃ a cap, e = .returned (.slice a (confL x).length cap) ∧ Own (cSlice cInt) w.heap.size w' (confL x) [.slice a (confL x).length cap]) ∧ Below w.heap.size w w' := by
  have hx0 := (cDbs_inv h).1
  have hx1 := (cDbs_inv h).2
  have hm := (slice_len hx1).2
  unfold maxLen at hm
  have H1 : Hid (∀ ww, Below w.heap.size w ww → Calls Try.prog 80 #[.agg #[.slice a0 x.rels.length cap0, .slice a1 x.facts.length cap1]] ww fun e w' => e = .returned (.bool (validDb x)) ∧ Below ww.heap.size ww w') :=
    fun ww hb => specIsValidDatabase_c (At.below h hb (Nat.le_refl _))
  have H2 : Hid (∀ ww, Below w.heap.size w ww → ∀ i : Int, Calls Try.prog 41 #[.agg #[.slice a0 x.rels.length cap0, .slice a1 x.facts.length cap1], .int .i64 i] ww fun e w' => (∃ a cap, e = .returned (.slice a (blockL x i).length cap) ∧ Own (cSlice cInt) ww.heap.size w' (blockL x i) [.slice a (blockL x i).length cap]) ∧ Below ww.heap.size ww w') :=
    fun ww hb i => specBlockOf_c (At.below h hb (Nat.le_refl _))
  have HB : Hid (validDb x = true → ∀ k, k < x.facts.length → blockL x (k : Int) = ints (blk (keyR x) x.facts.length k)) := by
    intro hv k hk
    unfold blockL
    rw [hv, show inB (k : Int) 0 ((x.facts.length : Int) - 1) = true by unfold inB; simp; omega]
    rfl
  clear h hx0 hx1
  unfold confL
  obtain ⟨i0, hi, hz0, hz1, hz2⟩ := info_parts Try.infoI
  by_cases hG : validDb x = true
  · rw [if_pos hG]
    rw [hG] at H1
    have h14 := dbValid_len hG
    have hbl := HB.out hG
    have Hbl := Lib.hid hbl
    clear HB hbl hG
    obtain ⟨n, hn⟩ : ∃ n : Nat, x.facts.length = n := ⟨_, rfl⟩
    obtain ⟨nr, hnr⟩ : ∃ n : Nat, x.rels.length = n := ⟨_, rfl⟩
    have HST : Hid (∀ k, confPart x (k + 1) = if decide (1 < (blk (keyR x) n k).length) then confPart x k ++ [(k : Int)] else confPart x k) := by
      intro k
      have := confPart_succ x k
      rw [hn] at this
      exact this
    rw [hn] at hm h14 H1 H2 Hbl ⊢
    rw [hnr] at H1 H2 ⊢
    clear hn hnr
    obtain ⟨wx, hwx⟩ : ∃ wx, wx = w.alloc (Obj.cells #[.slice a0 nr cap0, .slice a1 n cap1] 47) := ⟨_, rfl⟩
    have hb0 : Below w.heap.size w wx := by rw [hwx]; go_grown
    have hws : wx.heap.size = w.heap.size + 1 := by rw [hwx]; simp
    have p0 : wx.cell? ⟨w.heap.size, 0, none⟩ = some (.slice a0 nr cap0) := by rw [hwx]; go_simp
    have p1 : wx.cell? ⟨w.heap.size, 1, none⟩ = some (.slice a1 n cap1) := by rw [hwx]; go_simp
    have hown0 : (wx.alloc (Obj.cells #[] 3)).ownsRow wx.heap.size 3 1 (.slice (some ⟨w.heap.size + 1, 0, none⟩) 0 0) (confPart x 0).length ((confPart x 0).map iv) := by
      rw [← hws]
      exact row_empty wx 3 wx.heap.size (Nat.le_refl _)
    have hbe : Below wx.heap.size wx (wx.alloc (Obj.cells #[] 3)) := by go_grown
    have Hws := Lib.hid hws
    have Hwx := Lib.hid hwx
    clear hwx hws
    go_enter Try.func43, Try.ntmps43
    go_wp2_with fail
    rw [← Hwx.out]
    clear Hwx
    go_loopw [3, 4] (fun ov kv wr => ∃ (k : Nat) (o : Value), o = ov ∧ k ≤ n ∧ kv = .int .i64 k ∧ wr.ownsRow wx.heap.size 3 1 o (confPart x k).length ((confPart x k).map iv) ∧ Below wx.heap.size wx wr) (fun _ kv _ => n - (intOf kv).toNat)
    case atStart => exact ⟨0, _, rfl, by omega, by go_num, hown0, hbe⟩
    case round =>
      clear hown0 hbe
      obtain ⟨k, o, rfl, hk, rfl, hown, hbx⟩ := hrel
      have q0 := (hbx.cell (World.block_lt_of_cell? wx _ p0)).trans p0
      have q1 := (hbx.cell (World.block_lt_of_cell? wx _ p1)).trans p1
      have hb1 : Below w.heap.size w wr := hb0.trans (hbx.mono hb0.size)
      clear p0 p1
      by_cases hlt : k < n
      · have j1 : (k : Int) < (n : Int) := by omega
        go_wp2_with fail
        refine (H1.out _ hb1).mono ?_
        rintro e w2 ⟨rfl, hb2⟩
        have hb3 : Below w.heap.size w w2 := hb1.trans (hb2.mono hb1.size)
        have hby : Below wx.heap.size wx w2 := hbx.trans (hb2.mono hbx.size)
        replace q0 := cell_next q0 hb2
        replace q1 := cell_next q1 hb2
        replace hown := ownsRow_below hown hb2
        clear hb1 hb2 hbx
        have Hc : Hid (Calls Try.prog 41 #[.agg #[.slice a0 nr cap0, .slice a1 n cap1], .int .i64 k] w2 fun e w' => (∃ a cap, e = .returned (.slice a (blk (keyR x) n k).length cap) ∧ True) ∧ Below w2.heap.size w2 w') := by
          refine (H2.out w2 hb3 (k : Int)).mono ?_
          rintro e w' ⟨⟨a, c, he, _⟩, hb⟩
          rw [Hbl.out k hlt] at he
          exact ⟨⟨a, c, by rw [he]; simp [ints], trivial⟩, hb⟩
        have Hst := Lib.hid (HST.out k)
        have hlen := confPart_len x k
        obtain ⟨L, hL⟩ : ∃ L, (blk (keyR x) n k).length = L := ⟨_, rfl⟩
        rw [hL] at Hc Hst
        clear hL
        generalize hcu : confPart x k = cur at *
        clear hcu
        go_wp2_with fail
        refine Hc.out.mono ?_
        rintro e wz ⟨⟨ba, bc, rfl, _⟩, hb4⟩
        replace hown := ownsRow_below hown hb4
        have hbz : Below wx.heap.size wx wz := hby.trans (hb4.mono hby.size)
        clear q0 q1 Hc hb4 hby
        by_cases hL1 : 1 < L
        · have Hs : Hid (confPart x (k + 1) = cur ++ [(k : Int)]) := by have h := Hst.out; rw [if_pos (decide_eq_true hL1)] at h; exact h
          have e1 : decide ((1 : Int) < (L : Int)) = true := decide_eq_true (by omega)
          have e2 : decide (1 < L) = true := decide_eq_true hL1
          clear Hst
          have hownA : (wz.alloc (.cells #[.int .i64 (k : Int)] 3)).ownsRow wx.heap.size 3 1 o cur.length (cur.map iv) := ownsRow_below hown (by go_grown)
          have hbA : Below wx.heap.size wx (wz.alloc (.cells #[.int .i64 (k : Int)] 3)) := hbz.trans ((by go_grown : Below wz.heap.size wz _).mono hbz.size)
          go_wp2_with (at_builtin; refine wpList_app rfl _ _ _ (by rfl) wx.heap.size 3 i0 (.int .i64 0) 1 8 Try.underlying23 hi hz0 hz1 hz2 rfl (by omega) o cur.length (cur.map iv) (by rfl) hownA _ _ _ [.int .i64 (k : Int)] (by rfl) (srcs_one wz _ _ rfl) ?c1 ?c2 ?c3 ?_)
          case c1 => unfold maxLen; omega
          case c2 => omega
          case c3 => exact hbA.size
          intro v1 w3 hown3 hg3 _
          have hown4 := own_push (w := w3) hown3
          have hb4 : Below wx.heap.size wx w3 := Below.grownOwn hbA hg3 hownA (Nat.le_refl _)
          clear hown hown3 hg3 hownA hbA
          go_wp2
          go_roundw
          case rel => exact ⟨k + 1, _, rfl, by omega, by go_num, by rw [Hs.out]; exact hown4, hb4⟩
          case measure => simp [intOf]; omega
        · have Hs : Hid (confPart x (k + 1) = cur) := by have h := Hst.out; rw [decide_eq_false hL1] at h; exact h
          have e1 : decide ((1 : Int) < (L : Int)) = false := decide_eq_false (by omega)
          have e2 : decide (1 < L) = false := decide_eq_false hL1
          clear Hst
          go_wp2
          go_roundw
          case rel => exact ⟨k + 1, _, rfl, by omega, by go_num, by rw [Hs.out]; exact hown, hbz⟩
          case measure => simp [intOf]; omega
      · obtain rfl : k = n := by omega
        obtain ⟨oa, oc, rfl⟩ := own_form hown
        have ho := Own.mono (own_ints hown (confPart_inR x k h14)) hb0.size
        clear hown
        go_wp2
        go_ret
        exact ⟨⟨_, _, rfl, ho⟩, hb1⟩
  · rw [if_neg hG]
    have hVf : validDb x = false := by simpa using hG
    rw [hVf] at H1
    clear hG hVf H2 HB
    obtain ⟨n, hn⟩ : ∃ n : Nat, x.facts.length = n := ⟨_, rfl⟩
    obtain ⟨nr, hnr⟩ : ∃ n : Nat, x.rels.length = n := ⟨_, rfl⟩
    rw [hn] at hm H1
    rw [hnr] at H1
    rw [hn, hnr]
    clear hn hnr
    obtain ⟨wx, hwx⟩ : ∃ wx, wx = w.alloc (Obj.cells #[.slice a0 nr cap0, .slice a1 n cap1] 47) := ⟨_, rfl⟩
    have hb0 : Below w.heap.size w wx := by rw [hwx]; go_grown
    have hws : wx.heap.size = w.heap.size + 1 := by rw [hwx]; simp
    have p0 : wx.cell? ⟨w.heap.size, 0, none⟩ = some (.slice a0 nr cap0) := by rw [hwx]; go_simp
    have p1 : wx.cell? ⟨w.heap.size, 1, none⟩ = some (.slice a1 n cap1) := by rw [hwx]; go_simp
    have ho : ∀ W, Own (cSlice cInt) w.heap.size W [] [.slice (some ⟨w.heap.size + 1, 0, none⟩) 0 0] := fun W => Own.empty _ _ _ _
    have Ho := Lib.hid ho
    have hbe : Below wx.heap.size wx (wx.alloc (Obj.cells #[] 3)) := by go_grown
    have Hwx := Lib.hid hwx
    clear hwx ho
    go_enter Try.func43, Try.ntmps43
    go_wp2_with fail
    rw [← Hwx.out]
    clear Hwx
    go_loopw [3, 4] (fun ov kv wr => ov = .slice (some ⟨w.heap.size + 1, 0, none⟩) 0 0 ∧ kv = .int .i64 0 ∧ Below wx.heap.size wx wr) (fun _ kv _ => n - (intOf kv).toNat)
    case atStart => exact ⟨rfl, rfl, hbe⟩
    case round =>
      clear hbe
      obtain ⟨rfl, rfl, hbx⟩ := hrel
      have q0 := (hbx.cell (World.block_lt_of_cell? wx _ p0)).trans p0
      have q1 := (hbx.cell (World.block_lt_of_cell? wx _ p1)).trans p1
      have hb1 : Below w.heap.size w wr := hb0.trans (hbx.mono hb0.size)
      clear p0 p1
      rcases Nat.eq_zero_or_pos n with hn0 | hn0
      · subst hn0
        go_wp2
        go_ret
        exact ⟨⟨_, _, rfl, Ho.out _⟩, hb1⟩
      · have g1 : decide ((0 : Int) < (n : Int)) = true := decide_eq_true (by omega)
        have g2 : decide (0 < n) = true := decide_eq_true hn0
        go_wp2_with fail
        refine (H1.out _ hb1).mono ?_
        rintro e w2 ⟨rfl, hb2⟩
        have hb3 : Below w.heap.size w w2 := hb1.trans (hb2.mono hb1.size)
        replace q0 := cell_next q0 hb2
        replace q1 := cell_next q1 hb2
        clear hb1 hb2 hbx
        go_wp2
        go_ret
        exact ⟨⟨_, _, rfl, Ho.out _⟩, hb3⟩
end Go.Proofs.Ytjeenbjmhlbmfaa


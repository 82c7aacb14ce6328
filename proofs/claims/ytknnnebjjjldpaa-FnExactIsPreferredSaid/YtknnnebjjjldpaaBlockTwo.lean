/- BlockTwo: Block5 Block6 Block7 Block8. -/
import Derived.Test.YtknnnebjjjldpaaBlockOne
import Derived.Test.YtknnnebjjjldpaaShelf
/- Chapter 5: ConflictingFacts, the model's and the program's. -/
namespace Go.Proofs.Ytknnnebjjjldpaa
open Go.RowKit
set_option linter.unusedVariables false
set_option maxRecDepth 100000

/-- What stands of the facts in conflict behind k rounds. -/
def confPart (d : Dbs) (k : Nat) : List Int := ints ((List.range k).filter fun i => decide (1 < (blk (keyR d) d.facts.length i).length))
theorem confPart_succ (d : Dbs) (k : Nat) : confPart d (k + 1) = if decide (1 < (blk (keyR d) d.facts.length k).length) then confPart d k ++ [(k : Int)] else confPart d k := by
  unfold confPart
  rw [List.range_succ, List.filter_append]
  cases h : decide (1 < (blk (keyR d) d.facts.length k).length)
  · simp at h; simp [h]
  · simp at h; simp [h, ints]
theorem confPart_len (d : Dbs) (k : Nat) : (confPart d k).length ≤ k := by
  unfold confPart ints
  rw [List.length_map]
  exact Nat.le_trans (List.length_filter_le _ _) (by simp)
theorem confPart_inR (d : Dbs) (k : Nat) (hk : k ≤ 14) : ∀ x, x ∈ confPart d k → inR x :=
  ints_inR fun x hx => by
    have := List.mem_range.1 (List.mem_filter.1 hx).1
    omega
/-- The facts in conflict. -/
def confL (d : Dbs) : List Int := if validDb d then confPart d d.facts.length else []

set_option maxHeartbeats 3200000 in
theorem specConflictingFacts_c {a0 a1 : Option Addr} {cap0 cap1 : Nat} {x : Dbs} {w : World} (h : At cDbs w x [.slice a0 x.rels.length cap0, .slice a1 x.facts.length cap1]) :
    Calls Try.prog 92 #[.agg #[.slice a0 x.rels.length cap0, .slice a1 x.facts.length cap1]] w fun e w' => (∃ a cap, e = .returned (.slice a (confL x).length cap) ∧ Own (cSlice cInt) w.heap.size w' (confL x) [.slice a (confL x).length cap]) ∧ Below w.heap.size w w' := by
  have hx0 := (cDbs_inv h).1
  have hx1 := (cDbs_inv h).2
  have hm := (slice_len hx1).2
  unfold maxLen at hm
  have H1 : Hid (∀ ww, Below w.heap.size w ww → Calls Try.prog 83 #[.agg #[.slice a0 x.rels.length cap0, .slice a1 x.facts.length cap1]] ww fun e w' => e = .returned (.bool (validDb x)) ∧ Below ww.heap.size ww w') :=
    fun ww hb => specIsValidDatabase_c (At.below h hb (Nat.le_refl _))
  have H2 : Hid (∀ ww, Below w.heap.size w ww → ∀ i : Int, Calls Try.prog 126 #[.agg #[.slice a0 x.rels.length cap0, .slice a1 x.facts.length cap1], .int .i64 i] ww fun e w' => (∃ a cap, e = .returned (.slice a (blockL x i).length cap) ∧ Own (cSlice cInt) ww.heap.size w' (blockL x i) [.slice a (blockL x i).length cap]) ∧ Below ww.heap.size ww w') :=
    fun ww hb i => specBlockOf_c (At.below h hb (Nat.le_refl _))
  have HB : Hid (validDb x = true → ∀ k, k < x.facts.length → blockL x (k : Int) = ints (blk (keyR x) x.facts.length k)) := by
    intro hv k hk
    unfold blockL
    rw [hv, show inB (k : Int) 0 ((x.facts.length : Int) - 1) = true by unfold inB; simp; omega]
    rfl
  clear h hx0 hx1
  unfold confL
  obtain ⟨i0, hi, hz0, hz1, hz2⟩ := info_parts Try.infoI
  by_cases hG : validDb x = true
  · rw [if_pos hG]
    rw [hG] at H1
    have h14 := dbValid_len hG
    have hbl := HB.out hG
    have Hbl := Lib.hid hbl
    clear HB hbl hG
    obtain ⟨n, hn⟩ : ∃ n : Nat, x.facts.length = n := ⟨_, rfl⟩
    obtain ⟨nr, hnr⟩ : ∃ n : Nat, x.rels.length = n := ⟨_, rfl⟩
    have HST : Hid (∀ k, confPart x (k + 1) = if decide (1 < (blk (keyR x) n k).length) then confPart x k ++ [(k : Int)] else confPart x k) := by
      intro k
      have := confPart_succ x k
      rw [hn] at this
      exact this
    rw [hn] at hm h14 H1 H2 Hbl ⊢
    rw [hnr] at H1 H2 ⊢
    clear hn hnr
    obtain ⟨wx, hwx⟩ : ∃ wx, wx = w.alloc (Obj.cells #[.slice a0 nr cap0, .slice a1 n cap1] 64) := ⟨_, rfl⟩
    have hb0 : Below w.heap.size w wx := by rw [hwx]; go_grown
    have hws : wx.heap.size = w.heap.size + 1 := by rw [hwx]; simp
    have p0 : wx.cell? ⟨w.heap.size, 0, none⟩ = some (.slice a0 nr cap0) := by rw [hwx]; go_simp
    have p1 : wx.cell? ⟨w.heap.size, 1, none⟩ = some (.slice a1 n cap1) := by rw [hwx]; go_simp
    have hown0 : (wx.alloc (Obj.cells #[] 3)).ownsRow wx.heap.size 3 1 (.slice (some ⟨w.heap.size + 1, 0, none⟩) 0 0) (confPart x 0).length ((confPart x 0).map iv) := by
      rw [← hws]
      exact row_empty wx 3 wx.heap.size (Nat.le_refl _)
    have hbe : Below wx.heap.size wx (wx.alloc (Obj.cells #[] 3)) := by go_grown
    have Hws := Lib.hid hws
    have Hwx := Lib.hid hwx
    clear hwx hws
    go_enter Try.func92, Try.ntmps92
    go_wp2_with fail
    rw [← Hwx.out]
    clear Hwx
    go_loopw [3, 4] (fun ov kv wr => ∃ (k : Nat) (o : Value), o = ov ∧ k ≤ n ∧ kv = .int .i64 k ∧ wr.ownsRow wx.heap.size 3 1 o (confPart x k).length ((confPart x k).map iv) ∧ Below wx.heap.size wx wr) (fun _ kv _ => n - (intOf kv).toNat)
    case atStart => exact ⟨0, _, rfl, by omega, by go_num, hown0, hbe⟩
    case round =>
      clear hown0 hbe
      obtain ⟨k, o, rfl, hk, rfl, hown, hbx⟩ := hrel
      have q0 := (hbx.cell (World.block_lt_of_cell? wx _ p0)).trans p0
      have q1 := (hbx.cell (World.block_lt_of_cell? wx _ p1)).trans p1
      have hb1 : Below w.heap.size w wr := hb0.trans (hbx.mono hb0.size)
      clear p0 p1
      by_cases hlt : k < n
      · have j1 : (k : Int) < (n : Int) := by omega
        go_wp2_with fail
        refine (H1.out _ hb1).mono ?_
        rintro e w2 ⟨rfl, hb2⟩
        have hb3 : Below w.heap.size w w2 := hb1.trans (hb2.mono hb1.size)
        have hby : Below wx.heap.size wx w2 := hbx.trans (hb2.mono hbx.size)
        replace q0 := cell_next q0 hb2
        replace q1 := cell_next q1 hb2
        replace hown := ownsRow_below hown hb2
        clear hb1 hb2 hbx
        have Hc : Hid (Calls Try.prog 126 #[.agg #[.slice a0 nr cap0, .slice a1 n cap1], .int .i64 k] w2 fun e w' => (∃ a cap, e = .returned (.slice a (blk (keyR x) n k).length cap) ∧ True) ∧ Below w2.heap.size w2 w') := by
          refine (H2.out w2 hb3 (k : Int)).mono ?_
          rintro e w' ⟨⟨a, c, he, _⟩, hb⟩
          rw [Hbl.out k hlt] at he
          exact ⟨⟨a, c, by rw [he]; simp [ints], trivial⟩, hb⟩
        have Hst := Lib.hid (HST.out k)
        have hlen := confPart_len x k
        obtain ⟨L, hL⟩ : ∃ L, (blk (keyR x) n k).length = L := ⟨_, rfl⟩
        rw [hL] at Hc Hst
        clear hL
        generalize hcu : confPart x k = cur at *
        clear hcu
        go_wp2_with fail
        refine Hc.out.mono ?_
        rintro e wz ⟨⟨ba, bc, rfl, _⟩, hb4⟩
        replace hown := ownsRow_below hown hb4
        have hbz : Below wx.heap.size wx wz := hby.trans (hb4.mono hby.size)
        clear q0 q1 Hc hb4 hby
        by_cases hL1 : 1 < L
        · have Hs : Hid (confPart x (k + 1) = cur ++ [(k : Int)]) := by have h := Hst.out; rw [if_pos (decide_eq_true hL1)] at h; exact h
          have e1 : decide ((1 : Int) < (L : Int)) = true := decide_eq_true (by omega)
          have e2 : decide (1 < L) = true := decide_eq_true hL1
          clear Hst
          have hownA : (wz.alloc (.cells #[.int .i64 (k : Int)] 3)).ownsRow wx.heap.size 3 1 o cur.length (cur.map iv) := ownsRow_below hown (by go_grown)
          have hbA : Below wx.heap.size wx (wz.alloc (.cells #[.int .i64 (k : Int)] 3)) := hbz.trans ((by go_grown : Below wz.heap.size wz _).mono hbz.size)
          go_wp2_with (at_builtin; refine wpList_app rfl _ _ _ (by rfl) wx.heap.size 3 i0 (.int .i64 0) 1 8 Try.underlying23 hi hz0 hz1 hz2 rfl (by omega) o cur.length (cur.map iv) (by rfl) hownA _ _ _ [.int .i64 (k : Int)] (by rfl) (srcs_one wz _ _ rfl) ?c1 ?c2 ?c3 ?_)
          case c1 => unfold maxLen; omega
          case c2 => omega
          case c3 => exact hbA.size
          intro v1 w3 hown3 hg3 _
          have hown4 := own_push (w := w3) hown3
          have hb4 : Below wx.heap.size wx w3 := Below.grownOwn hbA hg3 hownA (Nat.le_refl _)
          clear hown hown3 hg3 hownA hbA
          go_wp2
          go_roundw
          case rel => exact ⟨k + 1, _, rfl, by omega, by go_num, by rw [Hs.out]; exact hown4, hb4⟩
          case measure => simp [intOf]; omega
        · have Hs : Hid (confPart x (k + 1) = cur) := by have h := Hst.out; rw [decide_eq_false hL1] at h; exact h
          have e1 : decide ((1 : Int) < (L : Int)) = false := decide_eq_false (by omega)
          have e2 : decide (1 < L) = false := decide_eq_false hL1
          clear Hst
          go_wp2
          go_roundw
          case rel => exact ⟨k + 1, _, rfl, by omega, by go_num, by rw [Hs.out]; exact hown, hbz⟩
          case measure => simp [intOf]; omega
      · obtain rfl : k = n := by omega
        obtain ⟨oa, oc, rfl⟩ := own_form hown
        have ho := Own.mono (own_ints hown (confPart_inR x k h14)) hb0.size
        clear hown
        go_wp2
        go_ret
        exact ⟨⟨_, _, rfl, ho⟩, hb1⟩
  · rw [if_neg hG]
    have hVf : validDb x = false := by simpa using hG
    rw [hVf] at H1
    clear hG hVf H2 HB
    obtain ⟨n, hn⟩ : ∃ n : Nat, x.facts.length = n := ⟨_, rfl⟩
    obtain ⟨nr, hnr⟩ : ∃ n : Nat, x.rels.length = n := ⟨_, rfl⟩
    rw [hn] at hm H1
    rw [hnr] at H1
    rw [hn, hnr]
    clear hn hnr
    obtain ⟨wx, hwx⟩ : ∃ wx, wx = w.alloc (Obj.cells #[.slice a0 nr cap0, .slice a1 n cap1] 64) := ⟨_, rfl⟩
    have hb0 : Below w.heap.size w wx := by rw [hwx]; go_grown
    have hws : wx.heap.size = w.heap.size + 1 := by rw [hwx]; simp
    have p0 : wx.cell? ⟨w.heap.size, 0, none⟩ = some (.slice a0 nr cap0) := by rw [hwx]; go_simp
    have p1 : wx.cell? ⟨w.heap.size, 1, none⟩ = some (.slice a1 n cap1) := by rw [hwx]; go_simp
    have ho : ∀ W, Own (cSlice cInt) w.heap.size W [] [.slice (some ⟨w.heap.size + 1, 0, none⟩) 0 0] := fun W => Own.empty _ _ _ _
    have Ho := Lib.hid ho
    have hbe : Below wx.heap.size wx (wx.alloc (Obj.cells #[] 3)) := by go_grown
    have Hwx := Lib.hid hwx
    clear hwx ho
    go_enter Try.func92, Try.ntmps92
    go_wp2_with fail
    rw [← Hwx.out]
    clear Hwx
    go_loopw [3, 4] (fun ov kv wr => ov = .slice (some ⟨w.heap.size + 1, 0, none⟩) 0 0 ∧ kv = .int .i64 0 ∧ Below wx.heap.size wx wr) (fun _ kv _ => n - (intOf kv).toNat)
    case atStart => exact ⟨rfl, rfl, hbe⟩
    case round =>
      clear hbe
      obtain ⟨rfl, rfl, hbx⟩ := hrel
      have q0 := (hbx.cell (World.block_lt_of_cell? wx _ p0)).trans p0
      have q1 := (hbx.cell (World.block_lt_of_cell? wx _ p1)).trans p1
      have hb1 : Below w.heap.size w wr := hb0.trans (hbx.mono hb0.size)
      clear p0 p1
      rcases Nat.eq_zero_or_pos n with hn0 | hn0
      · subst hn0
        go_wp2
        go_ret
        exact ⟨⟨_, _, rfl, Ho.out _⟩, hb1⟩
      · have g1 : decide ((0 : Int) < (n : Int)) = true := decide_eq_true (by omega)
        have g2 : decide (0 < n) = true := decide_eq_true hn0
        go_wp2_with fail
        refine (H1.out _ hb1).mono ?_
        rintro e w2 ⟨rfl, hb2⟩
        have hb3 : Below w.heap.size w w2 := hb1.trans (hb2.mono hb1.size)
        replace q0 := cell_next q0 hb2
        replace q1 := cell_next q1 hb2
        clear hb1 hb2 hbx
        go_wp2
        go_ret
        exact ⟨⟨_, _, rfl, Ho.out _⟩, hb3⟩
end Go.Proofs.Ytknnnebjjjldpaa

/- Chapter 5: the program's ConflictingFacts; IsConsistent, the model's and the program's. -/
namespace Go.Proofs.Ytknnnebjjjldpaa
open Go.RowKit
set_option linter.unusedVariables false
set_option maxRecDepth 100000

/-- The program's facts in conflict behind j blocks. -/
def cfPart (L : List (List Int)) (j : Nat) : List Int := ((L.take j).filter fun b => decide (1 < b.length)).flatten
theorem cfPart_succ (L : List (List Int)) (j : Nat) (hj : j < L.length) : cfPart L (j + 1) = if decide (1 < L[j].length) then cfPart L j ++ L[j] else cfPart L j := by
  unfold cfPart
  rw [List.take_succ_eq_append_getElem hj, List.filter_append, List.flatten_append]
  cases h : decide (1 < L[j].length)
  · simp at h; simp [h]
  · simp at h; simp [h]
theorem cf_le : ∀ (L : List (List Int)), (L.filter fun b => decide (1 < b.length)).flatten.length ≤ L.flatten.length
  | [] => by simp
  | b :: L => by
    have := cf_le L
    rw [List.filter_cons]
    split
    · simp only [List.flatten_cons, List.length_append]; omega
    · simp only [List.flatten_cons, List.length_append]; omega
theorem cfPart_len (L : List (List Int)) (j : Nat) : (cfPart L j).length ≤ L.flatten.length := by
  unfold cfPart
  refine Nat.le_trans (cf_le _) ?_
  have h := congrArg (fun l => (List.flatten l).length) (List.take_append_drop j L)
  simp only [List.flatten_append, List.length_append] at h
  omega
theorem cfPart_mem (L : List (List Int)) (j : Nat) (x : Int) (h : x ∈ cfPart L j) : ∃ b, b ∈ L ∧ x ∈ b := by
  unfold cfPart at h
  obtain ⟨b, hb, hx⟩ := List.mem_flatten.1 h
  exact ⟨b, List.mem_of_mem_take (List.mem_filter.1 hb).1, hx⟩
theorem flatten_ints : ∀ bs : List (List Nat), (bs.map ints).flatten = ints bs.flatten
  | [] => rfl
  | b :: bs => by rw [List.map_cons, List.flatten_cons, flatten_ints bs, List.flatten_cons]; simp [ints]
theorem filter_ints : ∀ bs : List (List Nat), (bs.map ints).filter (fun b => decide (1 < b.length)) = (bs.filter fun b => decide (1 < b.length)).map ints
  | [] => rfl
  | b :: bs => by
    have ih := filter_ints bs
    have hl : (ints b).length = b.length := by unfold ints; simp
    rw [List.map_cons, List.filter_cons, List.filter_cons, ih, hl]
    split <;> simp
theorem blocksL_flat {d : Dbs} (h : validDb d = true) : (blocksL d).flatten = ints (List.range d.facts.length) := by
  unfold blocksL
  rw [if_pos h, flatten_ints, blksI_flatten]
theorem cfPart_all {d : Dbs} (h : validDb d = true) : cfPart (blocksL d) (blocksL d).length = confL d := by
  unfold cfPart confL confPart
  rw [if_pos h, List.take_length]
  unfold blocksL
  rw [if_pos h, filter_ints, flatten_ints, conf_eq (conv_db h) _ (Nat.le_refl _)]
theorem blocksL_false {d : Dbs} (h : validDb d = false) : blocksL d = [] := by unfold blocksL; rw [if_neg (by rw [h]; simp)]
theorem confL_all (d : Dbs) : cfPart (blocksL d) (blocksL d).length = confL d := by
  cases h : validDb d
  · rw [blocksL_false h]
    unfold confL
    rw [if_neg (by rw [h]; simp)]; rfl
  · exact cfPart_all h
theorem blocksL_small (d : Dbs) : (blocksL d).flatten.length ≤ 14 ∧ ∀ b, b ∈ blocksL d → ∀ x, x ∈ b → inR x := by
  cases h : validDb d
  · rw [blocksL_false h]; simp
  · have h14 := dbValid_len h
    refine ⟨by rw [blocksL_flat h]; unfold ints; simpa using h14, fun b hb x hx => ?_⟩
    have hm : x ∈ (blocksL d).flatten := List.mem_flatten.2 ⟨b, hb, hx⟩
    rw [blocksL_flat h] at hm
    exact ints_inR (fun y hy => by have := List.mem_range.1 hy; omega) x hm
theorem blocksL_len (d : Dbs) : (blocksL d).length ≤ 14 := by
  cases h : validDb d
  · rw [blocksL_false h]; simp
  · have h14 := dbValid_len h
    rw [← bI_all h]
    exact Nat.le_trans (bI_len d _) h14

set_option maxHeartbeats 3200000 in
theorem implConflictingFacts_c {a0 a1 : Option Addr} {cap0 cap1 : Nat} {x : Dbs} {w : World} (h : At cDbs w x [.slice a0 x.rels.length cap0, .slice a1 x.facts.length cap1]) :
    Calls Try.prog 93 #[.agg #[.slice a0 x.rels.length cap0, .slice a1 x.facts.length cap1]] w fun e w' => (∃ a cap, e = .returned (.slice a (confL x).length cap) ∧ Own (cSlice cInt) w.heap.size w' (confL x) [.slice a (confL x).length cap]) ∧ Below w.heap.size w w' := by
  have H1 : Hid (∀ ww, Below w.heap.size w ww → Calls Try.prog 101 #[.agg #[.slice a0 x.rels.length cap0, .slice a1 x.facts.length cap1]] ww fun e w' => (∃ a cap, e = .returned (.slice a (blocksL x).length cap) ∧ Own (cSlice (cSlice cInt)) ww.heap.size w' (blocksL x) [.slice a (blocksL x).length cap]) ∧ Below ww.heap.size ww w') :=
    fun ww hb => implBlocks_c (At.below h hb (Nat.le_refl _))
  clear h
  rw [← confL_all]
  have hsm := (blocksL_small x).1
  have Hin := Lib.hid (blocksL_small x).2
  have hbl := blocksL_len x
  generalize blocksL x = L at *
  obtain ⟨N, hN⟩ : ∃ N, L.length = N := ⟨_, rfl⟩
  have HN := Lib.hid hN
  rw [hN] at H1 hbl ⊢
  clear hN
  generalize x.rels.length = nr at *
  generalize x.facts.length = n at *
  obtain ⟨i0, hi, hz0, hz1, hz2⟩ := info_parts Try.infoI
  go_enter Try.func93, Try.ntmps93
  go_wp2_with fail
  refine (H1.out _ ?hb).mono ?_
  case hb => go_grown
  rintro e w2 ⟨⟨ba, bc, rfl, ho⟩, hb1⟩
  have hbw : Below w.heap.size w w2 := Below.trans (by go_grown) (hb1.mono (by simp; try omega))
  have hat := ho.at
  have HB : Hid (∀ W', Below w2.heap.size w2 W' → ∀ j (hj : j < L.length), _) := fun W' hb j hj => at_IntS (Cod.ok_below hat hb) j hj
  clear ho hat hb1 H1
  have hown0 : w2.ownsRow w2.heap.size 3 1 (.slice none 0 0) (cfPart L 0).length ((cfPart L 0).map iv) := World.ownsRow_nil _ _ _ _
  go_wp2
  go_loopw [3, 9] (fun ov kv wr => ∃ (k : Nat) (o : Value), o = ov ∧ k ≤ N ∧ kv = .int .i64 k ∧ wr.ownsRow w2.heap.size 3 1 o (cfPart L k).length ((cfPart L k).map iv) ∧ Below w2.heap.size w2 wr) (fun _ kv _ => N - (intOf kv).toNat)
  case atStart => exact ⟨0, _, rfl, by omega, by go_num, hown0, Below.refl _ _⟩
  case round =>
    clear hown0
    obtain ⟨k, o, rfl, hk, rfl, hown, hbx⟩ := hrel
    have hb1 : Below w.heap.size w wr := hbw.trans (hbx.mono hbw.size)
    by_cases hlt : k < N
    · have hkl : k < L.length := by rw [HN.out]; exact hlt
      obtain ⟨b, off, ha, hc, rfl, hbB, c0, hx⟩ := HB.out _ hbx k hkl
      have Hst := Lib.hid (cfPart_succ L k hkl)
      have hlen := cfPart_len L k
      have hlen2 := cfPart_len L (k + 1)
      have hsrc := srcs_ints hx
      obtain ⟨m, hm⟩ : ∃ m, L[k].length = m := ⟨_, rfl⟩
      rw [hm] at c0 Hst hsrc
      clear hx
      generalize L[k] = bl at *
      by_cases hL1 : 1 < m
      · have hs : cfPart L (k + 1) = cfPart L k ++ bl := by have h := Hst.out; rw [if_pos (decide_eq_true hL1)] at h; exact h
        have hcm : (cfPart L k).length + m ≤ 14 := by rw [hs, List.length_append, hm] at hlen2; omega
        have Hs := Lib.hid hs
        have e1 : decide ((1 : Int) < (m : Int)) = true := decide_eq_true (by omega)
        have e2 : decide (1 < m) = true := decide_eq_true hL1
        have Hm := Lib.hid hm
        clear Hst hs hlen2 hm
        generalize hcu : cfPart L k = cur at *
        clear hcu
        go_wp2_with (at_builtin; refine wpList_app rfl _ _ _ (by rfl) w2.heap.size 3 i0 (.int .i64 0) 1 8 Try.underlying23 hi hz0 hz1 hz2 rfl (by omega) o cur.length (cur.map iv) (by rfl) hown ha m hc (bl.map iv) (by rfl) hsrc ?c1 ?c2 ?c3 ?_)
        case c1 => unfold maxLen; omega
        case c2 => omega
        case c3 => exact hbx.size
        intro v1 w3 hown3 hg3 _
        have hown4 : w3.ownsRow w2.heap.size 3 1 v1 (cur ++ bl).length ((cur ++ bl).map iv) := by
          rw [List.length_append, Hm.out, List.map_append]
          exact hown3
        have hb4 : Below w2.heap.size w2 w3 := Below.grownOwn hbx hg3 hown (Nat.le_refl _)
        clear hown hown3 hg3 hsrc
        go_wp2
        go_roundw
        case rel => exact ⟨k + 1, _, rfl, by omega, by go_num, by rw [Hs.out]; exact hown4, hb4⟩
        case measure => simp [intOf]; omega
      · have Hs : Hid (cfPart L (k + 1) = cfPart L k) := by have h := Hst.out; rw [decide_eq_false hL1] at h; exact h
        have e1 : decide ((1 : Int) < (m : Int)) = false := decide_eq_false (by omega)
        have e2 : decide (1 < m) = false := decide_eq_false hL1
        clear Hst hm hlen hlen2 hsrc
        go_wp2
        go_roundw
        case rel => exact ⟨k + 1, _, rfl, by omega, by go_num, by rw [Hs.out]; exact hown, hbx⟩
        case measure => simp [intOf]; omega
    · obtain rfl : k = N := by omega
      obtain ⟨oa, oc, rfl⟩ := own_form hown
      have ho := Own.mono (own_ints hown (fun y hy => by
        obtain ⟨b, hb, hy2⟩ := cfPart_mem L k y hy
        exact Hin.out b hb y hy2)) hbw.size
      clear hown
      go_wp2
      go_ret
      exact ⟨⟨_, _, rfl, ho⟩, hb1⟩

/-- A valid database without conflicts. -/
def consistent (d : Dbs) : Bool := validDb d && decide ((blocksL d).length = d.facts.length)
theorem consistent_eq (d : Dbs) : consistent d = (validDb d && decide ((confL d).length = 0)) := by
  unfold consistent
  cases h : validDb d
  · rfl
  · rw [Bool.true_and, Bool.true_and]
    have h1 := consist_eq (conv_db h) d.facts.length (Nat.le_refl _)
    have h2 : (confL d).length = ((blksI (keyR d) d.facts.length).filter fun b => decide (1 < b.length)).flatten.length := by
      unfold confL confPart
      rw [if_pos h, conf_eq (conv_db h) _ (Nat.le_refl _)]
      unfold ints
      simp
    have h3 : (blocksL d).length = (blksI (keyR d) d.facts.length).length := by
      unfold blocksL
      rw [if_pos h]; simp
    rw [h2, h3, ← h1]
theorem confL_len (d : Dbs) : (confL d).length ≤ 14 := by
  rw [← confL_all]
  exact Nat.le_trans (cfPart_len _ _) (blocksL_small d).1

end Go.Proofs.Ytknnnebjjjldpaa
namespace Go.Proofs.Ytknnnebjjjldpaa
open Go.RowKit
set_option linter.unusedVariables false
set_option maxRecDepth 100000
/-- An element of a slice of slices of the call's own. -/
theorem own_elem {B : Nat} {w : World} {L : List (List Int)} {a : Option Addr} {len cap : Nat} (h : Own (cSlice (cSlice cInt)) B w L [.slice a len cap]) (j : Nat) (hj : j < L.length) :
    ∃ b off ha hc, a = some ⟨b, off, none⟩ ∧ w.cell? ⟨b, off + j, none⟩ = some (.slice ha L[j].length hc) ∧ Own (cSlice cInt) B w L[j] [.slice ha L[j].length hc] := by
  obtain ⟨F, ⟨a', cap', e, _, hF⟩, hFr⟩ := h
  simp at e
  obtain ⟨rfl, rfl, rfl⟩ := e
  rcases hF with ⟨rfl, _⟩ | ⟨g, off, G, rfl, hg, hgs, hG, _, _, he⟩
  · simp at hj
  · obtain ⟨es, h1, h2⟩ := he j hj
    obtain ⟨ha, hc, rfl, h3⟩ := slice_openO h1
    refine ⟨g, off, ha, hc, rfl, ?_, G j, h3, fun k hk => hFr k (hG j hj k hk).1⟩
    have := h2 0 (by decide)
    rw [show (cSlice cInt).n = 1 from rfl, Nat.mul_one, Nat.add_zero] at this
    exact this
theorem ints_contains (b : List Nat) (p : Nat) : (ints b).contains (p : Int) = b.contains p := by
  rw [List.contains_eq_mem, List.contains_eq_mem]
  refine decide_eq_decide.2 ⟨fun hm => ?_, fun hm => List.mem_map.2 ⟨p, hm, rfl⟩⟩
  obtain ⟨a, ha, e⟩ := List.mem_map.1 hm
  have : a = p := by omega
  exact this ▸ ha
theorem find_ints (p : Nat) : ∀ bs : List (List Nat), (bs.map ints).find? (fun b => b.contains (p : Int)) = (bs.find? fun b => b.contains p).map ints
  | [] => rfl
  | b :: bs => by
    rw [List.map_cons, List.find?_cons, List.find?_cons, ints_contains, find_ints p bs]
    cases b.contains p <;> rfl
theorem blockL_find (d : Dbs) (i : Int) : blockL d i = ((blocksL d).find? fun b => b.contains i).getD [] := by
  unfold blockL
  cases hv : validDb d
  · rw [blocksL_false hv]; rfl
  · rw [Bool.true_and]
    by_cases hi : 0 ≤ i
    · obtain ⟨p, rfl⟩ := Int.eq_ofNat_of_zero_le hi
      have hL : blocksL d = (blksI (keyR d) d.facts.length).map ints := by unfold blocksL; rw [if_pos hv]
      rw [hL, find_ints]
      by_cases hp : p < d.facts.length
      · rw [find_blk (conv_db hv) (Nat.le_refl _) hp, if_pos (by unfold inB; simp; omega)]; rfl
      · rw [find_blk_none hp, if_neg (by unfold inB; simp; omega)]; rfl
    · rw [if_neg (by unfold inB; simp; omega)]
      have : (blocksL d).find? (fun b => b.contains i) = none := by
        rw [List.find?_eq_none]
        intro b hb hc
        have hmem : i ∈ (blocksL d).flatten := List.mem_flatten.2 ⟨b, hb, by simpa using hc⟩
        rw [blocksL_flat hv] at hmem
        obtain ⟨n, _, hn⟩ := List.mem_map.1 hmem
        omega
      rw [this]; rfl

/-- The blocks' sizes. -/
def sizesL (d : Dbs) : List Int := (blocksL d).map fun b => (b.length : Int)
def szPart (L : List (List Int)) (k : Nat) : List Int := (L.take k).map fun b => (b.length : Int)
theorem szPart_succ (L : List (List Int)) (k : Nat) (hk : k < L.length) : szPart L (k + 1) = szPart L k ++ [(L[k].length : Int)] := by
  unfold szPart
  rw [List.take_succ_eq_append_getElem hk, List.map_append]; rfl
theorem szPart_len (L : List (List Int)) (k : Nat) : (szPart L k).length ≤ k := by
  unfold szPart
  simp
  omega
theorem szPart_inR (L : List (List Int)) (k : Nat) (h : ∀ b, b ∈ L → b.length ≤ 14) : ∀ x, x ∈ szPart L k → inR x := by
  intro x hx
  obtain ⟨b, hb, rfl⟩ := List.mem_map.1 hx
  have := h b (List.mem_of_mem_take hb)
  unfold inR
  omega
theorem blocksL_each (d : Dbs) : ∀ b, b ∈ blocksL d → b.length ≤ 14 := by
  intro b hb
  refine Nat.le_trans ?_ (blocksL_small d).1
  rw [List.length_flatten]
  exact le_sum (List.mem_map.2 ⟨b, hb, rfl⟩)
theorem sizesL_all (d : Dbs) : szPart (blocksL d) (blocksL d).length = sizesL d := by unfold szPart sizesL; rw [List.take_length]

set_option maxHeartbeats 3200000 in
theorem implBlockSizes_c {a0 a1 : Option Addr} {cap0 cap1 : Nat} {x : Dbs} {w : World} (h : At cDbs w x [.slice a0 x.rels.length cap0, .slice a1 x.facts.length cap1]) :
    Calls Try.prog 89 #[.agg #[.slice a0 x.rels.length cap0, .slice a1 x.facts.length cap1]] w fun e w' => (∃ a cap, e = .returned (.slice a (sizesL x).length cap) ∧ Own (cSlice cInt) w.heap.size w' (sizesL x) [.slice a (sizesL x).length cap]) ∧ Below w.heap.size w w' := by
  have H1 : Hid (∀ ww, Below w.heap.size w ww → Calls Try.prog 101 #[.agg #[.slice a0 x.rels.length cap0, .slice a1 x.facts.length cap1]] ww fun e w' => (∃ a cap, e = .returned (.slice a (blocksL x).length cap) ∧ Own (cSlice (cSlice cInt)) ww.heap.size w' (blocksL x) [.slice a (blocksL x).length cap]) ∧ Below ww.heap.size ww w') :=
    fun ww hb => implBlocks_c (At.below h hb (Nat.le_refl _))
  clear h
  rw [← sizesL_all]
  have Hin := Lib.hid (szPart_inR (blocksL x) (blocksL x).length (blocksL_each x))
  have hbl := blocksL_len x
  generalize blocksL x = L at *
  obtain ⟨N, hN⟩ : ∃ N, L.length = N := ⟨_, rfl⟩
  have HN := Lib.hid hN
  rw [hN] at H1 hbl Hin ⊢
  clear hN
  generalize x.rels.length = nr at *
  generalize x.facts.length = n at *
  obtain ⟨i0, hi, hz0, hz1, hz2⟩ := info_parts Try.infoI
  go_enter Try.func89, Try.ntmps89
  go_wp2_with fail
  refine (H1.out _ ?hb).mono ?_
  case hb => go_grown
  rintro e w2 ⟨⟨ba, bc, rfl, ho⟩, hb1⟩
  have hbw : Below w.heap.size w w2 := Below.trans (by go_grown) (hb1.mono (by simp; try omega))
  have hat := ho.at
  have HB : Hid (∀ W', Below w2.heap.size w2 W' → ∀ j (hj : j < L.length), _) := fun W' hb j hj => at_IntS (Cod.ok_below hat hb) j hj
  clear ho hat hb1 H1
  have hown0 : w2.ownsRow w2.heap.size 3 1 (.slice none 0 0) (szPart L 0).length ((szPart L 0).map iv) := World.ownsRow_nil _ _ _ _
  go_wp2
  go_loopw [3, 9] (fun ov kv wr => ∃ (k : Nat) (o : Value), o = ov ∧ k ≤ N ∧ kv = .int .i64 k ∧ wr.ownsRow w2.heap.size 3 1 o (szPart L k).length ((szPart L k).map iv) ∧ Below w2.heap.size w2 wr) (fun _ kv _ => N - (intOf kv).toNat)
  case atStart => exact ⟨0, _, rfl, by omega, by go_num, hown0, Below.refl _ _⟩
  case round =>
    clear hown0
    obtain ⟨k, o, rfl, hk, rfl, hown, hbx⟩ := hrel
    have hb1 : Below w.heap.size w wr := hbw.trans (hbx.mono hbw.size)
    by_cases hlt : k < N
    · have hkl : k < L.length := by rw [HN.out]; exact hlt
      obtain ⟨b, off, ha, hc, rfl, hbB, c0, hx⟩ := HB.out _ hbx k hkl
      have Hs := Lib.hid (szPart_succ L k hkl)
      have hlen := szPart_len L k
      clear hx
      generalize L[k].length = m at *
      generalize hcu : szPart L k = cur at *
      clear hcu
      have hownA : (wr.alloc (.cells #[.int .i64 (m : Int)] 3)).ownsRow w2.heap.size 3 1 o cur.length (cur.map iv) := ownsRow_below hown (by go_grown)
      have hbA : Below w2.heap.size w2 (wr.alloc (.cells #[.int .i64 (m : Int)] 3)) := hbx.trans ((by go_grown : Below wr.heap.size wr _).mono hbx.size)
      go_wp2_with (at_builtin; refine wpList_app rfl _ _ _ (by rfl) w2.heap.size 3 i0 (.int .i64 0) 1 8 Try.underlying23 hi hz0 hz1 hz2 rfl (by omega) o cur.length (cur.map iv) (by rfl) hownA _ _ _ [.int .i64 (m : Int)] (by rfl) (srcs_one wr _ _ rfl) ?c1 ?c2 ?c3 ?_)
      case c1 => unfold maxLen; omega
      case c2 => omega
      case c3 => exact hbA.size
      intro v1 w3 hown3 hg3 _
      have hown4 := own_push (w := w3) hown3
      have hb4 : Below w2.heap.size w2 w3 := Below.grownOwn hbA hg3 hownA (Nat.le_refl _)
      clear hown hown3 hg3 hownA hbA
      go_wp2
      go_roundw
      case rel => exact ⟨k + 1, _, rfl, by omega, by go_num, by rw [Hs.out]; exact hown4, hb4⟩
      case measure => simp [intOf]; omega
    · obtain rfl : k = N := by omega
      obtain ⟨oa, oc, rfl⟩ := own_form hown
      have ho := Own.mono (own_ints hown Hin.out) hbw.size
      clear hown
      go_wp2
      go_ret
      exact ⟨⟨_, _, rfl, ho⟩, hb1⟩

set_option maxHeartbeats 3200000 in
theorem specBlockSizes_c {a0 a1 : Option Addr} {cap0 cap1 : Nat} {x : Dbs} {w : World} (h : At cDbs w x [.slice a0 x.rels.length cap0, .slice a1 x.facts.length cap1]) :
    Calls Try.prog 84 #[.agg #[.slice a0 x.rels.length cap0, .slice a1 x.facts.length cap1]] w fun e w' => (∃ a cap, e = .returned (.slice a (sizesL x).length cap) ∧ Own (cSlice cInt) w.heap.size w' (sizesL x) [.slice a (sizesL x).length cap]) ∧ Below w.heap.size w w' := by
  have H1 : Hid (∀ ww, Below w.heap.size w ww → Calls Try.prog 99 #[.agg #[.slice a0 x.rels.length cap0, .slice a1 x.facts.length cap1]] ww fun e w' => (∃ a cap, e = .returned (.slice a (blocksL x).length cap) ∧ Own (cSlice (cSlice cInt)) ww.heap.size w' (blocksL x) [.slice a (blocksL x).length cap]) ∧ Below ww.heap.size ww w') :=
    fun ww hb => specBlocks_c (At.below h hb (Nat.le_refl _))
  clear h
  rw [← sizesL_all]
  have Hin := Lib.hid (szPart_inR (blocksL x) (blocksL x).length (blocksL_each x))
  have hbl := blocksL_len x
  generalize blocksL x = L at *
  obtain ⟨N, hN⟩ : ∃ N, L.length = N := ⟨_, rfl⟩
  have HN := Lib.hid hN
  rw [hN] at H1 hbl Hin ⊢
  clear hN
  generalize x.rels.length = nr at *
  generalize x.facts.length = n at *
  obtain ⟨i0, hi, hz0, hz1, hz2⟩ := info_parts Try.infoI
  obtain ⟨wx, hwx⟩ : ∃ wx, wx = w.alloc (Obj.cells #[.slice a0 nr cap0, .slice a1 n cap1] 64) := ⟨_, rfl⟩
  have hb0 : Below w.heap.size w wx := by rw [hwx]; go_grown
  have hws : wx.heap.size = w.heap.size + 1 := by rw [hwx]; simp
  have p0 : wx.cell? ⟨w.heap.size, 0, none⟩ = some (.slice a0 nr cap0) := by rw [hwx]; go_simp
  have p1 : wx.cell? ⟨w.heap.size, 1, none⟩ = some (.slice a1 n cap1) := by rw [hwx]; go_simp
  have hbe : Below wx.heap.size wx (wx.alloc (Obj.cells #[] 3)) := by go_grown
  have hown0 : (wx.alloc (Obj.cells #[] 3)).ownsRow wx.heap.size 3 1 (.slice (some ⟨w.heap.size + 1, 0, none⟩) 0 0) (szPart L 0).length ((szPart L 0).map iv) := by
    rw [← hws]
    exact row_empty wx 3 wx.heap.size (Nat.le_refl _)
  have hsy : (wx.alloc (Obj.cells #[] 3)).heap.size = w.heap.size + 2 := by simp; omega
  have q0 := cell_next p0 hbe
  have q1 := cell_next p1 hbe
  have Hwx := Lib.hid hwx
  clear hwx hws p0 p1
  obtain ⟨wy, hwy⟩ : ∃ wy, wy = wx.alloc (Obj.cells #[] 3) := ⟨_, rfl⟩
  rw [← hwy] at hbe hown0 hsy q0 q1
  have Hwy := Lib.hid hwy
  clear hwy
  go_enter Try.func84, Try.ntmps84
  go_wp2_with fail
  rw [← Hwx.out, ← Hwy.out]
  clear Hwx Hwy
  refine (H1.out _ (hb0.trans (hbe.mono hb0.size))).mono ?_
  rintro e w2 ⟨⟨ba, bc, rfl, ho⟩, hb1⟩
  have hbz : Below wx.heap.size wx w2 := hbe.trans (hb1.mono hbe.size)
  have hown1 := ownsRow_below hown0 hb1
  have hs1 := hb1.size
  have HB : Hid (∀ W' : World, (∀ k, wy.heap.size ≤ k → k < w2.heap.size → W'.heap[k]? = w2.heap[k]?) → w2.heap.size ≤ W'.heap.size → ∀ j (hj : j < L.length), ∃ b off ha hc, ba = some ⟨b, off, none⟩ ∧ W'.cell? ⟨b, off + j, none⟩ = some (.slice ha L[j].length hc)) := by
    intro W' hW hs j hj
    obtain ⟨F, hF, hFr⟩ := ho
    have h2 : Own (cSlice (cSlice cInt)) wy.heap.size W' L [.slice ba N bc] := ⟨F, (cSlice (cSlice cInt)).keepO hF (fun k hk => hW k (hFr k hk).1 (hFr k hk).2), fun k hk => ⟨(hFr k hk).1, by have := (hFr k hk).2; omega⟩⟩
    obtain ⟨b, off, ha, hc, e1, e2, _⟩ := own_elem h2 j hj
    exact ⟨b, off, ha, hc, e1, e2⟩
  have Hsy := Lib.hid hsy
  clear ho hb1 hown0 H1 hbe q0 q1
  go_wp2
  go_loopw [3, 5] (fun ov kv wr => ∃ (k : Nat) (o : Value), o = ov ∧ k ≤ N ∧ kv = .int .i64 k ∧ wr.ownsRow wx.heap.size 3 1 o (szPart L k).length ((szPart L k).map iv) ∧ Below wx.heap.size wx wr ∧ (∀ k, wy.heap.size ≤ k → k < w2.heap.size → wr.heap[k]? = w2.heap[k]?) ∧ (∀ g, o.ownBlock = some g → g < wy.heap.size ∨ w2.heap.size ≤ g) ∧ w2.heap.size ≤ wr.heap.size) (fun _ kv _ => N - (intOf kv).toNat)
  case atStart => exact ⟨0, _, rfl, by omega, by go_num, hown1, hbz, fun _ _ _ => rfl, fun g hg => by left; have : g = w.heap.size + 1 := (by simpa [Value.ownBlock] using hg.symm); omega, Nat.le_refl _⟩
  case round =>
    clear hown1 hbz
    obtain ⟨k, o, rfl, hk, rfl, hown, hbx, hsame, hblk, hsz⟩ := hrel
    have hb1 : Below w.heap.size w wr := hb0.trans (hbx.mono hb0.size)
    by_cases hlt : k < N
    · have hkl : k < L.length := by rw [HN.out]; exact hlt
      obtain ⟨b, off, ha, hc, rfl, c0⟩ := HB.out _ hsame hsz k hkl
      have Hs := Lib.hid (szPart_succ L k hkl)
      have hlen := szPart_len L k
      generalize L[k].length = m at *
      generalize hcu : szPart L k = cur at *
      clear hcu
      have hA : Below wr.heap.size wr (wr.alloc (.cells #[.int .i64 (m : Int)] 3)) := by go_grown
      have hownA : (wr.alloc (.cells #[.int .i64 (m : Int)] 3)).ownsRow wx.heap.size 3 1 o cur.length (cur.map iv) := ownsRow_below hown hA
      have hbA : Below wx.heap.size wx (wr.alloc (.cells #[.int .i64 (m : Int)] 3)) := hbx.trans (hA.mono hbx.size)
      have j1 : (k : Int) < (N : Int) := by omega
      have Hsame := Lib.hid hsame
      have Hblk := Lib.hid hblk
      clear hsame hblk
      go_wp2_with (at_builtin; refine wpList_app rfl _ _ _ (by rfl) wx.heap.size 3 i0 (.int .i64 0) 1 8 Try.underlying23 hi hz0 hz1 hz2 rfl (by omega) o cur.length (cur.map iv) (by rfl) hownA _ _ _ [.int .i64 (m : Int)] (by rfl) (srcs_one wr _ _ rfl) ?c1 ?c2 ?c3 ?_)
      case c1 => unfold maxLen; omega
      case c2 => omega
      case c3 => exact hbA.size
      intro v1 w3 hown3 hg3 hat3
      have hown4 := own_push (w := w3) hown3
      have hb4 : Below wx.heap.size wx w3 := Below.grownOwn hbA hg3 hownA (Nat.le_refl _)
      have hs3 := hg3.size
      have hsA : (wr.alloc (.cells #[.int .i64 (m : Int)] 3)).heap.size = wr.heap.size + 1 := by simp
      have hsame2 : ∀ k, wy.heap.size ≤ k → k < w2.heap.size → w3.heap[k]? = w2.heap[k]? := fun q h1 h2 =>
        (hg3.block q (by omega) (fun e => by have := Hblk.out q e.symm; omega)).trans ((hA.block q (by omega)).trans (Hsame.out q h1 h2))
      have hblk2 : ∀ g, v1.ownBlock = some g → g < wy.heap.size ∨ w2.heap.size ≤ g := fun g hg => by
        rcases hat3 with e | e
        · exact Hblk.out g (e ▸ hg)
        · rw [e] at hg
          right
          have : g = wr.heap.size + 1 := by simpa using hg.symm
          omega
      have hsz2 : w2.heap.size ≤ w3.heap.size := by omega
      have Hsame2 := Lib.hid hsame2
      have Hblk2 := Lib.hid hblk2
      clear hown hown3 hg3 hownA hbA hat3 hsame2 hblk2 hs3 hsA hA
      go_wp2
      go_roundw
      case rel => exact ⟨k + 1, _, rfl, by omega, by go_num, by rw [Hs.out]; exact hown4, hb4, Hsame2.out, Hblk2.out, hsz2⟩
      case measure => simp [intOf]; omega
    · obtain rfl : k = N := by omega
      obtain ⟨oa, oc, rfl⟩ := own_form hown
      have ho := Own.mono (own_ints hown Hin.out) hb0.size
      clear hown hsame hblk
      go_wp2
      go_ret
      exact ⟨⟨_, _, rfl, ho⟩, hb1⟩
end Go.Proofs.Ytknnnebjjjldpaa

/- Chapters 5 and 7: bounds; CountRepairs, the model's and the program's. -/
namespace Go.Proofs.Ytknnnebjjjldpaa
open Go.RowKit
set_option linter.unusedVariables false
set_option maxRecDepth 100000

theorem sizesL_len (d : Dbs) : (sizesL d).length ≤ 14 := by unfold sizesL; rw [List.length_map]; exact blocksL_len d
theorem sizesL_bnd (d : Dbs) : (sizesL d).length ≤ 4611686018427000000 := Nat.le_trans (sizesL_len d) (by decide)
theorem blockL_len (d : Dbs) (i : Int) : (blockL d i).length ≤ 14 := by
  unfold blockL
  split
  · rename_i h
    simp only [Bool.and_eq_true] at h
    have h14 := dbValid_len h.1
    unfold ints blk
    rw [List.length_map]
    exact Nat.le_trans (List.length_filter_le _ _) (by simpa using h14)
  · simp
theorem blockL_bnd (d : Dbs) (i : Int) : (blockL d i).length ≤ 4611686018427000000 := Nat.le_trans (blockL_len d i) (by decide)
/-- The product of the first k numbers. -/
def prodP (l : List Int) (k : Nat) : Int := (l.take k).foldl (· * ·) 1
theorem prodP_succ (l : List Int) (k : Nat) (hk : k < l.length) : prodP l (k + 1) = prodP l k * l[k] := by
  unfold prodP
  rw [List.take_succ_eq_append_getElem hk, List.foldl_append]; rfl
theorem prodP_le (l : List Int) (h : ∀ x, x ∈ l → 0 ≤ x ∧ x ≤ 14) : ∀ k, k ≤ l.length → 0 ≤ prodP l k ∧ prodP l k ≤ ((14 ^ k : Nat) : Int)
  | 0, _ => by simp [prodP]
  | k + 1, hk => by
    have ih := prodP_le l h k (by omega)
    have hx := h l[k] (List.getElem_mem (by omega))
    rw [prodP_succ l k (by omega)]
    refine ⟨Int.mul_nonneg ih.1 hx.1, ?_⟩
    have h1 : prodP l k * l[k] ≤ prodP l k * 14 := Int.mul_le_mul_of_nonneg_left hx.2 ih.1
    have h2 : prodP l k * 14 ≤ ((14 ^ k : Nat) : Int) * 14 := Int.mul_le_mul_of_nonneg_right ih.2 (by decide)
    have h3 : ((14 ^ (k + 1) : Nat) : Int) = ((14 ^ k : Nat) : Int) * 14 := by rw [Nat.pow_succ, Int.natCast_mul]; rfl
    omega
theorem prodP_small (l : List Int) (h : ∀ x, x ∈ l → 0 ≤ x ∧ x ≤ 14) (k : Nat) (hk : k ≤ l.length) (hl : l.length ≤ 14) : 0 ≤ prodP l k ∧ prodP l k ≤ 11112006825558016 := by
  have h1 := prodP_le l h k hk
  have h2 : 14 ^ k ≤ 14 ^ 14 := Nat.pow_le_pow_right (by decide) (by omega)
  have h3 : (14 : Nat) ^ 14 = 11112006825558016 := by decide
  omega
theorem sizesL_in (d : Dbs) : ∀ x, x ∈ sizesL d → 0 ≤ x ∧ x ≤ 14 := by
  intro x hx
  obtain ⟨b, hb, rfl⟩ := List.mem_map.1 hx
  have := blocksL_each d b hb
  omega
/-- The number of repairs. -/
def countL (d : Dbs) : Int := if validDb d then prodP (sizesL d) (sizesL d).length else 0

set_option maxHeartbeats 3200000 in
theorem specCountRepairs_o {a0 a1 : Option Addr} {cap0 cap1 : Nat} {x : Dbs} {w : World} (h : At cDbs w x [.slice a0 x.rels.length cap0, .slice a1 x.facts.length cap1]) :
    Calls Try.prog 44 #[.agg #[.slice a0 x.rels.length cap0, .slice a1 x.facts.length cap1]] w fun e w' => e = .returned (.int .i64 (countL x)) ∧ Below w.heap.size w w' := by
  have H1 : Hid (∀ ww, Below w.heap.size w ww → Calls Try.prog 83 #[.agg #[.slice a0 x.rels.length cap0, .slice a1 x.facts.length cap1]] ww fun e w' => e = .returned (.bool (validDb x)) ∧ Below ww.heap.size ww w') :=
    fun ww hb => specIsValidDatabase_c (At.below h hb (Nat.le_refl _))
  have H2 : Hid (∀ ww, Below w.heap.size w ww → Calls Try.prog 84 #[.agg #[.slice a0 x.rels.length cap0, .slice a1 x.facts.length cap1]] ww fun e w' => (∃ a cap, e = .returned (.slice a (sizesL x).length cap) ∧ Own (cSlice cInt) ww.heap.size w' (sizesL x) [.slice a (sizesL x).length cap]) ∧ Below ww.heap.size ww w') :=
    fun ww hb => specBlockSizes_c (At.below h hb (Nat.le_refl _))
  clear h
  unfold countL
  have hl := sizesL_len x
  have Hsm := Lib.hid (fun k hk => prodP_small (sizesL x) (sizesL_in x) k hk hl)
  generalize sizesL x = S at *
  generalize validDb x = V at *
  obtain ⟨N, hN⟩ : ∃ N, S.length = N := ⟨_, rfl⟩
  have HN := Lib.hid hN
  rw [hN] at H2 hl ⊢
  clear hN
  generalize x.rels.length = nr at *
  generalize x.facts.length = n at *
  obtain ⟨wx, hwx⟩ : ∃ wx, wx = w.alloc (Obj.cells #[.slice a0 nr cap0, .slice a1 n cap1] 64) := ⟨_, rfl⟩
  have hb0 : Below w.heap.size w wx := by rw [hwx]; go_grown
  have p0 : wx.cell? ⟨w.heap.size, 0, none⟩ = some (.slice a0 nr cap0) := by rw [hwx]; go_simp
  have p1 : wx.cell? ⟨w.heap.size, 1, none⟩ = some (.slice a1 n cap1) := by rw [hwx]; go_simp
  have Hwx := Lib.hid hwx
  clear hwx
  cases V with
  | false =>
    rw [if_neg (by decide)]
    clear H2 Hsm
    go_enter Try.func44, Try.ntmps44
    go_wp2_with fail
    rw [← Hwx.out]
    clear Hwx
    refine (H1.out _ hb0).mono ?_
    rintro e w1 ⟨rfl, hb1⟩
    go_wp2
    go_ret
    exact ⟨rfl, hb0.trans (hb1.mono hb0.size)⟩
  | true =>
    rw [if_pos rfl]
    go_enter Try.func44, Try.ntmps44
    go_wp2_with fail
    rw [← Hwx.out]
    clear Hwx
    refine (H1.out _ hb0).mono ?_
    rintro e w1 ⟨rfl, hb1⟩
    have hbb : Below w.heap.size w w1 := hb0.trans (hb1.mono hb0.size)
    replace p0 := cell_next p0 hb1
    replace p1 := cell_next p1 hb1
    clear hb0 hb1 H1
    go_wp2_with fail
    refine (H2.out _ hbb).mono ?_
    rintro e w2 ⟨⟨sa, sc, rfl, ho⟩, hb2⟩
    have hbw : Below w.heap.size w w2 := hbb.trans (hb2.mono hbb.size)
    have hat := ho.at
    have HB : Hid (∀ W', Below w2.heap.size w2 W' → ∀ j (hj : j < S.length), _) := fun W' hb j hj => ints_at (Cod.ok_below hat hb) j hj
    clear ho hat hb2 hbb H2 p0 p1
    go_wp2
    go_loopw [3, 5] (fun cv kv wr => ∃ (k : Nat), k ≤ N ∧ kv = .int .i64 k ∧ cv = .int .i64 (prodP S k) ∧ Below w2.heap.size w2 wr) (fun _ kv _ => N - (intOf kv).toNat)
    case atStart => exact ⟨0, by omega, by go_num, rfl, Below.refl _ _⟩
    case round =>
      obtain ⟨k, hk, rfl, rfl, hbx⟩ := hrel
      have hb1 : Below w.heap.size w wr := hbw.trans (hbx.mono hbw.size)
      by_cases hlt : k < N
      · have hkl : k < S.length := by rw [HN.out]; exact hlt
        obtain ⟨b, off, rfl, hbB, c0⟩ := HB.out _ hbx k hkl
        have Hs := Lib.hid (prodP_succ S k hkl)
        have hc' := Hsm.out (k + 1) hkl
        generalize hcc : prodP S k = c at *
        clear hcc
        generalize S[k] = s at *
        obtain ⟨m, hm⟩ : ∃ m, c * s = m := ⟨_, rfl⟩
        have Hs2 : Hid (prodP S (k + 1) = m) := Hs.out.trans hm
        have hw2 : wrap64 (c * s) = m := by
          rw [Hs.out, hm] at hc'
          rw [hm]
          exact IntWalk.wrap64_in _ ⟨by omega, by omega⟩
        clear hc' hm Hs
        have j1 : (k : Int) < (N : Int) := by omega
        go_wp2
        go_roundw
        case rel => exact ⟨k + 1, by omega, by go_num, by rw [Hs2.out, hw2], hbx⟩
        case measure => simp [intOf]; omega
      · obtain rfl : k = N := by omega
        go_wp2
        go_ret
        exact ⟨rfl, hb1⟩

end Go.Proofs.Ytknnnebjjjldpaa


/- Chapter 5: the model's Blocks. -/
import Derived.Test.YtjeenbjmhlbmfaaBlock1
import Derived.Test.YtjeenbjmhlbmfaaBld
namespace Go.Proofs.Ytjeenbjmhlbmfaa
open Go.RowKit
set_option linter.unusedVariables false
set_option maxRecDepth 100000

/-- What stands of the blocks behind k rounds. -/
def blksPart (d : Dbs) (k : Nat) : List (List Int) := ((List.range k).filter (isFst (keyR d))).map fun i => ints (blk (keyR d) d.facts.length i)
theorem blksPart_succ (d : Dbs) (k : Nat) : blksPart d (k + 1) = if isFst (keyR d) k then blksPart d k ++ [ints (blk (keyR d) d.facts.length k)] else blksPart d k := by
  unfold blksPart
  rw [List.range_succ, List.filter_append, List.map_append]
  cases h : isFst (keyR d) k <;> simp [h]
theorem blksPart_len (d : Dbs) (k : Nat) : (blksPart d k).length ≤ k := by
  unfold blksPart
  rw [List.length_map]
  exact Nat.le_trans (List.length_filter_le _ _) (by simp)
theorem blksPart_all {d : Dbs} (h : validDb d = true) : blksPart d d.facts.length = blocksL d := by
  unfold blocksL
  rw [if_pos h, blks_eq (conv_db h) _ (Nat.le_refl _)]
  unfold blksPart blksS fsts
  rw [List.map_map]; rfl

set_option maxHeartbeats 3200000 in
theorem specBlocks_c {a0 a1 : Option Addr} {cap0 cap1 : Nat} {x : Dbs} {w : World} (h : At cDbs w x [.slice a0 x.rels.length cap0, .slice a1 x.facts.length cap1]) :
    Calls Try.prog 33 #[.agg #[.slice a0 x.rels.length cap0, .slice a1 x.facts.length cap1]] w fun e w' => (∃ a cap, e = .returned (.slice a (blocksL x).length cap) ∧ Own (cSlice (cSlice cInt)) w.heap.size w' (blocksL x) [.slice a (blocksL x).length cap]) ∧ Below w.heap.size w w' := by
  have hm := (slice_len (cDbs_inv h).2).2
  unfold maxLen at hm
  have H1 : Hid (∀ ww, Below w.heap.size w ww → Calls Try.prog 80 #[.agg #[.slice a0 x.rels.length cap0, .slice a1 x.facts.length cap1]] ww fun e w' => e = .returned (.bool (validDb x)) ∧ Below ww.heap.size ww w') :=
    fun ww hb => specIsValidDatabase_c (At.below h hb (Nat.le_refl _))
  have H2 : Hid (∀ ww, Below w.heap.size w ww → ∀ i : Int, Calls Try.prog 41 #[.agg #[.slice a0 x.rels.length cap0, .slice a1 x.facts.length cap1], .int .i64 i] ww fun e w' => (∃ a cap, e = .returned (.slice a (blockL x i).length cap) ∧ Own (cSlice cInt) ww.heap.size w' (blockL x i) [.slice a (blockL x i).length cap]) ∧ Below ww.heap.size ww w') :=
    fun ww hb i => specBlockOf_c (At.below h hb (Nat.le_refl _))
  clear h
  obtain ⟨i0, hi, hz0, hz1, hz2⟩ := info_parts Try.infoIntS
  by_cases hV : validDb x = true
  · rw [← blksPart_all hV]
    have h14 := dbValid_len hV
    have HB : Hid (∀ k, k < x.facts.length → ∃ q t, ints (blk (keyR x) x.facts.length k) = (q : Int) :: t ∧ decide (q = (k : Int)) = isFst (keyR x) k ∧ blockL x (k : Int) = ints (blk (keyR x) x.facts.length k)) := by
      intro k hk
      obtain ⟨q, t, h1, h2⟩ := blk_head (conv_db hV) (Nat.le_refl _) hk
      refine ⟨(q : Int), ints t, by rw [h1]; rfl, by rw [← h2]; exact decide_eq_decide.2 (by omega), ?_⟩
      unfold blockL
      rw [hV, show inB (k : Int) 0 ((x.facts.length : Int) - 1) = true by unfold inB; simp; omega]
      rfl
    rw [hV] at H1
    obtain ⟨n, hn⟩ : ∃ n : Nat, x.facts.length = n := ⟨_, rfl⟩
    obtain ⟨nr, hnr⟩ : ∃ n : Nat, x.rels.length = n := ⟨_, rfl⟩
    rw [hn] at hm H1 H2 HB h14 ⊢
    rw [hnr] at H1 H2 ⊢
    have HST : Hid (∀ k, blksPart x (k + 1) = if isFst (keyR x) k then blksPart x k ++ [ints (blk (keyR x) n k)] else blksPart x k) := by
      intro k
      have := blksPart_succ x k
      rw [hn] at this
      exact this
    clear hn hnr hV
    obtain ⟨wx, hwx⟩ : ∃ wx, wx = w.alloc (Obj.cells #[.slice a0 nr cap0, .slice a1 n cap1] 47) := ⟨_, rfl⟩
    have hb0 : Below w.heap.size w wx := by rw [hwx]; go_grown
    have hws : wx.heap.size = w.heap.size + 1 := by rw [hwx]; simp
    have p0 : wx.cell? ⟨w.heap.size, 0, none⟩ = some (.slice a0 nr cap0) := by rw [hwx]; go_simp
    have p1 : wx.cell? ⟨w.heap.size, 1, none⟩ = some (.slice a1 n cap1) := by rw [hwx]; go_simp
    have hbe : Below wx.heap.size wx (wx.alloc (Obj.cells #[] 23)) := by go_grown
    have hB0 : Bld wx.heap.size (wx.alloc (Obj.cells #[] 23)).heap.size (wx.alloc (Obj.cells #[] 23)) (.slice (some ⟨w.heap.size + 1, 0, none⟩) 0 0) (blksPart x 0) [] [] := by
      rw [← hws]
      exact ⟨rfl, row_empty wx 23 wx.heap.size (Nat.le_refl _), by simp, fun g hg => by simp [Value.ownBlock] at hg; simp; omega, Nat.le_refl _⟩
    have Hwx := Lib.hid hwx
    clear hwx hws
    go_enter Try.func33, Try.ntmps33
    go_wp2_with fail
    rw [← Hwx.out]
    clear Hwx
    go_loopw [3, 4] (fun ov kv wr => ∃ (k : Nat) (o : Value) (F : List Nat) (css : List (List Value)), o = ov ∧ k ≤ n ∧ kv = .int .i64 k ∧ Bld wx.heap.size wr.heap.size wr o (blksPart x k) F css ∧ Below wx.heap.size wx wr) (fun _ kv _ => n - (intOf kv).toNat)
    case atStart => exact ⟨0, _, _, _, rfl, by omega, by go_num, hB0, hbe⟩
    case round =>
      clear hB0 hbe
      obtain ⟨k, o, F, css, rfl, hk, rfl, hB, hbx⟩ := hrel
      have hxr := hbx.size
      have q0 := (hbx.cell (World.block_lt_of_cell? wx _ p0)).trans p0
      have q1 := (hbx.cell (World.block_lt_of_cell? wx _ p1)).trans p1
      have hb1 : Below w.heap.size w wr := hb0.trans (hbx.mono hb0.size)
      clear p0 p1
      by_cases hlt : k < n
      · have j1 : (k : Int) < (n : Int) := by omega
        go_wp2_with fail
        refine (H1.out _ hb1).mono ?_
        rintro e w2 ⟨rfl, hb2⟩
        have hb3 : Below w.heap.size w w2 := hb1.trans (hb2.mono hb1.size)
        have hby : Below wx.heap.size wx w2 := hbx.trans (hb2.mono hbx.size)
        replace q0 := cell_next q0 hb2
        replace q1 := cell_next q1 hb2
        replace hB := hB.next hb2
        have hsz := hb2.size
        clear hb1 hb2 hbx
        obtain ⟨q, t, hbq, hqd, hbl⟩ := HB.out k hlt
        have Hc : Hid (Calls Try.prog 41 #[.agg #[.slice a0 nr cap0, .slice a1 n cap1], .int .i64 k] w2 fun e w' => (∃ a cap, e = .returned (.slice a (q :: t).length cap) ∧ Own (cSlice cInt) w2.heap.size w' (q :: t) [.slice a (q :: t).length cap]) ∧ Below w2.heap.size w2 w') := by
          have hc := H2.out w2 hb3 (k : Int)
          rw [hbl, hbq] at hc
          exact hc
        have Hst := Lib.hid (HST.out k)
        rw [hbq] at Hst
        have hlen := blksPart_len x k
        clear hbq hbl
        generalize isFst (keyR x) k = z at *
        generalize hcu : blksPart x k = cur at *
        clear hcu
        go_wp2_with fail
        refine Hc.out.mono ?_
        rintro e w3 ⟨⟨ba, bc, rfl, ho⟩, hb4⟩
        have hbz : Below wx.heap.size wx w3 := hby.trans (hb4.mono hby.size)
        have hB3 := hB.next hb4
        obtain ⟨G, hG, hGr⟩ := ho
        obtain ⟨bb, boff, rfl, _, u0⟩ := ints_at (B := w3.heap.size) ((cSlice cInt).ofO hG (fun k hk => (hGr k hk).2)) 0 (by simp)
        simp only [List.getElem_cons_zero, Nat.add_zero] at u0
        obtain ⟨L, hL⟩ : ∃ L, (q :: t).length = L := ⟨_, rfl⟩
        have hLp : 0 < L := by rw [← hL]; simp
        have hG2 := hG
        rw [hL] at hG
        rw [hL]
        clear hG2
        have HG := Lib.hid hG
        have hsz4 := hb4.size
        clear hB hG q0 q1 Hc hb4 hby
        cases z with
        | false =>
          have Hs : Hid (blksPart x (k + 1) = cur) := Hst.out
          have hqn : (q == (k : Int)) = false := by have := of_decide_eq_false hqd; simp [this]
          clear Hst hqd
          go_wp2
          go_roundw
          case rel => exact ⟨k + 1, _, _, _, rfl, by omega, by go_num, by rw [Hs.out]; exact hB3.wide (by omega) (Nat.le_refl _), hbz⟩
          case measure => simp [intOf]; omega
        | true =>
          have Hs : Hid (blksPart x (k + 1) = cur ++ [q :: t]) := Hst.out
          have hqn : q = (k : Int) := of_decide_eq_true hqd
          clear Hst hqd
          subst hqn
          have hbA : Below w3.heap.size w3 (w3.alloc (.cells #[.slice (some ⟨bb, boff, none⟩) L bc] 23)) := by go_grown
          have hB4 := hB3.next hbA
          have hGA : (cSlice cInt).own G (w3.alloc (.cells #[.slice (some ⟨bb, boff, none⟩) L bc] 23)) ((k : Int) :: t) [.slice (some ⟨bb, boff, none⟩) L bc] := (cSlice cInt).keepO HG.out (fun k hk => hbA.block k (hGr k hk).2)
          have HGA := Lib.hid hGA
          have HB4 := Lib.hid hB4
          have HhG : Hid (∀ k, k ∈ G → wr.heap.size ≤ k ∧ k < (w3.alloc (.cells #[.slice (some ⟨bb, boff, none⟩) L bc] 23)).heap.size) := fun k hk => by have := hGr k hk; simp; omega
          have hlenc : cur.length ≤ 14 := by omega
          clear hGA hB4 hGr
          go_wp2_with (at_builtin; refine wpList_app rfl _ _ _ (by rfl) wx.heap.size 23 i0 (.slice none 0 0) 1 24 Try.underlying50 hi hz0 hz1 hz2 rfl (by omega) o cur.length css.flatten (by rfl) HB4.out.2.1 _ _ _ [.slice (some ⟨bb, boff, none⟩) L bc] (by rfl) (srcs_one w3 _ _ rfl) ?c1 ?c2 ?c3 ?_)
          case c1 => unfold maxLen; omega
          case c2 => omega
          case c3 => exact Nat.le_trans hbz.size hbA.size
          intro v1 w4 hown4 hg4 hat4
          have hBn := HB4.out.push HGA.out HhG.out hxr hown4 hg4 (by simpa using hat4)
          have hb5 : Below wx.heap.size wx w4 := Below.grownOwn (hbz.trans (hbA.mono hbz.size)) hg4 HB4.out.2.1 (Nat.le_refl _)
          clear hown4 hg4 hat4 HB4 HGA HhG hbA
          go_wp2
          go_roundw
          case rel => exact ⟨k + 1, _, _, _, rfl, by omega, by go_num, by rw [Hs.out]; exact hBn, hb5⟩
          case measure => simp [intOf]; omega
      · obtain rfl : k = n := by omega
        obtain ⟨oa, oc, rfl, ho⟩ := hB.form (by have := blksPart_len x k; unfold maxLen; omega)
        have ho2 := Own.mono ho hb0.size
        clear hB ho
        go_wp2
        go_ret
        exact ⟨⟨_, _, rfl, ho2⟩, hb1⟩
  · have hVf : validDb x = false := by simpa using hV
    unfold blocksL
    rw [if_neg hV]
    rw [hVf] at H1
    clear hV hVf H2
    obtain ⟨n, hn⟩ : ∃ n : Nat, x.facts.length = n := ⟨_, rfl⟩
    obtain ⟨nr, hnr⟩ : ∃ n : Nat, x.rels.length = n := ⟨_, rfl⟩
    rw [hn] at hm H1
    rw [hnr] at H1
    rw [hn, hnr]
    clear hn hnr
    obtain ⟨wx, hwx⟩ : ∃ wx, wx = w.alloc (Obj.cells #[.slice a0 nr cap0, .slice a1 n cap1] 47) := ⟨_, rfl⟩
    have hb0 : Below w.heap.size w wx := by rw [hwx]; go_grown
    have p0 : wx.cell? ⟨w.heap.size, 0, none⟩ = some (.slice a0 nr cap0) := by rw [hwx]; go_simp
    have p1 : wx.cell? ⟨w.heap.size, 1, none⟩ = some (.slice a1 n cap1) := by rw [hwx]; go_simp
    have ho : ∀ W, Own (cSlice (cSlice cInt)) w.heap.size W [] [.slice (some ⟨w.heap.size + 1, 0, none⟩) 0 0] := fun W => Own.empty _ _ _ _
    have Ho := Lib.hid ho
    have hbe : Below wx.heap.size wx (wx.alloc (Obj.cells #[] 23)) := by go_grown
    have Hwx := Lib.hid hwx
    clear hwx ho
    go_enter Try.func33, Try.ntmps33
    go_wp2_with fail
    rw [← Hwx.out]
    clear Hwx
    go_loopw [3, 4] (fun ov kv wr => ov = .slice (some ⟨w.heap.size + 1, 0, none⟩) 0 0 ∧ kv = .int .i64 0 ∧ Below wx.heap.size wx wr) (fun _ kv _ => n - (intOf kv).toNat)
    case atStart => exact ⟨rfl, rfl, hbe⟩
    case round =>
      clear hbe
      obtain ⟨rfl, rfl, hbx⟩ := hrel
      have q0 := (hbx.cell (World.block_lt_of_cell? wx _ p0)).trans p0
      have q1 := (hbx.cell (World.block_lt_of_cell? wx _ p1)).trans p1
      have hb1 : Below w.heap.size w wr := hb0.trans (hbx.mono hb0.size)
      clear p0 p1
      rcases Nat.eq_zero_or_pos n with hn0 | hn0
      · subst hn0
        go_wp2
        go_ret
        exact ⟨⟨_, _, rfl, Ho.out _⟩, hb1⟩
      · have g1 : decide ((0 : Int) < (n : Int)) = true := decide_eq_true (by omega)
        have g2 : decide (0 < n) = true := decide_eq_true hn0
        go_wp2_with fail
        refine (H1.out _ hb1).mono ?_
        rintro e w2 ⟨rfl, hb2⟩
        have hb3 : Below w.heap.size w w2 := hb1.trans (hb2.mono hb1.size)
        clear hb1 hb2 hbx
        go_wp2
        go_ret
        exact ⟨⟨_, _, rfl, Ho.out _⟩, hb3⟩
end Go.Proofs.Ytjeenbjmhlbmfaa


/- BlockOne: Block1 Block2 Lst Block3. -/
import Derived.Test.YtpofglamcaikfaaBlkOne
import Derived.Test.YtpofglamcaikfaaKey2
import Derived.Test.YtpofglamcaikfaaBld
/- Chapter 5: the model's BlockOf. -/
namespace Go.Proofs.Ytpofglamcaikfaa
open Go.RowKit
set_option linter.unusedVariables false
set_option maxRecDepth 100000

theorem srcs_one (w : World) (v : Value) (e : TypeId) (h : v.oneCell' = true) : Srcs (w.alloc (.cells #[v] e)) 1 (some ⟨w.heap.size, 0, none⟩) 1 [v] :=
  ⟨rfl, fun u hu => by simp at hu; subst hu; exact h, .inr ⟨_, rfl, one_at w v e⟩⟩
theorem own_form {w : World} {base : Nat} {e : TypeId} {v : Value} {n : Nat} {xs : List Value} (h : w.ownsRow base e 1 v n xs) : ∃ a cap, v = .slice a n cap := by
  rcases h.2 with ⟨rfl, h0⟩ | ⟨g, cp, cur, rfl, _⟩
  · exact ⟨none, 0, by rw [h0]⟩
  · exact ⟨_, _, rfl⟩
/-- A row grown by one number. -/
theorem own_push {w w' : World} {base : Nat} {e : TypeId} {v' : Value} {n : Nat} {l : List Int} {x : Int} (h : w'.ownsRow base e 1 v' (n + 1) (l.map iv ++ [.int .i64 x])) : w'.ownsRow base e 1 v' (l ++ [x]).length ((l ++ [x]).map iv) := by
  have hn := h.1
  simp at hn
  rw [List.map_append, List.length_append, List.length_singleton]
  subst hn
  exact h
theorem ints_snoc (l : List Nat) (n : Nat) : ints (l ++ [n]) = ints l ++ [(n : Int)] := by unfold ints; simp
/-- What stands of the block behind k rounds. -/
def blkPart (d : Dbs) (i k : Nat) : List Int := ints ((List.range k).filter (keyR d i))
theorem blkPart_succ (d : Dbs) (i k : Nat) : blkPart d i (k + 1) = if keyR d i k then blkPart d i k ++ [(k : Int)] else blkPart d i k := by
  unfold blkPart
  rw [List.range_succ, List.filter_append]
  cases h : keyR d i k
  · simp [h]
  · simp [h, ints]
theorem blkPart_len (d : Dbs) (i k : Nat) : (blkPart d i k).length ≤ k := by
  unfold blkPart ints
  rw [List.length_map]
  exact Nat.le_trans (List.length_filter_le _ _) (by simp)
theorem blkPart_inR (d : Dbs) (i k : Nat) (hk : k ≤ 14) : ∀ x, x ∈ blkPart d i k → inR x :=
  ints_inR fun x hx => by
    have := List.mem_range.1 (List.mem_filter.1 hx).1
    omega

set_option maxHeartbeats 3200000 in
theorem specBlockOf_c {a0 a1 : Option Addr} {cap0 cap1 : Nat} {x : Dbs} {i : Int} {w : World} (h : At cDbs w x [.slice a0 x.rels.length cap0, .slice a1 x.facts.length cap1]) :
    Calls Try.prog 26 #[.agg #[.slice a0 x.rels.length cap0, .slice a1 x.facts.length cap1], .int .i64 i] w fun e w' => (∃ a cap, e = .returned (.slice a (blockL x i).length cap) ∧ Own (cSlice cInt) w.heap.size w' (blockL x i) [.slice a (blockL x i).length cap]) ∧ Below w.heap.size w w' := by
  have hx0 := (cDbs_inv h).1
  have hx1 := (cDbs_inv h).2
  have hm := (slice_len hx1).2
  unfold maxLen at hm
  have HF : Hid (∀ w' : World, Below w.heap.size w w' → ∀ j (hj : j < x.facts.length), _) := fun w' hb j hj => at_Fact (Cod.ok_below hx1 hb) j hj
  have H1 : Hid (∀ ww, Below w.heap.size w ww → Calls Try.prog 25 #[.agg #[.slice a0 x.rels.length cap0, .slice a1 x.facts.length cap1]] ww fun e w' => e = .returned (.bool (validDb x)) ∧ Below ww.heap.size ww w') :=
    fun ww hb => specIsValidDatabase_c (At.below h hb (Nat.le_refl _))
  have H2 : Hid (∀ ww, Below w.heap.size w ww → ∀ (f g : Fct) (af ag : Option Addr) (cf cg : Nat), At cFct ww f [.int .i64 f.rel, .slice af f.vals.length cf] → At cFct ww g [.int .i64 g.rel, .slice ag g.vals.length cg] → Calls Try.prog 39 #[.slice a0 x.rels.length cap0, .agg #[.int .i64 f.rel, .slice af f.vals.length cf], .agg #[.int .i64 g.rel, .slice ag g.vals.length cg]] ww fun e w' => e = .returned (.bool (haveKey x.rels f g)) ∧ Below ww.heap.size ww w') :=
    fun ww hb f g af ag cf cg hA hB => specHaveSameKey_c (At.below hx0 hb (Nat.le_refl _)) hA hB
  have HV : Hid (validDb x = true → x.facts.length ≤ 14 ∧ ∀ j (hj : j < x.facts.length), validFact x.rels x.facts[j] = true) := fun hv => ⟨dbValid_len hv, fun j hj => dbValid_fact hv j hj⟩
  have HK : Hid (∀ j k (hj : j < x.facts.length) (hk : k < x.facts.length), keyR x j k = sameKey x.rels x.facts[j] x.facts[k]) := fun j k hj hk => keyR_at hj hk
  clear h hx0 hx1
  unfold blockL
  have hP : ∀ j, blk (keyR x) x.facts.length j = (List.range x.facts.length).filter (keyR x j) := fun j => rfl
  have hI : inB i 0 ((x.facts.length : Int) - 1) = true → 0 ≤ i ∧ i ≤ (x.facts.length : Int) - 1 := by unfold inB; simp
  have hwn : wrap64 ((x.facts.length : Int) - 1) = (x.facts.length : Int) - 1 := IntWalk.wrap64_in _ ⟨by omega, by omega⟩
  have HI : Hid (∀ ww, Calls Try.prog 38 #[.int .i64 i, .int .i64 0, .int .i64 ((x.facts.length : Int) - 1)] ww fun e w' => e = .returned (.bool (inB i 0 ((x.facts.length : Int) - 1))) ∧ ww = w') := fun ww => l1In_any _ _ _ _
  obtain ⟨i0, hi, hz0, hz1, hz2⟩ := info_parts Try.infoI
  by_cases hG : (validDb x && inB i 0 ((x.facts.length : Int) - 1)) = true
  · rw [if_pos hG]
    simp only [Bool.and_eq_true] at hG
    obtain ⟨hv, hin⟩ := hG
    rw [hv] at H1
    rw [hin] at HI
    obtain ⟨h14, hvf⟩ := HV.out hv
    obtain ⟨ha, hb⟩ := hI hin
    obtain ⟨p, rfl⟩ := Int.eq_ofNat_of_zero_le ha
    rw [show ((p : Int)).toNat = p from rfl, hP]
    have Hvf := Lib.hid hvf
    clear hI hv hin HV hvf ha hP
    have hpl : p < x.facts.length := by omega
    obtain ⟨n, hn⟩ : ∃ n : Nat, x.facts.length = n := ⟨_, rfl⟩
    obtain ⟨nr, hnr⟩ : ∃ n : Nat, x.rels.length = n := ⟨_, rfl⟩
    have Hn := Lib.hid hn
    have Hres : Hid (ints ((List.range n).filter (keyR x p)) = blkPart x p n) := rfl
    rw [hn] at hm HI h14 hb hwn H1 ⊢
    rw [hnr] at H1 H2 ⊢
    rw [Hres.out]
    clear hn hnr
    have hp : p < n := by omega
    have i1 : (0 : Int) ≤ (p : Int) := Int.natCast_nonneg _
    have i2 : (p : Int) < (n : Int) := by omega
    obtain ⟨wx, hwx⟩ : ∃ wx, wx = w.alloc (Obj.cells #[.slice a0 nr cap0, .slice a1 n cap1] 32) := ⟨_, rfl⟩
    have hb0 : Below w.heap.size w wx := by rw [hwx]; go_grown
    have hws : wx.heap.size = w.heap.size + 1 := by rw [hwx]; simp
    have p0 : wx.cell? ⟨w.heap.size, 0, none⟩ = some (.slice a0 nr cap0) := by rw [hwx]; go_simp
    have p1 : wx.cell? ⟨w.heap.size, 1, none⟩ = some (.slice a1 n cap1) := by rw [hwx]; go_simp
    have hown0 : (wx.alloc (Obj.cells #[] 3)).ownsRow wx.heap.size 3 1 (.slice (some ⟨w.heap.size + 1, 0, none⟩) 0 0) (blkPart x p 0).length ((blkPart x p 0).map iv) := by
      rw [← hws]
      exact row_empty wx 3 wx.heap.size (Nat.le_refl _)
    have hbe : Below wx.heap.size wx (wx.alloc (Obj.cells #[] 3)) := by go_grown
    have Hws := Lib.hid hws
    have Hwx := Lib.hid hwx
    clear hwx hws
    go_enter Try.func26, Try.ntmps26
    go_wp2_with fail
    rw [← Hwx.out]
    clear Hwx
    go_loopw [5, 6] (fun ov kv wr => ∃ (k : Nat) (o : Value), o = ov ∧ k ≤ n ∧ kv = .int .i64 k ∧ wr.ownsRow wx.heap.size 3 1 o (blkPart x p k).length ((blkPart x p k).map iv) ∧ Below wx.heap.size wx wr) (fun _ kv _ => n - (intOf kv).toNat)
    case atStart => exact ⟨0, _, rfl, by omega, by go_num, hown0, hbe⟩
    case round =>
      clear hown0 hbe
      obtain ⟨k, o, rfl, hk, rfl, hown, hbx⟩ := hrel
      have q0 := (hbx.cell (World.block_lt_of_cell? wx _ p0)).trans p0
      have q1 := (hbx.cell (World.block_lt_of_cell? wx _ p1)).trans p1
      have hb1 : Below w.heap.size w wr := hb0.trans (hbx.mono hb0.size)
      clear p0 p1
      by_cases hlt : k < n
      · have hkl : k < x.facts.length := by rw [Hn.out]; exact hlt
        have hplx : p < x.facts.length := by rw [Hn.out]; exact hp
        have j1 : (k : Int) < (n : Int) := by omega
        go_wp2_with fail
        refine (H1.out _ hb1).mono ?_
        rintro e w2 ⟨rfl, hb2⟩
        have hb3 : Below w.heap.size w w2 := hb1.trans (hb2.mono hb1.size)
        have hby : Below wx.heap.size wx w2 := hbx.trans (hb2.mono hbx.size)
        replace q0 := cell_next q0 hb2
        replace q1 := cell_next q1 hb2
        replace hown := ownsRow_below hown hb2
        clear hb1 hb2 hbx
        go_wp2_with fail
        refine (HI.out _).mono ?_
        rintro e w' ⟨rfl, rfl⟩
        obtain ⟨b, off, av, cv, rfl, hbB, c0, c1, hx⟩ := HF.out _ hb3 p hplx
        obtain ⟨b', off', av', cv', e', hbB', d0, d1, hy⟩ := HF.out _ hb3 k hkl
        obtain ⟨rfl, rfl⟩ : b = b' ∧ off = off' := by simp at e'; exact e'
        have hA : At cFct w2 x.facts[p] [.int .i64 x.facts[p].rel, .slice av x.facts[p].vals.length cv] := cFct.keep hx (fun _ _ => rfl) hb3.size
        have hA' : At cFct w2 x.facts[k] [.int .i64 x.facts[k].rel, .slice av' x.facts[k].vals.length cv'] := cFct.keep hy (fun _ _ => rfl) hb3.size
        have Hc : Hid (∀ ww, Below w2.heap.size w2 ww → Calls Try.prog 39 #[.slice a0 nr cap0, .agg #[.int .i64 x.facts[p].rel, .slice av x.facts[p].vals.length cv], .agg #[.int .i64 x.facts[k].rel, .slice av' x.facts[k].vals.length cv']] ww fun e w' => e = .returned (.bool (keyR x p k)) ∧ Below ww.heap.size ww w') := by
          intro ww hw2
          have hc := H2.out ww (hb3.trans (hw2.mono hb3.size)) _ _ av av' cv cv' (At.below hA hw2 (Nat.le_refl _)) (At.below hA' hw2 (Nat.le_refl _))
          have he : haveKey x.rels x.facts[p] x.facts[k] = keyR x p k := by
            unfold haveKey
            rw [Hvf.out p hplx, Hvf.out k hkl, HK.out p k hplx hkl]; rfl
          rw [he] at hc
          exact hc
        have C0 := grow_cell c0
        have C1 := grow_cell c1
        have D0 := grow_cell d0
        have D1 := grow_cell d1
        have Q0 := grow_cell q0
        have Q1 := grow_cell q1
        have Hst := Lib.hid (blkPart_succ x p k)
        have hlen := blkPart_len x p k
        clear hx hy hA hA' c0 c1 d0 d1 e' hbB'
        generalize keyR x p k = z at *
        generalize x.facts[p] = fp at *
        generalize x.facts[k] = fk at *
        generalize hcu : blkPart x p k = cur at *
        clear hcu
        cases z with
        | false =>
          have Hs : Hid (blkPart x p (k + 1) = cur) := Hst.out
          clear Hst
          go_wp2_with fail
          refine wp_region_grow (by kernel_rfl) (by kernel_rfl) ?_
          repeat (go_big_quiet_step ((go_at_call 39; exact Calls.grow fun ww h => Hc.out ww h)))
          refine wpQuiet_nil ?_
          rintro _ ⟨nq, rfl⟩
          go_wp2
          go_roundw
          case rel => exact ⟨k + 1, _, rfl, by omega, by go_num, by rw [Hs.out]; exact ownsRow_below hown nq.below, hby.trans (nq.below.mono hby.size)⟩
          case measure => simp [intOf]; omega
        | true =>
          have Hs : Hid (blkPart x p (k + 1) = cur ++ [(k : Int)]) := Hst.out
          clear Hst
          go_wp2_with fail
          refine wp_region_grow (by kernel_rfl) (by kernel_rfl) ?_
          repeat (go_big_quiet_step ((go_at_call 39; exact Calls.grow fun ww h => Hc.out ww h)))
          refine wpQuiet_nil ?_
          rintro _ ⟨nq, rfl⟩
          replace hown := ownsRow_below hown nq.below
          have hbz : Below wx.heap.size wx nq.W := hby.trans (nq.below.mono hby.size)
          clear Q0 Q1 C0 C1 D0 D1 Hc
          generalize nq.W = wz at *
          clear nq
          have hownA : (wz.alloc (.cells #[.int .i64 (k : Int)] 3)).ownsRow wx.heap.size 3 1 o cur.length (cur.map iv) := ownsRow_below hown (by go_grown)
          have hbA : Below wx.heap.size wx (wz.alloc (.cells #[.int .i64 (k : Int)] 3)) := hbz.trans ((by go_grown : Below wz.heap.size wz _).mono hbz.size)
          go_wp2_with (at_builtin; refine wpList_app rfl _ _ _ (by rfl) wx.heap.size 3 i0 (.int .i64 0) 1 8 Try.underlying27 hi hz0 hz1 hz2 rfl (by omega) o cur.length (cur.map iv) (by rfl) hownA _ _ _ [.int .i64 (k : Int)] (by rfl) (srcs_one wz _ _ rfl) ?c1 ?c2 ?c3 ?_)
          case c1 => unfold maxLen; omega
          case c2 => omega
          case c3 => exact hbA.size
          intro v1 w3 hown3 hg3 _
          have hown4 := own_push (w := w3) hown3
          have hb4 : Below wx.heap.size wx w3 := Below.grownOwn hbA hg3 hownA (Nat.le_refl _)
          clear hown hown3 hg3 hownA hbA
          go_wp2
          go_roundw
          case rel => exact ⟨k + 1, _, rfl, by omega, by go_num, by rw [Hs.out]; exact hown4, hb4⟩
          case measure => simp [intOf]; omega
      · obtain rfl : k = n := by omega
        obtain ⟨oa, oc, rfl⟩ := own_form hown
        have ho := Own.mono (own_ints hown (blkPart_inR x p k h14)) hb0.size
        clear hown
        go_wp2
        go_ret
        exact ⟨⟨_, _, rfl, ho⟩, hb1⟩
  · rw [if_neg hG]
    have hVI : validDb x = true → inB i 0 ((x.facts.length : Int) - 1) = false := by
      intro hv
      cases hi2 : inB i 0 ((x.facts.length : Int) - 1)
      · rfl
      · exact absurd (by rw [hv, hi2]; rfl) hG
    clear hI hP hG HV HK H2 HF
    obtain ⟨n, hn⟩ : ∃ n : Nat, x.facts.length = n := ⟨_, rfl⟩
    obtain ⟨nr, hnr⟩ : ∃ n : Nat, x.rels.length = n := ⟨_, rfl⟩
    rw [hn] at hm HI hwn H1 hVI
    rw [hnr] at H1
    rw [hn, hnr]
    clear hn hnr
    generalize validDb x = V at *
    generalize inB i 0 ((n : Int) - 1) = I at *
    obtain ⟨wx, hwx⟩ : ∃ wx, wx = w.alloc (Obj.cells #[.slice a0 nr cap0, .slice a1 n cap1] 32) := ⟨_, rfl⟩
    have hb0 : Below w.heap.size w wx := by rw [hwx]; go_grown
    have hws : wx.heap.size = w.heap.size + 1 := by rw [hwx]; simp
    have p0 : wx.cell? ⟨w.heap.size, 0, none⟩ = some (.slice a0 nr cap0) := by rw [hwx]; go_simp
    have p1 : wx.cell? ⟨w.heap.size, 1, none⟩ = some (.slice a1 n cap1) := by rw [hwx]; go_simp
    have ho : ∀ W, Own (cSlice cInt) w.heap.size W [] [.slice (some ⟨w.heap.size + 1, 0, none⟩) 0 0] := fun W => Own.empty _ _ _ _
    have Ho := Lib.hid ho
    have hbe : Below wx.heap.size wx (wx.alloc (Obj.cells #[] 3)) := by go_grown
    have Hwx := Lib.hid hwx
    clear hwx ho
    go_enter Try.func26, Try.ntmps26
    go_wp2_with fail
    rw [← Hwx.out]
    clear Hwx
    go_loopw [5, 6] (fun ov kv wr => ov = .slice (some ⟨w.heap.size + 1, 0, none⟩) 0 0 ∧ kv = .int .i64 0 ∧ Below wx.heap.size wx wr) (fun _ kv _ => n - (intOf kv).toNat)
    case atStart => exact ⟨rfl, rfl, hbe⟩
    case round =>
      clear hbe
      obtain ⟨rfl, rfl, hbx⟩ := hrel
      have q0 := (hbx.cell (World.block_lt_of_cell? wx _ p0)).trans p0
      have q1 := (hbx.cell (World.block_lt_of_cell? wx _ p1)).trans p1
      have hb1 : Below w.heap.size w wr := hb0.trans (hbx.mono hb0.size)
      clear p0 p1
      rcases Nat.eq_zero_or_pos n with hn0 | hn0
      · subst hn0
        go_wp2
        go_ret
        exact ⟨⟨_, _, rfl, Ho.out _⟩, hb1⟩
      · have g1 : decide ((0 : Int) < (n : Int)) = true := decide_eq_true (by omega)
        have g2 : decide (0 < n) = true := decide_eq_true hn0
        go_wp2_with fail
        refine (H1.out _ hb1).mono ?_
        rintro e w2 ⟨rfl, hb2⟩
        have hb3 : Below w.heap.size w w2 := hb1.trans (hb2.mono hb1.size)
        replace q0 := cell_next q0 hb2
        replace q1 := cell_next q1 hb2
        clear hb1 hb2 hbx
        cases V with
        | false =>
          go_wp2
          go_ret
          exact ⟨⟨_, _, rfl, Ho.out _⟩, hb3⟩
        | true =>
          have hIf := hVI rfl
          subst hIf
          clear hVI
          go_wp2_with fail
          refine (HI.out _).mono ?_
          rintro e w' ⟨rfl, rfl⟩
          go_wp2
          go_ret
          exact ⟨⟨_, _, rfl, Ho.out _⟩, hb3⟩
end Go.Proofs.Ytpofglamcaikfaa

/- Chapter 5: the model's Blocks. -/
namespace Go.Proofs.Ytpofglamcaikfaa
open Go.RowKit
set_option linter.unusedVariables false
set_option maxRecDepth 100000

/-- What stands of the blocks behind k rounds. -/
def blksPart (d : Dbs) (k : Nat) : List (List Int) := ((List.range k).filter (isFst (keyR d))).map fun i => ints (blk (keyR d) d.facts.length i)
theorem blksPart_succ (d : Dbs) (k : Nat) : blksPart d (k + 1) = if isFst (keyR d) k then blksPart d k ++ [ints (blk (keyR d) d.facts.length k)] else blksPart d k := by
  unfold blksPart
  rw [List.range_succ, List.filter_append, List.map_append]
  cases h : isFst (keyR d) k <;> simp [h]
theorem blksPart_len (d : Dbs) (k : Nat) : (blksPart d k).length ≤ k := by
  unfold blksPart
  rw [List.length_map]
  exact Nat.le_trans (List.length_filter_le _ _) (by simp)
theorem blksPart_all {d : Dbs} (h : validDb d = true) : blksPart d d.facts.length = blocksL d := by
  unfold blocksL
  rw [if_pos h, blks_eq (conv_db h) _ (Nat.le_refl _)]
  unfold blksPart blksS fsts
  rw [List.map_map]; rfl

set_option maxHeartbeats 3200000 in
theorem specBlocks_c {a0 a1 : Option Addr} {cap0 cap1 : Nat} {x : Dbs} {w : World} (h : At cDbs w x [.slice a0 x.rels.length cap0, .slice a1 x.facts.length cap1]) :
    Calls Try.prog 15 #[.agg #[.slice a0 x.rels.length cap0, .slice a1 x.facts.length cap1]] w fun e w' => (∃ a cap, e = .returned (.slice a (blocksL x).length cap) ∧ Own (cSlice (cSlice cInt)) w.heap.size w' (blocksL x) [.slice a (blocksL x).length cap]) ∧ Below w.heap.size w w' := by
  have hm := (slice_len (cDbs_inv h).2).2
  unfold maxLen at hm
  have H1 : Hid (∀ ww, Below w.heap.size w ww → Calls Try.prog 25 #[.agg #[.slice a0 x.rels.length cap0, .slice a1 x.facts.length cap1]] ww fun e w' => e = .returned (.bool (validDb x)) ∧ Below ww.heap.size ww w') :=
    fun ww hb => specIsValidDatabase_c (At.below h hb (Nat.le_refl _))
  have H2 : Hid (∀ ww, Below w.heap.size w ww → ∀ i : Int, Calls Try.prog 26 #[.agg #[.slice a0 x.rels.length cap0, .slice a1 x.facts.length cap1], .int .i64 i] ww fun e w' => (∃ a cap, e = .returned (.slice a (blockL x i).length cap) ∧ Own (cSlice cInt) ww.heap.size w' (blockL x i) [.slice a (blockL x i).length cap]) ∧ Below ww.heap.size ww w') :=
    fun ww hb i => specBlockOf_c (At.below h hb (Nat.le_refl _))
  clear h
  obtain ⟨i0, hi, hz0, hz1, hz2⟩ := info_parts Try.infoIntS
  by_cases hV : validDb x = true
  · rw [← blksPart_all hV]
    have h14 := dbValid_len hV
    have HB : Hid (∀ k, k < x.facts.length → ∃ q t, ints (blk (keyR x) x.facts.length k) = (q : Int) :: t ∧ decide (q = (k : Int)) = isFst (keyR x) k ∧ blockL x (k : Int) = ints (blk (keyR x) x.facts.length k)) := by
      intro k hk
      obtain ⟨q, t, h1, h2⟩ := blk_head (conv_db hV) (Nat.le_refl _) hk
      refine ⟨(q : Int), ints t, by rw [h1]; rfl, by rw [← h2]; exact decide_eq_decide.2 (by omega), ?_⟩
      unfold blockL
      rw [hV, show inB (k : Int) 0 ((x.facts.length : Int) - 1) = true by unfold inB; simp; omega]
      rfl
    rw [hV] at H1
    obtain ⟨n, hn⟩ : ∃ n : Nat, x.facts.length = n := ⟨_, rfl⟩
    obtain ⟨nr, hnr⟩ : ∃ n : Nat, x.rels.length = n := ⟨_, rfl⟩
    rw [hn] at hm H1 H2 HB h14 ⊢
    rw [hnr] at H1 H2 ⊢
    have HST : Hid (∀ k, blksPart x (k + 1) = if isFst (keyR x) k then blksPart x k ++ [ints (blk (keyR x) n k)] else blksPart x k) := by
      intro k
      have := blksPart_succ x k
      rw [hn] at this
      exact this
    clear hn hnr hV
    obtain ⟨wx, hwx⟩ : ∃ wx, wx = w.alloc (Obj.cells #[.slice a0 nr cap0, .slice a1 n cap1] 32) := ⟨_, rfl⟩
    have hb0 : Below w.heap.size w wx := by rw [hwx]; go_grown
    have hws : wx.heap.size = w.heap.size + 1 := by rw [hwx]; simp
    have p0 : wx.cell? ⟨w.heap.size, 0, none⟩ = some (.slice a0 nr cap0) := by rw [hwx]; go_simp
    have p1 : wx.cell? ⟨w.heap.size, 1, none⟩ = some (.slice a1 n cap1) := by rw [hwx]; go_simp
    have hbe : Below wx.heap.size wx (wx.alloc (Obj.cells #[] 27)) := by go_grown
    have hB0 : Bld wx.heap.size (wx.alloc (Obj.cells #[] 27)).heap.size (wx.alloc (Obj.cells #[] 27)) (.slice (some ⟨w.heap.size + 1, 0, none⟩) 0 0) (blksPart x 0) [] [] := by
      rw [← hws]
      exact ⟨rfl, row_empty wx 27 wx.heap.size (Nat.le_refl _), by simp, fun g hg => by simp [Value.ownBlock] at hg; simp; omega, Nat.le_refl _⟩
    have Hwx := Lib.hid hwx
    clear hwx hws
    go_enter Try.func15, Try.ntmps15
    go_wp2_with fail
    rw [← Hwx.out]
    clear Hwx
    go_loopw [3, 4] (fun ov kv wr => ∃ (k : Nat) (o : Value) (F : List Nat) (css : List (List Value)), o = ov ∧ k ≤ n ∧ kv = .int .i64 k ∧ Bld wx.heap.size wr.heap.size wr o (blksPart x k) F css ∧ Below wx.heap.size wx wr) (fun _ kv _ => n - (intOf kv).toNat)
    case atStart => exact ⟨0, _, _, _, rfl, by omega, by go_num, hB0, hbe⟩
    case round =>
      clear hB0 hbe
      obtain ⟨k, o, F, css, rfl, hk, rfl, hB, hbx⟩ := hrel
      have hxr := hbx.size
      have q0 := (hbx.cell (World.block_lt_of_cell? wx _ p0)).trans p0
      have q1 := (hbx.cell (World.block_lt_of_cell? wx _ p1)).trans p1
      have hb1 : Below w.heap.size w wr := hb0.trans (hbx.mono hb0.size)
      clear p0 p1
      by_cases hlt : k < n
      · have j1 : (k : Int) < (n : Int) := by omega
        go_wp2_with fail
        refine (H1.out _ hb1).mono ?_
        rintro e w2 ⟨rfl, hb2⟩
        have hb3 : Below w.heap.size w w2 := hb1.trans (hb2.mono hb1.size)
        have hby : Below wx.heap.size wx w2 := hbx.trans (hb2.mono hbx.size)
        replace q0 := cell_next q0 hb2
        replace q1 := cell_next q1 hb2
        replace hB := hB.next hb2
        have hsz := hb2.size
        clear hb1 hb2 hbx
        obtain ⟨q, t, hbq, hqd, hbl⟩ := HB.out k hlt
        have Hc : Hid (Calls Try.prog 26 #[.agg #[.slice a0 nr cap0, .slice a1 n cap1], .int .i64 k] w2 fun e w' => (∃ a cap, e = .returned (.slice a (q :: t).length cap) ∧ Own (cSlice cInt) w2.heap.size w' (q :: t) [.slice a (q :: t).length cap]) ∧ Below w2.heap.size w2 w') := by
          have hc := H2.out w2 hb3 (k : Int)
          rw [hbl, hbq] at hc
          exact hc
        have Hst := Lib.hid (HST.out k)
        rw [hbq] at Hst
        have hlen := blksPart_len x k
        clear hbq hbl
        generalize isFst (keyR x) k = z at *
        generalize hcu : blksPart x k = cur at *
        clear hcu
        go_wp2_with fail
        refine Hc.out.mono ?_
        rintro e w3 ⟨⟨ba, bc, rfl, ho⟩, hb4⟩
        have hbz : Below wx.heap.size wx w3 := hby.trans (hb4.mono hby.size)
        have hB3 := hB.next hb4
        obtain ⟨G, hG, hGr⟩ := ho
        obtain ⟨bb, boff, rfl, _, u0⟩ := ints_at (B := w3.heap.size) ((cSlice cInt).ofO hG (fun k hk => (hGr k hk).2)) 0 (by simp)
        simp only [List.getElem_cons_zero, Nat.add_zero] at u0
        obtain ⟨L, hL⟩ : ∃ L, (q :: t).length = L := ⟨_, rfl⟩
        have hLp : 0 < L := by rw [← hL]; simp
        have hG2 := hG
        rw [hL] at hG
        rw [hL]
        clear hG2
        have HG := Lib.hid hG
        have hsz4 := hb4.size
        clear hB hG q0 q1 Hc hb4 hby
        cases z with
        | false =>
          have Hs : Hid (blksPart x (k + 1) = cur) := Hst.out
          have hqn : (q == (k : Int)) = false := by have := of_decide_eq_false hqd; simp [this]
          clear Hst hqd
          go_wp2
          go_roundw
          case rel => exact ⟨k + 1, _, _, _, rfl, by omega, by go_num, by rw [Hs.out]; exact hB3.wide (by omega) (Nat.le_refl _), hbz⟩
          case measure => simp [intOf]; omega
        | true =>
          have Hs : Hid (blksPart x (k + 1) = cur ++ [q :: t]) := Hst.out
          have hqn : q = (k : Int) := of_decide_eq_true hqd
          clear Hst hqd
          subst hqn
          have hbA : Below w3.heap.size w3 (w3.alloc (.cells #[.slice (some ⟨bb, boff, none⟩) L bc] 27)) := by go_grown
          have hB4 := hB3.next hbA
          have hGA : (cSlice cInt).own G (w3.alloc (.cells #[.slice (some ⟨bb, boff, none⟩) L bc] 27)) ((k : Int) :: t) [.slice (some ⟨bb, boff, none⟩) L bc] := (cSlice cInt).keepO HG.out (fun k hk => hbA.block k (hGr k hk).2)
          have HGA := Lib.hid hGA
          have HB4 := Lib.hid hB4
          have HhG : Hid (∀ k, k ∈ G → wr.heap.size ≤ k ∧ k < (w3.alloc (.cells #[.slice (some ⟨bb, boff, none⟩) L bc] 27)).heap.size) := fun k hk => by have := hGr k hk; simp; omega
          have hlenc : cur.length ≤ 14 := by omega
          clear hGA hB4 hGr
          go_wp2_with (at_builtin; refine wpList_app rfl _ _ _ (by rfl) wx.heap.size 27 i0 (.slice none 0 0) 1 24 Try.underlying41 hi hz0 hz1 hz2 rfl (by omega) o cur.length css.flatten (by rfl) HB4.out.2.1 _ _ _ [.slice (some ⟨bb, boff, none⟩) L bc] (by rfl) (srcs_one w3 _ _ rfl) ?c1 ?c2 ?c3 ?_)
          case c1 => unfold maxLen; omega
          case c2 => omega
          case c3 => exact Nat.le_trans hbz.size hbA.size
          intro v1 w4 hown4 hg4 hat4
          have hBn := HB4.out.push HGA.out HhG.out hxr hown4 hg4 (by simpa using hat4)
          have hb5 : Below wx.heap.size wx w4 := Below.grownOwn (hbz.trans (hbA.mono hbz.size)) hg4 HB4.out.2.1 (Nat.le_refl _)
          clear hown4 hg4 hat4 HB4 HGA HhG hbA
          go_wp2
          go_roundw
          case rel => exact ⟨k + 1, _, _, _, rfl, by omega, by go_num, by rw [Hs.out]; exact hBn, hb5⟩
          case measure => simp [intOf]; omega
      · obtain rfl : k = n := by omega
        obtain ⟨oa, oc, rfl, ho⟩ := hB.form (by have := blksPart_len x k; unfold maxLen; omega)
        have ho2 := Own.mono ho hb0.size
        clear hB ho
        go_wp2
        go_ret
        exact ⟨⟨_, _, rfl, ho2⟩, hb1⟩
  · have hVf : validDb x = false := by simpa using hV
    unfold blocksL
    rw [if_neg hV]
    rw [hVf] at H1
    clear hV hVf H2
    obtain ⟨n, hn⟩ : ∃ n : Nat, x.facts.length = n := ⟨_, rfl⟩
    obtain ⟨nr, hnr⟩ : ∃ n : Nat, x.rels.length = n := ⟨_, rfl⟩
    rw [hn] at hm H1
    rw [hnr] at H1
    rw [hn, hnr]
    clear hn hnr
    obtain ⟨wx, hwx⟩ : ∃ wx, wx = w.alloc (Obj.cells #[.slice a0 nr cap0, .slice a1 n cap1] 32) := ⟨_, rfl⟩
    have hb0 : Below w.heap.size w wx := by rw [hwx]; go_grown
    have p0 : wx.cell? ⟨w.heap.size, 0, none⟩ = some (.slice a0 nr cap0) := by rw [hwx]; go_simp
    have p1 : wx.cell? ⟨w.heap.size, 1, none⟩ = some (.slice a1 n cap1) := by rw [hwx]; go_simp
    have ho : ∀ W, Own (cSlice (cSlice cInt)) w.heap.size W [] [.slice (some ⟨w.heap.size + 1, 0, none⟩) 0 0] := fun W => Own.empty _ _ _ _
    have Ho := Lib.hid ho
    have hbe : Below wx.heap.size wx (wx.alloc (Obj.cells #[] 27)) := by go_grown
    have Hwx := Lib.hid hwx
    clear hwx ho
    go_enter Try.func15, Try.ntmps15
    go_wp2_with fail
    rw [← Hwx.out]
    clear Hwx
    go_loopw [3, 4] (fun ov kv wr => ov = .slice (some ⟨w.heap.size + 1, 0, none⟩) 0 0 ∧ kv = .int .i64 0 ∧ Below wx.heap.size wx wr) (fun _ kv _ => n - (intOf kv).toNat)
    case atStart => exact ⟨rfl, rfl, hbe⟩
    case round =>
      clear hbe
      obtain ⟨rfl, rfl, hbx⟩ := hrel
      have q0 := (hbx.cell (World.block_lt_of_cell? wx _ p0)).trans p0
      have q1 := (hbx.cell (World.block_lt_of_cell? wx _ p1)).trans p1
      have hb1 : Below w.heap.size w wr := hb0.trans (hbx.mono hb0.size)
      clear p0 p1
      rcases Nat.eq_zero_or_pos n with hn0 | hn0
      · subst hn0
        go_wp2
        go_ret
        exact ⟨⟨_, _, rfl, Ho.out _⟩, hb1⟩
      · have g1 : decide ((0 : Int) < (n : Int)) = true := decide_eq_true (by omega)
        have g2 : decide (0 < n) = true := decide_eq_true hn0
        go_wp2_with fail
        refine (H1.out _ hb1).mono ?_
        rintro e w2 ⟨rfl, hb2⟩
        have hb3 : Below w.heap.size w w2 := hb1.trans (hb2.mono hb1.size)
        clear hb1 hb2 hbx
        go_wp2
        go_ret
        exact ⟨⟨_, _, rfl, Ho.out _⟩, hb3⟩
end Go.Proofs.Ytpofglamcaikfaa

/- Slices of slices whose last element still grows. -/
namespace Go.Proofs.Ytpofglamcaikfaa
open Go.RowKit
set_option linter.unusedVariables false
set_option maxRecDepth 100000

/-- A slice of the call's own: finished slices, and a last one that still grows. -/
def Lst (w0 : Nat) (w : World) (gv cv : Nat) (P : List (List Int)) (q : List Int) (gh ch : Nat) (F : List Nat) (css : List (List Value)) : Prop :=
  ownL (cSlice cInt) F w P css ∧ w.ownsRow w0 27 1 (.slice (some ⟨gv, 0, none⟩) (P.length + 1) cv) (P.length + 1) (css.flatten ++ [.slice (some ⟨gh, 0, none⟩) q.length ch]) ∧
    w.ownsRow w0 3 1 (.slice (some ⟨gh, 0, none⟩) q.length ch) q.length (q.map iv) ∧ (∀ k, k ∈ F → w0 ≤ k ∧ k < w.heap.size ∧ k ≠ gv ∧ k ≠ gh) ∧ gv ≠ gh
theorem own_at {w : World} {base g : Nat} {e : TypeId} {n cap : Nat} {l : List Int} (h : w.ownsRow base e 1 (.slice (some ⟨g, 0, none⟩) n cap) n (l.map iv)) (hr : ∀ x, x ∈ l → inR x) (hm : l.length ≤ maxLen) : (cSlice cInt).own [g] w l [.slice (some ⟨g, 0, none⟩) n cap] := by
  have hn : l.length = n := by simpa using h.1
  subst hn
  exact slice_of_ownL (c := cInt) (F := []) (css := l.map fun x => [iv x]) (ownL_flat (c := cInt) (fun x => [iv x]) w l (fun x hx => ⟨⟨rfl, hr x hx⟩, rfl⟩)) (by rw [flat_ints]; exact h) (by simp) hm
theorem row_one (w : World) (base : Nat) (e : TypeId) (v : Value) (h : base ≤ w.heap.size) : (w.alloc (.cells #[v] e)).ownsRow base e 1 (.slice (some ⟨w.heap.size, 0, none⟩) 1 1) 1 [v] :=
  ⟨rfl, .inr ⟨w.heap.size, 1, #[v], rfl, h, heap_alloc_new w _, by simp, by simp [maxLen], by simp, by simp⟩⟩
theorem own_some {w : World} {base : Nat} {e : TypeId} {v : Value} {n : Nat} {xs : List Value} (h : w.ownsRow base e 1 v (n + 1) xs) : ∃ g cap, v = .slice (some ⟨g, 0, none⟩) (n + 1) cap := by
  rcases h.2 with ⟨_, h0⟩ | ⟨g, cp, cur, rfl, _⟩
  · omega
  · exact ⟨_, _, rfl⟩
theorem Lst.keep {w0 : Nat} {w w' : World} {gv cv gh ch : Nat} {P : List (List Int)} {q : List Int} {F : List Nat} {css : List (List Value)} (h : Lst w0 w gv cv P q gh ch F css) (hb : ∀ k, k < w.heap.size → w'.heap[k]? = w.heap[k]?) (hs : w.heap.size ≤ w'.heap.size) : Lst w0 w' gv cv P q gh ch F css := by
  obtain ⟨h1, h2, h3, h4, h5⟩ := h
  exact ⟨ownL_keep h1 (fun k hk => hb k (h4 k hk).2.1), ownsRow_at (C := 0) h2 (fun g hg => hb g (h2.lt g hg).2), ownsRow_at (C := 0) h3 (fun g hg => hb g (h3.lt g hg).2), fun k hk => ⟨(h4 k hk).1, by have := (h4 k hk).2.1; omega, (h4 k hk).2.2⟩, h5⟩
theorem Lst.next {w0 : Nat} {w w' : World} {gv cv gh ch : Nat} {P : List (List Int)} {q : List Int} {F : List Nat} {css : List (List Value)} (h : Lst w0 w gv cv P q gh ch F css) (hb : Below w.heap.size w w') : Lst w0 w' gv cv P q gh ch F css := h.keep (fun k hk => hb.block k hk) hb.size
theorem Lst.flat {w0 : Nat} {w : World} {gv cv gh ch : Nat} {P : List (List Int)} {q : List Int} {F : List Nat} {css : List (List Value)} (h : Lst w0 w gv cv P q gh ch F css) : css.flatten.length = P.length := by
  have := (ownL_len h.1).2
  simpa [cSlice] using this
/-- The header of the last one. -/
theorem Lst.head {w0 : Nat} {w : World} {gv cv gh ch : Nat} {P : List (List Int)} {q : List Int} {F : List Nat} {css : List (List Value)} (h : Lst w0 w gv cv P q gh ch F css) : w.cell? ⟨gv, P.length, none⟩ = some (.slice (some ⟨gh, 0, none⟩) q.length ch) ∧ w.frozen? ⟨gv, P.length, none⟩ = false := by
  have hf := h.flat
  refine ⟨(h.2.1.cellAt P.length (by omega)).trans ?_, h.2.1.frozenAt _⟩
  rw [List.getElem?_append_right (by omega), hf, Nat.sub_self]; rfl
theorem Lst.own {w0 : Nat} {w : World} {gv cv gh ch : Nat} {P : List (List Int)} {q : List Int} {F : List Nat} {css : List (List Value)} (h : Lst w0 w gv cv P q gh ch F css) (hr : ∀ x, x ∈ q → inR x) (hq : q.length ≤ maxLen) (hP : P.length + 1 ≤ maxLen) : Own (cSlice (cSlice cInt)) w0 w (P ++ [q]) [.slice (some ⟨gv, 0, none⟩) (P ++ [q]).length cv] := by
  obtain ⟨h1, h2, h3, h4, h5⟩ := h
  have hg := (h3.lt gh rfl)
  have hl : (P ++ [q]).length = P.length + 1 := by simp
  refine Own.slice (c := cSlice cInt) (F := F ++ [gh]) (css := css ++ [[.slice (some ⟨gh, 0, none⟩) q.length ch]]) (base := w0) (e := 27) (ownL_snoc (own_at h3 hr hq) h1 (fun k hk => by simp; exact (h4 k hk).2.2.2)) ?_ (fun k hk => ?_) (by omega)
  · rw [hl, List.flatten_append]
    simpa [cSlice] using h2
  · rcases List.mem_append.1 hk with hk | hk
    · exact ⟨(h4 k hk).1, (h4 k hk).2.1, (h4 k hk).2.2.1⟩
    · simp at hk
      subst hk
      exact ⟨hg.1, hg.2, fun e => h5 e.symm⟩
/-- The last one has grown by a number, and its header is written. -/
theorem Lst.grow {w0 : Nat} {W w3 : World} {gv cv gh ch : Nat} {P : List (List Int)} {q : List Int} {F : List Nat} {css : List (List Value)} {v' : Value} {x : Int} (h : Lst w0 W gv cv P q gh ch F css) (h0 : w0 ≤ W.heap.size)
    (hown : w3.ownsRow w0 3 1 v' (q.length + 1) (q.map iv ++ [.int .i64 x])) (hg : W.grownBy w3 (some gh)) (hat : v'.ownBlock = some gh ∨ v'.ownBlock = some W.heap.size) :
    w3.cell? ⟨gv, P.length, none⟩ = some (.slice (some ⟨gh, 0, none⟩) q.length ch) ∧ w3.frozen? ⟨gv, P.length, none⟩ = false ∧ ∃ gh' ch', v' = .slice (some ⟨gh', 0, none⟩) (q.length + 1) ch' ∧ Lst w0 (w3.setCell ⟨gv, P.length, none⟩ v') gv cv P (q ++ [x]) gh' ch' F css := by
  have hd := h.head
  have hfl := h.flat
  obtain ⟨h1, h2, h3, h4, h5⟩ := h
  have hv := h2.lt gv rfl
  have hh := h3.lt gh rfl
  have hs := hg.size
  have hkeep : ∀ k, k < W.heap.size → k ≠ gh → w3.heap[k]? = W.heap[k]? := fun k hk hne => hg.block k hk (fun e => hne (by injection e))
  have hvv := hkeep gv hv.2 h5
  refine ⟨(World.cell?_of_block hvv).trans hd.1, (World.frozen?_of_block hvv).trans hd.2, ?_⟩
  obtain ⟨gh', ch', rfl⟩ := own_some hown
  have hat' : gh' = gh ∨ gh' = W.heap.size := by
    rcases hat with e | e
    · left; simpa [Value.ownBlock] using e
    · right; simpa [Value.ownBlock] using e
  have hne : gv ≠ gh' := by rcases hat' with rfl | rfl <;> omega
  have hset : ∀ k, k ≠ gv → (w3.setCell ⟨gv, P.length, none⟩ (.slice (some ⟨gh', 0, none⟩) (q.length + 1) ch')).heap[k]? = w3.heap[k]? := fun k hk => Below.heap_setCell _ _ _ _ hk
  have hsz : (w3.setCell ⟨gv, P.length, none⟩ (.slice (some ⟨gh', 0, none⟩) (q.length + 1) ch')).heap.size = w3.heap.size := by simp [World.setCell]
  refine ⟨gh', ch', rfl, ownL_keep h1 (fun k hk => (hset k (h4 k hk).2.2.1).trans (hkeep k (h4 k hk).2.1 (h4 k hk).2.2.2)), ?_, ?_, fun k hk => ⟨(h4 k hk).1, by rw [hsz]; have := (h4 k hk).2.1; omega, (h4 k hk).2.2.1, ?_⟩, hne⟩
  · have h6 := (ownsRow_at (C := 0) h2 (fun g hg2 => by have : g = gv := by simpa [Value.ownBlock] using hg2.symm
                                                        subst this; exact hvv)).stored P.length (.slice (some ⟨gh', 0, none⟩) (q.length + 1) ch')
    have h7 := h6.1
    rw [List.set_append_right _ _ (by omega), hfl, Nat.sub_self, List.set_cons_zero] at h7
    simpa using h7
  · have h8 := own_push (w := w3) hown
    rw [List.length_append, List.length_singleton] at h8 ⊢
    exact ownsRow_at (C := 0) h8 (fun g hg2 => hset g (fun e => hne (by have : g = gh' := by simpa [Value.ownBlock] using hg2.symm
                                                                        omega)))
  · rcases hat' with rfl | rfl
    · exact (h4 k hk).2.2.2
    · have := (h4 k hk).2.1; omega
/-- A first slice, of one number. -/
theorem Lst.first {w0 : Nat} {W w3 : World} {x : Int} {v' : Value} {g : Nat} (hrow : W.ownsRow w0 3 1 (.slice (some ⟨g, 0, none⟩) 1 1) 1 [.int .i64 x]) (hown : w3.ownsRow w0 27 1 v' 1 [.slice (some ⟨g, 0, none⟩) 1 1]) (hg : W.grownBy w3 none) (hat : v'.ownBlock = none ∨ v'.ownBlock = some W.heap.size) :
    ∃ gv cv, v' = .slice (some ⟨gv, 0, none⟩) 1 cv ∧ Lst w0 w3 gv cv [] [x] g 1 [] [] := by
  obtain ⟨gv, cv, rfl⟩ := own_some (n := 0) hown
  have hh := hrow.lt g rfl
  have hv : gv = W.heap.size := by
    rcases hat with e | e
    · simp [Value.ownBlock] at e
    · simpa [Value.ownBlock] using e
  exact ⟨gv, cv, rfl, rfl, hown, ownsRow_at (C := 0) hrow (fun q hq => by have : q = g := by simpa [Value.ownBlock] using hq.symm
                                                                          subst this; exact hg.block _ hh.2 (by simp)), by simp, by omega⟩
/-- One slice more, of one number. -/
theorem Lst.more {w0 : Nat} {W w3 : World} {gv cv gh ch : Nat} {P : List (List Int)} {q : List Int} {F : List Nat} {css : List (List Value)} {x : Int} {v' : Value} {g : Nat} (h : Lst w0 W gv cv P q gh ch F css) (hr : ∀ x, x ∈ q → inR x) (hq : q.length ≤ maxLen)
    (hrow : W.ownsRow w0 3 1 (.slice (some ⟨g, 0, none⟩) 1 1) 1 [.int .i64 x]) (hgn : g ≠ gv ∧ g ≠ gh ∧ ∀ k, k ∈ F → k ≠ g) (hown : w3.ownsRow w0 27 1 v' (P.length + 1 + 1) ((css.flatten ++ [.slice (some ⟨gh, 0, none⟩) q.length ch]) ++ [.slice (some ⟨g, 0, none⟩) 1 1]))
    (hg : W.grownBy w3 (some gv)) (hat : v'.ownBlock = some gv ∨ v'.ownBlock = some W.heap.size) :
    ∃ gv' cv', v' = .slice (some ⟨gv', 0, none⟩) (P.length + 1 + 1) cv' ∧ Lst w0 w3 gv' cv' (P ++ [q]) [x] g 1 (F ++ [gh]) (css ++ [[.slice (some ⟨gh, 0, none⟩) q.length ch]]) := by
  obtain ⟨h1, h2, h3, h4, h5⟩ := h
  obtain ⟨gv', cv', rfl⟩ := own_some hown
  have hh := h3.lt gh rfl
  have hv := h2.lt gv rfl
  have hx := hrow.lt g rfl
  have hs := hg.size
  have hat' : gv' = gv ∨ gv' = W.heap.size := by
    rcases hat with e | e
    · left; simpa [Value.ownBlock] using e
    · right; simpa [Value.ownBlock] using e
  have hkeep : ∀ k, k < W.heap.size → k ≠ gv → w3.heap[k]? = W.heap[k]? := fun k hk hne => hg.block k hk (fun e => hne (by injection e))
  refine ⟨gv', cv', rfl, ownL_keep (ownL_snoc (own_at h3 hr hq) h1 (fun k hk => by simp; exact (h4 k hk).2.2.2)) (fun k hk => ?_), ?_, ownsRow_at (C := 0) hrow (fun p hp => ?_), fun k hk => ?_, ?_⟩
  · rcases List.mem_append.1 hk with hk | hk
    · exact hkeep k (h4 k hk).2.1 (h4 k hk).2.2.1
    · simp at hk; subst hk; exact hkeep _ hh.2 (fun e => h5 e.symm)
  · rw [List.length_append, List.length_singleton, List.flatten_append]
    simpa using hown
  · have : p = g := by simpa [Value.ownBlock] using hp.symm
    subst this
    exact hkeep _ hx.2 hgn.1
  · rcases List.mem_append.1 hk with hk | hk
    · refine ⟨(h4 k hk).1, by have := (h4 k hk).2.1; omega, ?_, hgn.2.2 k hk⟩
      rcases hat' with rfl | rfl
      · exact (h4 k hk).2.2.1
      · have := (h4 k hk).2.1; omega
    · simp at hk
      subst hk
      refine ⟨hh.1, by omega, ?_, fun e => hgn.2.1 e.symm⟩
      rcases hat' with rfl | rfl
      · exact fun e => h5 e.symm
      · omega
  · rcases hat' with rfl | rfl
    · exact fun e => hgn.1 e.symm
    · omega
end Go.Proofs.Ytpofglamcaikfaa

/- Chapter 5: the program's Blocks. -/
namespace Go.Proofs.Ytpofglamcaikfaa
open Go.RowKit
set_option linter.unusedVariables false
set_option maxRecDepth 100000

/-- The program's blocks behind k rounds. -/
def bI (d : Dbs) (k : Nat) : List (List Int) := (blksI (keyR d) k).map ints
theorem bI_new (d : Dbs) (k : Nat) (h : joins (keyR d) k = false) : bI d (k + 1) = bI d k ++ [[(k : Int)]] := by
  unfold bI
  rw [blksI, h]
  simp [ints]
theorem bI_join (d : Dbs) (k : Nat) (h : joins (keyR d) k = true) (P : List (List Int)) (q : List Int) (e : bI d k = P ++ [q]) : bI d (k + 1) = P ++ [q ++ [(k : Int)]] := by
  have hj := h
  unfold joins at hj
  simp only [Bool.and_eq_true, decide_eq_true_eq] at hj
  obtain ⟨P0, f, hP⟩ : ∃ P f, blksI (keyR d) k = P ++ [f] := ⟨_, _, (List.dropLast_concat_getLast (blksI_ne hj.1)).symm⟩
  unfold bI at e ⊢
  rw [hP, List.map_append, List.map_cons, List.map_nil] at e
  obtain ⟨e1, e2⟩ := List.append_inj' e rfl
  simp at e2
  rw [blksI, h, hP]
  unfold addLast
  simp [e1, ints_snoc, e2]
theorem bI_len (d : Dbs) (k : Nat) : (bI d k).length ≤ k := by
  unfold bI
  rw [List.length_map]
  exact blksI_len k
theorem bI_ok (d : Dbs) (k : Nat) (hk : k ≤ 14) : ∀ q, q ∈ bI d k → q.length ≤ k ∧ ∀ x, x ∈ q → inR x := by
  intro q hq
  obtain ⟨b, hb, rfl⟩ := List.mem_map.1 hq
  have hlt : ∀ x, x ∈ b → x < k := fun x hx => blksI_lt hb hx
  refine ⟨?_, ints_inR fun x hx => by have := hlt x hx; omega⟩
  have h1 : b.length ≤ (blksI (keyR d) k).flatten.length := by
    rw [List.length_flatten]
    exact le_sum (List.mem_map.2 ⟨b, hb, rfl⟩)
  rw [blksI_flatten, List.length_range] at h1
  unfold ints
  rw [List.length_map]
  exact h1
theorem bI_zero (d : Dbs) : bI d 0 = [] := rfl
theorem bI_all {d : Dbs} (h : validDb d = true) : bI d d.facts.length = blocksL d := by
  unfold blocksL bI
  rw [if_pos h]
theorem Lst.wideTop {w0 : Nat} {w : World} {gv cv gh ch : Nat} {P : List (List Int)} {q : List Int} {F : List Nat} {css : List (List Value)} (h : Lst w0 w gv cv P q gh ch F css) : w0 ≤ gv ∧ gv < w.heap.size ∧ gh < w.heap.size ∧ ∀ k, k ∈ F → k < w.heap.size :=
  ⟨(h.2.1.lt gv rfl).1, (h.2.1.lt gv rfl).2, (h.2.2.1.lt gh rfl).2, fun k hk => (h.2.2.2.1 k hk).2.1⟩

set_option maxHeartbeats 6400000 in
theorem implBlocks_c {a0 a1 : Option Addr} {cap0 cap1 : Nat} {x : Dbs} {w : World} (h : At cDbs w x [.slice a0 x.rels.length cap0, .slice a1 x.facts.length cap1]) :
    Calls Try.prog 18 #[.agg #[.slice a0 x.rels.length cap0, .slice a1 x.facts.length cap1]] w fun e w' => (∃ a cap, e = .returned (.slice a (blocksL x).length cap) ∧ Own (cSlice (cSlice cInt)) w.heap.size w' (blocksL x) [.slice a (blocksL x).length cap]) ∧ Below w.heap.size w w' := by
  have hx0 := (cDbs_inv h).1
  have hx1 := (cDbs_inv h).2
  have hm := (slice_len hx1).2
  unfold maxLen at hm
  have HF : Hid (∀ w' : World, Below w.heap.size w w' → ∀ j (hj : j < x.facts.length), _) := fun w' hb j hj => at_Fact (Cod.ok_below hx1 hb) j hj
  have H1 : Hid (∀ ww, Below w.heap.size w ww → Calls Try.prog 29 #[.agg #[.slice a0 x.rels.length cap0, .slice a1 x.facts.length cap1]] ww fun e w' => e = .returned (.bool (validDb x)) ∧ Below ww.heap.size ww w') :=
    fun ww hb => implIsValidDatabase_c (At.below h hb (Nat.le_refl _))
  by_cases hV : validDb x = true
  · have H2 : Hid (∀ ww, Below w.heap.size w ww → ∀ (i k : Nat) (hi : i < x.facts.length) (hk : k < x.facts.length) (af ag : Option Addr) (cf cg : Nat), At cFct ww x.facts[i] [.int .i64 x.facts[i].rel, .slice af x.facts[i].vals.length cf] → At cFct ww x.facts[k] [.int .i64 x.facts[k].rel, .slice ag x.facts[k].vals.length cg] → Calls Try.prog 30 #[.slice a0 x.rels.length cap0, .agg #[.int .i64 x.facts[i].rel, .slice af x.facts[i].vals.length cf], .agg #[.int .i64 x.facts[k].rel, .slice ag x.facts[k].vals.length cg]] ww fun e w' => e = .returned (.bool (keyR x i k)) ∧ Below ww.heap.size ww w') :=
      fun ww hb i k hi hk af ag cf cg hA hB => keyR_at hi hk ▸ agreeOnKey_c (At.below hx0 hb (Nat.le_refl _)) hA hB (dbValid_fact hV i hi) (dbValid_fact hV k hk)
    rw [← bI_all hV]
    have h14 := dbValid_len hV
    rw [hV] at H1
    clear h hx0 hx1
    obtain ⟨n, hn⟩ : ∃ n : Nat, x.facts.length = n := ⟨_, rfl⟩
    obtain ⟨nr, hnr⟩ : ∃ n : Nat, x.rels.length = n := ⟨_, rfl⟩
    have Hn := Lib.hid hn
    rw [hn] at hm H1 h14 ⊢
    rw [hnr] at H1 H2 ⊢
    clear hn hnr hV
    obtain ⟨iT, hiT, hT0, hT1, hT2⟩ := info_parts Try.infoIntS
    obtain ⟨iI, hiI, hI0, hI1, hI2⟩ := info_parts Try.infoI
    obtain ⟨wx, hwx⟩ : ∃ wx, wx = w.alloc (Obj.cells #[.slice a0 nr cap0, .slice a1 n cap1] 32) := ⟨_, rfl⟩
    have hb0 : Below w.heap.size w wx := by rw [hwx]; go_grown
    have p0 : wx.cell? ⟨w.heap.size, 0, none⟩ = some (.slice a0 nr cap0) := by rw [hwx]; go_simp
    have p1 : wx.cell? ⟨w.heap.size, 1, none⟩ = some (.slice a1 n cap1) := by rw [hwx]; go_simp
    have Hwx := Lib.hid hwx
    clear hwx
    go_enter Try.func18, Try.ntmps18
    go_wp2_with fail
    rw [← Hwx.out]
    clear Hwx
    refine (H1.out _ hb0).mono ?_
    rintro e w1 ⟨rfl, hb1⟩
    have hbw : Below w.heap.size w w1 := hb0.trans (hb1.mono hb0.size)
    replace p0 := cell_next p0 hb1
    replace p1 := cell_next p1 hb1
    have lb := World.block_lt_of_cell? w1 _ p0
    simp only at lb
    clear hb0 hb1 H1
    go_wp2
    go_loopw [3, 13] (fun ov kv wr => ∃ (k : Nat), k ≤ n ∧ kv = .int .i64 k ∧ Below w1.heap.size w1 wr ∧ (k = 0 ∧ ov = .slice none 0 0 ∨ 0 < k ∧ ∃ gv cv P q gh ch F css, ov = .slice (some ⟨gv, 0, none⟩) (P.length + 1) cv ∧ Hid (bI x k = P ++ [q]) ∧ Lst w1.heap.size wr gv cv P q gh ch F css)) (fun _ kv _ => n - (intOf kv).toNat)
    case atStart => exact ⟨0, by omega, by go_num, Below.refl _ _, .inl ⟨rfl, rfl⟩⟩
    case round =>
      obtain ⟨k, hk, rfl, hbx, hst⟩ := hrel
      have q0 := (hbx.cell (World.block_lt_of_cell? w1 _ p0)).trans p0
      have q1 := (hbx.cell (World.block_lt_of_cell? w1 _ p1)).trans p1
      have hb : Below w.heap.size w wr := hbw.trans (hbx.mono hbw.size)
      clear p0 p1
      by_cases hlt : k < n
      · have hkl : k < x.facts.length := by rw [Hn.out]; exact hlt
        have j1 : (k : Int) < (n : Int) := by omega
        have j0 : (0 : Int) ≤ (k : Int) := Int.natCast_nonneg _
        obtain ⟨b, off, av, cv0, rfl, hbB, c0, c1, hx⟩ := HF.out _ hb k hkl
        rcases hst with ⟨rfl, rfl⟩ | ⟨hk0, gv, cv, P, q, gh, ch, F, css, rfl, HP, hL⟩
        · clear hx H2 HF
          simp only [Nat.zero_mul, Nat.add_zero] at c0 c1
          have Hs : Hid (bI x 1 = [] ++ [[((0 : Nat) : Int)]]) := bI_new x 0 rfl
          have g1 : decide ((0 : Int) < (n : Int)) = true := decide_eq_true (by omega)
          have g2 : decide (0 < n) = true := decide_eq_true hlt
          obtain ⟨wy, hwy⟩ : ∃ wy, wy = wr.alloc (Obj.cells #[.int .i64 x.facts[0].rel, .slice av x.facts[0].vals.length cv0] 59) := ⟨_, rfl⟩
          have hby : Below wr.heap.size wr wy := by rw [hwy]; go_grown
          have Q0 := grow_cell (cell_next q0 hby)
          have Q1 := grow_cell (cell_next q1 hby)
          have Hwy := Lib.hid hwy
          clear hwy
          have lc := World.block_lt_of_cell? wr _ c0
          simp only at lc
          go_wp2_with fail
          rw [← Hwy.out]
          clear Hwy
          refine wp_region_grow (by kernel_rfl) (by kernel_rfl) ?_
          repeat (go_big_quiet_step (fail))
          refine wpQuiet_nil ?_
          rintro _ ⟨nq, rfl⟩
          have hbz : Below w1.heap.size w1 nq.W := hbx.trans ((hby.trans (nq.below.mono hby.size)).mono hbx.size)
          clear Q0 Q1 hby
          generalize nq.W = wz at *
          clear nq
          have hA : Below wz.heap.size wz ((wz.alloc (.cells #[.int .i64 (0 : Int)] 3)).alloc (.cells #[.slice (some ⟨wz.heap.size, 0, none⟩) 1 1] 27)) := by go_grown
          have hrow : ((wz.alloc (.cells #[.int .i64 (0 : Int)] 3)).alloc (.cells #[.slice (some ⟨wz.heap.size, 0, none⟩) 1 1] 27)).ownsRow w1.heap.size 3 1 (.slice (some ⟨wz.heap.size, 0, none⟩) 1 1) 1 [.int .i64 (0 : Int)] :=
            ownsRow_at (C := 0) (row_one wz _ _ _ hbz.size) (fun g hg => by
              have : g = wz.heap.size := by simpa [Value.ownBlock] using hg.symm
              subst this; exact Go.heap_alloc_old _ _ (by simp))
          have hsrc : Srcs ((wz.alloc (.cells #[.int .i64 (0 : Int)] 3)).alloc (.cells #[.slice (some ⟨wz.heap.size, 0, none⟩) 1 1] 27)) 1 (some ⟨wz.heap.size + 1, 0, none⟩) 1 [.slice (some ⟨wz.heap.size, 0, none⟩) 1 1] := by
            have h := srcs_one (wz.alloc (.cells #[.int .i64 (0 : Int)] 3)) (.slice (some ⟨wz.heap.size, 0, none⟩) 1 1) 27 rfl
            rw [show (wz.alloc (.cells #[.int .i64 (0 : Int)] 3)).heap.size = wz.heap.size + 1 by simp] at h
            exact h
          go_wp2_with (at_builtin; refine wpList_app rfl _ _ _ (by rfl) w1.heap.size 27 iT (.slice none 0 0) 1 24 Try.underlying41 hiT hT0 hT1 hT2 rfl (by omega) (.slice none 0 0) 0 [] (by rfl) (World.ownsRow_nil _ _ _ _) (some ⟨wz.heap.size + 1, 0, none⟩) 1 1 [.slice (some ⟨wz.heap.size, 0, none⟩) 1 1] (by rfl) hsrc ?c1 ?c2 ?c3 ?_)
          case c1 => unfold maxLen; omega
          case c2 => omega
          case c3 => exact Nat.le_trans hbz.size hA.size
          intro v1 w3 hown3 hg3 hat3
          obtain ⟨gv, cv, rfl, hL⟩ := Lst.first hrow (by simpa using hown3) (by simpa [Value.ownBlock] using hg3) (by simpa [Value.ownBlock] using hat3)
          have hbn : Below w1.heap.size w1 w3 := (hbz.trans (hA.mono hbz.size)).grown hg3 (Nat.le_trans hbz.size hA.size) (fun g hg => by simp [Value.ownBlock] at hg)
          clear hown3 hg3 hat3 hrow hA
          go_wp2
          go_roundw
          case rel => exact ⟨1, by omega, by go_num, hbn, .inr ⟨by omega, gv, cv, [], [((0 : Nat) : Int)], wz.heap.size, 1, [], [], by simp, Hs, hL⟩⟩
          case measure => simp [intOf]; omega
        · have hnil := blksPart_len x 0
          have H14k : k ≤ 14 := by omega
          have hPl : P.length + 1 ≤ 14 := by have h := bI_len x k; rw [HP.out] at h; simp at h; omega
          have hqk := bI_ok x k H14k q (by rw [HP.out]; simp)
          have hqm : q.length ≤ maxLen := by have := hqk.1; unfold maxLen; omega
          have hq14 : q.length ≤ 14 := by have := hqk.1; omega
          have Hqr := Lib.hid hqk.2
          clear hqk hnil
          obtain ⟨p, hp⟩ : ∃ p, k = p + 1 := ⟨k - 1, by omega⟩
          have hpl : p < x.facts.length := by omega
          obtain ⟨b', off', av', cv', e', hbB', d0, d1, hy⟩ := HF.out _ hb p hpl
          obtain ⟨rfl, rfl⟩ : b = b' ∧ off = off' := by simp at e'; exact e'
          have hA : At cFct wr x.facts[k] [.int .i64 x.facts[k].rel, .slice av x.facts[k].vals.length cv0] := cFct.keep hx (fun _ _ => rfl) hb.size
          have hA' : At cFct wr x.facts[p] [.int .i64 x.facts[p].rel, .slice av' x.facts[p].vals.length cv'] := cFct.keep hy (fun _ _ => rfl) hb.size
          have Hc : Hid (∀ ww, Below wr.heap.size wr ww → Calls Try.prog 30 #[.slice a0 nr cap0, .agg #[.int .i64 x.facts[p].rel, .slice av' x.facts[p].vals.length cv'], .agg #[.int .i64 x.facts[k].rel, .slice av x.facts[k].vals.length cv0]] ww fun e w' => e = .returned (.bool (keyR x p k)) ∧ Below ww.heap.size ww w') :=
            fun ww hw2 => H2.out ww (hb.trans (hw2.mono hb.size)) p k hpl hkl av' av cv' cv0 (At.below hA' hw2 (Nat.le_refl _)) (At.below hA hw2 (Nat.le_refl _))
          have Hj : Hid (joins (keyR x) k = keyR x p k) := by
            show _ = _
            unfold joins
            rw [decide_eq_true hk0, Bool.true_and, hp]; rfl
          have Hnew : Hid (keyR x p k = false → bI x (k + 1) = (P ++ [q]) ++ [[(k : Int)]]) := fun hf => by rw [bI_new x k (Hj.out.trans hf), HP.out]
          have Hjoin : Hid (keyR x p k = true → bI x (k + 1) = P ++ [q ++ [(k : Int)]]) := fun hf => bI_join x k (Hj.out.trans hf) P q HP.out
          have g1 : decide ((0 : Int) < (k : Int)) = true := decide_eq_true (by omega)
          have g2 : decide (0 < k) = true := decide_eq_true hk0
          have hkp : (k : Int) - 1 = (p : Int) := by omega
          have hwp : wrap64 ((k : Int) - 1) = (p : Int) := by rw [IntWalk.wrap64_in _ ⟨by omega, by omega⟩]; omega
          have j2 : (0 : Int) ≤ (p : Int) := Int.natCast_nonneg _
          have j3 : (p : Int) < (n : Int) := by omega
          clear hx hy hA hA' e' hbB' Hj H2 HF HP
          have Hp := Lib.hid hp
          clear hp
          generalize keyR x p k = z at *
          generalize hfk : x.facts[k] = fk at *
          generalize hfp : x.facts[p] = fp at *
          clear hfk hfp
          obtain ⟨wy, hwy⟩ : ∃ wy, wy = wr.alloc (Obj.cells #[.int .i64 fk.rel, .slice av fk.vals.length cv0] 59) := ⟨_, rfl⟩
          have hby : Below wr.heap.size wr wy := by rw [hwy]; go_grown
          have Q0 := grow_cell (cell_next q0 hby)
          have Q1 := grow_cell (cell_next q1 hby)
          have D0 := grow_cell (cell_next d0 hby)
          have D1 := grow_cell (cell_next d1 hby)
          have E0 := grow_cell (w := wy) (p := ⟨wr.heap.size, 0, none⟩) (v := .int .i64 fk.rel) (by rw [hwy]; go_simp)
          have E1 := grow_cell (w := wy) (p := ⟨wr.heap.size, 1, none⟩) (v := .slice av fk.vals.length cv0) (by rw [hwy]; go_simp)
          have Hwy := Lib.hid hwy
          clear hwy
          have lc := World.block_lt_of_cell? wr _ c0
          simp only at lc
          cases z with
          | false =>
            go_wp2_with fail
            rw [← Hwy.out]
            clear Hwy
            refine wp_region_grow (by kernel_rfl) (by kernel_rfl) ?_
            repeat (go_big_quiet_step ((go_at_call 30; exact Calls.grow fun ww h => Hc.out ww (hby.trans (h.mono hby.size)))))
            refine wpQuiet_nil ?_
            rintro _ ⟨nq, rfl⟩
            have hbz : Below w1.heap.size w1 nq.W := hbx.trans ((hby.trans (nq.below.mono hby.size)).mono hbx.size)
            have hLz := hL.next (hby.trans (nq.below.mono hby.size))
            clear Q0 Q1 D0 D1 E0 E1 hby Hc hL Hjoin
            generalize nq.W = wz at *
            clear nq
            have hA : Below wz.heap.size wz ((wz.alloc (.cells #[.int .i64 (k : Int)] 3)).alloc (.cells #[.slice (some ⟨wz.heap.size, 0, none⟩) 1 1] 27)) := by go_grown
            have hrow : ((wz.alloc (.cells #[.int .i64 (k : Int)] 3)).alloc (.cells #[.slice (some ⟨wz.heap.size, 0, none⟩) 1 1] 27)).ownsRow w1.heap.size 3 1 (.slice (some ⟨wz.heap.size, 0, none⟩) 1 1) 1 [.int .i64 (k : Int)] :=
              ownsRow_at (C := 0) (row_one wz _ _ _ hbz.size) (fun g hg => by
                have : g = wz.heap.size := by simpa [Value.ownBlock] using hg.symm
                subst this; exact Go.heap_alloc_old _ _ (by simp))
            have htop := hLz.wideTop
            have hLA := hLz.next hA
            have hsrc : Srcs ((wz.alloc (.cells #[.int .i64 (k : Int)] 3)).alloc (.cells #[.slice (some ⟨wz.heap.size, 0, none⟩) 1 1] 27)) 1 (some ⟨wz.heap.size + 1, 0, none⟩) 1 [.slice (some ⟨wz.heap.size, 0, none⟩) 1 1] := by
              have h := srcs_one (wz.alloc (.cells #[.int .i64 (k : Int)] 3)) (.slice (some ⟨wz.heap.size, 0, none⟩) 1 1) 27 rfl
              rw [show (wz.alloc (.cells #[.int .i64 (k : Int)] 3)).heap.size = wz.heap.size + 1 by simp] at h
              exact h
            have HrowA := Lib.hid hLA.2.1
            have Hrow := Lib.hid hrow
            have HLA := Lib.hid hLA
            clear hrow hLA
            go_wp2_with (at_builtin; refine wpList_app rfl _ _ _ (by rfl) w1.heap.size 27 iT (.slice none 0 0) 1 24 Try.underlying41 hiT hT0 hT1 hT2 rfl (by omega) (.slice (some ⟨gv, 0, none⟩) (P.length + 1) cv) (P.length + 1) (css.flatten ++ [.slice (some ⟨gh, 0, none⟩) q.length ch]) (by rfl) HrowA.out (some ⟨wz.heap.size + 1, 0, none⟩) 1 1 [.slice (some ⟨wz.heap.size, 0, none⟩) 1 1] (by rfl) hsrc ?c1 ?c2 ?c3 ?_)
            case c1 => unfold maxLen; omega
            case c2 => omega
            case c3 => exact Nat.le_trans hbz.size hA.size
            intro v1 w3 hown3 hg3 hat3
            obtain ⟨gv', cv', rfl, hL3⟩ := Lst.more HLA.out Hqr.out hqm Hrow.out ⟨by omega, by omega, fun j hj => by have := htop.2.2.2 j hj; omega⟩ (by simpa using hown3) (by simpa [Value.ownBlock] using hg3) (by simpa [Value.ownBlock] using hat3)
            have hbn : Below w1.heap.size w1 w3 := (hbz.trans (hA.mono hbz.size)).grown hg3 (Nat.le_trans hbz.size hA.size) (fun g (hg : Value.ownBlock (.slice (some ⟨gv, 0, none⟩) (P.length + 1) cv) = some g) => by have e : g = gv := (by simpa [Value.ownBlock] using hg.symm); omega)
            have Hs := Lib.hid (Hnew.out (by first | rfl | trivial))
            have hPq : (P ++ [q]).length = P.length + 1 := by simp
            have hL4 : Lst w1.heap.size w3 gv' cv' (P ++ [q]) [(k : Int)] wz.heap.size 1 (F ++ [gh]) (css ++ [[.slice (some ⟨gh, 0, none⟩) q.length ch]]) := hL3
            clear hown3 hg3 hat3 hA Hnew hL3 HLA Hrow HrowA hsrc
            have Hres : Hid (Value.slice (some ⟨gv', 0, none⟩) (P.length + 1 + 1) cv' = .slice (some ⟨gv', 0, none⟩) ((P ++ [q]).length + 1) cv') := by show _ = _; rw [hPq]
            clear hPq
            go_wp2
            go_roundw
            case rel => exact ⟨k + 1, by omega, by go_num, hbn, .inr ⟨by omega, gv', cv', P ++ [q], [(k : Int)], wz.heap.size, 1, F ++ [gh], css ++ [[.slice (some ⟨gh, 0, none⟩) q.length ch]], Hres.out, Hs, hL4⟩⟩
            case measure => simp [intOf]; omega
          | true =>
            go_wp2_with fail
            rw [← Hwy.out]
            clear Hwy
            refine wp_region_grow (by kernel_rfl) (by kernel_rfl) ?_
            repeat (go_big_quiet_step ((go_at_call 30; exact Calls.grow fun ww h => Hc.out ww (hby.trans (h.mono hby.size)))))
            refine wpQuiet_nil ?_
            rintro _ ⟨nq, rfl⟩
            have hbz : Below w1.heap.size w1 nq.W := hbx.trans ((hby.trans (nq.below.mono hby.size)).mono hbx.size)
            have hLz := hL.next (hby.trans (nq.below.mono hby.size))
            clear Q0 Q1 D0 D1 E0 E1 hby Hc hL Hnew
            generalize nq.W = wz at *
            clear nq
            have hA : Below wz.heap.size wz (wz.alloc (.cells #[.int .i64 (k : Int)] 3)) := by go_grown
            have hd := hLz.head.1
            have htop := hLz.wideTop
            have hLA := hLz.next hA
            have HrowA := Lib.hid hLA.2.2.1
            have HLA := Lib.hid hLA
            have Hs := Lib.hid (Hjoin.out (by first | rfl | trivial))
            have hgv := htop.1
            clear hLA Hjoin hLz htop
            go_wp2_with (at_builtin; refine wpList_app rfl _ _ _ (by rfl) w1.heap.size 3 iI (.int .i64 0) 1 8 Try.underlying27 hiI hI0 hI1 hI2 rfl (by omega) (.slice (some ⟨gh, 0, none⟩) q.length ch) q.length (q.map iv) (by rfl) HrowA.out (some ⟨wz.heap.size, 0, none⟩) 1 1 [.int .i64 (k : Int)] (by rfl) (srcs_one wz _ _ rfl) ?c1 ?c2 ?c3 ?_)
            case c1 => unfold maxLen; omega
            case c2 => omega
            case c3 => exact Nat.le_trans hbz.size hA.size
            intro v1 w3 hown3 hg3 hat3
            have hgg := (HrowA.out.lt gh rfl).1
            obtain ⟨hc3, hf3, gh', ch', rfl, hL3⟩ := Lst.grow HLA.out (Nat.le_trans hbz.size hA.size) hown3 (by simpa [Value.ownBlock] using hg3) (by simpa [Value.ownBlock] using hat3)
            have hbn : Below w1.heap.size w1 w3 := (hbz.trans (hA.mono hbz.size)).grown hg3 (Nat.le_trans hbz.size hA.size) (fun g (hg : Value.ownBlock (.slice (some ⟨gh, 0, none⟩) q.length ch) = some g) => by have e : g = gh := (by simpa [Value.ownBlock] using hg.symm); omega)
            have HL3 := Lib.hid hL3
            clear hown3 hg3 hat3 hA HLA HrowA hd hL3
            go_wp2
            go_roundw
            case rel => exact ⟨k + 1, by omega, by go_num, hbn.setCell hgv _, .inr ⟨by omega, gv, cv, P, q ++ [(k : Int)], gh', ch', F, css, rfl, Hs, HL3.out⟩⟩
            case measure => simp [intOf]; omega
      · obtain rfl : k = n := by omega
        rcases hst with ⟨rfl, rfl⟩ | ⟨hk0, gv, cv, P, q, gh, ch, F, css, rfl, HP, hL⟩
        · have ho : ∀ W, Own (cSlice (cSlice cInt)) w.heap.size W (bI x 0) [.slice none (bI x 0).length 0] := fun W => Own.nil _ _
          go_wp2
          go_ret
          exact ⟨⟨_, _, rfl, ho _⟩, hb⟩
        · have hqk := bI_ok x k h14 q (by rw [HP.out]; simp)
          have hPl : P.length + 1 ≤ 14 := by have h := bI_len x k; rw [HP.out] at h; simp at h; omega
          have ho := hL.own hqk.2 (by have := hqk.1; unfold maxLen; omega) (by unfold maxLen; omega)
          rw [← HP.out] at ho
          have ho2 := Own.mono ho hbw.size
          have Hres : Hid (Value.slice (some ⟨gv, 0, none⟩) (P.length + 1) cv = .slice (some ⟨gv, 0, none⟩) (bI x k).length cv) := by show _ = _; rw [HP.out]; simp
          clear ho hL hqk
          go_wp2
          go_ret
          exact ⟨⟨_, _, by rw [← Hres.out]; rfl, ho2⟩, hb⟩
  · have hVf : validDb x = false := by simpa using hV
    unfold blocksL
    rw [if_neg hV]
    rw [hVf] at H1
    clear hV hVf h hx0 hx1 HF
    obtain ⟨n, hn⟩ : ∃ n : Nat, x.facts.length = n := ⟨_, rfl⟩
    obtain ⟨nr, hnr⟩ : ∃ n : Nat, x.rels.length = n := ⟨_, rfl⟩
    rw [hn] at hm H1
    rw [hnr] at H1
    rw [hn, hnr]
    clear hn hnr
    have ho : ∀ W, Own (cSlice (cSlice cInt)) w.heap.size W [] [.slice none 0 0] := fun W => Own.nil _ _
    have Ho := Lib.hid ho
    clear ho
    go_enter Try.func18, Try.ntmps18
    go_wp2_with fail
    refine (H1.out _ ?hb).mono ?_
    case hb => go_grown
    rintro e w1 ⟨rfl, hb1⟩
    have hbb : Below w.heap.size w w1 := Below.trans (by go_grown) (hb1.mono (by simp; try omega))
    go_wp2
    go_ret
    exact ⟨⟨_, _, rfl, Ho.out _⟩, hbb⟩
end Go.Proofs.Ytpofglamcaikfaa


/- Chapter 5: the program's Blocks. -/
import Derived.Test.YtjeenbjmhlbmfaaLst
import Derived.Test.YtjeenbjmhlbmfaaBlock2
namespace Go.Proofs.Ytjeenbjmhlbmfaa
open Go.RowKit
set_option linter.unusedVariables false
set_option maxRecDepth 100000

/-- The program's blocks behind k rounds. -/
def bI (d : Dbs) (k : Nat) : List (List Int) := (blksI (keyR d) k).map ints
theorem bI_new (d : Dbs) (k : Nat) (h : joins (keyR d) k = false) : bI d (k + 1) = bI d k ++ [[(k : Int)]] := by
  unfold bI
  rw [blksI, h]
  simp [ints]
theorem bI_join (d : Dbs) (k : Nat) (h : joins (keyR d) k = true) (P : List (List Int)) (q : List Int) (e : bI d k = P ++ [q]) : bI d (k + 1) = P ++ [q ++ [(k : Int)]] := by
  have hj := h
  unfold joins at hj
  simp only [Bool.and_eq_true, decide_eq_true_eq] at hj
  obtain ⟨P0, f, hP⟩ : ∃ P f, blksI (keyR d) k = P ++ [f] := ⟨_, _, (List.dropLast_concat_getLast (blksI_ne hj.1)).symm⟩
  unfold bI at e ⊢
  rw [hP, List.map_append, List.map_cons, List.map_nil] at e
  obtain ⟨e1, e2⟩ := List.append_inj' e rfl
  simp at e2
  rw [blksI, h, hP]
  unfold addLast
  simp [e1, ints_snoc, e2]
theorem bI_len (d : Dbs) (k : Nat) : (bI d k).length ≤ k := by
  unfold bI
  rw [List.length_map]
  exact blksI_len k
theorem bI_ok (d : Dbs) (k : Nat) (hk : k ≤ 14) : ∀ q, q ∈ bI d k → q.length ≤ k ∧ ∀ x, x ∈ q → inR x := by
  intro q hq
  obtain ⟨b, hb, rfl⟩ := List.mem_map.1 hq
  have hlt : ∀ x, x ∈ b → x < k := fun x hx => blksI_lt hb hx
  refine ⟨?_, ints_inR fun x hx => by have := hlt x hx; omega⟩
  have h1 : b.length ≤ (blksI (keyR d) k).flatten.length := by
    rw [List.length_flatten]
    exact le_sum (List.mem_map.2 ⟨b, hb, rfl⟩)
  rw [blksI_flatten, List.length_range] at h1
  unfold ints
  rw [List.length_map]
  exact h1
theorem bI_zero (d : Dbs) : bI d 0 = [] := rfl
theorem bI_all {d : Dbs} (h : validDb d = true) : bI d d.facts.length = blocksL d := by
  unfold blocksL bI
  rw [if_pos h]
theorem Lst.wideTop {w0 : Nat} {w : World} {gv cv gh ch : Nat} {P : List (List Int)} {q : List Int} {F : List Nat} {css : List (List Value)} (h : Lst w0 w gv cv P q gh ch F css) : w0 ≤ gv ∧ gv < w.heap.size ∧ gh < w.heap.size ∧ ∀ k, k ∈ F → k < w.heap.size :=
  ⟨(h.2.1.lt gv rfl).1, (h.2.1.lt gv rfl).2, (h.2.2.1.lt gh rfl).2, fun k hk => (h.2.2.2.1 k hk).2.1⟩

set_option maxHeartbeats 6400000 in
theorem implBlocks_c {a0 a1 : Option Addr} {cap0 cap1 : Nat} {x : Dbs} {w : World} (h : At cDbs w x [.slice a0 x.rels.length cap0, .slice a1 x.facts.length cap1]) :
    Calls Try.prog 34 #[.agg #[.slice a0 x.rels.length cap0, .slice a1 x.facts.length cap1]] w fun e w' => (∃ a cap, e = .returned (.slice a (blocksL x).length cap) ∧ Own (cSlice (cSlice cInt)) w.heap.size w' (blocksL x) [.slice a (blocksL x).length cap]) ∧ Below w.heap.size w w' := by
  have hx0 := (cDbs_inv h).1
  have hx1 := (cDbs_inv h).2
  have hm := (slice_len hx1).2
  unfold maxLen at hm
  have HF : Hid (∀ w' : World, Below w.heap.size w w' → ∀ j (hj : j < x.facts.length), _) := fun w' hb j hj => at_Fact (Cod.ok_below hx1 hb) j hj
  have H1 : Hid (∀ ww, Below w.heap.size w ww → Calls Try.prog 81 #[.agg #[.slice a0 x.rels.length cap0, .slice a1 x.facts.length cap1]] ww fun e w' => e = .returned (.bool (validDb x)) ∧ Below ww.heap.size ww w') :=
    fun ww hb => implIsValidDatabase_c (At.below h hb (Nat.le_refl _))
  by_cases hV : validDb x = true
  · have H2 : Hid (∀ ww, Below w.heap.size w ww → ∀ (i k : Nat) (hi : i < x.facts.length) (hk : k < x.facts.length) (af ag : Option Addr) (cf cg : Nat), At cFct ww x.facts[i] [.int .i64 x.facts[i].rel, .slice af x.facts[i].vals.length cf] → At cFct ww x.facts[k] [.int .i64 x.facts[k].rel, .slice ag x.facts[k].vals.length cg] → Calls Try.prog 82 #[.slice a0 x.rels.length cap0, .agg #[.int .i64 x.facts[i].rel, .slice af x.facts[i].vals.length cf], .agg #[.int .i64 x.facts[k].rel, .slice ag x.facts[k].vals.length cg]] ww fun e w' => e = .returned (.bool (keyR x i k)) ∧ Below ww.heap.size ww w') :=
      fun ww hb i k hi hk af ag cf cg hA hB => keyR_at hi hk ▸ agreeOnKey_c (At.below hx0 hb (Nat.le_refl _)) hA hB (dbValid_fact hV i hi) (dbValid_fact hV k hk)
    rw [← bI_all hV]
    have h14 := dbValid_len hV
    rw [hV] at H1
    clear h hx0 hx1
    obtain ⟨n, hn⟩ : ∃ n : Nat, x.facts.length = n := ⟨_, rfl⟩
    obtain ⟨nr, hnr⟩ : ∃ n : Nat, x.rels.length = n := ⟨_, rfl⟩
    have Hn := Lib.hid hn
    rw [hn] at hm H1 h14 ⊢
    rw [hnr] at H1 H2 ⊢
    clear hn hnr hV
    obtain ⟨iT, hiT, hT0, hT1, hT2⟩ := info_parts Try.infoIntS
    obtain ⟨iI, hiI, hI0, hI1, hI2⟩ := info_parts Try.infoI
    obtain ⟨wx, hwx⟩ : ∃ wx, wx = w.alloc (Obj.cells #[.slice a0 nr cap0, .slice a1 n cap1] 47) := ⟨_, rfl⟩
    have hb0 : Below w.heap.size w wx := by rw [hwx]; go_grown
    have p0 : wx.cell? ⟨w.heap.size, 0, none⟩ = some (.slice a0 nr cap0) := by rw [hwx]; go_simp
    have p1 : wx.cell? ⟨w.heap.size, 1, none⟩ = some (.slice a1 n cap1) := by rw [hwx]; go_simp
    have Hwx := Lib.hid hwx
    clear hwx
    go_enter Try.func34, Try.ntmps34
    go_wp2_with fail
    rw [← Hwx.out]
    clear Hwx
    refine (H1.out _ hb0).mono ?_
    rintro e w1 ⟨rfl, hb1⟩
    have hbw : Below w.heap.size w w1 := hb0.trans (hb1.mono hb0.size)
    replace p0 := cell_next p0 hb1
    replace p1 := cell_next p1 hb1
    have lb := World.block_lt_of_cell? w1 _ p0
    simp only at lb
    clear hb0 hb1 H1
    go_wp2
    go_loopw [3, 13] (fun ov kv wr => ∃ (k : Nat), k ≤ n ∧ kv = .int .i64 k ∧ Below w1.heap.size w1 wr ∧ (k = 0 ∧ ov = .slice none 0 0 ∨ 0 < k ∧ ∃ gv cv P q gh ch F css, ov = .slice (some ⟨gv, 0, none⟩) (P.length + 1) cv ∧ Hid (bI x k = P ++ [q]) ∧ Lst w1.heap.size wr gv cv P q gh ch F css)) (fun _ kv _ => n - (intOf kv).toNat)
    case atStart => exact ⟨0, by omega, by go_num, Below.refl _ _, .inl ⟨rfl, rfl⟩⟩
    case round =>
      obtain ⟨k, hk, rfl, hbx, hst⟩ := hrel
      have q0 := (hbx.cell (World.block_lt_of_cell? w1 _ p0)).trans p0
      have q1 := (hbx.cell (World.block_lt_of_cell? w1 _ p1)).trans p1
      have hb : Below w.heap.size w wr := hbw.trans (hbx.mono hbw.size)
      clear p0 p1
      by_cases hlt : k < n
      · have hkl : k < x.facts.length := by rw [Hn.out]; exact hlt
        have j1 : (k : Int) < (n : Int) := by omega
        have j0 : (0 : Int) ≤ (k : Int) := Int.natCast_nonneg _
        obtain ⟨b, off, av, cv0, rfl, hbB, c0, c1, hx⟩ := HF.out _ hb k hkl
        rcases hst with ⟨rfl, rfl⟩ | ⟨hk0, gv, cv, P, q, gh, ch, F, css, rfl, HP, hL⟩
        · clear hx H2 HF
          simp only [Nat.zero_mul, Nat.add_zero] at c0 c1
          have Hs : Hid (bI x 1 = [] ++ [[((0 : Nat) : Int)]]) := bI_new x 0 rfl
          have g1 : decide ((0 : Int) < (n : Int)) = true := decide_eq_true (by omega)
          have g2 : decide (0 < n) = true := decide_eq_true hlt
          obtain ⟨wy, hwy⟩ : ∃ wy, wy = wr.alloc (Obj.cells #[.int .i64 x.facts[0].rel, .slice av x.facts[0].vals.length cv0] 31) := ⟨_, rfl⟩
          have hby : Below wr.heap.size wr wy := by rw [hwy]; go_grown
          have Q0 := grow_cell (cell_next q0 hby)
          have Q1 := grow_cell (cell_next q1 hby)
          have Hwy := Lib.hid hwy
          clear hwy
          have lc := World.block_lt_of_cell? wr _ c0
          simp only at lc
          go_wp2_with fail
          rw [← Hwy.out]
          clear Hwy
          refine wp_region_grow (by kernel_rfl) (by kernel_rfl) ?_
          repeat (go_big_quiet_step (fail))
          refine wpQuiet_nil ?_
          rintro _ ⟨nq, rfl⟩
          have hbz : Below w1.heap.size w1 nq.W := hbx.trans ((hby.trans (nq.below.mono hby.size)).mono hbx.size)
          clear Q0 Q1 hby
          generalize nq.W = wz at *
          clear nq
          have hA : Below wz.heap.size wz ((wz.alloc (.cells #[.int .i64 (0 : Int)] 3)).alloc (.cells #[.slice (some ⟨wz.heap.size, 0, none⟩) 1 1] 23)) := by go_grown
          have hrow : ((wz.alloc (.cells #[.int .i64 (0 : Int)] 3)).alloc (.cells #[.slice (some ⟨wz.heap.size, 0, none⟩) 1 1] 23)).ownsRow w1.heap.size 3 1 (.slice (some ⟨wz.heap.size, 0, none⟩) 1 1) 1 [.int .i64 (0 : Int)] :=
            ownsRow_at (C := 0) (row_one wz _ _ _ hbz.size) (fun g hg => by
              have : g = wz.heap.size := by simpa [Value.ownBlock] using hg.symm
              subst this; exact Go.heap_alloc_old _ _ (by simp))
          have hsrc : Srcs ((wz.alloc (.cells #[.int .i64 (0 : Int)] 3)).alloc (.cells #[.slice (some ⟨wz.heap.size, 0, none⟩) 1 1] 23)) 1 (some ⟨wz.heap.size + 1, 0, none⟩) 1 [.slice (some ⟨wz.heap.size, 0, none⟩) 1 1] := by
            have h := srcs_one (wz.alloc (.cells #[.int .i64 (0 : Int)] 3)) (.slice (some ⟨wz.heap.size, 0, none⟩) 1 1) 23 rfl
            rw [show (wz.alloc (.cells #[.int .i64 (0 : Int)] 3)).heap.size = wz.heap.size + 1 by simp] at h
            exact h
          go_wp2_with (at_builtin; refine wpList_app rfl _ _ _ (by rfl) w1.heap.size 23 iT (.slice none 0 0) 1 24 Try.underlying50 hiT hT0 hT1 hT2 rfl (by omega) (.slice none 0 0) 0 [] (by rfl) (World.ownsRow_nil _ _ _ _) (some ⟨wz.heap.size + 1, 0, none⟩) 1 1 [.slice (some ⟨wz.heap.size, 0, none⟩) 1 1] (by rfl) hsrc ?c1 ?c2 ?c3 ?_)
          case c1 => unfold maxLen; omega
          case c2 => omega
          case c3 => exact Nat.le_trans hbz.size hA.size
          intro v1 w3 hown3 hg3 hat3
          obtain ⟨gv, cv, rfl, hL⟩ := Lst.first hrow (by simpa using hown3) (by simpa [Value.ownBlock] using hg3) (by simpa [Value.ownBlock] using hat3)
          have hbn : Below w1.heap.size w1 w3 := (hbz.trans (hA.mono hbz.size)).grown hg3 (Nat.le_trans hbz.size hA.size) (fun g hg => by simp [Value.ownBlock] at hg)
          clear hown3 hg3 hat3 hrow hA
          go_wp2
          go_roundw
          case rel => exact ⟨1, by omega, by go_num, hbn, .inr ⟨by omega, gv, cv, [], [((0 : Nat) : Int)], wz.heap.size, 1, [], [], by simp, Hs, hL⟩⟩
          case measure => simp [intOf]; omega
        · have hnil := blksPart_len x 0
          have H14k : k ≤ 14 := by omega
          have hPl : P.length + 1 ≤ 14 := by have h := bI_len x k; rw [HP.out] at h; simp at h; omega
          have hqk := bI_ok x k H14k q (by rw [HP.out]; simp)
          have hqm : q.length ≤ maxLen := by have := hqk.1; unfold maxLen; omega
          have hq14 : q.length ≤ 14 := by have := hqk.1; omega
          have Hqr := Lib.hid hqk.2
          clear hqk hnil
          obtain ⟨p, hp⟩ : ∃ p, k = p + 1 := ⟨k - 1, by omega⟩
          have hpl : p < x.facts.length := by omega
          obtain ⟨b', off', av', cv', e', hbB', d0, d1, hy⟩ := HF.out _ hb p hpl
          obtain ⟨rfl, rfl⟩ : b = b' ∧ off = off' := by simp at e'; exact e'
          have hA : At cFct wr x.facts[k] [.int .i64 x.facts[k].rel, .slice av x.facts[k].vals.length cv0] := cFct.keep hx (fun _ _ => rfl) hb.size
          have hA' : At cFct wr x.facts[p] [.int .i64 x.facts[p].rel, .slice av' x.facts[p].vals.length cv'] := cFct.keep hy (fun _ _ => rfl) hb.size
          have Hc : Hid (∀ ww, Below wr.heap.size wr ww → Calls Try.prog 82 #[.slice a0 nr cap0, .agg #[.int .i64 x.facts[p].rel, .slice av' x.facts[p].vals.length cv'], .agg #[.int .i64 x.facts[k].rel, .slice av x.facts[k].vals.length cv0]] ww fun e w' => e = .returned (.bool (keyR x p k)) ∧ Below ww.heap.size ww w') :=
            fun ww hw2 => H2.out ww (hb.trans (hw2.mono hb.size)) p k hpl hkl av' av cv' cv0 (At.below hA' hw2 (Nat.le_refl _)) (At.below hA hw2 (Nat.le_refl _))
          have Hj : Hid (joins (keyR x) k = keyR x p k) := by
            show _ = _
            unfold joins
            rw [decide_eq_true hk0, Bool.true_and, hp]; rfl
          have Hnew : Hid (keyR x p k = false → bI x (k + 1) = (P ++ [q]) ++ [[(k : Int)]]) := fun hf => by rw [bI_new x k (Hj.out.trans hf), HP.out]
          have Hjoin : Hid (keyR x p k = true → bI x (k + 1) = P ++ [q ++ [(k : Int)]]) := fun hf => bI_join x k (Hj.out.trans hf) P q HP.out
          have g1 : decide ((0 : Int) < (k : Int)) = true := decide_eq_true (by omega)
          have g2 : decide (0 < k) = true := decide_eq_true hk0
          have hkp : (k : Int) - 1 = (p : Int) := by omega
          have hwp : wrap64 ((k : Int) - 1) = (p : Int) := by rw [IntWalk.wrap64_in _ ⟨by omega, by omega⟩]; omega
          have j2 : (0 : Int) ≤ (p : Int) := Int.natCast_nonneg _
          have j3 : (p : Int) < (n : Int) := by omega
          clear hx hy hA hA' e' hbB' Hj H2 HF HP
          have Hp := Lib.hid hp
          clear hp
          generalize keyR x p k = z at *
          generalize hfk : x.facts[k] = fk at *
          generalize hfp : x.facts[p] = fp at *
          clear hfk hfp
          obtain ⟨wy, hwy⟩ : ∃ wy, wy = wr.alloc (Obj.cells #[.int .i64 fk.rel, .slice av fk.vals.length cv0] 31) := ⟨_, rfl⟩
          have hby : Below wr.heap.size wr wy := by rw [hwy]; go_grown
          have Q0 := grow_cell (cell_next q0 hby)
          have Q1 := grow_cell (cell_next q1 hby)
          have D0 := grow_cell (cell_next d0 hby)
          have D1 := grow_cell (cell_next d1 hby)
          have E0 := grow_cell (w := wy) (p := ⟨wr.heap.size, 0, none⟩) (v := .int .i64 fk.rel) (by rw [hwy]; go_simp)
          have E1 := grow_cell (w := wy) (p := ⟨wr.heap.size, 1, none⟩) (v := .slice av fk.vals.length cv0) (by rw [hwy]; go_simp)
          have Hwy := Lib.hid hwy
          clear hwy
          have lc := World.block_lt_of_cell? wr _ c0
          simp only at lc
          cases z with
          | false =>
            go_wp2_with fail
            rw [← Hwy.out]
            clear Hwy
            refine wp_region_grow (by kernel_rfl) (by kernel_rfl) ?_
            repeat (go_big_quiet_step ((go_at_call 82; exact Calls.grow fun ww h => Hc.out ww (hby.trans (h.mono hby.size)))))
            refine wpQuiet_nil ?_
            rintro _ ⟨nq, rfl⟩
            have hbz : Below w1.heap.size w1 nq.W := hbx.trans ((hby.trans (nq.below.mono hby.size)).mono hbx.size)
            have hLz := hL.next (hby.trans (nq.below.mono hby.size))
            clear Q0 Q1 D0 D1 E0 E1 hby Hc hL Hjoin
            generalize nq.W = wz at *
            clear nq
            have hA : Below wz.heap.size wz ((wz.alloc (.cells #[.int .i64 (k : Int)] 3)).alloc (.cells #[.slice (some ⟨wz.heap.size, 0, none⟩) 1 1] 23)) := by go_grown
            have hrow : ((wz.alloc (.cells #[.int .i64 (k : Int)] 3)).alloc (.cells #[.slice (some ⟨wz.heap.size, 0, none⟩) 1 1] 23)).ownsRow w1.heap.size 3 1 (.slice (some ⟨wz.heap.size, 0, none⟩) 1 1) 1 [.int .i64 (k : Int)] :=
              ownsRow_at (C := 0) (row_one wz _ _ _ hbz.size) (fun g hg => by
                have : g = wz.heap.size := by simpa [Value.ownBlock] using hg.symm
                subst this; exact Go.heap_alloc_old _ _ (by simp))
            have htop := hLz.wideTop
            have hLA := hLz.next hA
            have hsrc : Srcs ((wz.alloc (.cells #[.int .i64 (k : Int)] 3)).alloc (.cells #[.slice (some ⟨wz.heap.size, 0, none⟩) 1 1] 23)) 1 (some ⟨wz.heap.size + 1, 0, none⟩) 1 [.slice (some ⟨wz.heap.size, 0, none⟩) 1 1] := by
              have h := srcs_one (wz.alloc (.cells #[.int .i64 (k : Int)] 3)) (.slice (some ⟨wz.heap.size, 0, none⟩) 1 1) 23 rfl
              rw [show (wz.alloc (.cells #[.int .i64 (k : Int)] 3)).heap.size = wz.heap.size + 1 by simp] at h
              exact h
            have HrowA := Lib.hid hLA.2.1
            have Hrow := Lib.hid hrow
            have HLA := Lib.hid hLA
            clear hrow hLA
            go_wp2_with (at_builtin; refine wpList_app rfl _ _ _ (by rfl) w1.heap.size 23 iT (.slice none 0 0) 1 24 Try.underlying50 hiT hT0 hT1 hT2 rfl (by omega) (.slice (some ⟨gv, 0, none⟩) (P.length + 1) cv) (P.length + 1) (css.flatten ++ [.slice (some ⟨gh, 0, none⟩) q.length ch]) (by rfl) HrowA.out (some ⟨wz.heap.size + 1, 0, none⟩) 1 1 [.slice (some ⟨wz.heap.size, 0, none⟩) 1 1] (by rfl) hsrc ?c1 ?c2 ?c3 ?_)
            case c1 => unfold maxLen; omega
            case c2 => omega
            case c3 => exact Nat.le_trans hbz.size hA.size
            intro v1 w3 hown3 hg3 hat3
            obtain ⟨gv', cv', rfl, hL3⟩ := Lst.more HLA.out Hqr.out hqm Hrow.out ⟨by omega, by omega, fun j hj => by have := htop.2.2.2 j hj; omega⟩ (by simpa using hown3) (by simpa [Value.ownBlock] using hg3) (by simpa [Value.ownBlock] using hat3)
            have hbn : Below w1.heap.size w1 w3 := (hbz.trans (hA.mono hbz.size)).grown hg3 (Nat.le_trans hbz.size hA.size) (fun g (hg : Value.ownBlock (.slice (some ⟨gv, 0, none⟩) (P.length + 1) cv) = some g) => by have e : g = gv := (by simpa [Value.ownBlock] using hg.symm); omega)
            have Hs := Lib.hid (Hnew.out (by first | rfl | trivial))
            have hPq : (P ++ [q]).length = P.length + 1 := by simp
            have hL4 : Lst w1.heap.size w3 gv' cv' (P ++ [q]) [(k : Int)] wz.heap.size 1 (F ++ [gh]) (css ++ [[.slice (some ⟨gh, 0, none⟩) q.length ch]]) := hL3
            clear hown3 hg3 hat3 hA Hnew hL3 HLA Hrow HrowA hsrc
            have Hres : Hid (Value.slice (some ⟨gv', 0, none⟩) (P.length + 1 + 1) cv' = .slice (some ⟨gv', 0, none⟩) ((P ++ [q]).length + 1) cv') := by show _ = _; rw [hPq]
            clear hPq
            go_wp2
            go_roundw
            case rel => exact ⟨k + 1, by omega, by go_num, hbn, .inr ⟨by omega, gv', cv', P ++ [q], [(k : Int)], wz.heap.size, 1, F ++ [gh], css ++ [[.slice (some ⟨gh, 0, none⟩) q.length ch]], Hres.out, Hs, hL4⟩⟩
            case measure => simp [intOf]; omega
          | true =>
            go_wp2_with fail
            rw [← Hwy.out]
            clear Hwy
            refine wp_region_grow (by kernel_rfl) (by kernel_rfl) ?_
            repeat (go_big_quiet_step ((go_at_call 82; exact Calls.grow fun ww h => Hc.out ww (hby.trans (h.mono hby.size)))))
            refine wpQuiet_nil ?_
            rintro _ ⟨nq, rfl⟩
            have hbz : Below w1.heap.size w1 nq.W := hbx.trans ((hby.trans (nq.below.mono hby.size)).mono hbx.size)
            have hLz := hL.next (hby.trans (nq.below.mono hby.size))
            clear Q0 Q1 D0 D1 E0 E1 hby Hc hL Hnew
            generalize nq.W = wz at *
            clear nq
            have hA : Below wz.heap.size wz (wz.alloc (.cells #[.int .i64 (k : Int)] 3)) := by go_grown
            have hd := hLz.head.1
            have htop := hLz.wideTop
            have hLA := hLz.next hA
            have HrowA := Lib.hid hLA.2.2.1
            have HLA := Lib.hid hLA
            have Hs := Lib.hid (Hjoin.out (by first | rfl | trivial))
            have hgv := htop.1
            clear hLA Hjoin hLz htop
            go_wp2_with (at_builtin; refine wpList_app rfl _ _ _ (by rfl) w1.heap.size 3 iI (.int .i64 0) 1 8 Try.underlying23 hiI hI0 hI1 hI2 rfl (by omega) (.slice (some ⟨gh, 0, none⟩) q.length ch) q.length (q.map iv) (by rfl) HrowA.out (some ⟨wz.heap.size, 0, none⟩) 1 1 [.int .i64 (k : Int)] (by rfl) (srcs_one wz _ _ rfl) ?c1 ?c2 ?c3 ?_)
            case c1 => unfold maxLen; omega
            case c2 => omega
            case c3 => exact Nat.le_trans hbz.size hA.size
            intro v1 w3 hown3 hg3 hat3
            have hgg := (HrowA.out.lt gh rfl).1
            obtain ⟨hc3, hf3, gh', ch', rfl, hL3⟩ := Lst.grow HLA.out (Nat.le_trans hbz.size hA.size) hown3 (by simpa [Value.ownBlock] using hg3) (by simpa [Value.ownBlock] using hat3)
            have hbn : Below w1.heap.size w1 w3 := (hbz.trans (hA.mono hbz.size)).grown hg3 (Nat.le_trans hbz.size hA.size) (fun g (hg : Value.ownBlock (.slice (some ⟨gh, 0, none⟩) q.length ch) = some g) => by have e : g = gh := (by simpa [Value.ownBlock] using hg.symm); omega)
            have HL3 := Lib.hid hL3
            clear hown3 hg3 hat3 hA HLA HrowA hd hL3
            go_wp2
            go_roundw
            case rel => exact ⟨k + 1, by omega, by go_num, hbn.setCell hgv _, .inr ⟨by omega, gv, cv, P, q ++ [(k : Int)], gh', ch', F, css, rfl, Hs, HL3.out⟩⟩
            case measure => simp [intOf]; omega
      · obtain rfl : k = n := by omega
        rcases hst with ⟨rfl, rfl⟩ | ⟨hk0, gv, cv, P, q, gh, ch, F, css, rfl, HP, hL⟩
        · have ho : ∀ W, Own (cSlice (cSlice cInt)) w.heap.size W (bI x 0) [.slice none (bI x 0).length 0] := fun W => Own.nil _ _
          go_wp2
          go_ret
          exact ⟨⟨_, _, rfl, ho _⟩, hb⟩
        · have hqk := bI_ok x k h14 q (by rw [HP.out]; simp)
          have hPl : P.length + 1 ≤ 14 := by have h := bI_len x k; rw [HP.out] at h; simp at h; omega
          have ho := hL.own hqk.2 (by have := hqk.1; unfold maxLen; omega) (by unfold maxLen; omega)
          rw [← HP.out] at ho
          have ho2 := Own.mono ho hbw.size
          have Hres : Hid (Value.slice (some ⟨gv, 0, none⟩) (P.length + 1) cv = .slice (some ⟨gv, 0, none⟩) (bI x k).length cv) := by show _ = _; rw [HP.out]; simp
          clear ho hL hqk
          go_wp2
          go_ret
          exact ⟨⟨_, _, by rw [← Hres.out]; rfl, ho2⟩, hb⟩
  · have hVf : validDb x = false := by simpa using hV
    unfold blocksL
    rw [if_neg hV]
    rw [hVf] at H1
    clear hV hVf h hx0 hx1 HF
    obtain ⟨n, hn⟩ : ∃ n : Nat, x.facts.length = n := ⟨_, rfl⟩
    obtain ⟨nr, hnr⟩ : ∃ n : Nat, x.rels.length = n := ⟨_, rfl⟩
    rw [hn] at hm H1
    rw [hnr] at H1
    rw [hn, hnr]
    clear hn hnr
    have ho : ∀ W, Own (cSlice (cSlice cInt)) w.heap.size W [] [.slice none 0 0] := fun W => Own.nil _ _
    have Ho := Lib.hid ho
    clear ho
    go_enter Try.func34, Try.ntmps34
    go_wp2_with fail
    refine (H1.out _ ?hb).mono ?_
    case hb => go_grown
    rintro e w1 ⟨rfl, hb1⟩
    have hbb : Below w.heap.size w w1 := Below.trans (by go_grown) (hb1.mono (by simp; try omega))
    go_wp2
    go_ret
    exact ⟨⟨_, _, rfl, Ho.out _⟩, hbb⟩
end Go.Proofs.Ytjeenbjmhlbmfaa


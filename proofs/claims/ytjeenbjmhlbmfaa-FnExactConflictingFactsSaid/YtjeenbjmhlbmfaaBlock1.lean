/- Chapter 5: the model's BlockOf. -/
import Derived.Test.YtjeenbjmhlbmfaaBlkDb
import Derived.Test.YtjeenbjmhlbmfaaKey2
namespace Go.Proofs.Ytjeenbjmhlbmfaa
open Go.RowKit
set_option linter.unusedVariables false
set_option maxRecDepth 100000

theorem srcs_one (w : World) (v : Value) (e : TypeId) (h : v.oneCell' = true) : Srcs (w.alloc (.cells #[v] e)) 1 (some ⟨w.heap.size, 0, none⟩) 1 [v] :=
  ⟨rfl, fun u hu => by simp at hu; subst hu; exact h, .inr ⟨_, rfl, one_at w v e⟩⟩
theorem own_form {w : World} {base : Nat} {e : TypeId} {v : Value} {n : Nat} {xs : List Value} (h : w.ownsRow base e 1 v n xs) : ∃ a cap, v = .slice a n cap := by
  rcases h.2 with ⟨rfl, h0⟩ | ⟨g, cp, cur, rfl, _⟩
  · exact ⟨none, 0, by rw [h0]⟩
  · exact ⟨_, _, rfl⟩
/-- A row grown by one number. -/
theorem own_push {w w' : World} {base : Nat} {e : TypeId} {v' : Value} {n : Nat} {l : List Int} {x : Int} (h : w'.ownsRow base e 1 v' (n + 1) (l.map iv ++ [.int .i64 x])) : w'.ownsRow base e 1 v' (l ++ [x]).length ((l ++ [x]).map iv) := by
  have hn := h.1
  simp at hn
  rw [List.map_append, List.length_append, List.length_singleton]
  subst hn
  exact h
theorem ints_snoc (l : List Nat) (n : Nat) : ints (l ++ [n]) = ints l ++ [(n : Int)] := by unfold ints; simp
/-- What stands of the block behind k rounds. -/
def blkPart (d : Dbs) (i k : Nat) : List Int := ints ((List.range k).filter (keyR d i))
theorem blkPart_succ (d : Dbs) (i k : Nat) : blkPart d i (k + 1) = if keyR d i k then blkPart d i k ++ [(k : Int)] else blkPart d i k := by
  unfold blkPart
  rw [List.range_succ, List.filter_append]
  cases h : keyR d i k
  · simp [h]
  · simp [h, ints]
theorem blkPart_len (d : Dbs) (i k : Nat) : (blkPart d i k).length ≤ k := by
  unfold blkPart ints
  rw [List.length_map]
  exact Nat.le_trans (List.length_filter_le _ _) (by simp)
theorem blkPart_inR (d : Dbs) (i k : Nat) (hk : k ≤ 14) : ∀ x, x ∈ blkPart d i k → inR x :=
  ints_inR fun x hx => by
    have := List.mem_range.1 (List.mem_filter.1 hx).1
    omega

set_option maxHeartbeats 3200000 in
theorem specBlockOf_c {a0 a1 : Option Addr} {cap0 cap1 : Nat} {x : Dbs} {i : Int} {w : World} (h : At cDbs w x [.slice a0 x.rels.length cap0, .slice a1 x.facts.length cap1]) :
    Calls Try.prog 41 #[.agg #[.slice a0 x.rels.length cap0, .slice a1 x.facts.length cap1], .int .i64 i] w fun e w' => (∃ a cap, e = .returned (.slice a (blockL x i).length cap) ∧ Own (cSlice cInt) w.heap.size w' (blockL x i) [.slice a (blockL x i).length cap]) ∧ Below w.heap.size w w' := by
  have hx0 := (cDbs_inv h).1
  have hx1 := (cDbs_inv h).2
  have hm := (slice_len hx1).2
  unfold maxLen at hm
  have HF : Hid (∀ w' : World, Below w.heap.size w w' → ∀ j (hj : j < x.facts.length), _) := fun w' hb j hj => at_Fact (Cod.ok_below hx1 hb) j hj
  have H1 : Hid (∀ ww, Below w.heap.size w ww → Calls Try.prog 80 #[.agg #[.slice a0 x.rels.length cap0, .slice a1 x.facts.length cap1]] ww fun e w' => e = .returned (.bool (validDb x)) ∧ Below ww.heap.size ww w') :=
    fun ww hb => specIsValidDatabase_c (At.below h hb (Nat.le_refl _))
  have H2 : Hid (∀ ww, Below w.heap.size w ww → ∀ (f g : Fct) (af ag : Option Addr) (cf cg : Nat), At cFct ww f [.int .i64 f.rel, .slice af f.vals.length cf] → At cFct ww g [.int .i64 g.rel, .slice ag g.vals.length cg] → Calls Try.prog 85 #[.slice a0 x.rels.length cap0, .agg #[.int .i64 f.rel, .slice af f.vals.length cf], .agg #[.int .i64 g.rel, .slice ag g.vals.length cg]] ww fun e w' => e = .returned (.bool (haveKey x.rels f g)) ∧ Below ww.heap.size ww w') :=
    fun ww hb f g af ag cf cg hA hB => specHaveSameKey_c (At.below hx0 hb (Nat.le_refl _)) hA hB
  have HV : Hid (validDb x = true → x.facts.length ≤ 14 ∧ ∀ j (hj : j < x.facts.length), validFact x.rels x.facts[j] = true) := fun hv => ⟨dbValid_len hv, fun j hj => dbValid_fact hv j hj⟩
  have HK : Hid (∀ j k (hj : j < x.facts.length) (hk : k < x.facts.length), keyR x j k = sameKey x.rels x.facts[j] x.facts[k]) := fun j k hj hk => keyR_at hj hk
  clear h hx0 hx1
  unfold blockL
  have hP : ∀ j, blk (keyR x) x.facts.length j = (List.range x.facts.length).filter (keyR x j) := fun j => rfl
  have hI : inB i 0 ((x.facts.length : Int) - 1) = true → 0 ≤ i ∧ i ≤ (x.facts.length : Int) - 1 := by unfold inB; simp
  have hwn : wrap64 ((x.facts.length : Int) - 1) = (x.facts.length : Int) - 1 := IntWalk.wrap64_in _ ⟨by omega, by omega⟩
  have HI : Hid (∀ ww, Calls Try.prog 84 #[.int .i64 i, .int .i64 0, .int .i64 ((x.facts.length : Int) - 1)] ww fun e w' => e = .returned (.bool (inB i 0 ((x.facts.length : Int) - 1))) ∧ ww = w') := fun ww => l1In_any _ _ _ _
  obtain ⟨i0, hi, hz0, hz1, hz2⟩ := info_parts Try.infoI
  by_cases hG : (validDb x && inB i 0 ((x.facts.length : Int) - 1)) = true
  · rw [if_pos hG]
    simp only [Bool.and_eq_true] at hG
    obtain ⟨hv, hin⟩ := hG
    rw [hv] at H1
    rw [hin] at HI
    obtain ⟨h14, hvf⟩ := HV.out hv
    obtain ⟨ha, hb⟩ := hI hin
    obtain ⟨p, rfl⟩ := Int.eq_ofNat_of_zero_le ha
    rw [show ((p : Int)).toNat = p from rfl, hP]
    have Hvf := Lib.hid hvf
    clear hI hv hin HV hvf ha hP
    have hpl : p < x.facts.length := by omega
    obtain ⟨n, hn⟩ : ∃ n : Nat, x.facts.length = n := ⟨_, rfl⟩
    obtain ⟨nr, hnr⟩ : ∃ n : Nat, x.rels.length = n := ⟨_, rfl⟩
    have Hn := Lib.hid hn
    have Hres : Hid (ints ((List.range n).filter (keyR x p)) = blkPart x p n) := rfl
    rw [hn] at hm HI h14 hb hwn H1 ⊢
    rw [hnr] at H1 H2 ⊢
    rw [Hres.out]
    clear hn hnr
    have hp : p < n := by omega
    have i1 : (0 : Int) ≤ (p : Int) := Int.natCast_nonneg _
    have i2 : (p : Int) < (n : Int) := by omega
    obtain ⟨wx, hwx⟩ : ∃ wx, wx = w.alloc (Obj.cells #[.slice a0 nr cap0, .slice a1 n cap1] 47) := ⟨_, rfl⟩
    have hb0 : Below w.heap.size w wx := by rw [hwx]; go_grown
    have hws : wx.heap.size = w.heap.size + 1 := by rw [hwx]; simp
    have p0 : wx.cell? ⟨w.heap.size, 0, none⟩ = some (.slice a0 nr cap0) := by rw [hwx]; go_simp
    have p1 : wx.cell? ⟨w.heap.size, 1, none⟩ = some (.slice a1 n cap1) := by rw [hwx]; go_simp
    have hown0 : (wx.alloc (Obj.cells #[] 3)).ownsRow wx.heap.size 3 1 (.slice (some ⟨w.heap.size + 1, 0, none⟩) 0 0) (blkPart x p 0).length ((blkPart x p 0).map iv) := by
      rw [← hws]
      exact row_empty wx 3 wx.heap.size (Nat.le_refl _)
    have hbe : Below wx.heap.size wx (wx.alloc (Obj.cells #[] 3)) := by go_grown
    have Hws := Lib.hid hws
    have Hwx := Lib.hid hwx
    clear hwx hws
    go_enter Try.func41, Try.ntmps41
    go_wp2_with fail
    rw [← Hwx.out]
    clear Hwx
    go_loopw [5, 6] (fun ov kv wr => ∃ (k : Nat) (o : Value), o = ov ∧ k ≤ n ∧ kv = .int .i64 k ∧ wr.ownsRow wx.heap.size 3 1 o (blkPart x p k).length ((blkPart x p k).map iv) ∧ Below wx.heap.size wx wr) (fun _ kv _ => n - (intOf kv).toNat)
    case atStart => exact ⟨0, _, rfl, by omega, by go_num, hown0, hbe⟩
    case round =>
      clear hown0 hbe
      obtain ⟨k, o, rfl, hk, rfl, hown, hbx⟩ := hrel
      have q0 := (hbx.cell (World.block_lt_of_cell? wx _ p0)).trans p0
      have q1 := (hbx.cell (World.block_lt_of_cell? wx _ p1)).trans p1
      have hb1 : Below w.heap.size w wr := hb0.trans (hbx.mono hb0.size)
      clear p0 p1
      by_cases hlt : k < n
      · have hkl : k < x.facts.length := by rw [Hn.out]; exact hlt
        have hplx : p < x.facts.length := by rw [Hn.out]; exact hp
        have j1 : (k : Int) < (n : Int) := by omega
        go_wp2_with fail
        refine (H1.out _ hb1).mono ?_
        rintro e w2 ⟨rfl, hb2⟩
        have hb3 : Below w.heap.size w w2 := hb1.trans (hb2.mono hb1.size)
        have hby : Below wx.heap.size wx w2 := hbx.trans (hb2.mono hbx.size)
        replace q0 := cell_next q0 hb2
        replace q1 := cell_next q1 hb2
        replace hown := ownsRow_below hown hb2
        clear hb1 hb2 hbx
        go_wp2_with fail
        refine (HI.out _).mono ?_
        rintro e w' ⟨rfl, rfl⟩
        obtain ⟨b, off, av, cv, rfl, hbB, c0, c1, hx⟩ := HF.out _ hb3 p hplx
        obtain ⟨b', off', av', cv', e', hbB', d0, d1, hy⟩ := HF.out _ hb3 k hkl
        obtain ⟨rfl, rfl⟩ : b = b' ∧ off = off' := by simp at e'; exact e'
        have hA : At cFct w2 x.facts[p] [.int .i64 x.facts[p].rel, .slice av x.facts[p].vals.length cv] := cFct.keep hx (fun _ _ => rfl) hb3.size
        have hA' : At cFct w2 x.facts[k] [.int .i64 x.facts[k].rel, .slice av' x.facts[k].vals.length cv'] := cFct.keep hy (fun _ _ => rfl) hb3.size
        have Hc : Hid (∀ ww, Below w2.heap.size w2 ww → Calls Try.prog 85 #[.slice a0 nr cap0, .agg #[.int .i64 x.facts[p].rel, .slice av x.facts[p].vals.length cv], .agg #[.int .i64 x.facts[k].rel, .slice av' x.facts[k].vals.length cv']] ww fun e w' => e = .returned (.bool (keyR x p k)) ∧ Below ww.heap.size ww w') := by
          intro ww hw2
          have hc := H2.out ww (hb3.trans (hw2.mono hb3.size)) _ _ av av' cv cv' (At.below hA hw2 (Nat.le_refl _)) (At.below hA' hw2 (Nat.le_refl _))
          have he : haveKey x.rels x.facts[p] x.facts[k] = keyR x p k := by
            unfold haveKey
            rw [Hvf.out p hplx, Hvf.out k hkl, HK.out p k hplx hkl]; rfl
          rw [he] at hc
          exact hc
        have C0 := grow_cell c0
        have C1 := grow_cell c1
        have D0 := grow_cell d0
        have D1 := grow_cell d1
        have Q0 := grow_cell q0
        have Q1 := grow_cell q1
        have Hst := Lib.hid (blkPart_succ x p k)
        have hlen := blkPart_len x p k
        clear hx hy hA hA' c0 c1 d0 d1 e' hbB'
        generalize keyR x p k = z at *
        generalize x.facts[p] = fp at *
        generalize x.facts[k] = fk at *
        generalize hcu : blkPart x p k = cur at *
        clear hcu
        cases z with
        | false =>
          have Hs : Hid (blkPart x p (k + 1) = cur) := Hst.out
          clear Hst
          go_wp2_with fail
          refine wp_region_grow (by kernel_rfl) (by kernel_rfl) ?_
          repeat (go_big_quiet_step ((go_at_call 85; exact Calls.grow fun ww h => Hc.out ww h)))
          refine wpQuiet_nil ?_
          rintro _ ⟨nq, rfl⟩
          go_wp2
          go_roundw
          case rel => exact ⟨k + 1, _, rfl, by omega, by go_num, by rw [Hs.out]; exact ownsRow_below hown nq.below, hby.trans (nq.below.mono hby.size)⟩
          case measure => simp [intOf]; omega
        | true =>
          have Hs : Hid (blkPart x p (k + 1) = cur ++ [(k : Int)]) := Hst.out
          clear Hst
          go_wp2_with fail
          refine wp_region_grow (by kernel_rfl) (by kernel_rfl) ?_
          repeat (go_big_quiet_step ((go_at_call 85; exact Calls.grow fun ww h => Hc.out ww h)))
          refine wpQuiet_nil ?_
          rintro _ ⟨nq, rfl⟩
          replace hown := ownsRow_below hown nq.below
          have hbz : Below wx.heap.size wx nq.W := hby.trans (nq.below.mono hby.size)
          clear Q0 Q1 C0 C1 D0 D1 Hc
          generalize nq.W = wz at *
          clear nq
          have hownA : (wz.alloc (.cells #[.int .i64 (k : Int)] 3)).ownsRow wx.heap.size 3 1 o cur.length (cur.map iv) := ownsRow_below hown (by go_grown)
          have hbA : Below wx.heap.size wx (wz.alloc (.cells #[.int .i64 (k : Int)] 3)) := hbz.trans ((by go_grown : Below wz.heap.size wz _).mono hbz.size)
          go_wp2_with (at_builtin; refine wpList_app rfl _ _ _ (by rfl) wx.heap.size 3 i0 (.int .i64 0) 1 8 Try.underlying23 hi hz0 hz1 hz2 rfl (by omega) o cur.length (cur.map iv) (by rfl) hownA _ _ _ [.int .i64 (k : Int)] (by rfl) (srcs_one wz _ _ rfl) ?c1 ?c2 ?c3 ?_)
          case c1 => unfold maxLen; omega
          case c2 => omega
          case c3 => exact hbA.size
          intro v1 w3 hown3 hg3 _
          have hown4 := own_push (w := w3) hown3
          have hb4 : Below wx.heap.size wx w3 := Below.grownOwn hbA hg3 hownA (Nat.le_refl _)
          clear hown hown3 hg3 hownA hbA
          go_wp2
          go_roundw
          case rel => exact ⟨k + 1, _, rfl, by omega, by go_num, by rw [Hs.out]; exact hown4, hb4⟩
          case measure => simp [intOf]; omega
      · obtain rfl : k = n := by omega
        obtain ⟨oa, oc, rfl⟩ := own_form hown
        have ho := Own.mono (own_ints hown (blkPart_inR x p k h14)) hb0.size
        clear hown
        go_wp2
        go_ret
        exact ⟨⟨_, _, rfl, ho⟩, hb1⟩
  · rw [if_neg hG]
    have hVI : validDb x = true → inB i 0 ((x.facts.length : Int) - 1) = false := by
      intro hv
      cases hi2 : inB i 0 ((x.facts.length : Int) - 1)
      · rfl
      · exact absurd (by rw [hv, hi2]; rfl) hG
    clear hI hP hG HV HK H2 HF
    obtain ⟨n, hn⟩ : ∃ n : Nat, x.facts.length = n := ⟨_, rfl⟩
    obtain ⟨nr, hnr⟩ : ∃ n : Nat, x.rels.length = n := ⟨_, rfl⟩
    rw [hn] at hm HI hwn H1 hVI
    rw [hnr] at H1
    rw [hn, hnr]
    clear hn hnr
    generalize validDb x = V at *
    generalize inB i 0 ((n : Int) - 1) = I at *
    obtain ⟨wx, hwx⟩ : ∃ wx, wx = w.alloc (Obj.cells #[.slice a0 nr cap0, .slice a1 n cap1] 47) := ⟨_, rfl⟩
    have hb0 : Below w.heap.size w wx := by rw [hwx]; go_grown
    have hws : wx.heap.size = w.heap.size + 1 := by rw [hwx]; simp
    have p0 : wx.cell? ⟨w.heap.size, 0, none⟩ = some (.slice a0 nr cap0) := by rw [hwx]; go_simp
    have p1 : wx.cell? ⟨w.heap.size, 1, none⟩ = some (.slice a1 n cap1) := by rw [hwx]; go_simp
    have ho : ∀ W, Own (cSlice cInt) w.heap.size W [] [.slice (some ⟨w.heap.size + 1, 0, none⟩) 0 0] := fun W => Own.empty _ _ _ _
    have Ho := Lib.hid ho
    have hbe : Below wx.heap.size wx (wx.alloc (Obj.cells #[] 3)) := by go_grown
    have Hwx := Lib.hid hwx
    clear hwx ho
    go_enter Try.func41, Try.ntmps41
    go_wp2_with fail
    rw [← Hwx.out]
    clear Hwx
    go_loopw [5, 6] (fun ov kv wr => ov = .slice (some ⟨w.heap.size + 1, 0, none⟩) 0 0 ∧ kv = .int .i64 0 ∧ Below wx.heap.size wx wr) (fun _ kv _ => n - (intOf kv).toNat)
    case atStart => exact ⟨rfl, rfl, hbe⟩
    case round =>
      clear hbe
      obtain ⟨rfl, rfl, hbx⟩ := hrel
      have q0 := (hbx.cell (World.block_lt_of_cell? wx _ p0)).trans p0
      have q1 := (hbx.cell (World.block_lt_of_cell? wx _ p1)).trans p1
      have hb1 : Below w.heap.size w wr := hb0.trans (hbx.mono hb0.size)
      clear p0 p1
      rcases Nat.eq_zero_or_pos n with hn0 | hn0
      · subst hn0
        go_wp2
        go_ret
        exact ⟨⟨_, _, rfl, Ho.out _⟩, hb1⟩
      · have g1 : decide ((0 : Int) < (n : Int)) = true := decide_eq_true (by omega)
        have g2 : decide (0 < n) = true := decide_eq_true hn0
        go_wp2_with fail
        refine (H1.out _ hb1).mono ?_
        rintro e w2 ⟨rfl, hb2⟩
        have hb3 : Below w.heap.size w w2 := hb1.trans (hb2.mono hb1.size)
        replace q0 := cell_next q0 hb2
        replace q1 := cell_next q1 hb2
        clear hb1 hb2 hbx
        cases V with
        | false =>
          go_wp2
          go_ret
          exact ⟨⟨_, _, rfl, Ho.out _⟩, hb3⟩
        | true =>
          have hIf := hVI rfl
          subst hIf
          clear hVI
          go_wp2_with fail
          refine (HI.out _).mono ?_
          rintro e w' ⟨rfl, rfl⟩
          go_wp2
          go_ret
          exact ⟨⟨_, _, rfl, Ho.out _⟩, hb3⟩
end Go.Proofs.Ytjeenbjmhlbmfaa


/- Chapter 5: the program's ConflictingFacts; IsConsistent, the model's and the program's. -/
import Derived.Test.YtjeenbjmhlbmfaaBlock5
namespace Go.Proofs.Ytjeenbjmhlbmfaa
open Go.RowKit
set_option linter.unusedVariables false
set_option maxRecDepth 100000

/-- The program's facts in conflict behind j blocks. -/
def cfPart (L : List (List Int)) (j : Nat) : List Int := ((L.take j).filter fun b => decide (1 < b.length)).flatten
theorem cfPart_succ (L : List (List Int)) (j : Nat) (hj : j < L.length) : cfPart L (j + 1) = if decide (1 < L[j].length) then cfPart L j ++ L[j] else cfPart L j := by
  unfold cfPart
  rw [List.take_succ_eq_append_getElem hj, List.filter_append, List.flatten_append]
  cases h : decide (1 < L[j].length)
  · simp at h; simp [h]
  · simp at h; simp [h]
theorem cf_le : ∀ (L : List (List Int)), (L.filter fun b => decide (1 < b.length)).flatten.length ≤ L.flatten.length
  | [] => by simp
  | b :: L => by
    have := cf_le L
    rw [List.filter_cons]
    split
    · simp only [List.flatten_cons, List.length_append]; omega
    · simp only [List.flatten_cons, List.length_append]; omega
theorem cfPart_len (L : List (List Int)) (j : Nat) : (cfPart L j).length ≤ L.flatten.length := by
  unfold cfPart
  refine Nat.le_trans (cf_le _) ?_
  have h := congrArg (fun l => (List.flatten l).length) (List.take_append_drop j L)
  simp only [List.flatten_append, List.length_append] at h
  omega
theorem cfPart_mem (L : List (List Int)) (j : Nat) (x : Int) (h : x ∈ cfPart L j) : ∃ b, b ∈ L ∧ x ∈ b := by
  unfold cfPart at h
  obtain ⟨b, hb, hx⟩ := List.mem_flatten.1 h
  exact ⟨b, List.mem_of_mem_take (List.mem_filter.1 hb).1, hx⟩
theorem flatten_ints : ∀ bs : List (List Nat), (bs.map ints).flatten = ints bs.flatten
  | [] => rfl
  | b :: bs => by rw [List.map_cons, List.flatten_cons, flatten_ints bs, List.flatten_cons]; simp [ints]
theorem filter_ints : ∀ bs : List (List Nat), (bs.map ints).filter (fun b => decide (1 < b.length)) = (bs.filter fun b => decide (1 < b.length)).map ints
  | [] => rfl
  | b :: bs => by
    have ih := filter_ints bs
    have hl : (ints b).length = b.length := by unfold ints; simp
    rw [List.map_cons, List.filter_cons, List.filter_cons, ih, hl]
    split <;> simp
theorem blocksL_flat {d : Dbs} (h : validDb d = true) : (blocksL d).flatten = ints (List.range d.facts.length) := by
  unfold blocksL
  rw [if_pos h, flatten_ints, blksI_flatten]
theorem cfPart_all {d : Dbs} (h : validDb d = true) : cfPart (blocksL d) (blocksL d).length = confL d := by
  unfold cfPart confL confPart
  rw [if_pos h, List.take_length]
  unfold blocksL
  rw [if_pos h, filter_ints, flatten_ints, conf_eq (conv_db h) _ (Nat.le_refl _)]
theorem blocksL_false {d : Dbs} (h : validDb d = false) : blocksL d = [] := by unfold blocksL; rw [if_neg (by rw [h]; simp)]
theorem confL_all (d : Dbs) : cfPart (blocksL d) (blocksL d).length = confL d := by
  cases h : validDb d
  · rw [blocksL_false h]
    unfold confL
    rw [if_neg (by rw [h]; simp)]; rfl
  · exact cfPart_all h
theorem blocksL_small (d : Dbs) : (blocksL d).flatten.length ≤ 14 ∧ ∀ b, b ∈ blocksL d → ∀ x, x ∈ b → inR x := by
  cases h : validDb d
  · rw [blocksL_false h]; simp
  · have h14 := dbValid_len h
    refine ⟨by rw [blocksL_flat h]; unfold ints; simpa using h14, fun b hb x hx => ?_⟩
    have hm : x ∈ (blocksL d).flatten := List.mem_flatten.2 ⟨b, hb, hx⟩
    rw [blocksL_flat h] at hm
    exact ints_inR (fun y hy => by have := List.mem_range.1 hy; omega) x hm
theorem blocksL_len (d : Dbs) : (blocksL d).length ≤ 14 := by
  cases h : validDb d
  · rw [blocksL_false h]; simp
  · have h14 := dbValid_len h
    rw [← bI_all h]
    exact Nat.le_trans (bI_len d _) h14

set_option maxHeartbeats 3200000 in
theorem implConflictingFacts_c {a0 a1 : Option Addr} {cap0 cap1 : Nat} {x : Dbs} {w : World} (h : At cDbs w x [.slice a0 x.rels.length cap0, .slice a1 x.facts.length cap1]) :
    Calls Try.prog 44 #[.agg #[.slice a0 x.rels.length cap0, .slice a1 x.facts.length cap1]] w fun e w' => (∃ a cap, e = .returned (.slice a (confL x).length cap) ∧ Own (cSlice cInt) w.heap.size w' (confL x) [.slice a (confL x).length cap]) ∧ Below w.heap.size w w' := by
  have H1 : Hid (∀ ww, Below w.heap.size w ww → Calls Try.prog 34 #[.agg #[.slice a0 x.rels.length cap0, .slice a1 x.facts.length cap1]] ww fun e w' => (∃ a cap, e = .returned (.slice a (blocksL x).length cap) ∧ Own (cSlice (cSlice cInt)) ww.heap.size w' (blocksL x) [.slice a (blocksL x).length cap]) ∧ Below ww.heap.size ww w') :=
    fun ww hb => implBlocks_c (At.below h hb (Nat.le_refl _))
  clear h
  rw [← confL_all]
  have hsm := (blocksL_small x).1
  have Hin := Lib.hid (blocksL_small x).2
  have hbl := blocksL_len x
  generalize blocksL x = L at *
  obtain ⟨N, hN⟩ : ∃ N, L.length = N := ⟨_, rfl⟩
  have HN := Lib.hid hN
  rw [hN] at H1 hbl ⊢
  clear hN
  generalize x.rels.length = nr at *
  generalize x.facts.length = n at *
  obtain ⟨i0, hi, hz0, hz1, hz2⟩ := info_parts Try.infoI
  go_enter Try.func44, Try.ntmps44
  go_wp2_with fail
  refine (H1.out _ ?hb).mono ?_
  case hb => go_grown
  rintro e w2 ⟨⟨ba, bc, rfl, ho⟩, hb1⟩
  have hbw : Below w.heap.size w w2 := Below.trans (by go_grown) (hb1.mono (by simp; try omega))
  have hat := ho.at
  have HB : Hid (∀ W', Below w2.heap.size w2 W' → ∀ j (hj : j < L.length), _) := fun W' hb j hj => at_IntS (Cod.ok_below hat hb) j hj
  clear ho hat hb1 H1
  have hown0 : w2.ownsRow w2.heap.size 3 1 (.slice none 0 0) (cfPart L 0).length ((cfPart L 0).map iv) := World.ownsRow_nil _ _ _ _
  go_wp2
  go_loopw [3, 9] (fun ov kv wr => ∃ (k : Nat) (o : Value), o = ov ∧ k ≤ N ∧ kv = .int .i64 k ∧ wr.ownsRow w2.heap.size 3 1 o (cfPart L k).length ((cfPart L k).map iv) ∧ Below w2.heap.size w2 wr) (fun _ kv _ => N - (intOf kv).toNat)
  case atStart => exact ⟨0, _, rfl, by omega, by go_num, hown0, Below.refl _ _⟩
  case round =>
    clear hown0
    obtain ⟨k, o, rfl, hk, rfl, hown, hbx⟩ := hrel
    have hb1 : Below w.heap.size w wr := hbw.trans (hbx.mono hbw.size)
    by_cases hlt : k < N
    · have hkl : k < L.length := by rw [HN.out]; exact hlt
      obtain ⟨b, off, ha, hc, rfl, hbB, c0, hx⟩ := HB.out _ hbx k hkl
      have Hst := Lib.hid (cfPart_succ L k hkl)
      have hlen := cfPart_len L k
      have hlen2 := cfPart_len L (k + 1)
      have hsrc := srcs_ints hx
      obtain ⟨m, hm⟩ : ∃ m, L[k].length = m := ⟨_, rfl⟩
      rw [hm] at c0 Hst hsrc
      clear hx
      generalize L[k] = bl at *
      by_cases hL1 : 1 < m
      · have hs : cfPart L (k + 1) = cfPart L k ++ bl := by have h := Hst.out; rw [if_pos (decide_eq_true hL1)] at h; exact h
        have hcm : (cfPart L k).length + m ≤ 14 := by rw [hs, List.length_append, hm] at hlen2; omega
        have Hs := Lib.hid hs
        have e1 : decide ((1 : Int) < (m : Int)) = true := decide_eq_true (by omega)
        have e2 : decide (1 < m) = true := decide_eq_true hL1
        have Hm := Lib.hid hm
        clear Hst hs hlen2 hm
        generalize hcu : cfPart L k = cur at *
        clear hcu
        go_wp2_with (at_builtin; refine wpList_app rfl _ _ _ (by rfl) w2.heap.size 3 i0 (.int .i64 0) 1 8 Try.underlying23 hi hz0 hz1 hz2 rfl (by omega) o cur.length (cur.map iv) (by rfl) hown ha m hc (bl.map iv) (by rfl) hsrc ?c1 ?c2 ?c3 ?_)
        case c1 => unfold maxLen; omega
        case c2 => omega
        case c3 => exact hbx.size
        intro v1 w3 hown3 hg3 _
        have hown4 : w3.ownsRow w2.heap.size 3 1 v1 (cur ++ bl).length ((cur ++ bl).map iv) := by
          rw [List.length_append, Hm.out, List.map_append]
          exact hown3
        have hb4 : Below w2.heap.size w2 w3 := Below.grownOwn hbx hg3 hown (Nat.le_refl _)
        clear hown hown3 hg3 hsrc
        go_wp2
        go_roundw
        case rel => exact ⟨k + 1, _, rfl, by omega, by go_num, by rw [Hs.out]; exact hown4, hb4⟩
        case measure => simp [intOf]; omega
      · have Hs : Hid (cfPart L (k + 1) = cfPart L k) := by have h := Hst.out; rw [decide_eq_false hL1] at h; exact h
        have e1 : decide ((1 : Int) < (m : Int)) = false := decide_eq_false (by omega)
        have e2 : decide (1 < m) = false := decide_eq_false hL1
        clear Hst hm hlen hlen2 hsrc
        go_wp2
        go_roundw
        case rel => exact ⟨k + 1, _, rfl, by omega, by go_num, by rw [Hs.out]; exact hown, hbx⟩
        case measure => simp [intOf]; omega
    · obtain rfl : k = N := by omega
      obtain ⟨oa, oc, rfl⟩ := own_form hown
      have ho := Own.mono (own_ints hown (fun y hy => by
        obtain ⟨b, hb, hy2⟩ := cfPart_mem L k y hy
        exact Hin.out b hb y hy2)) hbw.size
      clear hown
      go_wp2
      go_ret
      exact ⟨⟨_, _, rfl, ho⟩, hb1⟩

/-- A valid database without conflicts. -/
def consistent (d : Dbs) : Bool := validDb d && decide ((blocksL d).length = d.facts.length)
theorem consistent_eq (d : Dbs) : consistent d = (validDb d && decide ((confL d).length = 0)) := by
  unfold consistent
  cases h : validDb d
  · rfl
  · rw [Bool.true_and, Bool.true_and]
    have h1 := consist_eq (conv_db h) d.facts.length (Nat.le_refl _)
    have h2 : (confL d).length = ((blksI (keyR d) d.facts.length).filter fun b => decide (1 < b.length)).flatten.length := by
      unfold confL confPart
      rw [if_pos h, conf_eq (conv_db h) _ (Nat.le_refl _)]
      unfold ints
      simp
    have h3 : (blocksL d).length = (blksI (keyR d) d.facts.length).length := by
      unfold blocksL
      rw [if_pos h]; simp
    rw [h2, h3, ← h1]
theorem confL_len (d : Dbs) : (confL d).length ≤ 14 := by
  rw [← confL_all]
  exact Nat.le_trans (cfPart_len _ _) (blocksL_small d).1

set_option maxHeartbeats 1600000 in
theorem implIsConsistent_c {a0 a1 : Option Addr} {cap0 cap1 : Nat} {x : Dbs} {w : World} (h : At cDbs w x [.slice a0 x.rels.length cap0, .slice a1 x.facts.length cap1]) :
    Calls Try.prog 46 #[.agg #[.slice a0 x.rels.length cap0, .slice a1 x.facts.length cap1]] w fun e w' => e = .returned (.bool (consistent x)) ∧ Below w.heap.size w w' := by
  have H1 : Hid (∀ ww, Below w.heap.size w ww → Calls Try.prog 81 #[.agg #[.slice a0 x.rels.length cap0, .slice a1 x.facts.length cap1]] ww fun e w' => e = .returned (.bool (validDb x)) ∧ Below ww.heap.size ww w') :=
    fun ww hb => implIsValidDatabase_c (At.below h hb (Nat.le_refl _))
  have H2 : Hid (∀ ww, Below w.heap.size w ww → Calls Try.prog 44 #[.agg #[.slice a0 x.rels.length cap0, .slice a1 x.facts.length cap1]] ww fun e w' => (∃ a cap, e = .returned (.slice a (confL x).length cap) ∧ True) ∧ Below ww.heap.size ww w') :=
    fun ww hb => (implConflictingFacts_c (At.below h hb (Nat.le_refl _))).mono fun e w' ⟨⟨a, c, he, _⟩, hb⟩ => ⟨⟨a, c, he, trivial⟩, hb⟩
  clear h
  rw [consistent_eq]
  have hcl := confL_len x
  generalize validDb x = V at *
  generalize (confL x).length = m at *
  generalize x.rels.length = nr at *
  generalize x.facts.length = n at *
  obtain ⟨wx, hwx⟩ : ∃ wx, wx = w.alloc (Obj.cells #[.slice a0 nr cap0, .slice a1 n cap1] 47) := ⟨_, rfl⟩
  have hb0 : Below w.heap.size w wx := by rw [hwx]; go_grown
  have p0 : wx.cell? ⟨w.heap.size, 0, none⟩ = some (.slice a0 nr cap0) := by rw [hwx]; go_simp
  have p1 : wx.cell? ⟨w.heap.size, 1, none⟩ = some (.slice a1 n cap1) := by rw [hwx]; go_simp
  have Hwx := Lib.hid hwx
  clear hwx
  go_enter Try.func46, Try.ntmps46
  go_wp2_with fail
  rw [← Hwx.out]
  clear Hwx
  refine (H1.out _ hb0).mono ?_
  rintro e w1 ⟨rfl, hb1⟩
  have hbb : Below w.heap.size w w1 := hb0.trans (hb1.mono hb0.size)
  cases V with
  | false =>
    go_wp2
    go_ret
    exact ⟨rfl, hbb⟩
  | true =>
    replace p0 := cell_next p0 hb1
    replace p1 := cell_next p1 hb1
    clear hb0 hb1 H1
    go_wp2_with fail
    refine (H2.out _ hbb).mono ?_
    rintro e w2 ⟨⟨ca, cc, rfl, _⟩, hb2⟩
    rcases Nat.eq_zero_or_pos m with hm | hm
    · subst hm
      go_wp2
      go_ret
      exact ⟨by first | rfl | simp, hbb.trans (hb2.mono hbb.size)⟩
    · have e1 : ((m : Int) == 0) = false := by simp; omega
      have e2 : decide (m = 0) = false := decide_eq_false (by omega)
      have e3 : (m == 0) = false := by simp; omega
      go_wp2
      go_ret
      exact ⟨by first | rfl | (simp; omega), hbb.trans (hb2.mono hbb.size)⟩

set_option maxHeartbeats 1600000 in
theorem specIsConsistent_c {a0 a1 : Option Addr} {cap0 cap1 : Nat} {x : Dbs} {w : World} (h : At cDbs w x [.slice a0 x.rels.length cap0, .slice a1 x.facts.length cap1]) :
    Calls Try.prog 45 #[.agg #[.slice a0 x.rels.length cap0, .slice a1 x.facts.length cap1]] w fun e w' => e = .returned (.bool (consistent x)) ∧ Below w.heap.size w w' := by
  have hm := (slice_len (cDbs_inv h).2).2
  unfold maxLen at hm
  have H1 : Hid (∀ ww, Below w.heap.size w ww → Calls Try.prog 80 #[.agg #[.slice a0 x.rels.length cap0, .slice a1 x.facts.length cap1]] ww fun e w' => e = .returned (.bool (validDb x)) ∧ Below ww.heap.size ww w') :=
    fun ww hb => specIsValidDatabase_c (At.below h hb (Nat.le_refl _))
  have H2 : Hid (∀ ww, Below w.heap.size w ww → Calls Try.prog 33 #[.agg #[.slice a0 x.rels.length cap0, .slice a1 x.facts.length cap1]] ww fun e w' => (∃ a cap, e = .returned (.slice a (blocksL x).length cap) ∧ True) ∧ Below ww.heap.size ww w') :=
    fun ww hb => (specBlocks_c (At.below h hb (Nat.le_refl _))).mono fun e w' ⟨⟨a, c, he, _⟩, hb⟩ => ⟨⟨a, c, he, trivial⟩, hb⟩
  clear h
  unfold consistent
  generalize validDb x = V at *
  generalize (blocksL x).length = m at *
  generalize x.rels.length = nr at *
  generalize x.facts.length = n at *
  obtain ⟨wx, hwx⟩ : ∃ wx, wx = w.alloc (Obj.cells #[.slice a0 nr cap0, .slice a1 n cap1] 47) := ⟨_, rfl⟩
  have hb0 : Below w.heap.size w wx := by rw [hwx]; go_grown
  have p0 : wx.cell? ⟨w.heap.size, 0, none⟩ = some (.slice a0 nr cap0) := by rw [hwx]; go_simp
  have p1 : wx.cell? ⟨w.heap.size, 1, none⟩ = some (.slice a1 n cap1) := by rw [hwx]; go_simp
  have Hwx := Lib.hid hwx
  clear hwx
  cases V with
  | false =>
    rw [Bool.false_and]
    have P0 := grow_cell p0
    have P1 := grow_cell p1
    clear p0 p1 H2
    go_enter Try.func45, Try.ntmps45
    go_wp2_with fail
    rw [← Hwx.out]
    clear Hwx
    refine wp_region_grow (by kernel_rfl) (by kernel_rfl) ?_
    repeat (go_big_quiet_step ((go_at_call 80; exact Calls.grow fun ww h => H1.out ww (hb0.trans (h.mono hb0.size)))))
    refine wpQuiet_nil ?_
    rintro _ ⟨nq, rfl⟩
    go_wp2
    go_ret
    exact ⟨rfl, hb0.trans (nq.below.mono hb0.size)⟩
  | true =>
    rw [Bool.true_and]
    have hbb := hb0
    clear hb0
    by_cases hmn : m = n
    · subst hmn
      go_enter Try.func45, Try.ntmps45
      go_wp2_with fail
      rw [← Hwx.out]
      clear Hwx
      go_region_held3 (fun w' => w'.cell? ⟨w.heap.size, 0, none⟩ = some (.slice a0 nr cap0) ∧ w'.cell? ⟨w.heap.size, 1, none⟩ = some (.slice a1 m cap1))
        (first | go_keep | (go_split_ands; exact ⟨p0, p1⟩))
        (first
          | (go_at_call 80; refine (H1.out _ (by first | exact hbb | exact hbb.drew | exact Below.drewN' hbb _)).mono ?_; rintro e wy ⟨rfl, hb⟩; replace p0 := cell_next p0 hb; replace p1 := cell_next p1 hb; replace hbb := Below.next hbb hb; clear hb)
          | (go_at_call 33; refine (H2.out _ (by first | exact hbb | exact hbb.drew | exact Below.drewN' hbb _)).mono ?_; rintro e wy ⟨⟨ka, kc, rfl, _⟩, hb⟩; replace p0 := cell_next p0 hb; replace p1 := cell_next p1 hb; replace hbb := Below.next hbb hb; clear hb))
      all_goals
        go_wp2
        go_ret
        exact ⟨by first | rfl | simp, hbb⟩
    · have e1 : ((m : Int) == (n : Int)) = false := by simp; omega
      have e2 : (m == n) = false := by simpa using hmn
      rw [decide_eq_false hmn]
      clear hmn
      go_enter Try.func45, Try.ntmps45
      go_wp2_with fail
      rw [← Hwx.out]
      clear Hwx
      go_region_held3 (fun w' => w'.cell? ⟨w.heap.size, 0, none⟩ = some (.slice a0 nr cap0) ∧ w'.cell? ⟨w.heap.size, 1, none⟩ = some (.slice a1 n cap1))
        (first | go_keep | (go_split_ands; exact ⟨p0, p1⟩))
        (first
          | (go_at_call 80; refine (H1.out _ (by first | exact hbb | exact hbb.drew | exact Below.drewN' hbb _)).mono ?_; rintro e wy ⟨rfl, hb⟩; replace p0 := cell_next p0 hb; replace p1 := cell_next p1 hb; replace hbb := Below.next hbb hb; clear hb)
          | (go_at_call 33; refine (H2.out _ (by first | exact hbb | exact hbb.drew | exact Below.drewN' hbb _)).mono ?_; rintro e wy ⟨⟨ka, kc, rfl, _⟩, hb⟩; replace p0 := cell_next p0 hb; replace p1 := cell_next p1 hb; replace hbb := Below.next hbb hb; clear hb))
      all_goals
        go_wp2
        go_ret
        exact ⟨by first | rfl | simp, hbb⟩
end Go.Proofs.Ytjeenbjmhlbmfaa


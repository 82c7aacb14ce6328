/- Slices of structs: the laws' helpers on them (size, copy, equality). -/
import Derived.Test.YtlcogbmceanghaaDoorTyGr
import Derived.BigQuiet
import Derived.Deep.QuietTactic
import Derived.Deep.RegionWith
namespace Go.Proofs.YtlcogbmceanghaaDoor
open Go.RowKit
set_option linter.unusedVariables false
set_option maxRecDepth 100000

/-- Element j of such a slice. -/
theorem at_GroupRange {B : Nat} {w : World} {l : List Grp} {a0 : Option Addr} {len cap0 : Nat} (h : (cSlice cGrp).ok B w l [.slice a0 len cap0]) (j : Nat) (hj : j < l.length) :
    ∃ b off, a0 = some ⟨b, off, none⟩ ∧ b < B ∧ w.cell? ⟨b, off + j * 4, none⟩ = some (.int .i64 l[j].val) ∧ w.cell? ⟨b, off + j * 4 + 1, none⟩ = some (.int .i64 l[j].lo) ∧ w.cell? ⟨b, off + j * 4 + 2, none⟩ = some (.int .i64 l[j].hi) ∧ w.cell? ⟨b, off + j * 4 + 3, none⟩ = some (.bool l[j].all) ∧ cGrp.ok B w l[j] [.int .i64 l[j].val, .int .i64 l[j].lo, .int .i64 l[j].hi, .bool l[j].all] := by
  obtain ⟨b, off, es, rfl, hb, he, hc⟩ := slice_at h j hj
  obtain ⟨rfl, hx⟩ := cGrp_open he
  exact ⟨b, off, rfl, hb, by exact hc 0 (by decide), by exact hc 1 (by decide), by exact hc 2 (by decide), by exact hc 3 (by decide), hx⟩
theorem szGroupRangeS_c {a0 : Option Addr} {cap0 : Nat} {l : List Grp} {left : Int} {w : World} (hl : 0 ≤ left) (hl2 : left ≤ 1048576) (h : At (cSlice cGrp) w l [.slice a0 l.length cap0]) :
    Calls Tryd.prog 17 #[.slice a0 l.length cap0, .int .i64 left] w fun e w' => e = .returned (.int .i64 (szR left l.length)) ∧ Below w.heap.size w w' := by
  have hm := (slice_len h).2
  unfold maxLen at hm
  have hw : wrap64 (left - (l.length : Int)) = left - (l.length : Int) := IntWalk.wrap64_in _ ⟨by omega, by omega⟩
  unfold szR
  by_cases h : left - (l.length : Int) < 0
  · rw [if_pos h]
    go_enter Tryd.func17, Tryd.ntmps17
    go_wp2
    go_ret
    exact ⟨rfl, Below.refl _ _⟩
  · rw [if_neg h]
    go_enter Tryd.func17, Tryd.ntmps17
    go_wp2
    go_ret
    exact ⟨rfl, Below.refl _ _⟩
theorem zGroupRange_at (A : List Value) (k n : Nat) (h : A.length = k * 4) (hk : k < n) : (A ++ (List.replicate (n - k) ([.int .i64 0, .int .i64 0, .int .i64 0, .bool false] : List Value)).flatten)[k * 4]? = some (.int .i64 0) ∧ (A ++ (List.replicate (n - k) ([.int .i64 0, .int .i64 0, .int .i64 0, .bool false] : List Value)).flatten)[k * 4 + 1]? = some (.int .i64 0) ∧ (A ++ (List.replicate (n - k) ([.int .i64 0, .int .i64 0, .int .i64 0, .bool false] : List Value)).flatten)[k * 4 + 2]? = some (.int .i64 0) ∧ (A ++ (List.replicate (n - k) ([.int .i64 0, .int .i64 0, .int .i64 0, .bool false] : List Value)).flatten)[k * 4 + 3]? = some (.bool false) := by
  have e1 : n - k = (n - (k + 1)) + 1 := by omega
  rw [e1, List.replicate_succ, List.flatten_cons]
  refine ⟨?_, ?_, ?_, ?_⟩
  · rw [List.getElem?_append_right (by omega)]; simp [h]
  · rw [List.getElem?_append_right (by omega)]; simp [h]
  · rw [List.getElem?_append_right (by omega)]; simp [h]
  · rw [List.getElem?_append_right (by omega)]; simp [h]
theorem zGroupRange_step (A : List Value) (k n : Nat) (h : A.length = k * 4) (hk : k < n) (v0 v1 v2 v3 : Value) : ((((A ++ (List.replicate (n - k) ([.int .i64 0, .int .i64 0, .int .i64 0, .bool false] : List Value)).flatten).set (k * 4) v0).set (k * 4 + 1) v1).set (k * 4 + 2) v2).set (k * 4 + 3) v3 = (A ++ [v0, v1, v2, v3]) ++ (List.replicate (n - (k + 1)) ([.int .i64 0, .int .i64 0, .int .i64 0, .bool false] : List Value)).flatten := by
  have e1 : n - k = (n - (k + 1)) + 1 := by omega
  rw [e1, List.replicate_succ, List.flatten_cons]
  rw [List.set_append_right _ _ (by omega), List.set_append_right _ _ (by omega), List.set_append_right _ _ (by omega), List.set_append_right _ _ (by omega)]
  simp [h]
theorem zGroupRange_made (n : Nat) : (madeCells #[.int .i64 0, .int .i64 0, .int .i64 0, .bool false] (n * 4)).toList = (List.replicate n [.int .i64 0, .int .i64 0, .int .i64 0, .bool false]).flatten := by
  induction n with
  | zero => simp [madeCells]
  | succ n ih =>
    rw [List.replicate_succ', List.flatten_append, ← ih]
    unfold madeCells
    simp [Array.range_succ, Array.toList_range, Nat.add_mod, Nat.mul_mod_left, Nat.succ_mul]
theorem Tryd.infoGroupRange : (Tryd.prog.info? 105).map (fun i => (i.zero, i.size, i.bytes)) = some (some (.agg #[.int .i64 0, .int .i64 0, .int .i64 0, .bool false]), 4, 32) := by kernel_rfl
set_option maxHeartbeats 1600000 in
theorem toGroupRangeS_c {a0 : Option Addr} {cap0 : Nat} {l : List Grp} {w : World} (hs : l.length ≤ 1048576) (h : At (cSlice cGrp) w l [.slice a0 l.length cap0]) :
    Calls Tryd.prog 19 #[.slice a0 l.length cap0] w fun e w' => (∃ a' cap', e = .returned (.slice a' l.length cap') ∧ Own (cSlice cGrp) w.heap.size w' l [.slice a' l.length cap']) ∧ Below w.heap.size w w' := by
  obtain ⟨n, hn⟩ : ∃ n : Nat, l.length = n := ⟨_, rfl⟩
  have Hn := Lib.hid hn
  have Hr : Hid (∀ w' : World, Below w.heap.size w w' → ∀ j (hj : j < l.length), _) := fun w' hb j hj => at_GroupRange (Cod.ok_below h hb) j hj
  rw [hn] at hs ⊢
  clear hn h
  obtain ⟨i0, hi, hz0, hz1, hz2⟩ := info_parts Tryd.infoGroupRange
  go_enter Tryd.func19, Tryd.ntmps19
  go_wp2_with (at_make; refine wpList_make_full _ rfl (.tmp 6) (.tmp 6) 42 rfl w.heap.size 105 i0 (.agg #[.int .i64 0, .int .i64 0, .int .i64 0, .bool false]) 4 Tryd.underlying42 hi hz0 hz1 .i64 .i64 n n n rfl rfl rfl rfl ?c1 ?c2 (Nat.le_refl _) ?_)
  case c1 => rw [hz2]; omega
  case c2 => unfold maxLen; omega
  intro w1 hown hg1
  rw [show (madeCells #[.int .i64 0, .int .i64 0, .int .i64 0, .bool false] (n * 4)).toList = [].flatten ++ (List.replicate (n - 0) [.int .i64 0, .int .i64 0, .int .i64 0, .bool false]).flatten by rw [zGroupRange_made]; simp] at hown
  have hb0 : Below w.heap.size w w1 := (Below.refl _ _).grown hg1 (Nat.le_refl _) (fun k hk => by cases hk)
  clear hg1 hi hz0 hz1 hz2
  go_wp2
  go_loopw [4] (fun iv wr => ∃ (k : Nat) (F : List Nat) (css : List (List Value)), k ≤ n ∧ iv = .int .i64 k ∧ ownL cGrp F wr (l.take k) css ∧ (∀ x, x ∈ F → w.heap.size < x ∧ x < wr.heap.size) ∧ wr.ownsRow w.heap.size 105 4 (.slice (some ⟨w.heap.size, 0, none⟩) n n) n (css.flatten ++ (List.replicate (n - k) [.int .i64 0, .int .i64 0, .int .i64 0, .bool false]).flatten) ∧ Below w.heap.size w wr) (fun iv _ => n - (intOf iv).toNat)
  case atStart => exact ⟨0, [], [], by omega, by go_num, ownL_nil _, by simp, hown, hb0⟩
  case round =>
    clear hown hb0
    obtain ⟨k, F, css, hk, rfl, hL, hF, hown, hb⟩ := hrel
    by_cases hlt : k < n
    · have hkl : k < l.length := by rw [Hn.out]; exact hlt
      obtain ⟨b, off, rfl, hbB, c0, c1, c2, c3, hx⟩ := Hr.out _ hb k hkl
      have Hc : Hid (∀ ww, Below w.heap.size wr ww → Calls Tryd.prog 60 #[.agg #[.int .i64 l[k].val, .int .i64 l[k].lo, .int .i64 l[k].hi, .bool l[k].all]] ww fun e w' => (e = .returned (.agg #[.int .i64 l[k].val, .int .i64 l[k].lo, .int .i64 l[k].hi, .bool l[k].all]) ∧ Own cGrp ww.heap.size w' l[k] [.int .i64 l[k].val, .int .i64 l[k].lo, .int .i64 l[k].hi, .bool l[k].all]) ∧ Below ww.heap.size ww w') :=
        fun ww hw2 => toGroupRange_c (cGrp.keep hx (fun k hk => hw2.block k hk) (Nat.le_trans hb.size hw2.size))
      have hlen : css.flatten.length = k * 4 := by
        have := (ownL_len hL).2
        rw [List.length_take, Nat.min_eq_left (by omega)] at this
        exact this
      have Hat := Lib.hid (zGroupRange_at css.flatten k n hlen hlt)
      have Hstep := Lib.hid (zGroupRange_step css.flatten k n hlen hlt)
      have Htake : Hid (l.take (k + 1) = l.take k ++ [l[k]]) := List.take_succ_eq_append_getElem hkl
      have HL := Lib.hid hL
      have HF := Lib.hid hF
      have Hown := Lib.hid hown
      clear hx hL hF hlen hown
      generalize l[k] = r at *
      go_wp2_with fail
      refine (Hc.out _ (Below.refl _ _)).mono ?_
      rintro e w2 ⟨⟨rfl, ho⟩, hb2⟩
      have hown2 := ownsRow_below Hown.out hb2
      have Hown2 := Lib.hid hown2
      have hgw : w.heap.size < wr.heap.size := (Hown.out.lt _ rfl).2
      have f0 := hown2.frozenAt (k * 4)
      have d0 := (hown2.cellAt (k * 4) (by omega)).trans Hat.out.1
      have f1 := hown2.frozenAt (k * 4 + 1)
      have d1 := (hown2.cellAt (k * 4 + 1) (by omega)).trans Hat.out.2.1
      have f2 := hown2.frozenAt (k * 4 + 2)
      have d2 := (hown2.cellAt (k * 4 + 2) (by omega)).trans Hat.out.2.2.1
      have f3 := hown2.frozenAt (k * 4 + 3)
      have d3 := (hown2.cellAt (k * 4 + 3) (by omega)).trans Hat.out.2.2.2
      have Ho := Lib.hid ho
      have hbw : Below w.heap.size w w2 := hb.trans (hb2.mono hb.size)
      clear ho hown2
      go_wp2
      go_roundw
      case rel =>
        obtain ⟨G, hG1, hG2⟩ := Ho.out
        have hown2 := Hown2.out
        have s0 := (hown2.stored (k * 4) (.int .i64 r.val)).1
        have s1 := (s0.stored (k * 4 + 1) (.int .i64 r.lo)).1
        have s2 := (s1.stored (k * 4 + 2) (.int .i64 r.hi)).1
        have s3 := (s2.stored (k * 4 + 3) (.bool r.all)).1
        rw [Hstep.out] at s3
        have hkeep : ∀ kk, kk ≠ w.heap.size → ((((w2.setCell ⟨w.heap.size, k * 4, none⟩ (.int .i64 r.val)).setCell ⟨w.heap.size, k * 4 + 1, none⟩ (.int .i64 r.lo)).setCell ⟨w.heap.size, k * 4 + 2, none⟩ (.int .i64 r.hi)).setCell ⟨w.heap.size, k * 4 + 3, none⟩ (.bool r.all)).heap[kk]? = w2.heap[kk]? := fun kk hne => (heap_setCell_other _ ⟨w.heap.size, k * 4 + 3, none⟩ _ _ hne).trans ((heap_setCell_other _ ⟨w.heap.size, k * 4 + 2, none⟩ _ _ hne).trans ((heap_setCell_other _ ⟨w.heap.size, k * 4 + 1, none⟩ _ _ hne).trans ((heap_setCell_other _ ⟨w.heap.size, k * 4, none⟩ _ _ hne).trans (rfl))))
        refine ⟨k + 1, F ++ G, css ++ [[.int .i64 r.val, .int .i64 r.lo, .int .i64 r.hi, .bool r.all]], by omega, by go_num, ?_, ?_, ?_, ((((hbw).setCell (Nat.le_refl _) _).setCell (Nat.le_refl _) _).setCell (Nat.le_refl _) _).setCell (Nat.le_refl _) _⟩
        · rw [Htake.out]
          refine ownL_snoc (cGrp.keepO hG1 (fun kk hkk => hkeep kk (by have := (hG2 kk hkk).1; omega))) (ownL_keep (ownL_below HL.out hb2 (fun kk hkk => (HF.out kk hkk).2)) (fun kk hkk => hkeep kk (by have := (HF.out kk hkk).1; omega))) ?_
          intro kk hkk hg
          have := (HF.out kk hkk).2
          have := (hG2 kk hg).1
          omega
        · intro x hx
          simp only [World.setCell, Array.size_modify]
          rcases List.mem_append.1 hx with hx | hx
          · have := HF.out x hx; have := hb2.size; omega
          · have := hG2 x hx; omega
        · simpa using s3
      case measure => simp [intOf]; omega
    · obtain rfl : k = n := by omega
      have hlk : l.take k = l := List.take_of_length_le (by rw [Hn.out]; exact Nat.le_refl _)
      rw [hlk] at hL
      rw [Nat.sub_self, List.replicate_zero, List.flatten_nil, List.append_nil] at hown
      clear hlk
      go_wp2
      go_ret
      refine ⟨⟨_, _, rfl, ?_⟩, hb⟩
      have hlen : l.length = k := Hn.out
      subst hlen
      exact Own.slice (c := cGrp) hL hown (fun x hx => by have := hF x hx; omega) (by unfold maxLen; omega)
set_option maxHeartbeats 1600000 in
theorem eqGroupRangeS_c {a0 a0' : Option Addr} {cap0 cap0' : Nat} {l m : List Grp} {w : World} (h : At (cSlice cGrp) w l [.slice a0 l.length cap0]) (h' : At (cSlice cGrp) w m [.slice a0' m.length cap0']) :
    Calls Tryd.prog 21 #[.slice a0 l.length cap0, .slice a0' m.length cap0'] w fun e w' => e = .returned (.bool (decide (l = m))) ∧ Below w.heap.size w w' := by
  have hm := (slice_len h).2
  have hm' := (slice_len h').2
  unfold maxLen at hm hm'
  by_cases hne : l.length = m.length
  · obtain ⟨n, hn⟩ : ∃ n : Nat, l.length = n := ⟨_, rfl⟩
    have Hr : Hid (∀ w' : World, Below w.heap.size w w' → ∀ j (hj : j < l.length), _) := fun w' hb j hj => at_GroupRange (Cod.ok_below h hb) j hj
    have Hr' : Hid (∀ w' : World, Below w.heap.size w w' → ∀ j (hj : j < m.length), _) := fun w' hb j hj => at_GroupRange (Cod.ok_below h' hb) j hj
    clear h h'
    rw [← hne, hn]
    have Hn := Lib.hid hn
    have Hm : Hid (m.length = n) := by rw [← hne]; exact hn
    have hm2 : n ≤ 2 ^ 63 - 1 := by omega
    generalize hR : decide (l = m) = R
    have HR : Hid (decide (l.drop 0 = m.drop 0) = R) := hR
    clear hR hne hn hm hm'
    go_enter Tryd.func21, Tryd.ntmps21
    go_wp2
    go_loopw [5] (fun iv wr => ∃ k : Nat, k ≤ n ∧ iv = .int .i64 k ∧ Hid (decide (l.drop k = m.drop k) = R) ∧ Below w.heap.size w wr) (fun iv _ => n - (intOf iv).toNat)
    case atStart => exact ⟨0, by omega, by go_num, HR, Below.refl _ _⟩
    case round =>
      clear HR
      obtain ⟨k, hk, rfl, Hq, hb⟩ := hrel
      by_cases hlt : k < n
      · have hkl : k < l.length := by rw [Hn.out]; exact hlt
        have hkm : k < m.length := by rw [Hm.out]; exact hlt
        have Hst : Hid (R = (decide (l[k] = m[k]) && decide (l.drop (k + 1) = m.drop (k + 1)))) := by
          show R = _
          rw [← Hq.out, ← Bool.decide_and]; congr 1; rw [List.drop_eq_getElem_cons hkl, List.drop_eq_getElem_cons hkm, List.cons.injEq]
        obtain ⟨b, off, rfl, hbB, c0, c1, c2, c3, hx⟩ := Hr.out _ hb k hkl
        obtain ⟨b', off', rfl, hbB', e0, e1, e2, e3, hy⟩ := Hr'.out _ hb k hkm
        have Hc : Hid (∀ ww, Below w.heap.size wr ww → Calls Tryd.prog 63 #[.agg #[.int .i64 l[k].val, .int .i64 l[k].lo, .int .i64 l[k].hi, .bool l[k].all], .agg #[.int .i64 m[k].val, .int .i64 m[k].lo, .int .i64 m[k].hi, .bool m[k].all]] ww fun e w' => e = .returned (.bool (decide (l[k] = m[k]))) ∧ Below ww.heap.size ww w') :=
          fun ww hw2 => eqGroupRange_c (cGrp.keep hx (fun k hk => hw2.block k hk) (Nat.le_trans hb.size hw2.size)) (cGrp.keep hy (fun k hk => hw2.block k hk) (Nat.le_trans hb.size hw2.size))
        clear hx hy Hq
        generalize l[k] = r at *
        generalize m[k] = r' at *
        generalize decide (r = r') = z at *
        cases z with
        | true =>
          go_wp2_with fail
          go_region_with (go_at_call 63; refine (Hc.out _ ?hww).mono ?_; (case hww => first | exact Below.refl _ _ | exact (Below.refl _ _).drew | exact Below.drewN' (Below.refl _ _) _); rintro e w1 ⟨rfl, hb1⟩)
          all_goals
            go_wp2
            go_roundw
            case rel =>
              have h := Hst.out
              rw [Bool.true_and] at h
              exact ⟨k + 1, by omega, by go_num, h.symm, hb.drew.trans (hb1.mono hb.size)⟩
            case measure => simp [intOf]; omega
        | false =>
          have hR : R = false := by have h := Hst.out; rw [Bool.false_and] at h; exact h
          go_wp2_with fail
          go_region_with (go_at_call 63; refine (Hc.out _ ?hww).mono ?_; (case hww => first | exact Below.refl _ _ | exact (Below.refl _ _).drew | exact Below.drewN' (Below.refl _ _) _); rintro e w1 ⟨rfl, hb1⟩)
          all_goals
            go_wp2
            go_ret
            exact ⟨by rw [hR]; rfl, hb.drew.trans (hb1.mono hb.size)⟩
      · obtain rfl : k = n := by omega
        have hR : R = true := by
          have := Hq.out
          rw [List.drop_eq_nil_of_le (by rw [Hn.out]; exact Nat.le_refl _), List.drop_eq_nil_of_le (by rw [Hm.out]; exact Nat.le_refl _)] at this
          simpa using this.symm
        go_wp2
        go_ret
        exact ⟨by rw [hR]; rfl, hb⟩
  · rw [decide_eq_false (fun e => hne (by rw [e]))]
    have hne2 : (l.length != m.length) = true := by simpa using hne
    go_enter Tryd.func21, Tryd.ntmps21
    go_wp2
    go_ret
    exact ⟨rfl, Below.refl _ _⟩
end Go.Proofs.YtlcogbmceanghaaDoor


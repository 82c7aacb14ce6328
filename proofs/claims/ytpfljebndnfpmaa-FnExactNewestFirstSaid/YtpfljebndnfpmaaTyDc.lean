/- Slices of structs: the laws' helpers on them (size, copy, equality). -/
import Derived.Test.YtpfljebndnfpmaaTyEq
import Derived.BigQuiet
import Derived.Deep.QuietTactic
import Derived.Deep.RegionWith
namespace Go.Proofs.Ytpfljebndnfpmaa
open Go.RowKit
set_option linter.unusedVariables false
set_option maxRecDepth 100000

/-- Element j of such a slice. -/
theorem at_DenialConstraint {B : Nat} {w : World} {l : List Dcn} {a0 : Option Addr} {len cap0 : Nat} (h : (cSlice cDcn).ok B w l [.slice a0 len cap0]) (j : Nat) (hj : j < l.length) :
    ∃ b off, a0 = some ⟨b, off, none⟩ ∧ b < B ∧ w.cell? ⟨b, off + j * 7, none⟩ = some (.int .i64 l[j].r1) ∧ w.cell? ⟨b, off + j * 7 + 1, none⟩ = some (.int .i64 l[j].r2) ∧ w.cell? ⟨b, off + j * 7 + 2, none⟩ = some (.int .i64 l[j].j1) ∧ w.cell? ⟨b, off + j * 7 + 3, none⟩ = some (.int .i64 l[j].j2) ∧ w.cell? ⟨b, off + j * 7 + 4, none⟩ = some (.int .i64 l[j].c1) ∧ w.cell? ⟨b, off + j * 7 + 5, none⟩ = some (.int .i64 l[j].c2) ∧ w.cell? ⟨b, off + j * 7 + 6, none⟩ = some (.int .i64 l[j].cmp) ∧ cDcn.ok B w l[j] [.int .i64 l[j].r1, .int .i64 l[j].r2, .int .i64 l[j].j1, .int .i64 l[j].j2, .int .i64 l[j].c1, .int .i64 l[j].c2, .int .i64 l[j].cmp] := by
  obtain ⟨b, off, es, rfl, hb, he, hc⟩ := slice_at h j hj
  obtain ⟨rfl, hx⟩ := cDcn_open he
  exact ⟨b, off, rfl, hb, by exact hc 0 (by decide), by exact hc 1 (by decide), by exact hc 2 (by decide), by exact hc 3 (by decide), by exact hc 4 (by decide), by exact hc 5 (by decide), by exact hc 6 (by decide), hx⟩
theorem szDenialConstraintS_c {a0 : Option Addr} {cap0 : Nat} {l : List Dcn} {left : Int} {w : World} (hl : 0 ≤ left) (hl2 : left ≤ 1048576) (h : At (cSlice cDcn) w l [.slice a0 l.length cap0]) :
    Calls Try.prog 9 #[.slice a0 l.length cap0, .int .i64 left] w fun e w' => e = .returned (.int .i64 (szR left l.length)) ∧ Below w.heap.size w w' := by
  have hm := (slice_len h).2
  unfold maxLen at hm
  have hw : wrap64 (left - (l.length : Int)) = left - (l.length : Int) := IntWalk.wrap64_in _ ⟨by omega, by omega⟩
  unfold szR
  by_cases h : left - (l.length : Int) < 0
  · rw [if_pos h]
    go_enter Try.func9, Try.ntmps9
    go_wp2
    go_ret
    exact ⟨rfl, Below.refl _ _⟩
  · rw [if_neg h]
    go_enter Try.func9, Try.ntmps9
    go_wp2
    go_ret
    exact ⟨rfl, Below.refl _ _⟩
theorem zDenialConstraint_at (A : List Value) (k n : Nat) (h : A.length = k * 7) (hk : k < n) : (A ++ (List.replicate (n - k) ([.int .i64 0, .int .i64 0, .int .i64 0, .int .i64 0, .int .i64 0, .int .i64 0, .int .i64 0] : List Value)).flatten)[k * 7]? = some (.int .i64 0) ∧ (A ++ (List.replicate (n - k) ([.int .i64 0, .int .i64 0, .int .i64 0, .int .i64 0, .int .i64 0, .int .i64 0, .int .i64 0] : List Value)).flatten)[k * 7 + 1]? = some (.int .i64 0) ∧ (A ++ (List.replicate (n - k) ([.int .i64 0, .int .i64 0, .int .i64 0, .int .i64 0, .int .i64 0, .int .i64 0, .int .i64 0] : List Value)).flatten)[k * 7 + 2]? = some (.int .i64 0) ∧ (A ++ (List.replicate (n - k) ([.int .i64 0, .int .i64 0, .int .i64 0, .int .i64 0, .int .i64 0, .int .i64 0, .int .i64 0] : List Value)).flatten)[k * 7 + 3]? = some (.int .i64 0) ∧ (A ++ (List.replicate (n - k) ([.int .i64 0, .int .i64 0, .int .i64 0, .int .i64 0, .int .i64 0, .int .i64 0, .int .i64 0] : List Value)).flatten)[k * 7 + 4]? = some (.int .i64 0) ∧ (A ++ (List.replicate (n - k) ([.int .i64 0, .int .i64 0, .int .i64 0, .int .i64 0, .int .i64 0, .int .i64 0, .int .i64 0] : List Value)).flatten)[k * 7 + 5]? = some (.int .i64 0) ∧ (A ++ (List.replicate (n - k) ([.int .i64 0, .int .i64 0, .int .i64 0, .int .i64 0, .int .i64 0, .int .i64 0, .int .i64 0] : List Value)).flatten)[k * 7 + 6]? = some (.int .i64 0) := by
  have e1 : n - k = (n - (k + 1)) + 1 := by omega
  rw [e1, List.replicate_succ, List.flatten_cons]
  refine ⟨?_, ?_, ?_, ?_, ?_, ?_, ?_⟩
  · rw [List.getElem?_append_right (by omega)]; simp [h]
  · rw [List.getElem?_append_right (by omega)]; simp [h]
  · rw [List.getElem?_append_right (by omega)]; simp [h]
  · rw [List.getElem?_append_right (by omega)]; simp [h]
  · rw [List.getElem?_append_right (by omega)]; simp [h]
  · rw [List.getElem?_append_right (by omega)]; simp [h]
  · rw [List.getElem?_append_right (by omega)]; simp [h]
theorem zDenialConstraint_step (A : List Value) (k n : Nat) (h : A.length = k * 7) (hk : k < n) (v0 v1 v2 v3 v4 v5 v6 : Value) : (((((((A ++ (List.replicate (n - k) ([.int .i64 0, .int .i64 0, .int .i64 0, .int .i64 0, .int .i64 0, .int .i64 0, .int .i64 0] : List Value)).flatten).set (k * 7) v0).set (k * 7 + 1) v1).set (k * 7 + 2) v2).set (k * 7 + 3) v3).set (k * 7 + 4) v4).set (k * 7 + 5) v5).set (k * 7 + 6) v6 = (A ++ [v0, v1, v2, v3, v4, v5, v6]) ++ (List.replicate (n - (k + 1)) ([.int .i64 0, .int .i64 0, .int .i64 0, .int .i64 0, .int .i64 0, .int .i64 0, .int .i64 0] : List Value)).flatten := by
  have e1 : n - k = (n - (k + 1)) + 1 := by omega
  rw [e1, List.replicate_succ, List.flatten_cons]
  rw [List.set_append_right _ _ (by omega), List.set_append_right _ _ (by omega), List.set_append_right _ _ (by omega), List.set_append_right _ _ (by omega), List.set_append_right _ _ (by omega), List.set_append_right _ _ (by omega), List.set_append_right _ _ (by omega)]
  simp [h]
theorem zDenialConstraint_made (n : Nat) : (madeCells #[.int .i64 0, .int .i64 0, .int .i64 0, .int .i64 0, .int .i64 0, .int .i64 0, .int .i64 0] (n * 7)).toList = (List.replicate n [.int .i64 0, .int .i64 0, .int .i64 0, .int .i64 0, .int .i64 0, .int .i64 0, .int .i64 0]).flatten := by
  induction n with
  | zero => simp [madeCells]
  | succ n ih =>
    rw [List.replicate_succ', List.flatten_append, ← ih]
    unfold madeCells
    simp [Array.range_succ, Array.toList_range, Nat.add_mod, Nat.mul_mod_left, Nat.succ_mul]
theorem Try.infoDenialConstraint : (Try.prog.info? 92).map (fun i => (i.zero, i.size, i.bytes)) = some (some (.agg #[.int .i64 0, .int .i64 0, .int .i64 0, .int .i64 0, .int .i64 0, .int .i64 0, .int .i64 0]), 7, 56) := by kernel_rfl
set_option maxHeartbeats 1600000 in
theorem toDenialConstraintS_c {a0 : Option Addr} {cap0 : Nat} {l : List Dcn} {w : World} (hs : l.length ≤ 1048576) (h : At (cSlice cDcn) w l [.slice a0 l.length cap0]) :
    Calls Try.prog 12 #[.slice a0 l.length cap0] w fun e w' => (∃ a' cap', e = .returned (.slice a' l.length cap') ∧ Own (cSlice cDcn) w.heap.size w' l [.slice a' l.length cap']) ∧ Below w.heap.size w w' := by
  obtain ⟨n, hn⟩ : ∃ n : Nat, l.length = n := ⟨_, rfl⟩
  have Hn := Lib.hid hn
  have Hr : Hid (∀ w' : World, Below w.heap.size w w' → ∀ j (hj : j < l.length), _) := fun w' hb j hj => at_DenialConstraint (Cod.ok_below h hb) j hj
  rw [hn] at hs ⊢
  clear hn h
  obtain ⟨i0, hi, hz0, hz1, hz2⟩ := info_parts Try.infoDenialConstraint
  go_enter Try.func12, Try.ntmps12
  go_wp2_with (at_make; refine wpList_make_full _ rfl (.tmp 6) (.tmp 6) 36 rfl w.heap.size 92 i0 (.agg #[.int .i64 0, .int .i64 0, .int .i64 0, .int .i64 0, .int .i64 0, .int .i64 0, .int .i64 0]) 7 Try.underlying36 hi hz0 hz1 .i64 .i64 n n n rfl rfl rfl rfl ?c1 ?c2 (Nat.le_refl _) ?_)
  case c1 => rw [hz2]; omega
  case c2 => unfold maxLen; omega
  intro w1 hown hg1
  rw [show (madeCells #[.int .i64 0, .int .i64 0, .int .i64 0, .int .i64 0, .int .i64 0, .int .i64 0, .int .i64 0] (n * 7)).toList = [].flatten ++ (List.replicate (n - 0) [.int .i64 0, .int .i64 0, .int .i64 0, .int .i64 0, .int .i64 0, .int .i64 0, .int .i64 0]).flatten by rw [zDenialConstraint_made]; simp] at hown
  have hb0 : Below w.heap.size w w1 := (Below.refl _ _).grown hg1 (Nat.le_refl _) (fun k hk => by cases hk)
  clear hg1 hi hz0 hz1 hz2
  go_wp2
  go_loopw [4] (fun iv wr => ∃ (k : Nat) (F : List Nat) (css : List (List Value)), k ≤ n ∧ iv = .int .i64 k ∧ ownL cDcn F wr (l.take k) css ∧ (∀ x, x ∈ F → w.heap.size < x ∧ x < wr.heap.size) ∧ wr.ownsRow w.heap.size 92 7 (.slice (some ⟨w.heap.size, 0, none⟩) n n) n (css.flatten ++ (List.replicate (n - k) [.int .i64 0, .int .i64 0, .int .i64 0, .int .i64 0, .int .i64 0, .int .i64 0, .int .i64 0]).flatten) ∧ Below w.heap.size w wr) (fun iv _ => n - (intOf iv).toNat)
  case atStart => exact ⟨0, [], [], by omega, by go_num, ownL_nil _, by simp, hown, hb0⟩
  case round =>
    clear hown hb0
    obtain ⟨k, F, css, hk, rfl, hL, hF, hown, hb⟩ := hrel
    by_cases hlt : k < n
    · have hkl : k < l.length := by rw [Hn.out]; exact hlt
      obtain ⟨b, off, rfl, hbB, c0, c1, c2, c3, c4, c5, c6, hx⟩ := Hr.out _ hb k hkl
      have Hc : Hid (∀ ww, Below w.heap.size wr ww → Calls Try.prog 52 #[.agg #[.int .i64 l[k].r1, .int .i64 l[k].r2, .int .i64 l[k].j1, .int .i64 l[k].j2, .int .i64 l[k].c1, .int .i64 l[k].c2, .int .i64 l[k].cmp]] ww fun e w' => (e = .returned (.agg #[.int .i64 l[k].r1, .int .i64 l[k].r2, .int .i64 l[k].j1, .int .i64 l[k].j2, .int .i64 l[k].c1, .int .i64 l[k].c2, .int .i64 l[k].cmp]) ∧ Own cDcn ww.heap.size w' l[k] [.int .i64 l[k].r1, .int .i64 l[k].r2, .int .i64 l[k].j1, .int .i64 l[k].j2, .int .i64 l[k].c1, .int .i64 l[k].c2, .int .i64 l[k].cmp]) ∧ Below ww.heap.size ww w') :=
        fun ww hw2 => toDenialConstraint_c (cDcn.keep hx (fun k hk => hw2.block k hk) (Nat.le_trans hb.size hw2.size))
      have hlen : css.flatten.length = k * 7 := by
        have := (ownL_len hL).2
        rw [List.length_take, Nat.min_eq_left (by omega)] at this
        exact this
      have Hat := Lib.hid (zDenialConstraint_at css.flatten k n hlen hlt)
      have Hstep := Lib.hid (zDenialConstraint_step css.flatten k n hlen hlt)
      have Htake : Hid (l.take (k + 1) = l.take k ++ [l[k]]) := List.take_succ_eq_append_getElem hkl
      have HL := Lib.hid hL
      have HF := Lib.hid hF
      have Hown := Lib.hid hown
      clear hx hL hF hlen hown
      generalize l[k] = r at *
      go_wp2_with fail
      refine (Hc.out _ (Below.refl _ _)).mono ?_
      rintro e w2 ⟨⟨rfl, ho⟩, hb2⟩
      have hown2 := ownsRow_below Hown.out hb2
      have Hown2 := Lib.hid hown2
      have hgw : w.heap.size < wr.heap.size := (Hown.out.lt _ rfl).2
      have f0 := hown2.frozenAt (k * 7)
      have d0 := (hown2.cellAt (k * 7) (by omega)).trans Hat.out.1
      have f1 := hown2.frozenAt (k * 7 + 1)
      have d1 := (hown2.cellAt (k * 7 + 1) (by omega)).trans Hat.out.2.1
      have f2 := hown2.frozenAt (k * 7 + 2)
      have d2 := (hown2.cellAt (k * 7 + 2) (by omega)).trans Hat.out.2.2.1
      have f3 := hown2.frozenAt (k * 7 + 3)
      have d3 := (hown2.cellAt (k * 7 + 3) (by omega)).trans Hat.out.2.2.2.1
      have f4 := hown2.frozenAt (k * 7 + 4)
      have d4 := (hown2.cellAt (k * 7 + 4) (by omega)).trans Hat.out.2.2.2.2.1
      have f5 := hown2.frozenAt (k * 7 + 5)
      have d5 := (hown2.cellAt (k * 7 + 5) (by omega)).trans Hat.out.2.2.2.2.2.1
      have f6 := hown2.frozenAt (k * 7 + 6)
      have d6 := (hown2.cellAt (k * 7 + 6) (by omega)).trans Hat.out.2.2.2.2.2.2
      have Ho := Lib.hid ho
      have hbw : Below w.heap.size w w2 := hb.trans (hb2.mono hb.size)
      clear ho hown2
      go_wp2
      go_roundw
      case rel =>
        obtain ⟨G, hG1, hG2⟩ := Ho.out
        have hown2 := Hown2.out
        have s0 := (hown2.stored (k * 7) (.int .i64 r.r1)).1
        have s1 := (s0.stored (k * 7 + 1) (.int .i64 r.r2)).1
        have s2 := (s1.stored (k * 7 + 2) (.int .i64 r.j1)).1
        have s3 := (s2.stored (k * 7 + 3) (.int .i64 r.j2)).1
        have s4 := (s3.stored (k * 7 + 4) (.int .i64 r.c1)).1
        have s5 := (s4.stored (k * 7 + 5) (.int .i64 r.c2)).1
        have s6 := (s5.stored (k * 7 + 6) (.int .i64 r.cmp)).1
        rw [Hstep.out] at s6
        have hkeep : ∀ kk, kk ≠ w.heap.size → (((((((w2.setCell ⟨w.heap.size, k * 7, none⟩ (.int .i64 r.r1)).setCell ⟨w.heap.size, k * 7 + 1, none⟩ (.int .i64 r.r2)).setCell ⟨w.heap.size, k * 7 + 2, none⟩ (.int .i64 r.j1)).setCell ⟨w.heap.size, k * 7 + 3, none⟩ (.int .i64 r.j2)).setCell ⟨w.heap.size, k * 7 + 4, none⟩ (.int .i64 r.c1)).setCell ⟨w.heap.size, k * 7 + 5, none⟩ (.int .i64 r.c2)).setCell ⟨w.heap.size, k * 7 + 6, none⟩ (.int .i64 r.cmp)).heap[kk]? = w2.heap[kk]? := fun kk hne => (heap_setCell_other _ ⟨w.heap.size, k * 7 + 6, none⟩ _ _ hne).trans ((heap_setCell_other _ ⟨w.heap.size, k * 7 + 5, none⟩ _ _ hne).trans ((heap_setCell_other _ ⟨w.heap.size, k * 7 + 4, none⟩ _ _ hne).trans ((heap_setCell_other _ ⟨w.heap.size, k * 7 + 3, none⟩ _ _ hne).trans ((heap_setCell_other _ ⟨w.heap.size, k * 7 + 2, none⟩ _ _ hne).trans ((heap_setCell_other _ ⟨w.heap.size, k * 7 + 1, none⟩ _ _ hne).trans ((heap_setCell_other _ ⟨w.heap.size, k * 7, none⟩ _ _ hne).trans (rfl)))))))
        refine ⟨k + 1, F ++ G, css ++ [[.int .i64 r.r1, .int .i64 r.r2, .int .i64 r.j1, .int .i64 r.j2, .int .i64 r.c1, .int .i64 r.c2, .int .i64 r.cmp]], by omega, by go_num, ?_, ?_, ?_, (((((((hbw).setCell (Nat.le_refl _) _).setCell (Nat.le_refl _) _).setCell (Nat.le_refl _) _).setCell (Nat.le_refl _) _).setCell (Nat.le_refl _) _).setCell (Nat.le_refl _) _).setCell (Nat.le_refl _) _⟩
        · rw [Htake.out]
          refine ownL_snoc (cDcn.keepO hG1 (fun kk hkk => hkeep kk (by have := (hG2 kk hkk).1; omega))) (ownL_keep (ownL_below HL.out hb2 (fun kk hkk => (HF.out kk hkk).2)) (fun kk hkk => hkeep kk (by have := (HF.out kk hkk).1; omega))) ?_
          intro kk hkk hg
          have := (HF.out kk hkk).2
          have := (hG2 kk hg).1
          omega
        · intro x hx
          simp only [World.setCell, Array.size_modify]
          rcases List.mem_append.1 hx with hx | hx
          · have := HF.out x hx; have := hb2.size; omega
          · have := hG2 x hx; omega
        · simpa using s6
      case measure => simp [intOf]; omega
    · obtain rfl : k = n := by omega
      have hlk : l.take k = l := List.take_of_length_le (by rw [Hn.out]; exact Nat.le_refl _)
      rw [hlk] at hL
      rw [Nat.sub_self, List.replicate_zero, List.flatten_nil, List.append_nil] at hown
      clear hlk
      go_wp2
      go_ret
      refine ⟨⟨_, _, rfl, ?_⟩, hb⟩
      have hlen : l.length = k := Hn.out
      subst hlen
      exact Own.slice (c := cDcn) hL hown (fun x hx => by have := hF x hx; omega) (by unfold maxLen; omega)
set_option maxHeartbeats 1600000 in
theorem eqDenialConstraintS_c {a0 a0' : Option Addr} {cap0 cap0' : Nat} {l m : List Dcn} {w : World} (h : At (cSlice cDcn) w l [.slice a0 l.length cap0]) (h' : At (cSlice cDcn) w m [.slice a0' m.length cap0']) :
    Calls Try.prog 16 #[.slice a0 l.length cap0, .slice a0' m.length cap0'] w fun e w' => e = .returned (.bool (decide (l = m))) ∧ Below w.heap.size w w' := by
  have hm := (slice_len h).2
  have hm' := (slice_len h').2
  unfold maxLen at hm hm'
  by_cases hne : l.length = m.length
  · obtain ⟨n, hn⟩ : ∃ n : Nat, l.length = n := ⟨_, rfl⟩
    have Hr : Hid (∀ w' : World, Below w.heap.size w w' → ∀ j (hj : j < l.length), _) := fun w' hb j hj => at_DenialConstraint (Cod.ok_below h hb) j hj
    have Hr' : Hid (∀ w' : World, Below w.heap.size w w' → ∀ j (hj : j < m.length), _) := fun w' hb j hj => at_DenialConstraint (Cod.ok_below h' hb) j hj
    clear h h'
    rw [← hne, hn]
    have Hn := Lib.hid hn
    have Hm : Hid (m.length = n) := by rw [← hne]; exact hn
    have hm2 : n ≤ 2 ^ 63 - 1 := by omega
    generalize hR : decide (l = m) = R
    have HR : Hid (decide (l.drop 0 = m.drop 0) = R) := hR
    clear hR hne hn hm hm'
    go_enter Try.func16, Try.ntmps16
    go_wp2
    go_loopw [5] (fun iv wr => ∃ k : Nat, k ≤ n ∧ iv = .int .i64 k ∧ Hid (decide (l.drop k = m.drop k) = R) ∧ Below w.heap.size w wr) (fun iv _ => n - (intOf iv).toNat)
    case atStart => exact ⟨0, by omega, by go_num, HR, Below.refl _ _⟩
    case round =>
      clear HR
      obtain ⟨k, hk, rfl, Hq, hb⟩ := hrel
      by_cases hlt : k < n
      · have hkl : k < l.length := by rw [Hn.out]; exact hlt
        have hkm : k < m.length := by rw [Hm.out]; exact hlt
        have Hst : Hid (R = (decide (l[k] = m[k]) && decide (l.drop (k + 1) = m.drop (k + 1)))) := by
          show R = _
          rw [← Hq.out, ← Bool.decide_and]; congr 1; rw [List.drop_eq_getElem_cons hkl, List.drop_eq_getElem_cons hkm, List.cons.injEq]
        obtain ⟨b, off, rfl, hbB, c0, c1, c2, c3, c4, c5, c6, hx⟩ := Hr.out _ hb k hkl
        obtain ⟨b', off', rfl, hbB', e0, e1, e2, e3, e4, e5, e6, hy⟩ := Hr'.out _ hb k hkm
        have Hc : Hid (∀ ww, Below w.heap.size wr ww → Calls Try.prog 58 #[.agg #[.int .i64 l[k].r1, .int .i64 l[k].r2, .int .i64 l[k].j1, .int .i64 l[k].j2, .int .i64 l[k].c1, .int .i64 l[k].c2, .int .i64 l[k].cmp], .agg #[.int .i64 m[k].r1, .int .i64 m[k].r2, .int .i64 m[k].j1, .int .i64 m[k].j2, .int .i64 m[k].c1, .int .i64 m[k].c2, .int .i64 m[k].cmp]] ww fun e w' => e = .returned (.bool (decide (l[k] = m[k]))) ∧ Below ww.heap.size ww w') :=
          fun ww hw2 => eqDenialConstraint_c (cDcn.keep hx (fun k hk => hw2.block k hk) (Nat.le_trans hb.size hw2.size)) (cDcn.keep hy (fun k hk => hw2.block k hk) (Nat.le_trans hb.size hw2.size))
        clear hx hy Hq
        generalize l[k] = r at *
        generalize m[k] = r' at *
        generalize decide (r = r') = z at *
        cases z with
        | true =>
          go_wp2_with fail
          go_region_with (go_at_call 58; refine (Hc.out _ ?hww).mono ?_; (case hww => first | exact Below.refl _ _ | exact (Below.refl _ _).drew | exact Below.drewN' (Below.refl _ _) _); rintro e w1 ⟨rfl, hb1⟩)
          all_goals
            go_wp2
            go_roundw
            case rel =>
              have h := Hst.out
              rw [Bool.true_and] at h
              exact ⟨k + 1, by omega, by go_num, h.symm, hb.drew.trans (hb1.mono hb.size)⟩
            case measure => simp [intOf]; omega
        | false =>
          have hR : R = false := by have h := Hst.out; rw [Bool.false_and] at h; exact h
          go_wp2_with fail
          go_region_with (go_at_call 58; refine (Hc.out _ ?hww).mono ?_; (case hww => first | exact Below.refl _ _ | exact (Below.refl _ _).drew | exact Below.drewN' (Below.refl _ _) _); rintro e w1 ⟨rfl, hb1⟩)
          all_goals
            go_wp2
            go_ret
            exact ⟨by rw [hR]; rfl, hb.drew.trans (hb1.mono hb.size)⟩
      · obtain rfl : k = n := by omega
        have hR : R = true := by
          have := Hq.out
          rw [List.drop_eq_nil_of_le (by rw [Hn.out]; exact Nat.le_refl _), List.drop_eq_nil_of_le (by rw [Hm.out]; exact Nat.le_refl _)] at this
          simpa using this.symm
        go_wp2
        go_ret
        exact ⟨by rw [hR]; rfl, hb⟩
  · rw [decide_eq_false (fun e => hne (by rw [e]))]
    have hne2 : (l.length != m.length) = true := by simpa using hne
    go_enter Try.func16, Try.ntmps16
    go_wp2
    go_ret
    exact ⟨rfl, Below.refl _ _⟩
end Go.Proofs.Ytpfljebndnfpmaa


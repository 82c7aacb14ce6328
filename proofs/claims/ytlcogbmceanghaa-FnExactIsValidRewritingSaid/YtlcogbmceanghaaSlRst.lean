/- Slices of structs: the laws' helpers on them (size, copy, equality). -/
import Derived.Test.YtlcogbmceanghaaTyRst
import Derived.BigQuiet
import Derived.Deep.QuietTactic
import Derived.Deep.RegionWith
namespace Go.Proofs.Ytlcogbmceanghaa
open Go.RowKit
set_option linter.unusedVariables false
set_option maxRecDepth 100000

/-- Element j of such a slice. -/
theorem at_RewritingStep {B : Nat} {w : World} {l : List Rst} {a0 : Option Addr} {len cap0 : Nat} (h : (cSlice cRst).ok B w l [.slice a0 len cap0]) (j : Nat) (hj : j < l.length) :
    ∃ b off a1 cap1 a2 cap2 a3 cap3, a0 = some ⟨b, off, none⟩ ∧ b < B ∧ w.cell? ⟨b, off + j * 4, none⟩ = some (.int .i64 l[j].atom.rel) ∧ w.cell? ⟨b, off + j * 4 + 1, none⟩ = some (.slice a1 l[j].atom.terms.length cap1) ∧ w.cell? ⟨b, off + j * 4 + 2, none⟩ = some (.slice a2 l[j].ex.length cap2) ∧ w.cell? ⟨b, off + j * 4 + 3, none⟩ = some (.slice a3 l[j].un.length cap3) ∧ cRst.ok B w l[j] [.int .i64 l[j].atom.rel, .slice a1 l[j].atom.terms.length cap1, .slice a2 l[j].ex.length cap2, .slice a3 l[j].un.length cap3] := by
  obtain ⟨b, off, es, rfl, hb, he, hc⟩ := slice_at h j hj
  obtain ⟨a1, cap1, a2, cap2, a3, cap3, rfl, hx⟩ := cRst_open he
  exact ⟨b, off, a1, cap1, a2, cap2, a3, cap3, rfl, hb, by exact hc 0 (by decide), by exact hc 1 (by decide), by exact hc 2 (by decide), by exact hc 3 (by decide), hx⟩
/-- The leaves of such a slice. -/
def sumRewritingStep (l : List Rst) : Nat := (l.map fun x => sizeRewritingStep x).sum
/-- The size of such a slice: its length and its leaves. -/
def sizeRewritingStepS (l : List Rst) : Nat := l.length + sumRewritingStep l
theorem sumRewritingStep_ge (l : List Rst) (k : Nat) (hk : k < l.length) : (sizeRewritingStep l[k]) ≤ sumRewritingStep l := by
  induction l generalizing k with
  | nil => simp at hk
  | cons x l ih =>
    unfold sumRewritingStep at *
    rw [List.map_cons, List.sum_cons]
    cases k with
    | zero => exact Nat.le_add_right _ _
    | succ k => exact Nat.le_trans (ih k (by simpa using hk)) (Nat.le_add_left _ _)
theorem sumRewritingStep_drop (l : List Rst) (k : Nat) (hk : k < l.length) : sumRewritingStep (l.drop k) = (sizeRewritingStep l[k]) + sumRewritingStep (l.drop (k + 1)) := by
  unfold sumRewritingStep; rw [List.drop_eq_getElem_cons hk, List.map_cons, List.sum_cons]
theorem szRewritingStepS_c {a0 : Option Addr} {cap0 : Nat} {l : List Rst} {left : Int} {w : World} (hl : 0 ≤ left) (hl2 : left ≤ 1048576) (h : At (cSlice cRst) w l [.slice a0 l.length cap0]) :
    Calls Try.prog 5 #[.slice a0 l.length cap0, .int .i64 left] w fun e w' => e = .returned (.int .i64 (szR left (sizeRewritingStepS l))) ∧ Below w.heap.size w w' := by
  have hm := (slice_len h).2
  unfold maxLen at hm
  have hw : wrap64 (left - (l.length : Int)) = left - (l.length : Int) := IntWalk.wrap64_in _ ⟨by omega, by omega⟩
  obtain ⟨n, hn⟩ : ∃ n : Nat, l.length = n := ⟨_, rfl⟩
  have Hn := Lib.hid hn
  have Hr : Hid (∀ w' : World, Below w.heap.size w w' → ∀ j (hj : j < l.length), _) := fun w' hb j hj => at_RewritingStep (Cod.ok_below h hb) j hj
  unfold sizeRewritingStepS
  rw [hn] at hw hm ⊢
  clear h hn
  rw [szR_step left n]
  by_cases h0 : left - (n : Int) < 0
  · rw [if_pos (by unfold szR; rw [if_pos h0]; decide)]
    go_enter Try.func5, Try.ntmps5
    go_wp2
    go_ret
    exact ⟨rfl, Below.refl _ _⟩
  · have hz : szR left n = left - (n : Int) := if_neg h0
    rw [hz, if_neg h0]
    clear hz
    generalize hR : szR (left - (n : Int)) (sumRewritingStep l) = R
    have HR : Hid (szR (left - (n : Int)) (sumRewritingStep (l.drop 0)) = R) := hR
    clear hR
    go_enter Try.func5, Try.ntmps5
    go_wp2
    go_loopw [1, 5] (fun lv iv wr => ∃ (k : Nat) (q : Int), k ≤ n ∧ lv = .int .i64 q ∧ iv = .int .i64 k ∧ 0 ≤ q ∧ q ≤ 1048576 ∧ Hid (szR q (sumRewritingStep (l.drop k)) = R) ∧ Below w.heap.size w wr) (fun _ iv _ => n - (intOf iv).toNat)
    case atStart => exact ⟨0, left - n, by omega, rfl, rfl, by omega, by omega, HR, Below.refl _ _⟩
    case round =>
      clear HR hw
      obtain ⟨k, q, hk, rfl, rfl, hq0, hq1, Hq, hb⟩ := hrel
      by_cases hlt : k < n
      · have hkl : k < l.length := by rw [Hn.out]; exact hlt
        obtain ⟨b, off, a1, cap1, a2, cap2, a3, cap3, rfl, hbB, c0, c1, c2, c3, hx⟩ := Hr.out _ hb k hkl
        have hst : Hid (R = if szR q (sizeRewritingStep l[k]) < 0 then -1 else szR (szR q (sizeRewritingStep l[k])) (sumRewritingStep (l.drop (k + 1)))) := by
          show R = _
          rw [← szR_step, ← sumRewritingStep_drop l k hkl, Hq.out]
        have Hc : Hid (∀ ww, Below w.heap.size wr ww → Calls Try.prog 13 #[.agg #[.int .i64 l[k].atom.rel, .slice a1 l[k].atom.terms.length cap1, .slice a2 l[k].ex.length cap2, .slice a3 l[k].un.length cap3], .int .i64 q] ww fun e w' => e = .returned (.int .i64 (szR q (sizeRewritingStep l[k]))) ∧ Below ww.heap.size ww w') :=
          fun ww hw2 => szRewritingStep_c hq0 hq1 (cRst.keep hx (fun k hk => hw2.block k hk) (Nat.le_trans hb.size hw2.size))
        have hle := szR_le q (sizeRewritingStep l[k]) hq0
        generalize hz : szR q (sizeRewritingStep l[k]) = z at *
        clear hz hx Hq
        generalize l[k] = r at *
        by_cases hneg : z < 0
        · have hR : R = -1 := by have := hst.out; rw [if_pos hneg] at this; exact this
          go_wp2_with fail
          refine (Hc.out _ (Below.refl _ _)).mono ?_
          rintro e w1 ⟨rfl, hb1⟩
          go_wp2
          go_ret
          exact ⟨by rw [hR]; rfl, hb.trans (hb1.mono hb.size)⟩
        · go_wp2_with fail
          refine (Hc.out _ (Below.refl _ _)).mono ?_
          rintro e w1 ⟨rfl, hb1⟩
          go_wp2
          go_roundw
          case rel =>
            have := hst.out
            rw [if_neg (by omega)] at this
            exact ⟨k + 1, z, by omega, rfl, by go_num, by omega, by omega, this.symm, hb.trans (hb1.mono hb.size)⟩
          case measure => simp [intOf]; omega
      · obtain rfl : k = n := by omega
        have hd : l.drop k = [] := List.drop_eq_nil_of_le (by rw [Hn.out]; exact Nat.le_refl _)
        have hq : q = R := by have := Hq.out; rw [hd] at this; rw [← this]; unfold szR; simp [sumRewritingStep]; omega
        clear hd Hq
        go_wp2
        go_ret
        exact ⟨by rw [hq]; rfl, hb⟩
theorem zRewritingStep_at (A : List Value) (k n : Nat) (h : A.length = k * 4) (hk : k < n) : (A ++ (List.replicate (n - k) ([.int .i64 0, .slice none 0 0, .slice none 0 0, .slice none 0 0] : List Value)).flatten)[k * 4]? = some (.int .i64 0) ∧ (A ++ (List.replicate (n - k) ([.int .i64 0, .slice none 0 0, .slice none 0 0, .slice none 0 0] : List Value)).flatten)[k * 4 + 1]? = some (.slice none 0 0) ∧ (A ++ (List.replicate (n - k) ([.int .i64 0, .slice none 0 0, .slice none 0 0, .slice none 0 0] : List Value)).flatten)[k * 4 + 2]? = some (.slice none 0 0) ∧ (A ++ (List.replicate (n - k) ([.int .i64 0, .slice none 0 0, .slice none 0 0, .slice none 0 0] : List Value)).flatten)[k * 4 + 3]? = some (.slice none 0 0) := by
  have e1 : n - k = (n - (k + 1)) + 1 := by omega
  rw [e1, List.replicate_succ, List.flatten_cons]
  refine ⟨?_, ?_, ?_, ?_⟩
  · rw [List.getElem?_append_right (by omega)]; simp [h]
  · rw [List.getElem?_append_right (by omega)]; simp [h]
  · rw [List.getElem?_append_right (by omega)]; simp [h]
  · rw [List.getElem?_append_right (by omega)]; simp [h]
theorem zRewritingStep_step (A : List Value) (k n : Nat) (h : A.length = k * 4) (hk : k < n) (v0 v1 v2 v3 : Value) : ((((A ++ (List.replicate (n - k) ([.int .i64 0, .slice none 0 0, .slice none 0 0, .slice none 0 0] : List Value)).flatten).set (k * 4) v0).set (k * 4 + 1) v1).set (k * 4 + 2) v2).set (k * 4 + 3) v3 = (A ++ [v0, v1, v2, v3]) ++ (List.replicate (n - (k + 1)) ([.int .i64 0, .slice none 0 0, .slice none 0 0, .slice none 0 0] : List Value)).flatten := by
  have e1 : n - k = (n - (k + 1)) + 1 := by omega
  rw [e1, List.replicate_succ, List.flatten_cons]
  rw [List.set_append_right _ _ (by omega), List.set_append_right _ _ (by omega), List.set_append_right _ _ (by omega), List.set_append_right _ _ (by omega)]
  simp [h]
theorem zRewritingStep_made (n : Nat) : (madeCells #[.int .i64 0, .slice none 0 0, .slice none 0 0, .slice none 0 0] (n * 4)).toList = (List.replicate n [.int .i64 0, .slice none 0 0, .slice none 0 0, .slice none 0 0]).flatten := by
  induction n with
  | zero => simp [madeCells]
  | succ n ih =>
    rw [List.replicate_succ', List.flatten_append, ← ih]
    unfold madeCells
    simp [Array.range_succ, Array.toList_range, Nat.add_mod, Nat.mul_mod_left, Nat.succ_mul]
theorem Try.infoRewritingStep : (Try.prog.info? 45).map (fun i => (i.zero, i.size, i.bytes)) = some (some (.agg #[.int .i64 0, .slice none 0 0, .slice none 0 0, .slice none 0 0]), 4, 80) := by kernel_rfl
set_option maxHeartbeats 1600000 in
theorem toRewritingStepS_c {a0 : Option Addr} {cap0 : Nat} {l : List Rst} {w : World} (hS : sizeRewritingStepS l ≤ 1048576) (h : At (cSlice cRst) w l [.slice a0 l.length cap0]) :
    Calls Try.prog 8 #[.slice a0 l.length cap0] w fun e w' => (∃ a' cap', e = .returned (.slice a' l.length cap') ∧ Own (cSlice cRst) w.heap.size w' l [.slice a' l.length cap']) ∧ Below w.heap.size w w' := by
  have hs : l.length ≤ 1048576 := Nat.le_trans (Nat.le_add_right _ _) hS
  have hs2 : ∀ j (hj : j < l.length), (sizeRewritingStep l[j]) ≤ 1048576 := fun j hj => Nat.le_trans (sumRewritingStep_ge l j hj) (Nat.le_trans (Nat.le_add_left _ _) hS)
  clear hS
  obtain ⟨n, hn⟩ : ∃ n : Nat, l.length = n := ⟨_, rfl⟩
  have Hn := Lib.hid hn
  have Hr : Hid (∀ w' : World, Below w.heap.size w w' → ∀ j (hj : j < l.length), _) := fun w' hb j hj => at_RewritingStep (Cod.ok_below h hb) j hj
  rw [hn] at hs ⊢
  clear hn h
  obtain ⟨i0, hi, hz0, hz1, hz2⟩ := info_parts Try.infoRewritingStep
  go_enter Try.func8, Try.ntmps8
  go_wp2_with (at_make; refine wpList_make_full _ rfl (.tmp 6) (.tmp 6) 29 rfl w.heap.size 45 i0 (.agg #[.int .i64 0, .slice none 0 0, .slice none 0 0, .slice none 0 0]) 4 Try.underlying29 hi hz0 hz1 .i64 .i64 n n n rfl rfl rfl rfl ?c1 ?c2 (Nat.le_refl _) ?_)
  case c1 => rw [hz2]; omega
  case c2 => unfold maxLen; omega
  intro w1 hown hg1
  rw [show (madeCells #[.int .i64 0, .slice none 0 0, .slice none 0 0, .slice none 0 0] (n * 4)).toList = [].flatten ++ (List.replicate (n - 0) [.int .i64 0, .slice none 0 0, .slice none 0 0, .slice none 0 0]).flatten by rw [zRewritingStep_made]; simp] at hown
  have hb0 : Below w.heap.size w w1 := (Below.refl _ _).grown hg1 (Nat.le_refl _) (fun k hk => by cases hk)
  clear hg1 hi hz0 hz1 hz2
  go_wp2
  go_loopw [4] (fun iv wr => ∃ (k : Nat) (F : List Nat) (css : List (List Value)), k ≤ n ∧ iv = .int .i64 k ∧ ownL cRst F wr (l.take k) css ∧ (∀ x, x ∈ F → w.heap.size < x ∧ x < wr.heap.size) ∧ wr.ownsRow w.heap.size 45 4 (.slice (some ⟨w.heap.size, 0, none⟩) n n) n (css.flatten ++ (List.replicate (n - k) [.int .i64 0, .slice none 0 0, .slice none 0 0, .slice none 0 0]).flatten) ∧ Below w.heap.size w wr) (fun iv _ => n - (intOf iv).toNat)
  case atStart => exact ⟨0, [], [], by omega, by go_num, ownL_nil _, by simp, hown, hb0⟩
  case round =>
    clear hown hb0
    obtain ⟨k, F, css, hk, rfl, hL, hF, hown, hb⟩ := hrel
    by_cases hlt : k < n
    · have hkl : k < l.length := by rw [Hn.out]; exact hlt
      obtain ⟨b, off, a1, cap1, a2, cap2, a3, cap3, rfl, hbB, c0, c1, c2, c3, hx⟩ := Hr.out _ hb k hkl
      have Hc : Hid (∀ ww, Below w.heap.size wr ww → Calls Try.prog 20 #[.agg #[.int .i64 l[k].atom.rel, .slice a1 l[k].atom.terms.length cap1, .slice a2 l[k].ex.length cap2, .slice a3 l[k].un.length cap3]] ww fun e w' => (∃ a1' cap1' a2' cap2' a3' cap3', e = .returned (.agg #[.int .i64 l[k].atom.rel, .slice a1' l[k].atom.terms.length cap1', .slice a2' l[k].ex.length cap2', .slice a3' l[k].un.length cap3']) ∧ Own cRst ww.heap.size w' l[k] [.int .i64 l[k].atom.rel, .slice a1' l[k].atom.terms.length cap1', .slice a2' l[k].ex.length cap2', .slice a3' l[k].un.length cap3']) ∧ Below ww.heap.size ww w') :=
        fun ww hw2 => toRewritingStep_c (hs2 k hkl) (cRst.keep hx (fun k hk => hw2.block k hk) (Nat.le_trans hb.size hw2.size))
      have hlen : css.flatten.length = k * 4 := by
        have := (ownL_len hL).2
        rw [List.length_take, Nat.min_eq_left (by omega)] at this
        exact this
      have Hat := Lib.hid (zRewritingStep_at css.flatten k n hlen hlt)
      have Hstep := Lib.hid (zRewritingStep_step css.flatten k n hlen hlt)
      have Htake : Hid (l.take (k + 1) = l.take k ++ [l[k]]) := List.take_succ_eq_append_getElem hkl
      have HL := Lib.hid hL
      have HF := Lib.hid hF
      have Hown := Lib.hid hown
      clear hx hL hF hlen hown
      generalize l[k] = r at *
      go_wp2_with fail
      refine (Hc.out _ (Below.refl _ _)).mono ?_
      rintro e w2 ⟨⟨a1', cap1', a2', cap2', a3', cap3', rfl, ho⟩, hb2⟩
      have hown2 := ownsRow_below Hown.out hb2
      have Hown2 := Lib.hid hown2
      have hgw : w.heap.size < wr.heap.size := (Hown.out.lt _ rfl).2
      have f0 := hown2.frozenAt (k * 4)
      have d0 := (hown2.cellAt (k * 4) (by omega)).trans Hat.out.1
      have f1 := hown2.frozenAt (k * 4 + 1)
      have d1 := (hown2.cellAt (k * 4 + 1) (by omega)).trans Hat.out.2.1
      have f2 := hown2.frozenAt (k * 4 + 2)
      have d2 := (hown2.cellAt (k * 4 + 2) (by omega)).trans Hat.out.2.2.1
      have f3 := hown2.frozenAt (k * 4 + 3)
      have d3 := (hown2.cellAt (k * 4 + 3) (by omega)).trans Hat.out.2.2.2
      have Ho := Lib.hid ho
      have hbw : Below w.heap.size w w2 := hb.trans (hb2.mono hb.size)
      clear ho hown2
      go_wp2
      go_roundw
      case rel =>
        obtain ⟨G, hG1, hG2⟩ := Ho.out
        have hown2 := Hown2.out
        have s0 := (hown2.stored (k * 4) (.int .i64 r.atom.rel)).1
        have s1 := (s0.stored (k * 4 + 1) (.slice a1' r.atom.terms.length cap1')).1
        have s2 := (s1.stored (k * 4 + 2) (.slice a2' r.ex.length cap2')).1
        have s3 := (s2.stored (k * 4 + 3) (.slice a3' r.un.length cap3')).1
        rw [Hstep.out] at s3
        have hkeep : ∀ kk, kk ≠ w.heap.size → ((((w2.setCell ⟨w.heap.size, k * 4, none⟩ (.int .i64 r.atom.rel)).setCell ⟨w.heap.size, k * 4 + 1, none⟩ (.slice a1' r.atom.terms.length cap1')).setCell ⟨w.heap.size, k * 4 + 2, none⟩ (.slice a2' r.ex.length cap2')).setCell ⟨w.heap.size, k * 4 + 3, none⟩ (.slice a3' r.un.length cap3')).heap[kk]? = w2.heap[kk]? := fun kk hne => (heap_setCell_other _ ⟨w.heap.size, k * 4 + 3, none⟩ _ _ hne).trans ((heap_setCell_other _ ⟨w.heap.size, k * 4 + 2, none⟩ _ _ hne).trans ((heap_setCell_other _ ⟨w.heap.size, k * 4 + 1, none⟩ _ _ hne).trans ((heap_setCell_other _ ⟨w.heap.size, k * 4, none⟩ _ _ hne).trans (rfl))))
        refine ⟨k + 1, F ++ G, css ++ [[.int .i64 r.atom.rel, .slice a1' r.atom.terms.length cap1', .slice a2' r.ex.length cap2', .slice a3' r.un.length cap3']], by omega, by go_num, ?_, ?_, ?_, ((((hbw).setCell (Nat.le_refl _) _).setCell (Nat.le_refl _) _).setCell (Nat.le_refl _) _).setCell (Nat.le_refl _) _⟩
        · rw [Htake.out]
          refine ownL_snoc (cRst.keepO hG1 (fun kk hkk => hkeep kk (by have := (hG2 kk hkk).1; omega))) (ownL_keep (ownL_below HL.out hb2 (fun kk hkk => (HF.out kk hkk).2)) (fun kk hkk => hkeep kk (by have := (HF.out kk hkk).1; omega))) ?_
          intro kk hkk hg
          have := (HF.out kk hkk).2
          have := (hG2 kk hg).1
          omega
        · intro x hx
          simp only [World.setCell, Array.size_modify]
          rcases List.mem_append.1 hx with hx | hx
          · have := HF.out x hx; have := hb2.size; omega
          · have := hG2 x hx; omega
        · simpa using s3
      case measure => simp [intOf]; omega
    · obtain rfl : k = n := by omega
      have hlk : l.take k = l := List.take_of_length_le (by rw [Hn.out]; exact Nat.le_refl _)
      rw [hlk] at hL
      rw [Nat.sub_self, List.replicate_zero, List.flatten_nil, List.append_nil] at hown
      clear hlk
      go_wp2
      go_ret
      refine ⟨⟨_, _, rfl, ?_⟩, hb⟩
      have hlen : l.length = k := Hn.out
      subst hlen
      exact Own.slice (c := cRst) hL hown (fun x hx => by have := hF x hx; omega) (by unfold maxLen; omega)
set_option maxHeartbeats 1600000 in
theorem eqRewritingStepS_c {a0 a0' : Option Addr} {cap0 cap0' : Nat} {l m : List Rst} {w : World} (h : At (cSlice cRst) w l [.slice a0 l.length cap0]) (h' : At (cSlice cRst) w m [.slice a0' m.length cap0']) :
    Calls Try.prog 11 #[.slice a0 l.length cap0, .slice a0' m.length cap0'] w fun e w' => e = .returned (.bool (decide (l = m))) ∧ Below w.heap.size w w' := by
  have hm := (slice_len h).2
  have hm' := (slice_len h').2
  unfold maxLen at hm hm'
  by_cases hne : l.length = m.length
  · obtain ⟨n, hn⟩ : ∃ n : Nat, l.length = n := ⟨_, rfl⟩
    have Hr : Hid (∀ w' : World, Below w.heap.size w w' → ∀ j (hj : j < l.length), _) := fun w' hb j hj => at_RewritingStep (Cod.ok_below h hb) j hj
    have Hr' : Hid (∀ w' : World, Below w.heap.size w w' → ∀ j (hj : j < m.length), _) := fun w' hb j hj => at_RewritingStep (Cod.ok_below h' hb) j hj
    clear h h'
    rw [← hne, hn]
    have Hn := Lib.hid hn
    have Hm : Hid (m.length = n) := by rw [← hne]; exact hn
    have hm2 : n ≤ 2 ^ 63 - 1 := by omega
    generalize hR : decide (l = m) = R
    have HR : Hid (decide (l.drop 0 = m.drop 0) = R) := hR
    clear hR hne hn hm hm'
    go_enter Try.func11, Try.ntmps11
    go_wp2
    go_loopw [5] (fun iv wr => ∃ k : Nat, k ≤ n ∧ iv = .int .i64 k ∧ Hid (decide (l.drop k = m.drop k) = R) ∧ Below w.heap.size w wr) (fun iv _ => n - (intOf iv).toNat)
    case atStart => exact ⟨0, by omega, by go_num, HR, Below.refl _ _⟩
    case round =>
      clear HR
      obtain ⟨k, hk, rfl, Hq, hb⟩ := hrel
      by_cases hlt : k < n
      · have hkl : k < l.length := by rw [Hn.out]; exact hlt
        have hkm : k < m.length := by rw [Hm.out]; exact hlt
        have Hst : Hid (R = (decide (l[k] = m[k]) && decide (l.drop (k + 1) = m.drop (k + 1)))) := by
          show R = _
          rw [← Hq.out, ← Bool.decide_and]; congr 1; rw [List.drop_eq_getElem_cons hkl, List.drop_eq_getElem_cons hkm, List.cons.injEq]
        obtain ⟨b, off, a1, cap1, a2, cap2, a3, cap3, rfl, hbB, c0, c1, c2, c3, hx⟩ := Hr.out _ hb k hkl
        obtain ⟨b', off', a1', cap1', a2', cap2', a3', cap3', rfl, hbB', e0, e1, e2, e3, hy⟩ := Hr'.out _ hb k hkm
        have Hc : Hid (∀ ww, Below w.heap.size wr ww → Calls Try.prog 23 #[.agg #[.int .i64 l[k].atom.rel, .slice a1 l[k].atom.terms.length cap1, .slice a2 l[k].ex.length cap2, .slice a3 l[k].un.length cap3], .agg #[.int .i64 m[k].atom.rel, .slice a1' m[k].atom.terms.length cap1', .slice a2' m[k].ex.length cap2', .slice a3' m[k].un.length cap3']] ww fun e w' => e = .returned (.bool (decide (l[k] = m[k]))) ∧ Below ww.heap.size ww w') :=
          fun ww hw2 => eqRewritingStep_c (cRst.keep hx (fun k hk => hw2.block k hk) (Nat.le_trans hb.size hw2.size)) (cRst.keep hy (fun k hk => hw2.block k hk) (Nat.le_trans hb.size hw2.size))
        clear hx hy Hq
        generalize l[k] = r at *
        generalize m[k] = r' at *
        generalize decide (r = r') = z at *
        cases z with
        | true =>
          go_wp2_with fail
          go_region_with (go_at_call 23; refine (Hc.out _ ?hww).mono ?_; (case hww => first | exact Below.refl _ _ | exact (Below.refl _ _).drew | exact Below.drewN' (Below.refl _ _) _); rintro e w1 ⟨rfl, hb1⟩)
          all_goals
            go_wp2
            go_roundw
            case rel =>
              have h := Hst.out
              rw [Bool.true_and] at h
              exact ⟨k + 1, by omega, by go_num, h.symm, hb.drew.trans (hb1.mono hb.size)⟩
            case measure => simp [intOf]; omega
        | false =>
          have hR : R = false := by have h := Hst.out; rw [Bool.false_and] at h; exact h
          go_wp2_with fail
          go_region_with (go_at_call 23; refine (Hc.out _ ?hww).mono ?_; (case hww => first | exact Below.refl _ _ | exact (Below.refl _ _).drew | exact Below.drewN' (Below.refl _ _) _); rintro e w1 ⟨rfl, hb1⟩)
          all_goals
            go_wp2
            go_ret
            exact ⟨by rw [hR]; rfl, hb.drew.trans (hb1.mono hb.size)⟩
      · obtain rfl : k = n := by omega
        have hR : R = true := by
          have := Hq.out
          rw [List.drop_eq_nil_of_le (by rw [Hn.out]; exact Nat.le_refl _), List.drop_eq_nil_of_le (by rw [Hm.out]; exact Nat.le_refl _)] at this
          simpa using this.symm
        go_wp2
        go_ret
        exact ⟨by rw [hR]; rfl, hb⟩
  · rw [decide_eq_false (fun e => hne (by rw [e]))]
    have hne2 : (l.length != m.length) = true := by simpa using hne
    go_enter Try.func11, Try.ntmps11
    go_wp2
    go_ret
    exact ⟨rfl, Below.refl _ _⟩
end Go.Proofs.Ytlcogbmceanghaa


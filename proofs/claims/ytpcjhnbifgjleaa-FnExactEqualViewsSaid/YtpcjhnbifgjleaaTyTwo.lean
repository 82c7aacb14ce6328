/- TyTwo: TyC TyD. -/
import Derived.Test.YtpcjhnbifgjleaaTyOne
import Derived.BigQuiet
import Derived.Deep.QuietTactic
import Derived.Deep.RegionWith
/- Slices of structs: the laws' helpers on them (size, copy, equality). -/
namespace Go.Proofs.Ytpcjhnbifgjleaa
open Go.RowKit
set_option linter.unusedVariables false
set_option maxRecDepth 100000

/-- Element j of such a slice. -/
theorem at_Relation {B : Nat} {w : World} {l : List Rel} {a0 : Option Addr} {len cap0 : Nat} (h : (cSlice cRel).ok B w l [.slice a0 len cap0]) (j : Nat) (hj : j < l.length) :
    ∃ b off, a0 = some ⟨b, off, none⟩ ∧ b < B ∧ w.cell? ⟨b, off + j * 3, none⟩ = some (.string l[j].name) ∧ w.cell? ⟨b, off + j * 3 + 1, none⟩ = some (.int .i64 l[j].arity) ∧ w.cell? ⟨b, off + j * 3 + 2, none⟩ = some (.int .i64 l[j].key) ∧ cRel.ok B w l[j] [.string l[j].name, .int .i64 l[j].arity, .int .i64 l[j].key] := by
  obtain ⟨b, off, es, rfl, hb, he, hc⟩ := slice_at h j hj
  obtain ⟨rfl, hx⟩ := cRel_open he
  exact ⟨b, off, rfl, hb, by exact hc 0 (by decide), by exact hc 1 (by decide), by exact hc 2 (by decide), hx⟩
/-- The leaves of such a slice. -/
def sumRelation (l : List Rel) : Nat := (l.map fun x => x.name.size).sum
/-- The size of such a slice: its length and its leaves. -/
def sizeRelationS (l : List Rel) : Nat := l.length + sumRelation l
theorem sumRelation_ge (l : List Rel) (k : Nat) (hk : k < l.length) : (l[k].name.size) ≤ sumRelation l := by
  induction l generalizing k with
  | nil => simp at hk
  | cons x l ih =>
    unfold sumRelation at *
    rw [List.map_cons, List.sum_cons]
    cases k with
    | zero => exact Nat.le_add_right _ _
    | succ k => exact Nat.le_trans (ih k (by simpa using hk)) (Nat.le_add_left _ _)
theorem sumRelation_drop (l : List Rel) (k : Nat) (hk : k < l.length) : sumRelation (l.drop k) = (l[k].name.size) + sumRelation (l.drop (k + 1)) := by
  unfold sumRelation; rw [List.drop_eq_getElem_cons hk, List.map_cons, List.sum_cons]
theorem szRelationS_c {a0 : Option Addr} {cap0 : Nat} {l : List Rel} {left : Int} {w : World} (hl : 0 ≤ left) (hl2 : left ≤ 1048576) (h : At (cSlice cRel) w l [.slice a0 l.length cap0]) :
    Calls Try.prog 24 #[.slice a0 l.length cap0, .int .i64 left] w fun e w' => e = .returned (.int .i64 (szR left (sizeRelationS l))) ∧ Below w.heap.size w w' := by
  have hm := (slice_len h).2
  unfold maxLen at hm
  have hw : wrap64 (left - (l.length : Int)) = left - (l.length : Int) := IntWalk.wrap64_in _ ⟨by omega, by omega⟩
  obtain ⟨n, hn⟩ : ∃ n : Nat, l.length = n := ⟨_, rfl⟩
  have Hn := Lib.hid hn
  have Hr : Hid (∀ w' : World, Below w.heap.size w w' → ∀ j (hj : j < l.length), _) := fun w' hb j hj => at_Relation (Cod.ok_below h hb) j hj
  unfold sizeRelationS
  rw [hn] at hw hm ⊢
  clear h hn
  rw [szR_step left n]
  by_cases h0 : left - (n : Int) < 0
  · rw [if_pos (by unfold szR; rw [if_pos h0]; decide)]
    go_enter Try.func24, Try.ntmps24
    go_wp2
    go_ret
    exact ⟨rfl, Below.refl _ _⟩
  · have hz : szR left n = left - (n : Int) := if_neg h0
    rw [hz, if_neg h0]
    clear hz
    generalize hR : szR (left - (n : Int)) (sumRelation l) = R
    have HR : Hid (szR (left - (n : Int)) (sumRelation (l.drop 0)) = R) := hR
    clear hR
    go_enter Try.func24, Try.ntmps24
    go_wp2
    go_loopw [1, 5] (fun lv iv wr => ∃ (k : Nat) (q : Int), k ≤ n ∧ lv = .int .i64 q ∧ iv = .int .i64 k ∧ 0 ≤ q ∧ q ≤ 1048576 ∧ Hid (szR q (sumRelation (l.drop k)) = R) ∧ Below w.heap.size w wr) (fun _ iv _ => n - (intOf iv).toNat)
    case atStart => exact ⟨0, left - n, by omega, rfl, rfl, by omega, by omega, HR, Below.refl _ _⟩
    case round =>
      clear HR hw
      obtain ⟨k, q, hk, rfl, rfl, hq0, hq1, Hq, hb⟩ := hrel
      by_cases hlt : k < n
      · have hkl : k < l.length := by rw [Hn.out]; exact hlt
        obtain ⟨b, off, rfl, hbB, c0, c1, c2, hx⟩ := Hr.out _ hb k hkl
        have hst : Hid (R = if szR q (l[k].name.size) < 0 then -1 else szR (szR q (l[k].name.size)) (sumRelation (l.drop (k + 1)))) := by
          show R = _
          rw [← szR_step, ← sumRelation_drop l k hkl, Hq.out]
        have Hc : Hid (∀ ww, Below w.heap.size wr ww → Calls Try.prog 45 #[.agg #[.string l[k].name, .int .i64 l[k].arity, .int .i64 l[k].key], .int .i64 q] ww fun e w' => e = .returned (.int .i64 (szR q (l[k].name.size))) ∧ Below ww.heap.size ww w') :=
          fun ww hw2 => szRelation_c hq0 hq1 (cRel.keep hx (fun k hk => hw2.block k hk) (Nat.le_trans hb.size hw2.size))
        have hle := szR_le q (l[k].name.size) hq0
        generalize hz : szR q (l[k].name.size) = z at *
        clear hz hx Hq
        generalize l[k] = r at *
        by_cases hneg : z < 0
        · have hR : R = -1 := by have := hst.out; rw [if_pos hneg] at this; exact this
          go_wp2_with fail
          refine (Hc.out _ (Below.refl _ _)).mono ?_
          rintro e w1 ⟨rfl, hb1⟩
          go_wp2
          go_ret
          exact ⟨by rw [hR]; rfl, hb.trans (hb1.mono hb.size)⟩
        · go_wp2_with fail
          refine (Hc.out _ (Below.refl _ _)).mono ?_
          rintro e w1 ⟨rfl, hb1⟩
          go_wp2
          go_roundw
          case rel =>
            have := hst.out
            rw [if_neg (by omega)] at this
            exact ⟨k + 1, z, by omega, rfl, by go_num, by omega, by omega, this.symm, hb.trans (hb1.mono hb.size)⟩
          case measure => simp [intOf]; omega
      · obtain rfl : k = n := by omega
        have hd : l.drop k = [] := List.drop_eq_nil_of_le (by rw [Hn.out]; exact Nat.le_refl _)
        have hq : q = R := by have := Hq.out; rw [hd] at this; rw [← this]; unfold szR; simp [sumRelation]; omega
        clear hd Hq
        go_wp2
        go_ret
        exact ⟨by rw [hq]; rfl, hb⟩
theorem zRelation_at (A : List Value) (k n : Nat) (h : A.length = k * 3) (hk : k < n) : (A ++ (List.replicate (n - k) ([.string ByteArray.empty, .int .i64 0, .int .i64 0] : List Value)).flatten)[k * 3]? = some (.string ByteArray.empty) ∧ (A ++ (List.replicate (n - k) ([.string ByteArray.empty, .int .i64 0, .int .i64 0] : List Value)).flatten)[k * 3 + 1]? = some (.int .i64 0) ∧ (A ++ (List.replicate (n - k) ([.string ByteArray.empty, .int .i64 0, .int .i64 0] : List Value)).flatten)[k * 3 + 2]? = some (.int .i64 0) := by
  have e1 : n - k = (n - (k + 1)) + 1 := by omega
  rw [e1, List.replicate_succ, List.flatten_cons]
  refine ⟨?_, ?_, ?_⟩
  · rw [List.getElem?_append_right (by omega)]; simp [h]
  · rw [List.getElem?_append_right (by omega)]; simp [h]
  · rw [List.getElem?_append_right (by omega)]; simp [h]
theorem zRelation_step (A : List Value) (k n : Nat) (h : A.length = k * 3) (hk : k < n) (v0 v1 v2 : Value) : (((A ++ (List.replicate (n - k) ([.string ByteArray.empty, .int .i64 0, .int .i64 0] : List Value)).flatten).set (k * 3) v0).set (k * 3 + 1) v1).set (k * 3 + 2) v2 = (A ++ [v0, v1, v2]) ++ (List.replicate (n - (k + 1)) ([.string ByteArray.empty, .int .i64 0, .int .i64 0] : List Value)).flatten := by
  have e1 : n - k = (n - (k + 1)) + 1 := by omega
  rw [e1, List.replicate_succ, List.flatten_cons]
  rw [List.set_append_right _ _ (by omega), List.set_append_right _ _ (by omega), List.set_append_right _ _ (by omega)]
  simp [h]
theorem zRelation_made (n : Nat) : (madeCells #[.string ByteArray.empty, .int .i64 0, .int .i64 0] (n * 3)).toList = (List.replicate n [.string ByteArray.empty, .int .i64 0, .int .i64 0]).flatten := by
  induction n with
  | zero => simp [madeCells]
  | succ n ih =>
    rw [List.replicate_succ', List.flatten_append, ← ih]
    unfold madeCells
    simp [Array.range_succ, Array.toList_range, Nat.add_mod, Nat.mul_mod_left, Nat.succ_mul]
theorem Try.infoRelation : (Try.prog.info? 60).map (fun i => (i.zero, i.size, i.bytes)) = some (some (.agg #[.string ByteArray.empty, .int .i64 0, .int .i64 0]), 3, 32) := by kernel_rfl
set_option maxHeartbeats 1600000 in
theorem toRelationS_c {a0 : Option Addr} {cap0 : Nat} {l : List Rel} {w : World} (hS : sizeRelationS l ≤ 1048576) (h : At (cSlice cRel) w l [.slice a0 l.length cap0]) :
    Calls Try.prog 30 #[.slice a0 l.length cap0] w fun e w' => (∃ a' cap', e = .returned (.slice a' l.length cap') ∧ Own (cSlice cRel) w.heap.size w' l [.slice a' l.length cap']) ∧ Below w.heap.size w w' := by
  have hs : l.length ≤ 1048576 := Nat.le_trans (Nat.le_add_right _ _) hS
  have hs2 : ∀ j (hj : j < l.length), (l[j].name.size) ≤ 1048576 := fun j hj => Nat.le_trans (sumRelation_ge l j hj) (Nat.le_trans (Nat.le_add_left _ _) hS)
  clear hS
  obtain ⟨n, hn⟩ : ∃ n : Nat, l.length = n := ⟨_, rfl⟩
  have Hn := Lib.hid hn
  have Hr : Hid (∀ w' : World, Below w.heap.size w w' → ∀ j (hj : j < l.length), _) := fun w' hb j hj => at_Relation (Cod.ok_below h hb) j hj
  rw [hn] at hs ⊢
  clear hn h
  obtain ⟨i0, hi, hz0, hz1, hz2⟩ := info_parts Try.infoRelation
  go_enter Try.func30, Try.ntmps30
  go_wp2_with (at_make; refine wpList_make_full _ rfl (.tmp 6) (.tmp 6) 35 rfl w.heap.size 60 i0 (.agg #[.string ByteArray.empty, .int .i64 0, .int .i64 0]) 3 Try.underlying35 hi hz0 hz1 .i64 .i64 n n n rfl rfl rfl rfl ?c1 ?c2 (Nat.le_refl _) ?_)
  case c1 => rw [hz2]; omega
  case c2 => unfold maxLen; omega
  intro w1 hown hg1
  rw [show (madeCells #[.string ByteArray.empty, .int .i64 0, .int .i64 0] (n * 3)).toList = [].flatten ++ (List.replicate (n - 0) [.string ByteArray.empty, .int .i64 0, .int .i64 0]).flatten by rw [zRelation_made]; simp] at hown
  have hb0 : Below w.heap.size w w1 := (Below.refl _ _).grown hg1 (Nat.le_refl _) (fun k hk => by cases hk)
  clear hg1 hi hz0 hz1 hz2
  go_wp2
  go_loopw [4] (fun iv wr => ∃ (k : Nat) (F : List Nat) (css : List (List Value)), k ≤ n ∧ iv = .int .i64 k ∧ ownL cRel F wr (l.take k) css ∧ (∀ x, x ∈ F → w.heap.size < x ∧ x < wr.heap.size) ∧ wr.ownsRow w.heap.size 60 3 (.slice (some ⟨w.heap.size, 0, none⟩) n n) n (css.flatten ++ (List.replicate (n - k) [.string ByteArray.empty, .int .i64 0, .int .i64 0]).flatten) ∧ Below w.heap.size w wr) (fun iv _ => n - (intOf iv).toNat)
  case atStart => exact ⟨0, [], [], by omega, by go_num, ownL_nil _, by simp, hown, hb0⟩
  case round =>
    clear hown hb0
    obtain ⟨k, F, css, hk, rfl, hL, hF, hown, hb⟩ := hrel
    by_cases hlt : k < n
    · have hkl : k < l.length := by rw [Hn.out]; exact hlt
      obtain ⟨b, off, rfl, hbB, c0, c1, c2, hx⟩ := Hr.out _ hb k hkl
      have Hc : Hid (∀ ww, Below w.heap.size wr ww → Calls Try.prog 48 #[.agg #[.string l[k].name, .int .i64 l[k].arity, .int .i64 l[k].key]] ww fun e w' => (e = .returned (.agg #[.string l[k].name, .int .i64 l[k].arity, .int .i64 l[k].key]) ∧ Own cRel ww.heap.size w' l[k] [.string l[k].name, .int .i64 l[k].arity, .int .i64 l[k].key]) ∧ Below ww.heap.size ww w') :=
        fun ww hw2 => toRelation_c (hs2 k hkl) (cRel.keep hx (fun k hk => hw2.block k hk) (Nat.le_trans hb.size hw2.size))
      have hlen : css.flatten.length = k * 3 := by
        have := (ownL_len hL).2
        rw [List.length_take, Nat.min_eq_left (by omega)] at this
        exact this
      have Hat := Lib.hid (zRelation_at css.flatten k n hlen hlt)
      have Hstep := Lib.hid (zRelation_step css.flatten k n hlen hlt)
      have Htake : Hid (l.take (k + 1) = l.take k ++ [l[k]]) := List.take_succ_eq_append_getElem hkl
      have HL := Lib.hid hL
      have HF := Lib.hid hF
      have Hown := Lib.hid hown
      clear hx hL hF hlen hown
      generalize l[k] = r at *
      go_wp2_with fail
      refine (Hc.out _ (Below.refl _ _)).mono ?_
      rintro e w2 ⟨⟨rfl, ho⟩, hb2⟩
      have hown2 := ownsRow_below Hown.out hb2
      have Hown2 := Lib.hid hown2
      have hgw : w.heap.size < wr.heap.size := (Hown.out.lt _ rfl).2
      have f0 := hown2.frozenAt (k * 3)
      have d0 := (hown2.cellAt (k * 3) (by omega)).trans Hat.out.1
      have f1 := hown2.frozenAt (k * 3 + 1)
      have d1 := (hown2.cellAt (k * 3 + 1) (by omega)).trans Hat.out.2.1
      have f2 := hown2.frozenAt (k * 3 + 2)
      have d2 := (hown2.cellAt (k * 3 + 2) (by omega)).trans Hat.out.2.2
      have Ho := Lib.hid ho
      have hbw : Below w.heap.size w w2 := hb.trans (hb2.mono hb.size)
      clear ho hown2
      go_wp2
      go_roundw
      case rel =>
        obtain ⟨G, hG1, hG2⟩ := Ho.out
        have hown2 := Hown2.out
        have s0 := (hown2.stored (k * 3) (.string r.name)).1
        have s1 := (s0.stored (k * 3 + 1) (.int .i64 r.arity)).1
        have s2 := (s1.stored (k * 3 + 2) (.int .i64 r.key)).1
        rw [Hstep.out] at s2
        have hkeep : ∀ kk, kk ≠ w.heap.size → (((w2.setCell ⟨w.heap.size, k * 3, none⟩ (.string r.name)).setCell ⟨w.heap.size, k * 3 + 1, none⟩ (.int .i64 r.arity)).setCell ⟨w.heap.size, k * 3 + 2, none⟩ (.int .i64 r.key)).heap[kk]? = w2.heap[kk]? := fun kk hne => (heap_setCell_other _ ⟨w.heap.size, k * 3 + 2, none⟩ _ _ hne).trans ((heap_setCell_other _ ⟨w.heap.size, k * 3 + 1, none⟩ _ _ hne).trans ((heap_setCell_other _ ⟨w.heap.size, k * 3, none⟩ _ _ hne).trans (rfl)))
        refine ⟨k + 1, F ++ G, css ++ [[.string r.name, .int .i64 r.arity, .int .i64 r.key]], by omega, by go_num, ?_, ?_, ?_, (((hbw).setCell (Nat.le_refl _) _).setCell (Nat.le_refl _) _).setCell (Nat.le_refl _) _⟩
        · rw [Htake.out]
          refine ownL_snoc (cRel.keepO hG1 (fun kk hkk => hkeep kk (by have := (hG2 kk hkk).1; omega))) (ownL_keep (ownL_below HL.out hb2 (fun kk hkk => (HF.out kk hkk).2)) (fun kk hkk => hkeep kk (by have := (HF.out kk hkk).1; omega))) ?_
          intro kk hkk hg
          have := (HF.out kk hkk).2
          have := (hG2 kk hg).1
          omega
        · intro x hx
          simp only [World.setCell, Array.size_modify]
          rcases List.mem_append.1 hx with hx | hx
          · have := HF.out x hx; have := hb2.size; omega
          · have := hG2 x hx; omega
        · simpa using s2
      case measure => simp [intOf]; omega
    · obtain rfl : k = n := by omega
      have hlk : l.take k = l := List.take_of_length_le (by rw [Hn.out]; exact Nat.le_refl _)
      rw [hlk] at hL
      rw [Nat.sub_self, List.replicate_zero, List.flatten_nil, List.append_nil] at hown
      clear hlk
      go_wp2
      go_ret
      refine ⟨⟨_, _, rfl, ?_⟩, hb⟩
      have hlen : l.length = k := Hn.out
      subst hlen
      exact Own.slice (c := cRel) hL hown (fun x hx => by have := hF x hx; omega) (by unfold maxLen; omega)
set_option maxHeartbeats 1600000 in
theorem eqRelationS_c {a0 a0' : Option Addr} {cap0 cap0' : Nat} {l m : List Rel} {w : World} (h : At (cSlice cRel) w l [.slice a0 l.length cap0]) (h' : At (cSlice cRel) w m [.slice a0' m.length cap0']) :
    Calls Try.prog 41 #[.slice a0 l.length cap0, .slice a0' m.length cap0'] w fun e w' => e = .returned (.bool (decide (l = m))) ∧ Below w.heap.size w w' := by
  have hm := (slice_len h).2
  have hm' := (slice_len h').2
  unfold maxLen at hm hm'
  by_cases hne : l.length = m.length
  · obtain ⟨n, hn⟩ : ∃ n : Nat, l.length = n := ⟨_, rfl⟩
    have Hr : Hid (∀ w' : World, Below w.heap.size w w' → ∀ j (hj : j < l.length), _) := fun w' hb j hj => at_Relation (Cod.ok_below h hb) j hj
    have Hr' : Hid (∀ w' : World, Below w.heap.size w w' → ∀ j (hj : j < m.length), _) := fun w' hb j hj => at_Relation (Cod.ok_below h' hb) j hj
    clear h h'
    rw [← hne, hn]
    have Hn := Lib.hid hn
    have Hm : Hid (m.length = n) := by rw [← hne]; exact hn
    have hm2 : n ≤ 2 ^ 63 - 1 := by omega
    generalize hR : decide (l = m) = R
    have HR : Hid (decide (l.drop 0 = m.drop 0) = R) := hR
    clear hR hne hn hm hm'
    go_enter Try.func41, Try.ntmps41
    go_wp2
    go_loopw [5] (fun iv wr => ∃ k : Nat, k ≤ n ∧ iv = .int .i64 k ∧ Hid (decide (l.drop k = m.drop k) = R) ∧ Below w.heap.size w wr) (fun iv _ => n - (intOf iv).toNat)
    case atStart => exact ⟨0, by omega, by go_num, HR, Below.refl _ _⟩
    case round =>
      clear HR
      obtain ⟨k, hk, rfl, Hq, hb⟩ := hrel
      by_cases hlt : k < n
      · have hkl : k < l.length := by rw [Hn.out]; exact hlt
        have hkm : k < m.length := by rw [Hm.out]; exact hlt
        have Hst : Hid (R = (decide (l[k] = m[k]) && decide (l.drop (k + 1) = m.drop (k + 1)))) := by
          show R = _
          rw [← Hq.out, ← Bool.decide_and]; congr 1; rw [List.drop_eq_getElem_cons hkl, List.drop_eq_getElem_cons hkm, List.cons.injEq]
        obtain ⟨b, off, rfl, hbB, c0, c1, c2, hx⟩ := Hr.out _ hb k hkl
        obtain ⟨b', off', rfl, hbB', e0, e1, e2, hy⟩ := Hr'.out _ hb k hkm
        have Hc : Hid (∀ ww, Below w.heap.size wr ww → Calls Try.prog 52 #[.agg #[.string l[k].name, .int .i64 l[k].arity, .int .i64 l[k].key], .agg #[.string m[k].name, .int .i64 m[k].arity, .int .i64 m[k].key]] ww fun e w' => e = .returned (.bool (decide (l[k] = m[k]))) ∧ Below ww.heap.size ww w') :=
          fun ww hw2 => eqRelation_c (cRel.keep hx (fun k hk => hw2.block k hk) (Nat.le_trans hb.size hw2.size)) (cRel.keep hy (fun k hk => hw2.block k hk) (Nat.le_trans hb.size hw2.size))
        clear hx hy Hq
        generalize l[k] = r at *
        generalize m[k] = r' at *
        generalize decide (r = r') = z at *
        cases z with
        | true =>
          go_wp2_with fail
          go_region_with (go_at_call 52; refine (Hc.out _ ?hww).mono ?_; (case hww => first | exact Below.refl _ _ | exact (Below.refl _ _).drew | exact Below.drewN' (Below.refl _ _) _); rintro e w1 ⟨rfl, hb1⟩)
          all_goals
            go_wp2
            go_roundw
            case rel =>
              have h := Hst.out
              rw [Bool.true_and] at h
              exact ⟨k + 1, by omega, by go_num, h.symm, hb.drew.trans (hb1.mono hb.size)⟩
            case measure => simp [intOf]; omega
        | false =>
          have hR : R = false := by have h := Hst.out; rw [Bool.false_and] at h; exact h
          go_wp2_with fail
          go_region_with (go_at_call 52; refine (Hc.out _ ?hww).mono ?_; (case hww => first | exact Below.refl _ _ | exact (Below.refl _ _).drew | exact Below.drewN' (Below.refl _ _) _); rintro e w1 ⟨rfl, hb1⟩)
          all_goals
            go_wp2
            go_ret
            exact ⟨by rw [hR]; rfl, hb.drew.trans (hb1.mono hb.size)⟩
      · obtain rfl : k = n := by omega
        have hR : R = true := by
          have := Hq.out
          rw [List.drop_eq_nil_of_le (by rw [Hn.out]; exact Nat.le_refl _), List.drop_eq_nil_of_le (by rw [Hm.out]; exact Nat.le_refl _)] at this
          simpa using this.symm
        go_wp2
        go_ret
        exact ⟨by rw [hR]; rfl, hb⟩
  · rw [decide_eq_false (fun e => hne (by rw [e]))]
    have hne2 : (l.length != m.length) = true := by simpa using hne
    go_enter Try.func41, Try.ntmps41
    go_wp2
    go_ret
    exact ⟨rfl, Below.refl _ _⟩
/-- Element j of such a slice. -/
theorem at_Fact {B : Nat} {w : World} {l : List Fct} {a0 : Option Addr} {len cap0 : Nat} (h : (cSlice cFct).ok B w l [.slice a0 len cap0]) (j : Nat) (hj : j < l.length) :
    ∃ b off a1 cap1, a0 = some ⟨b, off, none⟩ ∧ b < B ∧ w.cell? ⟨b, off + j * 2, none⟩ = some (.int .i64 l[j].rel) ∧ w.cell? ⟨b, off + j * 2 + 1, none⟩ = some (.slice a1 l[j].vals.length cap1) ∧ cFct.ok B w l[j] [.int .i64 l[j].rel, .slice a1 l[j].vals.length cap1] := by
  obtain ⟨b, off, es, rfl, hb, he, hc⟩ := slice_at h j hj
  obtain ⟨a1, cap1, rfl, hx⟩ := cFct_open he
  exact ⟨b, off, a1, cap1, rfl, hb, by exact hc 0 (by decide), by exact hc 1 (by decide), hx⟩
/-- The leaves of such a slice. -/
def sumFact (l : List Fct) : Nat := (l.map fun x => x.vals.length).sum
/-- The size of such a slice: its length and its leaves. -/
def sizeFactS (l : List Fct) : Nat := l.length + sumFact l
theorem sumFact_ge (l : List Fct) (k : Nat) (hk : k < l.length) : (l[k].vals.length) ≤ sumFact l := by
  induction l generalizing k with
  | nil => simp at hk
  | cons x l ih =>
    unfold sumFact at *
    rw [List.map_cons, List.sum_cons]
    cases k with
    | zero => exact Nat.le_add_right _ _
    | succ k => exact Nat.le_trans (ih k (by simpa using hk)) (Nat.le_add_left _ _)
theorem sumFact_drop (l : List Fct) (k : Nat) (hk : k < l.length) : sumFact (l.drop k) = (l[k].vals.length) + sumFact (l.drop (k + 1)) := by
  unfold sumFact; rw [List.drop_eq_getElem_cons hk, List.map_cons, List.sum_cons]
theorem szFactS_c {a0 : Option Addr} {cap0 : Nat} {l : List Fct} {left : Int} {w : World} (hl : 0 ≤ left) (hl2 : left ≤ 1048576) (h : At (cSlice cFct) w l [.slice a0 l.length cap0]) :
    Calls Try.prog 25 #[.slice a0 l.length cap0, .int .i64 left] w fun e w' => e = .returned (.int .i64 (szR left (sizeFactS l))) ∧ Below w.heap.size w w' := by
  have hm := (slice_len h).2
  unfold maxLen at hm
  have hw : wrap64 (left - (l.length : Int)) = left - (l.length : Int) := IntWalk.wrap64_in _ ⟨by omega, by omega⟩
  obtain ⟨n, hn⟩ : ∃ n : Nat, l.length = n := ⟨_, rfl⟩
  have Hn := Lib.hid hn
  have Hr : Hid (∀ w' : World, Below w.heap.size w w' → ∀ j (hj : j < l.length), _) := fun w' hb j hj => at_Fact (Cod.ok_below h hb) j hj
  unfold sizeFactS
  rw [hn] at hw hm ⊢
  clear h hn
  rw [szR_step left n]
  by_cases h0 : left - (n : Int) < 0
  · rw [if_pos (by unfold szR; rw [if_pos h0]; decide)]
    go_enter Try.func25, Try.ntmps25
    go_wp2
    go_ret
    exact ⟨rfl, Below.refl _ _⟩
  · have hz : szR left n = left - (n : Int) := if_neg h0
    rw [hz, if_neg h0]
    clear hz
    generalize hR : szR (left - (n : Int)) (sumFact l) = R
    have HR : Hid (szR (left - (n : Int)) (sumFact (l.drop 0)) = R) := hR
    clear hR
    go_enter Try.func25, Try.ntmps25
    go_wp2
    go_loopw [1, 5] (fun lv iv wr => ∃ (k : Nat) (q : Int), k ≤ n ∧ lv = .int .i64 q ∧ iv = .int .i64 k ∧ 0 ≤ q ∧ q ≤ 1048576 ∧ Hid (szR q (sumFact (l.drop k)) = R) ∧ Below w.heap.size w wr) (fun _ iv _ => n - (intOf iv).toNat)
    case atStart => exact ⟨0, left - n, by omega, rfl, rfl, by omega, by omega, HR, Below.refl _ _⟩
    case round =>
      clear HR hw
      obtain ⟨k, q, hk, rfl, rfl, hq0, hq1, Hq, hb⟩ := hrel
      by_cases hlt : k < n
      · have hkl : k < l.length := by rw [Hn.out]; exact hlt
        obtain ⟨b, off, a1, cap1, rfl, hbB, c0, c1, hx⟩ := Hr.out _ hb k hkl
        have hst : Hid (R = if szR q (l[k].vals.length) < 0 then -1 else szR (szR q (l[k].vals.length)) (sumFact (l.drop (k + 1)))) := by
          show R = _
          rw [← szR_step, ← sumFact_drop l k hkl, Hq.out]
        have Hc : Hid (∀ ww, Below w.heap.size wr ww → Calls Try.prog 46 #[.agg #[.int .i64 l[k].rel, .slice a1 l[k].vals.length cap1], .int .i64 q] ww fun e w' => e = .returned (.int .i64 (szR q (l[k].vals.length))) ∧ Below ww.heap.size ww w') :=
          fun ww hw2 => szFact_c hq0 hq1 (cFct.keep hx (fun k hk => hw2.block k hk) (Nat.le_trans hb.size hw2.size))
        have hle := szR_le q (l[k].vals.length) hq0
        generalize hz : szR q (l[k].vals.length) = z at *
        clear hz hx Hq
        generalize l[k] = r at *
        by_cases hneg : z < 0
        · have hR : R = -1 := by have := hst.out; rw [if_pos hneg] at this; exact this
          go_wp2_with fail
          refine (Hc.out _ (Below.refl _ _)).mono ?_
          rintro e w1 ⟨rfl, hb1⟩
          go_wp2
          go_ret
          exact ⟨by rw [hR]; rfl, hb.trans (hb1.mono hb.size)⟩
        · go_wp2_with fail
          refine (Hc.out _ (Below.refl _ _)).mono ?_
          rintro e w1 ⟨rfl, hb1⟩
          go_wp2
          go_roundw
          case rel =>
            have := hst.out
            rw [if_neg (by omega)] at this
            exact ⟨k + 1, z, by omega, rfl, by go_num, by omega, by omega, this.symm, hb.trans (hb1.mono hb.size)⟩
          case measure => simp [intOf]; omega
      · obtain rfl : k = n := by omega
        have hd : l.drop k = [] := List.drop_eq_nil_of_le (by rw [Hn.out]; exact Nat.le_refl _)
        have hq : q = R := by have := Hq.out; rw [hd] at this; rw [← this]; unfold szR; simp [sumFact]; omega
        clear hd Hq
        go_wp2
        go_ret
        exact ⟨by rw [hq]; rfl, hb⟩
theorem zFact_at (A : List Value) (k n : Nat) (h : A.length = k * 2) (hk : k < n) : (A ++ (List.replicate (n - k) ([.int .i64 0, .slice none 0 0] : List Value)).flatten)[k * 2]? = some (.int .i64 0) ∧ (A ++ (List.replicate (n - k) ([.int .i64 0, .slice none 0 0] : List Value)).flatten)[k * 2 + 1]? = some (.slice none 0 0) := by
  have e1 : n - k = (n - (k + 1)) + 1 := by omega
  rw [e1, List.replicate_succ, List.flatten_cons]
  refine ⟨?_, ?_⟩
  · rw [List.getElem?_append_right (by omega)]; simp [h]
  · rw [List.getElem?_append_right (by omega)]; simp [h]
theorem zFact_step (A : List Value) (k n : Nat) (h : A.length = k * 2) (hk : k < n) (v0 v1 : Value) : ((A ++ (List.replicate (n - k) ([.int .i64 0, .slice none 0 0] : List Value)).flatten).set (k * 2) v0).set (k * 2 + 1) v1 = (A ++ [v0, v1]) ++ (List.replicate (n - (k + 1)) ([.int .i64 0, .slice none 0 0] : List Value)).flatten := by
  have e1 : n - k = (n - (k + 1)) + 1 := by omega
  rw [e1, List.replicate_succ, List.flatten_cons]
  rw [List.set_append_right _ _ (by omega), List.set_append_right _ _ (by omega)]
  simp [h]
theorem zFact_made (n : Nat) : (madeCells #[.int .i64 0, .slice none 0 0] (n * 2)).toList = (List.replicate n [.int .i64 0, .slice none 0 0]).flatten := by
  induction n with
  | zero => simp [madeCells]
  | succ n ih =>
    rw [List.replicate_succ', List.flatten_append, ← ih]
    unfold madeCells
    simp [Array.range_succ, Array.toList_range, Nat.add_mod, Nat.mul_mod_left, Nat.succ_mul]
theorem Try.infoFact : (Try.prog.info? 63).map (fun i => (i.zero, i.size, i.bytes)) = some (some (.agg #[.int .i64 0, .slice none 0 0]), 2, 32) := by kernel_rfl
set_option maxHeartbeats 1600000 in
theorem toFactS_c {a0 : Option Addr} {cap0 : Nat} {l : List Fct} {w : World} (hS : sizeFactS l ≤ 1048576) (h : At (cSlice cFct) w l [.slice a0 l.length cap0]) :
    Calls Try.prog 31 #[.slice a0 l.length cap0] w fun e w' => (∃ a' cap', e = .returned (.slice a' l.length cap') ∧ Own (cSlice cFct) w.heap.size w' l [.slice a' l.length cap']) ∧ Below w.heap.size w w' := by
  have hs : l.length ≤ 1048576 := Nat.le_trans (Nat.le_add_right _ _) hS
  have hs2 : ∀ j (hj : j < l.length), (l[j].vals.length) ≤ 1048576 := fun j hj => Nat.le_trans (sumFact_ge l j hj) (Nat.le_trans (Nat.le_add_left _ _) hS)
  clear hS
  obtain ⟨n, hn⟩ : ∃ n : Nat, l.length = n := ⟨_, rfl⟩
  have Hn := Lib.hid hn
  have Hr : Hid (∀ w' : World, Below w.heap.size w w' → ∀ j (hj : j < l.length), _) := fun w' hb j hj => at_Fact (Cod.ok_below h hb) j hj
  rw [hn] at hs ⊢
  clear hn h
  obtain ⟨i0, hi, hz0, hz1, hz2⟩ := info_parts Try.infoFact
  go_enter Try.func31, Try.ntmps31
  go_wp2_with (at_make; refine wpList_make_full _ rfl (.tmp 6) (.tmp 6) 36 rfl w.heap.size 63 i0 (.agg #[.int .i64 0, .slice none 0 0]) 2 Try.underlying36 hi hz0 hz1 .i64 .i64 n n n rfl rfl rfl rfl ?c1 ?c2 (Nat.le_refl _) ?_)
  case c1 => rw [hz2]; omega
  case c2 => unfold maxLen; omega
  intro w1 hown hg1
  rw [show (madeCells #[.int .i64 0, .slice none 0 0] (n * 2)).toList = [].flatten ++ (List.replicate (n - 0) [.int .i64 0, .slice none 0 0]).flatten by rw [zFact_made]; simp] at hown
  have hb0 : Below w.heap.size w w1 := (Below.refl _ _).grown hg1 (Nat.le_refl _) (fun k hk => by cases hk)
  clear hg1 hi hz0 hz1 hz2
  go_wp2
  go_loopw [4] (fun iv wr => ∃ (k : Nat) (F : List Nat) (css : List (List Value)), k ≤ n ∧ iv = .int .i64 k ∧ ownL cFct F wr (l.take k) css ∧ (∀ x, x ∈ F → w.heap.size < x ∧ x < wr.heap.size) ∧ wr.ownsRow w.heap.size 63 2 (.slice (some ⟨w.heap.size, 0, none⟩) n n) n (css.flatten ++ (List.replicate (n - k) [.int .i64 0, .slice none 0 0]).flatten) ∧ Below w.heap.size w wr) (fun iv _ => n - (intOf iv).toNat)
  case atStart => exact ⟨0, [], [], by omega, by go_num, ownL_nil _, by simp, hown, hb0⟩
  case round =>
    clear hown hb0
    obtain ⟨k, F, css, hk, rfl, hL, hF, hown, hb⟩ := hrel
    by_cases hlt : k < n
    · have hkl : k < l.length := by rw [Hn.out]; exact hlt
      obtain ⟨b, off, a1, cap1, rfl, hbB, c0, c1, hx⟩ := Hr.out _ hb k hkl
      have Hc : Hid (∀ ww, Below w.heap.size wr ww → Calls Try.prog 49 #[.agg #[.int .i64 l[k].rel, .slice a1 l[k].vals.length cap1]] ww fun e w' => (∃ a1' cap1', e = .returned (.agg #[.int .i64 l[k].rel, .slice a1' l[k].vals.length cap1']) ∧ Own cFct ww.heap.size w' l[k] [.int .i64 l[k].rel, .slice a1' l[k].vals.length cap1']) ∧ Below ww.heap.size ww w') :=
        fun ww hw2 => toFact_c (hs2 k hkl) (cFct.keep hx (fun k hk => hw2.block k hk) (Nat.le_trans hb.size hw2.size))
      have hlen : css.flatten.length = k * 2 := by
        have := (ownL_len hL).2
        rw [List.length_take, Nat.min_eq_left (by omega)] at this
        exact this
      have Hat := Lib.hid (zFact_at css.flatten k n hlen hlt)
      have Hstep := Lib.hid (zFact_step css.flatten k n hlen hlt)
      have Htake : Hid (l.take (k + 1) = l.take k ++ [l[k]]) := List.take_succ_eq_append_getElem hkl
      have HL := Lib.hid hL
      have HF := Lib.hid hF
      have Hown := Lib.hid hown
      clear hx hL hF hlen hown
      generalize l[k] = r at *
      go_wp2_with fail
      refine (Hc.out _ (Below.refl _ _)).mono ?_
      rintro e w2 ⟨⟨a1', cap1', rfl, ho⟩, hb2⟩
      have hown2 := ownsRow_below Hown.out hb2
      have Hown2 := Lib.hid hown2
      have hgw : w.heap.size < wr.heap.size := (Hown.out.lt _ rfl).2
      have f0 := hown2.frozenAt (k * 2)
      have d0 := (hown2.cellAt (k * 2) (by omega)).trans Hat.out.1
      have f1 := hown2.frozenAt (k * 2 + 1)
      have d1 := (hown2.cellAt (k * 2 + 1) (by omega)).trans Hat.out.2
      have Ho := Lib.hid ho
      have hbw : Below w.heap.size w w2 := hb.trans (hb2.mono hb.size)
      clear ho hown2
      go_wp2
      go_roundw
      case rel =>
        obtain ⟨G, hG1, hG2⟩ := Ho.out
        have hown2 := Hown2.out
        have s0 := (hown2.stored (k * 2) (.int .i64 r.rel)).1
        have s1 := (s0.stored (k * 2 + 1) (.slice a1' r.vals.length cap1')).1
        rw [Hstep.out] at s1
        have hkeep : ∀ kk, kk ≠ w.heap.size → ((w2.setCell ⟨w.heap.size, k * 2, none⟩ (.int .i64 r.rel)).setCell ⟨w.heap.size, k * 2 + 1, none⟩ (.slice a1' r.vals.length cap1')).heap[kk]? = w2.heap[kk]? := fun kk hne => (heap_setCell_other _ ⟨w.heap.size, k * 2 + 1, none⟩ _ _ hne).trans ((heap_setCell_other _ ⟨w.heap.size, k * 2, none⟩ _ _ hne).trans (rfl))
        refine ⟨k + 1, F ++ G, css ++ [[.int .i64 r.rel, .slice a1' r.vals.length cap1']], by omega, by go_num, ?_, ?_, ?_, ((hbw).setCell (Nat.le_refl _) _).setCell (Nat.le_refl _) _⟩
        · rw [Htake.out]
          refine ownL_snoc (cFct.keepO hG1 (fun kk hkk => hkeep kk (by have := (hG2 kk hkk).1; omega))) (ownL_keep (ownL_below HL.out hb2 (fun kk hkk => (HF.out kk hkk).2)) (fun kk hkk => hkeep kk (by have := (HF.out kk hkk).1; omega))) ?_
          intro kk hkk hg
          have := (HF.out kk hkk).2
          have := (hG2 kk hg).1
          omega
        · intro x hx
          simp only [World.setCell, Array.size_modify]
          rcases List.mem_append.1 hx with hx | hx
          · have := HF.out x hx; have := hb2.size; omega
          · have := hG2 x hx; omega
        · simpa using s1
      case measure => simp [intOf]; omega
    · obtain rfl : k = n := by omega
      have hlk : l.take k = l := List.take_of_length_le (by rw [Hn.out]; exact Nat.le_refl _)
      rw [hlk] at hL
      rw [Nat.sub_self, List.replicate_zero, List.flatten_nil, List.append_nil] at hown
      clear hlk
      go_wp2
      go_ret
      refine ⟨⟨_, _, rfl, ?_⟩, hb⟩
      have hlen : l.length = k := Hn.out
      subst hlen
      exact Own.slice (c := cFct) hL hown (fun x hx => by have := hF x hx; omega) (by unfold maxLen; omega)
set_option maxHeartbeats 1600000 in
theorem eqFactS_c {a0 a0' : Option Addr} {cap0 cap0' : Nat} {l m : List Fct} {w : World} (h : At (cSlice cFct) w l [.slice a0 l.length cap0]) (h' : At (cSlice cFct) w m [.slice a0' m.length cap0']) :
    Calls Try.prog 42 #[.slice a0 l.length cap0, .slice a0' m.length cap0'] w fun e w' => e = .returned (.bool (decide (l = m))) ∧ Below w.heap.size w w' := by
  have hm := (slice_len h).2
  have hm' := (slice_len h').2
  unfold maxLen at hm hm'
  by_cases hne : l.length = m.length
  · obtain ⟨n, hn⟩ : ∃ n : Nat, l.length = n := ⟨_, rfl⟩
    have Hr : Hid (∀ w' : World, Below w.heap.size w w' → ∀ j (hj : j < l.length), _) := fun w' hb j hj => at_Fact (Cod.ok_below h hb) j hj
    have Hr' : Hid (∀ w' : World, Below w.heap.size w w' → ∀ j (hj : j < m.length), _) := fun w' hb j hj => at_Fact (Cod.ok_below h' hb) j hj
    clear h h'
    rw [← hne, hn]
    have Hn := Lib.hid hn
    have Hm : Hid (m.length = n) := by rw [← hne]; exact hn
    have hm2 : n ≤ 2 ^ 63 - 1 := by omega
    generalize hR : decide (l = m) = R
    have HR : Hid (decide (l.drop 0 = m.drop 0) = R) := hR
    clear hR hne hn hm hm'
    go_enter Try.func42, Try.ntmps42
    go_wp2
    go_loopw [5] (fun iv wr => ∃ k : Nat, k ≤ n ∧ iv = .int .i64 k ∧ Hid (decide (l.drop k = m.drop k) = R) ∧ Below w.heap.size w wr) (fun iv _ => n - (intOf iv).toNat)
    case atStart => exact ⟨0, by omega, by go_num, HR, Below.refl _ _⟩
    case round =>
      clear HR
      obtain ⟨k, hk, rfl, Hq, hb⟩ := hrel
      by_cases hlt : k < n
      · have hkl : k < l.length := by rw [Hn.out]; exact hlt
        have hkm : k < m.length := by rw [Hm.out]; exact hlt
        have Hst : Hid (R = (decide (l[k] = m[k]) && decide (l.drop (k + 1) = m.drop (k + 1)))) := by
          show R = _
          rw [← Hq.out, ← Bool.decide_and]; congr 1; rw [List.drop_eq_getElem_cons hkl, List.drop_eq_getElem_cons hkm, List.cons.injEq]
        obtain ⟨b, off, a1, cap1, rfl, hbB, c0, c1, hx⟩ := Hr.out _ hb k hkl
        obtain ⟨b', off', a1', cap1', rfl, hbB', e0, e1, hy⟩ := Hr'.out _ hb k hkm
        have Hc : Hid (∀ ww, Below w.heap.size wr ww → Calls Try.prog 53 #[.agg #[.int .i64 l[k].rel, .slice a1 l[k].vals.length cap1], .agg #[.int .i64 m[k].rel, .slice a1' m[k].vals.length cap1']] ww fun e w' => e = .returned (.bool (decide (l[k] = m[k]))) ∧ Below ww.heap.size ww w') :=
          fun ww hw2 => eqFact_c (cFct.keep hx (fun k hk => hw2.block k hk) (Nat.le_trans hb.size hw2.size)) (cFct.keep hy (fun k hk => hw2.block k hk) (Nat.le_trans hb.size hw2.size))
        clear hx hy Hq
        generalize l[k] = r at *
        generalize m[k] = r' at *
        generalize decide (r = r') = z at *
        cases z with
        | true =>
          go_wp2_with fail
          go_region_with (go_at_call 53; refine (Hc.out _ ?hww).mono ?_; (case hww => first | exact Below.refl _ _ | exact (Below.refl _ _).drew | exact Below.drewN' (Below.refl _ _) _); rintro e w1 ⟨rfl, hb1⟩)
          all_goals
            go_wp2
            go_roundw
            case rel =>
              have h := Hst.out
              rw [Bool.true_and] at h
              exact ⟨k + 1, by omega, by go_num, h.symm, hb.drew.trans (hb1.mono hb.size)⟩
            case measure => simp [intOf]; omega
        | false =>
          have hR : R = false := by have h := Hst.out; rw [Bool.false_and] at h; exact h
          go_wp2_with fail
          go_region_with (go_at_call 53; refine (Hc.out _ ?hww).mono ?_; (case hww => first | exact Below.refl _ _ | exact (Below.refl _ _).drew | exact Below.drewN' (Below.refl _ _) _); rintro e w1 ⟨rfl, hb1⟩)
          all_goals
            go_wp2
            go_ret
            exact ⟨by rw [hR]; rfl, hb.drew.trans (hb1.mono hb.size)⟩
      · obtain rfl : k = n := by omega
        have hR : R = true := by
          have := Hq.out
          rw [List.drop_eq_nil_of_le (by rw [Hn.out]; exact Nat.le_refl _), List.drop_eq_nil_of_le (by rw [Hm.out]; exact Nat.le_refl _)] at this
          simpa using this.symm
        go_wp2
        go_ret
        exact ⟨by rw [hR]; rfl, hb⟩
  · rw [decide_eq_false (fun e => hne (by rw [e]))]
    have hne2 : (l.length != m.length) = true := by simpa using hne
    go_enter Try.func42, Try.ntmps42
    go_wp2
    go_ret
    exact ⟨rfl, Below.refl _ _⟩
end Go.Proofs.Ytpcjhnbifgjleaa

/- Structs: readings, the laws' helpers on them (size, copy, equality). -/
namespace Go.Proofs.Ytpcjhnbifgjleaa
open Go.RowKit
set_option linter.unusedVariables false
set_option maxRecDepth 100000

/-- A database: its relations, its facts. -/
structure Dbs where
  rels : List Rel
  facts : List Fct
deriving DecidableEq
def cDbs : Cod Dbs := cMap (fun x => (x.rels, x.facts)) (cPair (cSlice cRel) (cSlice cFct))
theorem cDbs_fields {B : Nat} {w : World} {x : Dbs} {cs : List Value} (h : cDbs.ok B w x cs) : ∃ a0 cap0 a1 cap1, cs = [.slice a0 x.rels.length cap0, .slice a1 x.facts.length cap1] ∧ (cSlice cRel).ok B w x.rels [.slice a0 x.rels.length cap0] ∧ (cSlice cFct).ok B w x.facts [.slice a1 x.facts.length cap1] := by
  obtain ⟨_, _, rfl, h0, h1⟩ := h
  have k0 := h0
  obtain ⟨a0, cap0, rfl, _⟩ := k0
  have k1 := h1
  obtain ⟨a1, cap1, rfl, _⟩ := k1
  exact ⟨a0, cap0, a1, cap1, rfl, h0, h1⟩
theorem cDbs_open {B : Nat} {w : World} {x : Dbs} {cs : List Value} (h : cDbs.ok B w x cs) : ∃ a0 cap0 a1 cap1, cs = [.slice a0 x.rels.length cap0, .slice a1 x.facts.length cap1] ∧ cDbs.ok B w x [.slice a0 x.rels.length cap0, .slice a1 x.facts.length cap1] := by
  have h0 := h
  obtain ⟨a0, cap0, a1, cap1, rfl, _⟩ := cDbs_fields h
  exact ⟨a0, cap0, a1, cap1, rfl, h0⟩
theorem cDbs_inv {B : Nat} {w : World} {x : Dbs} {v0 v1 : Value} (h : cDbs.ok B w x [v0, v1]) : (cSlice cRel).ok B w x.rels [v0] ∧ (cSlice cFct).ok B w x.facts [v1] := by
  obtain ⟨a0, cap0, a1, cap1, e, h0, h1⟩ := cDbs_fields h
  simp only [List.cons.injEq, and_true] at e
  obtain ⟨rfl, rfl⟩ := e
  exact ⟨h0, h1⟩
theorem cDbs_mk {B : Nat} {w : World} {x : Dbs} {v0 v1 : Value} (h0 : (cSlice cRel).ok B w x.rels [v0]) (h1 : (cSlice cFct).ok B w x.facts [v1]) : cDbs.ok B w x [v0, v1] := ⟨[_], _, rfl, h0, h1⟩
theorem cDbs_own {lo hi lo0 hi0 lo1 hi1 : Nat} {w : World} {x : Dbs} {v0 v1 : Value} (h0 : OwnIn (cSlice cRel) lo0 hi0 w x.rels [v0]) (l0 : lo0 ≤ hi0) (h1 : OwnIn (cSlice cFct) lo1 hi1 w x.facts [v1]) (l1 : lo1 ≤ hi1) (q0 : lo ≤ lo0) (q1 : hi0 ≤ lo1) (q : hi1 ≤ hi) : OwnIn cDbs lo hi w x [v0, v1] := (OwnIn.pair (h0.wide (lo' := lo) (hi' := hi0) (by omega) (by omega)) (h1.wide (lo' := hi0) (hi' := hi) (by omega) (by omega)) (by omega) (by omega))
/-- Its size: its leaves behind slices. -/
def sizeDatabase (x : Dbs) : Nat := sizeRelationS x.rels + (sizeFactS x.facts)
theorem szDatabase_c {a0 : Option Addr} {cap0 : Nat} {a1 : Option Addr} {cap1 : Nat} {x : Dbs} {left : Int} {w : World} (hl : 0 ≤ left) (hl2 : left ≤ 1048576) (h : At cDbs w x [.slice a0 x.rels.length cap0, .slice a1 x.facts.length cap1]) :
    Calls Try.prog 9 #[.agg #[.slice a0 x.rels.length cap0, .slice a1 x.facts.length cap1], .int .i64 left] w fun e w' => e = .returned (.int .i64 (szR left (sizeDatabase x))) ∧ Below w.heap.size w w' := by
  obtain ⟨k0, k1⟩ := cDbs_inv h
  unfold sizeDatabase
  clear h
  obtain ⟨rels, facts⟩ := x
  simp only at *
  have H0 : Hid (∀ q : Int, 0 ≤ q → q ≤ 1048576 → ∀ ww, Below w.heap.size w ww → Calls Try.prog 24 #[.slice a0 rels.length cap0, .int .i64 q] ww fun e w' => e = .returned (.int .i64 (szR q (sizeRelationS rels))) ∧ Below ww.heap.size ww w') :=
    fun q h0 h1 ww hb => szRelationS_c h0 h1 (At.below (c := (cSlice cRel)) k0 hb (Nat.le_refl _))
  have H1 : Hid (∀ q : Int, 0 ≤ q → q ≤ 1048576 → ∀ ww, Below w.heap.size w ww → Calls Try.prog 25 #[.slice a1 facts.length cap1, .int .i64 q] ww fun e w' => e = .returned (.int .i64 (szR q (sizeFactS facts))) ∧ Below ww.heap.size ww w') :=
    fun q h0 h1 ww hb => szFactS_c h0 h1 (At.below (c := (cSlice cFct)) k1 hb (Nat.le_refl _))
  clear k0 k1
  have G0 := Lib.hid (H0.out (left) (by omega) (by omega))
  rw [szR_step (left) (sizeRelationS rels)]
  have hn0 : szR (left) (sizeRelationS rels) < 0 → szR (left) (sizeRelationS rels) = -1 := szR_neg
  have hle0 := szR_le (left) (sizeRelationS rels) (by omega)
  generalize szR (left) (sizeRelationS rels) = z0 at *
  by_cases hz0 : z0 < 0
  · obtain rfl : z0 = -1 := hn0 hz0
    clear hn0
    rw [if_pos (by decide)]
    go_enter Try.func9, Try.ntmps9
    go_wp2_with fail
    refine (G0.out _ ?hb).mono ?_
    case hb => go_grown
    rintro e w1 ⟨rfl, hb1⟩
    have hbb1 : Below w.heap.size w w1 := Below.trans (by go_grown) (hb1.mono (by simp; try omega))
    have hsz1 : w.heap.size + 1 ≤ w1.heap.size := by have := hb1.size; simp at this; omega
    have p1_0 : w1.cell? ⟨w.heap.size, 0, none⟩ = some (.slice a0 rels.length cap0) := (hb1.cell (by simp)).trans (by go_simp)
    have p1_1 : w1.cell? ⟨w.heap.size, 1, none⟩ = some (.slice a1 facts.length cap1) := (hb1.cell (by simp)).trans (by go_simp)
    clear hb1
    go_wp2
    go_ret
    exact ⟨rfl, hbb1⟩
  · clear hn0
    rw [if_neg hz0]
    have G1 := Lib.hid (H1.out (z0) (by omega) (by omega))
    have hn1 : szR (z0) (sizeFactS facts) < 0 → szR (z0) (sizeFactS facts) = -1 := szR_neg
    have hle1 := szR_le (z0) (sizeFactS facts) (by omega)
    generalize szR (z0) (sizeFactS facts) = z1 at *
    by_cases hz1 : z1 < 0
    · obtain rfl : z1 = -1 := hn1 hz1
      clear hn1
      go_enter Try.func9, Try.ntmps9
      go_wp2_with fail
      refine (G0.out _ ?hb).mono ?_
      case hb => go_grown
      rintro e w1 ⟨rfl, hb1⟩
      have hbb1 : Below w.heap.size w w1 := Below.trans (by go_grown) (hb1.mono (by simp; try omega))
      have hsz1 : w.heap.size + 1 ≤ w1.heap.size := by have := hb1.size; simp at this; omega
      have p1_0 : w1.cell? ⟨w.heap.size, 0, none⟩ = some (.slice a0 rels.length cap0) := (hb1.cell (by simp)).trans (by go_simp)
      have p1_1 : w1.cell? ⟨w.heap.size, 1, none⟩ = some (.slice a1 facts.length cap1) := (hb1.cell (by simp)).trans (by go_simp)
      clear hb1
      go_wp2_with fail
      refine (G1.out _ ?hb).mono ?_
      case hb => exact hbb1
      rintro e w2 ⟨rfl, hb2⟩
      have hbb2 : Below w.heap.size w w2 := hbb1.trans (hb2.mono (by omega))
      have hsz2 : w.heap.size + 1 ≤ w2.heap.size := by have := hb2.size; omega
      have p2_0 := (hb2.cell (p := ⟨w.heap.size, 0, none⟩) (by simp; try omega)).trans p1_0
      have p2_1 := (hb2.cell (p := ⟨w.heap.size, 1, none⟩) (by simp; try omega)).trans p1_1
      clear p1_0 p1_1
      clear hb2
      go_wp2
      go_ret
      exact ⟨rfl, hbb2⟩
    · clear hn1
      go_enter Try.func9, Try.ntmps9
      go_wp2_with fail
      refine (G0.out _ ?hb).mono ?_
      case hb => go_grown
      rintro e w1 ⟨rfl, hb1⟩
      have hbb1 : Below w.heap.size w w1 := Below.trans (by go_grown) (hb1.mono (by simp; try omega))
      have hsz1 : w.heap.size + 1 ≤ w1.heap.size := by have := hb1.size; simp at this; omega
      have p1_0 : w1.cell? ⟨w.heap.size, 0, none⟩ = some (.slice a0 rels.length cap0) := (hb1.cell (by simp)).trans (by go_simp)
      have p1_1 : w1.cell? ⟨w.heap.size, 1, none⟩ = some (.slice a1 facts.length cap1) := (hb1.cell (by simp)).trans (by go_simp)
      clear hb1
      go_wp2_with fail
      refine (G1.out _ ?hb).mono ?_
      case hb => exact hbb1
      rintro e w2 ⟨rfl, hb2⟩
      have hbb2 : Below w.heap.size w w2 := hbb1.trans (hb2.mono (by omega))
      have hsz2 : w.heap.size + 1 ≤ w2.heap.size := by have := hb2.size; omega
      have p2_0 := (hb2.cell (p := ⟨w.heap.size, 0, none⟩) (by simp; try omega)).trans p1_0
      have p2_1 := (hb2.cell (p := ⟨w.heap.size, 1, none⟩) (by simp; try omega)).trans p1_1
      clear p1_0 p1_1
      clear hb2
      go_wp2
      go_ret
      exact ⟨rfl, hbb2⟩
set_option maxHeartbeats 800000 in
theorem toDatabase_c {a0 : Option Addr} {cap0 : Nat} {a1 : Option Addr} {cap1 : Nat} {x : Dbs} {w : World} (hs : sizeDatabase x ≤ 1048576) (h : At cDbs w x [.slice a0 x.rels.length cap0, .slice a1 x.facts.length cap1]) :
    Calls Try.prog 15 #[.agg #[.slice a0 x.rels.length cap0, .slice a1 x.facts.length cap1]] w fun e w' => (∃ a0' cap0' a1' cap1', e = .returned (.agg #[.slice a0' x.rels.length cap0', .slice a1' x.facts.length cap1']) ∧ Own cDbs w.heap.size w' x [.slice a0' x.rels.length cap0', .slice a1' x.facts.length cap1']) ∧ Below w.heap.size w w' := by
  unfold sizeDatabase at hs
  obtain ⟨k0, k1⟩ := cDbs_inv h
  clear h
  obtain ⟨rels, facts⟩ := x
  simp only at *
  have H0 : Hid (∀ ww, Below w.heap.size w ww → Calls Try.prog 30 #[.slice a0 rels.length cap0] ww fun e w' => (∃ a' cap', e = .returned (.slice a' rels.length cap') ∧ Own (cSlice cRel) ww.heap.size w' rels [.slice a' rels.length cap']) ∧ Below ww.heap.size ww w') :=
    fun ww hb => toRelationS_c (by omega) (At.below (c := (cSlice cRel)) k0 hb (Nat.le_refl _))
  have H1 : Hid (∀ ww, Below w.heap.size w ww → Calls Try.prog 31 #[.slice a1 facts.length cap1] ww fun e w' => (∃ a' cap', e = .returned (.slice a' facts.length cap') ∧ Own (cSlice cFct) ww.heap.size w' facts [.slice a' facts.length cap']) ∧ Below ww.heap.size ww w') :=
    fun ww hb => toFactS_c (by omega) (At.below (c := (cSlice cFct)) k1 hb (Nat.le_refl _))
  clear hs k0 k1
  go_enter Try.func15, Try.ntmps15
  go_wp2_with fail
  refine (H0.out _ ?hb).mono ?_
  case hb => go_grown
  rintro e w1 ⟨⟨a0', cap0', rfl, ho0⟩, hb1⟩
  have hbb1 : Below w.heap.size w w1 := Below.trans (by go_grown) (hb1.mono (by simp; try omega))
  have hsz1 : w.heap.size + 3 ≤ w1.heap.size := by have := hb1.size; simp at this; omega
  have p1_0 : w1.cell? ⟨w.heap.size, 0, none⟩ = some (.slice a0 rels.length cap0) := (hb1.cell (by simp; try omega)).trans (by go_simp)
  have o1_0 : w1.cell? ⟨w.heap.size + 1 + 1, 0, none⟩ = some (.slice none 0 0) := (hb1.cell (by simp; try omega)).trans (by go_simp)
  have f1_0 : w1.frozen? ⟨w.heap.size + 1 + 1, 0, none⟩ = false := (hb1.frozen (by simp; try omega)).trans (by go_simp)
  have e1_0 : w1.cell? ⟨w.heap.size + 1, 0, none⟩ = some (.slice none 0 0) := (hb1.cell (by simp; try omega)).trans (by go_simp)
  have g1_0 : w1.frozen? ⟨w.heap.size + 1, 0, none⟩ = false := (hb1.frozen (by simp; try omega)).trans (by go_simp)
  have p1_1 : w1.cell? ⟨w.heap.size, 1, none⟩ = some (.slice a1 facts.length cap1) := (hb1.cell (by simp; try omega)).trans (by go_simp)
  have o1_1 : w1.cell? ⟨w.heap.size + 1 + 1, 1, none⟩ = some (.slice none 0 0) := (hb1.cell (by simp; try omega)).trans (by go_simp)
  have f1_1 : w1.frozen? ⟨w.heap.size + 1 + 1, 1, none⟩ = false := (hb1.frozen (by simp; try omega)).trans (by go_simp)
  have e1_1 : w1.cell? ⟨w.heap.size + 1, 1, none⟩ = some (.slice none 0 0) := (hb1.cell (by simp; try omega)).trans (by go_simp)
  have g1_1 : w1.frozen? ⟨w.heap.size + 1, 1, none⟩ = false := (hb1.frozen (by simp; try omega)).trans (by go_simp)
  have hR1 : w1.heap[w.heap.size + 1]? = some (.cells #[.slice none 0 0, .slice none 0 0] 38 (0, 0)) := (hb1.block _ (by simp; try omega)).trans (by rw [Go.heap_alloc_old _ _ (by simp; try omega)]; exact heap_alloc2_new _ _ _)
  have u0 : OwnIn (cSlice cRel) (w.heap.size + 3) w1.heap.size w1 rels _ := OwnIn.wide ho0 (by simp; try omega) (Nat.le_refl _)
  clear hb1 ho0
  go_wp2_with fail
  refine (H1.out _ ?hb).mono ?_
  case hb => exact hbb1.setCell (by simp; try omega) _
  rintro e w2 ⟨⟨a1', cap1', rfl, ho1⟩, hb2⟩
  have hW : (w1.setCell ⟨w.heap.size + 1 + 1, 0, none⟩ (.slice a0' rels.length cap0')).heap.size = w1.heap.size := by simp [World.setCell]
  rw [hW] at ho1 hb2
  have hbb2 : Below w.heap.size w w2 := (hbb1.setCell (p := ⟨w.heap.size + 1 + 1, 0, none⟩) (by simp; try omega) _).trans (hb2.mono (by omega))
  have hsz2 : w.heap.size + 3 ≤ w2.heap.size := by have := hb2.size; rw [hW] at this; omega
  have p2_0 := (hb2.cell (p := ⟨w.heap.size, 0, none⟩) (by simp; try omega)).trans ((World.cell?_setCell_other _ _ _ _ (by first | (simp; done) | (simp; omega))).trans p1_0)
  have o2_0 := (hb2.cell (p := ⟨w.heap.size + 1 + 1, 0, none⟩) (by simp; try omega)).trans (World.cell?_setCell_same _ _ _ o1_0)
  have f2_0 := (hb2.frozen (p := ⟨w.heap.size + 1 + 1, 0, none⟩) (by simp; try omega)).trans ((World.frozen?_setCell _ _ _ _).trans f1_0)
  have e2_0 := (hb2.cell (p := ⟨w.heap.size + 1, 0, none⟩) (by simp; try omega)).trans ((World.cell?_setCell_other _ _ _ _ (by first | (simp; done) | (simp; omega))).trans e1_0)
  have g2_0 := (hb2.frozen (p := ⟨w.heap.size + 1, 0, none⟩) (by simp; try omega)).trans ((World.frozen?_setCell _ _ _ _).trans g1_0)
  have p2_1 := (hb2.cell (p := ⟨w.heap.size, 1, none⟩) (by simp; try omega)).trans ((World.cell?_setCell_other _ _ _ _ (by first | (simp; done) | (simp; omega))).trans p1_1)
  have o2_1 := (hb2.cell (p := ⟨w.heap.size + 1 + 1, 1, none⟩) (by simp; try omega)).trans ((World.cell?_setCell_other _ _ _ _ (by first | (simp; done) | (simp; omega))).trans o1_1)
  have f2_1 := (hb2.frozen (p := ⟨w.heap.size + 1 + 1, 1, none⟩) (by simp; try omega)).trans ((World.frozen?_setCell _ _ _ _).trans f1_1)
  have e2_1 := (hb2.cell (p := ⟨w.heap.size + 1, 1, none⟩) (by simp; try omega)).trans ((World.cell?_setCell_other _ _ _ _ (by first | (simp; done) | (simp; omega))).trans e1_1)
  have g2_1 := (hb2.frozen (p := ⟨w.heap.size + 1, 1, none⟩) (by simp; try omega)).trans ((World.frozen?_setCell _ _ _ _).trans g1_1)
  have hR2 := (hb2.block (w.heap.size + 1) (by omega)).trans ((heap_setCell_other _ _ _ _ (by simp)).trans hR1)
  have u0 := (OwnIn.setCell u0 (p := ⟨w.heap.size + 1 + 1, 0, none⟩) (by simp; try omega) (.slice a0' rels.length cap0')).below hb2 (by omega)
  have u1 : OwnIn (cSlice cFct) w1.heap.size w2.heap.size w2 facts _ := ho1
  have hm0 := hb2.size
  rw [hW] at hm0
  clear hW p1_0 o1_0 f1_0 e1_0 g1_0 p1_1 o1_1 f1_1 e1_1 g1_1 hR1
  clear hb2 ho1
  have U0 := Lib.hid u0
  have U1 := Lib.hid u1
  clear u0 u1
  go_wp2
  (try simp only [Exit.inBlock, Exit.then])
  refine bodyPost_ret (results_cell_row rfl _ _ (w.heap.size + 1) _ _ _ _ rfl (heap_setCell_same _ _ 1 _ _ _ (heap_setCell_same _ _ 0 _ _ _ ((heap_setCell_other _ _ _ _ (by simp)).trans (hR2)))) Try.underlying38 rfl (by kernel_rfl)) rfl ?_
  exact ⟨⟨_, _, _, _, rfl, OwnIn.own (cDbs_own (x := ⟨rels, facts⟩) (lo := w.heap.size) (hi := w2.heap.size) ((((U0.out).setCell (by simp; try omega) _).setCell (by simp; try omega) _).setCell (by simp; try omega) _) (by omega) ((((U1.out).setCell (by simp; try omega) _).setCell (by simp; try omega) _).setCell (by simp; try omega) _) (by omega) (by omega) (by omega) (by omega)) (by simp [World.setCell])⟩, (((hbb2).setCell (by simp; try omega) _).setCell (by simp; try omega) _).setCell (by simp; try omega) _⟩
theorem eqDatabase_c {a0 : Option Addr} {cap0 : Nat} {a1 : Option Addr} {cap1 : Nat} {a0' : Option Addr} {cap0' : Nat} {a1' : Option Addr} {cap1' : Nat} {x y : Dbs} {w : World} (h : At cDbs w x [.slice a0 x.rels.length cap0, .slice a1 x.facts.length cap1]) (h' : At cDbs w y [.slice a0' y.rels.length cap0', .slice a1' y.facts.length cap1']) :
    Calls Try.prog 21 #[.agg #[.slice a0 x.rels.length cap0, .slice a1 x.facts.length cap1], .agg #[.slice a0' y.rels.length cap0', .slice a1' y.facts.length cap1']] w fun e w' => e = .returned (.bool (decide (x = y))) ∧ Below w.heap.size w w' := by
  obtain ⟨k0, k1⟩ := cDbs_inv h
  obtain ⟨m0, m1⟩ := cDbs_inv h'
  clear h h'
  obtain ⟨rels, facts⟩ := x
  obtain ⟨rels', facts'⟩ := y
  have he : decide (Dbs.mk rels facts = Dbs.mk rels' facts') = (decide (rels = rels') && decide (facts = facts')) := by
    simp only [← Bool.decide_and]; congr 1; rw [Dbs.mk.injEq]
  rw [he]
  clear he
  simp only at *
  have H0 : Hid (∀ ww, Below w.heap.size w ww → Calls Try.prog 41 #[.slice a0 rels.length cap0, .slice a0' rels'.length cap0'] ww fun e w' => e = .returned (.bool (decide (rels = rels'))) ∧ Below ww.heap.size ww w') :=
    fun ww hb => eqRelationS_c (At.below (c := (cSlice cRel)) k0 hb (Nat.le_refl _)) (At.below (c := (cSlice cRel)) m0 hb (Nat.le_refl _))
  have H1 : Hid (∀ ww, Below w.heap.size w ww → Calls Try.prog 42 #[.slice a1 facts.length cap1, .slice a1' facts'.length cap1'] ww fun e w' => e = .returned (.bool (decide (facts = facts'))) ∧ Below ww.heap.size ww w') :=
    fun ww hb => eqFactS_c (At.below (c := (cSlice cFct)) k1 hb (Nat.le_refl _)) (At.below (c := (cSlice cFct)) m1 hb (Nat.le_refl _))
  clear k0 m0 k1 m1
  generalize decide (rels = rels') = z0 at *
  cases z0 with
  | true =>
    rw [Bool.true_and]
    generalize decide (facts = facts') = z1 at *
    cases z1 with
    | true =>
      go_enter Try.func21, Try.ntmps21
      go_wp2_with fail
      refine (H0.out _ ?hb).mono ?_
      case hb => go_grown
      rintro e w1 ⟨rfl, hb1⟩
      have hbb1 : Below w.heap.size w w1 := Below.trans (by go_grown) (hb1.mono (by simp; try omega))
      have hsz1 : w.heap.size + 2 ≤ w1.heap.size := by have := hb1.size; simp at this; omega
      have p1_0 : w1.cell? ⟨w.heap.size, 0, none⟩ = some (.slice a0 rels.length cap0) := (hb1.cell (by simp; try omega)).trans (by go_simp)
      have r1_0 : w1.cell? ⟨w.heap.size + 1, 0, none⟩ = some (.slice a0' rels'.length cap0') := (hb1.cell (by simp; try omega)).trans (by go_simp)
      have p1_1 : w1.cell? ⟨w.heap.size, 1, none⟩ = some (.slice a1 facts.length cap1) := (hb1.cell (by simp; try omega)).trans (by go_simp)
      have r1_1 : w1.cell? ⟨w.heap.size + 1, 1, none⟩ = some (.slice a1' facts'.length cap1') := (hb1.cell (by simp; try omega)).trans (by go_simp)
      clear hb1
      go_wp2_with fail
      refine (H1.out _ ?hb).mono ?_
      case hb => exact hbb1
      rintro e w2 ⟨rfl, hb2⟩
      have hbb2 : Below w.heap.size w w2 := hbb1.trans (hb2.mono (by omega))
      have hsz2 : w.heap.size + 2 ≤ w2.heap.size := by have := hb2.size; omega
      have p2_0 := (hb2.cell (p := ⟨w.heap.size, 0, none⟩) (by simp; try omega)).trans p1_0
      have r2_0 := (hb2.cell (p := ⟨w.heap.size + 1, 0, none⟩) (by simp; try omega)).trans r1_0
      have p2_1 := (hb2.cell (p := ⟨w.heap.size, 1, none⟩) (by simp; try omega)).trans p1_1
      have r2_1 := (hb2.cell (p := ⟨w.heap.size + 1, 1, none⟩) (by simp; try omega)).trans r1_1
      clear p1_0 r1_0 p1_1 r1_1
      clear hb2
      go_wp2
      go_ret
      exact ⟨by simp, hbb2⟩
    | false =>
      go_enter Try.func21, Try.ntmps21
      go_wp2_with fail
      refine (H0.out _ ?hb).mono ?_
      case hb => go_grown
      rintro e w1 ⟨rfl, hb1⟩
      have hbb1 : Below w.heap.size w w1 := Below.trans (by go_grown) (hb1.mono (by simp; try omega))
      have hsz1 : w.heap.size + 2 ≤ w1.heap.size := by have := hb1.size; simp at this; omega
      have p1_0 : w1.cell? ⟨w.heap.size, 0, none⟩ = some (.slice a0 rels.length cap0) := (hb1.cell (by simp; try omega)).trans (by go_simp)
      have r1_0 : w1.cell? ⟨w.heap.size + 1, 0, none⟩ = some (.slice a0' rels'.length cap0') := (hb1.cell (by simp; try omega)).trans (by go_simp)
      have p1_1 : w1.cell? ⟨w.heap.size, 1, none⟩ = some (.slice a1 facts.length cap1) := (hb1.cell (by simp; try omega)).trans (by go_simp)
      have r1_1 : w1.cell? ⟨w.heap.size + 1, 1, none⟩ = some (.slice a1' facts'.length cap1') := (hb1.cell (by simp; try omega)).trans (by go_simp)
      clear hb1
      go_wp2_with fail
      refine (H1.out _ ?hb).mono ?_
      case hb => exact hbb1
      rintro e w2 ⟨rfl, hb2⟩
      have hbb2 : Below w.heap.size w w2 := hbb1.trans (hb2.mono (by omega))
      have hsz2 : w.heap.size + 2 ≤ w2.heap.size := by have := hb2.size; omega
      have p2_0 := (hb2.cell (p := ⟨w.heap.size, 0, none⟩) (by simp; try omega)).trans p1_0
      have r2_0 := (hb2.cell (p := ⟨w.heap.size + 1, 0, none⟩) (by simp; try omega)).trans r1_0
      have p2_1 := (hb2.cell (p := ⟨w.heap.size, 1, none⟩) (by simp; try omega)).trans p1_1
      have r2_1 := (hb2.cell (p := ⟨w.heap.size + 1, 1, none⟩) (by simp; try omega)).trans r1_1
      clear p1_0 r1_0 p1_1 r1_1
      clear hb2
      go_wp2
      go_ret
      exact ⟨by simp, hbb2⟩
  | false =>
    rw [Bool.false_and]
    go_enter Try.func21, Try.ntmps21
    go_wp2_with fail
    refine (H0.out _ ?hb).mono ?_
    case hb => go_grown
    rintro e w1 ⟨rfl, hb1⟩
    have hbb1 : Below w.heap.size w w1 := Below.trans (by go_grown) (hb1.mono (by simp; try omega))
    have hsz1 : w.heap.size + 2 ≤ w1.heap.size := by have := hb1.size; simp at this; omega
    have p1_0 : w1.cell? ⟨w.heap.size, 0, none⟩ = some (.slice a0 rels.length cap0) := (hb1.cell (by simp; try omega)).trans (by go_simp)
    have r1_0 : w1.cell? ⟨w.heap.size + 1, 0, none⟩ = some (.slice a0' rels'.length cap0') := (hb1.cell (by simp; try omega)).trans (by go_simp)
    have p1_1 : w1.cell? ⟨w.heap.size, 1, none⟩ = some (.slice a1 facts.length cap1) := (hb1.cell (by simp; try omega)).trans (by go_simp)
    have r1_1 : w1.cell? ⟨w.heap.size + 1, 1, none⟩ = some (.slice a1' facts'.length cap1') := (hb1.cell (by simp; try omega)).trans (by go_simp)
    clear hb1
    go_wp2
    go_ret
    exact ⟨by simp, hbb1⟩
end Go.Proofs.Ytpcjhnbifgjleaa


/- TyTre: TyE TyF TyG TyH. -/
import Derived.Test.YtpcjhnbifgjleaaTyTwo
import Derived.BigQuiet
import Derived.Deep.QuietTactic
import Derived.Deep.RegionWith
/- Slices of structs: the laws' helpers on them (size, copy, equality). -/
namespace Go.Proofs.Ytpcjhnbifgjleaa
open Go.RowKit
set_option linter.unusedVariables false
set_option maxRecDepth 100000

/-- Element j of such a slice. -/
theorem at_IntS {B : Nat} {w : World} {l : List (List Int)} {a0 : Option Addr} {len cap0 : Nat} (h : (cSlice (cSlice cInt)).ok B w l [.slice a0 len cap0]) (j : Nat) (hj : j < l.length) :
    ∃ b off a cap, a0 = some ⟨b, off, none⟩ ∧ b < B ∧ w.cell? ⟨b, off + j, none⟩ = some (.slice a l[j].length cap) ∧ (cSlice cInt).ok B w l[j] [.slice a l[j].length cap] := by
  obtain ⟨b, off, es, rfl, hb, he, hc⟩ := slice_at h j hj
  obtain ⟨a, cap, rfl, hx⟩ := slice_open he
  exact ⟨b, off, a, cap, rfl, hb, by have := hc 0 (by decide); rw [show (cSlice cInt).n = 1 from rfl, Nat.mul_one, Nat.add_zero] at this; exact this, hx⟩
/-- The leaves of such a slice. -/
def sumIntS (l : List (List Int)) : Nat := (l.map fun x => x.length).sum
/-- The size of such a slice: its length and its leaves. -/
def sizeIntSS (l : List (List Int)) : Nat := l.length + sumIntS l
theorem sumIntS_ge (l : List (List Int)) (k : Nat) (hk : k < l.length) : (l[k].length) ≤ sumIntS l := by
  induction l generalizing k with
  | nil => simp at hk
  | cons x l ih =>
    unfold sumIntS at *
    rw [List.map_cons, List.sum_cons]
    cases k with
    | zero => exact Nat.le_add_right _ _
    | succ k => exact Nat.le_trans (ih k (by simpa using hk)) (Nat.le_add_left _ _)
theorem sumIntS_drop (l : List (List Int)) (k : Nat) (hk : k < l.length) : sumIntS (l.drop k) = (l[k].length) + sumIntS (l.drop (k + 1)) := by
  unfold sumIntS; rw [List.drop_eq_getElem_cons hk, List.map_cons, List.sum_cons]
theorem szIntSS_c {a0 : Option Addr} {cap0 : Nat} {l : List (List Int)} {left : Int} {w : World} (hl : 0 ≤ left) (hl2 : left ≤ 1048576) (h : At (cSlice (cSlice cInt)) w l [.slice a0 l.length cap0]) :
    Calls Try.prog 11 #[.slice a0 l.length cap0, .int .i64 left] w fun e w' => e = .returned (.int .i64 (szR left (sizeIntSS l))) ∧ Below w.heap.size w w' := by
  have hm := (slice_len h).2
  unfold maxLen at hm
  have hw : wrap64 (left - (l.length : Int)) = left - (l.length : Int) := IntWalk.wrap64_in _ ⟨by omega, by omega⟩
  obtain ⟨n, hn⟩ : ∃ n : Nat, l.length = n := ⟨_, rfl⟩
  have Hn := Lib.hid hn
  have Hr : Hid (∀ w' : World, Below w.heap.size w w' → ∀ j (hj : j < l.length), _) := fun w' hb j hj => at_IntS (Cod.ok_below h hb) j hj
  unfold sizeIntSS
  rw [hn] at hw hm ⊢
  clear h hn
  rw [szR_step left n]
  by_cases h0 : left - (n : Int) < 0
  · rw [if_pos (by unfold szR; rw [if_pos h0]; decide)]
    go_enter Try.func11, Try.ntmps11
    go_wp2
    go_ret
    exact ⟨rfl, Below.refl _ _⟩
  · have hz : szR left n = left - (n : Int) := if_neg h0
    rw [hz, if_neg h0]
    clear hz
    generalize hR : szR (left - (n : Int)) (sumIntS l) = R
    have HR : Hid (szR (left - (n : Int)) (sumIntS (l.drop 0)) = R) := hR
    clear hR
    go_enter Try.func11, Try.ntmps11
    go_wp2
    go_loopw [1, 5] (fun lv iv wr => ∃ (k : Nat) (q : Int), k ≤ n ∧ lv = .int .i64 q ∧ iv = .int .i64 k ∧ 0 ≤ q ∧ q ≤ 1048576 ∧ Hid (szR q (sumIntS (l.drop k)) = R) ∧ Below w.heap.size w wr) (fun _ iv _ => n - (intOf iv).toNat)
    case atStart => exact ⟨0, left - n, by omega, rfl, rfl, by omega, by omega, HR, Below.refl _ _⟩
    case round =>
      clear HR hw
      obtain ⟨k, q, hk, rfl, rfl, hq0, hq1, Hq, hb⟩ := hrel
      by_cases hlt : k < n
      · have hkl : k < l.length := by rw [Hn.out]; exact hlt
        obtain ⟨b, off, a, cap, rfl, hbB, c0, hx⟩ := Hr.out _ hb k hkl
        have hst : Hid (R = if szR q (l[k].length) < 0 then -1 else szR (szR q (l[k].length)) (sumIntS (l.drop (k + 1)))) := by
          show R = _
          rw [← szR_step, ← sumIntS_drop l k hkl, Hq.out]
        have Hc : Hid (∀ ww, Below w.heap.size wr ww → Calls Try.prog 27 #[.slice a l[k].length cap, .int .i64 q] ww fun e w' => e = .returned (.int .i64 (szR q (l[k].length))) ∧ Below ww.heap.size ww w') :=
          fun ww hw2 => szIntS_c hq0 hq1 ((cSlice cInt).keep hx (fun k hk => hw2.block k hk) (Nat.le_trans hb.size hw2.size))
        have hle := szR_le q (l[k].length) hq0
        generalize hz : szR q (l[k].length) = z at *
        clear hz hx Hq
        generalize l[k] = r at *
        by_cases hneg : z < 0
        · have hR : R = -1 := by have := hst.out; rw [if_pos hneg] at this; exact this
          go_wp2_with fail
          refine (Hc.out _ (Below.refl _ _)).mono ?_
          rintro e w1 ⟨rfl, hb1⟩
          go_wp2
          go_ret
          exact ⟨by rw [hR]; rfl, hb.trans (hb1.mono hb.size)⟩
        · go_wp2_with fail
          refine (Hc.out _ (Below.refl _ _)).mono ?_
          rintro e w1 ⟨rfl, hb1⟩
          go_wp2
          go_roundw
          case rel =>
            have := hst.out
            rw [if_neg (by omega)] at this
            exact ⟨k + 1, z, by omega, rfl, by go_num, by omega, by omega, this.symm, hb.trans (hb1.mono hb.size)⟩
          case measure => simp [intOf]; omega
      · obtain rfl : k = n := by omega
        have hd : l.drop k = [] := List.drop_eq_nil_of_le (by rw [Hn.out]; exact Nat.le_refl _)
        have hq : q = R := by have := Hq.out; rw [hd] at this; rw [← this]; unfold szR; simp [sumIntS]; omega
        clear hd Hq
        go_wp2
        go_ret
        exact ⟨by rw [hq]; rfl, hb⟩
theorem zIntS_at (A : List Value) (k n : Nat) (h : A.length = k * 1) (hk : k < n) : (A ++ (List.replicate (n - k) ([.slice none 0 0] : List Value)).flatten)[k]? = some (.slice none 0 0) := by
  have e1 : n - k = (n - (k + 1)) + 1 := by omega
  rw [e1, List.replicate_succ, List.flatten_cons]
  refine ?_
  rw [List.getElem?_append_right (by omega)]; simp [h]
theorem zIntS_step (A : List Value) (k n : Nat) (h : A.length = k * 1) (hk : k < n) (v0 : Value) : (A ++ (List.replicate (n - k) ([.slice none 0 0] : List Value)).flatten).set (k) v0 = (A ++ [v0]) ++ (List.replicate (n - (k + 1)) ([.slice none 0 0] : List Value)).flatten := by
  have e1 : n - k = (n - (k + 1)) + 1 := by omega
  rw [e1, List.replicate_succ, List.flatten_cons]
  rw [List.set_append_right _ _ (by omega)]
  simp [h]
theorem zIntS_made (n : Nat) : (madeCells #[.slice none 0 0] (n)).toList = (List.replicate n [.slice none 0 0]).flatten := by
  induction n with
  | zero => simp [madeCells]
  | succ n ih =>
    rw [List.replicate_succ', List.flatten_append, ← ih]
    unfold madeCells
    simp [Array.range_succ, Array.toList_range, Nat.mod_one]
theorem Try.infoIntS : (Try.prog.info? 27).map (fun i => (i.zero, i.size, i.bytes)) = some (some (.slice none 0 0), 1, 24) := by kernel_rfl
set_option maxHeartbeats 1600000 in
theorem toIntSS_c {a0 : Option Addr} {cap0 : Nat} {l : List (List Int)} {w : World} (hS : sizeIntSS l ≤ 1048576) (h : At (cSlice (cSlice cInt)) w l [.slice a0 l.length cap0]) :
    Calls Try.prog 17 #[.slice a0 l.length cap0] w fun e w' => (∃ a' cap', e = .returned (.slice a' l.length cap') ∧ Own (cSlice (cSlice cInt)) w.heap.size w' l [.slice a' l.length cap']) ∧ Below w.heap.size w w' := by
  have hs : l.length ≤ 1048576 := Nat.le_trans (Nat.le_add_right _ _) hS
  have hs2 : ∀ j (hj : j < l.length), (l[j].length) ≤ 1048576 := fun j hj => Nat.le_trans (sumIntS_ge l j hj) (Nat.le_trans (Nat.le_add_left _ _) hS)
  clear hS
  obtain ⟨n, hn⟩ : ∃ n : Nat, l.length = n := ⟨_, rfl⟩
  have Hn := Lib.hid hn
  have Hr : Hid (∀ w' : World, Below w.heap.size w w' → ∀ j (hj : j < l.length), _) := fun w' hb j hj => at_IntS (Cod.ok_below h hb) j hj
  rw [hn] at hs ⊢
  clear hn h
  obtain ⟨i0, hi, hz0, hz1, hz2⟩ := info_parts Try.infoIntS
  go_enter Try.func17, Try.ntmps17
  go_wp2_with (at_make; refine wpList_make_full _ rfl (.tmp 6) (.tmp 6) 30 rfl w.heap.size 27 i0 (.slice none 0 0) 1 Try.underlying30 hi hz0 hz1 .i64 .i64 n n n rfl rfl rfl rfl ?c1 ?c2 (Nat.le_refl _) ?_)
  case c1 => rw [hz2]; omega
  case c2 => unfold maxLen; omega
  intro w1 hown hg1
  rw [show (madeCells #[.slice none 0 0] (n)).toList = [].flatten ++ (List.replicate (n - 0) [.slice none 0 0]).flatten by rw [zIntS_made]; simp] at hown
  have hb0 : Below w.heap.size w w1 := (Below.refl _ _).grown hg1 (Nat.le_refl _) (fun k hk => by cases hk)
  clear hg1 hi hz0 hz1 hz2
  go_wp2
  go_loopw [4] (fun iv wr => ∃ (k : Nat) (F : List Nat) (css : List (List Value)), k ≤ n ∧ iv = .int .i64 k ∧ ownL (cSlice cInt) F wr (l.take k) css ∧ (∀ x, x ∈ F → w.heap.size < x ∧ x < wr.heap.size) ∧ wr.ownsRow w.heap.size 27 1 (.slice (some ⟨w.heap.size, 0, none⟩) n n) n (css.flatten ++ (List.replicate (n - k) [.slice none 0 0]).flatten) ∧ Below w.heap.size w wr) (fun iv _ => n - (intOf iv).toNat)
  case atStart => exact ⟨0, [], [], by omega, by go_num, ownL_nil _, by simp, hown, hb0⟩
  case round =>
    clear hown hb0
    obtain ⟨k, F, css, hk, rfl, hL, hF, hown, hb⟩ := hrel
    by_cases hlt : k < n
    · have hkl : k < l.length := by rw [Hn.out]; exact hlt
      obtain ⟨b, off, a, cap, rfl, hbB, c0, hx⟩ := Hr.out _ hb k hkl
      have Hc : Hid (∀ ww, Below w.heap.size wr ww → Calls Try.prog 33 #[.slice a l[k].length cap] ww fun e w' => (∃ a' cap', e = .returned (.slice a' l[k].length cap') ∧ Own (cSlice cInt) ww.heap.size w' l[k] [.slice a' l[k].length cap']) ∧ Below ww.heap.size ww w') :=
        fun ww hw2 => toIntS_c (hs2 k hkl) ((cSlice cInt).keep hx (fun k hk => hw2.block k hk) (Nat.le_trans hb.size hw2.size))
      have hlen : css.flatten.length = k * 1 := by
        have := (ownL_len hL).2
        rw [List.length_take, Nat.min_eq_left (by omega)] at this
        exact this
      have Hat := Lib.hid (zIntS_at css.flatten k n hlen hlt)
      have Hstep := Lib.hid (zIntS_step css.flatten k n hlen hlt)
      have Htake : Hid (l.take (k + 1) = l.take k ++ [l[k]]) := List.take_succ_eq_append_getElem hkl
      have HL := Lib.hid hL
      have HF := Lib.hid hF
      have Hown := Lib.hid hown
      clear hx hL hF hlen hown
      generalize l[k] = r at *
      go_wp2_with fail
      refine (Hc.out _ (Below.refl _ _)).mono ?_
      rintro e w2 ⟨⟨a', cap', rfl, ho⟩, hb2⟩
      have hown2 := ownsRow_below Hown.out hb2
      have Hown2 := Lib.hid hown2
      have hgw : w.heap.size < wr.heap.size := (Hown.out.lt _ rfl).2
      have f0 := hown2.frozenAt (k)
      have d0 := (hown2.cellAt (k) (by omega)).trans Hat.out
      have Ho := Lib.hid ho
      have hbw : Below w.heap.size w w2 := hb.trans (hb2.mono hb.size)
      clear ho hown2
      go_wp2
      go_roundw
      case rel =>
        obtain ⟨G, hG1, hG2⟩ := Ho.out
        have hown2 := Hown2.out
        have s0 := (hown2.stored (k) (.slice a' r.length cap')).1
        rw [Hstep.out] at s0
        have hkeep : ∀ kk, kk ≠ w.heap.size → (w2.setCell ⟨w.heap.size, k, none⟩ (.slice a' r.length cap')).heap[kk]? = w2.heap[kk]? := fun kk hne => (heap_setCell_other _ ⟨w.heap.size, k, none⟩ _ _ hne).trans (rfl)
        refine ⟨k + 1, F ++ G, css ++ [[.slice a' r.length cap']], by omega, by go_num, ?_, ?_, ?_, (hbw).setCell (Nat.le_refl _) _⟩
        · rw [Htake.out]
          refine ownL_snoc ((cSlice cInt).keepO hG1 (fun kk hkk => hkeep kk (by have := (hG2 kk hkk).1; omega))) (ownL_keep (ownL_below HL.out hb2 (fun kk hkk => (HF.out kk hkk).2)) (fun kk hkk => hkeep kk (by have := (HF.out kk hkk).1; omega))) ?_
          intro kk hkk hg
          have := (HF.out kk hkk).2
          have := (hG2 kk hg).1
          omega
        · intro x hx
          simp only [World.setCell, Array.size_modify]
          rcases List.mem_append.1 hx with hx | hx
          · have := HF.out x hx; have := hb2.size; omega
          · have := hG2 x hx; omega
        · simpa using s0
      case measure => simp [intOf]; omega
    · obtain rfl : k = n := by omega
      have hlk : l.take k = l := List.take_of_length_le (by rw [Hn.out]; exact Nat.le_refl _)
      rw [hlk] at hL
      rw [Nat.sub_self, List.replicate_zero, List.flatten_nil, List.append_nil] at hown
      clear hlk
      go_wp2
      go_ret
      refine ⟨⟨_, _, rfl, ?_⟩, hb⟩
      have hlen : l.length = k := Hn.out
      subst hlen
      exact Own.slice (c := (cSlice cInt)) hL hown (fun x hx => by have := hF x hx; omega) (by unfold maxLen; omega)
set_option maxHeartbeats 1600000 in
theorem eqIntSS_c {a0 a0' : Option Addr} {cap0 cap0' : Nat} {l m : List (List Int)} {w : World} (h : At (cSlice (cSlice cInt)) w l [.slice a0 l.length cap0]) (h' : At (cSlice (cSlice cInt)) w m [.slice a0' m.length cap0']) :
    Calls Try.prog 23 #[.slice a0 l.length cap0, .slice a0' m.length cap0'] w fun e w' => e = .returned (.bool (decide (l = m))) ∧ Below w.heap.size w w' := by
  have hm := (slice_len h).2
  have hm' := (slice_len h').2
  unfold maxLen at hm hm'
  by_cases hne : l.length = m.length
  · obtain ⟨n, hn⟩ : ∃ n : Nat, l.length = n := ⟨_, rfl⟩
    have Hr : Hid (∀ w' : World, Below w.heap.size w w' → ∀ j (hj : j < l.length), _) := fun w' hb j hj => at_IntS (Cod.ok_below h hb) j hj
    have Hr' : Hid (∀ w' : World, Below w.heap.size w w' → ∀ j (hj : j < m.length), _) := fun w' hb j hj => at_IntS (Cod.ok_below h' hb) j hj
    clear h h'
    rw [← hne, hn]
    have Hn := Lib.hid hn
    have Hm : Hid (m.length = n) := by rw [← hne]; exact hn
    have hm2 : n ≤ 2 ^ 63 - 1 := by omega
    generalize hR : decide (l = m) = R
    have HR : Hid (decide (l.drop 0 = m.drop 0) = R) := hR
    clear hR hne hn hm hm'
    go_enter Try.func23, Try.ntmps23
    go_wp2
    go_loopw [5] (fun iv wr => ∃ k : Nat, k ≤ n ∧ iv = .int .i64 k ∧ Hid (decide (l.drop k = m.drop k) = R) ∧ Below w.heap.size w wr) (fun iv _ => n - (intOf iv).toNat)
    case atStart => exact ⟨0, by omega, by go_num, HR, Below.refl _ _⟩
    case round =>
      clear HR
      obtain ⟨k, hk, rfl, Hq, hb⟩ := hrel
      by_cases hlt : k < n
      · have hkl : k < l.length := by rw [Hn.out]; exact hlt
        have hkm : k < m.length := by rw [Hm.out]; exact hlt
        have Hst : Hid (R = (decide (l[k] = m[k]) && decide (l.drop (k + 1) = m.drop (k + 1)))) := by
          show R = _
          rw [← Hq.out, ← Bool.decide_and]; congr 1; rw [List.drop_eq_getElem_cons hkl, List.drop_eq_getElem_cons hkm, List.cons.injEq]
        obtain ⟨b, off, a, cap, rfl, hbB, c0, hx⟩ := Hr.out _ hb k hkl
        obtain ⟨b', off', a', cap', rfl, hbB', e0, hy⟩ := Hr'.out _ hb k hkm
        have Hc : Hid (∀ ww, Below w.heap.size wr ww → Calls Try.prog 44 #[.slice a l[k].length cap, .slice a' m[k].length cap'] ww fun e w' => e = .returned (.bool (decide (l[k] = m[k]))) ∧ Below ww.heap.size ww w') :=
          fun ww hw2 => eqIntS_c ((cSlice cInt).keep hx (fun k hk => hw2.block k hk) (Nat.le_trans hb.size hw2.size)) ((cSlice cInt).keep hy (fun k hk => hw2.block k hk) (Nat.le_trans hb.size hw2.size))
        clear hx hy Hq
        generalize l[k] = r at *
        generalize m[k] = r' at *
        generalize decide (r = r') = z at *
        cases z with
        | true =>
          go_wp2_with fail
          go_region_with (go_at_call 44; refine (Hc.out _ ?hww).mono ?_; (case hww => first | exact Below.refl _ _ | exact (Below.refl _ _).drew | exact Below.drewN' (Below.refl _ _) _); rintro e w1 ⟨rfl, hb1⟩)
          all_goals
            go_wp2
            go_roundw
            case rel =>
              have h := Hst.out
              rw [Bool.true_and] at h
              exact ⟨k + 1, by omega, by go_num, h.symm, hb.drew.trans (hb1.mono hb.size)⟩
            case measure => simp [intOf]; omega
        | false =>
          have hR : R = false := by have h := Hst.out; rw [Bool.false_and] at h; exact h
          go_wp2_with fail
          go_region_with (go_at_call 44; refine (Hc.out _ ?hww).mono ?_; (case hww => first | exact Below.refl _ _ | exact (Below.refl _ _).drew | exact Below.drewN' (Below.refl _ _) _); rintro e w1 ⟨rfl, hb1⟩)
          all_goals
            go_wp2
            go_ret
            exact ⟨by rw [hR]; rfl, hb.drew.trans (hb1.mono hb.size)⟩
      · obtain rfl : k = n := by omega
        have hR : R = true := by
          have := Hq.out
          rw [List.drop_eq_nil_of_le (by rw [Hn.out]; exact Nat.le_refl _), List.drop_eq_nil_of_le (by rw [Hm.out]; exact Nat.le_refl _)] at this
          simpa using this.symm
        go_wp2
        go_ret
        exact ⟨by rw [hR]; rfl, hb⟩
  · rw [decide_eq_false (fun e => hne (by rw [e]))]
    have hne2 : (l.length != m.length) = true := by simpa using hne
    go_enter Try.func23, Try.ntmps23
    go_wp2
    go_ret
    exact ⟨rfl, Below.refl _ _⟩
end Go.Proofs.Ytpcjhnbifgjleaa

/- Structs: readings, the laws' helpers on them (size, copy, equality). -/
namespace Go.Proofs.Ytpcjhnbifgjleaa
open Go.RowKit
set_option linter.unusedVariables false
set_option maxRecDepth 100000

/-- A denial constraint. -/
structure Dcn where
  r1 : Int
  r2 : Int
  j1 : Int
  j2 : Int
  c1 : Int
  c2 : Int
  cmp : Int
deriving DecidableEq
def cDcn : Cod Dcn := cMap (fun x => (x.r1, (x.r2, (x.j1, (x.j2, (x.c1, (x.c2, x.cmp))))))) (cPair cInt (cPair cInt (cPair cInt (cPair cInt (cPair cInt (cPair cInt cInt))))))
theorem cDcn_fields {B : Nat} {w : World} {x : Dcn} {cs : List Value} (h : cDcn.ok B w x cs) : cs = [.int .i64 x.r1, .int .i64 x.r2, .int .i64 x.j1, .int .i64 x.j2, .int .i64 x.c1, .int .i64 x.c2, .int .i64 x.cmp] ∧ inR x.r1 ∧ inR x.r2 ∧ inR x.j1 ∧ inR x.j2 ∧ inR x.c1 ∧ inR x.c2 ∧ inR x.cmp := by
  obtain ⟨_, _, rfl, h0, _, _, rfl, h1, _, _, rfl, h2, _, _, rfl, h3, _, _, rfl, h4, _, _, rfl, h5, h6⟩ := h
  obtain ⟨rfl, g0⟩ := h0
  obtain ⟨rfl, g1⟩ := h1
  obtain ⟨rfl, g2⟩ := h2
  obtain ⟨rfl, g3⟩ := h3
  obtain ⟨rfl, g4⟩ := h4
  obtain ⟨rfl, g5⟩ := h5
  obtain ⟨rfl, g6⟩ := h6
  exact ⟨rfl, g0, g1, g2, g3, g4, g5, g6⟩
theorem cDcn_open {B : Nat} {w : World} {x : Dcn} {cs : List Value} (h : cDcn.ok B w x cs) : cs = [.int .i64 x.r1, .int .i64 x.r2, .int .i64 x.j1, .int .i64 x.j2, .int .i64 x.c1, .int .i64 x.c2, .int .i64 x.cmp] ∧ cDcn.ok B w x [.int .i64 x.r1, .int .i64 x.r2, .int .i64 x.j1, .int .i64 x.j2, .int .i64 x.c1, .int .i64 x.c2, .int .i64 x.cmp] := by
  have h0 := h
  obtain ⟨rfl, _⟩ := cDcn_fields h
  exact ⟨rfl, h0⟩
theorem cDcn_inv {B : Nat} {w : World} {x : Dcn} {v0 v1 v2 v3 v4 v5 v6 : Value} (h : cDcn.ok B w x [v0, v1, v2, v3, v4, v5, v6]) : inR x.r1 ∧ inR x.r2 ∧ inR x.j1 ∧ inR x.j2 ∧ inR x.c1 ∧ inR x.c2 ∧ inR x.cmp := by
  obtain ⟨e, g0, g1, g2, g3, g4, g5, g6⟩ := cDcn_fields h
  simp only [List.cons.injEq, and_true] at e
  obtain ⟨rfl, rfl, rfl, rfl, rfl, rfl, rfl⟩ := e
  exact ⟨g0, g1, g2, g3, g4, g5, g6⟩
theorem cDcn_mk {B : Nat} {w : World} {x : Dcn} (g0 : inR x.r1) (g1 : inR x.r2) (g2 : inR x.j1) (g3 : inR x.j2) (g4 : inR x.c1) (g5 : inR x.c2) (g6 : inR x.cmp) : cDcn.ok B w x [.int .i64 x.r1, .int .i64 x.r2, .int .i64 x.j1, .int .i64 x.j2, .int .i64 x.c1, .int .i64 x.c2, .int .i64 x.cmp] := ⟨[_], _, rfl, ⟨rfl, g0⟩, ⟨[_], _, rfl, ⟨rfl, g1⟩, ⟨[_], _, rfl, ⟨rfl, g2⟩, ⟨[_], _, rfl, ⟨rfl, g3⟩, ⟨[_], _, rfl, ⟨rfl, g4⟩, ⟨[_], _, rfl, ⟨rfl, g5⟩, ⟨rfl, g6⟩⟩⟩⟩⟩⟩⟩
theorem cDcn_own {lo hi  : Nat} {w : World} {x : Dcn} (g0 : inR x.r1) (g1 : inR x.r2) (g2 : inR x.j1) (g3 : inR x.j2) (g4 : inR x.c1) (g5 : inR x.c2) (g6 : inR x.cmp) (q : lo ≤ hi) : OwnIn cDcn lo hi w x [.int .i64 x.r1, .int .i64 x.r2, .int .i64 x.j1, .int .i64 x.j2, .int .i64 x.c1, .int .i64 x.c2, .int .i64 x.cmp] := (OwnIn.pair (OwnIn.int lo lo _ g0) (OwnIn.pair (OwnIn.int lo lo _ g1) (OwnIn.pair (OwnIn.int lo lo _ g2) (OwnIn.pair (OwnIn.int lo lo _ g3) (OwnIn.pair (OwnIn.int lo lo _ g4) (OwnIn.pair (OwnIn.int lo lo _ g5) (OwnIn.int lo hi _ g6) (by omega) (by omega)) (by omega) (by omega)) (by omega) (by omega)) (by omega) (by omega)) (by omega) (by omega)) (by omega) (by omega))
/-- An edge: two vertices. -/
structure Edg where
  a : Int
  b : Int
deriving DecidableEq
def cEdg : Cod Edg := cMap (fun x => (x.a, x.b)) (cPair cInt cInt)
theorem cEdg_fields {B : Nat} {w : World} {x : Edg} {cs : List Value} (h : cEdg.ok B w x cs) : cs = [.int .i64 x.a, .int .i64 x.b] ∧ inR x.a ∧ inR x.b := by
  obtain ⟨_, _, rfl, h0, h1⟩ := h
  obtain ⟨rfl, g0⟩ := h0
  obtain ⟨rfl, g1⟩ := h1
  exact ⟨rfl, g0, g1⟩
theorem cEdg_open {B : Nat} {w : World} {x : Edg} {cs : List Value} (h : cEdg.ok B w x cs) : cs = [.int .i64 x.a, .int .i64 x.b] ∧ cEdg.ok B w x [.int .i64 x.a, .int .i64 x.b] := by
  have h0 := h
  obtain ⟨rfl, _⟩ := cEdg_fields h
  exact ⟨rfl, h0⟩
theorem cEdg_inv {B : Nat} {w : World} {x : Edg} {v0 v1 : Value} (h : cEdg.ok B w x [v0, v1]) : inR x.a ∧ inR x.b := by
  obtain ⟨e, g0, g1⟩ := cEdg_fields h
  simp only [List.cons.injEq, and_true] at e
  obtain ⟨rfl, rfl⟩ := e
  exact ⟨g0, g1⟩
theorem cEdg_mk {B : Nat} {w : World} {x : Edg} (g0 : inR x.a) (g1 : inR x.b) : cEdg.ok B w x [.int .i64 x.a, .int .i64 x.b] := ⟨[_], _, rfl, ⟨rfl, g0⟩, ⟨rfl, g1⟩⟩
theorem cEdg_own {lo hi  : Nat} {w : World} {x : Edg} (g0 : inR x.a) (g1 : inR x.b) (q : lo ≤ hi) : OwnIn cEdg lo hi w x [.int .i64 x.a, .int .i64 x.b] := (OwnIn.pair (OwnIn.int lo lo _ g0) (OwnIn.int lo hi _ g1) (by omega) (by omega))
/-- An atom: its relation's place, its terms. -/
structure Atm where
  rel : Int
  terms : List Int
deriving DecidableEq
def cAtm : Cod Atm := cMap (fun x => (x.rel, x.terms)) (cPair cInt (cSlice cInt))
theorem cAtm_fields {B : Nat} {w : World} {x : Atm} {cs : List Value} (h : cAtm.ok B w x cs) : ∃ a1 cap1, cs = [.int .i64 x.rel, .slice a1 x.terms.length cap1] ∧ (cSlice cInt).ok B w x.terms [.slice a1 x.terms.length cap1] ∧ inR x.rel := by
  obtain ⟨_, _, rfl, h0, h1⟩ := h
  obtain ⟨rfl, g0⟩ := h0
  have k1 := h1
  obtain ⟨a1, cap1, rfl, _⟩ := k1
  exact ⟨a1, cap1, rfl, h1, g0⟩
theorem cAtm_open {B : Nat} {w : World} {x : Atm} {cs : List Value} (h : cAtm.ok B w x cs) : ∃ a1 cap1, cs = [.int .i64 x.rel, .slice a1 x.terms.length cap1] ∧ cAtm.ok B w x [.int .i64 x.rel, .slice a1 x.terms.length cap1] := by
  have h0 := h
  obtain ⟨a1, cap1, rfl, _⟩ := cAtm_fields h
  exact ⟨a1, cap1, rfl, h0⟩
theorem cAtm_inv {B : Nat} {w : World} {x : Atm} {v0 v1 : Value} (h : cAtm.ok B w x [v0, v1]) : (cSlice cInt).ok B w x.terms [v1] ∧ inR x.rel := by
  obtain ⟨a1, cap1, e, h1, g0⟩ := cAtm_fields h
  simp only [List.cons.injEq, and_true] at e
  obtain ⟨rfl, rfl⟩ := e
  exact ⟨h1, g0⟩
theorem cAtm_mk {B : Nat} {w : World} {x : Atm} {v1 : Value} (h1 : (cSlice cInt).ok B w x.terms [v1]) (g0 : inR x.rel) : cAtm.ok B w x [.int .i64 x.rel, v1] := ⟨[_], _, rfl, ⟨rfl, g0⟩, h1⟩
theorem cAtm_own {lo hi lo1 hi1 : Nat} {w : World} {x : Atm} {v1 : Value} (h1 : OwnIn (cSlice cInt) lo1 hi1 w x.terms [v1]) (l1 : lo1 ≤ hi1) (g0 : inR x.rel) (q1 : lo ≤ lo1) (q : hi1 ≤ hi) : OwnIn cAtm lo hi w x [.int .i64 x.rel, v1] := (OwnIn.pair (OwnIn.int lo lo _ g0) (h1.wide (lo' := lo) (hi' := hi) (by omega) (by omega)) (by omega) (by omega))
/-- Its size: its leaves behind slices. -/
def sizeAtom (x : Atm) : Nat := x.terms.length
theorem szAtom_c {a1 : Option Addr} {cap1 : Nat} {x : Atm} {left : Int} {w : World} (hl : 0 ≤ left) (hl2 : left ≤ 1048576) (h : At cAtm w x [.int .i64 x.rel, .slice a1 x.terms.length cap1]) :
    Calls Try.prog 47 #[.agg #[.int .i64 x.rel, .slice a1 x.terms.length cap1], .int .i64 left] w fun e w' => e = .returned (.int .i64 (szR left (sizeAtom x))) ∧ Below w.heap.size w w' := by
  obtain ⟨k1, _⟩ := cAtm_inv h
  unfold sizeAtom
  clear h
  obtain ⟨rel, terms⟩ := x
  simp only at *
  have H1 : Hid (∀ q : Int, 0 ≤ q → q ≤ 1048576 → ∀ ww, Below w.heap.size w ww → Calls Try.prog 27 #[.slice a1 terms.length cap1, .int .i64 q] ww fun e w' => e = .returned (.int .i64 (szR q (terms.length))) ∧ Below ww.heap.size ww w') :=
    fun q h0 h1 ww hb => szIntS_c h0 h1 (At.below (c := (cSlice cInt)) k1 hb (Nat.le_refl _))
  clear k1
  have G1 := Lib.hid (H1.out (left) (by omega) (by omega))
  have hn1 : szR (left) (terms.length) < 0 → szR (left) (terms.length) = -1 := szR_neg
  have hle1 := szR_le (left) (terms.length) (by omega)
  generalize szR (left) (terms.length) = z1 at *
  by_cases hz1 : z1 < 0
  · obtain rfl : z1 = -1 := hn1 hz1
    clear hn1
    go_enter Try.func47, Try.ntmps47
    go_wp2_with fail
    refine (G1.out _ ?hb).mono ?_
    case hb => go_grown
    rintro e w1 ⟨rfl, hb1⟩
    have hbb1 : Below w.heap.size w w1 := Below.trans (by go_grown) (hb1.mono (by simp; try omega))
    have hsz1 : w.heap.size + 1 ≤ w1.heap.size := by have := hb1.size; simp at this; omega
    have p1_0 : w1.cell? ⟨w.heap.size, 0, none⟩ = some (.int .i64 rel) := (hb1.cell (by simp)).trans (by go_simp)
    have p1_1 : w1.cell? ⟨w.heap.size, 1, none⟩ = some (.slice a1 terms.length cap1) := (hb1.cell (by simp)).trans (by go_simp)
    clear hb1
    go_wp2
    go_ret
    exact ⟨rfl, hbb1⟩
  · clear hn1
    go_enter Try.func47, Try.ntmps47
    go_wp2_with fail
    refine (G1.out _ ?hb).mono ?_
    case hb => go_grown
    rintro e w1 ⟨rfl, hb1⟩
    have hbb1 : Below w.heap.size w w1 := Below.trans (by go_grown) (hb1.mono (by simp; try omega))
    have hsz1 : w.heap.size + 1 ≤ w1.heap.size := by have := hb1.size; simp at this; omega
    have p1_0 : w1.cell? ⟨w.heap.size, 0, none⟩ = some (.int .i64 rel) := (hb1.cell (by simp)).trans (by go_simp)
    have p1_1 : w1.cell? ⟨w.heap.size, 1, none⟩ = some (.slice a1 terms.length cap1) := (hb1.cell (by simp)).trans (by go_simp)
    clear hb1
    go_wp2
    go_ret
    exact ⟨rfl, hbb1⟩
set_option maxHeartbeats 800000 in
theorem toAtom_c {a1 : Option Addr} {cap1 : Nat} {x : Atm} {w : World} (hs : sizeAtom x ≤ 1048576) (h : At cAtm w x [.int .i64 x.rel, .slice a1 x.terms.length cap1]) :
    Calls Try.prog 50 #[.agg #[.int .i64 x.rel, .slice a1 x.terms.length cap1]] w fun e w' => (∃ a1' cap1', e = .returned (.agg #[.int .i64 x.rel, .slice a1' x.terms.length cap1']) ∧ Own cAtm w.heap.size w' x [.int .i64 x.rel, .slice a1' x.terms.length cap1']) ∧ Below w.heap.size w w' := by
  unfold sizeAtom at hs
  obtain ⟨k1, g0⟩ := cAtm_inv h
  have G0 := Lib.hid g0
  clear g0
  clear h
  obtain ⟨rel, terms⟩ := x
  simp only at *
  have H1 : Hid (∀ ww, Below w.heap.size w ww → Calls Try.prog 33 #[.slice a1 terms.length cap1] ww fun e w' => (∃ a' cap', e = .returned (.slice a' terms.length cap') ∧ Own (cSlice cInt) ww.heap.size w' terms [.slice a' terms.length cap']) ∧ Below ww.heap.size ww w') :=
    fun ww hb => toIntS_c (by omega) (At.below (c := (cSlice cInt)) k1 hb (Nat.le_refl _))
  clear hs k1
  go_enter Try.func50, Try.ntmps50
  go_wp2_with fail
  refine (H1.out _ ?hb).mono ?_
  case hb => go_grown
  rintro e w1 ⟨⟨a1', cap1', rfl, ho1⟩, hb1⟩
  have hbb1 : Below w.heap.size w w1 := Below.trans (by go_grown) (hb1.mono (by simp; try omega))
  have hsz1 : w.heap.size + 3 ≤ w1.heap.size := by have := hb1.size; simp at this; omega
  have p1_0 : w1.cell? ⟨w.heap.size, 0, none⟩ = some (.int .i64 rel) := (hb1.cell (by simp; try omega)).trans (by go_simp)
  have o1_0 : w1.cell? ⟨w.heap.size + 1 + 1, 0, none⟩ = some (.int .i64 rel) := (hb1.cell (by simp; try omega)).trans (by go_simp)
  have f1_0 : w1.frozen? ⟨w.heap.size + 1 + 1, 0, none⟩ = false := (hb1.frozen (by simp; try omega)).trans (by go_simp)
  have e1_0 : w1.cell? ⟨w.heap.size + 1, 0, none⟩ = some (.int .i64 0) := (hb1.cell (by simp; try omega)).trans (by go_simp)
  have g1_0 : w1.frozen? ⟨w.heap.size + 1, 0, none⟩ = false := (hb1.frozen (by simp; try omega)).trans (by go_simp)
  have p1_1 : w1.cell? ⟨w.heap.size, 1, none⟩ = some (.slice a1 terms.length cap1) := (hb1.cell (by simp; try omega)).trans (by go_simp)
  have o1_1 : w1.cell? ⟨w.heap.size + 1 + 1, 1, none⟩ = some (.slice none 0 0) := (hb1.cell (by simp; try omega)).trans (by go_simp)
  have f1_1 : w1.frozen? ⟨w.heap.size + 1 + 1, 1, none⟩ = false := (hb1.frozen (by simp; try omega)).trans (by go_simp)
  have e1_1 : w1.cell? ⟨w.heap.size + 1, 1, none⟩ = some (.slice none 0 0) := (hb1.cell (by simp; try omega)).trans (by go_simp)
  have g1_1 : w1.frozen? ⟨w.heap.size + 1, 1, none⟩ = false := (hb1.frozen (by simp; try omega)).trans (by go_simp)
  have hR1 : w1.heap[w.heap.size + 1]? = some (.cells #[.int .i64 0, .slice none 0 0] 66 (0, 0)) := (hb1.block _ (by simp; try omega)).trans (by rw [Go.heap_alloc_old _ _ (by simp; try omega)]; exact heap_alloc2_new _ _ _)
  have u1 : OwnIn (cSlice cInt) (w.heap.size + 3) w1.heap.size w1 terms _ := OwnIn.wide ho1 (by simp; try omega) (Nat.le_refl _)
  clear hb1 ho1
  have U1 := Lib.hid u1
  clear u1
  go_wp2
  (try simp only [Exit.inBlock, Exit.then])
  refine bodyPost_ret (results_cell_row rfl _ _ (w.heap.size + 1) _ _ _ _ rfl (heap_setCell_same _ _ 1 _ _ _ (heap_setCell_same _ _ 0 _ _ _ ((heap_setCell_other _ _ _ _ (by simp)).trans (hR1)))) Try.underlying66 rfl (by kernel_rfl)) rfl ?_
  exact ⟨⟨_, _, rfl, OwnIn.own (cAtm_own (x := ⟨rel, terms⟩) (lo := w.heap.size) (hi := w1.heap.size) ((((U1.out).setCell (by simp; try omega) _).setCell (by simp; try omega) _).setCell (by simp; try omega) _) (by omega) G0.out (by omega) (by omega)) (by simp [World.setCell])⟩, (((hbb1).setCell (by simp; try omega) _).setCell (by simp; try omega) _).setCell (by simp; try omega) _⟩
theorem eqAtom_c {a1 : Option Addr} {cap1 : Nat} {a1' : Option Addr} {cap1' : Nat} {x y : Atm} {w : World} (h : At cAtm w x [.int .i64 x.rel, .slice a1 x.terms.length cap1]) (h' : At cAtm w y [.int .i64 y.rel, .slice a1' y.terms.length cap1']) :
    Calls Try.prog 54 #[.agg #[.int .i64 x.rel, .slice a1 x.terms.length cap1], .agg #[.int .i64 y.rel, .slice a1' y.terms.length cap1']] w fun e w' => e = .returned (.bool (decide (x = y))) ∧ Below w.heap.size w w' := by
  obtain ⟨k1, _⟩ := cAtm_inv h
  obtain ⟨m1, _⟩ := cAtm_inv h'
  clear h h'
  obtain ⟨rel, terms⟩ := x
  obtain ⟨rel', terms'⟩ := y
  have he : decide (Atm.mk rel terms = Atm.mk rel' terms') = (decide (rel = rel') && decide (terms = terms')) := by
    simp only [← Bool.decide_and]; congr 1; rw [Atm.mk.injEq]
  rw [he]
  clear he
  simp only at *
  have H1 : Hid (∀ ww, Below w.heap.size w ww → Calls Try.prog 44 #[.slice a1 terms.length cap1, .slice a1' terms'.length cap1'] ww fun e w' => e = .returned (.bool (decide (terms = terms'))) ∧ Below ww.heap.size ww w') :=
    fun ww hb => eqIntS_c (At.below (c := (cSlice cInt)) k1 hb (Nat.le_refl _)) (At.below (c := (cSlice cInt)) m1 hb (Nat.le_refl _))
  clear k1 m1
  by_cases hr0 : rel = rel'
  · subst hr0
    rw [decide_eq_true rfl, Bool.true_and]
    generalize decide (terms = terms') = z1 at *
    cases z1 with
    | true =>
      go_enter Try.func54, Try.ntmps54
      go_wp2_with fail
      refine (H1.out _ ?hb).mono ?_
      case hb => go_grown
      rintro e w1 ⟨rfl, hb1⟩
      have hbb1 : Below w.heap.size w w1 := Below.trans (by go_grown) (hb1.mono (by simp; try omega))
      have hsz1 : w.heap.size + 2 ≤ w1.heap.size := by have := hb1.size; simp at this; omega
      have p1_0 : w1.cell? ⟨w.heap.size, 0, none⟩ = some (.int .i64 rel) := (hb1.cell (by simp; try omega)).trans (by go_simp)
      have r1_0 : w1.cell? ⟨w.heap.size + 1, 0, none⟩ = some (.int .i64 rel) := (hb1.cell (by simp; try omega)).trans (by go_simp)
      have p1_1 : w1.cell? ⟨w.heap.size, 1, none⟩ = some (.slice a1 terms.length cap1) := (hb1.cell (by simp; try omega)).trans (by go_simp)
      have r1_1 : w1.cell? ⟨w.heap.size + 1, 1, none⟩ = some (.slice a1' terms'.length cap1') := (hb1.cell (by simp; try omega)).trans (by go_simp)
      clear hb1
      go_wp2
      go_ret
      exact ⟨by simp, hbb1⟩
    | false =>
      go_enter Try.func54, Try.ntmps54
      go_wp2_with fail
      refine (H1.out _ ?hb).mono ?_
      case hb => go_grown
      rintro e w1 ⟨rfl, hb1⟩
      have hbb1 : Below w.heap.size w w1 := Below.trans (by go_grown) (hb1.mono (by simp; try omega))
      have hsz1 : w.heap.size + 2 ≤ w1.heap.size := by have := hb1.size; simp at this; omega
      have p1_0 : w1.cell? ⟨w.heap.size, 0, none⟩ = some (.int .i64 rel) := (hb1.cell (by simp; try omega)).trans (by go_simp)
      have r1_0 : w1.cell? ⟨w.heap.size + 1, 0, none⟩ = some (.int .i64 rel) := (hb1.cell (by simp; try omega)).trans (by go_simp)
      have p1_1 : w1.cell? ⟨w.heap.size, 1, none⟩ = some (.slice a1 terms.length cap1) := (hb1.cell (by simp; try omega)).trans (by go_simp)
      have r1_1 : w1.cell? ⟨w.heap.size + 1, 1, none⟩ = some (.slice a1' terms'.length cap1') := (hb1.cell (by simp; try omega)).trans (by go_simp)
      clear hb1
      go_wp2
      go_ret
      exact ⟨by simp, hbb1⟩
  · have hn0 : (rel != rel') = true := by simp [hr0]
    rw [decide_eq_false hr0, Bool.false_and]
    go_enter Try.func54, Try.ntmps54
    go_wp2
    go_ret
    exact ⟨by simp, by go_grown⟩
end Go.Proofs.Ytpcjhnbifgjleaa

/- Slices of structs: the laws' helpers on them (size, copy, equality). -/
namespace Go.Proofs.Ytpcjhnbifgjleaa
open Go.RowKit
set_option linter.unusedVariables false
set_option maxRecDepth 100000

/-- Element j of such a slice. -/
theorem at_ConflictEdge {B : Nat} {w : World} {l : List Edg} {a0 : Option Addr} {len cap0 : Nat} (h : (cSlice cEdg).ok B w l [.slice a0 len cap0]) (j : Nat) (hj : j < l.length) :
    ∃ b off, a0 = some ⟨b, off, none⟩ ∧ b < B ∧ w.cell? ⟨b, off + j * 2, none⟩ = some (.int .i64 l[j].a) ∧ w.cell? ⟨b, off + j * 2 + 1, none⟩ = some (.int .i64 l[j].b) ∧ cEdg.ok B w l[j] [.int .i64 l[j].a, .int .i64 l[j].b] := by
  obtain ⟨b, off, es, rfl, hb, he, hc⟩ := slice_at h j hj
  obtain ⟨rfl, hx⟩ := cEdg_open he
  exact ⟨b, off, rfl, hb, by exact hc 0 (by decide), by exact hc 1 (by decide), hx⟩
theorem zConflictEdge_at (A : List Value) (k n : Nat) (h : A.length = k * 2) (hk : k < n) : (A ++ (List.replicate (n - k) ([.int .i64 0, .int .i64 0] : List Value)).flatten)[k * 2]? = some (.int .i64 0) ∧ (A ++ (List.replicate (n - k) ([.int .i64 0, .int .i64 0] : List Value)).flatten)[k * 2 + 1]? = some (.int .i64 0) := by
  have e1 : n - k = (n - (k + 1)) + 1 := by omega
  rw [e1, List.replicate_succ, List.flatten_cons]
  refine ⟨?_, ?_⟩
  · rw [List.getElem?_append_right (by omega)]; simp [h]
  · rw [List.getElem?_append_right (by omega)]; simp [h]
theorem zConflictEdge_step (A : List Value) (k n : Nat) (h : A.length = k * 2) (hk : k < n) (v0 v1 : Value) : ((A ++ (List.replicate (n - k) ([.int .i64 0, .int .i64 0] : List Value)).flatten).set (k * 2) v0).set (k * 2 + 1) v1 = (A ++ [v0, v1]) ++ (List.replicate (n - (k + 1)) ([.int .i64 0, .int .i64 0] : List Value)).flatten := by
  have e1 : n - k = (n - (k + 1)) + 1 := by omega
  rw [e1, List.replicate_succ, List.flatten_cons]
  rw [List.set_append_right _ _ (by omega), List.set_append_right _ _ (by omega)]
  simp [h]
theorem zConflictEdge_made (n : Nat) : (madeCells #[.int .i64 0, .int .i64 0] (n * 2)).toList = (List.replicate n [.int .i64 0, .int .i64 0]).flatten := by
  induction n with
  | zero => simp [madeCells]
  | succ n ih =>
    rw [List.replicate_succ', List.flatten_append, ← ih]
    unfold madeCells
    simp [Array.range_succ, Array.toList_range, Nat.add_mod, Nat.mul_mod_left, Nat.succ_mul]
/-- Element j of such a slice. -/
theorem at_Atom {B : Nat} {w : World} {l : List Atm} {a0 : Option Addr} {len cap0 : Nat} (h : (cSlice cAtm).ok B w l [.slice a0 len cap0]) (j : Nat) (hj : j < l.length) :
    ∃ b off a cap, a0 = some ⟨b, off, none⟩ ∧ b < B ∧ w.cell? ⟨b, off + j * 2, none⟩ = some (.int .i64 l[j].rel) ∧ w.cell? ⟨b, off + j * 2 + 1, none⟩ = some (.slice a l[j].terms.length cap) ∧ cAtm.ok B w l[j] [.int .i64 l[j].rel, .slice a l[j].terms.length cap] := by
  obtain ⟨b, off, es, rfl, hb, he, hc⟩ := slice_at h j hj
  obtain ⟨a, cap, rfl, hx⟩ := cAtm_open he
  exact ⟨b, off, a, cap, rfl, hb, by exact hc 0 (by decide), by exact hc 1 (by decide), hx⟩
/-- The leaves of such a slice. -/
def sumAtom (l : List Atm) : Nat := (l.map fun x => x.terms.length).sum
/-- The size of such a slice: its length and its leaves. -/
def sizeAtomS (l : List Atm) : Nat := l.length + sumAtom l
theorem sumAtom_ge (l : List Atm) (k : Nat) (hk : k < l.length) : (l[k].terms.length) ≤ sumAtom l := by
  induction l generalizing k with
  | nil => simp at hk
  | cons x l ih =>
    unfold sumAtom at *
    rw [List.map_cons, List.sum_cons]
    cases k with
    | zero => exact Nat.le_add_right _ _
    | succ k => exact Nat.le_trans (ih k (by simpa using hk)) (Nat.le_add_left _ _)
theorem sumAtom_drop (l : List Atm) (k : Nat) (hk : k < l.length) : sumAtom (l.drop k) = (l[k].terms.length) + sumAtom (l.drop (k + 1)) := by
  unfold sumAtom; rw [List.drop_eq_getElem_cons hk, List.map_cons, List.sum_cons]
theorem szAtomS_c {a0 : Option Addr} {cap0 : Nat} {l : List Atm} {left : Int} {w : World} (hl : 0 ≤ left) (hl2 : left ≤ 1048576) (h : At (cSlice cAtm) w l [.slice a0 l.length cap0]) :
    Calls Try.prog 26 #[.slice a0 l.length cap0, .int .i64 left] w fun e w' => e = .returned (.int .i64 (szR left (sizeAtomS l))) ∧ Below w.heap.size w w' := by
  have hm := (slice_len h).2
  unfold maxLen at hm
  have hw : wrap64 (left - (l.length : Int)) = left - (l.length : Int) := IntWalk.wrap64_in _ ⟨by omega, by omega⟩
  obtain ⟨n, hn⟩ : ∃ n : Nat, l.length = n := ⟨_, rfl⟩
  have Hn := Lib.hid hn
  have Hr : Hid (∀ w' : World, Below w.heap.size w w' → ∀ j (hj : j < l.length), _) := fun w' hb j hj => at_Atom (Cod.ok_below h hb) j hj
  unfold sizeAtomS
  rw [hn] at hw hm ⊢
  clear h hn
  rw [szR_step left n]
  by_cases h0 : left - (n : Int) < 0
  · rw [if_pos (by unfold szR; rw [if_pos h0]; decide)]
    go_enter Try.func26, Try.ntmps26
    go_wp2
    go_ret
    exact ⟨rfl, Below.refl _ _⟩
  · have hz : szR left n = left - (n : Int) := if_neg h0
    rw [hz, if_neg h0]
    clear hz
    generalize hR : szR (left - (n : Int)) (sumAtom l) = R
    have HR : Hid (szR (left - (n : Int)) (sumAtom (l.drop 0)) = R) := hR
    clear hR
    go_enter Try.func26, Try.ntmps26
    go_wp2
    go_loopw [1, 5] (fun lv iv wr => ∃ (k : Nat) (q : Int), k ≤ n ∧ lv = .int .i64 q ∧ iv = .int .i64 k ∧ 0 ≤ q ∧ q ≤ 1048576 ∧ Hid (szR q (sumAtom (l.drop k)) = R) ∧ Below w.heap.size w wr) (fun _ iv _ => n - (intOf iv).toNat)
    case atStart => exact ⟨0, left - n, by omega, rfl, rfl, by omega, by omega, HR, Below.refl _ _⟩
    case round =>
      clear HR hw
      obtain ⟨k, q, hk, rfl, rfl, hq0, hq1, Hq, hb⟩ := hrel
      by_cases hlt : k < n
      · have hkl : k < l.length := by rw [Hn.out]; exact hlt
        obtain ⟨b, off, a, cap, rfl, hbB, c0, c1, hx⟩ := Hr.out _ hb k hkl
        have hst : Hid (R = if szR q (l[k].terms.length) < 0 then -1 else szR (szR q (l[k].terms.length)) (sumAtom (l.drop (k + 1)))) := by
          show R = _
          rw [← szR_step, ← sumAtom_drop l k hkl, Hq.out]
        have Hc : Hid (∀ ww, Below w.heap.size wr ww → Calls Try.prog 47 #[.agg #[.int .i64 l[k].rel, .slice a l[k].terms.length cap], .int .i64 q] ww fun e w' => e = .returned (.int .i64 (szR q (l[k].terms.length))) ∧ Below ww.heap.size ww w') :=
          fun ww hw2 => szAtom_c hq0 hq1 (cAtm.keep hx (fun k hk => hw2.block k hk) (Nat.le_trans hb.size hw2.size))
        have hle := szR_le q (l[k].terms.length) hq0
        generalize hz : szR q (l[k].terms.length) = z at *
        clear hz hx Hq
        generalize l[k] = r at *
        by_cases hneg : z < 0
        · have hR : R = -1 := by have := hst.out; rw [if_pos hneg] at this; exact this
          go_wp2_with fail
          refine (Hc.out _ (Below.refl _ _)).mono ?_
          rintro e w1 ⟨rfl, hb1⟩
          go_wp2
          go_ret
          exact ⟨by rw [hR]; rfl, hb.trans (hb1.mono hb.size)⟩
        · go_wp2_with fail
          refine (Hc.out _ (Below.refl _ _)).mono ?_
          rintro e w1 ⟨rfl, hb1⟩
          go_wp2
          go_roundw
          case rel =>
            have := hst.out
            rw [if_neg (by omega)] at this
            exact ⟨k + 1, z, by omega, rfl, by go_num, by omega, by omega, this.symm, hb.trans (hb1.mono hb.size)⟩
          case measure => simp [intOf]; omega
      · obtain rfl : k = n := by omega
        have hd : l.drop k = [] := List.drop_eq_nil_of_le (by rw [Hn.out]; exact Nat.le_refl _)
        have hq : q = R := by have := Hq.out; rw [hd] at this; rw [← this]; unfold szR; simp [sumAtom]; omega
        clear hd Hq
        go_wp2
        go_ret
        exact ⟨by rw [hq]; rfl, hb⟩
theorem zAtom_at (A : List Value) (k n : Nat) (h : A.length = k * 2) (hk : k < n) : (A ++ (List.replicate (n - k) ([.int .i64 0, .slice none 0 0] : List Value)).flatten)[k * 2]? = some (.int .i64 0) ∧ (A ++ (List.replicate (n - k) ([.int .i64 0, .slice none 0 0] : List Value)).flatten)[k * 2 + 1]? = some (.slice none 0 0) := by
  have e1 : n - k = (n - (k + 1)) + 1 := by omega
  rw [e1, List.replicate_succ, List.flatten_cons]
  refine ⟨?_, ?_⟩
  · rw [List.getElem?_append_right (by omega)]; simp [h]
  · rw [List.getElem?_append_right (by omega)]; simp [h]
theorem zAtom_step (A : List Value) (k n : Nat) (h : A.length = k * 2) (hk : k < n) (v0 v1 : Value) : ((A ++ (List.replicate (n - k) ([.int .i64 0, .slice none 0 0] : List Value)).flatten).set (k * 2) v0).set (k * 2 + 1) v1 = (A ++ [v0, v1]) ++ (List.replicate (n - (k + 1)) ([.int .i64 0, .slice none 0 0] : List Value)).flatten := by
  have e1 : n - k = (n - (k + 1)) + 1 := by omega
  rw [e1, List.replicate_succ, List.flatten_cons]
  rw [List.set_append_right _ _ (by omega), List.set_append_right _ _ (by omega)]
  simp [h]
theorem zAtom_made (n : Nat) : (madeCells #[.int .i64 0, .slice none 0 0] (n * 2)).toList = (List.replicate n [.int .i64 0, .slice none 0 0]).flatten := by
  induction n with
  | zero => simp [madeCells]
  | succ n ih =>
    rw [List.replicate_succ', List.flatten_append, ← ih]
    unfold madeCells
    simp [Array.range_succ, Array.toList_range, Nat.add_mod, Nat.mul_mod_left, Nat.succ_mul]
theorem Try.infoAtom : (Try.prog.info? 66).map (fun i => (i.zero, i.size, i.bytes)) = some (some (.agg #[.int .i64 0, .slice none 0 0]), 2, 32) := by kernel_rfl
set_option maxHeartbeats 1600000 in
theorem toAtomS_c {a0 : Option Addr} {cap0 : Nat} {l : List Atm} {w : World} (hS : sizeAtomS l ≤ 1048576) (h : At (cSlice cAtm) w l [.slice a0 l.length cap0]) :
    Calls Try.prog 32 #[.slice a0 l.length cap0] w fun e w' => (∃ a' cap', e = .returned (.slice a' l.length cap') ∧ Own (cSlice cAtm) w.heap.size w' l [.slice a' l.length cap']) ∧ Below w.heap.size w w' := by
  have hs : l.length ≤ 1048576 := Nat.le_trans (Nat.le_add_right _ _) hS
  have hs2 : ∀ j (hj : j < l.length), (l[j].terms.length) ≤ 1048576 := fun j hj => Nat.le_trans (sumAtom_ge l j hj) (Nat.le_trans (Nat.le_add_left _ _) hS)
  clear hS
  obtain ⟨n, hn⟩ : ∃ n : Nat, l.length = n := ⟨_, rfl⟩
  have Hn := Lib.hid hn
  have Hr : Hid (∀ w' : World, Below w.heap.size w w' → ∀ j (hj : j < l.length), _) := fun w' hb j hj => at_Atom (Cod.ok_below h hb) j hj
  rw [hn] at hs ⊢
  clear hn h
  obtain ⟨i0, hi, hz0, hz1, hz2⟩ := info_parts Try.infoAtom
  go_enter Try.func32, Try.ntmps32
  go_wp2_with (at_make; refine wpList_make_full _ rfl (.tmp 6) (.tmp 6) 39 rfl w.heap.size 66 i0 (.agg #[.int .i64 0, .slice none 0 0]) 2 Try.underlying39 hi hz0 hz1 .i64 .i64 n n n rfl rfl rfl rfl ?c1 ?c2 (Nat.le_refl _) ?_)
  case c1 => rw [hz2]; omega
  case c2 => unfold maxLen; omega
  intro w1 hown hg1
  rw [show (madeCells #[.int .i64 0, .slice none 0 0] (n * 2)).toList = [].flatten ++ (List.replicate (n - 0) [.int .i64 0, .slice none 0 0]).flatten by rw [zAtom_made]; simp] at hown
  have hb0 : Below w.heap.size w w1 := (Below.refl _ _).grown hg1 (Nat.le_refl _) (fun k hk => by cases hk)
  clear hg1 hi hz0 hz1 hz2
  go_wp2
  go_loopw [4] (fun iv wr => ∃ (k : Nat) (F : List Nat) (css : List (List Value)), k ≤ n ∧ iv = .int .i64 k ∧ ownL cAtm F wr (l.take k) css ∧ (∀ x, x ∈ F → w.heap.size < x ∧ x < wr.heap.size) ∧ wr.ownsRow w.heap.size 66 2 (.slice (some ⟨w.heap.size, 0, none⟩) n n) n (css.flatten ++ (List.replicate (n - k) [.int .i64 0, .slice none 0 0]).flatten) ∧ Below w.heap.size w wr) (fun iv _ => n - (intOf iv).toNat)
  case atStart => exact ⟨0, [], [], by omega, by go_num, ownL_nil _, by simp, hown, hb0⟩
  case round =>
    clear hown hb0
    obtain ⟨k, F, css, hk, rfl, hL, hF, hown, hb⟩ := hrel
    by_cases hlt : k < n
    · have hkl : k < l.length := by rw [Hn.out]; exact hlt
      obtain ⟨b, off, a, cap, rfl, hbB, c0, c1, hx⟩ := Hr.out _ hb k hkl
      have Hc : Hid (∀ ww, Below w.heap.size wr ww → Calls Try.prog 50 #[.agg #[.int .i64 l[k].rel, .slice a l[k].terms.length cap]] ww fun e w' => (∃ a' cap', e = .returned (.agg #[.int .i64 l[k].rel, .slice a' l[k].terms.length cap']) ∧ Own cAtm ww.heap.size w' l[k] [.int .i64 l[k].rel, .slice a' l[k].terms.length cap']) ∧ Below ww.heap.size ww w') :=
        fun ww hw2 => toAtom_c (hs2 k hkl) (cAtm.keep hx (fun k hk => hw2.block k hk) (Nat.le_trans hb.size hw2.size))
      have hlen : css.flatten.length = k * 2 := by
        have := (ownL_len hL).2
        rw [List.length_take, Nat.min_eq_left (by omega)] at this
        exact this
      have Hat := Lib.hid (zAtom_at css.flatten k n hlen hlt)
      have Hstep := Lib.hid (zAtom_step css.flatten k n hlen hlt)
      have Htake : Hid (l.take (k + 1) = l.take k ++ [l[k]]) := List.take_succ_eq_append_getElem hkl
      have HL := Lib.hid hL
      have HF := Lib.hid hF
      have Hown := Lib.hid hown
      clear hx hL hF hlen hown
      generalize l[k] = r at *
      go_wp2_with fail
      refine (Hc.out _ (Below.refl _ _)).mono ?_
      rintro e w2 ⟨⟨a', cap', rfl, ho⟩, hb2⟩
      have hown2 := ownsRow_below Hown.out hb2
      have Hown2 := Lib.hid hown2
      have hgw : w.heap.size < wr.heap.size := (Hown.out.lt _ rfl).2
      have f0 := hown2.frozenAt (k * 2)
      have d0 := (hown2.cellAt (k * 2) (by omega)).trans Hat.out.1
      have f1 := hown2.frozenAt (k * 2 + 1)
      have d1 := (hown2.cellAt (k * 2 + 1) (by omega)).trans Hat.out.2
      have Ho := Lib.hid ho
      have hbw : Below w.heap.size w w2 := hb.trans (hb2.mono hb.size)
      clear ho hown2
      go_wp2
      go_roundw
      case rel =>
        obtain ⟨G, hG1, hG2⟩ := Ho.out
        have hown2 := Hown2.out
        have s0 := (hown2.stored (k * 2) (.int .i64 r.rel)).1
        have s1 := (s0.stored (k * 2 + 1) (.slice a' r.terms.length cap')).1
        rw [Hstep.out] at s1
        have hkeep : ∀ kk, kk ≠ w.heap.size → ((w2.setCell ⟨w.heap.size, k * 2, none⟩ (.int .i64 r.rel)).setCell ⟨w.heap.size, k * 2 + 1, none⟩ (.slice a' r.terms.length cap')).heap[kk]? = w2.heap[kk]? := fun kk hne => (heap_setCell_other _ ⟨w.heap.size, k * 2 + 1, none⟩ _ _ hne).trans ((heap_setCell_other _ ⟨w.heap.size, k * 2, none⟩ _ _ hne).trans (rfl))
        refine ⟨k + 1, F ++ G, css ++ [[.int .i64 r.rel, .slice a' r.terms.length cap']], by omega, by go_num, ?_, ?_, ?_, ((hbw).setCell (Nat.le_refl _) _).setCell (Nat.le_refl _) _⟩
        · rw [Htake.out]
          refine ownL_snoc (cAtm.keepO hG1 (fun kk hkk => hkeep kk (by have := (hG2 kk hkk).1; omega))) (ownL_keep (ownL_below HL.out hb2 (fun kk hkk => (HF.out kk hkk).2)) (fun kk hkk => hkeep kk (by have := (HF.out kk hkk).1; omega))) ?_
          intro kk hkk hg
          have := (HF.out kk hkk).2
          have := (hG2 kk hg).1
          omega
        · intro x hx
          simp only [World.setCell, Array.size_modify]
          rcases List.mem_append.1 hx with hx | hx
          · have := HF.out x hx; have := hb2.size; omega
          · have := hG2 x hx; omega
        · simpa using s1
      case measure => simp [intOf]; omega
    · obtain rfl : k = n := by omega
      have hlk : l.take k = l := List.take_of_length_le (by rw [Hn.out]; exact Nat.le_refl _)
      rw [hlk] at hL
      rw [Nat.sub_self, List.replicate_zero, List.flatten_nil, List.append_nil] at hown
      clear hlk
      go_wp2
      go_ret
      refine ⟨⟨_, _, rfl, ?_⟩, hb⟩
      have hlen : l.length = k := Hn.out
      subst hlen
      exact Own.slice (c := cAtm) hL hown (fun x hx => by have := hF x hx; omega) (by unfold maxLen; omega)
set_option maxHeartbeats 1600000 in
theorem eqAtomS_c {a0 a0' : Option Addr} {cap0 cap0' : Nat} {l m : List Atm} {w : World} (h : At (cSlice cAtm) w l [.slice a0 l.length cap0]) (h' : At (cSlice cAtm) w m [.slice a0' m.length cap0']) :
    Calls Try.prog 43 #[.slice a0 l.length cap0, .slice a0' m.length cap0'] w fun e w' => e = .returned (.bool (decide (l = m))) ∧ Below w.heap.size w w' := by
  have hm := (slice_len h).2
  have hm' := (slice_len h').2
  unfold maxLen at hm hm'
  by_cases hne : l.length = m.length
  · obtain ⟨n, hn⟩ : ∃ n : Nat, l.length = n := ⟨_, rfl⟩
    have Hr : Hid (∀ w' : World, Below w.heap.size w w' → ∀ j (hj : j < l.length), _) := fun w' hb j hj => at_Atom (Cod.ok_below h hb) j hj
    have Hr' : Hid (∀ w' : World, Below w.heap.size w w' → ∀ j (hj : j < m.length), _) := fun w' hb j hj => at_Atom (Cod.ok_below h' hb) j hj
    clear h h'
    rw [← hne, hn]
    have Hn := Lib.hid hn
    have Hm : Hid (m.length = n) := by rw [← hne]; exact hn
    have hm2 : n ≤ 2 ^ 63 - 1 := by omega
    generalize hR : decide (l = m) = R
    have HR : Hid (decide (l.drop 0 = m.drop 0) = R) := hR
    clear hR hne hn hm hm'
    go_enter Try.func43, Try.ntmps43
    go_wp2
    go_loopw [5] (fun iv wr => ∃ k : Nat, k ≤ n ∧ iv = .int .i64 k ∧ Hid (decide (l.drop k = m.drop k) = R) ∧ Below w.heap.size w wr) (fun iv _ => n - (intOf iv).toNat)
    case atStart => exact ⟨0, by omega, by go_num, HR, Below.refl _ _⟩
    case round =>
      clear HR
      obtain ⟨k, hk, rfl, Hq, hb⟩ := hrel
      by_cases hlt : k < n
      · have hkl : k < l.length := by rw [Hn.out]; exact hlt
        have hkm : k < m.length := by rw [Hm.out]; exact hlt
        have Hst : Hid (R = (decide (l[k] = m[k]) && decide (l.drop (k + 1) = m.drop (k + 1)))) := by
          show R = _
          rw [← Hq.out, ← Bool.decide_and]; congr 1; rw [List.drop_eq_getElem_cons hkl, List.drop_eq_getElem_cons hkm, List.cons.injEq]
        obtain ⟨b, off, a, cap, rfl, hbB, c0, c1, hx⟩ := Hr.out _ hb k hkl
        obtain ⟨b', off', a', cap', rfl, hbB', e0, e1, hy⟩ := Hr'.out _ hb k hkm
        have Hc : Hid (∀ ww, Below w.heap.size wr ww → Calls Try.prog 54 #[.agg #[.int .i64 l[k].rel, .slice a l[k].terms.length cap], .agg #[.int .i64 m[k].rel, .slice a' m[k].terms.length cap']] ww fun e w' => e = .returned (.bool (decide (l[k] = m[k]))) ∧ Below ww.heap.size ww w') :=
          fun ww hw2 => eqAtom_c (cAtm.keep hx (fun k hk => hw2.block k hk) (Nat.le_trans hb.size hw2.size)) (cAtm.keep hy (fun k hk => hw2.block k hk) (Nat.le_trans hb.size hw2.size))
        clear hx hy Hq
        generalize l[k] = r at *
        generalize m[k] = r' at *
        generalize decide (r = r') = z at *
        cases z with
        | true =>
          go_wp2_with fail
          go_region_with (go_at_call 54; refine (Hc.out _ ?hww).mono ?_; (case hww => first | exact Below.refl _ _ | exact (Below.refl _ _).drew | exact Below.drewN' (Below.refl _ _) _); rintro e w1 ⟨rfl, hb1⟩)
          all_goals
            go_wp2
            go_roundw
            case rel =>
              have h := Hst.out
              rw [Bool.true_and] at h
              exact ⟨k + 1, by omega, by go_num, h.symm, hb.drew.trans (hb1.mono hb.size)⟩
            case measure => simp [intOf]; omega
        | false =>
          have hR : R = false := by have h := Hst.out; rw [Bool.false_and] at h; exact h
          go_wp2_with fail
          go_region_with (go_at_call 54; refine (Hc.out _ ?hww).mono ?_; (case hww => first | exact Below.refl _ _ | exact (Below.refl _ _).drew | exact Below.drewN' (Below.refl _ _) _); rintro e w1 ⟨rfl, hb1⟩)
          all_goals
            go_wp2
            go_ret
            exact ⟨by rw [hR]; rfl, hb.drew.trans (hb1.mono hb.size)⟩
      · obtain rfl : k = n := by omega
        have hR : R = true := by
          have := Hq.out
          rw [List.drop_eq_nil_of_le (by rw [Hn.out]; exact Nat.le_refl _), List.drop_eq_nil_of_le (by rw [Hm.out]; exact Nat.le_refl _)] at this
          simpa using this.symm
        go_wp2
        go_ret
        exact ⟨by rw [hR]; rfl, hb⟩
  · rw [decide_eq_false (fun e => hne (by rw [e]))]
    have hne2 : (l.length != m.length) = true := by simpa using hne
    go_enter Try.func43, Try.ntmps43
    go_wp2
    go_ret
    exact ⟨rfl, Below.refl _ _⟩
end Go.Proofs.Ytpcjhnbifgjleaa

/- Structs: readings, the laws' helpers on them (size, copy, equality). -/
namespace Go.Proofs.Ytpcjhnbifgjleaa
open Go.RowKit
set_option linter.unusedVariables false
set_option maxRecDepth 100000

/-- A query: its number of variables, its atoms, its free variables. -/
structure Qry where
  vars : Int
  atoms : List Atm
  free : List Int
deriving DecidableEq
def cQry : Cod Qry := cMap (fun x => (x.vars, (x.atoms, x.free))) (cPair cInt (cPair (cSlice cAtm) (cSlice cInt)))
theorem cQry_fields {B : Nat} {w : World} {x : Qry} {cs : List Value} (h : cQry.ok B w x cs) : ∃ a1 cap1 a2 cap2, cs = [.int .i64 x.vars, .slice a1 x.atoms.length cap1, .slice a2 x.free.length cap2] ∧ (cSlice cAtm).ok B w x.atoms [.slice a1 x.atoms.length cap1] ∧ (cSlice cInt).ok B w x.free [.slice a2 x.free.length cap2] ∧ inR x.vars := by
  obtain ⟨_, _, rfl, h0, _, _, rfl, h1, h2⟩ := h
  obtain ⟨rfl, g0⟩ := h0
  have k1 := h1
  obtain ⟨a1, cap1, rfl, _⟩ := k1
  have k2 := h2
  obtain ⟨a2, cap2, rfl, _⟩ := k2
  exact ⟨a1, cap1, a2, cap2, rfl, h1, h2, g0⟩
theorem cQry_open {B : Nat} {w : World} {x : Qry} {cs : List Value} (h : cQry.ok B w x cs) : ∃ a1 cap1 a2 cap2, cs = [.int .i64 x.vars, .slice a1 x.atoms.length cap1, .slice a2 x.free.length cap2] ∧ cQry.ok B w x [.int .i64 x.vars, .slice a1 x.atoms.length cap1, .slice a2 x.free.length cap2] := by
  have h0 := h
  obtain ⟨a1, cap1, a2, cap2, rfl, _⟩ := cQry_fields h
  exact ⟨a1, cap1, a2, cap2, rfl, h0⟩
theorem cQry_inv {B : Nat} {w : World} {x : Qry} {v0 v1 v2 : Value} (h : cQry.ok B w x [v0, v1, v2]) : (cSlice cAtm).ok B w x.atoms [v1] ∧ (cSlice cInt).ok B w x.free [v2] ∧ inR x.vars := by
  obtain ⟨a1, cap1, a2, cap2, e, h1, h2, g0⟩ := cQry_fields h
  simp only [List.cons.injEq, and_true] at e
  obtain ⟨rfl, rfl, rfl⟩ := e
  exact ⟨h1, h2, g0⟩
theorem cQry_mk {B : Nat} {w : World} {x : Qry} {v1 v2 : Value} (h1 : (cSlice cAtm).ok B w x.atoms [v1]) (h2 : (cSlice cInt).ok B w x.free [v2]) (g0 : inR x.vars) : cQry.ok B w x [.int .i64 x.vars, v1, v2] := ⟨[_], _, rfl, ⟨rfl, g0⟩, ⟨[_], _, rfl, h1, h2⟩⟩
theorem cQry_own {lo hi lo1 hi1 lo2 hi2 : Nat} {w : World} {x : Qry} {v1 v2 : Value} (h1 : OwnIn (cSlice cAtm) lo1 hi1 w x.atoms [v1]) (l1 : lo1 ≤ hi1) (h2 : OwnIn (cSlice cInt) lo2 hi2 w x.free [v2]) (l2 : lo2 ≤ hi2) (g0 : inR x.vars) (q1 : lo ≤ lo1) (q2 : hi1 ≤ lo2) (q : hi2 ≤ hi) : OwnIn cQry lo hi w x [.int .i64 x.vars, v1, v2] := (OwnIn.pair (OwnIn.int lo lo _ g0) (OwnIn.pair (h1.wide (lo' := lo) (hi' := hi1) (by omega) (by omega)) (h2.wide (lo' := hi1) (hi' := hi) (by omega) (by omega)) (by omega) (by omega)) (by omega) (by omega))
/-- Its size: its leaves behind slices. -/
def sizeQuery (x : Qry) : Nat := sizeAtomS x.atoms + (x.free.length)
theorem szQuery_c {a1 : Option Addr} {cap1 : Nat} {a2 : Option Addr} {cap2 : Nat} {x : Qry} {left : Int} {w : World} (hl : 0 ≤ left) (hl2 : left ≤ 1048576) (h : At cQry w x [.int .i64 x.vars, .slice a1 x.atoms.length cap1, .slice a2 x.free.length cap2]) :
    Calls Try.prog 10 #[.agg #[.int .i64 x.vars, .slice a1 x.atoms.length cap1, .slice a2 x.free.length cap2], .int .i64 left] w fun e w' => e = .returned (.int .i64 (szR left (sizeQuery x))) ∧ Below w.heap.size w w' := by
  obtain ⟨k1, k2, _⟩ := cQry_inv h
  unfold sizeQuery
  clear h
  obtain ⟨vars, atoms, free⟩ := x
  simp only at *
  have H1 : Hid (∀ q : Int, 0 ≤ q → q ≤ 1048576 → ∀ ww, Below w.heap.size w ww → Calls Try.prog 26 #[.slice a1 atoms.length cap1, .int .i64 q] ww fun e w' => e = .returned (.int .i64 (szR q (sizeAtomS atoms))) ∧ Below ww.heap.size ww w') :=
    fun q h0 h1 ww hb => szAtomS_c h0 h1 (At.below (c := (cSlice cAtm)) k1 hb (Nat.le_refl _))
  have H2 : Hid (∀ q : Int, 0 ≤ q → q ≤ 1048576 → ∀ ww, Below w.heap.size w ww → Calls Try.prog 27 #[.slice a2 free.length cap2, .int .i64 q] ww fun e w' => e = .returned (.int .i64 (szR q (free.length))) ∧ Below ww.heap.size ww w') :=
    fun q h0 h1 ww hb => szIntS_c h0 h1 (At.below (c := (cSlice cInt)) k2 hb (Nat.le_refl _))
  clear k1 k2
  have G1 := Lib.hid (H1.out (left) (by omega) (by omega))
  rw [szR_step (left) (sizeAtomS atoms)]
  have hn1 : szR (left) (sizeAtomS atoms) < 0 → szR (left) (sizeAtomS atoms) = -1 := szR_neg
  have hle1 := szR_le (left) (sizeAtomS atoms) (by omega)
  generalize szR (left) (sizeAtomS atoms) = z1 at *
  by_cases hz1 : z1 < 0
  · obtain rfl : z1 = -1 := hn1 hz1
    clear hn1
    rw [if_pos (by decide)]
    go_enter Try.func10, Try.ntmps10
    go_wp2_with fail
    refine (G1.out _ ?hb).mono ?_
    case hb => go_grown
    rintro e w1 ⟨rfl, hb1⟩
    have hbb1 : Below w.heap.size w w1 := Below.trans (by go_grown) (hb1.mono (by simp; try omega))
    have hsz1 : w.heap.size + 1 ≤ w1.heap.size := by have := hb1.size; simp at this; omega
    have p1_0 : w1.cell? ⟨w.heap.size, 0, none⟩ = some (.int .i64 vars) := (hb1.cell (by simp)).trans (by go_simp)
    have p1_1 : w1.cell? ⟨w.heap.size, 1, none⟩ = some (.slice a1 atoms.length cap1) := (hb1.cell (by simp)).trans (by go_simp)
    have p1_2 : w1.cell? ⟨w.heap.size, 2, none⟩ = some (.slice a2 free.length cap2) := (hb1.cell (by simp)).trans (by go_simp)
    clear hb1
    go_wp2
    go_ret
    exact ⟨rfl, hbb1⟩
  · clear hn1
    rw [if_neg hz1]
    have G2 := Lib.hid (H2.out (z1) (by omega) (by omega))
    have hn2 : szR (z1) (free.length) < 0 → szR (z1) (free.length) = -1 := szR_neg
    have hle2 := szR_le (z1) (free.length) (by omega)
    generalize szR (z1) (free.length) = z2 at *
    by_cases hz2 : z2 < 0
    · obtain rfl : z2 = -1 := hn2 hz2
      clear hn2
      go_enter Try.func10, Try.ntmps10
      go_wp2_with fail
      refine (G1.out _ ?hb).mono ?_
      case hb => go_grown
      rintro e w1 ⟨rfl, hb1⟩
      have hbb1 : Below w.heap.size w w1 := Below.trans (by go_grown) (hb1.mono (by simp; try omega))
      have hsz1 : w.heap.size + 1 ≤ w1.heap.size := by have := hb1.size; simp at this; omega
      have p1_0 : w1.cell? ⟨w.heap.size, 0, none⟩ = some (.int .i64 vars) := (hb1.cell (by simp)).trans (by go_simp)
      have p1_1 : w1.cell? ⟨w.heap.size, 1, none⟩ = some (.slice a1 atoms.length cap1) := (hb1.cell (by simp)).trans (by go_simp)
      have p1_2 : w1.cell? ⟨w.heap.size, 2, none⟩ = some (.slice a2 free.length cap2) := (hb1.cell (by simp)).trans (by go_simp)
      clear hb1
      go_wp2_with fail
      refine (G2.out _ ?hb).mono ?_
      case hb => exact hbb1
      rintro e w2 ⟨rfl, hb2⟩
      have hbb2 : Below w.heap.size w w2 := hbb1.trans (hb2.mono (by omega))
      have hsz2 : w.heap.size + 1 ≤ w2.heap.size := by have := hb2.size; omega
      have p2_0 := (hb2.cell (p := ⟨w.heap.size, 0, none⟩) (by simp; try omega)).trans p1_0
      have p2_1 := (hb2.cell (p := ⟨w.heap.size, 1, none⟩) (by simp; try omega)).trans p1_1
      have p2_2 := (hb2.cell (p := ⟨w.heap.size, 2, none⟩) (by simp; try omega)).trans p1_2
      clear p1_0 p1_1 p1_2
      clear hb2
      go_wp2
      go_ret
      exact ⟨rfl, hbb2⟩
    · clear hn2
      go_enter Try.func10, Try.ntmps10
      go_wp2_with fail
      refine (G1.out _ ?hb).mono ?_
      case hb => go_grown
      rintro e w1 ⟨rfl, hb1⟩
      have hbb1 : Below w.heap.size w w1 := Below.trans (by go_grown) (hb1.mono (by simp; try omega))
      have hsz1 : w.heap.size + 1 ≤ w1.heap.size := by have := hb1.size; simp at this; omega
      have p1_0 : w1.cell? ⟨w.heap.size, 0, none⟩ = some (.int .i64 vars) := (hb1.cell (by simp)).trans (by go_simp)
      have p1_1 : w1.cell? ⟨w.heap.size, 1, none⟩ = some (.slice a1 atoms.length cap1) := (hb1.cell (by simp)).trans (by go_simp)
      have p1_2 : w1.cell? ⟨w.heap.size, 2, none⟩ = some (.slice a2 free.length cap2) := (hb1.cell (by simp)).trans (by go_simp)
      clear hb1
      go_wp2_with fail
      refine (G2.out _ ?hb).mono ?_
      case hb => exact hbb1
      rintro e w2 ⟨rfl, hb2⟩
      have hbb2 : Below w.heap.size w w2 := hbb1.trans (hb2.mono (by omega))
      have hsz2 : w.heap.size + 1 ≤ w2.heap.size := by have := hb2.size; omega
      have p2_0 := (hb2.cell (p := ⟨w.heap.size, 0, none⟩) (by simp; try omega)).trans p1_0
      have p2_1 := (hb2.cell (p := ⟨w.heap.size, 1, none⟩) (by simp; try omega)).trans p1_1
      have p2_2 := (hb2.cell (p := ⟨w.heap.size, 2, none⟩) (by simp; try omega)).trans p1_2
      clear p1_0 p1_1 p1_2
      clear hb2
      go_wp2
      go_ret
      exact ⟨rfl, hbb2⟩
set_option maxHeartbeats 800000 in
theorem toQuery_c {a1 : Option Addr} {cap1 : Nat} {a2 : Option Addr} {cap2 : Nat} {x : Qry} {w : World} (hs : sizeQuery x ≤ 1048576) (h : At cQry w x [.int .i64 x.vars, .slice a1 x.atoms.length cap1, .slice a2 x.free.length cap2]) :
    Calls Try.prog 16 #[.agg #[.int .i64 x.vars, .slice a1 x.atoms.length cap1, .slice a2 x.free.length cap2]] w fun e w' => (∃ a1' cap1' a2' cap2', e = .returned (.agg #[.int .i64 x.vars, .slice a1' x.atoms.length cap1', .slice a2' x.free.length cap2']) ∧ Own cQry w.heap.size w' x [.int .i64 x.vars, .slice a1' x.atoms.length cap1', .slice a2' x.free.length cap2']) ∧ Below w.heap.size w w' := by
  unfold sizeQuery at hs
  obtain ⟨k1, k2, g0⟩ := cQry_inv h
  have G0 := Lib.hid g0
  clear g0
  clear h
  obtain ⟨vars, atoms, free⟩ := x
  simp only at *
  have H1 : Hid (∀ ww, Below w.heap.size w ww → Calls Try.prog 32 #[.slice a1 atoms.length cap1] ww fun e w' => (∃ a' cap', e = .returned (.slice a' atoms.length cap') ∧ Own (cSlice cAtm) ww.heap.size w' atoms [.slice a' atoms.length cap']) ∧ Below ww.heap.size ww w') :=
    fun ww hb => toAtomS_c (by omega) (At.below (c := (cSlice cAtm)) k1 hb (Nat.le_refl _))
  have H2 : Hid (∀ ww, Below w.heap.size w ww → Calls Try.prog 33 #[.slice a2 free.length cap2] ww fun e w' => (∃ a' cap', e = .returned (.slice a' free.length cap') ∧ Own (cSlice cInt) ww.heap.size w' free [.slice a' free.length cap']) ∧ Below ww.heap.size ww w') :=
    fun ww hb => toIntS_c (by omega) (At.below (c := (cSlice cInt)) k2 hb (Nat.le_refl _))
  clear hs k1 k2
  go_enter Try.func16, Try.ntmps16
  go_wp2_with fail
  refine (H1.out _ ?hb).mono ?_
  case hb => go_grown
  rintro e w1 ⟨⟨a1', cap1', rfl, ho1⟩, hb1⟩
  have hbb1 : Below w.heap.size w w1 := Below.trans (by go_grown) (hb1.mono (by simp; try omega))
  have hsz1 : w.heap.size + 3 ≤ w1.heap.size := by have := hb1.size; simp at this; omega
  have p1_0 : w1.cell? ⟨w.heap.size, 0, none⟩ = some (.int .i64 vars) := (hb1.cell (by simp; try omega)).trans (by go_simp)
  have o1_0 : w1.cell? ⟨w.heap.size + 1 + 1, 0, none⟩ = some (.int .i64 vars) := (hb1.cell (by simp; try omega)).trans (by go_simp)
  have f1_0 : w1.frozen? ⟨w.heap.size + 1 + 1, 0, none⟩ = false := (hb1.frozen (by simp; try omega)).trans (by go_simp)
  have e1_0 : w1.cell? ⟨w.heap.size + 1, 0, none⟩ = some (.int .i64 0) := (hb1.cell (by simp; try omega)).trans (by go_simp)
  have g1_0 : w1.frozen? ⟨w.heap.size + 1, 0, none⟩ = false := (hb1.frozen (by simp; try omega)).trans (by go_simp)
  have p1_1 : w1.cell? ⟨w.heap.size, 1, none⟩ = some (.slice a1 atoms.length cap1) := (hb1.cell (by simp; try omega)).trans (by go_simp)
  have o1_1 : w1.cell? ⟨w.heap.size + 1 + 1, 1, none⟩ = some (.slice none 0 0) := (hb1.cell (by simp; try omega)).trans (by go_simp)
  have f1_1 : w1.frozen? ⟨w.heap.size + 1 + 1, 1, none⟩ = false := (hb1.frozen (by simp; try omega)).trans (by go_simp)
  have e1_1 : w1.cell? ⟨w.heap.size + 1, 1, none⟩ = some (.slice none 0 0) := (hb1.cell (by simp; try omega)).trans (by go_simp)
  have g1_1 : w1.frozen? ⟨w.heap.size + 1, 1, none⟩ = false := (hb1.frozen (by simp; try omega)).trans (by go_simp)
  have p1_2 : w1.cell? ⟨w.heap.size, 2, none⟩ = some (.slice a2 free.length cap2) := (hb1.cell (by simp; try omega)).trans (by go_simp)
  have o1_2 : w1.cell? ⟨w.heap.size + 1 + 1, 2, none⟩ = some (.slice none 0 0) := (hb1.cell (by simp; try omega)).trans (by go_simp)
  have f1_2 : w1.frozen? ⟨w.heap.size + 1 + 1, 2, none⟩ = false := (hb1.frozen (by simp; try omega)).trans (by go_simp)
  have e1_2 : w1.cell? ⟨w.heap.size + 1, 2, none⟩ = some (.slice none 0 0) := (hb1.cell (by simp; try omega)).trans (by go_simp)
  have g1_2 : w1.frozen? ⟨w.heap.size + 1, 2, none⟩ = false := (hb1.frozen (by simp; try omega)).trans (by go_simp)
  have hR1 : w1.heap[w.heap.size + 1]? = some (.cells #[.int .i64 0, .slice none 0 0, .slice none 0 0] 41 (0, 0)) := (hb1.block _ (by simp; try omega)).trans (by rw [Go.heap_alloc_old _ _ (by simp; try omega)]; exact heap_alloc2_new _ _ _)
  have u1 : OwnIn (cSlice cAtm) (w.heap.size + 3) w1.heap.size w1 atoms _ := OwnIn.wide ho1 (by simp; try omega) (Nat.le_refl _)
  clear hb1 ho1
  go_wp2_with fail
  refine (H2.out _ ?hb).mono ?_
  case hb => exact hbb1.setCell (by simp; try omega) _
  rintro e w2 ⟨⟨a2', cap2', rfl, ho2⟩, hb2⟩
  have hW : (w1.setCell ⟨w.heap.size + 1 + 1, 1, none⟩ (.slice a1' atoms.length cap1')).heap.size = w1.heap.size := by simp [World.setCell]
  rw [hW] at ho2 hb2
  have hbb2 : Below w.heap.size w w2 := (hbb1.setCell (p := ⟨w.heap.size + 1 + 1, 1, none⟩) (by simp; try omega) _).trans (hb2.mono (by omega))
  have hsz2 : w.heap.size + 3 ≤ w2.heap.size := by have := hb2.size; rw [hW] at this; omega
  have p2_0 := (hb2.cell (p := ⟨w.heap.size, 0, none⟩) (by simp; try omega)).trans ((World.cell?_setCell_other _ _ _ _ (by first | (simp; done) | (simp; omega))).trans p1_0)
  have o2_0 := (hb2.cell (p := ⟨w.heap.size + 1 + 1, 0, none⟩) (by simp; try omega)).trans ((World.cell?_setCell_other _ _ _ _ (by first | (simp; done) | (simp; omega))).trans o1_0)
  have f2_0 := (hb2.frozen (p := ⟨w.heap.size + 1 + 1, 0, none⟩) (by simp; try omega)).trans ((World.frozen?_setCell _ _ _ _).trans f1_0)
  have e2_0 := (hb2.cell (p := ⟨w.heap.size + 1, 0, none⟩) (by simp; try omega)).trans ((World.cell?_setCell_other _ _ _ _ (by first | (simp; done) | (simp; omega))).trans e1_0)
  have g2_0 := (hb2.frozen (p := ⟨w.heap.size + 1, 0, none⟩) (by simp; try omega)).trans ((World.frozen?_setCell _ _ _ _).trans g1_0)
  have p2_1 := (hb2.cell (p := ⟨w.heap.size, 1, none⟩) (by simp; try omega)).trans ((World.cell?_setCell_other _ _ _ _ (by first | (simp; done) | (simp; omega))).trans p1_1)
  have o2_1 := (hb2.cell (p := ⟨w.heap.size + 1 + 1, 1, none⟩) (by simp; try omega)).trans (World.cell?_setCell_same _ _ _ o1_1)
  have f2_1 := (hb2.frozen (p := ⟨w.heap.size + 1 + 1, 1, none⟩) (by simp; try omega)).trans ((World.frozen?_setCell _ _ _ _).trans f1_1)
  have e2_1 := (hb2.cell (p := ⟨w.heap.size + 1, 1, none⟩) (by simp; try omega)).trans ((World.cell?_setCell_other _ _ _ _ (by first | (simp; done) | (simp; omega))).trans e1_1)
  have g2_1 := (hb2.frozen (p := ⟨w.heap.size + 1, 1, none⟩) (by simp; try omega)).trans ((World.frozen?_setCell _ _ _ _).trans g1_1)
  have p2_2 := (hb2.cell (p := ⟨w.heap.size, 2, none⟩) (by simp; try omega)).trans ((World.cell?_setCell_other _ _ _ _ (by first | (simp; done) | (simp; omega))).trans p1_2)
  have o2_2 := (hb2.cell (p := ⟨w.heap.size + 1 + 1, 2, none⟩) (by simp; try omega)).trans ((World.cell?_setCell_other _ _ _ _ (by first | (simp; done) | (simp; omega))).trans o1_2)
  have f2_2 := (hb2.frozen (p := ⟨w.heap.size + 1 + 1, 2, none⟩) (by simp; try omega)).trans ((World.frozen?_setCell _ _ _ _).trans f1_2)
  have e2_2 := (hb2.cell (p := ⟨w.heap.size + 1, 2, none⟩) (by simp; try omega)).trans ((World.cell?_setCell_other _ _ _ _ (by first | (simp; done) | (simp; omega))).trans e1_2)
  have g2_2 := (hb2.frozen (p := ⟨w.heap.size + 1, 2, none⟩) (by simp; try omega)).trans ((World.frozen?_setCell _ _ _ _).trans g1_2)
  have hR2 := (hb2.block (w.heap.size + 1) (by omega)).trans ((heap_setCell_other _ _ _ _ (by simp)).trans hR1)
  have u1 := (OwnIn.setCell u1 (p := ⟨w.heap.size + 1 + 1, 1, none⟩) (by simp; try omega) (.slice a1' atoms.length cap1')).below hb2 (by omega)
  have u2 : OwnIn (cSlice cInt) w1.heap.size w2.heap.size w2 free _ := ho2
  have hm1 := hb2.size
  rw [hW] at hm1
  clear hW p1_0 o1_0 f1_0 e1_0 g1_0 p1_1 o1_1 f1_1 e1_1 g1_1 p1_2 o1_2 f1_2 e1_2 g1_2 hR1
  clear hb2 ho2
  have U1 := Lib.hid u1
  have U2 := Lib.hid u2
  clear u1 u2
  go_wp2
  (try simp only [Exit.inBlock, Exit.then])
  refine bodyPost_ret (results_cell_row rfl _ _ (w.heap.size + 1) _ _ _ _ rfl (heap_setCell_same _ _ 2 _ _ _ (heap_setCell_same _ _ 1 _ _ _ (heap_setCell_same _ _ 0 _ _ _ ((heap_setCell_other _ _ _ _ (by simp)).trans (hR2))))) Try.underlying41 rfl (by kernel_rfl)) rfl ?_
  exact ⟨⟨_, _, _, _, rfl, OwnIn.own (cQry_own (x := ⟨vars, atoms, free⟩) (lo := w.heap.size) (hi := w2.heap.size) (((((U1.out).setCell (by simp; try omega) _).setCell (by simp; try omega) _).setCell (by simp; try omega) _).setCell (by simp; try omega) _) (by omega) (((((U2.out).setCell (by simp; try omega) _).setCell (by simp; try omega) _).setCell (by simp; try omega) _).setCell (by simp; try omega) _) (by omega) G0.out (by omega) (by omega) (by omega)) (by simp [World.setCell])⟩, ((((hbb2).setCell (by simp; try omega) _).setCell (by simp; try omega) _).setCell (by simp; try omega) _).setCell (by simp; try omega) _⟩
theorem eqQuery_c {a1 : Option Addr} {cap1 : Nat} {a2 : Option Addr} {cap2 : Nat} {a1' : Option Addr} {cap1' : Nat} {a2' : Option Addr} {cap2' : Nat} {x y : Qry} {w : World} (h : At cQry w x [.int .i64 x.vars, .slice a1 x.atoms.length cap1, .slice a2 x.free.length cap2]) (h' : At cQry w y [.int .i64 y.vars, .slice a1' y.atoms.length cap1', .slice a2' y.free.length cap2']) :
    Calls Try.prog 22 #[.agg #[.int .i64 x.vars, .slice a1 x.atoms.length cap1, .slice a2 x.free.length cap2], .agg #[.int .i64 y.vars, .slice a1' y.atoms.length cap1', .slice a2' y.free.length cap2']] w fun e w' => e = .returned (.bool (decide (x = y))) ∧ Below w.heap.size w w' := by
  obtain ⟨k1, k2, _⟩ := cQry_inv h
  obtain ⟨m1, m2, _⟩ := cQry_inv h'
  clear h h'
  obtain ⟨vars, atoms, free⟩ := x
  obtain ⟨vars', atoms', free'⟩ := y
  have he : decide (Qry.mk vars atoms free = Qry.mk vars' atoms' free') = (decide (vars = vars') && (decide (atoms = atoms') && decide (free = free'))) := by
    simp only [← Bool.decide_and]; congr 1; rw [Qry.mk.injEq]
  rw [he]
  clear he
  simp only at *
  have H1 : Hid (∀ ww, Below w.heap.size w ww → Calls Try.prog 43 #[.slice a1 atoms.length cap1, .slice a1' atoms'.length cap1'] ww fun e w' => e = .returned (.bool (decide (atoms = atoms'))) ∧ Below ww.heap.size ww w') :=
    fun ww hb => eqAtomS_c (At.below (c := (cSlice cAtm)) k1 hb (Nat.le_refl _)) (At.below (c := (cSlice cAtm)) m1 hb (Nat.le_refl _))
  have H2 : Hid (∀ ww, Below w.heap.size w ww → Calls Try.prog 44 #[.slice a2 free.length cap2, .slice a2' free'.length cap2'] ww fun e w' => e = .returned (.bool (decide (free = free'))) ∧ Below ww.heap.size ww w') :=
    fun ww hb => eqIntS_c (At.below (c := (cSlice cInt)) k2 hb (Nat.le_refl _)) (At.below (c := (cSlice cInt)) m2 hb (Nat.le_refl _))
  clear k1 m1 k2 m2
  by_cases hr0 : vars = vars'
  · subst hr0
    rw [decide_eq_true rfl, Bool.true_and]
    generalize decide (atoms = atoms') = z1 at *
    cases z1 with
    | true =>
      rw [Bool.true_and]
      generalize decide (free = free') = z2 at *
      cases z2 with
      | true =>
        go_enter Try.func22, Try.ntmps22
        go_wp2_with fail
        refine (H1.out _ ?hb).mono ?_
        case hb => go_grown
        rintro e w1 ⟨rfl, hb1⟩
        have hbb1 : Below w.heap.size w w1 := Below.trans (by go_grown) (hb1.mono (by simp; try omega))
        have hsz1 : w.heap.size + 2 ≤ w1.heap.size := by have := hb1.size; simp at this; omega
        have p1_0 : w1.cell? ⟨w.heap.size, 0, none⟩ = some (.int .i64 vars) := (hb1.cell (by simp; try omega)).trans (by go_simp)
        have r1_0 : w1.cell? ⟨w.heap.size + 1, 0, none⟩ = some (.int .i64 vars) := (hb1.cell (by simp; try omega)).trans (by go_simp)
        have p1_1 : w1.cell? ⟨w.heap.size, 1, none⟩ = some (.slice a1 atoms.length cap1) := (hb1.cell (by simp; try omega)).trans (by go_simp)
        have r1_1 : w1.cell? ⟨w.heap.size + 1, 1, none⟩ = some (.slice a1' atoms'.length cap1') := (hb1.cell (by simp; try omega)).trans (by go_simp)
        have p1_2 : w1.cell? ⟨w.heap.size, 2, none⟩ = some (.slice a2 free.length cap2) := (hb1.cell (by simp; try omega)).trans (by go_simp)
        have r1_2 : w1.cell? ⟨w.heap.size + 1, 2, none⟩ = some (.slice a2' free'.length cap2') := (hb1.cell (by simp; try omega)).trans (by go_simp)
        clear hb1
        go_wp2_with fail
        refine (H2.out _ ?hb).mono ?_
        case hb => exact hbb1
        rintro e w2 ⟨rfl, hb2⟩
        have hbb2 : Below w.heap.size w w2 := hbb1.trans (hb2.mono (by omega))
        have hsz2 : w.heap.size + 2 ≤ w2.heap.size := by have := hb2.size; omega
        have p2_0 := (hb2.cell (p := ⟨w.heap.size, 0, none⟩) (by simp; try omega)).trans p1_0
        have r2_0 := (hb2.cell (p := ⟨w.heap.size + 1, 0, none⟩) (by simp; try omega)).trans r1_0
        have p2_1 := (hb2.cell (p := ⟨w.heap.size, 1, none⟩) (by simp; try omega)).trans p1_1
        have r2_1 := (hb2.cell (p := ⟨w.heap.size + 1, 1, none⟩) (by simp; try omega)).trans r1_1
        have p2_2 := (hb2.cell (p := ⟨w.heap.size, 2, none⟩) (by simp; try omega)).trans p1_2
        have r2_2 := (hb2.cell (p := ⟨w.heap.size + 1, 2, none⟩) (by simp; try omega)).trans r1_2
        clear p1_0 r1_0 p1_1 r1_1 p1_2 r1_2
        clear hb2
        go_wp2
        go_ret
        exact ⟨by simp, hbb2⟩
      | false =>
        go_enter Try.func22, Try.ntmps22
        go_wp2_with fail
        refine (H1.out _ ?hb).mono ?_
        case hb => go_grown
        rintro e w1 ⟨rfl, hb1⟩
        have hbb1 : Below w.heap.size w w1 := Below.trans (by go_grown) (hb1.mono (by simp; try omega))
        have hsz1 : w.heap.size + 2 ≤ w1.heap.size := by have := hb1.size; simp at this; omega
        have p1_0 : w1.cell? ⟨w.heap.size, 0, none⟩ = some (.int .i64 vars) := (hb1.cell (by simp; try omega)).trans (by go_simp)
        have r1_0 : w1.cell? ⟨w.heap.size + 1, 0, none⟩ = some (.int .i64 vars) := (hb1.cell (by simp; try omega)).trans (by go_simp)
        have p1_1 : w1.cell? ⟨w.heap.size, 1, none⟩ = some (.slice a1 atoms.length cap1) := (hb1.cell (by simp; try omega)).trans (by go_simp)
        have r1_1 : w1.cell? ⟨w.heap.size + 1, 1, none⟩ = some (.slice a1' atoms'.length cap1') := (hb1.cell (by simp; try omega)).trans (by go_simp)
        have p1_2 : w1.cell? ⟨w.heap.size, 2, none⟩ = some (.slice a2 free.length cap2) := (hb1.cell (by simp; try omega)).trans (by go_simp)
        have r1_2 : w1.cell? ⟨w.heap.size + 1, 2, none⟩ = some (.slice a2' free'.length cap2') := (hb1.cell (by simp; try omega)).trans (by go_simp)
        clear hb1
        go_wp2_with fail
        refine (H2.out _ ?hb).mono ?_
        case hb => exact hbb1
        rintro e w2 ⟨rfl, hb2⟩
        have hbb2 : Below w.heap.size w w2 := hbb1.trans (hb2.mono (by omega))
        have hsz2 : w.heap.size + 2 ≤ w2.heap.size := by have := hb2.size; omega
        have p2_0 := (hb2.cell (p := ⟨w.heap.size, 0, none⟩) (by simp; try omega)).trans p1_0
        have r2_0 := (hb2.cell (p := ⟨w.heap.size + 1, 0, none⟩) (by simp; try omega)).trans r1_0
        have p2_1 := (hb2.cell (p := ⟨w.heap.size, 1, none⟩) (by simp; try omega)).trans p1_1
        have r2_1 := (hb2.cell (p := ⟨w.heap.size + 1, 1, none⟩) (by simp; try omega)).trans r1_1
        have p2_2 := (hb2.cell (p := ⟨w.heap.size, 2, none⟩) (by simp; try omega)).trans p1_2
        have r2_2 := (hb2.cell (p := ⟨w.heap.size + 1, 2, none⟩) (by simp; try omega)).trans r1_2
        clear p1_0 r1_0 p1_1 r1_1 p1_2 r1_2
        clear hb2
        go_wp2
        go_ret
        exact ⟨by simp, hbb2⟩
    | false =>
      rw [Bool.false_and]
      go_enter Try.func22, Try.ntmps22
      go_wp2_with fail
      refine (H1.out _ ?hb).mono ?_
      case hb => go_grown
      rintro e w1 ⟨rfl, hb1⟩
      have hbb1 : Below w.heap.size w w1 := Below.trans (by go_grown) (hb1.mono (by simp; try omega))
      have hsz1 : w.heap.size + 2 ≤ w1.heap.size := by have := hb1.size; simp at this; omega
      have p1_0 : w1.cell? ⟨w.heap.size, 0, none⟩ = some (.int .i64 vars) := (hb1.cell (by simp; try omega)).trans (by go_simp)
      have r1_0 : w1.cell? ⟨w.heap.size + 1, 0, none⟩ = some (.int .i64 vars) := (hb1.cell (by simp; try omega)).trans (by go_simp)
      have p1_1 : w1.cell? ⟨w.heap.size, 1, none⟩ = some (.slice a1 atoms.length cap1) := (hb1.cell (by simp; try omega)).trans (by go_simp)
      have r1_1 : w1.cell? ⟨w.heap.size + 1, 1, none⟩ = some (.slice a1' atoms'.length cap1') := (hb1.cell (by simp; try omega)).trans (by go_simp)
      have p1_2 : w1.cell? ⟨w.heap.size, 2, none⟩ = some (.slice a2 free.length cap2) := (hb1.cell (by simp; try omega)).trans (by go_simp)
      have r1_2 : w1.cell? ⟨w.heap.size + 1, 2, none⟩ = some (.slice a2' free'.length cap2') := (hb1.cell (by simp; try omega)).trans (by go_simp)
      clear hb1
      go_wp2
      go_ret
      exact ⟨by simp, hbb1⟩
  · have hn0 : (vars != vars') = true := by simp [hr0]
    rw [decide_eq_false hr0, Bool.false_and]
    go_enter Try.func22, Try.ntmps22
    go_wp2
    go_ret
    exact ⟨by simp, by go_grown⟩
end Go.Proofs.Ytpcjhnbifgjleaa


/- Chapter 20: SatisfiesClauses, the model's. -/
import Derived.Test.YtgoofnhhhlncoaaSat
namespace Go.Proofs.Ytgoofnhhhlncoaa
open Go.RowKit
set_option linter.unusedVariables false
set_option maxRecDepth 100000

theorem any_take (p : Int → Bool) (l : List Int) (k : Nat) (hk : k < l.length) : (l.take (k + 1)).any p = ((l.take k).any p || p l[k]) := by
  rw [List.take_succ_eq_append_getElem hk, List.any_append]; simp
set_option maxHeartbeats 6400000 in
theorem specSatisfiesClauses_c {a b : Option Addr} {ca cb : Nat} {l : List (List Int)} {m : List Bool} {w : World} (h : At (cSlice (cSlice cInt)) w l [.slice a l.length ca]) (h' : At (cSlice cBool) w m [.slice b m.length cb]) :
    Calls Try.prog 137 #[.slice a l.length ca, .slice b m.length cb] w fun e w' => e = .returned (.bool (satC l m)) ∧ Below w.heap.size w w' := by
  have hm := (slice_len h).2
  have hm' := (slice_len h').2
  unfold maxLen at hm hm'
  have Hr : Hid (∀ j (hj : j < l.length), _) := fun j hj => at_IntS h j hj
  have Hb : Hid (∀ j (hj : j < m.length), _) := fun j hj => bools_at h' j hj
  clear h h'
  unfold satC
  obtain ⟨n, hn⟩ : ∃ n : Nat, l.length = n := ⟨_, rfl⟩
  obtain ⟨M, hM⟩ : ∃ n : Nat, m.length = n := ⟨_, rfl⟩
  have Hn := Lib.hid hn
  have HM := Lib.hid hM
  rw [hn] at hm ⊢
  rw [hM] at hm' ⊢
  clear hn hM
  generalize hR : l.all (clauseT m) = R
  have HR : Hid ((l.drop 0).all (clauseT m) = R) := hR
  clear hR
  go_enter Try.func137, Try.ntmps137
  go_wp2
  go_loopw [5] (fun iv wr => w = wr ∧ ∃ k : Nat, k ≤ n ∧ iv = .int .i64 k ∧ Hid ((l.drop k).all (clauseT m) = R)) (fun iv _ => n - (intOf iv).toNat)
  case atStart => exact ⟨rfl, 0, by omega, by go_num, HR⟩
  case round =>
    clear HR
    obtain ⟨rfl, k, hk, rfl, Hq⟩ := hrel
    by_cases hlt : k < n
    · have hkl : k < l.length := by rw [Hn.out]; exact hlt
      obtain ⟨ab, off, ac, cc, rfl, hbB, c0, hA⟩ := Hr.out k hkl
      have Hst := Lib.hid (Hq.out.symm.trans (all_drop (clauseT m) l k hkl))
      have hmc := (slice_len hA).2
      unfold maxLen at hmc
      have Hi : Hid (∀ j (hj : j < l[k].length), _) := fun j hj => ints_at hA j hj
      have Hg := Lib.hid (ints_rng hA)
      have HZ : Hid ((l[k].take 0).any (litT m) = false) := by show _ = _; simp
      clear Hq hA Hr
      generalize l[k] = c at *
      obtain ⟨nc, hnc⟩ : ∃ nc, c.length = nc := ⟨_, rfl⟩
      have Hnc := Lib.hid hnc
      rw [hnc] at c0 hmc
      clear hnc
      go_wp2
      go_loopw [6, 7] (fun sv iv wr => w = wr ∧ ∃ (j : Nat) (s : Bool), j ≤ nc ∧ iv = .int .i64 j ∧ sv = .bool s ∧ Hid ((c.take j).any (litT m) = s)) (fun _ iv _ => nc - (intOf iv).toNat)
      case atStart => exact ⟨rfl, 0, false, by omega, by go_num, rfl, HZ⟩
      case round =>
        clear HZ
        obtain ⟨rfl, j, s, hj, rfl, rfl, Hs⟩ := hrel
        by_cases hlj : j < nc
        · have hjc : j < c.length := by rw [Hnc.out]; exact hlj
          obtain ⟨ib, ioff, rfl, hib, d0⟩ := Hi.out j hjc
          have Hs2 : Hid ((c.take (j + 1)).any (litT m) = (s || litT m c[j])) := by show _ = _; rw [any_take _ _ _ hjc, Hs.out]
          have hrx := Hg.out c[j] (List.getElem_mem hjc)
          generalize c[j] = x at *
          unfold inR at hrx
          cases s with
          | true =>
            rw [Bool.true_or] at Hs2
            go_wp2
            go_roundw
            case rel => exact ⟨by first | rfl | trivial, j + 1, true, by omega, by go_num, by first | rfl | trivial, Hs2⟩
            case measure => simp [intOf]; omega
          | false =>
            rw [Bool.false_or] at Hs2
            rcases Int.lt_trichotomy x 0 with hx | hx | hx
            · obtain ⟨p, hp⟩ : ∃ p : Nat, x = -(p : Int) - 1 := ⟨(-x - 1).toNat, by omega⟩
              rw [hp, litT_neg] at Hs2
              rw [hp] at d0
              have hx1 : decide ((-(p : Int) - 1) > 0) = false := decide_eq_false (by omega)
              have hx2 : decide ((-(p : Int) - 1) < 0) = true := decide_eq_true (by omega)
              have hx3 : decide ((1 : Int) < -(p : Int)) = false := decide_eq_false (by omega)
              have hx4 : decide (-(p : Int) < 1) = true := decide_eq_true (by omega)
              by_cases hpm : p < M
              · have hpl : p < m.length := by rw [HM.out]; exact hpm
                obtain ⟨bb, boff, rfl, _, e0⟩ := Hb.out p hpl
                have e1 : w.cell? ⟨bb, boff + ((-(-(p : Int) - 1)).toNat - 1), none⟩ = some (.bool m[p]) := by rw [show (-(-(p : Int) - 1)).toNat - 1 = p by omega]; exact e0
                rw [List.getElem?_eq_getElem hpl] at Hs2
                have i1 : (0 : Int) ≤ (p : Int) := Int.natCast_nonneg _
                have i2 : (p : Int) < (M : Int) := by omega
                have hx5 : decide ((-(p : Int) - 1) ≥ -(M : Int)) = true := decide_eq_true (by omega)
                generalize m[p] = y at *
                have Hs3 : Hid ((c.take (j + 1)).any (litT m) = !y) := by show _ = _; rw [Hs2.out]; rfl
                clear hp hx Hs2
                cases y with
                | true =>
                  go_wp2
                  go_roundw
                  case rel => exact ⟨by first | rfl | trivial, j + 1, false, by omega, by go_num, by first | rfl | trivial, Hs3⟩
                  case measure => simp [intOf]; omega
                | false =>
                  go_wp2
                  go_roundw
                  case rel => exact ⟨by first | rfl | trivial, j + 1, true, by omega, by go_num, by first | rfl | trivial, Hs3⟩
                  case measure => simp [intOf]; omega
              · have hpn : ¬ p < m.length := by rw [HM.out]; exact hpm
                rw [List.getElem?_eq_none (by omega)] at Hs2
                have hx5 : decide ((-(p : Int) - 1) ≥ -(M : Int)) = false := decide_eq_false (by omega)
                have Hs3 : Hid ((c.take (j + 1)).any (litT m) = false) := by show _ = _; rw [Hs2.out]; rfl
                clear hp hx Hs2
                go_wp2
                go_roundw
                case rel => exact ⟨by first | rfl | trivial, j + 1, false, by omega, by go_num, by first | rfl | trivial, Hs3⟩
                case measure => simp [intOf]; omega
            · subst hx
              rw [litT_zero] at Hs2
              have Hs3 := Hs2
              go_wp2
              go_roundw
              case rel => exact ⟨by first | rfl | trivial, j + 1, false, by omega, by go_num, by first | rfl | trivial, Hs3⟩
              case measure => simp [intOf]; omega
            · obtain ⟨p, hp⟩ : ∃ p : Nat, x = (p : Int) + 1 := ⟨(x - 1).toNat, by omega⟩
              rw [hp, litT_pos] at Hs2
              rw [hp] at d0
              have hx1 : decide (((p : Int) + 1) > 0) = true := decide_eq_true (by omega)
              have hx2 : decide (((p : Int) + 1) < 0) = false := decide_eq_false (by omega)
              by_cases hpm : p < M
              · have hpl : p < m.length := by rw [HM.out]; exact hpm
                obtain ⟨bb, boff, rfl, _, e0⟩ := Hb.out p hpl
                rw [List.getElem?_eq_getElem hpl] at Hs2
                have i1 : (0 : Int) ≤ (p : Int) := Int.natCast_nonneg _
                have i2 : (p : Int) < (M : Int) := by omega
                have hx5 : decide (((p : Int) + 1) ≤ (M : Int)) = true := decide_eq_true (by omega)
                generalize m[p] = y at *
                have Hs3 : Hid ((c.take (j + 1)).any (litT m) = y) := by show _ = _; rw [Hs2.out]; rfl
                clear hp hx Hs2
                cases y with
                | true =>
                  go_wp2
                  go_roundw
                  case rel => exact ⟨by first | rfl | trivial, j + 1, true, by omega, by go_num, by first | rfl | trivial, Hs3⟩
                  case measure => simp [intOf]; omega
                | false =>
                  go_wp2
                  go_roundw
                  case rel => exact ⟨by first | rfl | trivial, j + 1, false, by omega, by go_num, by first | rfl | trivial, Hs3⟩
                  case measure => simp [intOf]; omega
              · have hpn : ¬ p < m.length := by rw [HM.out]; exact hpm
                rw [List.getElem?_eq_none (by omega)] at Hs2
                have hx5 : decide (((p : Int) + 1) ≤ (M : Int)) = false := decide_eq_false (by omega)
                have Hs3 : Hid ((c.take (j + 1)).any (litT m) = false) := by show _ = _; rw [Hs2.out]; rfl
                clear hp hx Hs2
                go_wp2
                go_roundw
                case rel => exact ⟨by first | rfl | trivial, j + 1, false, by omega, by go_num, by first | rfl | trivial, Hs3⟩
                case measure => simp [intOf]; omega
        · obtain rfl : j = nc := by omega
          have hT : clauseT m c = s := by
            have h := Hs.out
            rw [List.take_of_length_le (by rw [Hnc.out]; exact Nat.le_refl _)] at h
            exact h
          rw [hT] at Hst
          clear hT
          cases s with
          | true =>
            have Hs2 : Hid ((l.drop (k + 1)).all (clauseT m) = R) := by have h := Hst.out; show _ = _; simpa using h.symm
            go_wp2
            go_roundw
            case rel => exact ⟨by first | rfl | trivial, k + 1, by omega, by go_num, Hs2⟩
            case measure => simp [intOf]; omega
          | false =>
            have hR : R = false := by have h := Hst.out; simpa using h
            go_wp2
            go_ret
            exact ⟨by subst hR; rfl, Below.refl _ _⟩
    · obtain rfl : k = n := by omega
      have hR : R = true := by
        have := Hq.out
        rw [List.drop_eq_nil_of_le (by rw [Hn.out]; exact Nat.le_refl _)] at this
        exact this.symm
      go_wp2
      go_ret
      exact ⟨by subst hR; rfl, Below.refl _ _⟩
end Go.Proofs.Ytgoofnhhhlncoaa


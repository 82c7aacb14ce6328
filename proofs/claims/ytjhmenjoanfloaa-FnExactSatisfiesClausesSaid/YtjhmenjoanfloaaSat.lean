/- Chapter 20: SatisfiesClauses, the program's. -/
import Derived.Test.YtjhmenjoanfloaaTyE
import Derived.Test.YtjhmenjoanfloaaTyBo
import Derived.Test.YtjhmenjoanfloaaRelImpl3
namespace Go.Proofs.Ytjhmenjoanfloaa
open Go.RowKit
set_option linter.unusedVariables false
set_option maxRecDepth 100000

/-- The fact that a literal is about. -/
def foL (x : Int) : Int := if 0 < x then x - 1 else -x - 1
/-- A literal is true in a model. -/
def litT (m : List Bool) (x : Int) : Bool := if 0 < x then (m[(x - 1).toNat]?).getD false else if x < 0 then !((m[(-x - 1).toNat]?).getD true) else false
def clauseT (m : List Bool) (c : List Int) : Bool := c.any (litT m)
def satC (cs : List (List Int)) (m : List Bool) : Bool := cs.all (clauseT m)
theorem litT_pos (m : List Bool) (p : Nat) : litT m ((p : Int) + 1) = (m[p]?).getD false := by
  unfold litT
  rw [if_pos (by omega), show ((p : Int) + 1 - 1).toNat = p by omega]
theorem litT_neg (m : List Bool) (p : Nat) : litT m (-(p : Int) - 1) = !((m[p]?).getD true) := by
  unfold litT
  rw [if_neg (by omega), if_pos (by omega), show (-(-(p : Int) - 1) - 1).toNat = p by omega]
theorem litT_zero (m : List Bool) : litT m 0 = false := by unfold litT; simp
theorem foL_pos (p : Nat) : foL ((p : Int) + 1) = (p : Int) := by unfold foL; rw [if_pos (by omega)]; omega
theorem foL_neg (p : Nat) : foL (-(p : Int) - 1) = (p : Int) := by unfold foL; rw [if_neg (by omega)]; omega
theorem any_drop {α : Type} (p : α → Bool) (l : List α) (k : Nat) (hk : k < l.length) : (l.drop k).any p = (p l[k] || (l.drop (k + 1)).any p) := by
  rw [List.drop_eq_getElem_cons hk, List.any_cons]
theorem i64_not (x : Int) (hx : inR x) : bits .xor .i64 (-1) x = -x - 1 := by
  unfold inR at hx
  show IntKind.i64.wrap ((BitVec.ofInt 64 (-1) ^^^ BitVec.ofInt 64 x).toNat : Int) = _
  have h1 : BitVec.ofInt 64 (-1) = BitVec.allOnes 64 := by decide
  rw [h1, BitVec.allOnes_xor, BitVec.toNat_not, BitVec.toNat_ofInt, IntKind.wrap_i64]
  omega
theorem factOf_c {x : Int} {w : World} (hx : inR x) : Calls Try.prog 102 #[.int .i64 x] w fun e w' => e = .returned (.int .i64 (foL x)) ∧ w = w' := by
  have hnot := i64_not x hx
  unfold inR at hx
  unfold foL
  by_cases h : 0 < x
  · rw [if_pos h]
    go_enter Try.func102, Try.ntmps102
    go_wp2
    go_ret
    exact ⟨rfl, rfl⟩
  · rw [if_neg h]
    go_enter Try.func102, Try.ntmps102
    go_wp2
    go_ret
    refine ⟨?_, rfl⟩
    rw [← hnot]; rfl
set_option maxHeartbeats 1600000 in
theorem containsTrueLiteral_c {a b : Option Addr} {ca cb : Nat} {l : List Int} {m : List Bool} {w : World} (h : At (cSlice cInt) w l [.slice a l.length ca]) (h' : At (cSlice cBool) w m [.slice b m.length cb]) :
    Calls Try.prog 74 #[.slice a l.length ca, .slice b m.length cb] w fun e w' => e = .returned (.bool (clauseT m l)) ∧ w = w' := by
  have hm := (slice_len h).2
  have hm' := (slice_len h').2
  unfold maxLen at hm hm'
  have Hr : Hid (∀ j (hj : j < l.length), _) := fun j hj => ints_at h j hj
  have Hg := Lib.hid (ints_rng h)
  have Hb : Hid (∀ j (hj : j < m.length), _) := fun j hj => bools_at h' j hj
  clear h h'
  obtain ⟨n, hn⟩ : ∃ n : Nat, l.length = n := ⟨_, rfl⟩
  obtain ⟨M, hM⟩ : ∃ n : Nat, m.length = n := ⟨_, rfl⟩
  have Hn := Lib.hid hn
  have HM := Lib.hid hM
  rw [hn] at hm ⊢
  rw [hM] at hm' ⊢
  clear hn hM
  generalize hR : clauseT m l = R
  have HR : Hid ((l.drop 0).any (litT m) = R) := hR
  clear hR
  go_enter Try.func74, Try.ntmps74
  go_wp2
  go_loopw [9] (fun iv wr => w = wr ∧ ∃ k : Nat, k ≤ n ∧ iv = .int .i64 k ∧ Hid ((l.drop k).any (litT m) = R)) (fun iv _ => n - (intOf iv).toNat)
  case atStart => exact ⟨rfl, 0, by omega, by go_num, HR⟩
  case round =>
    clear HR
    obtain ⟨rfl, k, hk, rfl, Hq⟩ := hrel
    by_cases hlt : k < n
    · have hkl : k < l.length := by rw [Hn.out]; exact hlt
      obtain ⟨ab, off, rfl, hbB, c0⟩ := Hr.out k hkl
      have Hst := Lib.hid (Hq.out.symm.trans (any_drop (litT m) l k hkl))
      have hrx := Hg.out l[k] (List.getElem_mem hkl)
      have Hf : Hid (∀ ww, Calls Try.prog 102 #[.int .i64 l[k]] ww fun e w' => e = .returned (.int .i64 (foL l[k])) ∧ ww = w') := fun ww => factOf_c hrx
      clear Hq
      generalize l[k] = x at *
      unfold inR at hrx
      rcases Int.lt_trichotomy x 0 with hx | hx | hx
      · obtain ⟨p, hp⟩ : ∃ p : Nat, x = -(p : Int) - 1 := ⟨(-x - 1).toNat, by omega⟩
        rw [hp, foL_neg] at Hf
        rw [hp, litT_neg] at Hst
        rw [hp] at c0
        have hx0 : ((-(p : Int) - 1) != 0) = true := by simp; omega
        have hx1 : decide ((-(p : Int) - 1) > 0) = false := decide_eq_false (by omega)
        have hx2 : decide ((1 : Int) < -(p : Int)) = false := decide_eq_false (by omega)
        by_cases hpm : p < M
        · have hpl : p < m.length := by rw [HM.out]; exact hpm
          obtain ⟨bb, boff, rfl, _, d0⟩ := Hb.out p hpl
          rw [List.getElem?_eq_getElem hpl] at Hst
          have i1 : (0 : Int) ≤ (p : Int) := Int.natCast_nonneg _
          have i2 : (p : Int) < (M : Int) := by omega
          generalize m[p] = y at *
          clear hp hx
          cases y with
          | true =>
            have Hs2 : Hid ((l.drop (k + 1)).any (litT m) = R) := by have h := Hst.out; simp at h; show _ = _; simpa using h.symm
            go_wp2_with fail
            refine (Hf.out _).mono ?_
            rintro e w2 ⟨rfl, rfl⟩
            go_wp2_with fail
            refine (Hf.out _).mono ?_
            rintro e w2 ⟨rfl, rfl⟩
            go_wp2
            go_roundw
            case rel => exact ⟨by first | rfl | trivial, k + 1, by omega, by go_num, Hs2⟩
            case measure => simp [intOf]; omega
          | false =>
            have hR : R = true := by have h := Hst.out; simpa using h
            go_wp2_with fail
            refine (Hf.out _).mono ?_
            rintro e w2 ⟨rfl, rfl⟩
            go_wp2_with fail
            refine (Hf.out _).mono ?_
            rintro e w2 ⟨rfl, rfl⟩
            go_wp2
            go_ret
            exact ⟨by subst hR; rfl, by first | rfl | trivial⟩
        · have hpn : ¬ p < m.length := by rw [HM.out]; exact hpm
          rw [List.getElem?_eq_none (by omega)] at Hst
          have Hs2 : Hid ((l.drop (k + 1)).any (litT m) = R) := by have h := Hst.out; show _ = _; simpa using h.symm
          have i2 : ¬ (p : Int) < (M : Int) := by omega
          clear hp hx
          go_wp2_with fail
          refine (Hf.out _).mono ?_
          rintro e w2 ⟨rfl, rfl⟩
          go_wp2
          go_roundw
          case rel => exact ⟨by first | rfl | trivial, k + 1, by omega, by go_num, Hs2⟩
          case measure => simp [intOf]; omega
      · subst hx
        rw [litT_zero, Bool.false_or] at Hst
        clear Hf
        go_wp2
        go_roundw
        case rel => exact ⟨by first | rfl | trivial, k + 1, by omega, by go_num, Hst.out.symm⟩
        case measure => simp [intOf]; omega
      · obtain ⟨p, hp⟩ : ∃ p : Nat, x = (p : Int) + 1 := ⟨(x - 1).toNat, by omega⟩
        rw [hp, foL_pos] at Hf
        rw [hp, litT_pos] at Hst
        rw [hp] at c0
        have hx0 : (((p : Int) + 1) != 0) = true := by simp; omega
        have hx1 : decide (((p : Int) + 1) > 0) = true := decide_eq_true (by omega)
        by_cases hpm : p < M
        · have hpl : p < m.length := by rw [HM.out]; exact hpm
          obtain ⟨bb, boff, rfl, _, d0⟩ := Hb.out p hpl
          rw [List.getElem?_eq_getElem hpl] at Hst
          have i1 : (0 : Int) ≤ (p : Int) := Int.natCast_nonneg _
          have i2 : (p : Int) < (M : Int) := by omega
          generalize m[p] = y at *
          clear hp hx
          cases y with
          | false =>
            have Hs2 : Hid ((l.drop (k + 1)).any (litT m) = R) := by have h := Hst.out; show _ = _; simpa using h.symm
            go_wp2_with fail
            refine (Hf.out _).mono ?_
            rintro e w2 ⟨rfl, rfl⟩
            go_wp2_with fail
            refine (Hf.out _).mono ?_
            rintro e w2 ⟨rfl, rfl⟩
            go_wp2
            go_roundw
            case rel => exact ⟨by first | rfl | trivial, k + 1, by omega, by go_num, Hs2⟩
            case measure => simp [intOf]; omega
          | true =>
            have hR : R = true := by have h := Hst.out; simpa using h
            go_wp2_with fail
            refine (Hf.out _).mono ?_
            rintro e w2 ⟨rfl, rfl⟩
            go_wp2_with fail
            refine (Hf.out _).mono ?_
            rintro e w2 ⟨rfl, rfl⟩
            go_wp2
            go_ret
            exact ⟨by subst hR; rfl, by first | rfl | trivial⟩
        · have hpn : ¬ p < m.length := by rw [HM.out]; exact hpm
          rw [List.getElem?_eq_none (by omega)] at Hst
          have Hs2 : Hid ((l.drop (k + 1)).any (litT m) = R) := by have h := Hst.out; show _ = _; simpa using h.symm
          have i2 : ¬ (p : Int) < (M : Int) := by omega
          clear hp hx
          go_wp2_with fail
          refine (Hf.out _).mono ?_
          rintro e w2 ⟨rfl, rfl⟩
          go_wp2
          go_roundw
          case rel => exact ⟨by first | rfl | trivial, k + 1, by omega, by go_num, Hs2⟩
          case measure => simp [intOf]; omega
    · obtain rfl : k = n := by omega
      have hR : R = false := by
        have := Hq.out
        rw [List.drop_eq_nil_of_le (by rw [Hn.out]; exact Nat.le_refl _)] at this
        exact this.symm
      go_wp2
      go_ret
      exact ⟨by subst hR; rfl, by first | rfl | trivial⟩
set_option maxHeartbeats 1600000 in
theorem implSatisfiesClauses_c {a b : Option Addr} {ca cb : Nat} {l : List (List Int)} {m : List Bool} {w : World} (h : At (cSlice (cSlice cInt)) w l [.slice a l.length ca]) (h' : At (cSlice cBool) w m [.slice b m.length cb]) :
    Calls Try.prog 42 #[.slice a l.length ca, .slice b m.length cb] w fun e w' => e = .returned (.bool (satC l m)) ∧ Below w.heap.size w w' := by
  have hm := (slice_len h).2
  unfold maxLen at hm
  have Hr : Hid (∀ j (hj : j < l.length), _) := fun j hj => at_IntS h j hj
  have Hc : Hid (∀ (c : List Int) (ac : Option Addr) (cc : Nat), At (cSlice cInt) w c [.slice ac c.length cc] → Calls Try.prog 74 #[.slice ac c.length cc, .slice b m.length cb] w fun e w' => e = .returned (.bool (clauseT m c)) ∧ w = w') := fun c ac cc hA => containsTrueLiteral_c hA h'
  clear h h'
  unfold satC
  generalize m.length = M at *
  obtain ⟨n, hn⟩ : ∃ n : Nat, l.length = n := ⟨_, rfl⟩
  have Hn := Lib.hid hn
  rw [hn] at hm ⊢
  clear hn
  generalize hR : l.all (clauseT m) = R
  have HR : Hid ((l.drop 0).all (clauseT m) = R) := hR
  clear hR
  go_enter Try.func42, Try.ntmps42
  go_wp2
  go_loopw [9] (fun iv wr => w = wr ∧ ∃ k : Nat, k ≤ n ∧ iv = .int .i64 k ∧ Hid ((l.drop k).all (clauseT m) = R)) (fun iv _ => n - (intOf iv).toNat)
  case atStart => exact ⟨rfl, 0, by omega, by go_num, HR⟩
  case round =>
    clear HR
    obtain ⟨rfl, k, hk, rfl, Hq⟩ := hrel
    by_cases hlt : k < n
    · have hkl : k < l.length := by rw [Hn.out]; exact hlt
      obtain ⟨ab, off, ac, cc, rfl, hbB, c0, hA⟩ := Hr.out k hkl
      have Hst := Lib.hid (Hq.out.symm.trans (all_drop (clauseT m) l k hkl))
      have Hcc := Lib.hid (Hc.out l[k] ac cc hA)
      clear Hq hA
      generalize clauseT m l[k] = z at *
      generalize l[k].length = nk at *
      cases z with
      | true =>
        have Hs2 : Hid ((l.drop (k + 1)).all (clauseT m) = R) := by have h := Hst.out; show _ = _; simpa using h.symm
        go_wp2_with fail
        refine Hcc.out.mono ?_
        rintro e w2 ⟨rfl, rfl⟩
        go_wp2
        go_roundw
        case rel => exact ⟨by first | rfl | trivial, k + 1, by omega, by go_num, Hs2⟩
        case measure => simp [intOf]; omega
      | false =>
        have hR : R = false := by have h := Hst.out; simpa using h
        go_wp2_with fail
        refine Hcc.out.mono ?_
        rintro e w2 ⟨rfl, rfl⟩
        go_wp2
        go_ret
        exact ⟨by subst hR; rfl, Below.refl _ _⟩
    · obtain rfl : k = n := by omega
      have hR : R = true := by
        have := Hq.out
        rw [List.drop_eq_nil_of_le (by rw [Hn.out]; exact Nat.le_refl _)] at this
        exact this.symm
      go_wp2
      go_ret
      exact ⟨by subst hR; rfl, Below.refl _ _⟩
end Go.Proofs.Ytjhmenjoanfloaa


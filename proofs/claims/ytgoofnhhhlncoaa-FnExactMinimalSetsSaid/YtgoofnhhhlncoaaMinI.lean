/- Chapter 18: hasSmallerCover. -/
import Derived.Test.YtgoofnhhhlncoaaEls
namespace Go.Proofs.Ytgoofnhhhlncoaa
open Go.RowKit
set_option linter.unusedVariables false
set_option maxRecDepth 100000
/-- Place k comes first of place i, by length and then by place. -/
def smallL (o s : List Int) (k i : Nat) : Bool := decide (o.length < s.length) || (decide (o.length = s.length) && decide (k < i))
/-- No set that comes first lies within the set at place i. -/
def leastL (L : List (List Int)) (i : Nat) : Bool := (List.range L.length).all fun k => !(smallL (L.getD k []) (L.getD i []) k i && (L.getD k []).all fun z => (L.getD i []).contains z)
theorem least_all (L : List (List Int)) (i n : Nat) (p : Nat → Bool) (k : Nat) : (List.range (k + 1)).all p = ((List.range k).all p && p k) := by
  rw [List.range_succ, List.all_append]
  simp
set_option maxHeartbeats 6400000 in
theorem hasSmallerCover_r {a0 : Option Addr} {cap0 : Nat} {L : List (List Int)} {i : Nat} {w : World} (hi : i < L.length) (h : At (cSlice (cSlice cInt)) w L [.slice a0 L.length cap0]) :
    Calls Try.prog 132 #[.slice a0 L.length cap0, .int .i64 i] w fun e w' => e = .returned (.bool (!leastL L i)) ∧ Below w.heap.size w w' := by
  have hm := (slice_len h).2
  unfold maxLen at hm
  have Hr : Hid (∀ w' : World, Below w.heap.size w w' → ∀ j (hj : j < L.length), _) := fun w' hb j hj => intss_at h w' hb j hj
  obtain ⟨b0, off0, a1, cap1, rfl, hbB0, c0, h2⟩ := intss_at h w (Below.refl _ _) i hi
  have hm1 := (slice_len h2).2
  unfold maxLen at hm1
  obtain ⟨s, hs⟩ : ∃ s, s = L[i] := ⟨_, rfl⟩
  have Hc : Hid (∀ ww, Below w.heap.size w ww → Calls Try.prog 130 #[.slice a1 s.length cap1] ww fun e w' => (∃ b, e = .returned (.map (some b)) ∧ SetAt w' b s.length (fun z => s.contains z)) ∧ Below ww.heap.size ww w') := fun ww hb => elementsOf_c (by rw [hs]; exact At.below h2 hb (Nat.le_refl _))
  rw [← hs] at c0 hm1
  clear h h2
  have hsd : L.getD i [] = s := by rw [hs]; simp [hi]
  obtain ⟨P, hP⟩ : ∃ P : Nat → Bool, P = fun k => smallL (L.getD k []) s k i && (L.getD k []).all fun z => s.contains z := ⟨_, rfl⟩
  have HP : Hid (∀ k (hk : k < L.length), P k = (smallL L[k] s k i && L[k].all fun z => s.contains z)) := fun k hk => by rw [hP]; simp [hk]
  have hR0 : leastL L i = (List.range L.length).all fun k => !P k := by unfold leastL; rw [hsd, hP]
  rw [hR0]
  have hl0 : (L.length : Int) = (L.length : Int) := rfl
  obtain ⟨N, hN⟩ : ∃ n : Nat, L.length = n := ⟨_, rfl⟩
  have HN := Lib.hid hN
  rw [hN] at hm hi ⊢
  clear hN hsd hR0 hP hs hl0
  obtain ⟨SL, hSL⟩ : ∃ n : Nat, s.length = n := ⟨_, rfl⟩
  have HSL := Lib.hid hSL
  rw [hSL] at c0 hm1 Hc
  clear hSL
  have HM : Hid (∀ z, (fun z => s.contains z) z = s.contains z) := fun _ => rfl
  obtain ⟨M, hM⟩ : ∃ M : Int → Bool, M = fun z => s.contains z := ⟨_, rfl⟩
  have HP2 : Hid (∀ k (hk : k < L.length), P k = ((decide (L[k].length < SL) || (decide (L[k].length = SL) && decide (k < i))) && L[k].all M)) := fun k hk => by
    rw [HP.out k hk, ← HSL.out, hM]
    rfl
  rw [← hM] at Hc
  clear HP HM hM HSL
  generalize hR : ((List.range N).all fun k => !P k) = R
  have HR : Hid (((List.range N).all fun k => !P k) = R) := hR
  clear hR
  go_enter Try.func132, Try.ntmps132
  go_wp2_with fail
  refine (Hc.out _ (Below.refl _ _)).mono ?_
  rintro e w1 ⟨⟨bm, rfl, hset⟩, hb1⟩
  have HS : Hid (SetAt w1 bm SL M) := hset
  clear hset Hc c0
  go_wp2
  go_loopw [18] (fun iv wr => ∃ k : Nat, k ≤ N ∧ iv = .int .i64 k ∧ Hid (((List.range k).all fun k => !P k) = true) ∧ Hid (Below w1.heap.size w1 wr) ∧ Below w.heap.size w wr) (fun iv _ => N - (intOf iv).toNat)
  case atStart => exact ⟨0, by omega, by go_num, rfl, Below.refl _ _, hb1⟩
  case round =>
    clear hb1
    obtain ⟨k, hk, rfl, Hq, HB, hb⟩ := hrel
    by_cases hlt : k < N
    · have hkl : k < L.length := by rw [HN.out]; exact hlt
      have Hp := Lib.hid (HP2.out k hkl)
      have Hf : Hid (P k = true → R = false) := fun h => by
        rw [← HR.out, Bool.eq_false_iff]
        intro h3
        have := List.all_eq_true.1 h3 k (List.mem_range.2 hlt)
        rw [h] at this
        cases this
      have Hg : Hid (P k = false → ((List.range (k + 1)).all fun k => !P k) = true) := fun h => by
        rw [least_all L 0 0]
        have := Hq.out
        rw [this, h]
        rfl
      obtain ⟨b, off, a', cap', e', hbB, c0, ho⟩ := Hr.out _ hb k hkl
      obtain ⟨rfl, rfl⟩ : b0 = b ∧ off0 = off := by simp at e'; exact e'
      have hmo := (slice_len ho).2
      unfold maxLen at hmo
      have HC : Hid (∀ ww, ww.heap = wr.heap → Calls Try.prog 131 #[.map (some bm), .slice a' L[k].length cap'] ww fun e w' => e = .returned (.bool (L[k].all M)) ∧ Below ww.heap.size ww w') := fun ww hw => by
        exact containsAll_c ((SetAt.next HS.out HB.out).block (by rw [hw])) (At.here ho hw)
      clear Hq ho e' HP2
      generalize L[k].all M = f at *
      generalize L[k] = o at *
      generalize o.length = ol at *
      by_cases d1 : ol < SL
      · have q1 : (ol : Int) < (SL : Int) := by omega
        cases f
        · have hp : P k = false := by rw [Hp.out]; simp
          go_wp2_with fail
          refine (HC.out _ rfl).mono ?_
          rintro e w2 ⟨rfl, hb2⟩
          go_wp2
          go_roundw
          case rel => exact ⟨k + 1, by omega, by go_num, Hg.out hp, Below.next HB.out hb2, Below.next hb hb2⟩
          case measure => simp [intOf]; omega
        · have hR : R = false := Hf.out (by rw [Hp.out]; simp [d1])
          go_wp2_with fail
          refine (HC.out _ rfl).mono ?_
          rintro e w2 ⟨rfl, hb2⟩
          go_wp2
          go_ret
          exact ⟨by rw [hR]; rfl, Below.next hb hb2⟩
      · have q1 : ¬ ((ol : Int) < (SL : Int)) := by omega
        by_cases d2 : ol = SL
        · subst d2
          clear q1 d1
          by_cases d3 : k < i
          · have q3 : (k : Int) < (i : Int) := by omega
            cases f
            · have hp : P k = false := by rw [Hp.out]; simp
              go_wp2_with fail
              refine (HC.out _ rfl).mono ?_
              rintro e w2 ⟨rfl, hb2⟩
              go_wp2
              go_roundw
              case rel => exact ⟨k + 1, by omega, by go_num, Hg.out hp, Below.next HB.out hb2, Below.next hb hb2⟩
              case measure => simp [intOf]; omega
            · have hR : R = false := Hf.out (by rw [Hp.out]; simp [d3])
              go_wp2_with fail
              refine (HC.out _ rfl).mono ?_
              rintro e w2 ⟨rfl, hb2⟩
              go_wp2
              go_ret
              exact ⟨by rw [hR]; rfl, Below.next hb hb2⟩
          · have q3 : ¬ ((k : Int) < (i : Int)) := by omega
            have hp : P k = false := by rw [Hp.out]; simp [d3]
            go_wp2
            go_roundw
            case rel => exact ⟨k + 1, by omega, by go_num, Hg.out hp, HB, hb⟩
            case measure => simp [intOf]; omega
        · have q2 : ¬ ((ol : Int) = (SL : Int)) := by omega
          have hp : P k = false := by rw [Hp.out]; simp [d1, d2]
          go_wp2
          go_roundw
          case rel => exact ⟨k + 1, by omega, by go_num, Hg.out hp, HB, hb⟩
          case measure => simp [intOf]; omega
    · obtain rfl : k = N := by omega
      have hR : R = true := HR.out.symm.trans Hq.out
      go_wp2
      go_ret
      exact ⟨by rw [hR]; rfl, hb⟩
end Go.Proofs.Ytgoofnhhhlncoaa


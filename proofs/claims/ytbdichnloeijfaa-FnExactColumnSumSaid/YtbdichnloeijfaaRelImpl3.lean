/- Chapter 2: the program's functions on lists of relations. -/
import Derived.Test.YtbdichnloeijfaaRelImpl2
namespace Go.Proofs.Ytbdichnloeijfaa
open Go.RowKit
set_option linter.unusedVariables false
set_option maxRecDepth 100000

theorem all_drop {α : Type} (p : α → Bool) (l : List α) (k : Nat) (hk : k < l.length) : (l.drop k).all p = (p l[k] && (l.drop (k + 1)).all p) := by
  rw [List.drop_eq_getElem_cons hk]; rfl
set_option maxHeartbeats 1600000 in
theorem implAreValidRelations_c {a0 : Option Addr} {cap0 : Nat} {l : List Rel} {w : World} (h : At (cSlice cRel) w l [.slice a0 l.length cap0]) :
    Calls Try.prog 40 #[.slice a0 l.length cap0] w fun e w' => e = .returned (.bool (validRels l)) ∧ Below w.heap.size w w' := by
  have hm := (slice_len h).2
  unfold maxLen at hm
  unfold validRels
  rw [ascFrom_split]
  obtain ⟨n, hn⟩ : ∃ n : Nat, l.length = n := ⟨_, rfl⟩
  have Hr : Hid (∀ w' : World, Below w.heap.size w w' → ∀ j (hj : j < l.length), _) := fun w' hb j hj => at_Relation (Cod.ok_below h hb) j hj
  have Ha : Hid (∀ ww, Below w.heap.size w ww → Calls Try.prog 50 #[.slice a0 l.length cap0, .func (.func 51) #[] #[]] ww fun e w' => e = .returned (.bool (ascN none l)) ∧ Below ww.heap.size ww w') :=
    fun ww hb => ascNames_c (At.below h hb (Nat.le_refl _))
  have Hn := Lib.hid hn
  rw [hn] at hm Ha ⊢
  clear hn h
  generalize ascN none l = A at *
  generalize hR : l.all validRel = R
  have HR : Hid ((l.drop 0).all validRel = R) := hR
  clear hR
  by_cases h4 : (n : Int) > 4
  · have hd : decide (n ≤ 4) = false := decide_eq_false (by omega)
    rw [hd, Bool.and_false]
    go_enter Try.func40, Try.ntmps40
    go_wp2
    go_ret
    exact ⟨rfl, by go_grown⟩
  · have hd : decide (n ≤ 4) = true := decide_eq_true (by omega)
    rw [hd, Bool.and_true]
    go_enter Try.func40, Try.ntmps40
    go_wp2
    go_loopw [10] (fun iv wr => ∃ k : Nat, k ≤ n ∧ iv = .int .i64 k ∧ Hid ((l.drop k).all validRel = R) ∧ Below w.heap.size w wr) (fun iv _ => n - (intOf iv).toNat)
    case atStart => exact ⟨0, by omega, by go_num, HR, Below.refl _ _⟩
    case round =>
      clear HR
      obtain ⟨k, hk, rfl, Hq, hb⟩ := hrel
      by_cases hlt : k < n
      · have hkl : k < l.length := by rw [Hn.out]; exact hlt
        have Hst := Lib.hid (Hq.out.symm.trans (all_drop validRel l k hkl))
        obtain ⟨b, off, rfl, hbB, c0, c1, c2, hx⟩ := Hr.out _ hb k hkl
        have Hc : Hid (∀ ww, Below w.heap.size w ww → Calls Try.prog 49 #[.agg #[.string l[k].name, .int .i64 l[k].arity, .int .i64 l[k].key]] ww fun e w' => e = .returned (.bool (validRel l[k])) ∧ Below ww.heap.size ww w') :=
          fun ww hw2 => by obtain ⟨_, _, _, _, _, _, _, hx⟩ := Hr.out ww hw2 k hkl; exact implIsValidRelation_c (cRel.keep hx (fun _ _ => rfl) hw2.size)
        clear hx Hq
        generalize validRel l[k] = v at *
        generalize l[k] = r at *
        cases v with
        | true =>
          rw [Bool.true_and] at Hst
          go_wp2_with fail
          refine (Hc.out _ ?hb).mono ?_
          case hb => exact hb.trans (Below.mono (by go_grown) hb.size)
          rintro e w1 ⟨rfl, hb1⟩
          have hbb : Below w.heap.size w w1 := hb.trans (Below.mono (Below.trans (by go_grown) (hb1.mono (by simp; try omega))) hb.size)
          go_wp2
          go_roundw
          case rel => exact ⟨k + 1, by omega, by go_num, Hst.out.symm, hbb⟩
          case measure => simp [intOf]; omega
        | false =>
          have hR : R = false := by have h := Hst.out; rw [Bool.false_and] at h; exact h
          go_wp2_with fail
          refine (Hc.out _ ?hb).mono ?_
          case hb => exact hb.trans (Below.mono (by go_grown) hb.size)
          rintro e w1 ⟨rfl, hb1⟩
          have hbb : Below w.heap.size w w1 := hb.trans (Below.mono (Below.trans (by go_grown) (hb1.mono (by simp; try omega))) hb.size)
          go_wp2
          go_ret
          exact ⟨by rw [hR]; rfl, hbb⟩
      · obtain rfl : k = n := by omega
        have hR : R = true := by
          have := Hq.out
          rw [List.drop_eq_nil_of_le (by rw [Hn.out]; exact Nat.le_refl _)] at this
          exact this.symm
        go_wp2_with fail
        refine (Ha.out _ hb).mono ?_
        rintro e w1 ⟨rfl, hb1⟩
        have hbb : Below w.heap.size w w1 := hb.trans (hb1.mono hb.size)
        go_wp2
        go_ret
        exact ⟨by rw [hR]; rfl, hbb⟩

end Go.Proofs.Ytbdichnloeijfaa

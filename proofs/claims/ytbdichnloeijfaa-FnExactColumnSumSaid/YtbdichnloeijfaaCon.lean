/- Chapter 9: IsValidConstraint, the model's and the program's. -/
import Derived.Test.YtbdichnloeijfaaTyTre
import Derived.Test.YtbdichnloeijfaaDbImpl
namespace Go.Proofs.Ytbdichnloeijfaa
open Go.RowKit
set_option linter.unusedVariables false
set_option maxRecDepth 100000

theorem validRels_each {l : List Rel} (h : validRels l = true) (k : Nat) (hk : k < l.length) : validRel l[k] = true := by
  unfold validRels at h
  rw [ascFrom_split] at h
  simp only [Bool.and_eq_true] at h
  exact List.all_eq_true.1 h.1.1 _ (List.getElem_mem hk)
/-- A column of a relation. -/
def colOk (l : List Rel) (r c : Int) : Bool := inB r 0 ((l.length : Int) - 1) && inB c 0 (arityAt l r - 1)
theorem isIndexI_any (i n : Int) (w : World) :
    Calls Try.prog 33 #[.int .i64 i, .int .i64 n] w fun e w' => e = .returned (.bool (inB i 0 (n - 1))) ∧ w = w' := by
  unfold inB
  have e : decide (i ≤ n - 1) = decide (i < n) := by simp; omega
  rw [e]
  clear e
  by_cases h : 0 ≤ i
  · go_enter Try.func33, Try.ntmps33
    go_wp2
    go_ret
    exact ⟨by simp; try omega, rfl⟩
  · go_enter Try.func33, Try.ntmps33
    go_wp2
    go_ret
    exact ⟨by simp; try omega, rfl⟩
theorem isColumn_c {a0 : Option Addr} {cap0 : Nat} {l : List Rel} {w : World} (r c : Int) (h : At (cSlice cRel) w l [.slice a0 l.length cap0]) :
    Calls Try.prog 18 #[.slice a0 l.length cap0, .int .i64 r, .int .i64 c] w fun e w' => e = .returned (.bool (colOk l r c)) ∧ w = w' := by
  have hm := (slice_len h).2
  unfold maxLen at hm
  have Hr : Hid (∀ j (hj : j < l.length), _) := fun j hj => at_Relation h j hj
  clear h
  unfold colOk
  obtain ⟨n, hn⟩ : ∃ n : Nat, l.length = n := ⟨_, rfl⟩
  have Hn := Lib.hid hn
  rw [hn] at hm ⊢
  clear hn
  have Hl : Hid (∀ ww, Calls Try.prog 33 #[.int .i64 r, .int .i64 n] ww fun e w' => e = .returned (.bool (inB r 0 ((n : Int) - 1))) ∧ ww = w') := fun ww => isIndexI_any _ _ _
  have hI : inB r 0 ((n : Int) - 1) = true → 0 ≤ r ∧ r ≤ (n : Int) - 1 := by unfold inB; simp
  generalize inB r 0 ((n : Int) - 1) = I at *
  cases I with
  | false =>
    rw [Bool.false_and]
    clear hI
    go_enter Try.func18, Try.ntmps18
    go_wp2_with (go_at_call 33; refine (Hl.out _).mono ?_; rintro e w' ⟨rfl, rfl⟩)
    go_ret
    exact ⟨rfl, rfl⟩
  | true =>
    rw [Bool.true_and]
    obtain ⟨hr0, hr1⟩ := hI rfl
    clear hI
    obtain ⟨k, rfl⟩ := Int.eq_ofNat_of_zero_le hr0
    have hk : k < n := by omega
    have hkl : k < l.length := by rw [Hn.out]; exact hk
    have har : arityAt l (k : Int) = l[k].arity := by unfold arityAt; simp [hkl]
    rw [har]
    clear har
    obtain ⟨b, off, rfl, hbB, c0, c1, c2, hx⟩ := Hr.out k hkl
    have Hl2 : Hid (∀ ww, Calls Try.prog 33 #[.int .i64 c, .int .i64 l[k].arity] ww fun e w' => e = .returned (.bool (inB c 0 (l[k].arity - 1))) ∧ ww = w') := fun ww => isIndexI_any _ _ _
    clear hx Hr c0 c2
    generalize l[k] = q at *
    generalize inB c 0 (q.arity - 1) = J at *
    go_enter Try.func18, Try.ntmps18
    go_wp2_with fail
    refine (Hl.out _).mono ?_
    rintro e w' ⟨rfl, rfl⟩
    go_wp2_with fail
    refine (Hl2.out _).mono ?_
    rintro e w' ⟨rfl, rfl⟩
    go_wp2
    go_ret
    exact ⟨rfl, rfl⟩

/-- A constraint that fits the relations. -/
def fits (l : List Rel) (c : Dcn) : Bool := colOk l c.r1 c.j1 && (colOk l c.r1 c.c1 && (colOk l c.r2 c.j2 && (colOk l c.r2 c.c2 && inB c.cmp 1 2)))
/-- A valid constraint. -/
def validCon (d : Dbs) (c : Dcn) : Bool := validDb d && fits d.rels c
end Go.Proofs.Ytbdichnloeijfaa

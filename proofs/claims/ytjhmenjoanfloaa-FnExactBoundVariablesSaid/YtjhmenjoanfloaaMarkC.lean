/- The laws' marks, read again in slices of numbers; marks in relations. -/
import Derived.Test.YtjhmenjoanfloaaMarkB
import Derived.Test.YtjhmenjoanfloaaTyC
import Derived.Test.YtjhmenjoanfloaaGrow
namespace Go.Proofs.Ytjhmenjoanfloaa
open Go.RowKit
set_option linter.unusedVariables false
set_option maxRecDepth 100000

theorem markI_get (k : Nat) (l : List Int) (j : Nat) (hj : j < (markI k l).length) : (markI k l)[j] = ((k + j : Nat) : Int) := by
  induction l generalizing k j with
  | nil => simp [markI, markL] at hj
  | cons x l ih =>
    cases j with
    | zero => simp [markI, markL]
    | succ j =>
      have := ih (k + 1) j (by simpa [markI, markL] using hj)
      simp only [markI, markL, List.getElem_cons_succ] at this ⊢
      rw [this]; omega
theorem heldIntS_c {a : Option Addr} {cap : Nat} {l : List Int} {k : Nat} {w : World} (hk : (k + l.length : Nat) ≤ 4611686018427387904) (hM : ∀ j (hj : j < l.length), l[j] = ((k + j : Nat) : Int)) (h : At (cSlice cInt) w l [.slice a l.length cap]) :
    Calls Try.prog 28 #[.slice a l.length cap, .int .i64 k] w fun e w' => e = .returned (.int .i64 ((k + l.length : Nat) : Int)) ∧ Below w.heap.size w w' := by
  have hm := (slice_len h).2
  unfold maxLen at hm
  obtain ⟨n, hn⟩ : ∃ n : Nat, l.length = n := ⟨_, rfl⟩
  have Hr : Hid (∀ w' : World, Below w.heap.size w w' → ∀ j (hj : j < l.length), _) := fun w' hb j hj => ints_at (Cod.ok_below h hb) j hj
  have HM := Lib.hid hM
  have Hn := Lib.hid hn
  rw [hn] at hk hm ⊢
  clear hn h hM
  go_enter Try.func28, Try.ntmps28
  go_wp2
  go_loopw [1, 5] (fun kv iv wr => ∃ j : Nat, j ≤ n ∧ kv = .int .i64 ((k + j : Nat) : Int) ∧ iv = .int .i64 j ∧ Below w.heap.size w wr) (fun _ iv _ => n - (intOf iv).toNat)
  case atStart => exact ⟨0, by omega, by go_num, by go_num, Below.refl _ _⟩
  case round =>
    obtain ⟨j, hj, rfl, rfl, hb⟩ := hrel
    by_cases hlt : j < n
    · have hjl : j < l.length := by rw [Hn.out]; exact hlt
      obtain ⟨b, off, rfl, hbB, c0⟩ := Hr.out _ hb j hjl
      rw [HM.out j hjl] at c0
      have hne : (((k + j : Nat) : Int) != ((k + j : Nat) : Int)) = false := bne_self_eq_false _
      go_wp2
      go_roundw
      case rel => exact ⟨j + 1, by omega, by go_num, by go_num, hb⟩
      case measure => simp [intOf]; omega
    · obtain rfl : j = n := by omega
      go_wp2
      go_ret
      exact ⟨rfl, hb⟩

theorem cRel_own_nil {F : List Nat} {w : World} {x : Rel} {cs : List Value} (h : cRel.own F w x cs) : F = [] := by
  obtain ⟨_, _, F1, F2, _, ⟨_, rfl⟩, ⟨_, _, F3, F4, _, ⟨_, rfl⟩, ⟨_, rfl⟩, rfl, _⟩, rfl, _⟩ := h
  rfl
/-- Marks in a relation; in a list of relations. -/
def markR (k : Nat) (_ : Rel) : Rel := ⟨mT k, ((k + 1 : Nat) : Int), ((k + 2 : Nat) : Int)⟩
def markRs (k : Nat) (l : List Rel) : List Rel := markL markR (fun _ => 3) k l
theorem lvs_three (l : List Rel) : lvs (fun _ => 3) l = l.length * 3 := by
  induction l with
  | nil => rfl
  | cons x l ih => unfold lvs at *; rw [List.map_cons, List.sum_cons, ih, List.length_cons]; omega
theorem inR_nat {k : Nat} (h : k ≤ 4611686018427387904) : inR (k : Int) := by unfold inR; omega
end Go.Proofs.Ytjhmenjoanfloaa

/- Chapter 4: ascending places among n: areIndices; the model's l4Set. -/
import Derived.Test.YtlcogbmceanghaaDoorTyTwo
import Derived.Test.YtlcogbmceanghaaDoorKeyOne
import Derived.Lib.Small
namespace Go.Proofs.YtlcogbmceanghaaDoor
open Go.RowKit
set_option linter.unusedVariables false
set_option maxRecDepth 100000

/-- A number behind another one. -/
def okPI : Option Int → Int → Bool
  | none, _ => true
  | some q, x => decide (q < x)
def ascI : Option Int → List Int → Bool
  | _, [] => true
  | p, x :: l => okPI p x && ascI (some x) l
/-- Ascending places among n. -/
def setIx (n : Int) (l : List Int) : Bool := l.all (fun x => inB x 0 (n - 1)) && ascI none l
theorem ascI_step (l : List Int) (k : Nat) (hk : k < l.length) : ascI (prevG l k) (l.drop k) = (okPI (prevG l k) l[k] && ascI (prevG l (k + 1)) (l.drop (k + 1))) := by
  rw [List.drop_eq_getElem_cons hk]
  simp [ascI, prevG, hk]
theorem ascI_start (l : List Int) : ascI none l = ascI (prevG l 1) (l.drop 1) := by
  cases l with
  | nil => rfl
  | cons r l => simp [ascI, prevG, okPI]
theorem okPI_succ (l : List Int) (k : Nat) (hk : k < l.length) (x : Int) : okPI (prevG l (k + 1)) x = decide (l[k] < x) := by
  show okPI (l[k]?) x = _
  rw [List.getElem?_eq_getElem hk]; rfl
/-- What the model's loop asks. -/
def setFrom (n : Int) : Option Int → List Int → Bool
  | _, [] => true
  | p, x :: l => inB x 0 (n - 1) && (okPI p x && setFrom n (some x) l)
theorem setFrom_step (n : Int) (l : List Int) (k : Nat) (hk : k < l.length) : setFrom n (prevG l k) (l.drop k) = (inB l[k] 0 (n - 1) && (okPI (prevG l k) l[k] && setFrom n (prevG l (k + 1)) (l.drop (k + 1)))) := by
  rw [List.drop_eq_getElem_cons hk]
  simp [setFrom, prevG, hk]
theorem setFrom_split (n : Int) : ∀ (l : List Int) (p : Option Int), setFrom n p l = (l.all (fun x => inB x 0 (n - 1)) && ascI p l)
  | [], _ => rfl
  | x :: l, p => by
    simp only [setFrom, ascI, List.all_cons, setFrom_split n l (some x)]
    cases inB x 0 (n - 1) <;> cases okPI p x <;> cases l.all (fun x => inB x 0 (n - 1)) <;> simp
theorem setIx_eq (n : Int) (l : List Int) : setIx n l = setFrom n none l := (setFrom_split n l none).symm

theorem isIndexX_any (i n : Int) (w : World) :
    Calls Tryd.prog 127 #[.int .i64 i, .int .i64 n] w fun e w' => e = .returned (.bool (inB i 0 (n - 1))) ∧ w = w' := by
  unfold inB
  have e : decide (i ≤ n - 1) = decide (i < n) := by simp; omega
  rw [e]
  clear e
  by_cases h : 0 ≤ i
  · go_enter Tryd.func127, Tryd.ntmps127
    go_wp2
    go_ret
    exact ⟨by simp; try omega, rfl⟩
  · go_enter Tryd.func127, Tryd.ntmps127
    go_wp2
    go_ret
    exact ⟨by simp; try omega, rfl⟩

theorem compareInt_ge (x y : Int) : decide (Lib.compareInt x y ≥ 0) = !decide (x < y) := by
  unfold Lib.compareInt
  rcases Int.lt_trichotomy x y with h | h | h
  · simp [h]
  · simp [h]
  · have h1 : ¬ x < y := by omega
    simp [h, h1]
set_option maxHeartbeats 3200000 in
theorem ascInts_c {a0 : Option Addr} {cap0 : Nat} {l : List Int} {w : World} (h : At (cSlice cInt) w l [.slice a0 l.length cap0]) :
    Calls Tryd.prog 133 #[.slice a0 l.length cap0, .func (.func 134) #[] #[]] w fun e w' => e = .returned (.bool (ascI none l)) ∧ Below w.heap.size w w' := by
  have hm := (slice_len h).2
  unfold maxLen at hm
  obtain ⟨n, hn⟩ : ∃ n : Nat, l.length = n := ⟨_, rfl⟩
  have Hr : Hid (∀ w' : World, Below w.heap.size w w' → ∀ j (hj : j < l.length), _) := fun w' hb j hj => ints_at (Cod.ok_below h hb) j hj
  have Hn := Lib.hid hn
  rw [hn] at hm ⊢
  clear hn h
  generalize hR : ascI none l = R
  rw [ascI_start] at hR
  have HR : Hid (ascI (prevG l 1) (l.drop 1) = R) := hR
  clear hR
  go_enter Tryd.func133, Tryd.ntmps133
  go_wp2
  go_loopw [5] (fun iv wr => ∃ k : Nat, (k ≤ n ∨ k = 1) ∧ 1 ≤ k ∧ iv = .int .i64 k ∧ Hid (ascI (prevG l k) (l.drop k) = R) ∧ Below w.heap.size w wr) (fun iv _ => n - (intOf iv).toNat)
  case atStart => exact ⟨1, by omega, by omega, by go_num, HR, Below.refl _ _⟩
  case round =>
    clear HR
    obtain ⟨k, hk, hk1, rfl, Hq, hb⟩ := hrel
    by_cases hlt : k < n
    · have hkl : k < l.length := by rw [Hn.out]; exact hlt
      obtain ⟨j, hj⟩ : ∃ j, k = j + 1 := ⟨k - 1, by omega⟩
      have hjl : j < l.length := by omega
      have hp : okPI (prevG l k) l[k] = decide (l[j] < l[k]) := by subst hj; exact okPI_succ l j hjl _
      have Hst := Lib.hid (Hq.out.symm.trans (ascI_step l k hkl))
      rw [hp] at Hst
      obtain ⟨b, off, rfl, hbB, c0⟩ := Hr.out _ hb k hkl
      obtain ⟨b', off', e', hbB', p0⟩ := Hr.out _ hb j hjl
      obtain ⟨rfl, rfl⟩ : b = b' ∧ off = off' := by simp at e'; exact e'
      have Hz : Hid (∀ ww, Calls Tryd.prog 134 #[.int .i64 l[j], .int .i64 l[k]] ww fun e w' => e = .returned (.int .i64 (Lib.compareInt l[j] l[k])) ∧ Below ww.heap.size ww w') := fun ww => (Tryd.cmp_Compare_int _ _ _).mono (by rintro e w' ⟨rfl, rfl⟩; exact ⟨rfl, Below.refl _ _⟩)
      have C0 := grow_cell c0
      have D0 := grow_cell p0
      have hwj : wrap64 ((k : Int) - 1) = (j : Int) := by rw [IntWalk.wrap64_in _ ⟨by omega, by omega⟩]; omega
      have hkj : (k : Int) - 1 = (j : Int) := by omega
      have hjn : (j : Int) < n := by omega
      have hge := compareInt_ge l[j] l[k]
      have Hj := Lib.hid hj
      clear hj e' hp hbB' hbB p0 c0 Hq
      generalize Lib.compareInt l[j] l[k] = z at *
      generalize hs : decide (l[j] < l[k]) = s at *
      clear hs
      generalize l[j] = q at *
      generalize l[k] = r at *
      cases s with
      | false =>
        have hR : R = false := by have h := Hst.out; rw [Bool.false_and] at h; exact h
        have hzd : decide (z ≥ 0) = true := hge
        clear hge
        go_wp2_with fail
        refine wp_region_grow (by kernel_rfl) (by kernel_rfl) ?_
        repeat (go_big_quiet_step ((go_at_call 134; exact Calls.grow fun ww h => Hz.out ww)))
        refine wpQuiet_nil ?_
        rintro _ ⟨nq, rfl⟩
        go_wp2
        go_ret
        exact ⟨by rw [hR]; rfl, hb.trans (nq.below.mono hb.size)⟩
      | true =>
        have Hs2 : Hid (ascI (prevG l (k + 1)) (l.drop (k + 1)) = R) := by have h := Hst.out; rw [Bool.true_and] at h; exact h.symm
        have hzd : decide (z ≥ 0) = false := hge
        clear hge
        go_wp2_with fail
        refine wp_region_grow (by kernel_rfl) (by kernel_rfl) ?_
        repeat (go_big_quiet_step ((go_at_call 134; exact Calls.grow fun ww h => Hz.out ww)))
        refine wpQuiet_nil ?_
        rintro _ ⟨nq, rfl⟩
        go_wp2
        go_roundw
        case rel => exact ⟨k + 1, by omega, by omega, by go_num, Hs2, hb.trans (nq.below.mono hb.size)⟩
        case measure => simp [intOf]; omega
    · have hR : R = true := by
        have := Hq.out
        rw [List.drop_eq_nil_of_le (by rw [Hn.out]; omega)] at this
        exact this.symm
      go_wp2
      go_ret
      exact ⟨by rw [hR]; rfl, hb⟩
set_option maxHeartbeats 1600000 in
theorem areIndices_c {a0 : Option Addr} {cap0 : Nat} {l : List Int} {n : Int} {w : World} (h : At (cSlice cInt) w l [.slice a0 l.length cap0]) :
    Calls Tryd.prog 101 #[.slice a0 l.length cap0, .int .i64 n] w fun e w' => e = .returned (.bool (setIx n l)) ∧ Below w.heap.size w w' := by
  have hm := (slice_len h).2
  unfold maxLen at hm
  have Hr : Hid (∀ w' : World, Below w.heap.size w w' → ∀ j (hj : j < l.length), _) := fun w' hb j hj => ints_at (Cod.ok_below h hb) j hj
  have Hs : Hid (∀ ww, Below w.heap.size w ww → Calls Tryd.prog 133 #[.slice a0 l.length cap0, .func (.func 134) #[] #[]] ww fun e w' => e = .returned (.bool (ascI none l)) ∧ Below ww.heap.size ww w') :=
    fun ww hb => ascInts_c (At.below h hb (Nat.le_refl _))
  clear h
  unfold setIx
  generalize ascI none l = A at *
  obtain ⟨N, hN⟩ : ∃ n : Nat, l.length = n := ⟨_, rfl⟩
  have Hn := Lib.hid hN
  rw [hN] at hm Hs ⊢
  clear hN
  generalize hR : l.all (fun x => inB x 0 (n - 1)) = R
  have HR : Hid ((l.drop 0).all (fun x => inB x 0 (n - 1)) = R) := hR
  clear hR
  go_enter Tryd.func101, Tryd.ntmps101
  go_wp2
  go_loopw [9] (fun iv wr => ∃ k : Nat, k ≤ N ∧ iv = .int .i64 k ∧ Hid ((l.drop k).all (fun x => inB x 0 (n - 1)) = R) ∧ Below w.heap.size w wr) (fun iv _ => N - (intOf iv).toNat)
  case atStart => exact ⟨0, by omega, by go_num, HR, Below.refl _ _⟩
  case round =>
    clear HR
    obtain ⟨k, hk, rfl, Hq, hb⟩ := hrel
    by_cases hlt : k < N
    · have hkl : k < l.length := by rw [Hn.out]; exact hlt
      have Hst := Lib.hid (Hq.out.symm.trans (all_drop (fun x => inB x 0 (n - 1)) l k hkl))
      obtain ⟨b, off, rfl, hbB, c0⟩ := Hr.out _ hb k hkl
      have Hl : Hid (∀ ww, Calls Tryd.prog 127 #[.int .i64 l[k], .int .i64 n] ww fun e w' => e = .returned (.bool (inB l[k] 0 (n - 1))) ∧ ww = w') := fun ww => isIndexX_any _ _ _
      clear Hq
      generalize hz : inB l[k] 0 (n - 1) = z at *
      clear hz
      generalize l[k] = e at *
      cases z with
      | true =>
        rw [Bool.true_and] at Hst
        go_wp2_with fail
        refine (Hl.out _).mono ?_
        rintro e w2 ⟨rfl, rfl⟩
        go_wp2
        go_roundw
        case rel => exact ⟨k + 1, by omega, by go_num, Hst.out.symm, hb⟩
        case measure => simp [intOf]; omega
      | false =>
        have hR : R = false := by have h := Hst.out; rw [Bool.false_and] at h; exact h
        go_wp2_with fail
        refine (Hl.out _).mono ?_
        rintro e w2 ⟨rfl, rfl⟩
        go_wp2
        go_ret
        exact ⟨by rw [hR]; rfl, hb⟩
    · obtain rfl : k = N := by omega
      have hR : R = true := by
        have := Hq.out
        rw [List.drop_eq_nil_of_le (by rw [Hn.out]; exact Nat.le_refl _)] at this
        exact this.symm
      go_wp2_with fail
      refine (Hs.out _ hb).mono ?_
      rintro e w2 ⟨rfl, hb2⟩
      go_wp2
      go_ret
      exact ⟨by rw [hR]; rfl, hb.trans (hb2.mono hb.size)⟩
end Go.Proofs.YtlcogbmceanghaaDoor


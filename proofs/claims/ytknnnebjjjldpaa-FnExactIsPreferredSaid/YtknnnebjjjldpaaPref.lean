/- Chapter 28: slices.Index and slices.Contains on edges; the program's IsPreferred. -/
import Derived.Test.YtknnnebjjjldpaaTyTre
import Derived.Test.YtknnnebjjjldpaaEq
import Derived.Laws.StructEq
namespace Go.Proofs.Ytknnnebjjjldpaa
open Go.RowKit
set_option linter.unusedVariables false
set_option maxRecDepth 100000

def prefB (l : List Edg) (a b : Int) : Bool := decide ((⟨a, b⟩ : Edg) ∈ l)
set_option maxHeartbeats 800000 in
theorem indexEdge_c {a0 : Option Addr} {cap : Nat} {l : List Edg} {xa xb : Int} {w : World} (h : At (cSlice cEdg) w l [.slice a0 l.length cap]) :
    Calls Try.prog 104 #[.slice a0 l.length cap, .agg #[.int .i64 xa, .int .i64 xb]] w fun e w' => (∃ r : Int, e = .returned (.int .i64 r) ∧ decide (0 ≤ r) = decide ((⟨xa, xb⟩ : Edg) ∈ l)) ∧ Below w.heap.size w w' := by
  have hm := (slice_len h).2
  unfold maxLen at hm
  obtain ⟨n, hn⟩ : ∃ n : Nat, l.length = n := ⟨_, rfl⟩
  have Hr : Hid (∀ w' : World, Below w.heap.size w w' → ∀ j (hj : j < l.length), _) := fun w' hb j hj => at_ConflictEdge (Cod.ok_below h hb) j hj
  clear h
  rw [hn]
  have Hn := Lib.hid hn
  have hm2 : n ≤ 2 ^ 63 - 1 := by omega
  clear hn hm
  go_enter Try.func104, Try.ntmps104
  go_wp2_with fail
  obtain ⟨wx, hb0, hsz, p0, p1, hwx⟩ : ∃ wx, Below w.heap.size w wx ∧ w.heap.size < wx.heap.size ∧ wx.cell? ⟨w.heap.size, 0, none⟩ = some (.int .i64 xa) ∧ wx.cell? ⟨w.heap.size, 1, none⟩ = some (.int .i64 xb) ∧ w.alloc (Obj.cells #[.int .i64 xa, .int .i64 xb] 78) = wx := ⟨_, by go_grown, by simp, by go_simp, by go_simp, rfl⟩
  rw [hwx]
  clear hwx
  go_wp2
  go_loopw [8] (fun iv wr => ∃ k : Nat, k ≤ n ∧ iv = .int .i64 k ∧ Hid (∀ j (hj : j < l.length), j < k → l[j] ≠ ⟨xa, xb⟩) ∧ Below w.heap.size w wr ∧ wr.cell? ⟨w.heap.size, 0, none⟩ = some (.int .i64 xa) ∧ wr.cell? ⟨w.heap.size, 1, none⟩ = some (.int .i64 xb)) (fun iv _ => n - (intOf iv).toNat)
  case atStart => exact ⟨0, by omega, by go_num, fun j hj h => by omega, hb0, p0, p1⟩
  case round =>
    clear hb0 hsz p0 p1
    obtain ⟨k, hk, rfl, Hq, hb, p0, p1⟩ := hrel
    by_cases hlt : k < n
    · have hkl : k < l.length := by rw [Hn.out]; exact hlt
      obtain ⟨b, off, rfl, hbB, c0, c1, hx⟩ := Hr.out _ hb k hkl
      clear hx
      obtain ⟨r, hrk⟩ : ∃ r, l[k] = r := ⟨_, rfl⟩
      rw [hrk] at c0 c1
      have Hrk := Lib.hid hrk
      clear hrk
      have g1 := Try.eqGuardType78
      have g2 := Try.stoodInHeld78
      obtain ⟨ra, rb⟩ := r
      simp only at c0 c1
      have Hq2 : Hid (¬ (xa = ra ∧ xb = rb) → ∀ j (hj : j < l.length), j < k + 1 → l[j] ≠ ⟨xa, xb⟩) := by
        intro hne j hj hjk
        by_cases e : j = k
        · subst e
          rw [Hrk.out]
          intro e2
          injection e2 with e3 e4
          exact hne ⟨e3.symm, e4.symm⟩
        · exact Hq.out j hj (by omega)
      by_cases h1 : xa = ra
      · by_cases h2 : xb = rb
        · subst h1
          subst h2
          have Hmem : Hid ((⟨xa, xb⟩ : Edg) ∈ l) := by
            show _ ∈ _
            rw [← Hrk.out]
            exact List.getElem_mem hkl
          go_wp2
          go_quiet (fail)
          go_wp2
          go_ret
          exact ⟨⟨(k : Int), rfl, by rw [decide_eq_true (by omega), decide_eq_true Hmem.out]⟩, Below.drewN' hb _⟩
        · have Hq3 := Lib.hid (Hq2.out (fun q => h2 q.2))
          go_wp2
          go_quiet (fail)
          go_wp2
          go_roundw
          case rel => exact ⟨k + 1, by omega, by go_num, Hq3, Below.drewN' hb _, cell_next p0 (Below.drewN' (Below.refl _ _) _), cell_next p1 (Below.drewN' (Below.refl _ _) _)⟩
          case measure => simp [intOf]; omega
      · have Hq3 := Lib.hid (Hq2.out (fun q => h1 q.1))
        go_wp2
        go_quiet (fail)
        go_wp2
        go_roundw
        case rel => exact ⟨k + 1, by omega, by go_num, Hq3, Below.drewN' hb _, cell_next p0 (Below.drewN' (Below.refl _ _) _), cell_next p1 (Below.drewN' (Below.refl _ _) _)⟩
        case measure => simp [intOf]; omega
    · obtain rfl : k = n := by omega
      have Hno : Hid (¬ (⟨xa, xb⟩ : Edg) ∈ l) := by
        intro hmem
        obtain ⟨j, hj, e⟩ := List.getElem_of_mem hmem
        exact Hq.out j hj (by rw [← Hn.out]; exact hj) e
      go_wp2
      go_ret
      exact ⟨⟨-1, rfl, by rw [decide_eq_false (by omega), decide_eq_false Hno.out]⟩, hb⟩
theorem containsEdge_c {a0 : Option Addr} {cap : Nat} {l : List Edg} {xa xb : Int} {w : World} (h : At (cSlice cEdg) w l [.slice a0 l.length cap]) :
    Calls Try.prog 64 #[.slice a0 l.length cap, .agg #[.int .i64 xa, .int .i64 xb]] w fun e w' => e = .returned (.bool (decide ((⟨xa, xb⟩ : Edg) ∈ l))) ∧ Below w.heap.size w w' := by
  have Hc : Hid (∀ ww, Below w.heap.size w ww → Calls Try.prog 104 #[.slice a0 l.length cap, .agg #[.int .i64 xa, .int .i64 xb]] ww fun e w' => (∃ r : Int, e = .returned (.int .i64 r) ∧ decide (0 ≤ r) = decide ((⟨xa, xb⟩ : Edg) ∈ l)) ∧ Below ww.heap.size ww w') := fun ww hb => indexEdge_c (At.below (c := (cSlice cEdg)) h hb (Nat.le_refl _))
  clear h
  generalize decide ((⟨xa, xb⟩ : Edg) ∈ l) = R at *
  go_enter Try.func64, Try.ntmps64
  go_wp2_with fail
  refine (Hc.out _ ?hb).mono ?_
  case hb => go_grown
  rintro e w1 ⟨⟨r, rfl, hr⟩, hb1⟩
  have hbb1 : Below w.heap.size w w1 := Below.trans (by go_grown) (hb1.mono (by simp))
  clear hb1
  subst hr
  go_wp2
  go_ret
  exact ⟨by first | rfl | simp, hbb1⟩
theorem implIsPreferred_o {a0 : Option Addr} {cap0 : Nat} {l0 : List Edg} {a1 a2 : Int} {w : World} (hz0 : l0.length ≤ 1048576) (h0 : At (cSlice cEdg) w l0 [.slice a0 l0.length cap0]) :
    Calls Try.prog 28 #[.slice a0 l0.length cap0, .int .i64 a1, .int .i64 a2] w fun e w' => e = .returned (.bool (decide ((⟨a1, a2⟩ : Edg) ∈ l0))) ∧ Below w.heap.size w w' := by
  have Hc : Hid (∀ ww, Below w.heap.size w ww → Calls Try.prog 64 #[.slice a0 l0.length cap0, .agg #[.int .i64 a1, .int .i64 a2]] ww fun e w' => e = .returned (.bool (decide ((⟨a1, a2⟩ : Edg) ∈ l0))) ∧ Below ww.heap.size ww w') := fun ww hb => containsEdge_c (At.below (c := (cSlice cEdg)) h0 hb (Nat.le_refl _))
  clear h0
  generalize decide ((⟨a1, a2⟩ : Edg) ∈ l0) = R at *
  go_enter Try.func28, Try.ntmps28
  go_wp2_with fail
  refine (Hc.out _ (Below.refl _ _)).mono ?_
  rintro e w1 ⟨rfl, hb1⟩
  go_wp2
  go_ret
  exact ⟨rfl, hb1⟩
end Go.Proofs.Ytknnnebjjjldpaa


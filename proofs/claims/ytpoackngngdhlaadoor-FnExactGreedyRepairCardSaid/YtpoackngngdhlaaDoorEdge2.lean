/- Chapter 8: the model's AreValidEdges. -/
import Derived.Test.YtpoackngngdhlaaDoorEdge1
namespace Go.Proofs.YtpoackngngdhlaaDoor
open Go.RowKit
set_option linter.unusedVariables false
set_option maxRecDepth 100000

theorem okPE_eq (q x : Edg) : (!decide (cmpE q x ≥ 0)) = !(decide (x.a < q.a) || (x.a == q.a && decide (x.b ≤ q.b))) := by
  unfold cmpE Lib.compareInt
  rcases Int.lt_trichotomy q.a x.a with h | h | h
  · have h1 : ¬ x.a < q.a := by omega
    have h2 : ¬ x.a = q.a := by omega
    simp [h, h1, h2]
  · rcases Int.lt_trichotomy q.b x.b with h3 | h3 | h3
    · have h1 : ¬ x.b ≤ q.b := by omega
      simp [h, h3, h1]
    · simp [h, h3]
    · have h1 : x.b ≤ q.b := by omega
      have h4 : ¬ q.b < x.b := by omega
      simp [h, h3, h1, h4]
  · have h1 : ¬ q.a < x.a := by omega
    simp [h, h1]
set_option maxHeartbeats 6400000 in
theorem specAreValidEdges_c {a0 : Option Addr} {cap0 : Nat} {l : List Edg} {n : Int} {w : World} (h : At (cSlice cEdg) w l [.slice a0 l.length cap0]) :
    Calls Tryd.prog 38 #[.int .i64 n, .slice a0 l.length cap0] w fun e w' => e = .returned (.bool (validE n l)) ∧ Below w.heap.size w w' := by
  have hm := (slice_len h).2
  unfold maxLen at hm
  rw [validE_eq n l (edge_b h)]
  obtain ⟨N, hN⟩ : ∃ n : Nat, l.length = n := ⟨_, rfl⟩
  have Hr : Hid (∀ w' : World, Below w.heap.size w w' → ∀ j (hj : j < l.length), _) := fun w' hb j hj => at_ConflictEdge (Cod.ok_below h hb) j hj
  have Hn := Lib.hid hN
  rw [hN] at hm ⊢
  clear hN h
  generalize hR : spE n none l = R
  have HR : Hid (spE n (prevG l 0) (l.drop 0) = R) := hR
  clear hR
  have T3 : Hid (∀ ww, Calls Tryd.prog 50 #[.int .i64 n, .int .i64 0, .int .i64 14] ww fun e w' => e = .returned (.bool (inB n 0 14)) ∧ ww = w') := fun ww => l1In_any _ _ _ _
  generalize inB n 0 14 = F at *
  go_enter Tryd.func38, Tryd.ntmps38
  go_wp2
  go_loopw [5] (fun iv wr => ∃ k : Nat, k ≤ N ∧ iv = .int .i64 k ∧ Hid (spE n (prevG l k) (l.drop k) = R) ∧ Below w.heap.size w wr) (fun iv _ => N - (intOf iv).toNat)
  case atStart => exact ⟨0, by omega, by go_num, HR, Below.refl _ _⟩
  case round =>
    clear HR
    obtain ⟨k, hk, rfl, Hq, hb⟩ := hrel
    by_cases hlt : k < N
    · have hkl : k < l.length := by rw [Hn.out]; exact hlt
      clear T3
      have Hst := Lib.hid (Hq.out.symm.trans (spE_step n l k hkl))
      obtain ⟨b, off, rfl, hbB, c0, c1, hx⟩ := Hr.out _ hb k hkl
      have C0 := grow_cell c0
      have C1 := grow_cell c1
      clear hx Hq
      rcases Nat.eq_zero_or_pos k with hk0 | hk0
      · have hg : decide ((0 : Int) < (k : Int)) = false := decide_eq_false (by omega)
        have hg2 : decide (0 < k) = false := decide_eq_false (by omega)
        have hp : okPE (prevG l k) l[k] = true := by subst hk0; rfl
        rw [hp, Bool.true_and] at Hst
        clear hp hk0
        generalize l[k] = r at *
        obtain ⟨ea, eb⟩ := r
        simp only [stE] at *
        have T1 : Hid (∀ ww, Calls Tryd.prog 50 #[.int .i64 ea, .int .i64 0, .int .i64 (wrap64 (eb - 1))] ww fun e w' => e = .returned (.bool (inB ea 0 (wrap64 (eb - 1)))) ∧ Below ww.heap.size ww w') := fun ww => (l1In_any _ _ _ _).mono (by rintro e w' ⟨rfl, rfl⟩; exact ⟨rfl, Below.refl _ _⟩)
        have T2 : Hid (∀ ww, Calls Tryd.prog 50 #[.int .i64 eb, .int .i64 0, .int .i64 (wrap64 (n - 1))] ww fun e w' => e = .returned (.bool (inB eb 0 (wrap64 (n - 1)))) ∧ Below ww.heap.size ww w') := fun ww => (l1In_any _ _ _ _).mono (by rintro e w' ⟨rfl, rfl⟩; exact ⟨rfl, Below.refl _ _⟩)
        generalize inB ea 0 (wrap64 (eb - 1)) = t1 at *
        generalize inB eb 0 (wrap64 (n - 1)) = t2 at *
        generalize hwb : wrap64 (eb - 1) = wb at *
        generalize hwn : wrap64 (n - 1) = wn at *
        have hwb2 : IntKind.i64.wrap (eb - 1) = wb := by rw [← hwb, IntKind.wrap_i64]; unfold wrap64; rfl
        have hwn2 : IntKind.i64.wrap (n - 1) = wn := by rw [← hwn, IntKind.wrap_i64]; unfold wrap64; rfl
        cases t1 with
        | false =>
          have hR : R = false := by have h := Hst.out; simp at h; exact h
          go_wp2_with fail
          refine wp_region_grow (by kernel_rfl) (by kernel_rfl) ?_
          dsimp only [List.append]
          repeat (go_big_quiet_step (first | (go_at_call_of 50 (Value.int .i64 ea); (try simp only [hwb2, hwn2]); exact Calls.grow fun ww h => T1.out ww) | (go_at_call_of 50 (Value.int .i64 eb); (try simp only [hwb2, hwn2]); exact Calls.grow fun ww h => T2.out ww)))
          refine wpQuiet_nil ?_
          rintro _ ⟨nq, rfl⟩
          go_wp2
          go_ret
          exact ⟨by first | rfl | (rw [hR]; rfl) | (simp [hR]), hb.trans (nq.below.mono hb.size)⟩
        | true =>
          cases t2 with
          | false =>
            have hR : R = false := by have h := Hst.out; simp at h; exact h
            go_wp2_with fail
            refine wp_region_grow (by kernel_rfl) (by kernel_rfl) ?_
            dsimp only [List.append]
            repeat (go_big_quiet_step (first | (go_at_call_of 50 (Value.int .i64 ea); (try simp only [hwb2, hwn2]); exact Calls.grow fun ww h => T1.out ww) | (go_at_call_of 50 (Value.int .i64 eb); (try simp only [hwb2, hwn2]); exact Calls.grow fun ww h => T2.out ww)))
            refine wpQuiet_nil ?_
            rintro _ ⟨nq, rfl⟩
            go_wp2
            go_ret
            exact ⟨by first | rfl | (rw [hR]; rfl) | (simp [hR]), hb.trans (nq.below.mono hb.size)⟩
          | true =>
            have Hs2 : Hid (spE n (prevG l (k + 1)) (l.drop (k + 1)) = R) := by have h := Hst.out; simp at h; show _ = _; exact h.symm
            go_wp2_with fail
            refine wp_region_grow (by kernel_rfl) (by kernel_rfl) ?_
            dsimp only [List.append]
            repeat (go_big_quiet_step (first | (go_at_call_of 50 (Value.int .i64 ea); (try simp only [hwb2, hwn2]); exact Calls.grow fun ww h => T1.out ww) | (go_at_call_of 50 (Value.int .i64 eb); (try simp only [hwb2, hwn2]); exact Calls.grow fun ww h => T2.out ww)))
            refine wpQuiet_nil ?_
            rintro _ ⟨nq, rfl⟩
            go_wp2
            go_roundw
            case rel => exact ⟨k + 1, by omega, by go_num, Hs2, hb.trans (nq.below.mono hb.size)⟩
            case measure => simp [intOf]; omega
      · have hg : decide ((0 : Int) < (k : Int)) = true := decide_eq_true (by omega)
        have hg2 : decide (0 < k) = true := decide_eq_true (by omega)
        obtain ⟨j, hj⟩ : ∃ j, k = j + 1 := ⟨k - 1, by omega⟩
        have hjl : j < l.length := by omega
        have hp : okPE (prevG l k) l[k] = !(decide (l[k].a < l[j].a) || (l[k].a == l[j].a && decide (l[k].b ≤ l[j].b))) := by subst hj; rw [okPE_succ l j hjl]; exact okPE_eq _ _
        rw [hp] at Hst
        clear hp hk0
        obtain ⟨b', off', e', hbB', p0, p1, hxp⟩ := Hr.out _ hb j hjl
        obtain ⟨rfl, rfl⟩ : b = b' ∧ off = off' := by simp at e'; exact e'
        have hwj : wrap64 ((k : Int) - 1) = (j : Int) := by rw [IntWalk.wrap64_in _ ⟨by omega, by omega⟩]; omega
        have hkj : (k : Int) - 1 = (j : Int) := by omega
        have D0 := grow_cell p0
        have D1 := grow_cell p1
        have hjn : (j : Int) < N := by omega
        have Hj := Lib.hid hj
        clear hj e' hxp hbB' p0 p1
        generalize l[k] = r at *
        generalize l[j] = q at *
        obtain ⟨ea, eb⟩ := r
        obtain ⟨pa, pb⟩ := q
        simp only [stE] at *
        have T1 : Hid (∀ ww, Calls Tryd.prog 50 #[.int .i64 ea, .int .i64 0, .int .i64 (wrap64 (eb - 1))] ww fun e w' => e = .returned (.bool (inB ea 0 (wrap64 (eb - 1)))) ∧ Below ww.heap.size ww w') := fun ww => (l1In_any _ _ _ _).mono (by rintro e w' ⟨rfl, rfl⟩; exact ⟨rfl, Below.refl _ _⟩)
        have T2 : Hid (∀ ww, Calls Tryd.prog 50 #[.int .i64 eb, .int .i64 0, .int .i64 (wrap64 (n - 1))] ww fun e w' => e = .returned (.bool (inB eb 0 (wrap64 (n - 1)))) ∧ Below ww.heap.size ww w') := fun ww => (l1In_any _ _ _ _).mono (by rintro e w' ⟨rfl, rfl⟩; exact ⟨rfl, Below.refl _ _⟩)
        generalize inB ea 0 (wrap64 (eb - 1)) = t1 at *
        generalize inB eb 0 (wrap64 (n - 1)) = t2 at *
        generalize hwb : wrap64 (eb - 1) = wb at *
        generalize hwn : wrap64 (n - 1) = wn at *
        have hwb2 : IntKind.i64.wrap (eb - 1) = wb := by rw [← hwb, IntKind.wrap_i64]; unfold wrap64; rfl
        have hwn2 : IntKind.i64.wrap (n - 1) = wn := by rw [← hwn, IntKind.wrap_i64]; unfold wrap64; rfl
        generalize hx1 : decide (ea < pa) = x1 at *
        generalize hx2 : (ea == pa) = x2 at *
        generalize hx3 : decide (eb ≤ pb) = x3 at *
        cases t1 with
        | false =>
          have hR : R = false := by have h := Hst.out; simp at h; exact h
          go_wp2_with fail
          refine wp_region_grow (by kernel_rfl) (by kernel_rfl) ?_
          dsimp only [List.append]
          repeat (go_big_quiet_step (first | (go_at_call_of 50 (Value.int .i64 ea); (try simp only [hwb2, hwn2]); exact Calls.grow fun ww h => T1.out ww) | (go_at_call_of 50 (Value.int .i64 eb); (try simp only [hwb2, hwn2]); exact Calls.grow fun ww h => T2.out ww)))
          refine wpQuiet_nil ?_
          rintro _ ⟨nq, rfl⟩
          go_wp2
          go_ret
          exact ⟨by first | rfl | (rw [hR]; rfl) | (simp [hR]), hb.trans (nq.below.mono hb.size)⟩
        | true =>
          cases t2 with
          | false =>
            have hR : R = false := by have h := Hst.out; simp at h; exact h
            go_wp2_with fail
            refine wp_region_grow (by kernel_rfl) (by kernel_rfl) ?_
            dsimp only [List.append]
            repeat (go_big_quiet_step (first | (go_at_call_of 50 (Value.int .i64 ea); (try simp only [hwb2, hwn2]); exact Calls.grow fun ww h => T1.out ww) | (go_at_call_of 50 (Value.int .i64 eb); (try simp only [hwb2, hwn2]); exact Calls.grow fun ww h => T2.out ww)))
            refine wpQuiet_nil ?_
            rintro _ ⟨nq, rfl⟩
            go_wp2
            go_ret
            exact ⟨by first | rfl | (rw [hR]; rfl) | (simp [hR]), hb.trans (nq.below.mono hb.size)⟩
          | true =>
            cases x1 with
            | true =>
              have hR : R = false := by have h := Hst.out; simp at h; exact h
              go_wp2_with fail
              refine wp_region_grow (by kernel_rfl) (by kernel_rfl) ?_
              dsimp only [List.append]
              repeat (go_big_quiet_step (first | (go_at_call_of 50 (Value.int .i64 ea); (try simp only [hwb2, hwn2]); exact Calls.grow fun ww h => T1.out ww) | (go_at_call_of 50 (Value.int .i64 eb); (try simp only [hwb2, hwn2]); exact Calls.grow fun ww h => T2.out ww)))
              refine wpQuiet_nil ?_
              rintro _ ⟨nq, rfl⟩
              go_wp2
              go_ret
              exact ⟨by first | rfl | (rw [hR]; rfl) | (simp [hR]), hb.trans (nq.below.mono hb.size)⟩
            | false =>
              cases x2 with
              | false =>
                have Hs2 : Hid (spE n (prevG l (k + 1)) (l.drop (k + 1)) = R) := by have h := Hst.out; simp at h; show _ = _; exact h.symm
                go_wp2_with fail
                refine wp_region_grow (by kernel_rfl) (by kernel_rfl) ?_
                dsimp only [List.append]
                repeat (go_big_quiet_step (first | (go_at_call_of 50 (Value.int .i64 ea); (try simp only [hwb2, hwn2]); exact Calls.grow fun ww h => T1.out ww) | (go_at_call_of 50 (Value.int .i64 eb); (try simp only [hwb2, hwn2]); exact Calls.grow fun ww h => T2.out ww)))
                refine wpQuiet_nil ?_
                rintro _ ⟨nq, rfl⟩
                go_wp2
                go_roundw
                case rel => exact ⟨k + 1, by omega, by go_num, Hs2, hb.trans (nq.below.mono hb.size)⟩
                case measure => simp [intOf]; omega
              | true =>
                cases x3 with
                | true =>
                  have hR : R = false := by have h := Hst.out; simp at h; exact h
                  go_wp2_with fail
                  refine wp_region_grow (by kernel_rfl) (by kernel_rfl) ?_
                  dsimp only [List.append]
                  repeat (go_big_quiet_step (first | (go_at_call_of 50 (Value.int .i64 ea); (try simp only [hwb2, hwn2]); exact Calls.grow fun ww h => T1.out ww) | (go_at_call_of 50 (Value.int .i64 eb); (try simp only [hwb2, hwn2]); exact Calls.grow fun ww h => T2.out ww)))
                  refine wpQuiet_nil ?_
                  rintro _ ⟨nq, rfl⟩
                  go_wp2
                  go_ret
                  exact ⟨by first | rfl | (rw [hR]; rfl) | (simp [hR]), hb.trans (nq.below.mono hb.size)⟩
                | false =>
                  have Hs2 : Hid (spE n (prevG l (k + 1)) (l.drop (k + 1)) = R) := by have h := Hst.out; simp at h; show _ = _; exact h.symm
                  go_wp2_with fail
                  refine wp_region_grow (by kernel_rfl) (by kernel_rfl) ?_
                  dsimp only [List.append]
                  repeat (go_big_quiet_step (first | (go_at_call_of 50 (Value.int .i64 ea); (try simp only [hwb2, hwn2]); exact Calls.grow fun ww h => T1.out ww) | (go_at_call_of 50 (Value.int .i64 eb); (try simp only [hwb2, hwn2]); exact Calls.grow fun ww h => T2.out ww)))
                  refine wpQuiet_nil ?_
                  rintro _ ⟨nq, rfl⟩
                  go_wp2
                  go_roundw
                  case rel => exact ⟨k + 1, by omega, by go_num, Hs2, hb.trans (nq.below.mono hb.size)⟩
                  case measure => simp [intOf]; omega
    · obtain rfl : k = N := by omega
      have hR : R = true := by
        have := Hq.out
        rw [List.drop_eq_nil_of_le (by rw [Hn.out]; exact Nat.le_refl _)] at this
        exact this.symm
      go_wp2_with fail
      refine (T3.out _).mono ?_
      rintro e w2 ⟨rfl, rfl⟩
      go_wp2
      go_ret
      exact ⟨by first | rfl | (rw [hR]; rfl) | (simp [hR]), hb⟩
end Go.Proofs.YtpoackngngdhlaaDoor


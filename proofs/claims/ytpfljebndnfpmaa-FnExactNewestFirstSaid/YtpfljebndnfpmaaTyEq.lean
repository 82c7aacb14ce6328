/- Structs: readings, the laws' helpers on them (size, copy, equality). -/
import Derived.Test.YtpfljebndnfpmaaTyTre
namespace Go.Proofs.Ytpfljebndnfpmaa
open Go.RowKit
set_option linter.unusedVariables false
set_option maxRecDepth 100000

theorem eqDenialConstraint_c {x y : Dcn} {w : World} (h : At cDcn w x [.int .i64 x.r1, .int .i64 x.r2, .int .i64 x.j1, .int .i64 x.j2, .int .i64 x.c1, .int .i64 x.c2, .int .i64 x.cmp]) (h' : At cDcn w y [.int .i64 y.r1, .int .i64 y.r2, .int .i64 y.j1, .int .i64 y.j2, .int .i64 y.c1, .int .i64 y.c2, .int .i64 y.cmp]) :
    Calls Try.prog 58 #[.agg #[.int .i64 x.r1, .int .i64 x.r2, .int .i64 x.j1, .int .i64 x.j2, .int .i64 x.c1, .int .i64 x.c2, .int .i64 x.cmp], .agg #[.int .i64 y.r1, .int .i64 y.r2, .int .i64 y.j1, .int .i64 y.j2, .int .i64 y.c1, .int .i64 y.c2, .int .i64 y.cmp]] w fun e w' => e = .returned (.bool (decide (x = y))) ∧ Below w.heap.size w w' := by
  clear h h'
  obtain ⟨r1, r2, j1, j2, c1, c2, cmp⟩ := x
  obtain ⟨r1', r2', j1', j2', c1', c2', cmp'⟩ := y
  have he : decide (Dcn.mk r1 r2 j1 j2 c1 c2 cmp = Dcn.mk r1' r2' j1' j2' c1' c2' cmp') = (decide (r1 = r1') && (decide (r2 = r2') && (decide (j1 = j1') && (decide (j2 = j2') && (decide (c1 = c1') && (decide (c2 = c2') && decide (cmp = cmp'))))))) := by
    simp only [← Bool.decide_and]; congr 1; rw [Dcn.mk.injEq]
  rw [he]
  clear he
  simp only at *
  by_cases hr0 : r1 = r1'
  · subst hr0
    rw [decide_eq_true rfl, Bool.true_and]
    by_cases hr1 : r2 = r2'
    · subst hr1
      rw [decide_eq_true rfl, Bool.true_and]
      by_cases hr2 : j1 = j1'
      · subst hr2
        rw [decide_eq_true rfl, Bool.true_and]
        by_cases hr3 : j2 = j2'
        · subst hr3
          rw [decide_eq_true rfl, Bool.true_and]
          by_cases hr4 : c1 = c1'
          · subst hr4
            rw [decide_eq_true rfl, Bool.true_and]
            by_cases hr5 : c2 = c2'
            · subst hr5
              rw [decide_eq_true rfl, Bool.true_and]
              by_cases hr6 : cmp = cmp'
              · subst hr6
                rw [decide_eq_true rfl]
                go_enter Try.func58, Try.ntmps58
                go_wp2
                go_ret
                exact ⟨by simp, by go_grown⟩
              · have hn6 : (cmp != cmp') = true := by simp [hr6]
                rw [decide_eq_false hr6]
                go_enter Try.func58, Try.ntmps58
                go_wp2
                go_ret
                exact ⟨by simp, by go_grown⟩
            · have hn5 : (c2 != c2') = true := by simp [hr5]
              rw [decide_eq_false hr5, Bool.false_and]
              go_enter Try.func58, Try.ntmps58
              go_wp2
              go_ret
              exact ⟨by simp, by go_grown⟩
          · have hn4 : (c1 != c1') = true := by simp [hr4]
            rw [decide_eq_false hr4, Bool.false_and]
            go_enter Try.func58, Try.ntmps58
            go_wp2
            go_ret
            exact ⟨by simp, by go_grown⟩
        · have hn3 : (j2 != j2') = true := by simp [hr3]
          rw [decide_eq_false hr3, Bool.false_and]
          go_enter Try.func58, Try.ntmps58
          go_wp2
          go_ret
          exact ⟨by simp, by go_grown⟩
      · have hn2 : (j1 != j1') = true := by simp [hr2]
        rw [decide_eq_false hr2, Bool.false_and]
        go_enter Try.func58, Try.ntmps58
        go_wp2
        go_ret
        exact ⟨by simp, by go_grown⟩
    · have hn1 : (r2 != r2') = true := by simp [hr1]
      rw [decide_eq_false hr1, Bool.false_and]
      go_enter Try.func58, Try.ntmps58
      go_wp2
      go_ret
      exact ⟨by simp, by go_grown⟩
  · have hn0 : (r1 != r1') = true := by simp [hr0]
    rw [decide_eq_false hr0, Bool.false_and]
    go_enter Try.func58, Try.ntmps58
    go_wp2
    go_ret
    exact ⟨by simp, by go_grown⟩
end Go.Proofs.Ytpfljebndnfpmaa


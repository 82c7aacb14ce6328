/- Chapter 9: IsValidConstraint, the model's and the program's. -/
import Derived.Test.YtpfljebndnfpmaaTyTre
import Derived.Test.YtpfljebndnfpmaaKeyOne
namespace Go.Proofs.Ytpfljebndnfpmaa
open Go.RowKit
set_option linter.unusedVariables false
set_option maxRecDepth 100000

theorem validRels_each {l : List Rel} (h : validRels l = true) (k : Nat) (hk : k < l.length) : validRel l[k] = true := by
  unfold validRels at h
  rw [ascFrom_split] at h
  simp only [Bool.and_eq_true] at h
  exact List.all_eq_true.1 h.1.1 _ (List.getElem_mem hk)
/-- A column of a relation. -/
def colOk (l : List Rel) (r c : Int) : Bool := inB r 0 ((l.length : Int) - 1) && inB c 0 (arityAt l r - 1)
theorem isIndexI_any (i n : Int) (w : World) :
    Calls Try.prog 161 #[.int .i64 i, .int .i64 n] w fun e w' => e = .returned (.bool (inB i 0 (n - 1))) ∧ w = w' := by
  unfold inB
  have e : decide (i ≤ n - 1) = decide (i < n) := by simp; omega
  rw [e]
  clear e
  by_cases h : 0 ≤ i
  · go_enter Try.func161, Try.ntmps161
    go_wp2
    go_ret
    exact ⟨by simp; try omega, rfl⟩
  · go_enter Try.func161, Try.ntmps161
    go_wp2
    go_ret
    exact ⟨by simp; try omega, rfl⟩
theorem isColumn_c {a0 : Option Addr} {cap0 : Nat} {l : List Rel} {w : World} (r c : Int) (h : At (cSlice cRel) w l [.slice a0 l.length cap0]) :
    Calls Try.prog 167 #[.slice a0 l.length cap0, .int .i64 r, .int .i64 c] w fun e w' => e = .returned (.bool (colOk l r c)) ∧ w = w' := by
  have hm := (slice_len h).2
  unfold maxLen at hm
  have Hr : Hid (∀ j (hj : j < l.length), _) := fun j hj => at_Relation h j hj
  clear h
  unfold colOk
  obtain ⟨n, hn⟩ : ∃ n : Nat, l.length = n := ⟨_, rfl⟩
  have Hn := Lib.hid hn
  rw [hn] at hm ⊢
  clear hn
  have Hl : Hid (∀ ww, Calls Try.prog 161 #[.int .i64 r, .int .i64 n] ww fun e w' => e = .returned (.bool (inB r 0 ((n : Int) - 1))) ∧ ww = w') := fun ww => isIndexI_any _ _ _
  have hI : inB r 0 ((n : Int) - 1) = true → 0 ≤ r ∧ r ≤ (n : Int) - 1 := by unfold inB; simp
  generalize inB r 0 ((n : Int) - 1) = I at *
  cases I with
  | false =>
    rw [Bool.false_and]
    clear hI
    go_enter Try.func167, Try.ntmps167
    go_wp2_with (go_at_call 161; refine (Hl.out _).mono ?_; rintro e w' ⟨rfl, rfl⟩)
    go_ret
    exact ⟨rfl, rfl⟩
  | true =>
    rw [Bool.true_and]
    obtain ⟨hr0, hr1⟩ := hI rfl
    clear hI
    obtain ⟨k, rfl⟩ := Int.eq_ofNat_of_zero_le hr0
    have hk : k < n := by omega
    have hkl : k < l.length := by rw [Hn.out]; exact hk
    have har : arityAt l (k : Int) = l[k].arity := by unfold arityAt; simp [hkl]
    rw [har]
    clear har
    obtain ⟨b, off, rfl, hbB, c0, c1, c2, hx⟩ := Hr.out k hkl
    have Hl2 : Hid (∀ ww, Calls Try.prog 161 #[.int .i64 c, .int .i64 l[k].arity] ww fun e w' => e = .returned (.bool (inB c 0 (l[k].arity - 1))) ∧ ww = w') := fun ww => isIndexI_any _ _ _
    clear hx Hr c0 c2
    generalize l[k] = q at *
    generalize inB c 0 (q.arity - 1) = J at *
    go_enter Try.func167, Try.ntmps167
    go_wp2_with fail
    refine (Hl.out _).mono ?_
    rintro e w' ⟨rfl, rfl⟩
    go_wp2_with fail
    refine (Hl2.out _).mono ?_
    rintro e w' ⟨rfl, rfl⟩
    go_wp2
    go_ret
    exact ⟨rfl, rfl⟩

/-- A constraint that fits the relations. -/
def fits (l : List Rel) (c : Dcn) : Bool := colOk l c.r1 c.j1 && (colOk l c.r1 c.c1 && (colOk l c.r2 c.j2 && (colOk l c.r2 c.c2 && inB c.cmp 1 2)))
set_option maxHeartbeats 1600000 in
theorem fitsSchema_c {a0 : Option Addr} {cap0 : Nat} {l : List Rel} {c : Dcn} {w : World} (h : At (cSlice cRel) w l [.slice a0 l.length cap0]) :
    Calls Try.prog 152 #[.slice a0 l.length cap0, .agg #[.int .i64 c.r1, .int .i64 c.r2, .int .i64 c.j1, .int .i64 c.j2, .int .i64 c.c1, .int .i64 c.c2, .int .i64 c.cmp]] w fun e w' => e = .returned (.bool (fits l c)) ∧ Below w.heap.size w w' := by
  have H := fun (r q : Int) => Lib.hid (fun ww (hb : Below w.heap.size w ww) => isColumn_c r q (At.below h hb (Nat.le_refl _)))
  have HA := H c.r1 c.j1
  have HB := H c.r1 c.c1
  have HC := H c.r2 c.j2
  have HD := H c.r2 c.c2
  clear H h
  unfold fits
  have hM : inB c.cmp 1 2 = (decide (c.cmp = 1) || decide (c.cmp = 2)) := by
    unfold inB
    by_cases h1 : c.cmp = 1
    · rw [h1]; rfl
    · by_cases h2 : c.cmp = 2
      · rw [h2]; rfl
      · have e : ¬ ((1 : Int) ≤ c.cmp ∧ c.cmp ≤ 2) := by omega
        rw [← Bool.decide_and, decide_eq_false e, decide_eq_false h1, decide_eq_false h2]; rfl
  rw [hM]
  clear hM
  generalize colOk l c.r1 c.j1 = A at *
  generalize colOk l c.r1 c.c1 = B at *
  generalize colOk l c.r2 c.j2 = C at *
  generalize colOk l c.r2 c.c2 = D at *
  obtain ⟨r1, r2, j1, j2, c1, c2, cm⟩ := c
  simp only at *
  generalize l.length = n at *
  obtain ⟨wx, hwx⟩ : ∃ wx, wx = w.alloc (Obj.cells #[.int .i64 r1, .int .i64 r2, .int .i64 j1, .int .i64 j2, .int .i64 c1, .int .i64 c2, .int .i64 cm] 92) := ⟨_, rfl⟩
  have hb0 : Below w.heap.size w wx := by rw [hwx]; go_grown
  have p0 : wx.cell? ⟨w.heap.size, 0, none⟩ = some (.int .i64 r1) := by rw [hwx]; go_simp
  have p1 : wx.cell? ⟨w.heap.size, 1, none⟩ = some (.int .i64 r2) := by rw [hwx]; go_simp
  have p2 : wx.cell? ⟨w.heap.size, 2, none⟩ = some (.int .i64 j1) := by rw [hwx]; go_simp
  have p3 : wx.cell? ⟨w.heap.size, 3, none⟩ = some (.int .i64 j2) := by rw [hwx]; go_simp
  have p4 : wx.cell? ⟨w.heap.size, 4, none⟩ = some (.int .i64 c1) := by rw [hwx]; go_simp
  have p5 : wx.cell? ⟨w.heap.size, 5, none⟩ = some (.int .i64 c2) := by rw [hwx]; go_simp
  have p6 : wx.cell? ⟨w.heap.size, 6, none⟩ = some (.int .i64 cm) := by rw [hwx]; go_simp
  have Hwx := Lib.hid hwx
  clear hwx
  go_enter Try.func152, Try.ntmps152
  go_wp2_with fail
  rw [← Hwx.out]
  clear Hwx
  refine (HA.out _ hb0).mono ?_
  rintro e w' ⟨rfl, rfl⟩
  cases A with
  | false =>
    go_wp2
    go_ret
    exact ⟨rfl, hb0⟩
  | true =>
    go_wp2_with fail
    refine (HB.out _ hb0).mono ?_
    rintro e w' ⟨rfl, rfl⟩
    cases B with
    | false =>
      go_wp2
      go_ret
      exact ⟨rfl, hb0⟩
    | true =>
      go_wp2_with fail
      refine (HC.out _ hb0).mono ?_
      rintro e w' ⟨rfl, rfl⟩
      cases C with
      | false =>
        go_wp2
        go_ret
        exact ⟨rfl, hb0⟩
      | true =>
        go_wp2_with fail
        refine (HD.out _ hb0).mono ?_
        rintro e w' ⟨rfl, rfl⟩
        cases D with
        | false =>
          go_wp2
          go_ret
          exact ⟨rfl, hb0⟩
        | true =>
          by_cases h1 : cm = 1
          · subst h1
            go_wp2
            go_ret
            exact ⟨rfl, hb0⟩
          · have e1 : (cm == 1) = false := by simp [h1]
            by_cases h2 : cm = 2
            · subst h2
              go_wp2
              go_ret
              exact ⟨rfl, hb0⟩
            · have e2 : (cm == 2) = false := by simp [h2]
              go_wp2
              go_ret
              exact ⟨by simp [h1, h2], hb0⟩

/-- A valid constraint. -/
def validCon (d : Dbs) (c : Dcn) : Bool := validDb d && fits d.rels c
set_option maxHeartbeats 3200000 in
theorem specIsValidConstraint_c {a0 a1 : Option Addr} {cap0 cap1 : Nat} {x : Dbs} {c : Dcn} {w : World} (h : At cDbs w x [.slice a0 x.rels.length cap0, .slice a1 x.facts.length cap1]) (hc : At cDcn w c [.int .i64 c.r1, .int .i64 c.r2, .int .i64 c.j1, .int .i64 c.j2, .int .i64 c.c1, .int .i64 c.c2, .int .i64 c.cmp]) :
    Calls Try.prog 148 #[.agg #[.slice a0 x.rels.length cap0, .slice a1 x.facts.length cap1], .agg #[.int .i64 c.r1, .int .i64 c.r2, .int .i64 c.j1, .int .i64 c.j2, .int .i64 c.c1, .int .i64 c.c2, .int .i64 c.cmp]] w fun e w' => e = .returned (.bool (validCon x c)) ∧ Below w.heap.size w w' := by
  have hx0 := (cDbs_inv h).1
  have hm := (slice_len hx0).2
  unfold maxLen at hm
  have HR : Hid (∀ w' : World, Below w.heap.size w w' → ∀ j (hj : j < x.rels.length), _) := fun w' hb j hj => at_Relation (Cod.ok_below hx0 hb) j hj
  have H1 : Hid (∀ ww, Below w.heap.size w ww → Calls Try.prog 105 #[.agg #[.slice a0 x.rels.length cap0, .slice a1 x.facts.length cap1]] ww fun e w' => e = .returned (.bool (validDb x)) ∧ Below ww.heap.size ww w') :=
    fun ww hb => specIsValidDatabase_c (At.below h hb (Nat.le_refl _))
  have hE : validCon x c = (validDb x && (inB c.r1 0 ((x.rels.length : Int) - 1) && (inB c.r2 0 ((x.rels.length : Int) - 1) && (inB c.j1 0 (arityAt x.rels c.r1 - 1) && (inB c.c1 0 (arityAt x.rels c.r1 - 1) && (inB c.j2 0 (arityAt x.rels c.r2 - 1) && (inB c.c2 0 (arityAt x.rels c.r2 - 1) && inB c.cmp 1 2))))))) := by
    unfold validCon fits colOk
    cases inB c.r1 0 ((x.rels.length : Int) - 1) <;> cases inB c.r2 0 ((x.rels.length : Int) - 1) <;> simp
  have hV : validDb x = true → validRels x.rels = true := by
    intro hv
    unfold validDb at hv
    simp only [Bool.and_eq_true] at hv
    exact hv.2.1
  rw [hE]
  have hrg := cDcn_inv hc
  clear h hc hE hx0
  obtain ⟨l, xf⟩ := x
  obtain ⟨r1, r2, j1, j2, c1, c2, cm⟩ := c
  simp only at *
  obtain ⟨n, hn⟩ : ∃ n : Nat, l.length = n := ⟨_, rfl⟩
  have Hn := Lib.hid hn
  rw [hn] at hm H1 ⊢
  clear hn
  generalize xf.length = nf at *
  have hwn : wrap64 ((n : Int) - 1) = (n : Int) - 1 := IntWalk.wrap64_in _ ⟨by omega, by omega⟩
  generalize validDb ⟨l, xf⟩ = V at *
  have hI1 : inB r1 0 ((n : Int) - 1) = true → 0 ≤ r1 ∧ r1 ≤ (n : Int) - 1 := by unfold inB; simp
  have hI2 : inB r2 0 ((n : Int) - 1) = true → 0 ≤ r2 ∧ r2 ≤ (n : Int) - 1 := by unfold inB; simp
  have K1 : Hid (∀ ww, Calls Try.prog 95 #[.int .i64 r1, .int .i64 0, .int .i64 ((n : Int) - 1)] ww fun e w' => e = .returned (.bool (inB r1 0 ((n : Int) - 1))) ∧ ww = w') := fun ww => l1In_any _ _ _ _
  have K2 : Hid (∀ ww, Calls Try.prog 95 #[.int .i64 r2, .int .i64 0, .int .i64 ((n : Int) - 1)] ww fun e w' => e = .returned (.bool (inB r2 0 ((n : Int) - 1))) ∧ ww = w') := fun ww => l1In_any _ _ _ _
  generalize hJ1 : inB r1 0 ((n : Int) - 1) = I1 at *
  generalize hJ2 : inB r2 0 ((n : Int) - 1) = I2 at *
  clear hJ1 hJ2
  obtain ⟨wx, hwx⟩ : ∃ wx, wx = (w.alloc (Obj.cells #[.slice a0 n cap0, .slice a1 nf cap1] 34)).alloc (Obj.cells #[.int .i64 r1, .int .i64 r2, .int .i64 j1, .int .i64 j2, .int .i64 c1, .int .i64 c2, .int .i64 cm] 92) := ⟨_, rfl⟩
  have hb0 : Below w.heap.size w wx := by rw [hwx]; go_grown
  have q0 : wx.cell? ⟨w.heap.size, 0, none⟩ = some (.slice a0 n cap0) := by rw [hwx]; go_simp
  have q1 : wx.cell? ⟨w.heap.size, 1, none⟩ = some (.slice a1 nf cap1) := by rw [hwx]; go_simp
  have p0 : wx.cell? ⟨w.heap.size + 1, 0, none⟩ = some (.int .i64 r1) := by rw [hwx]; go_simp
  have p1 : wx.cell? ⟨w.heap.size + 1, 1, none⟩ = some (.int .i64 r2) := by rw [hwx]; go_simp
  have p2 : wx.cell? ⟨w.heap.size + 1, 2, none⟩ = some (.int .i64 j1) := by rw [hwx]; go_simp
  have p3 : wx.cell? ⟨w.heap.size + 1, 3, none⟩ = some (.int .i64 j2) := by rw [hwx]; go_simp
  have p4 : wx.cell? ⟨w.heap.size + 1, 4, none⟩ = some (.int .i64 c1) := by rw [hwx]; go_simp
  have p5 : wx.cell? ⟨w.heap.size + 1, 5, none⟩ = some (.int .i64 c2) := by rw [hwx]; go_simp
  have p6 : wx.cell? ⟨w.heap.size + 1, 6, none⟩ = some (.int .i64 cm) := by rw [hwx]; go_simp
  have Hwx := Lib.hid hwx
  clear hwx
  go_enter Try.func148, Try.ntmps148
  go_wp2_with fail
  rw [← Hwx.out]
  clear Hwx
  refine (H1.out _ hb0).mono ?_
  rintro e w1 ⟨rfl, hb1⟩
  have hbb : Below w.heap.size w w1 := hb0.trans (hb1.mono hb0.size)
  cases V with
  | false =>
    clear HR hV hI1 hI2
    go_wp2
    go_ret
    exact ⟨rfl, hbb⟩
  | true =>
    have hvr := hV rfl
    clear hV
    replace q0 := cell_next q0 hb1
    replace q1 := cell_next q1 hb1
    replace p0 := cell_next p0 hb1
    replace p1 := cell_next p1 hb1
    replace p2 := cell_next p2 hb1
    replace p3 := cell_next p3 hb1
    replace p4 := cell_next p4 hb1
    replace p5 := cell_next p5 hb1
    replace p6 := cell_next p6 hb1
    clear hb0 hb1 H1
    have Hvr := Lib.hid hvr
    clear hvr
    go_wp2_with fail
    refine (K1.out _).mono ?_
    rintro e w' ⟨rfl, rfl⟩
    cases I1 with
    | false =>
      clear HR hI1 hI2
      go_wp2
      go_ret
      exact ⟨rfl, hbb⟩
    | true =>
      obtain ⟨ha, hb⟩ := hI1 (by first | rfl | trivial)
      clear hI1
      obtain ⟨k1, rfl⟩ := Int.eq_ofNat_of_zero_le ha
      have hk1 : k1 < n := by omega
      have hkl1 : k1 < l.length := by rw [Hn.out]; exact hk1
      clear ha hb
      go_wp2_with fail
      refine (K2.out _).mono ?_
      rintro e w' ⟨rfl, rfl⟩
      cases I2 with
      | false =>
        clear HR hI2
        go_wp2
        go_ret
        exact ⟨rfl, hbb⟩
      | true =>
        obtain ⟨ha, hb⟩ := hI2 (by first | rfl | trivial)
        clear hI2
        obtain ⟨k2, rfl⟩ := Int.eq_ofNat_of_zero_le ha
        have hk2 : k2 < n := by omega
        have hkl2 : k2 < l.length := by rw [Hn.out]; exact hk2
        clear ha hb
        have har1 : arityAt l (k1 : Int) = l[k1].arity := by unfold arityAt; simp [hkl1]
        have har2 : arityAt l (k2 : Int) = l[k2].arity := by unfold arityAt; simp [hkl2]
        obtain ⟨b, off, rfl, hbB, x0, x1, x2, hx⟩ := HR.out _ hbb k1 hkl1
        obtain ⟨b', off', e', hbB', y0, y1, y2, hy⟩ := HR.out _ hbb k2 hkl2
        obtain ⟨rfl, rfl⟩ : b = b' ∧ off = off' := by simp at e'; exact e'
        have hv1 := validRels_each Hvr.out k1 hkl1
        have hv2 := validRels_each Hvr.out k2 hkl2
        unfold validRel inB at hv1 hv2
        simp only [Bool.and_eq_true, decide_eq_true_eq] at hv1 hv2
        have hA1 := hv1.2.1
        have hA2 := hv2.2.1
        clear e' hx hy x0 x2 y0 y2 hv1 hv2 HR Hvr hbB'
        generalize l[k1] = s1 at *
        generalize l[k2] = s2 at *
        obtain ⟨m1, hm1⟩ : ∃ m, s1.arity = m := ⟨_, rfl⟩
        obtain ⟨m2, hm2⟩ : ∃ m, s2.arity = m := ⟨_, rfl⟩
        rw [hm1] at hA1 x1 har1
        rw [hm2] at hA2 y1 har2
        clear hm1 hm2
        have Har1 := Lib.hid har1
        have Har2 := Lib.hid har2
        clear har1 har2
        have hw1 : wrap64 (m1 - 1) = m1 - 1 := IntWalk.wrap64_in _ ⟨by omega, by omega⟩
        have hw2 : wrap64 (m2 - 1) = m2 - 1 := IntWalk.wrap64_in _ ⟨by omega, by omega⟩
        clear hA1 hA2
        go_wp2_with fail
        refine (l1In_any _ _ _ _).mono ?_
        rintro e w' ⟨rfl, rfl⟩
        cases hB0 : inB j1 0 (m1 - 1) with
        | false =>
          have HB0 := Lib.hid hB0
          clear hB0
          go_wp2
          go_ret
          exact ⟨by rw [Har1.out, Har2.out, HB0.out]; simp, hbb⟩
        | true =>
          have HB0 := Lib.hid hB0
          clear hB0
          go_wp2_with fail
          refine (l1In_any _ _ _ _).mono ?_
          rintro e w' ⟨rfl, rfl⟩
          cases hB1 : inB c1 0 (m1 - 1) with
          | false =>
            have HB1 := Lib.hid hB1
            clear hB1
            go_wp2
            go_ret
            exact ⟨by rw [Har1.out, Har2.out, HB0.out, HB1.out]; simp, hbb⟩
          | true =>
            have HB1 := Lib.hid hB1
            clear hB1
            go_wp2_with fail
            refine (l1In_any _ _ _ _).mono ?_
            rintro e w' ⟨rfl, rfl⟩
            cases hB2 : inB j2 0 (m2 - 1) with
            | false =>
              have HB2 := Lib.hid hB2
              clear hB2
              go_wp2
              go_ret
              exact ⟨by rw [Har1.out, Har2.out, HB0.out, HB1.out, HB2.out]; simp, hbb⟩
            | true =>
              have HB2 := Lib.hid hB2
              clear hB2
              go_wp2_with fail
              refine (l1In_any _ _ _ _).mono ?_
              rintro e w' ⟨rfl, rfl⟩
              cases hB3 : inB c2 0 (m2 - 1) with
              | false =>
                have HB3 := Lib.hid hB3
                clear hB3
                go_wp2
                go_ret
                exact ⟨by rw [Har1.out, Har2.out, HB0.out, HB1.out, HB2.out, HB3.out]; simp, hbb⟩
              | true =>
                have HB3 := Lib.hid hB3
                clear hB3
                go_wp2_with fail
                refine (l1In_any _ _ _ _).mono ?_
                rintro e w' ⟨rfl, rfl⟩
                go_wp2
                go_ret
                exact ⟨by rw [Har1.out, Har2.out, HB0.out, HB1.out, HB2.out, HB3.out]; simp, hbb⟩
end Go.Proofs.Ytpfljebndnfpmaa


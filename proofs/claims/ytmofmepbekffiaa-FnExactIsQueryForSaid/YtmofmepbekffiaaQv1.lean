/- Chapter 11: isAtomOf, hasRelation, areAllUsed: the program's. -/
import Derived.Test.YtmofmepbekffiaaTyH
import Derived.Test.YtmofmepbekffiaaTerm
import Derived.Test.YtmofmepbekffiaaIx
import Derived.Test.YtmofmepbekffiaaVar
namespace Go.Proofs.Ytmofmepbekffiaa
open Go.RowKit
set_option linter.unusedVariables false
set_option maxRecDepth 100000

/-- A term of a query with so many variables. -/
def termIn (vars t : Int) : Bool := inB t (-10) (vars - 1)
/-- An atom of one of the relations. -/
def atomOk (l : List Rel) (vars : Int) (a : Atm) : Bool := inB a.rel 0 ((l.length : Int) - 1) && (decide ((a.terms.length : Int) = arityAt l a.rel) && a.terms.all (termIn vars))
theorem termIn_eq {vars t : Int} (h : 0 ≤ vars) : termIn vars t = (termOk t || inB t 0 (vars - 1)) := by
  unfold termIn termOk inB
  rw [Bool.eq_iff_iff]
  simp only [Bool.and_eq_true, Bool.or_eq_true, decide_eq_true_eq]
  omega
set_option maxHeartbeats 3200000 in
theorem isAtomOf_c {a0 a1 : Option Addr} {cap0 cap1 : Nat} {l : List Rel} {x : Atm} {vars : Int} {w : World} (hv : 0 ≤ vars) (h : At (cSlice cRel) w l [.slice a0 l.length cap0]) (h' : At cAtm w x [.int .i64 x.rel, .slice a1 x.terms.length cap1]) :
    Calls Try.prog 69 #[.slice a0 l.length cap0, .int .i64 vars, .agg #[.int .i64 x.rel, .slice a1 x.terms.length cap1]] w fun e w' => e = .returned (.bool (atomOk l vars x)) ∧ Below w.heap.size w w' := by
  have hm := (slice_len h).2
  have h1 := (cAtm_inv h').1
  have hm1 := (slice_len h1).2
  unfold maxLen at hm hm1
  have Hr : Hid (∀ w' : World, Below w.heap.size w w' → ∀ j (hj : j < l.length), _) := fun w' hb j hj => at_Relation (Cod.ok_below h hb) j hj
  have Hi : Hid (∀ w' : World, Below w.heap.size w w' → ∀ j (hj : j < x.terms.length), _) := fun w' hb j hj => ints_at (Cod.ok_below h1 hb) j hj
  have Hg := Lib.hid (ints_rng h1)
  clear h h' h1
  unfold atomOk
  obtain ⟨n, hn⟩ : ∃ n : Nat, l.length = n := ⟨_, rfl⟩
  have Hn := Lib.hid hn
  rw [hn] at hm ⊢
  clear hn
  obtain ⟨r, v⟩ := x
  simp only at *
  obtain ⟨nv, hnv⟩ : ∃ n : Nat, v.length = n := ⟨_, rfl⟩
  have Hnv := Lib.hid hnv
  rw [hnv] at hm1 ⊢
  clear hnv
  have Hl : Hid (∀ ww, Calls Try.prog 95 #[.int .i64 r, .int .i64 n] ww fun e w' => e = .returned (.bool (inB r 0 ((n : Int) - 1))) ∧ Below ww.heap.size ww w') := fun ww => (isIndexX_any _ _ _).mono (by rintro e w' ⟨rfl, rfl⟩; exact ⟨rfl, Below.refl _ _⟩)
  have hI : inB r 0 ((n : Int) - 1) = true → 0 ≤ r ∧ r ≤ (n : Int) - 1 := by unfold inB; simp
  generalize inB r 0 ((n : Int) - 1) = I at *
  obtain ⟨wx, hwx⟩ : ∃ wx, wx = w.alloc (Obj.cells #[.int .i64 r, .slice a1 nv cap1] 85) := ⟨_, rfl⟩
  have hb0 : Below w.heap.size w wx := by rw [hwx]; go_grown
  have p0 : wx.cell? ⟨w.heap.size, 0, none⟩ = some (.int .i64 r) := by rw [hwx]; go_simp
  have p1 : wx.cell? ⟨w.heap.size, 1, none⟩ = some (.slice a1 nv cap1) := by rw [hwx]; go_simp
  have Hwx := Lib.hid hwx
  clear hwx
  have P0 := grow_cell p0
  have P1 := grow_cell p1
  cases I with
  | false =>
    rw [Bool.false_and]
    clear hI Hr Hi
    go_enter Try.func69, Try.ntmps69
    go_wp2_with fail
    rw [← Hwx.out]
    clear Hwx
    refine wp_region_grow (by kernel_rfl) (by kernel_rfl) ?_
    repeat (go_big_quiet_step ((go_at_call 95; exact Calls.grow fun ww h => Hl.out ww)))
    refine wpQuiet_nil ?_
    rintro _ ⟨nq, rfl⟩
    have hbb2 : Below w.heap.size w nq.W := hb0.trans (nq.below.mono hb0.size)
    go_wp2
    go_ret
    exact ⟨rfl, hbb2⟩
  | true =>
    rw [Bool.true_and]
    obtain ⟨hr0, hr1⟩ := hI rfl
    clear hI
    obtain ⟨k, rfl⟩ := Int.eq_ofNat_of_zero_le hr0
    have hk : k < n := by omega
    have hkl : k < l.length := by rw [Hn.out]; exact hk
    have har : arityAt l (k : Int) = l[k].arity := by unfold arityAt; simp [hkl]
    rw [har]
    clear har
    have hTE : v.all (termIn vars) = v.all (fun t => termOk t || inB t 0 (vars - 1)) := by congr 1; funext t; exact termIn_eq hv
    rw [hTE]
    clear hTE
    generalize hR : v.all (fun t => termOk t || inB t 0 (vars - 1)) = R
    have HR : Hid ((v.drop 0).all (fun t => termOk t || inB t 0 (vars - 1)) = R) := hR
    clear hR
    obtain ⟨Q, hQ⟩ : ∃ Q : Bool, decide ((nv : Int) = l[k].arity) = Q := ⟨_, rfl⟩
    rw [hQ]
    have hne : ((nv : Int) != l[k].arity) = !Q := by rw [← hQ]; by_cases h : (nv : Int) = l[k].arity <;> simp [h]
    clear hQ
    obtain ⟨b, off, rfl, hbB, c0, c1, c2, hx⟩ := Hr.out _ hb0 k hkl
    have C1 := grow_cell c1
    have i1 : (0 : Int) ≤ (k : Int) := Int.natCast_nonneg _
    have i2 : (k : Int) < (n : Int) := by omega
    clear c0 c1 c2 hx
    generalize l[k] = q at *
    cases Q with
    | false =>
      rw [Bool.not_false] at hne
      rw [Bool.false_and]
      go_enter Try.func69, Try.ntmps69
      go_wp2_with fail
      rw [← Hwx.out]
      clear Hwx
      refine wp_region_grow (by kernel_rfl) (by kernel_rfl) ?_
      repeat (go_big_quiet_step ((go_at_call 95; exact Calls.grow fun ww h => Hl.out ww)))
      refine wpQuiet_nil ?_
      rintro _ ⟨nq, rfl⟩
      have hbb2 : Below w.heap.size w nq.W := hb0.trans (nq.below.mono hb0.size)
      go_wp2
      go_ret
      exact ⟨rfl, hbb2⟩
    | true =>
      rw [Bool.not_true] at hne
      rw [Bool.true_and]
      go_enter Try.func69, Try.ntmps69
      go_wp2_with fail
      rw [← Hwx.out]
      clear Hwx
      refine wp_region_grow (by kernel_rfl) (by kernel_rfl) ?_
      repeat (go_big_quiet_step ((go_at_call 95; exact Calls.grow fun ww h => Hl.out ww)))
      refine wpQuiet_nil ?_
      rintro _ ⟨nq, rfl⟩
      have hbb2 : Below w.heap.size w nq.W := hb0.trans (nq.below.mono hb0.size)
      have q1 := P1 nq
      have hlt := World.block_lt_of_cell? nq.W _ q1
      clear P0 P1 C1 p0 p1 hne
      generalize nq.W = wn at *
      clear nq
      go_wp2
      go_loopw [32] (fun iv wr => ∃ k : Nat, k ≤ nv ∧ iv = .int .i64 k ∧ Hid ((v.drop k).all (fun t => termOk t || inB t 0 (vars - 1)) = R) ∧ Below wn.heap.size wn wr) (fun iv _ => nv - (intOf iv).toNat)
      case atStart => exact ⟨0, by omega, by go_num, HR, Below.refl _ _⟩
      case round =>
        clear HR
        obtain ⟨j, hj, rfl, Hq, hb⟩ := hrel
        have hbw : Below w.heap.size w wr := hbb2.trans (hb.mono hbb2.size)
        by_cases hjn : j < nv
        · have hjl : j < v.length := by rw [Hnv.out]; exact hjn
          obtain ⟨b', off', rfl, hbB', d0⟩ := Hi.out _ hbw j hjl
          have Hst := Lib.hid (Hq.out.symm.trans (all_drop (fun t => termOk t || inB t 0 (vars - 1)) v j hjl))
          have hrz := Hg.out v[j] (List.getElem_mem hjl)
          unfold inR at hrz
          have Ht : Hid (∀ ww, Calls Try.prog 115 #[.int .i64 v[j]] ww fun e w' => e = .returned (.tuple #[.int .i64 (termVal v[j]), .bool (termOk v[j])]) ∧ Below ww.heap.size ww w') := fun ww => implTermValue_c hrz.1 hrz.2 ww
          have Hx : Hid (∀ ww, Calls Try.prog 95 #[.int .i64 v[j], .int .i64 vars] ww fun e w' => e = .returned (.bool (inB v[j] 0 (vars - 1))) ∧ ww = w') := fun ww => isIndexX_any _ _ _
          clear Hq
          generalize termVal v[j] = tv at *
          generalize termOk v[j] = T at *
          generalize inB v[j] 0 (vars - 1) = J at *
          generalize v[j] = z at *
          cases T with
          | true =>
            have Hs2 : Hid ((v.drop (j + 1)).all (fun t => termOk t || inB t 0 (vars - 1)) = R) := by have h := Hst.out; show _ = _; simpa using h.symm
            go_wp2_with fail
            refine (Ht.out _).mono ?_
            rintro e w2 ⟨rfl, hb2⟩
            go_wp2
            go_roundw
            case rel => exact ⟨j + 1, by omega, by go_num, Hs2, hb.trans (hb2.mono hb.size)⟩
            case measure => simp [intOf]; omega
          | false =>
            cases J with
            | true =>
              have Hs2 : Hid ((v.drop (j + 1)).all (fun t => termOk t || inB t 0 (vars - 1)) = R) := by have h := Hst.out; show _ = _; simpa using h.symm
              go_wp2_with fail
              refine (Ht.out _).mono ?_
              rintro e w2 ⟨rfl, hb2⟩
              go_wp2_with fail
              refine (Hx.out _).mono ?_
              rintro e w3 ⟨rfl, rfl⟩
              go_wp2
              go_roundw
              case rel => exact ⟨j + 1, by omega, by go_num, Hs2, hb.trans (hb2.mono hb.size)⟩
              case measure => simp [intOf]; omega
            | false =>
              have hR : R = false := by have h := Hst.out; simpa using h
              go_wp2_with fail
              refine (Ht.out _).mono ?_
              rintro e w2 ⟨rfl, hb2⟩
              go_wp2_with fail
              refine (Hx.out _).mono ?_
              rintro e w3 ⟨rfl, rfl⟩
              go_wp2
              go_ret
              exact ⟨by subst hR; rfl, hbw.trans (hb2.mono hbw.size)⟩
        · obtain rfl : j = nv := by omega
          have hR : R = true := by
            have := Hq.out
            rw [List.drop_eq_nil_of_le (by rw [Hnv.out]; exact Nat.le_refl _)] at this
            exact this.symm
          go_wp2
          go_ret
          exact ⟨by subst hR; rfl, hbw⟩
/-- An atom of this relation. -/
def relIs (r : Int) (y : Atm) : Bool := decide (y.rel = r)
theorem hasRelation1_c {a : Option Addr} {cap g : Nat} {v : Int} {y : Atm} {w : World} (hg : w.cell? ⟨g, 0, none⟩ = some (.int .i64 v)) (h : At cAtm w y [.int .i64 y.rel, .slice a y.terms.length cap]) :
    Calls Try.prog 117 #[.agg #[.int .i64 y.rel, .slice a y.terms.length cap], .pointer (some ⟨g, 0, none⟩)] w fun e w' => e = .returned (.bool (relIs v y)) ∧ Below w.heap.size w w' := by
  have hl := World.block_lt_of_cell? w _ hg
  simp only at hl
  clear h
  unfold relIs
  obtain ⟨r, ts⟩ := y
  simp only
  generalize ts.length = n
  go_enter Try.func117, Try.ntmps117
  go_wp2
  go_ret
  exact ⟨by first | rfl | (congr 2; rw [Bool.eq_iff_iff]; simp), by go_grown⟩
/-- An atom with this term. -/
def termHas (v : Int) (y : Atm) : Bool := y.terms.contains v
theorem areAllUsed1_c {a : Option Addr} {cap g : Nat} {v : Int} {y : Atm} {w : World} (hg : w.cell? ⟨g, 0, none⟩ = some (.int .i64 v)) (h : At cAtm w y [.int .i64 y.rel, .slice a y.terms.length cap]) :
    Calls Try.prog 118 #[.agg #[.int .i64 y.rel, .slice a y.terms.length cap], .pointer (some ⟨g, 0, none⟩)] w fun e w' => e = .returned (.bool (termHas v y)) ∧ Below w.heap.size w w' := by
  have hl := World.block_lt_of_cell? w _ hg
  simp only at hl
  have H1 : Hid (∀ ww, Below w.heap.size w ww → Calls Try.prog 119 #[.slice a y.terms.length cap, .int .i64 v] ww fun e w' => e = .returned (.bool (y.terms.contains v)) ∧ Below ww.heap.size ww w') :=
    fun ww hb => containsI_c (At.below (c := cSlice cInt) (cAtm_inv h).1 hb (Nat.le_refl _))
  clear h
  unfold termHas
  obtain ⟨r, ts⟩ := y
  simp only at *
  generalize ts.contains v = C at *
  generalize ts.length = n at *
  go_enter Try.func118, Try.ntmps118
  go_wp2_with fail
  refine (H1.out _ ?hb).mono ?_
  case hb => go_grown
  rintro e w1 ⟨rfl, hb1⟩
  have hbb : Below w.heap.size w w1 := Below.trans (by go_grown) (hb1.mono (by simp; try omega))
  go_wp2
  go_ret
  exact ⟨rfl, hbb⟩

set_option maxHeartbeats 1600000 in
theorem idxRel_c {a : Option Addr} {cap g : Nat} {v : Int} {l : List Atm} {w : World} (hg : w.cell? ⟨g, 0, none⟩ = some (.int .i64 v)) (h : At (cSlice cAtm) w l [.slice a l.length cap]) :
    Calls Try.prog 143 #[.slice a l.length cap, .func (.func 117) #[] #[.pointer (some ⟨g, 0, none⟩)]] w fun e w' => (∃ i : Int, e = .returned (.int .i64 i) ∧ decide (i ≥ 0) = l.any (relIs v)) ∧ Below w.heap.size w w' := by
  have hm := (slice_len h).2
  unfold maxLen at hm
  have Hr : Hid (∀ w' : World, Below w.heap.size w w' → ∀ j (hj : j < l.length), _) := fun w' hb j hj => at_Atom (Cod.ok_below h hb) j hj
  have HG : Hid (∀ ww, Below w.heap.size w ww → ww.cell? ⟨g, 0, none⟩ = some (.int .i64 v)) := fun ww hb => (hb.cell (World.block_lt_of_cell? w _ hg)).trans hg
  clear h hg
  obtain ⟨n, hn⟩ : ∃ n : Nat, l.length = n := ⟨_, rfl⟩
  have Hn := Lib.hid hn
  rw [hn] at hm ⊢
  clear hn
  generalize hR : l.any (relIs v) = R
  have HR : Hid ((l.drop 0).any (relIs v) = R) := hR
  clear hR
  go_enter Try.func143, Try.ntmps143
  go_wp2
  go_loopw [8] (fun iv wr => ∃ k : Nat, k ≤ n ∧ iv = .int .i64 k ∧ Hid ((l.drop k).any (relIs v) = R) ∧ Below w.heap.size w wr) (fun iv _ => n - (intOf iv).toNat)
  case atStart => exact ⟨0, by omega, by go_num, HR, Below.refl _ _⟩
  case round =>
    clear HR
    obtain ⟨k, hk, rfl, Hq, hb⟩ := hrel
    by_cases hlt : k < n
    · have hkl : k < l.length := by rw [Hn.out]; exact hlt
      have Hst : Hid (R = (relIs v l[k] || (l.drop (k + 1)).any (relIs v))) := by show _ = _; rw [← Hq.out, List.drop_eq_getElem_cons hkl, List.any_cons]
      obtain ⟨b, off, av, cv, rfl, hbB, c0, c1, hx⟩ := Hr.out _ hb k hkl
      have hA : At cAtm wr l[k] [.int .i64 l[k].rel, .slice av l[k].terms.length cv] := cAtm.keep hx (fun _ _ => rfl) hb.size
      have Hc := Lib.hid (hasRelation1_c (HG.out wr hb) hA)
      clear hx hA Hq
      generalize relIs v l[k] = z at *
      generalize l[k] = y at *
      obtain ⟨ry, ty⟩ := y
      simp only at *
      generalize ty.length = ny at *
      cases z with
      | true =>
        have hR : R = true := by have h := Hst.out; simpa using h
        go_wp2_with fail
        refine Hc.out.mono ?_
        rintro e w2 ⟨rfl, hb2⟩
        go_wp2
        go_ret
        exact ⟨⟨(k : Int), rfl, by subst hR; exact decide_eq_true (by omega)⟩, hb.trans (hb2.mono hb.size)⟩
      | false =>
        have Hs2 : Hid ((l.drop (k + 1)).any (relIs v) = R) := by have h := Hst.out; show _ = _; simpa using h.symm
        go_wp2_with fail
        refine Hc.out.mono ?_
        rintro e w2 ⟨rfl, hb2⟩
        go_wp2
        go_roundw
        case rel => exact ⟨k + 1, by omega, by go_num, Hs2, hb.trans (hb2.mono hb.size)⟩
        case measure => simp [intOf]; omega
    · obtain rfl : k = n := by omega
      have hR : R = false := by
        have := Hq.out
        rw [List.drop_eq_nil_of_le (by rw [Hn.out]; exact Nat.le_refl _)] at this
        exact this.symm
      go_wp2
      go_ret
      exact ⟨⟨-1, rfl, by subst hR; rfl⟩, hb⟩
theorem hasRel_c {a : Option Addr} {cap g : Nat} {v : Int} {l : List Atm} {w : World} (hg : w.cell? ⟨g, 0, none⟩ = some (.int .i64 v)) (h : At (cSlice cAtm) w l [.slice a l.length cap]) :
    Calls Try.prog 116 #[.slice a l.length cap, .func (.func 117) #[] #[.pointer (some ⟨g, 0, none⟩)]] w fun e w' => e = .returned (.bool (l.any (relIs v))) ∧ Below w.heap.size w w' := by
  have Hc := Lib.hid (idxRel_c hg h)
  clear hg h
  generalize l.any (relIs v) = R at *
  generalize l.length = n at *
  go_enter Try.func116, Try.ntmps116
  go_wp2_with fail
  refine Hc.out.mono ?_
  rintro e w2 ⟨⟨i, rfl, hi⟩, hb2⟩
  subst hi
  go_wp2
  go_ret
  exact ⟨rfl, hb2⟩

set_option maxHeartbeats 1600000 in
theorem idxTrm_c {a : Option Addr} {cap g : Nat} {v : Int} {l : List Atm} {w : World} (hg : w.cell? ⟨g, 0, none⟩ = some (.int .i64 v)) (h : At (cSlice cAtm) w l [.slice a l.length cap]) :
    Calls Try.prog 143 #[.slice a l.length cap, .func (.func 118) #[] #[.pointer (some ⟨g, 0, none⟩)]] w fun e w' => (∃ i : Int, e = .returned (.int .i64 i) ∧ decide (i ≥ 0) = l.any (termHas v)) ∧ Below w.heap.size w w' := by
  have hm := (slice_len h).2
  unfold maxLen at hm
  have Hr : Hid (∀ w' : World, Below w.heap.size w w' → ∀ j (hj : j < l.length), _) := fun w' hb j hj => at_Atom (Cod.ok_below h hb) j hj
  have HG : Hid (∀ ww, Below w.heap.size w ww → ww.cell? ⟨g, 0, none⟩ = some (.int .i64 v)) := fun ww hb => (hb.cell (World.block_lt_of_cell? w _ hg)).trans hg
  clear h hg
  obtain ⟨n, hn⟩ : ∃ n : Nat, l.length = n := ⟨_, rfl⟩
  have Hn := Lib.hid hn
  rw [hn] at hm ⊢
  clear hn
  generalize hR : l.any (termHas v) = R
  have HR : Hid ((l.drop 0).any (termHas v) = R) := hR
  clear hR
  go_enter Try.func143, Try.ntmps143
  go_wp2
  go_loopw [8] (fun iv wr => ∃ k : Nat, k ≤ n ∧ iv = .int .i64 k ∧ Hid ((l.drop k).any (termHas v) = R) ∧ Below w.heap.size w wr) (fun iv _ => n - (intOf iv).toNat)
  case atStart => exact ⟨0, by omega, by go_num, HR, Below.refl _ _⟩
  case round =>
    clear HR
    obtain ⟨k, hk, rfl, Hq, hb⟩ := hrel
    by_cases hlt : k < n
    · have hkl : k < l.length := by rw [Hn.out]; exact hlt
      have Hst : Hid (R = (termHas v l[k] || (l.drop (k + 1)).any (termHas v))) := by show _ = _; rw [← Hq.out, List.drop_eq_getElem_cons hkl, List.any_cons]
      obtain ⟨b, off, av, cv, rfl, hbB, c0, c1, hx⟩ := Hr.out _ hb k hkl
      have hA : At cAtm wr l[k] [.int .i64 l[k].rel, .slice av l[k].terms.length cv] := cAtm.keep hx (fun _ _ => rfl) hb.size
      have Hc := Lib.hid (areAllUsed1_c (HG.out wr hb) hA)
      clear hx hA Hq
      generalize termHas v l[k] = z at *
      generalize l[k] = y at *
      obtain ⟨ry, ty⟩ := y
      simp only at *
      generalize ty.length = ny at *
      cases z with
      | true =>
        have hR : R = true := by have h := Hst.out; simpa using h
        go_wp2_with fail
        refine Hc.out.mono ?_
        rintro e w2 ⟨rfl, hb2⟩
        go_wp2
        go_ret
        exact ⟨⟨(k : Int), rfl, by subst hR; exact decide_eq_true (by omega)⟩, hb.trans (hb2.mono hb.size)⟩
      | false =>
        have Hs2 : Hid ((l.drop (k + 1)).any (termHas v) = R) := by have h := Hst.out; show _ = _; simpa using h.symm
        go_wp2_with fail
        refine Hc.out.mono ?_
        rintro e w2 ⟨rfl, hb2⟩
        go_wp2
        go_roundw
        case rel => exact ⟨k + 1, by omega, by go_num, Hs2, hb.trans (hb2.mono hb.size)⟩
        case measure => simp [intOf]; omega
    · obtain rfl : k = n := by omega
      have hR : R = false := by
        have := Hq.out
        rw [List.drop_eq_nil_of_le (by rw [Hn.out]; exact Nat.le_refl _)] at this
        exact this.symm
      go_wp2
      go_ret
      exact ⟨⟨-1, rfl, by subst hR; rfl⟩, hb⟩
theorem hasTrm_c {a : Option Addr} {cap g : Nat} {v : Int} {l : List Atm} {w : World} (hg : w.cell? ⟨g, 0, none⟩ = some (.int .i64 v)) (h : At (cSlice cAtm) w l [.slice a l.length cap]) :
    Calls Try.prog 116 #[.slice a l.length cap, .func (.func 118) #[] #[.pointer (some ⟨g, 0, none⟩)]] w fun e w' => e = .returned (.bool (l.any (termHas v))) ∧ Below w.heap.size w w' := by
  have Hc := Lib.hid (idxTrm_c hg h)
  clear hg h
  generalize l.any (termHas v) = R at *
  generalize l.length = n at *
  go_enter Try.func116, Try.ntmps116
  go_wp2_with fail
  refine Hc.out.mono ?_
  rintro e w2 ⟨⟨i, rfl, hi⟩, hb2⟩
  subst hi
  go_wp2
  go_ret
  exact ⟨rfl, hb2⟩

theorem hasRelation_c {a : Option Addr} {cap : Nat} {r : Int} {l : List Atm} {w : World} (h : At (cSlice cAtm) w l [.slice a l.length cap]) :
    Calls Try.prog 70 #[.slice a l.length cap, .int .i64 r] w fun e w' => e = .returned (.bool (l.any (relIs r))) ∧ Below w.heap.size w w' := by
  have H1 : Hid (∀ ww g, Below w.heap.size w ww → ww.cell? ⟨g, 0, none⟩ = some (.int .i64 r) → Calls Try.prog 116 #[.slice a l.length cap, .func (.func 117) #[] #[.pointer (some ⟨g, 0, none⟩)]] ww fun e w' => e = .returned (.bool (l.any (relIs r))) ∧ Below ww.heap.size ww w') :=
    fun ww g hb hg => hasRel_c hg (At.below h hb (Nat.le_refl _))
  clear h
  generalize l.any (relIs r) = R at *
  generalize l.length = n at *
  go_enter Try.func70, Try.ntmps70
  go_wp2_with fail
  refine (H1.out _ _ ?hb ?hc).mono ?_
  case hb => go_grown
  case hc => go_simp
  rintro e w1 ⟨rfl, hb1⟩
  have hbb : Below w.heap.size w w1 := Below.trans (by go_grown) (hb1.mono (by simp; try omega))
  go_wp2
  go_ret
  exact ⟨rfl, hbb⟩
/-- Every variable occurs in an atom. -/
def allUsed (q : Qry) : Bool := (List.range q.vars.toNat).all fun (v : Nat) => q.atoms.any (termHas (v : Int))
theorem all_range (n : Nat) (p : Nat → Bool) : (List.range (n + 1)).all p = ((List.range n).all p && p n) := by
  rw [List.range_succ, List.all_append]; simp
set_option maxHeartbeats 1600000 in
theorem areAllUsed_c {a1 a2 : Option Addr} {cap1 cap2 : Nat} {x : Qry} {w : World} (hv4 : x.vars ≤ 4) (h : At cQry w x [.int .i64 x.vars, .slice a1 x.atoms.length cap1, .slice a2 x.free.length cap2]) :
    Calls Try.prog 71 #[.agg #[.int .i64 x.vars, .slice a1 x.atoms.length cap1, .slice a2 x.free.length cap2]] w fun e w' => e = .returned (.bool (allUsed x)) ∧ Below w.heap.size w w' := by
  have H1 : Hid (∀ ww g (v : Int), Below w.heap.size w ww → ww.cell? ⟨g, 0, none⟩ = some (.int .i64 v) → Calls Try.prog 116 #[.slice a1 x.atoms.length cap1, .func (.func 118) #[] #[.pointer (some ⟨g, 0, none⟩)]] ww fun e w' => e = .returned (.bool (x.atoms.any (termHas v))) ∧ Below ww.heap.size ww w') :=
    fun ww g v hb hg => hasTrm_c hg (At.below (c := cSlice cAtm) (cQry_inv h).1 hb (Nat.le_refl _))
  clear h
  unfold allUsed
  obtain ⟨vs, ats, fr⟩ := x
  simp only at *
  generalize fr.length = m2 at *
  generalize ats.length = m1 at *
  obtain ⟨n, hn⟩ : ∃ n, vs.toNat = n := ⟨_, rfl⟩
  rw [hn]
  have hnv : ∀ k : Nat, k < n → (k : Int) < vs := by intro k hk; omega
  have hnn : vs ≤ (n : Int) := by omega
  have hn4 : n ≤ 4 := by omega
  clear hn
  generalize hR : (List.range n).all (fun (v : Nat) => ats.any (termHas (v : Int))) = R
  have HR := Lib.hid hR
  clear hR
  have HZ : Hid ((List.range 0).all (fun (v : Nat) => ats.any (termHas (v : Int))) = true) := rfl
  have HM : Hid (∀ k, k < n → (ats.any (termHas (k : Int))) = false → R = false) := by
    intro k hk h
    rw [← HR.out, List.all_eq_false]
    exact ⟨k, List.mem_range.2 hk, by rw [h]; simp⟩
  obtain ⟨wx, hwx⟩ : ∃ wx, wx = w.alloc (Obj.cells #[.int .i64 vs, .slice a1 m1 cap1, .slice a2 m2 cap2] 34) := ⟨_, rfl⟩
  have hb0 : Below w.heap.size w wx := by rw [hwx]; go_grown
  have p0 : wx.cell? ⟨w.heap.size, 0, none⟩ = some (.int .i64 vs) := by rw [hwx]; go_simp
  have p1 : wx.cell? ⟨w.heap.size, 1, none⟩ = some (.slice a1 m1 cap1) := by rw [hwx]; go_simp
  have Hwx := Lib.hid hwx
  clear hwx
  go_enter Try.func71, Try.ntmps71
  go_wp2
  rw [← Hwx.out]
  clear Hwx
  go_loopw [7] (fun iv wr => ∃ k : Nat, k ≤ n ∧ iv = .int .i64 k ∧ Hid ((List.range k).all (fun (v : Nat) => ats.any (termHas (v : Int))) = true) ∧ Below wx.heap.size wx wr) (fun iv _ => n - (intOf iv).toNat)
  case atStart => exact ⟨0, by omega, by go_num, HZ, Below.refl _ _⟩
  case round =>
    clear HZ
    obtain ⟨k, hk, rfl, Hq, hb⟩ := hrel
    have hbw : Below w.heap.size w wr := hb0.trans (hb.mono hb0.size)
    have q1 := cell_next p1 hb
    by_cases hlt : k < n
    · have hkv : decide ((k : Int) < vs) = true := decide_eq_true (hnv k hlt)
      have Hs : Hid ((List.range (k + 1)).all (fun (v : Nat) => ats.any (termHas (v : Int))) = ats.any (termHas (k : Int))) := by show _ = _; rw [all_range, Hq.out, Bool.true_and]
      have HMk := Lib.hid (HM.out k hlt)
      have hl1 := World.block_lt_of_cell? wr _ q1
      simp only at hl1
      have Hc : Hid (∀ ww g, Below wr.heap.size wr ww → ww.cell? ⟨g, 0, none⟩ = some (.int .i64 (k : Int)) → _) := fun ww g hb2 hg => H1.out ww g (k : Int) (hbw.trans (hb2.mono hbw.size)) hg
      clear Hq HM
      generalize ats.any (termHas (k : Int)) = z at *
      clear hnv hnn
      cases z with
      | true =>
        go_wp2_with fail
        refine (Hc.out _ _ ?hb ?hc).mono ?_
        case hb => go_grown
        case hc => go_simp
        rintro e w2 ⟨rfl, hb2⟩
        have hbr : Below wr.heap.size wr w2 := Below.trans (by go_grown) (hb2.mono (by simp; try omega))
        go_wp2
        go_roundw
        case rel => exact ⟨k + 1, by omega, by go_num, Hs, hb.trans (hbr.mono hb.size)⟩
        case measure => simp [intOf]; omega
      | false =>
        have hR : R = false := HMk.out rfl
        go_wp2_with fail
        refine (Hc.out _ _ ?hb ?hc).mono ?_
        case hb => go_grown
        case hc => go_simp
        rintro e w2 ⟨rfl, hb2⟩
        have hbr : Below wr.heap.size wr w2 := Below.trans (by go_grown) (hb2.mono (by simp; try omega))
        go_wp2
        go_ret
        exact ⟨by subst hR; rfl, hbw.trans (hbr.mono hbw.size)⟩
    · obtain rfl : k = n := by omega
      have hkv : decide ((k : Int) < vs) = false := decide_eq_false (by omega)
      have hR : R = true := HR.out.symm.trans Hq.out
      clear hnv hnn
      go_wp2
      go_ret
      exact ⟨by subst hR; rfl, hbw⟩
end Go.Proofs.Ytmofmepbekffiaa


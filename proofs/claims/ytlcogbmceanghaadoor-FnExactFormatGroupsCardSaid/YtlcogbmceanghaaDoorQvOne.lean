/- QvOne: Qv1 Qv2 TyBo Qv3. -/
import Derived.Test.YtlcogbmceanghaaDoorTyTre
import Derived.Test.YtlcogbmceanghaaDoorTerm
import Derived.Test.YtlcogbmceanghaaDoorIx
import Derived.Test.YtlcogbmceanghaaDoorVarOne
import Derived.Deep.Cut
import Derived.Test.YtlcogbmceanghaaDoorTyOne
import Derived.Test.YtlcogbmceanghaaDoorRd
import Derived.Test.YtlcogbmceanghaaDoorMarkOne
/- Chapter 11: isAtomOf, hasRelation, areAllUsed: the program's. -/
namespace Go.Proofs.YtlcogbmceanghaaDoor
open Go.RowKit
set_option linter.unusedVariables false
set_option maxRecDepth 100000

/-- A term of a query with so many variables. -/
def termIn (vars t : Int) : Bool := inB t (-10) (vars - 1)
/-- An atom of one of the relations. -/
def atomOk (l : List Rel) (vars : Int) (a : Atm) : Bool := inB a.rel 0 ((l.length : Int) - 1) && (decide ((a.terms.length : Int) = arityAt l a.rel) && a.terms.all (termIn vars))
theorem termIn_eq {vars t : Int} (h : 0 ≤ vars) : termIn vars t = (termOk t || inB t 0 (vars - 1)) := by
  unfold termIn termOk inB
  rw [Bool.eq_iff_iff]
  simp only [Bool.and_eq_true, Bool.or_eq_true, decide_eq_true_eq]
  omega
set_option maxHeartbeats 3200000 in
theorem isAtomOf_c {a0 a1 : Option Addr} {cap0 cap1 : Nat} {l : List Rel} {x : Atm} {vars : Int} {w : World} (hv : 0 ≤ vars) (h : At (cSlice cRel) w l [.slice a0 l.length cap0]) (h' : At cAtm w x [.int .i64 x.rel, .slice a1 x.terms.length cap1]) :
    Calls Tryd.prog 98 #[.slice a0 l.length cap0, .int .i64 vars, .agg #[.int .i64 x.rel, .slice a1 x.terms.length cap1]] w fun e w' => e = .returned (.bool (atomOk l vars x)) ∧ Below w.heap.size w w' := by
  have hm := (slice_len h).2
  have h1 := (cAtm_inv h').1
  have hm1 := (slice_len h1).2
  unfold maxLen at hm hm1
  have Hr : Hid (∀ w' : World, Below w.heap.size w w' → ∀ j (hj : j < l.length), _) := fun w' hb j hj => at_Relation (Cod.ok_below h hb) j hj
  have Hi : Hid (∀ w' : World, Below w.heap.size w w' → ∀ j (hj : j < x.terms.length), _) := fun w' hb j hj => ints_at (Cod.ok_below h1 hb) j hj
  have Hg := Lib.hid (ints_rng h1)
  clear h h' h1
  unfold atomOk
  obtain ⟨n, hn⟩ : ∃ n : Nat, l.length = n := ⟨_, rfl⟩
  have Hn := Lib.hid hn
  rw [hn] at hm ⊢
  clear hn
  obtain ⟨r, v⟩ := x
  simp only at *
  obtain ⟨nv, hnv⟩ : ∃ n : Nat, v.length = n := ⟨_, rfl⟩
  have Hnv := Lib.hid hnv
  rw [hnv] at hm1 ⊢
  clear hnv
  have Hl : Hid (∀ ww, Calls Tryd.prog 127 #[.int .i64 r, .int .i64 n] ww fun e w' => e = .returned (.bool (inB r 0 ((n : Int) - 1))) ∧ Below ww.heap.size ww w') := fun ww => (isIndexX_any _ _ _).mono (by rintro e w' ⟨rfl, rfl⟩; exact ⟨rfl, Below.refl _ _⟩)
  have hI : inB r 0 ((n : Int) - 1) = true → 0 ≤ r ∧ r ≤ (n : Int) - 1 := by unfold inB; simp
  generalize inB r 0 ((n : Int) - 1) = I at *
  obtain ⟨wx, hwx⟩ : ∃ wx, wx = w.alloc (Obj.cells #[.int .i64 r, .slice a1 nv cap1] 95) := ⟨_, rfl⟩
  have hb0 : Below w.heap.size w wx := by rw [hwx]; go_grown
  have p0 : wx.cell? ⟨w.heap.size, 0, none⟩ = some (.int .i64 r) := by rw [hwx]; go_simp
  have p1 : wx.cell? ⟨w.heap.size, 1, none⟩ = some (.slice a1 nv cap1) := by rw [hwx]; go_simp
  have Hwx := Lib.hid hwx
  clear hwx
  have P0 := grow_cell p0
  have P1 := grow_cell p1
  cases I with
  | false =>
    rw [Bool.false_and]
    clear hI Hr Hi
    go_enter Tryd.func98, Tryd.ntmps98
    go_wp2_with fail
    rw [← Hwx.out]
    clear Hwx
    refine wp_region_grow (by kernel_rfl) (by kernel_rfl) ?_
    repeat (go_big_quiet_step ((go_at_call 127; exact Calls.grow fun ww h => Hl.out ww)))
    refine wpQuiet_nil ?_
    rintro _ ⟨nq, rfl⟩
    have hbb2 : Below w.heap.size w nq.W := hb0.trans (nq.below.mono hb0.size)
    go_wp2
    go_ret
    exact ⟨rfl, hbb2⟩
  | true =>
    rw [Bool.true_and]
    obtain ⟨hr0, hr1⟩ := hI rfl
    clear hI
    obtain ⟨k, rfl⟩ := Int.eq_ofNat_of_zero_le hr0
    have hk : k < n := by omega
    have hkl : k < l.length := by rw [Hn.out]; exact hk
    have har : arityAt l (k : Int) = l[k].arity := by unfold arityAt; simp [hkl]
    rw [har]
    clear har
    have hTE : v.all (termIn vars) = v.all (fun t => termOk t || inB t 0 (vars - 1)) := by congr 1; funext t; exact termIn_eq hv
    rw [hTE]
    clear hTE
    generalize hR : v.all (fun t => termOk t || inB t 0 (vars - 1)) = R
    have HR : Hid ((v.drop 0).all (fun t => termOk t || inB t 0 (vars - 1)) = R) := hR
    clear hR
    obtain ⟨Q, hQ⟩ : ∃ Q : Bool, decide ((nv : Int) = l[k].arity) = Q := ⟨_, rfl⟩
    rw [hQ]
    have hne : ((nv : Int) != l[k].arity) = !Q := by rw [← hQ]; by_cases h : (nv : Int) = l[k].arity <;> simp [h]
    clear hQ
    obtain ⟨b, off, rfl, hbB, c0, c1, c2, hx⟩ := Hr.out _ hb0 k hkl
    have C1 := grow_cell c1
    have i1 : (0 : Int) ≤ (k : Int) := Int.natCast_nonneg _
    have i2 : (k : Int) < (n : Int) := by omega
    clear c0 c1 c2 hx
    generalize l[k] = q at *
    cases Q with
    | false =>
      rw [Bool.not_false] at hne
      rw [Bool.false_and]
      go_enter Tryd.func98, Tryd.ntmps98
      go_wp2_with fail
      rw [← Hwx.out]
      clear Hwx
      refine wp_region_grow (by kernel_rfl) (by kernel_rfl) ?_
      repeat (go_big_quiet_step ((go_at_call 127; exact Calls.grow fun ww h => Hl.out ww)))
      refine wpQuiet_nil ?_
      rintro _ ⟨nq, rfl⟩
      have hbb2 : Below w.heap.size w nq.W := hb0.trans (nq.below.mono hb0.size)
      go_wp2
      go_ret
      exact ⟨rfl, hbb2⟩
    | true =>
      rw [Bool.not_true] at hne
      rw [Bool.true_and]
      go_enter Tryd.func98, Tryd.ntmps98
      go_wp2_with fail
      rw [← Hwx.out]
      clear Hwx
      refine wp_region_grow (by kernel_rfl) (by kernel_rfl) ?_
      repeat (go_big_quiet_step ((go_at_call 127; exact Calls.grow fun ww h => Hl.out ww)))
      refine wpQuiet_nil ?_
      rintro _ ⟨nq, rfl⟩
      have hbb2 : Below w.heap.size w nq.W := hb0.trans (nq.below.mono hb0.size)
      have q1 := P1 nq
      have hlt := World.block_lt_of_cell? nq.W _ q1
      clear P0 P1 C1 p0 p1 hne
      generalize nq.W = wn at *
      clear nq
      go_wp2
      go_loopw [32] (fun iv wr => ∃ k : Nat, k ≤ nv ∧ iv = .int .i64 k ∧ Hid ((v.drop k).all (fun t => termOk t || inB t 0 (vars - 1)) = R) ∧ Below wn.heap.size wn wr) (fun iv _ => nv - (intOf iv).toNat)
      case atStart => exact ⟨0, by omega, by go_num, HR, Below.refl _ _⟩
      case round =>
        clear HR
        obtain ⟨j, hj, rfl, Hq, hb⟩ := hrel
        have hbw : Below w.heap.size w wr := hbb2.trans (hb.mono hbb2.size)
        by_cases hjn : j < nv
        · have hjl : j < v.length := by rw [Hnv.out]; exact hjn
          obtain ⟨b', off', rfl, hbB', d0⟩ := Hi.out _ hbw j hjl
          have Hst := Lib.hid (Hq.out.symm.trans (all_drop (fun t => termOk t || inB t 0 (vars - 1)) v j hjl))
          have hrz := Hg.out v[j] (List.getElem_mem hjl)
          unfold inR at hrz
          have Ht : Hid (∀ ww, Calls Tryd.prog 128 #[.int .i64 v[j]] ww fun e w' => e = .returned (.tuple #[.int .i64 (termVal v[j]), .bool (termOk v[j])]) ∧ Below ww.heap.size ww w') := fun ww => implTermValue_c hrz.1 hrz.2 ww
          have Hx : Hid (∀ ww, Calls Tryd.prog 127 #[.int .i64 v[j], .int .i64 vars] ww fun e w' => e = .returned (.bool (inB v[j] 0 (vars - 1))) ∧ ww = w') := fun ww => isIndexX_any _ _ _
          clear Hq
          generalize termVal v[j] = tv at *
          generalize termOk v[j] = T at *
          generalize inB v[j] 0 (vars - 1) = J at *
          generalize v[j] = z at *
          cases T with
          | true =>
            have Hs2 : Hid ((v.drop (j + 1)).all (fun t => termOk t || inB t 0 (vars - 1)) = R) := by have h := Hst.out; show _ = _; simpa using h.symm
            go_wp2_with fail
            refine (Ht.out _).mono ?_
            rintro e w2 ⟨rfl, hb2⟩
            go_wp2
            go_roundw
            case rel => exact ⟨j + 1, by omega, by go_num, Hs2, hb.trans (hb2.mono hb.size)⟩
            case measure => simp [intOf]; omega
          | false =>
            cases J with
            | true =>
              have Hs2 : Hid ((v.drop (j + 1)).all (fun t => termOk t || inB t 0 (vars - 1)) = R) := by have h := Hst.out; show _ = _; simpa using h.symm
              go_wp2_with fail
              refine (Ht.out _).mono ?_
              rintro e w2 ⟨rfl, hb2⟩
              go_wp2_with fail
              refine (Hx.out _).mono ?_
              rintro e w3 ⟨rfl, rfl⟩
              go_wp2
              go_roundw
              case rel => exact ⟨j + 1, by omega, by go_num, Hs2, hb.trans (hb2.mono hb.size)⟩
              case measure => simp [intOf]; omega
            | false =>
              have hR : R = false := by have h := Hst.out; simpa using h
              go_wp2_with fail
              refine (Ht.out _).mono ?_
              rintro e w2 ⟨rfl, hb2⟩
              go_wp2_with fail
              refine (Hx.out _).mono ?_
              rintro e w3 ⟨rfl, rfl⟩
              go_wp2
              go_ret
              exact ⟨by subst hR; rfl, hbw.trans (hb2.mono hbw.size)⟩
        · obtain rfl : j = nv := by omega
          have hR : R = true := by
            have := Hq.out
            rw [List.drop_eq_nil_of_le (by rw [Hnv.out]; exact Nat.le_refl _)] at this
            exact this.symm
          go_wp2
          go_ret
          exact ⟨by subst hR; rfl, hbw⟩
/-- An atom of this relation. -/
def relIs (r : Int) (y : Atm) : Bool := decide (y.rel = r)
theorem hasRelation1_c {a : Option Addr} {cap g : Nat} {v : Int} {y : Atm} {w : World} (hg : w.cell? ⟨g, 0, none⟩ = some (.int .i64 v)) (h : At cAtm w y [.int .i64 y.rel, .slice a y.terms.length cap]) :
    Calls Tryd.prog 130 #[.agg #[.int .i64 y.rel, .slice a y.terms.length cap], .pointer (some ⟨g, 0, none⟩)] w fun e w' => e = .returned (.bool (relIs v y)) ∧ Below w.heap.size w w' := by
  have hl := World.block_lt_of_cell? w _ hg
  simp only at hl
  clear h
  unfold relIs
  obtain ⟨r, ts⟩ := y
  simp only
  generalize ts.length = n
  go_enter Tryd.func130, Tryd.ntmps130
  go_wp2
  go_ret
  exact ⟨by first | rfl | (congr 2; rw [Bool.eq_iff_iff]; simp), by go_grown⟩
/-- An atom with this term. -/
def termHas (v : Int) (y : Atm) : Bool := y.terms.contains v
theorem areAllUsed1_c {a : Option Addr} {cap g : Nat} {v : Int} {y : Atm} {w : World} (hg : w.cell? ⟨g, 0, none⟩ = some (.int .i64 v)) (h : At cAtm w y [.int .i64 y.rel, .slice a y.terms.length cap]) :
    Calls Tryd.prog 131 #[.agg #[.int .i64 y.rel, .slice a y.terms.length cap], .pointer (some ⟨g, 0, none⟩)] w fun e w' => e = .returned (.bool (termHas v y)) ∧ Below w.heap.size w w' := by
  have hl := World.block_lt_of_cell? w _ hg
  simp only at hl
  have H1 : Hid (∀ ww, Below w.heap.size w ww → Calls Tryd.prog 132 #[.slice a y.terms.length cap, .int .i64 v] ww fun e w' => e = .returned (.bool (y.terms.contains v)) ∧ Below ww.heap.size ww w') :=
    fun ww hb => containsI_c (At.below (c := cSlice cInt) (cAtm_inv h).1 hb (Nat.le_refl _))
  clear h
  unfold termHas
  obtain ⟨r, ts⟩ := y
  simp only at *
  generalize ts.contains v = C at *
  generalize ts.length = n at *
  go_enter Tryd.func131, Tryd.ntmps131
  go_wp2_with fail
  refine (H1.out _ ?hb).mono ?_
  case hb => go_grown
  rintro e w1 ⟨rfl, hb1⟩
  have hbb : Below w.heap.size w w1 := Below.trans (by go_grown) (hb1.mono (by simp; try omega))
  go_wp2
  go_ret
  exact ⟨rfl, hbb⟩

set_option maxHeartbeats 1600000 in
theorem idxRel_c {a : Option Addr} {cap g : Nat} {v : Int} {l : List Atm} {w : World} (hg : w.cell? ⟨g, 0, none⟩ = some (.int .i64 v)) (h : At (cSlice cAtm) w l [.slice a l.length cap]) :
    Calls Tryd.prog 152 #[.slice a l.length cap, .func (.func 130) #[] #[.pointer (some ⟨g, 0, none⟩)]] w fun e w' => (∃ i : Int, e = .returned (.int .i64 i) ∧ decide (i ≥ 0) = l.any (relIs v)) ∧ Below w.heap.size w w' := by
  have hm := (slice_len h).2
  unfold maxLen at hm
  have Hr : Hid (∀ w' : World, Below w.heap.size w w' → ∀ j (hj : j < l.length), _) := fun w' hb j hj => at_Atom (Cod.ok_below h hb) j hj
  have HG : Hid (∀ ww, Below w.heap.size w ww → ww.cell? ⟨g, 0, none⟩ = some (.int .i64 v)) := fun ww hb => (hb.cell (World.block_lt_of_cell? w _ hg)).trans hg
  clear h hg
  obtain ⟨n, hn⟩ : ∃ n : Nat, l.length = n := ⟨_, rfl⟩
  have Hn := Lib.hid hn
  rw [hn] at hm ⊢
  clear hn
  generalize hR : l.any (relIs v) = R
  have HR : Hid ((l.drop 0).any (relIs v) = R) := hR
  clear hR
  go_enter Tryd.func152, Tryd.ntmps152
  go_wp2
  go_loopw [8] (fun iv wr => ∃ k : Nat, k ≤ n ∧ iv = .int .i64 k ∧ Hid ((l.drop k).any (relIs v) = R) ∧ Below w.heap.size w wr) (fun iv _ => n - (intOf iv).toNat)
  case atStart => exact ⟨0, by omega, by go_num, HR, Below.refl _ _⟩
  case round =>
    clear HR
    obtain ⟨k, hk, rfl, Hq, hb⟩ := hrel
    by_cases hlt : k < n
    · have hkl : k < l.length := by rw [Hn.out]; exact hlt
      have Hst : Hid (R = (relIs v l[k] || (l.drop (k + 1)).any (relIs v))) := by show _ = _; rw [← Hq.out, List.drop_eq_getElem_cons hkl, List.any_cons]
      obtain ⟨b, off, av, cv, rfl, hbB, c0, c1, hx⟩ := Hr.out _ hb k hkl
      have hA : At cAtm wr l[k] [.int .i64 l[k].rel, .slice av l[k].terms.length cv] := cAtm.keep hx (fun _ _ => rfl) hb.size
      have Hc := Lib.hid (hasRelation1_c (HG.out wr hb) hA)
      clear hx hA Hq
      generalize relIs v l[k] = z at *
      generalize l[k] = y at *
      obtain ⟨ry, ty⟩ := y
      simp only at *
      generalize ty.length = ny at *
      cases z with
      | true =>
        have hR : R = true := by have h := Hst.out; simpa using h
        go_wp2_with fail
        refine Hc.out.mono ?_
        rintro e w2 ⟨rfl, hb2⟩
        go_wp2
        go_ret
        exact ⟨⟨(k : Int), rfl, by subst hR; exact decide_eq_true (by omega)⟩, hb.trans (hb2.mono hb.size)⟩
      | false =>
        have Hs2 : Hid ((l.drop (k + 1)).any (relIs v) = R) := by have h := Hst.out; show _ = _; simpa using h.symm
        go_wp2_with fail
        refine Hc.out.mono ?_
        rintro e w2 ⟨rfl, hb2⟩
        go_wp2
        go_roundw
        case rel => exact ⟨k + 1, by omega, by go_num, Hs2, hb.trans (hb2.mono hb.size)⟩
        case measure => simp [intOf]; omega
    · obtain rfl : k = n := by omega
      have hR : R = false := by
        have := Hq.out
        rw [List.drop_eq_nil_of_le (by rw [Hn.out]; exact Nat.le_refl _)] at this
        exact this.symm
      go_wp2
      go_ret
      exact ⟨⟨-1, rfl, by subst hR; rfl⟩, hb⟩
theorem hasRel_c {a : Option Addr} {cap g : Nat} {v : Int} {l : List Atm} {w : World} (hg : w.cell? ⟨g, 0, none⟩ = some (.int .i64 v)) (h : At (cSlice cAtm) w l [.slice a l.length cap]) :
    Calls Tryd.prog 129 #[.slice a l.length cap, .func (.func 130) #[] #[.pointer (some ⟨g, 0, none⟩)]] w fun e w' => e = .returned (.bool (l.any (relIs v))) ∧ Below w.heap.size w w' := by
  have Hc := Lib.hid (idxRel_c hg h)
  clear hg h
  generalize l.any (relIs v) = R at *
  generalize l.length = n at *
  go_enter Tryd.func129, Tryd.ntmps129
  go_wp2_with fail
  refine Hc.out.mono ?_
  rintro e w2 ⟨⟨i, rfl, hi⟩, hb2⟩
  subst hi
  go_wp2
  go_ret
  exact ⟨rfl, hb2⟩

set_option maxHeartbeats 1600000 in
theorem idxTrm_c {a : Option Addr} {cap g : Nat} {v : Int} {l : List Atm} {w : World} (hg : w.cell? ⟨g, 0, none⟩ = some (.int .i64 v)) (h : At (cSlice cAtm) w l [.slice a l.length cap]) :
    Calls Tryd.prog 152 #[.slice a l.length cap, .func (.func 131) #[] #[.pointer (some ⟨g, 0, none⟩)]] w fun e w' => (∃ i : Int, e = .returned (.int .i64 i) ∧ decide (i ≥ 0) = l.any (termHas v)) ∧ Below w.heap.size w w' := by
  have hm := (slice_len h).2
  unfold maxLen at hm
  have Hr : Hid (∀ w' : World, Below w.heap.size w w' → ∀ j (hj : j < l.length), _) := fun w' hb j hj => at_Atom (Cod.ok_below h hb) j hj
  have HG : Hid (∀ ww, Below w.heap.size w ww → ww.cell? ⟨g, 0, none⟩ = some (.int .i64 v)) := fun ww hb => (hb.cell (World.block_lt_of_cell? w _ hg)).trans hg
  clear h hg
  obtain ⟨n, hn⟩ : ∃ n : Nat, l.length = n := ⟨_, rfl⟩
  have Hn := Lib.hid hn
  rw [hn] at hm ⊢
  clear hn
  generalize hR : l.any (termHas v) = R
  have HR : Hid ((l.drop 0).any (termHas v) = R) := hR
  clear hR
  go_enter Tryd.func152, Tryd.ntmps152
  go_wp2
  go_loopw [8] (fun iv wr => ∃ k : Nat, k ≤ n ∧ iv = .int .i64 k ∧ Hid ((l.drop k).any (termHas v) = R) ∧ Below w.heap.size w wr) (fun iv _ => n - (intOf iv).toNat)
  case atStart => exact ⟨0, by omega, by go_num, HR, Below.refl _ _⟩
  case round =>
    clear HR
    obtain ⟨k, hk, rfl, Hq, hb⟩ := hrel
    by_cases hlt : k < n
    · have hkl : k < l.length := by rw [Hn.out]; exact hlt
      have Hst : Hid (R = (termHas v l[k] || (l.drop (k + 1)).any (termHas v))) := by show _ = _; rw [← Hq.out, List.drop_eq_getElem_cons hkl, List.any_cons]
      obtain ⟨b, off, av, cv, rfl, hbB, c0, c1, hx⟩ := Hr.out _ hb k hkl
      have hA : At cAtm wr l[k] [.int .i64 l[k].rel, .slice av l[k].terms.length cv] := cAtm.keep hx (fun _ _ => rfl) hb.size
      have Hc := Lib.hid (areAllUsed1_c (HG.out wr hb) hA)
      clear hx hA Hq
      generalize termHas v l[k] = z at *
      generalize l[k] = y at *
      obtain ⟨ry, ty⟩ := y
      simp only at *
      generalize ty.length = ny at *
      cases z with
      | true =>
        have hR : R = true := by have h := Hst.out; simpa using h
        go_wp2_with fail
        refine Hc.out.mono ?_
        rintro e w2 ⟨rfl, hb2⟩
        go_wp2
        go_ret
        exact ⟨⟨(k : Int), rfl, by subst hR; exact decide_eq_true (by omega)⟩, hb.trans (hb2.mono hb.size)⟩
      | false =>
        have Hs2 : Hid ((l.drop (k + 1)).any (termHas v) = R) := by have h := Hst.out; show _ = _; simpa using h.symm
        go_wp2_with fail
        refine Hc.out.mono ?_
        rintro e w2 ⟨rfl, hb2⟩
        go_wp2
        go_roundw
        case rel => exact ⟨k + 1, by omega, by go_num, Hs2, hb.trans (hb2.mono hb.size)⟩
        case measure => simp [intOf]; omega
    · obtain rfl : k = n := by omega
      have hR : R = false := by
        have := Hq.out
        rw [List.drop_eq_nil_of_le (by rw [Hn.out]; exact Nat.le_refl _)] at this
        exact this.symm
      go_wp2
      go_ret
      exact ⟨⟨-1, rfl, by subst hR; rfl⟩, hb⟩
theorem hasTrm_c {a : Option Addr} {cap g : Nat} {v : Int} {l : List Atm} {w : World} (hg : w.cell? ⟨g, 0, none⟩ = some (.int .i64 v)) (h : At (cSlice cAtm) w l [.slice a l.length cap]) :
    Calls Tryd.prog 129 #[.slice a l.length cap, .func (.func 131) #[] #[.pointer (some ⟨g, 0, none⟩)]] w fun e w' => e = .returned (.bool (l.any (termHas v))) ∧ Below w.heap.size w w' := by
  have Hc := Lib.hid (idxTrm_c hg h)
  clear hg h
  generalize l.any (termHas v) = R at *
  generalize l.length = n at *
  go_enter Tryd.func129, Tryd.ntmps129
  go_wp2_with fail
  refine Hc.out.mono ?_
  rintro e w2 ⟨⟨i, rfl, hi⟩, hb2⟩
  subst hi
  go_wp2
  go_ret
  exact ⟨rfl, hb2⟩

theorem hasRelation_c {a : Option Addr} {cap : Nat} {r : Int} {l : List Atm} {w : World} (h : At (cSlice cAtm) w l [.slice a l.length cap]) :
    Calls Tryd.prog 99 #[.slice a l.length cap, .int .i64 r] w fun e w' => e = .returned (.bool (l.any (relIs r))) ∧ Below w.heap.size w w' := by
  have H1 : Hid (∀ ww g, Below w.heap.size w ww → ww.cell? ⟨g, 0, none⟩ = some (.int .i64 r) → Calls Tryd.prog 129 #[.slice a l.length cap, .func (.func 130) #[] #[.pointer (some ⟨g, 0, none⟩)]] ww fun e w' => e = .returned (.bool (l.any (relIs r))) ∧ Below ww.heap.size ww w') :=
    fun ww g hb hg => hasRel_c hg (At.below h hb (Nat.le_refl _))
  clear h
  generalize l.any (relIs r) = R at *
  generalize l.length = n at *
  go_enter Tryd.func99, Tryd.ntmps99
  go_wp2_with fail
  refine (H1.out _ _ ?hb ?hc).mono ?_
  case hb => go_grown
  case hc => go_simp
  rintro e w1 ⟨rfl, hb1⟩
  have hbb : Below w.heap.size w w1 := Below.trans (by go_grown) (hb1.mono (by simp; try omega))
  go_wp2
  go_ret
  exact ⟨rfl, hbb⟩
/-- Every variable occurs in an atom. -/
def allUsed (q : Qry) : Bool := (List.range q.vars.toNat).all fun (v : Nat) => q.atoms.any (termHas (v : Int))
theorem all_range (n : Nat) (p : Nat → Bool) : (List.range (n + 1)).all p = ((List.range n).all p && p n) := by
  rw [List.range_succ, List.all_append]; simp
set_option maxHeartbeats 1600000 in
theorem areAllUsed_c {a1 a2 : Option Addr} {cap1 cap2 : Nat} {x : Qry} {w : World} (hv4 : x.vars ≤ 4) (h : At cQry w x [.int .i64 x.vars, .slice a1 x.atoms.length cap1, .slice a2 x.free.length cap2]) :
    Calls Tryd.prog 100 #[.agg #[.int .i64 x.vars, .slice a1 x.atoms.length cap1, .slice a2 x.free.length cap2]] w fun e w' => e = .returned (.bool (allUsed x)) ∧ Below w.heap.size w w' := by
  have H1 : Hid (∀ ww g (v : Int), Below w.heap.size w ww → ww.cell? ⟨g, 0, none⟩ = some (.int .i64 v) → Calls Tryd.prog 129 #[.slice a1 x.atoms.length cap1, .func (.func 131) #[] #[.pointer (some ⟨g, 0, none⟩)]] ww fun e w' => e = .returned (.bool (x.atoms.any (termHas v))) ∧ Below ww.heap.size ww w') :=
    fun ww g v hb hg => hasTrm_c hg (At.below (c := cSlice cAtm) (cQry_inv h).1 hb (Nat.le_refl _))
  clear h
  unfold allUsed
  obtain ⟨vs, ats, fr⟩ := x
  simp only at *
  generalize fr.length = m2 at *
  generalize ats.length = m1 at *
  obtain ⟨n, hn⟩ : ∃ n, vs.toNat = n := ⟨_, rfl⟩
  rw [hn]
  have hnv : ∀ k : Nat, k < n → (k : Int) < vs := by intro k hk; omega
  have hnn : vs ≤ (n : Int) := by omega
  have hn4 : n ≤ 4 := by omega
  clear hn
  generalize hR : (List.range n).all (fun (v : Nat) => ats.any (termHas (v : Int))) = R
  have HR := Lib.hid hR
  clear hR
  have HZ : Hid ((List.range 0).all (fun (v : Nat) => ats.any (termHas (v : Int))) = true) := rfl
  have HM : Hid (∀ k, k < n → (ats.any (termHas (k : Int))) = false → R = false) := by
    intro k hk h
    rw [← HR.out, List.all_eq_false]
    exact ⟨k, List.mem_range.2 hk, by rw [h]; simp⟩
  obtain ⟨wx, hwx⟩ : ∃ wx, wx = w.alloc (Obj.cells #[.int .i64 vs, .slice a1 m1 cap1, .slice a2 m2 cap2] 34) := ⟨_, rfl⟩
  have hb0 : Below w.heap.size w wx := by rw [hwx]; go_grown
  have p0 : wx.cell? ⟨w.heap.size, 0, none⟩ = some (.int .i64 vs) := by rw [hwx]; go_simp
  have p1 : wx.cell? ⟨w.heap.size, 1, none⟩ = some (.slice a1 m1 cap1) := by rw [hwx]; go_simp
  have Hwx := Lib.hid hwx
  clear hwx
  go_enter Tryd.func100, Tryd.ntmps100
  go_wp2
  rw [← Hwx.out]
  clear Hwx
  go_loopw [7] (fun iv wr => ∃ k : Nat, k ≤ n ∧ iv = .int .i64 k ∧ Hid ((List.range k).all (fun (v : Nat) => ats.any (termHas (v : Int))) = true) ∧ Below wx.heap.size wx wr) (fun iv _ => n - (intOf iv).toNat)
  case atStart => exact ⟨0, by omega, by go_num, HZ, Below.refl _ _⟩
  case round =>
    clear HZ
    obtain ⟨k, hk, rfl, Hq, hb⟩ := hrel
    have hbw : Below w.heap.size w wr := hb0.trans (hb.mono hb0.size)
    have q1 := cell_next p1 hb
    by_cases hlt : k < n
    · have hkv : decide ((k : Int) < vs) = true := decide_eq_true (hnv k hlt)
      have Hs : Hid ((List.range (k + 1)).all (fun (v : Nat) => ats.any (termHas (v : Int))) = ats.any (termHas (k : Int))) := by show _ = _; rw [all_range, Hq.out, Bool.true_and]
      have HMk := Lib.hid (HM.out k hlt)
      have hl1 := World.block_lt_of_cell? wr _ q1
      simp only at hl1
      have Hc : Hid (∀ ww g, Below wr.heap.size wr ww → ww.cell? ⟨g, 0, none⟩ = some (.int .i64 (k : Int)) → _) := fun ww g hb2 hg => H1.out ww g (k : Int) (hbw.trans (hb2.mono hbw.size)) hg
      clear Hq HM
      generalize ats.any (termHas (k : Int)) = z at *
      clear hnv hnn
      cases z with
      | true =>
        go_wp2_with fail
        refine (Hc.out _ _ ?hb ?hc).mono ?_
        case hb => go_grown
        case hc => go_simp
        rintro e w2 ⟨rfl, hb2⟩
        have hbr : Below wr.heap.size wr w2 := Below.trans (by go_grown) (hb2.mono (by simp; try omega))
        go_wp2
        go_roundw
        case rel => exact ⟨k + 1, by omega, by go_num, Hs, hb.trans (hbr.mono hb.size)⟩
        case measure => simp [intOf]; omega
      | false =>
        have hR : R = false := HMk.out rfl
        go_wp2_with fail
        refine (Hc.out _ _ ?hb ?hc).mono ?_
        case hb => go_grown
        case hc => go_simp
        rintro e w2 ⟨rfl, hb2⟩
        have hbr : Below wr.heap.size wr w2 := Below.trans (by go_grown) (hb2.mono (by simp; try omega))
        go_wp2
        go_ret
        exact ⟨by subst hR; rfl, hbw.trans (hbr.mono hbw.size)⟩
    · obtain rfl : k = n := by omega
      have hkv : decide ((k : Int) < vs) = false := decide_eq_false (by omega)
      have hR : R = true := HR.out.symm.trans Hq.out
      clear hnv hnn
      go_wp2
      go_ret
      exact ⟨by subst hR; rfl, hbw⟩
end Go.Proofs.YtlcogbmceanghaaDoor

/- Chapter 11: IsValidQuery, the program's. -/
namespace Go.Proofs.YtlcogbmceanghaaDoor
open Go.RowKit
set_option linter.unusedVariables false
set_option maxRecDepth 100000

theorem slice_take {α : Type} {c : Cod α} {B : Nat} {w : World} {l : List α} {a : Option Addr} {len cap : Nat} (h : (cSlice c).ok B w l [.slice a len cap]) (k : Nat) (hk : k ≤ l.length) :
    (cSlice c).ok B w (l.take k) [.slice a (l.take k).length cap] := by
  obtain ⟨a', cap', e, hm, h⟩ := h
  simp at e
  obtain ⟨rfl, rfl, rfl⟩ := e
  have hl : (l.take k).length = k := by simp; omega
  refine ⟨a, cap, rfl, by omega, fun j hj => ?_⟩
  have hjl : j < l.length := by omega
  obtain ⟨b, off, es, rfl, hb, he, hc⟩ := h j hjl
  exact ⟨b, off, es, rfl, hb, by rw [List.getElem_take]; exact he, hc⟩
/-- Atoms of different relations; those before are given. -/
def atomsOk (l : List Rel) (vars : Int) : List Atm → List Atm → Bool
  | _, [] => true
  | p, a :: r => atomOk l vars a && (!(p.any (relIs a.rel)) && atomsOk l vars (p ++ [a]) r)
theorem atomsOk_step (l : List Rel) (vars : Int) (q : List Atm) (k : Nat) (hk : k < q.length) : atomsOk l vars (q.take k) (q.drop k) = (atomOk l vars q[k] && (!((q.take k).any (relIs q[k].rel)) && atomsOk l vars (q.take (k + 1)) (q.drop (k + 1)))) := by
  rw [List.drop_eq_getElem_cons hk, List.take_succ_eq_append_getElem hk]; rfl
/-- A valid query. -/
def validQ (l : List Rel) (q : Qry) : Bool := validRels l && (inB q.vars 0 4 && (inB (q.atoms.length : Int) 1 3 && (atomsOk l q.vars [] q.atoms && (allUsed q && setIx q.vars q.free))))
set_option maxHeartbeats 3200000 in
theorem implIsValidQuery_c {a0 a1 a2 : Option Addr} {cap0 cap1 cap2 : Nat} {l : List Rel} {x : Qry} {w : World} (h : At (cSlice cRel) w l [.slice a0 l.length cap0]) (h' : At cQry w x [.int .i64 x.vars, .slice a1 x.atoms.length cap1, .slice a2 x.free.length cap2]) :
    Calls Tryd.prog 52 #[.slice a0 l.length cap0, .agg #[.int .i64 x.vars, .slice a1 x.atoms.length cap1, .slice a2 x.free.length cap2]] w fun e w' => e = .returned (.bool (validQ l x)) ∧ Below w.heap.size w w' := by
  have h1 := (cQry_inv h').1
  have h2 := (cQry_inv h').2.1
  have hm := (slice_len h).2
  have hm1 := (slice_len h1).2
  have hcp := slice_cap h1
  unfold maxLen at hm hm1
  have HV : Hid (∀ ww, Below w.heap.size w ww → Calls Tryd.prog 97 #[.slice a0 l.length cap0] ww fun e w' => e = .returned (.bool (validRels l)) ∧ Below ww.heap.size ww w') :=
    fun ww hb => implAreValidRelations_c (At.below h hb (Nat.le_refl _))
  have HA : Hid (0 ≤ x.vars → ∀ ww, Below w.heap.size w ww → ∀ (y : Atm) (ay : Option Addr) (cy : Nat), At cAtm ww y [.int .i64 y.rel, .slice ay y.terms.length cy] → Calls Tryd.prog 98 #[.slice a0 l.length cap0, .int .i64 x.vars, .agg #[.int .i64 y.rel, .slice ay y.terms.length cy]] ww fun e w' => e = .returned (.bool (atomOk l x.vars y)) ∧ Below ww.heap.size ww w') :=
    fun hv ww hb y ay cy hy => isAtomOf_c hv (At.below h hb (Nat.le_refl _)) hy
  have HH : Hid (∀ ww, Below w.heap.size w ww → ∀ (k : Nat) (r : Int), k ≤ x.atoms.length → Calls Tryd.prog 99 #[.slice a1 k cap1, .int .i64 r] ww fun e w' => e = .returned (.bool ((x.atoms.take k).any (relIs r))) ∧ Below ww.heap.size ww w') := by
    intro ww hb k r hk
    have hc := hasRelation_c (r := r) (slice_take (At.below (c := cSlice cAtm) h1 hb (Nat.le_refl _)) k hk)
    rw [show (x.atoms.take k).length = k by simp; omega] at hc
    exact hc
  have HU : Hid (x.vars ≤ 4 → ∀ ww, Below w.heap.size w ww → Calls Tryd.prog 100 #[.agg #[.int .i64 x.vars, .slice a1 x.atoms.length cap1, .slice a2 x.free.length cap2]] ww fun e w' => e = .returned (.bool (allUsed x)) ∧ Below ww.heap.size ww w') :=
    fun hv ww hb => areAllUsed_c hv (At.below h' hb (Nat.le_refl _))
  have HS : Hid (∀ ww, Below w.heap.size w ww → Calls Tryd.prog 101 #[.slice a2 x.free.length cap2, .int .i64 x.vars] ww fun e w' => e = .returned (.bool (setIx x.vars x.free)) ∧ Below ww.heap.size ww w') :=
    fun ww hb => areIndices_c (At.below (c := cSlice cInt) h2 hb (Nat.le_refl _))
  have Hr : Hid (∀ w' : World, Below w.heap.size w w' → ∀ j (hj : j < x.atoms.length), _) := fun w' hb j hj => at_Atom (Cod.ok_below h1 hb) j hj
  clear h h' h1 h2
  unfold validQ
  generalize allUsed x = U at *
  obtain ⟨vs, ats, fr⟩ := x
  simp only at *
  generalize setIx vs fr = S at *
  generalize fr.length = m2 at *
  obtain ⟨n, hn⟩ : ∃ n : Nat, ats.length = n := ⟨_, rfl⟩
  have Hn := Lib.hid hn
  rw [hn] at hm1 hcp HH HU ⊢
  clear hn
  generalize l.length = nr at *
  generalize validRels l = V at *
  obtain ⟨wx, hwx⟩ : ∃ wx, wx = w.alloc (Obj.cells #[.int .i64 vs, .slice a1 n cap1, .slice a2 m2 cap2] 34) := ⟨_, rfl⟩
  have hb0 : Below w.heap.size w wx := by rw [hwx]; go_grown
  have p0 : wx.cell? ⟨w.heap.size, 0, none⟩ = some (.int .i64 vs) := by rw [hwx]; go_simp
  have p1 : wx.cell? ⟨w.heap.size, 1, none⟩ = some (.slice a1 n cap1) := by rw [hwx]; go_simp
  have p2 : wx.cell? ⟨w.heap.size, 2, none⟩ = some (.slice a2 m2 cap2) := by rw [hwx]; go_simp
  have Hwx := Lib.hid hwx
  clear hwx
  have HKeep : Hid (∀ ww, Below wx.heap.size wx ww → ww.cell? ⟨w.heap.size, 0, none⟩ = some (.int .i64 vs) ∧ ww.cell? ⟨w.heap.size, 1, none⟩ = some (.slice a1 n cap1) ∧ ww.cell? ⟨w.heap.size, 2, none⟩ = some (.slice a2 m2 cap2)) := by
    intro ww hb
    exact ⟨(hb.cell (World.block_lt_of_cell? wx _ p0)).trans p0, (hb.cell (World.block_lt_of_cell? wx _ p1)).trans p1, (hb.cell (World.block_lt_of_cell? wx _ p2)).trans p2⟩
  clear p0 p1 p2
  cases V with
  | false =>
    rw [Bool.false_and]
    go_enter Tryd.func52, Tryd.ntmps52
    go_wp2_with fail
    rw [← Hwx.out]
    clear Hwx
    refine (HV.out _ hb0).mono ?_
    rintro e w1 ⟨rfl, hb1⟩
    have hbb : Below w.heap.size w w1 := hb0.trans (hb1.mono hb0.size)
    go_wp2
    go_ret
    exact ⟨rfl, hbb⟩
  | true =>
    rw [Bool.true_and]
    by_cases hv0 : vs < 0
    · rw [show inB vs 0 4 = false by unfold inB; simp; omega, Bool.false_and]
      go_enter Tryd.func52, Tryd.ntmps52
      go_wp2_with fail
      rw [← Hwx.out]
      clear Hwx
      refine (HV.out _ hb0).mono ?_
      rintro e w1 ⟨rfl, hb1⟩
      have hbb : Below w.heap.size w w1 := hb0.trans (hb1.mono hb0.size)
      obtain ⟨q0, q1, q2⟩ := HKeep.out w1 hb1
      go_wp2
      go_ret
      exact ⟨rfl, hbb⟩
    · by_cases hv4 : vs > 4
      · rw [show inB vs 0 4 = false by unfold inB; simp; omega, Bool.false_and]
        go_enter Tryd.func52, Tryd.ntmps52
        go_wp2_with fail
        rw [← Hwx.out]
        clear Hwx
        refine (HV.out _ hb0).mono ?_
        rintro e w1 ⟨rfl, hb1⟩
        have hbb : Below w.heap.size w w1 := hb0.trans (hb1.mono hb0.size)
        obtain ⟨q0, q1, q2⟩ := HKeep.out w1 hb1
        go_wp2
        go_ret
        exact ⟨rfl, hbb⟩
      · rw [show inB vs 0 4 = true by unfold inB; simp; omega, Bool.true_and]
        have HA2 := Lib.hid (HA.out (by omega))
        have HU2 := Lib.hid (HU.out (by omega))
        clear HA HU
        by_cases hn1 : n < 1
        · have hl1 : (n : Int) < 1 := by omega
          rw [show inB (n : Int) 1 3 = false by unfold inB; simp; omega, Bool.false_and]
          go_enter Tryd.func52, Tryd.ntmps52
          go_wp2_with fail
          rw [← Hwx.out]
          clear Hwx
          refine (HV.out _ hb0).mono ?_
          rintro e w1 ⟨rfl, hb1⟩
          have hbb : Below w.heap.size w w1 := hb0.trans (hb1.mono hb0.size)
          obtain ⟨q0, q1, q2⟩ := HKeep.out w1 hb1
          go_wp2
          go_ret
          exact ⟨rfl, hbb⟩
        · have hl1 : ¬ (n : Int) < 1 := by omega
          by_cases hn3 : n > 3
          · have hl3 : (n : Int) > 3 := by omega
            rw [show inB (n : Int) 1 3 = false by unfold inB; simp; omega, Bool.false_and]
            go_enter Tryd.func52, Tryd.ntmps52
            go_wp2_with fail
            rw [← Hwx.out]
            clear Hwx
            refine (HV.out _ hb0).mono ?_
            rintro e w1 ⟨rfl, hb1⟩
            have hbb : Below w.heap.size w w1 := hb0.trans (hb1.mono hb0.size)
            obtain ⟨q0, q1, q2⟩ := HKeep.out w1 hb1
            go_wp2
            go_ret
            exact ⟨rfl, hbb⟩
          · have hl3 : ¬ (n : Int) > 3 := by omega
            rw [show inB (n : Int) 1 3 = true by unfold inB; simp; omega, Bool.true_and]
            generalize hR : atomsOk l vs [] ats = R
            have HR : Hid (atomsOk l vs (ats.take 0) (ats.drop 0) = R) := hR
            clear hR
            go_enter Tryd.func52, Tryd.ntmps52
            go_wp2_with fail
            rw [← Hwx.out]
            clear Hwx
            refine (HV.out _ hb0).mono ?_
            rintro e w1 ⟨rfl, hb1⟩
            obtain ⟨q0, q1, q2⟩ := HKeep.out w1 hb1
            go_wp2
            go_loopw [33] (fun iv wr => ∃ k : Nat, k ≤ n ∧ iv = .int .i64 k ∧ Hid (atomsOk l vs (ats.take k) (ats.drop k) = R) ∧ Below wx.heap.size wx wr) (fun iv _ => n - (intOf iv).toNat)
            case atStart => exact ⟨0, by omega, by go_num, HR, hb1⟩
            case round =>
              clear HR q0 q1 q2 hb1 HV
              obtain ⟨k, hk, rfl, Hq, hb⟩ := hrel
              obtain ⟨q0, q1, q2⟩ := HKeep.out wr hb
              have hbw : Below w.heap.size w wr := hb0.trans (hb.mono hb0.size)
              by_cases hlt : k < n
              · have hkl : k < ats.length := by rw [Hn.out]; exact hlt
                have Hst := Lib.hid (Hq.out.symm.trans (atomsOk_step l vs ats k hkl))
                obtain ⟨b, off, av, cv, rfl, hbB, c0, c1, hx⟩ := Hr.out _ hbw k hkl
                have hA : At cAtm wr ats[k] [.int .i64 ats[k].rel, .slice av ats[k].terms.length cv] := cAtm.keep hx (fun _ _ => rfl) hbw.size
                have hl0 := World.block_lt_of_cell? wr _ q1
                simp only at hl0
                have HC : Hid (∀ ww, Below wr.heap.size wr ww → Calls Tryd.prog 98 #[.slice a0 nr cap0, .int .i64 vs, .agg #[.int .i64 ats[k].rel, .slice av ats[k].terms.length cv]] ww fun e w' => e = .returned (.bool (atomOk l vs ats[k])) ∧ Below ww.heap.size ww w') :=
                  fun ww hw2 => HA2.out ww (hbw.trans (hw2.mono hbw.size)) ats[k] av cv (At.below hA hw2 (Nat.le_refl _))
                have HD : Hid (∀ ww, Below wr.heap.size wr ww → Calls Tryd.prog 99 #[.slice (some ⟨b, off, none⟩) k cap1, .int .i64 ats[k].rel] ww fun e w' => e = .returned (.bool ((ats.take k).any (relIs ats[k].rel))) ∧ Below ww.heap.size ww w') :=
                  fun ww hw2 => HH.out ww (hbw.trans (hw2.mono hbw.size)) k _ hk
                have i1 : (0 : Int) ≤ (k : Int) := Int.natCast_nonneg _
                have i2 : (k : Int) ≤ (cap1 : Int) := by omega
                clear hx hA Hq
                generalize atomOk l vs ats[k] = t1 at *
                generalize (ats.take k).any (relIs ats[k].rel) = t2 at *
                generalize ats[k] = y at *
                obtain ⟨ry, ty⟩ := y
                simp only at *
                generalize ty.length = ny at *
                obtain ⟨wz, hwz⟩ : ∃ wz, wz = wr.alloc (Obj.cells #[.int .i64 ry, .slice av ny cv] 95) := ⟨_, rfl⟩
                have hbz : Below wr.heap.size wr wz := by rw [hwz]; go_grown
                have y0 : wz.cell? ⟨wr.heap.size, 0, none⟩ = some (.int .i64 ry) := by rw [hwz]; go_simp
                have y1 : wz.cell? ⟨wr.heap.size, 1, none⟩ = some (.slice av ny cv) := by rw [hwz]; go_simp
                have Y0 := grow_cell y0
                have Y1 := grow_cell y1
                have Q0 := grow_cell ((hbz.cell (World.block_lt_of_cell? wr _ q0)).trans q0)
                have Q1 := grow_cell ((hbz.cell (World.block_lt_of_cell? wr _ q1)).trans q1)
                have Hwz := Lib.hid hwz
                clear hwz
                cases t1 with
                | false =>
                  have hR : R = false := by have h := Hst.out; simpa using h
                  subst hR
                  go_upto_region 8 with fail
                  rw [← Hwz.out]
                  refine wp_region_grow (by kernel_rfl) (by kernel_rfl) ?_
                  repeat (go_big_quiet_step (first | (go_at_call 98; exact Calls.grow fun ww h => HC.out ww (hbz.trans (h.mono hbz.size))) | (go_at_call 99; exact Calls.grow fun ww h => HD.out ww (hbz.trans (h.mono hbz.size)))))
                  refine wpQuiet_nil ?_
                  rintro _ ⟨nq, rfl⟩
                  go_wp2
                  go_ret
                  exact ⟨rfl, hbw.trans ((hbz.trans (nq.below.mono hbz.size)).mono hbw.size)⟩
                | true =>
                  cases t2 with
                  | true =>
                    have hR : R = false := by have h := Hst.out; simpa using h
                    subst hR
                    go_upto_region 8 with fail
                    rw [← Hwz.out]
                    refine wp_region_grow (by kernel_rfl) (by kernel_rfl) ?_
                    repeat (go_big_quiet_step (first | (go_at_call 98; exact Calls.grow fun ww h => HC.out ww (hbz.trans (h.mono hbz.size))) | (go_at_call 99; exact Calls.grow fun ww h => HD.out ww (hbz.trans (h.mono hbz.size)))))
                    refine wpQuiet_nil ?_
                    rintro _ ⟨nq, rfl⟩
                    go_wp2
                    go_ret
                    exact ⟨rfl, hbw.trans ((hbz.trans (nq.below.mono hbz.size)).mono hbw.size)⟩
                  | false =>
                    have Hs2 : Hid (atomsOk l vs (ats.take (k + 1)) (ats.drop (k + 1)) = R) := by have h := Hst.out; show _ = _; simpa using h.symm
                    go_upto_region 8 with fail
                    rw [← Hwz.out]
                    refine wp_region_grow (by kernel_rfl) (by kernel_rfl) ?_
                    repeat (go_big_quiet_step (first | (go_at_call 98; exact Calls.grow fun ww h => HC.out ww (hbz.trans (h.mono hbz.size))) | (go_at_call 99; exact Calls.grow fun ww h => HD.out ww (hbz.trans (h.mono hbz.size)))))
                    refine wpQuiet_nil ?_
                    rintro _ ⟨nq, rfl⟩
                    go_wp2
                    go_roundw
                    case rel => exact ⟨k + 1, by omega, by go_num, Hs2, hb.trans ((hbz.trans (nq.below.mono hbz.size)).mono hb.size)⟩
                    case measure => simp [intOf]; omega
              · obtain rfl : k = n := by omega
                have hR : R = true := by
                  have := Hq.out
                  rw [List.drop_eq_nil_of_le (by rw [Hn.out]; exact Nat.le_refl _)] at this
                  exact this.symm
                subst hR
                cases U with
                | false =>
                  go_wp2_with fail
                  refine (HU2.out _ hbw).mono ?_
                  rintro e w2 ⟨rfl, hb2⟩
                  go_wp2
                  go_ret
                  exact ⟨rfl, hbw.trans (hb2.mono hbw.size)⟩
                | true =>
                  go_wp2_with fail
                  refine (HU2.out _ hbw).mono ?_
                  rintro e w2 ⟨rfl, hb2⟩
                  have hbw2 : Below w.heap.size w w2 := hbw.trans (hb2.mono hbw.size)
                  replace q0 := cell_next q0 hb2
                  replace q2 := cell_next q2 hb2
                  go_wp2_with fail
                  refine (HS.out _ hbw2).mono ?_
                  rintro e w3 ⟨rfl, hb3⟩
                  go_wp2
                  go_ret
                  exact ⟨rfl, hbw2.trans (hb3.mono hbw2.size)⟩
end Go.Proofs.YtlcogbmceanghaaDoor

/- Slices of booleans: the laws' helpers on them (copy, equality, marks), as a row reads them. -/
namespace Go.Proofs.YtlcogbmceanghaaDoor
open Go.RowKit
set_option linter.unusedVariables false
set_option maxRecDepth 100000

def bv (x : Bool) : Value := .bool x
/-- A slice of booleans: element j. -/
theorem bools_at {B : Nat} {w : World} {l : List Bool} {a : Option Addr} {len cap : Nat} (h : (cSlice cBool).ok B w l [.slice a len cap]) (j : Nat) (hj : j < l.length) :
    ∃ b off, a = some ⟨b, off, none⟩ ∧ b < B ∧ w.cell? ⟨b, off + j, none⟩ = some (.bool l[j]) := by
  obtain ⟨b, off, es, rfl, hb, he, hc⟩ := slice_at h j hj
  obtain rfl := he
  exact ⟨b, off, rfl, hb, by simpa [cBool] using hc 0 (by decide)⟩
/-- The row when k numbers are written: the first k, then zeros. -/
def doneB (l : List Bool) (k n : Nat) : List Value := (l.take k).map bv ++ List.replicate (n - k) (bv false)
theorem doneB_step (l : List Bool) (k n : Nat) (hn : l.length = n) (hk : k < n) (hkl : k < l.length) : (doneB l k n).set k (.bool l[k]) = doneB l (k + 1) n := by
  unfold doneB
  have e1 : n - k = (n - (k + 1)) + 1 := by omega
  have e2 : ((l.take k).map bv).length = k := by simp; omega
  rw [e1, List.replicate_succ, List.set_append_right _ _ (by omega), e2, Nat.sub_self, List.set_cons_zero, List.take_succ_eq_append_getElem hkl, List.map_append]
  simp [bv]
theorem doneB_all (l : List Bool) (n : Nat) (h : l.length = n) : doneB l n n = l.map bv := by subst h; simp [doneB]
theorem doneB_at (l : List Bool) (k n : Nat) (hn : l.length = n) (hk : k < n) : (doneB l k n)[k]? = some (.bool false) := by
  have e1 : n - k = (n - (k + 1)) + 1 := by omega
  have e2 : ((l.take k).map bv).length = k := by simp; omega
  unfold doneB
  rw [e1, List.replicate_succ, List.getElem?_append_right (by omega), e2]
  simp [bv]
theorem made_bools (n : Nat) (l : List Bool) : (madeCells #[.bool false] n).toList = doneB l 0 n := by
  unfold doneB madeCells
  apply List.ext_getElem
  · simp
  · intro i h1 h2
    simp [bv, Nat.mod_one]
theorem flat_bools (l : List Bool) : (l.map fun x => [bv x]).flatten = l.map bv := by
  induction l with
  | nil => rfl
  | cons x l ih => simp [ih]
theorem Tryd.infoBo : (Tryd.prog.info? 4).map (fun i => (i.zero, i.size, i.bytes)) = some (some (.bool false), 1, 1) := by kernel_rfl
/-- A row of numbers of the call's own. -/
theorem own_bools {w : World} {base : Nat} {e : TypeId} {v : Value} {n : Nat} {l : List Bool} (h : w.ownsRow base e 1 v n (l.map bv)) : Own (cSlice cBool) base w l [v] := by
  have hn : l.length = n := by simpa using h.1
  subst hn
  rcases h.2 with ⟨rfl, h0⟩ | ⟨g, cap, cur, rfl, hb, hg, h1, h2, _⟩
  · obtain rfl := List.eq_nil_of_length_eq_zero h0
    exact Own.nil _ _
  · exact Own.slice (c := cBool) (F := []) (css := l.map fun x => [bv x]) (ownL_flat (c := cBool) (fun x => [bv x]) w l (fun x hx => ⟨rfl, rfl⟩)) (by rw [flat_bools]; exact h) (by simp) (by omega)
theorem Tryd.cells_bool : Tryd.prog.cellsOf 4 = 1 := by kernel_rfl
section
open Go.Deep
variable {H : Type} {enc : TypeId × Value → H} {P : Program} {w : World} {base : Nat} {spare : Nat → Bool} {held : Bool}
theorem rd_bool {t : TypeId} (ht : P.underlying t = some .bool) {fuel : Nat} {cs : List Value} {x : DataW H × List MemPlace} (h : DataW.trod enc P w base spare held fuel t cs = some x) : ∃ y, cBool.ok w.heap.size w y cs := by
  obtain ⟨b, e, _⟩ := DataW.trod_bool ht h
  exact ⟨b, e⟩
theorem row_boolS {r0 : Reach} {b0 : Nat} {v : Value} {d : DataW H} {ps : List MemPlace} (hval : Value.okWide Tryd.prog w r0 b0 146 v) (h : DataW.Trod enc Tryd.prog w base spare held 146 v d ps) : ∃ a cap l, v = .slice a l.length cap ∧ At (cSlice cBool) w l [.slice a l.length cap] := row_slice Tryd.underlying146 Tryd.cells_bool (by decide) (fun _ _ _ h => rd_bool Tryd.underlying4 h) hval h
end
def markB (k : Nat) (l : List Bool) : List Bool := markL (fun k _ => decide (k % 3 = 0)) (fun _ => 1) k l
theorem markB_length (k : Nat) (l : List Bool) : (markB k l).length = l.length := markL_length _ _ _ _
end Go.Proofs.YtlcogbmceanghaaDoor
namespace Go.Proofs.YtlcogbmceanghaaDoor
open Go.RowKit
set_option linter.unusedVariables false
set_option maxRecDepth 100000
/-- Four marks in cells of the call's own. -/
def MetOk (w : World) (g : Nat) (M : Nat → Bool) : Prop := g < w.heap.size ∧ ∀ v, v < 4 → w.cell? ⟨g, v, none⟩ = some (.bool (M v)) ∧ w.frozen? ⟨g, v, none⟩ = false
theorem MetOk.next {w w' : World} {g : Nat} {M : Nat → Bool} (h : MetOk w g M) (hb : Below w.heap.size w w') : MetOk w' g M :=
  ⟨Nat.lt_of_lt_of_le h.1 hb.size, fun v hv => ⟨(hb.cell (p := ⟨g, v, none⟩) h.1).trans (h.2 v hv).1, (hb.frozen (p := ⟨g, v, none⟩) h.1).trans (h.2 v hv).2⟩⟩
theorem MetOk.set {w : World} {g : Nat} {M : Nat → Bool} (h : MetOk w g M) (p : Nat) (hp : p < 4) : MetOk (w.setCell ⟨g, p, none⟩ (.bool true)) g (fun v => M v || decide (v = p)) := by
  refine ⟨by have := h.1; simpa [World.setCell] using this, fun v hv => ⟨?_, by rw [World.frozen?_setCell]; exact (h.2 v hv).2⟩⟩
  show _ = some (Value.bool (M v || decide (v = p)))
  by_cases e : v = p
  · rw [decide_eq_true e, Bool.or_true]
    subst e
    exact World.cell?_setCell_same _ _ _ (h.2 v hv).1
  · rw [decide_eq_false e, Bool.or_false]
    exact (World.cell?_setCell_other _ _ _ _ (by simp)).trans (h.2 v hv).1
theorem MetOk.congr {w : World} {g : Nat} {M N : Nat → Bool} (h : MetOk w g M) (e : ∀ v, v < 4 → M v = N v) : MetOk w g N :=
  ⟨h.1, fun v hv => by rw [← e v hv]; exact h.2 v hv⟩
/-- What is marked when k atoms and j terms of the next one are through. -/
def metF (ats : List Atm) (k : Nat) (ts : List Int) (j v : Nat) : Bool := (ats.take k).any (termHas (v : Int)) || (ts.take j).any fun t => decide (t = (v : Int))
theorem has_any (l : List Int) (v : Int) : (l.any fun t => decide (t = v)) = l.contains v := by
  induction l with
  | nil => rfl
  | cons x l ih =>
    rw [List.any_cons, List.contains_cons, ih]
    congr 1
    rw [Bool.eq_iff_iff, decide_eq_true_iff, beq_iff_eq]
    exact eq_comm
theorem metF_zero (ats : List Atm) (k : Nat) (ts : List Int) (v : Nat) : metF ats k ts 0 v = (ats.take k).any (termHas (v : Int)) := by unfold metF; simp
theorem metF_succ (ats : List Atm) (k : Nat) (ts : List Int) (j v : Nat) (hj : j < ts.length) : metF ats k ts (j + 1) v = (metF ats k ts j v || decide (ts[j] = (v : Int))) := by
  unfold metF
  rw [List.take_succ_eq_append_getElem hj, List.any_append, Bool.or_assoc]
  simp
theorem metF_next (ats : List Atm) (k : Nat) (hk : k < ats.length) (v : Nat) : metF ats k ats[k].terms ats[k].terms.length v = (ats.take (k + 1)).any (termHas (v : Int)) := by
  unfold metF
  rw [List.take_length, List.take_succ_eq_append_getElem hk, List.any_append, has_any]
  simp [termHas]
theorem all_take {α : Type} (p : α → Bool) (l : List α) (k : Nat) (hk : k < l.length) : (l.take (k + 1)).all p = ((l.take k).all p && p l[k]) := by
  rw [List.take_succ_eq_append_getElem hk, List.all_append]; simp
theorem any_takeA {α : Type} (p : α → Bool) (l : List α) (k : Nat) (hk : k < l.length) : (l.take (k + 1)).any p = ((l.take k).any p || p l[k]) := by
  rw [List.take_succ_eq_append_getElem hk, List.any_append]; simp
set_option maxHeartbeats 6400000 in
theorem specIsValidQuery_c {a0 a1 a2 : Option Addr} {cap0 cap1 cap2 : Nat} {l : List Rel} {x : Qry} {w : World} (h : At (cSlice cRel) w l [.slice a0 l.length cap0]) (h' : At cQry w x [.int .i64 x.vars, .slice a1 x.atoms.length cap1, .slice a2 x.free.length cap2]) :
    Calls Tryd.prog 46 #[.slice a0 l.length cap0, .agg #[.int .i64 x.vars, .slice a1 x.atoms.length cap1, .slice a2 x.free.length cap2]] w fun e w' => e = .returned (.bool (validQ l x)) ∧ Below w.heap.size w w' := by
  have h1 := (cQry_inv h').1
  have h2 := (cQry_inv h').2.1
  have hm := (slice_len h).2
  have hm1 := (slice_len h1).2
  have hm2 := (slice_len h2).2
  unfold maxLen at hm hm1 hm2
  have HV : Hid (∀ ww, Below w.heap.size w ww → Calls Tryd.prog 94 #[.slice a0 l.length cap0] ww fun e w' => e = .returned (.bool (validRels l)) ∧ Below ww.heap.size ww w') :=
    fun ww hb => specAreValidRelations_c (At.below h hb (Nat.le_refl _))
  have HL : Hid (∀ w' : World, Below w.heap.size w w' → ∀ j (hj : j < l.length), _) := fun w' hb j hj => at_Relation (Cod.ok_below h hb) j hj
  have Hr : Hid (∀ w' : World, Below w.heap.size w w' → ∀ j (hj : j < x.atoms.length), _) := fun w' hb j hj => at_Atom (Cod.ok_below h1 hb) j hj
  have Hf : Hid (∀ w' : World, Below w.heap.size w w' → ∀ j (hj : j < x.free.length), _) := fun w' hb j hj => ints_at (Cod.ok_below h2 hb) j hj
  clear h h' h1 h2
  unfold validQ allUsed
  obtain ⟨vs, ats, fr⟩ := x
  simp only at *
  obtain ⟨n, hn⟩ : ∃ n : Nat, ats.length = n := ⟨_, rfl⟩
  have Hn := Lib.hid hn
  obtain ⟨m2, hm2'⟩ : ∃ n : Nat, fr.length = n := ⟨_, rfl⟩
  have Hm2 := Lib.hid hm2'
  obtain ⟨nr, hnr⟩ : ∃ n : Nat, l.length = n := ⟨_, rfl⟩
  have Hnr := Lib.hid hnr
  rw [hn] at hm1 ⊢
  rw [hm2'] at hm2 ⊢
  rw [hnr] at hm HV ⊢
  clear hn hm2' hnr
  generalize validRels l = V at *
  have T1 : Hid (∀ ww, Calls Tryd.prog 67 #[.int .i64 vs, .int .i64 0, .int .i64 4] ww fun e w' => e = .returned (.bool (inB vs 0 4)) ∧ ww = w') := fun ww => l1In_any _ _ _ _
  have T2 : Hid (∀ ww, Calls Tryd.prog 67 #[.int .i64 (n : Int), .int .i64 1, .int .i64 3] ww fun e w' => e = .returned (.bool (inB (n : Int) 1 3)) ∧ ww = w') := fun ww => l1In_any _ _ _ _
  have hV4 : inB vs 0 4 = true → 0 ≤ vs ∧ vs ≤ 4 := by unfold inB; simp
  have hN3 : inB (n : Int) 1 3 = true → n ≤ 3 := by unfold inB; simp; omega
  generalize inB vs 0 4 = B1 at *
  generalize inB (n : Int) 1 3 = B2 at *
  obtain ⟨wx, hwx⟩ : ∃ wx, wx = w.alloc (Obj.cells #[.int .i64 vs, .slice a1 n cap1, .slice a2 m2 cap2] 34) := ⟨_, rfl⟩
  have hb0 : Below w.heap.size w wx := by rw [hwx]; go_grown
  have p0 : wx.cell? ⟨w.heap.size, 0, none⟩ = some (.int .i64 vs) := by rw [hwx]; go_simp
  have p1 : wx.cell? ⟨w.heap.size, 1, none⟩ = some (.slice a1 n cap1) := by rw [hwx]; go_simp
  have p2 : wx.cell? ⟨w.heap.size, 2, none⟩ = some (.slice a2 m2 cap2) := by rw [hwx]; go_simp
  have Hwx := Lib.hid hwx
  clear hwx
  have HKeep : Hid (∀ ww, Below wx.heap.size wx ww → ww.cell? ⟨w.heap.size, 0, none⟩ = some (.int .i64 vs) ∧ ww.cell? ⟨w.heap.size, 1, none⟩ = some (.slice a1 n cap1) ∧ ww.cell? ⟨w.heap.size, 2, none⟩ = some (.slice a2 m2 cap2)) := by
    intro ww hb
    exact ⟨(hb.cell (World.block_lt_of_cell? wx _ p0)).trans p0, (hb.cell (World.block_lt_of_cell? wx _ p1)).trans p1, (hb.cell (World.block_lt_of_cell? wx _ p2)).trans p2⟩
  clear p0 p1 p2
  cases V with
  | false =>
    rw [Bool.false_and]
    go_enter Tryd.func46, Tryd.ntmps46
    go_wp2_with fail
    rw [← Hwx.out]
    clear Hwx
    refine (HV.out _ hb0).mono ?_
    rintro e w1 ⟨rfl, hb1⟩
    have hbb : Below w.heap.size w w1 := hb0.trans (hb1.mono hb0.size)
    go_wp2
    go_ret
    exact ⟨rfl, hbb⟩
  | true =>
    rw [Bool.true_and]
    cases B1 with
    | false =>
      rw [Bool.false_and]
      go_enter Tryd.func46, Tryd.ntmps46
      go_wp2_with fail
      rw [← Hwx.out]
      clear Hwx
      refine (HV.out _ hb0).mono ?_
      rintro e w1 ⟨rfl, hb1⟩
      have hbb : Below w.heap.size w w1 := hb0.trans (hb1.mono hb0.size)
      obtain ⟨q0, q1, q2⟩ := HKeep.out w1 hb1
      go_wp2_with fail
      refine (T1.out _).mono ?_
      rintro e w2 ⟨rfl, rfl⟩
      go_wp2
      go_ret
      exact ⟨rfl, hbb⟩
    | true =>
      rw [Bool.true_and]
      obtain ⟨hv0, hv4⟩ := hV4 rfl
      clear hV4
      cases B2 with
      | false =>
        rw [Bool.false_and]
        go_enter Tryd.func46, Tryd.ntmps46
        go_wp2_with fail
        rw [← Hwx.out]
        clear Hwx
        refine (HV.out _ hb0).mono ?_
        rintro e w1 ⟨rfl, hb1⟩
        have hbb : Below w.heap.size w w1 := hb0.trans (hb1.mono hb0.size)
        obtain ⟨q0, q1, q2⟩ := HKeep.out w1 hb1
        go_wp2_with fail
        refine (T1.out _).mono ?_
        rintro e w2 ⟨rfl, rfl⟩
        go_wp2_with fail
        refine (T2.out _).mono ?_
        rintro e w2 ⟨rfl, rfl⟩
        go_wp2
        go_ret
        exact ⟨rfl, hbb⟩
      | true =>
        rw [Bool.true_and]
        have hn3 := hN3 rfl
        clear hN3
        generalize hR : atomsOk l vs [] ats = R
        have HR : Hid (atomsOk l vs (ats.take 0) (ats.drop 0) = R) := hR
        clear hR
        generalize hU : (List.range vs.toNat).all (fun (v : Nat) => ats.any (termHas (v : Int))) = U
        have HU := Lib.hid hU
        clear hU
        generalize hS : setIx vs fr = S
        have HS := Lib.hid hS
        clear hS
        obtain ⟨i0, hi, hz0, hz1, hz2⟩ := info_parts Tryd.infoBo
        go_enter Tryd.func46, Tryd.ntmps46
        go_wp2_with fail
        rw [← Hwx.out]
        clear Hwx
        refine (HV.out _ hb0).mono ?_
        rintro e w1 ⟨rfl, hb1⟩
        obtain ⟨q0, q1, q2⟩ := HKeep.out w1 hb1
        go_wp2_with fail
        refine (T1.out _).mono ?_
        rintro e w2 ⟨rfl, rfl⟩
        go_wp2_with fail
        refine (T2.out _).mono ?_
        rintro e w2 ⟨rfl, rfl⟩
        clear T1 T2 HV
        go_wp2_with (at_make; refine wpList_make_full _ rfl (.const (.int .i64 4)) (.const (.int .i64 4)) 146 rfl w1.heap.size 4 i0 (.bool false) 1 Tryd.underlying146 hi hz0 hz1 .i64 .i64 4 4 4 rfl rfl rfl rfl ?c1 ?c2 (Nat.le_refl _) ?_)
        case c1 => rw [hz2]; omega
        case c2 => unfold maxLen; omega
        intro w2 hown hg2
        have hb2 : Below w1.heap.size w1 w2 := (Below.refl _ _).grown hg2 (Nat.le_refl _) (fun k hk => by cases hk)
        have hgx : wx.heap.size ≤ w1.heap.size := hb1.size
        have hM0 : MetOk w2 w1.heap.size (fun v => (ats.take 0).any (termHas (v : Int))) := by
          refine ⟨(hown.lt _ rfl).2, fun v hv => ⟨?_, ?_⟩⟩
          · have h := hown.cellAt v hv
            match v, hv with
            | 0, _ => simpa [madeCells] using h
            | 1, _ => simpa [madeCells] using h
            | 2, _ => simpa [madeCells] using h
            | 3, _ => simpa [madeCells] using h
          · have h := hown.frozenAt v
            simpa using h
        replace hb1 : Below wx.heap.size wx w2 := hb1.trans (hb2.mono hb1.size)
        generalize w1.heap.size = g at *
        clear hown hg2 hb2 q0 q1 q2 hi hz0 hz1 hz2
        go_wp2
        go_loopw [6] (fun iv wr => ∃ k : Nat, k ≤ n ∧ iv = .int .i64 k ∧ Hid (atomsOk l vs (ats.take k) (ats.drop k) = R) ∧ MetOk wr g (fun v => (ats.take k).any (termHas (v : Int))) ∧ Below wx.heap.size wx wr) (fun iv _ => n - (intOf iv).toNat)
        case atStart => exact ⟨0, by omega, by go_num, HR, hM0, hb1⟩
        case round =>
          clear HR hM0 hb1
          obtain ⟨k, hk, rfl, Hq, hM, hb⟩ := hrel
          obtain ⟨q0, q1, q2⟩ := HKeep.out wr hb
          have hbw : Below w.heap.size w wr := hb0.trans (hb.mono hb0.size)
          by_cases hlt : k < n
          · have hkl : k < ats.length := by rw [Hn.out]; exact hlt
            obtain ⟨b, off, av, cv, rfl, hbB, c0, c1, hx⟩ := Hr.out _ hbw k hkl
            have hts := (cAtm_inv hx).1
            have Hi : Hid (∀ ww, Below w.heap.size wr ww → ∀ j (hj : j < ats[k].terms.length), _) := fun ww hb2 j hj => ints_at (Cod.ok_below hts hb2) j hj
            have hmt := (slice_len hts).2
            unfold maxLen at hmt
            have Hst := Lib.hid (Hq.out.symm.trans (atomsOk_step l vs ats k hkl))
            have HMz : Hid (∀ v : Nat, (ats.take k).any (termHas (v : Int)) = metF ats k ats[k].terms 0 v) := fun v => (metF_zero _ _ _ _).symm
            have HMs : Hid (∀ (j v : Nat) (hj : j < ats[k].terms.length), metF ats k ats[k].terms (j + 1) v = (metF ats k ats[k].terms j v || decide (ats[k].terms[j] = (v : Int)))) := fun j v hj => metF_succ _ _ _ _ _ hj
            have HMn : Hid (∀ v : Nat, metF ats k ats[k].terms ats[k].terms.length v = (ats.take (k + 1)).any (termHas (v : Int))) := fun v => metF_next ats k hkl v
            have Hany : Hid (∀ kk (h : kk < ats.length), (ats.take (kk + 1)).any (relIs ats[k].rel) = ((ats.take kk).any (relIs ats[k].rel) || relIs ats[k].rel ats[kk])) := fun kk h => any_takeA _ _ _ h
            have Hdup : Hid (∀ kk (h : kk < ats.length), kk < k → relIs ats[k].rel ats[kk] = true → (ats.take k).any (relIs ats[k].rel) = true) := by
              intro kk h h2 h3
              exact List.any_eq_true.2 ⟨ats[kk], by rw [List.mem_take_iff_getElem]; exact ⟨kk, by omega, rfl⟩, h3⟩
            have T8 : Hid (∀ ww, Calls Tryd.prog 67 #[.int .i64 ats[k].rel, .int .i64 0, .int .i64 ((nr : Int) - 1)] ww fun e w' => e = .returned (.bool (inB ats[k].rel 0 ((nr : Int) - 1))) ∧ Below ww.heap.size ww w') := fun ww => (l1In_any _ _ _ _).mono (by rintro e w' ⟨rfl, rfl⟩; exact ⟨rfl, Below.refl _ _⟩)
            have hwn : IntKind.i64.wrap ((nr : Int) - 1) = (nr : Int) - 1 := by rw [IntKind.wrap_i64]; omega
            unfold atomOk at Hst
            rw [Hnr.out] at Hst
            have hI : inB ats[k].rel 0 ((nr : Int) - 1) = true → 0 ≤ ats[k].rel ∧ ats[k].rel ≤ (nr : Int) - 1 := by unfold inB; simp
            clear hx Hq hts
            obtain ⟨ats0, hats0⟩ : ∃ q, ats[k] = q := ⟨_, rfl⟩
            rw [hats0] at c0 c1 Hi hmt Hst HMz HMs HMn Hany Hdup T8 hI
            clear hats0
            obtain ⟨r, ts⟩ := ats0
            simp only at *
            generalize hi1 : inB r 0 ((nr : Int) - 1) = I1 at *
            obtain ⟨nt, hnt⟩ : ∃ nt, ts.length = nt := ⟨_, rfl⟩
            have Hnt := Lib.hid hnt
            rw [hnt] at c1 hmt Hst HMn
            clear hnt hi1
            obtain ⟨wz, hwz⟩ : ∃ wz, wz = wr.alloc (Obj.cells #[.int .i64 r, .slice av nt cv] 95) := ⟨_, rfl⟩
            have hbz : Below wr.heap.size wr wz := by rw [hwz]; go_grown
            have y0 : wz.cell? ⟨wr.heap.size, 0, none⟩ = some (.int .i64 r) := by rw [hwz]; go_simp
            have y1 : wz.cell? ⟨wr.heap.size, 1, none⟩ = some (.slice av nt cv) := by rw [hwz]; go_simp
            have hzs : wr.heap.size < wz.heap.size := by rw [hwz]; simp
            have Hwz := Lib.hid hwz
            clear hwz
            have Y0 := grow_cell y0
            have Y1 := grow_cell y1
            have hl0 := World.block_lt_of_cell? wr _ q1
            simp only at hl0
            cases I1 with
            | false =>
              have hR : R = false := by have h := Hst.out; simpa using h
              subst hR
              clear Hst Hi HMz HMs HMn Hany Hdup hI HL
              go_upto_region 8 with fail
              rw [← Hwz.out]
              clear q0 q2 c0 c1 y0 y1
              refine wp_region_grow (by kernel_rfl) (by kernel_rfl) ?_
              repeat (go_big_quiet_step ((go_at_call 67; (try simp only [hwn]); exact Calls.grow fun ww h => T8.out ww)))
              refine wpQuiet_nil ?_
              rintro _ ⟨nq, rfl⟩
              go_wp2
              go_ret
              exact ⟨rfl, hbw.trans ((hbz.trans (nq.below.mono hbz.size)).mono hbw.size)⟩
            | true =>
              obtain ⟨hr0, hr1⟩ := hI rfl
              clear hI
              obtain ⟨p, rfl⟩ := Int.eq_ofNat_of_zero_le hr0
              have hpl : p < l.length := by rw [Hnr.out]; omega
              have har : arityAt l (p : Int) = l[p].arity := by unfold arityAt; simp [hpl]
              rw [har, Bool.true_and] at Hst
              clear har
              obtain ⟨lb, loff, rfl, hlb, _, d1, _, _⟩ := HL.out _ hbw p hpl
              have D1 := grow_cell ((hbz.cell (World.block_lt_of_cell? wr _ d1)).trans d1)
              have i1' : (0 : Int) ≤ (p : Int) := Int.natCast_nonneg _
              have i2' : (p : Int) < (nr : Int) := by omega
              generalize l[p].arity = ar at *
              obtain ⟨A, hA⟩ : ∃ A : Bool, decide ((nt : Int) = ar) = A := ⟨_, rfl⟩
              have hne : ((nt : Int) != ar) = !A := by rw [← hA]; by_cases h : (nt : Int) = ar <;> simp [h]
              rw [hA] at Hst
              clear hA d1 HL
              cases A with
              | false =>
                have hR : R = false := by have h := Hst.out; simpa using h
                subst hR
                rw [Bool.not_false] at hne
                clear Hst Hi HMz HMs HMn Hany Hdup
                go_upto_region 8 with fail
                rw [← Hwz.out]
                clear q0 q2 c0 c1 y0 y1
                refine wp_region_grow (by kernel_rfl) (by kernel_rfl) ?_
                repeat (go_big_quiet_step ((go_at_call 67; (try simp only [hwn]); exact Calls.grow fun ww h => T8.out ww)))
                refine wpQuiet_nil ?_
                rintro _ ⟨nq, rfl⟩
                go_wp2
                go_ret
                exact ⟨rfl, hbw.trans ((hbz.trans (nq.below.mono hbz.size)).mono hbw.size)⟩
              | true =>
                rw [Bool.not_true] at hne
                rw [Bool.true_and] at Hst
                go_upto_region 8 with fail
                rw [← Hwz.out]
                clear q0 q1 q2 c0 c1 y0 y1
                refine wp_region_grow (by kernel_rfl) (by kernel_rfl) ?_
                repeat (go_big_quiet_step ((go_at_call 67; (try simp only [hwn]); exact Calls.grow fun ww h => T8.out ww)))
                refine wpQuiet_nil ?_
                rintro _ ⟨nq, rfl⟩
                have hbn : Below wr.heap.size wr nq.W := hbz.trans (nq.below.mono hbz.size)
                have y0 := Y0 nq
                have y1 := Y1 nq
                have hga : wr.heap.size < nq.W.heap.size := Nat.lt_of_lt_of_le hzs nq.below.size
                clear Y0 Y1 D1 T8 hne hbz
                generalize nq.W = wm at *
                clear nq Hwz hzs wz
                have hMm := hM.next hbn
                have hbm : Below wx.heap.size wx wm := hb.trans (hbn.mono hb.size)
                have hbwm : Below w.heap.size w wm := hbw.trans (hbn.mono hbw.size)
                have hgg : g < wr.heap.size := hM.1
                have Hi2 : Hid (∀ ww, Below w.heap.size wm ww → ∀ j (hj : j < ts.length), _) := fun ww hb2 j hj => Hi.out ww ((hbn.mono hbw.size).trans hb2) j hj
                clear hM hb hbw hbn Hi
                generalize wr.heap.size = ga at *
                have HkeepM := Lib.hid HKeep.out
                go_wp2
                go_loopw [8] (fun jv w4 => ∃ kk : Nat, kk ≤ k ∧ jv = .int .i64 kk ∧ Hid ((ats.take kk).any (relIs (p : Int)) = false) ∧ Below wm.heap.size wm w4) (fun jv _ => k - (intOf jv).toNat)
                case atStart => exact ⟨0, by omega, by go_num, by show _ = _; simp, Below.refl _ _⟩
                case round =>
                  obtain ⟨w4, hw4⟩ : ∃ w4, w4 = wr := ⟨_, rfl⟩
                  subst hw4
                  obtain ⟨kk, hkk, rfl, Hd, hb4⟩ := hrel
                  have hbx4 : Below wx.heap.size wx w4 := hbm.trans (hb4.mono hbm.size)
                  have hbw4 : Below w.heap.size w w4 := hbwm.trans (hb4.mono hbwm.size)
                  by_cases hk2 : kk < k
                  · have hkkl : kk < ats.length := by rw [Hn.out]; omega
                    obtain ⟨q0, q1, q2⟩ := HKeep.out w4 hbx4
                    obtain ⟨b5, off5, av5, cv5, e5, hb5, c5, _, _⟩ := Hr.out _ hbw4 kk hkkl
                    obtain ⟨rfl, rfl⟩ : b = b5 ∧ off = off5 := by simp at e5; exact e5
                    have HA := Lib.hid (Hany.out kk hkkl)
                    have HDp := Lib.hid (Hdup.out kk hkkl hk2)
                    have z0 := (hb4.cell (p := ⟨ga, 0, none⟩) hga).trans y0
                    have Z0 := grow_cell z0
                    have Q1 := grow_cell q1
                    have C5 := grow_cell c5
                    have j1 : (0 : Int) ≤ (kk : Int) := Int.natCast_nonneg _
                    have j2 : (kk : Int) < (n : Int) := by omega
                    have hlg := Nat.lt_of_lt_of_le hga hb4.size
                    obtain ⟨E, hE⟩ : ∃ E : Bool, relIs (p : Int) ats[kk] = E := ⟨_, rfl⟩
                    have heq : (ats[kk].rel == (p : Int)) = E := by rw [← hE]; unfold relIs; rw [Bool.eq_iff_iff]; simp
                    rw [hE] at HA HDp
                    clear e5 hE z0 q0 q1 q2 c5
                    generalize ats[kk].rel = r5 at *
                    cases E with
                    | true =>
                      have hR : R = false := by have h := Hst.out; rw [HDp.out rfl] at h; simpa using h
                      subst hR
                      clear Hst Hi2 HMz HMs HMn Hany Hdup HA HDp
                      go_wp2_with fail
                      refine wp_region_grow (by kernel_rfl) (by kernel_rfl) ?_
                      repeat (go_big_quiet_step (fail))
                      refine wpQuiet_nil ?_
                      rintro _ ⟨nq, rfl⟩
                      go_wp2
                      go_ret
                      exact ⟨rfl, hbw4.trans (nq.below.mono hbw4.size)⟩
                    | false =>
                      have Hd2 : Hid ((ats.take (kk + 1)).any (relIs (p : Int)) = false) := by show _ = _; rw [HA.out, Hd.out]; rfl
                      clear HA HDp
                      go_wp2_with fail
                      refine wp_region_grow (by kernel_rfl) (by kernel_rfl) ?_
                      repeat (go_big_quiet_step (fail))
                      refine wpQuiet_nil ?_
                      rintro _ ⟨nq, rfl⟩
                      go_wp2
                      go_roundw
                      case rel => exact ⟨kk + 1, by omega, by go_num, Hd2, hb4.trans (nq.below.mono hb4.size)⟩
                      case measure => simp [intOf]; omega
                  · obtain rfl : kk = k := by omega
                    rw [Hd.out, Bool.not_false, Bool.true_and] at Hst
                    have hM4 := hMm.next hb4
                    have z0 := (hb4.cell (p := ⟨ga, 0, none⟩) hga).trans y0
                    have z1 := (hb4.cell (p := ⟨ga, 1, none⟩) hga).trans y1
                    have hg4 := Nat.lt_of_lt_of_le hga hb4.size
                    have Hi4 : Hid (∀ ww, Below w.heap.size w4 ww → ∀ j (hj : j < ts.length), _) := fun ww hb2 j hj => Hi2.out ww ((hb4.mono hbwm.size).trans hb2) j hj
                    have hM5 : MetOk w4 g (metF ats kk ts 0) := hM4.congr (fun v _ => HMz.out v)
                    clear hM4 hMm y0 y1 hga hbm hbwm Hi2 Hany Hdup Hd HMz hb4
                    obtain ⟨T, hT⟩ : ∃ T, ts.all (termIn vs) = T := ⟨_, rfl⟩
                    have HT := Lib.hid hT
                    rw [hT] at Hst
                    clear hT
                    have HZt : Hid ((ts.take 0).all (termIn vs) = true) := by show _ = _; simp
                    have hwv : IntKind.i64.wrap (vs - 1) = vs - 1 := by rw [IntKind.wrap_i64]; omega
                    go_wp2
                    go_loopw [9] (fun jv w5 => ∃ j : Nat, j ≤ nt ∧ jv = .int .i64 j ∧ Hid ((ts.take j).all (termIn vs) = true) ∧ MetOk w5 g (metF ats kk ts j) ∧ ga < w5.heap.size ∧ w5.cell? ⟨ga, 0, none⟩ = some (.int .i64 (p : Int)) ∧ w5.cell? ⟨ga, 1, none⟩ = some (.slice av nt cv) ∧ Below w.heap.size w4 w5 ∧ Below wx.heap.size wx w5) (fun jv _ => nt - (intOf jv).toNat)
                    case atStart => exact ⟨0, by omega, by go_num, HZt, hM5, hg4, z0, z1, Below.refl _ _, hbx4⟩
                    case round =>
                      clear HZt hM5 hg4 z0 z1 hbx4
                      obtain ⟨w5, hw5⟩ : ∃ w5, w5 = wr := ⟨_, rfl⟩
                      subst hw5
                      obtain ⟨j, hj, rfl, Ht, hM5, hg5, z0, z1, hb45, hb5⟩ := hrel
                      have hbw5 : Below w.heap.size w w5 := hb0.trans (hb5.mono hb0.size)
                      by_cases hjn : j < nt
                      · have hjl : j < ts.length := by rw [Hnt.out]; exact hjn
                        obtain ⟨q0, q1, q2⟩ := HKeep.out w5 hb5
                        obtain ⟨tb, toff, rfl, htb, e0⟩ := Hi4.out w5 hb45 j hjl
                        have HTs : Hid ((ts.take (j + 1)).all (termIn vs) = ((ts.take j).all (termIn vs) && termIn vs ts[j])) := all_take _ _ _ hjl
                        have HTm : Hid (termIn vs ts[j] = false → T = false) := by
                          intro h
                          rw [← HT.out, List.all_eq_false]
                          exact ⟨ts[j], List.getElem_mem hjl, by rw [h]; simp⟩
                        have HMj := Lib.hid (fun v => HMs.out j v hjl)
                        have T9 : Hid (∀ ww, Calls Tryd.prog 67 #[.int .i64 ts[j], .int .i64 (-10), .int .i64 (vs - 1)] ww fun e w' => e = .returned (.bool (termIn vs ts[j])) ∧ Below ww.heap.size ww w') := fun ww => (l1In_any _ _ _ _).mono (by rintro e w' ⟨rfl, rfl⟩; exact ⟨rfl, Below.refl _ _⟩)
                        have htv : termIn vs ts[j] = true → ts[j] ≤ vs - 1 := by unfold termIn inB; simp
                        have Z1 := grow_cell z1
                        have Q0 := grow_cell q0
                        have E0 := grow_cell e0
                        have j1 : (0 : Int) ≤ (j : Int) := Int.natCast_nonneg _
                        have j2 : (j : Int) < (nt : Int) := by omega
                        generalize termIn vs ts[j] = tI at *
                        generalize ts[j] = tx at *
                        clear q0 q1 q2
                        cases tI with
                        | false =>
                          have hR : R = false := by have h := Hst.out; rw [HTm.out rfl] at h; simpa using h
                          subst hR
                          clear Hst HTm HTs HMj HMs HMn Hi4 HT
                          go_wp2_with fail
                          refine wp_region_grow (by kernel_rfl) (by kernel_rfl) ?_
                          repeat (go_big_quiet_step ((go_at_call 67; (try simp only [hwv]); exact Calls.grow fun ww h => T9.out ww)))
                          refine wpQuiet_nil ?_
                          rintro _ ⟨nq, rfl⟩
                          go_wp2
                          go_ret
                          exact ⟨rfl, hbw5.trans (nq.below.mono hbw5.size)⟩
                        | true =>
                          have htx := htv rfl
                          have Ht2 : Hid ((ts.take (j + 1)).all (termIn vs) = true) := by show _ = _; rw [HTs.out, Ht.out]; rfl
                          clear htv HTm HTs
                          go_wp2_with fail
                          refine wp_region_grow (by kernel_rfl) (by kernel_rfl) ?_
                          repeat (go_big_quiet_step ((go_at_call 67; (try simp only [hwv]); exact Calls.grow fun ww h => T9.out ww)))
                          refine wpQuiet_nil ?_
                          rintro _ ⟨nq, rfl⟩
                          have hM6 := hM5.next nq.below
                          have z0 := (nq.below.cell (p := ⟨ga, 0, none⟩) hg5).trans z0
                          have z1 := Z1 nq
                          have e0 := E0 nq
                          have hg6 := Nat.lt_of_lt_of_le hg5 nq.below.size
                          have hb46 : Below w.heap.size w4 nq.W := hb45.trans (nq.below.mono (hbw5.size))
                          have hb6 : Below wx.heap.size wx nq.W := hb5.trans (nq.below.mono hb5.size)
                          clear Z1 Q0 E0 T9 hM5 hg5 hb45 hb5 hbw5
                          generalize nq.W = w6 at *
                          clear nq
                          by_cases ht0 : 0 ≤ tx
                          · obtain ⟨pv, rfl⟩ := Int.eq_ofNat_of_zero_le ht0
                            have hpv : pv < 4 := by omega
                            obtain ⟨mc, mf⟩ := hM6.2 pv hpv
                            have k1 : (0 : Int) ≤ (pv : Int) := Int.natCast_nonneg _
                            have k2 : (pv : Int) < 4 := by omega
                            have hM7 := hM6.set pv hpv
                            have hM8 := hM7.congr (N := metF ats kk ts (j + 1)) (fun v _ => by rw [HMj.out v]; congr 1; rw [Bool.eq_iff_iff]; simp; omega)
                            have HM8 := Lib.hid hM8
                            have hgne : ga ≠ g := by omega
                            have x0 : (w6.setCell ⟨g, pv, none⟩ (.bool true)).cell? ⟨ga, 0, none⟩ = some (.int .i64 (p : Int)) := (World.cell?_setCell_other _ _ _ _ (by simp)).trans z0
                            have x1 : (w6.setCell ⟨g, pv, none⟩ (.bool true)).cell? ⟨ga, 1, none⟩ = some (.slice (some ⟨tb, toff, none⟩) nt cv) := (World.cell?_setCell_other _ _ _ _ (by simp)).trans z1
                            have X0 := Lib.hid x0
                            have X1 := Lib.hid x1
                            have hgw : w.heap.size ≤ g := by have := hb0.size; omega
                            clear hM7 hM8 x0 x1 hM6 HMj
                            go_wp2
                            go_roundw
                            case rel => exact ⟨j + 1, by omega, by go_num, Ht2, HM8.out, by simpa [World.setCell] using hg6, X0.out, X1.out, hb46.setCell hgw _, hb6.setCell hgx _⟩
                            case measure => simp [intOf]; omega
                          · have hM8 := hM6.congr (N := metF ats kk ts (j + 1)) (fun v _ => by rw [HMj.out v]; rw [show decide (tx = (v : Int)) = false by simp; omega, Bool.or_false])
                            clear hM6 HMj
                            go_wp2
                            go_roundw
                            case rel => exact ⟨j + 1, by omega, by go_num, Ht2, hM8, hg6, z0, z1, hb46, hb6⟩
                            case measure => simp [intOf]; omega
                      · obtain rfl : j = nt := by omega
                        have hT : T = true := by rw [← HT.out, ← Ht.out, List.take_of_length_le (by rw [Hnt.out]; exact Nat.le_refl _)]
                        subst hT
                        have Hs2 : Hid (atomsOk l vs (ats.take (kk + 1)) (ats.drop (kk + 1)) = R) := by have h := Hst.out; show _ = _; simpa using h.symm
                        have hM6 := hM5.congr (N := fun v => (ats.take (kk + 1)).any (termHas (v : Int))) (fun v _ => HMn.out v)
                        clear hM5 Hst HMn HMs Hi4 HT
                        go_wp2
                        go_roundw
                        case rel => exact ⟨kk + 1, by omega, by go_num, Hs2, hM6, hb5⟩
                        case measure => simp [intOf]; omega
          · obtain rfl : k = n := by omega
            have hR : R = true := by
              have := Hq.out
              rw [List.drop_eq_nil_of_le (by rw [Hn.out]; exact Nat.le_refl _)] at this
              exact this.symm
            subst hR
            have hM2 := hM.congr (N := fun v => ats.any (termHas (v : Int))) (fun v _ => by rw [List.take_of_length_le (by rw [Hn.out]; exact Nat.le_refl _)])
            obtain ⟨nv, hnv⟩ : ∃ nv, vs.toNat = nv := ⟨_, rfl⟩
            rw [hnv] at HU
            have hnv4 : nv ≤ 4 := by omega
            have hvv : vs = (nv : Int) := by omega
            have HUm : Hid (∀ v, v < nv → ats.any (termHas (v : Int)) = false → U = false) := by
              intro v hv h
              rw [← HU.out, List.all_eq_false]
              exact ⟨v, List.mem_range.2 hv, by rw [h]; simp⟩
            have HZu : Hid ((List.range 0).all (fun (v : Nat) => ats.any (termHas (v : Int))) = true) := rfl
            clear hM Hq Hr HL hnv
            subst hvv
            go_wp2
            go_loopw [10] (fun jv w4 => ∃ v : Nat, v ≤ nv ∧ jv = .int .i64 v ∧ Hid ((List.range v).all (fun (v : Nat) => ats.any (termHas (v : Int))) = true) ∧ w4 = wr) (fun jv _ => nv - (intOf jv).toNat)
            case atStart => exact ⟨0, by omega, by go_num, HZu, rfl⟩
            case round =>
              clear HZu
              obtain ⟨v, hv, rfl, Hv, rfl⟩ := hrel
              by_cases hlv : v < nv
              · have mc : _ = some (Value.bool (ats.any (termHas (v : Int)))) := (hM2.2 v (by omega)).1
                have Hv2 : Hid ((List.range (v + 1)).all (fun (v : Nat) => ats.any (termHas (v : Int))) = ats.any (termHas (v : Int))) := by show _ = _; rw [all_range, Hv.out, Bool.true_and]
                have HUv := Lib.hid (HUm.out v hlv)
                have j1 : (0 : Int) ≤ (v : Int) := Int.natCast_nonneg _
                have j2 : (v : Int) < 4 := by omega
                have j3 : (v : Int) < (nv : Int) := by omega
                generalize ats.any (termHas (v : Int)) = z at *
                cases z with
                | true =>
                  go_wp2
                  go_roundw
                  case rel => exact ⟨v + 1, by omega, by go_num, Hv2, by first | rfl | trivial⟩
                  case measure => simp [intOf]; omega
                | false =>
                  have hU : U = false := HUv.out rfl
                  go_wp2
                  go_ret
                  exact ⟨by subst hU; rfl, hbw⟩
              · obtain rfl : v = nv := by omega
                have hU : U = true := by rw [← HU.out, ← Hv.out]
                subst hU
                have hSd : setFrom (v : Int) none fr = S := by rw [← setIx_eq]; exact HS.out
                have HZs : Hid (setFrom (v : Int) (prevG fr 0) (fr.drop 0) = S) := hSd
                have hwv : IntKind.i64.wrap ((v : Int) - 1) = (v : Int) - 1 := by rw [IntKind.wrap_i64]; omega
                clear hSd HU HUm Hv HS hM2
                go_wp2
                go_loopw [11] (fun jv w4 => ∃ k2 : Nat, k2 ≤ m2 ∧ jv = .int .i64 k2 ∧ Hid (setFrom (v : Int) (prevG fr k2) (fr.drop k2) = S) ∧ Below wx.heap.size wx w4) (fun jv _ => m2 - (intOf jv).toNat)
                case atStart => exact ⟨0, by omega, by go_num, HZs, hb⟩
                case round =>
                  clear HZs q0 q1 q2 hb hbw
                  obtain ⟨w4, hw4⟩ : ∃ w4, w4 = wr := ⟨_, rfl⟩
                  subst hw4
                  obtain ⟨k2, hk2, rfl, Hq, hb4⟩ := hrel
                  have hbw4 : Below w.heap.size w w4 := hb0.trans (hb4.mono hb0.size)
                  obtain ⟨q0, q1, q2⟩ := HKeep.out w4 hb4
                  by_cases hlt2 : k2 < m2
                  · have hkl : k2 < fr.length := by rw [Hm2.out]; exact hlt2
                    have Hst := Lib.hid (Hq.out.symm.trans (setFrom_step (v : Int) fr k2 hkl))
                    obtain ⟨fb, foff, rfl, hfb, c0⟩ := Hf.out _ hbw4 k2 hkl
                    have C0 := grow_cell c0
                    have Q0 := grow_cell q0
                    have Q2 := grow_cell q2
                    have T1 : Hid (∀ ww, Calls Tryd.prog 67 #[.int .i64 fr[k2], .int .i64 0, .int .i64 ((v : Int) - 1)] ww fun e w' => e = .returned (.bool (inB fr[k2] 0 ((v : Int) - 1))) ∧ Below ww.heap.size ww w') := fun ww => (l1In_any _ _ _ _).mono (by rintro e w' ⟨rfl, rfl⟩; exact ⟨rfl, Below.refl _ _⟩)
                    have s1 : (0 : Int) ≤ (k2 : Int) := Int.natCast_nonneg _
                    have s2 : (k2 : Int) < (m2 : Int) := by omega
                    clear Hq q1 c0
                    rcases Nat.eq_zero_or_pos k2 with hk0 | hk0
                    · have hg1 : decide ((0 : Int) < (k2 : Int)) = false := decide_eq_false (by omega)
                      have hg2 : decide (0 < k2) = false := decide_eq_false (by omega)
                      have hp : okPI (prevG fr k2) fr[k2] = true := by subst hk0; rfl
                      rw [hp, Bool.true_and] at Hst
                      clear hp hk0
                      generalize inB fr[k2] 0 ((v : Int) - 1) = t1 at *
                      generalize fr[k2] = r at *
                      cases t1 with
                      | false =>
                        have hR : S = false := by have h := Hst.out; simpa using h
                        go_wp2_with fail
                        refine wp_region_grow (by kernel_rfl) (by kernel_rfl) ?_
                        repeat (go_big_quiet_step ((go_at_call 67; (try simp only [hwv]); exact Calls.grow fun ww h => T1.out ww)))
                        refine wpQuiet_nil ?_
                        rintro _ ⟨nq, rfl⟩
                        go_wp2
                        go_ret
                        exact ⟨by subst hR; rfl, hbw4.trans (nq.below.mono hbw4.size)⟩
                      | true =>
                        have Hs2 : Hid (setFrom (v : Int) (prevG fr (k2 + 1)) (fr.drop (k2 + 1)) = S) := by have h := Hst.out; show _ = _; simpa using h.symm
                        go_wp2_with fail
                        refine wp_region_grow (by kernel_rfl) (by kernel_rfl) ?_
                        repeat (go_big_quiet_step ((go_at_call 67; (try simp only [hwv]); exact Calls.grow fun ww h => T1.out ww)))
                        refine wpQuiet_nil ?_
                        rintro _ ⟨nq, rfl⟩
                        go_wp2
                        go_roundw
                        case rel => exact ⟨k2 + 1, by omega, by go_num, Hs2, hb4.trans (nq.below.mono hb4.size)⟩
                        case measure => simp [intOf]; omega
                    · have hg1 : decide ((0 : Int) < (k2 : Int)) = true := decide_eq_true (by omega)
                      have hg2 : decide (0 < k2) = true := decide_eq_true (by omega)
                      obtain ⟨j, hj⟩ : ∃ j, k2 = j + 1 := ⟨k2 - 1, by omega⟩
                      have hjl : j < fr.length := by omega
                      have hp : okPI (prevG fr k2) fr[k2] = decide (fr[j] < fr[k2]) := by subst hj; exact okPI_succ fr j hjl _
                      rw [hp] at Hst
                      have hle : decide (fr[k2] ≤ fr[j]) = !decide (fr[j] < fr[k2]) := by rw [Bool.eq_iff_iff]; simp
                      clear hp hk0
                      obtain ⟨b', off', e', hbB', p0⟩ := Hf.out _ hbw4 j hjl
                      obtain ⟨rfl, rfl⟩ : fb = b' ∧ foff = off' := by simp at e'; exact e'
                      have hwj : wrap64 ((k2 : Int) - 1) = (j : Int) := by rw [IntWalk.wrap64_in _ ⟨by omega, by omega⟩]; omega
                      have hkj : (k2 : Int) - 1 = (j : Int) := by omega
                      have D0 := grow_cell p0
                      have hjn : (j : Int) < m2 := by omega
                      have Hj := Lib.hid hj
                      clear hj e' hbB' p0
                      generalize inB fr[k2] 0 ((v : Int) - 1) = t1 at *
                      generalize hs : decide (fr[j] < fr[k2]) = s at *
                      clear hs
                      generalize fr[j] = q at *
                      generalize fr[k2] = r at *
                      cases t1 with
                      | false =>
                        have hR : S = false := by have h := Hst.out; simpa using h
                        cases s with
                        | false =>
                          go_wp2_with fail
                          refine wp_region_grow (by kernel_rfl) (by kernel_rfl) ?_
                          repeat (go_big_quiet_step ((go_at_call 67; (try simp only [hwv]); exact Calls.grow fun ww h => T1.out ww)))
                          refine wpQuiet_nil ?_
                          rintro _ ⟨nq, rfl⟩
                          go_wp2
                          go_ret
                          exact ⟨by subst hR; rfl, hbw4.trans (nq.below.mono hbw4.size)⟩
                        | true =>
                          go_wp2_with fail
                          refine wp_region_grow (by kernel_rfl) (by kernel_rfl) ?_
                          repeat (go_big_quiet_step ((go_at_call 67; (try simp only [hwv]); exact Calls.grow fun ww h => T1.out ww)))
                          refine wpQuiet_nil ?_
                          rintro _ ⟨nq, rfl⟩
                          go_wp2
                          go_ret
                          exact ⟨by subst hR; rfl, hbw4.trans (nq.below.mono hbw4.size)⟩
                      | true =>
                        cases s with
                        | false =>
                          have hR : S = false := by have h := Hst.out; simpa using h
                          have hle2 : decide (r ≤ q) = true := hle
                          clear hle
                          go_wp2_with fail
                          refine wp_region_grow (by kernel_rfl) (by kernel_rfl) ?_
                          repeat (go_big_quiet_step ((go_at_call 67; (try simp only [hwv]); exact Calls.grow fun ww h => T1.out ww)))
                          refine wpQuiet_nil ?_
                          rintro _ ⟨nq, rfl⟩
                          go_wp2
                          go_ret
                          exact ⟨by subst hR; rfl, hbw4.trans (nq.below.mono hbw4.size)⟩
                        | true =>
                          have Hs2 : Hid (setFrom (v : Int) (prevG fr (k2 + 1)) (fr.drop (k2 + 1)) = S) := by have h := Hst.out; show _ = _; simpa using h.symm
                          have hle2 : decide (r ≤ q) = false := hle
                          clear hle
                          go_wp2_with fail
                          refine wp_region_grow (by kernel_rfl) (by kernel_rfl) ?_
                          repeat (go_big_quiet_step ((go_at_call 67; (try simp only [hwv]); exact Calls.grow fun ww h => T1.out ww)))
                          refine wpQuiet_nil ?_
                          rintro _ ⟨nq, rfl⟩
                          go_wp2
                          go_roundw
                          case rel => exact ⟨k2 + 1, by omega, by go_num, Hs2, hb4.trans (nq.below.mono hb4.size)⟩
                          case measure => simp [intOf]; omega
                  · obtain rfl : k2 = m2 := by omega
                    have hR : S = true := by
                      have := Hq.out
                      rw [List.drop_eq_nil_of_le (by rw [Hm2.out]; exact Nat.le_refl _)] at this
                      exact this.symm
                    go_wp2
                    go_ret
                    exact ⟨by subst hR; rfl, hbw4⟩
end Go.Proofs.YtlcogbmceanghaaDoor


/- Chapter 11: IsValidQuery, the program's. -/
import Derived.Test.YtmofmepbekffiaaQv1
import Derived.Deep.Cut
namespace Go.Proofs.Ytmofmepbekffiaa
open Go.RowKit
set_option linter.unusedVariables false
set_option maxRecDepth 100000

theorem slice_take {α : Type} {c : Cod α} {B : Nat} {w : World} {l : List α} {a : Option Addr} {len cap : Nat} (h : (cSlice c).ok B w l [.slice a len cap]) (k : Nat) (hk : k ≤ l.length) :
    (cSlice c).ok B w (l.take k) [.slice a (l.take k).length cap] := by
  obtain ⟨a', cap', e, hm, h⟩ := h
  simp at e
  obtain ⟨rfl, rfl, rfl⟩ := e
  have hl : (l.take k).length = k := by simp; omega
  refine ⟨a, cap, rfl, by omega, fun j hj => ?_⟩
  have hjl : j < l.length := by omega
  obtain ⟨b, off, es, rfl, hb, he, hc⟩ := h j hjl
  exact ⟨b, off, es, rfl, hb, by rw [List.getElem_take]; exact he, hc⟩
/-- Atoms of different relations; those before are given. -/
def atomsOk (l : List Rel) (vars : Int) : List Atm → List Atm → Bool
  | _, [] => true
  | p, a :: r => atomOk l vars a && (!(p.any (relIs a.rel)) && atomsOk l vars (p ++ [a]) r)
theorem atomsOk_step (l : List Rel) (vars : Int) (q : List Atm) (k : Nat) (hk : k < q.length) : atomsOk l vars (q.take k) (q.drop k) = (atomOk l vars q[k] && (!((q.take k).any (relIs q[k].rel)) && atomsOk l vars (q.take (k + 1)) (q.drop (k + 1)))) := by
  rw [List.drop_eq_getElem_cons hk, List.take_succ_eq_append_getElem hk]; rfl
/-- A valid query. -/
def validQ (l : List Rel) (q : Qry) : Bool := validRels l && (inB q.vars 0 4 && (inB (q.atoms.length : Int) 1 3 && (atomsOk l q.vars [] q.atoms && (allUsed q && setIx q.vars q.free))))
set_option maxHeartbeats 3200000 in
theorem implIsValidQuery_c {a0 a1 a2 : Option Addr} {cap0 cap1 cap2 : Nat} {l : List Rel} {x : Qry} {w : World} (h : At (cSlice cRel) w l [.slice a0 l.length cap0]) (h' : At cQry w x [.int .i64 x.vars, .slice a1 x.atoms.length cap1, .slice a2 x.free.length cap2]) :
    Calls Try.prog 20 #[.slice a0 l.length cap0, .agg #[.int .i64 x.vars, .slice a1 x.atoms.length cap1, .slice a2 x.free.length cap2]] w fun e w' => e = .returned (.bool (validQ l x)) ∧ Below w.heap.size w w' := by
  have h1 := (cQry_inv h').1
  have h2 := (cQry_inv h').2.1
  have hm := (slice_len h).2
  have hm1 := (slice_len h1).2
  have hcp := slice_cap h1
  unfold maxLen at hm hm1
  have HV : Hid (∀ ww, Below w.heap.size w ww → Calls Try.prog 68 #[.slice a0 l.length cap0] ww fun e w' => e = .returned (.bool (validRels l)) ∧ Below ww.heap.size ww w') :=
    fun ww hb => implAreValidRelations_c (At.below h hb (Nat.le_refl _))
  have HA : Hid (0 ≤ x.vars → ∀ ww, Below w.heap.size w ww → ∀ (y : Atm) (ay : Option Addr) (cy : Nat), At cAtm ww y [.int .i64 y.rel, .slice ay y.terms.length cy] → Calls Try.prog 69 #[.slice a0 l.length cap0, .int .i64 x.vars, .agg #[.int .i64 y.rel, .slice ay y.terms.length cy]] ww fun e w' => e = .returned (.bool (atomOk l x.vars y)) ∧ Below ww.heap.size ww w') :=
    fun hv ww hb y ay cy hy => isAtomOf_c hv (At.below h hb (Nat.le_refl _)) hy
  have HH : Hid (∀ ww, Below w.heap.size w ww → ∀ (k : Nat) (r : Int), k ≤ x.atoms.length → Calls Try.prog 70 #[.slice a1 k cap1, .int .i64 r] ww fun e w' => e = .returned (.bool ((x.atoms.take k).any (relIs r))) ∧ Below ww.heap.size ww w') := by
    intro ww hb k r hk
    have hc := hasRelation_c (r := r) (slice_take (At.below (c := cSlice cAtm) h1 hb (Nat.le_refl _)) k hk)
    rw [show (x.atoms.take k).length = k by simp; omega] at hc
    exact hc
  have HU : Hid (x.vars ≤ 4 → ∀ ww, Below w.heap.size w ww → Calls Try.prog 71 #[.agg #[.int .i64 x.vars, .slice a1 x.atoms.length cap1, .slice a2 x.free.length cap2]] ww fun e w' => e = .returned (.bool (allUsed x)) ∧ Below ww.heap.size ww w') :=
    fun hv ww hb => areAllUsed_c hv (At.below h' hb (Nat.le_refl _))
  have HS : Hid (∀ ww, Below w.heap.size w ww → Calls Try.prog 72 #[.slice a2 x.free.length cap2, .int .i64 x.vars] ww fun e w' => e = .returned (.bool (setIx x.vars x.free)) ∧ Below ww.heap.size ww w') :=
    fun ww hb => areIndices_c (At.below (c := cSlice cInt) h2 hb (Nat.le_refl _))
  have Hr : Hid (∀ w' : World, Below w.heap.size w w' → ∀ j (hj : j < x.atoms.length), _) := fun w' hb j hj => at_Atom (Cod.ok_below h1 hb) j hj
  clear h h' h1 h2
  unfold validQ
  generalize allUsed x = U at *
  obtain ⟨vs, ats, fr⟩ := x
  simp only at *
  generalize setIx vs fr = S at *
  generalize fr.length = m2 at *
  obtain ⟨n, hn⟩ : ∃ n : Nat, ats.length = n := ⟨_, rfl⟩
  have Hn := Lib.hid hn
  rw [hn] at hm1 hcp HH HU ⊢
  clear hn
  generalize l.length = nr at *
  generalize validRels l = V at *
  obtain ⟨wx, hwx⟩ : ∃ wx, wx = w.alloc (Obj.cells #[.int .i64 vs, .slice a1 n cap1, .slice a2 m2 cap2] 34) := ⟨_, rfl⟩
  have hb0 : Below w.heap.size w wx := by rw [hwx]; go_grown
  have p0 : wx.cell? ⟨w.heap.size, 0, none⟩ = some (.int .i64 vs) := by rw [hwx]; go_simp
  have p1 : wx.cell? ⟨w.heap.size, 1, none⟩ = some (.slice a1 n cap1) := by rw [hwx]; go_simp
  have p2 : wx.cell? ⟨w.heap.size, 2, none⟩ = some (.slice a2 m2 cap2) := by rw [hwx]; go_simp
  have Hwx := Lib.hid hwx
  clear hwx
  have HKeep : Hid (∀ ww, Below wx.heap.size wx ww → ww.cell? ⟨w.heap.size, 0, none⟩ = some (.int .i64 vs) ∧ ww.cell? ⟨w.heap.size, 1, none⟩ = some (.slice a1 n cap1) ∧ ww.cell? ⟨w.heap.size, 2, none⟩ = some (.slice a2 m2 cap2)) := by
    intro ww hb
    exact ⟨(hb.cell (World.block_lt_of_cell? wx _ p0)).trans p0, (hb.cell (World.block_lt_of_cell? wx _ p1)).trans p1, (hb.cell (World.block_lt_of_cell? wx _ p2)).trans p2⟩
  clear p0 p1 p2
  cases V with
  | false =>
    rw [Bool.false_and]
    go_enter Try.func20, Try.ntmps20
    go_wp2_with fail
    rw [← Hwx.out]
    clear Hwx
    refine (HV.out _ hb0).mono ?_
    rintro e w1 ⟨rfl, hb1⟩
    have hbb : Below w.heap.size w w1 := hb0.trans (hb1.mono hb0.size)
    go_wp2
    go_ret
    exact ⟨rfl, hbb⟩
  | true =>
    rw [Bool.true_and]
    by_cases hv0 : vs < 0
    · rw [show inB vs 0 4 = false by unfold inB; simp; omega, Bool.false_and]
      go_enter Try.func20, Try.ntmps20
      go_wp2_with fail
      rw [← Hwx.out]
      clear Hwx
      refine (HV.out _ hb0).mono ?_
      rintro e w1 ⟨rfl, hb1⟩
      have hbb : Below w.heap.size w w1 := hb0.trans (hb1.mono hb0.size)
      obtain ⟨q0, q1, q2⟩ := HKeep.out w1 hb1
      go_wp2
      go_ret
      exact ⟨rfl, hbb⟩
    · by_cases hv4 : vs > 4
      · rw [show inB vs 0 4 = false by unfold inB; simp; omega, Bool.false_and]
        go_enter Try.func20, Try.ntmps20
        go_wp2_with fail
        rw [← Hwx.out]
        clear Hwx
        refine (HV.out _ hb0).mono ?_
        rintro e w1 ⟨rfl, hb1⟩
        have hbb : Below w.heap.size w w1 := hb0.trans (hb1.mono hb0.size)
        obtain ⟨q0, q1, q2⟩ := HKeep.out w1 hb1
        go_wp2
        go_ret
        exact ⟨rfl, hbb⟩
      · rw [show inB vs 0 4 = true by unfold inB; simp; omega, Bool.true_and]
        have HA2 := Lib.hid (HA.out (by omega))
        have HU2 := Lib.hid (HU.out (by omega))
        clear HA HU
        by_cases hn1 : n < 1
        · have hl1 : (n : Int) < 1 := by omega
          rw [show inB (n : Int) 1 3 = false by unfold inB; simp; omega, Bool.false_and]
          go_enter Try.func20, Try.ntmps20
          go_wp2_with fail
          rw [← Hwx.out]
          clear Hwx
          refine (HV.out _ hb0).mono ?_
          rintro e w1 ⟨rfl, hb1⟩
          have hbb : Below w.heap.size w w1 := hb0.trans (hb1.mono hb0.size)
          obtain ⟨q0, q1, q2⟩ := HKeep.out w1 hb1
          go_wp2
          go_ret
          exact ⟨rfl, hbb⟩
        · have hl1 : ¬ (n : Int) < 1 := by omega
          by_cases hn3 : n > 3
          · have hl3 : (n : Int) > 3 := by omega
            rw [show inB (n : Int) 1 3 = false by unfold inB; simp; omega, Bool.false_and]
            go_enter Try.func20, Try.ntmps20
            go_wp2_with fail
            rw [← Hwx.out]
            clear Hwx
            refine (HV.out _ hb0).mono ?_
            rintro e w1 ⟨rfl, hb1⟩
            have hbb : Below w.heap.size w w1 := hb0.trans (hb1.mono hb0.size)
            obtain ⟨q0, q1, q2⟩ := HKeep.out w1 hb1
            go_wp2
            go_ret
            exact ⟨rfl, hbb⟩
          · have hl3 : ¬ (n : Int) > 3 := by omega
            rw [show inB (n : Int) 1 3 = true by unfold inB; simp; omega, Bool.true_and]
            generalize hR : atomsOk l vs [] ats = R
            have HR : Hid (atomsOk l vs (ats.take 0) (ats.drop 0) = R) := hR
            clear hR
            go_enter Try.func20, Try.ntmps20
            go_wp2_with fail
            rw [← Hwx.out]
            clear Hwx
            refine (HV.out _ hb0).mono ?_
            rintro e w1 ⟨rfl, hb1⟩
            obtain ⟨q0, q1, q2⟩ := HKeep.out w1 hb1
            go_wp2
            go_loopw [33] (fun iv wr => ∃ k : Nat, k ≤ n ∧ iv = .int .i64 k ∧ Hid (atomsOk l vs (ats.take k) (ats.drop k) = R) ∧ Below wx.heap.size wx wr) (fun iv _ => n - (intOf iv).toNat)
            case atStart => exact ⟨0, by omega, by go_num, HR, hb1⟩
            case round =>
              clear HR q0 q1 q2 hb1 HV
              obtain ⟨k, hk, rfl, Hq, hb⟩ := hrel
              obtain ⟨q0, q1, q2⟩ := HKeep.out wr hb
              have hbw : Below w.heap.size w wr := hb0.trans (hb.mono hb0.size)
              by_cases hlt : k < n
              · have hkl : k < ats.length := by rw [Hn.out]; exact hlt
                have Hst := Lib.hid (Hq.out.symm.trans (atomsOk_step l vs ats k hkl))
                obtain ⟨b, off, av, cv, rfl, hbB, c0, c1, hx⟩ := Hr.out _ hbw k hkl
                have hA : At cAtm wr ats[k] [.int .i64 ats[k].rel, .slice av ats[k].terms.length cv] := cAtm.keep hx (fun _ _ => rfl) hbw.size
                have hl0 := World.block_lt_of_cell? wr _ q1
                simp only at hl0
                have HC : Hid (∀ ww, Below wr.heap.size wr ww → Calls Try.prog 69 #[.slice a0 nr cap0, .int .i64 vs, .agg #[.int .i64 ats[k].rel, .slice av ats[k].terms.length cv]] ww fun e w' => e = .returned (.bool (atomOk l vs ats[k])) ∧ Below ww.heap.size ww w') :=
                  fun ww hw2 => HA2.out ww (hbw.trans (hw2.mono hbw.size)) ats[k] av cv (At.below hA hw2 (Nat.le_refl _))
                have HD : Hid (∀ ww, Below wr.heap.size wr ww → Calls Try.prog 70 #[.slice (some ⟨b, off, none⟩) k cap1, .int .i64 ats[k].rel] ww fun e w' => e = .returned (.bool ((ats.take k).any (relIs ats[k].rel))) ∧ Below ww.heap.size ww w') :=
                  fun ww hw2 => HH.out ww (hbw.trans (hw2.mono hbw.size)) k _ hk
                have i1 : (0 : Int) ≤ (k : Int) := Int.natCast_nonneg _
                have i2 : (k : Int) ≤ (cap1 : Int) := by omega
                clear hx hA Hq
                generalize atomOk l vs ats[k] = t1 at *
                generalize (ats.take k).any (relIs ats[k].rel) = t2 at *
                generalize ats[k] = y at *
                obtain ⟨ry, ty⟩ := y
                simp only at *
                generalize ty.length = ny at *
                obtain ⟨wz, hwz⟩ : ∃ wz, wz = wr.alloc (Obj.cells #[.int .i64 ry, .slice av ny cv] 85) := ⟨_, rfl⟩
                have hbz : Below wr.heap.size wr wz := by rw [hwz]; go_grown
                have y0 : wz.cell? ⟨wr.heap.size, 0, none⟩ = some (.int .i64 ry) := by rw [hwz]; go_simp
                have y1 : wz.cell? ⟨wr.heap.size, 1, none⟩ = some (.slice av ny cv) := by rw [hwz]; go_simp
                have Y0 := grow_cell y0
                have Y1 := grow_cell y1
                have Q0 := grow_cell ((hbz.cell (World.block_lt_of_cell? wr _ q0)).trans q0)
                have Q1 := grow_cell ((hbz.cell (World.block_lt_of_cell? wr _ q1)).trans q1)
                have Hwz := Lib.hid hwz
                clear hwz
                cases t1 with
                | false =>
                  have hR : R = false := by have h := Hst.out; simpa using h
                  subst hR
                  go_upto_region 8 with fail
                  rw [← Hwz.out]
                  refine wp_region_grow (by kernel_rfl) (by kernel_rfl) ?_
                  repeat (go_big_quiet_step (first | (go_at_call 69; exact Calls.grow fun ww h => HC.out ww (hbz.trans (h.mono hbz.size))) | (go_at_call 70; exact Calls.grow fun ww h => HD.out ww (hbz.trans (h.mono hbz.size)))))
                  refine wpQuiet_nil ?_
                  rintro _ ⟨nq, rfl⟩
                  go_wp2
                  go_ret
                  exact ⟨rfl, hbw.trans ((hbz.trans (nq.below.mono hbz.size)).mono hbw.size)⟩
                | true =>
                  cases t2 with
                  | true =>
                    have hR : R = false := by have h := Hst.out; simpa using h
                    subst hR
                    go_upto_region 8 with fail
                    rw [← Hwz.out]
                    refine wp_region_grow (by kernel_rfl) (by kernel_rfl) ?_
                    repeat (go_big_quiet_step (first | (go_at_call 69; exact Calls.grow fun ww h => HC.out ww (hbz.trans (h.mono hbz.size))) | (go_at_call 70; exact Calls.grow fun ww h => HD.out ww (hbz.trans (h.mono hbz.size)))))
                    refine wpQuiet_nil ?_
                    rintro _ ⟨nq, rfl⟩
                    go_wp2
                    go_ret
                    exact ⟨rfl, hbw.trans ((hbz.trans (nq.below.mono hbz.size)).mono hbw.size)⟩
                  | false =>
                    have Hs2 : Hid (atomsOk l vs (ats.take (k + 1)) (ats.drop (k + 1)) = R) := by have h := Hst.out; show _ = _; simpa using h.symm
                    go_upto_region 8 with fail
                    rw [← Hwz.out]
                    refine wp_region_grow (by kernel_rfl) (by kernel_rfl) ?_
                    repeat (go_big_quiet_step (first | (go_at_call 69; exact Calls.grow fun ww h => HC.out ww (hbz.trans (h.mono hbz.size))) | (go_at_call 70; exact Calls.grow fun ww h => HD.out ww (hbz.trans (h.mono hbz.size)))))
                    refine wpQuiet_nil ?_
                    rintro _ ⟨nq, rfl⟩
                    go_wp2
                    go_roundw
                    case rel => exact ⟨k + 1, by omega, by go_num, Hs2, hb.trans ((hbz.trans (nq.below.mono hbz.size)).mono hb.size)⟩
                    case measure => simp [intOf]; omega
              · obtain rfl : k = n := by omega
                have hR : R = true := by
                  have := Hq.out
                  rw [List.drop_eq_nil_of_le (by rw [Hn.out]; exact Nat.le_refl _)] at this
                  exact this.symm
                subst hR
                cases U with
                | false =>
                  go_wp2_with fail
                  refine (HU2.out _ hbw).mono ?_
                  rintro e w2 ⟨rfl, hb2⟩
                  go_wp2
                  go_ret
                  exact ⟨rfl, hbw.trans (hb2.mono hbw.size)⟩
                | true =>
                  go_wp2_with fail
                  refine (HU2.out _ hbw).mono ?_
                  rintro e w2 ⟨rfl, hb2⟩
                  have hbw2 : Below w.heap.size w w2 := hbw.trans (hb2.mono hbw.size)
                  replace q0 := cell_next q0 hb2
                  replace q2 := cell_next q2 hb2
                  go_wp2_with fail
                  refine (HS.out _ hbw2).mono ?_
                  rintro e w3 ⟨rfl, hb3⟩
                  go_wp2
                  go_ret
                  exact ⟨rfl, hbw2.trans (hb3.mono hbw2.size)⟩
end Go.Proofs.Ytmofmepbekffiaa


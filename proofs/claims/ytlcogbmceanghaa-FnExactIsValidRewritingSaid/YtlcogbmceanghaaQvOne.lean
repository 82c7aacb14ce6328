/- QvOne: Qv1 Qv2 TyBo Qv3. -/
import Derived.Test.YtlcogbmceanghaaTyTre
import Derived.Test.YtlcogbmceanghaaTerm
import Derived.Test.YtlcogbmceanghaaIx
import Derived.Test.YtlcogbmceanghaaVarOne
import Derived.Deep.Cut
import Derived.Test.YtlcogbmceanghaaTyOne
import Derived.Test.YtlcogbmceanghaaRd
import Derived.Test.YtlcogbmceanghaaMarkOne
/- Chapter 11: isAtomOf, hasRelation, areAllUsed: the program's. -/
namespace Go.Proofs.Ytlcogbmceanghaa
open Go.RowKit
set_option linter.unusedVariables false
set_option maxRecDepth 100000

/-- A term of a query with so many variables. -/
def termIn (vars t : Int) : Bool := inB t (-10) (vars - 1)
/-- An atom of one of the relations. -/
def atomOk (l : List Rel) (vars : Int) (a : Atm) : Bool := inB a.rel 0 ((l.length : Int) - 1) && (decide ((a.terms.length : Int) = arityAt l a.rel) && a.terms.all (termIn vars))
theorem termIn_eq {vars t : Int} (h : 0 ≤ vars) : termIn vars t = (termOk t || inB t 0 (vars - 1)) := by
  unfold termIn termOk inB
  rw [Bool.eq_iff_iff]
  simp only [Bool.and_eq_true, Bool.or_eq_true, decide_eq_true_eq]
  omega
set_option maxHeartbeats 3200000 in
theorem isAtomOf_c {a0 a1 : Option Addr} {cap0 cap1 : Nat} {l : List Rel} {x : Atm} {vars : Int} {w : World} (hv : 0 ≤ vars) (h : At (cSlice cRel) w l [.slice a0 l.length cap0]) (h' : At cAtm w x [.int .i64 x.rel, .slice a1 x.terms.length cap1]) :
    Calls Try.prog 31 #[.slice a0 l.length cap0, .int .i64 vars, .agg #[.int .i64 x.rel, .slice a1 x.terms.length cap1]] w fun e w' => e = .returned (.bool (atomOk l vars x)) ∧ Below w.heap.size w w' := by
  have hm := (slice_len h).2
  have h1 := (cAtm_inv h').1
  have hm1 := (slice_len h1).2
  unfold maxLen at hm hm1
  have Hr : Hid (∀ w' : World, Below w.heap.size w w' → ∀ j (hj : j < l.length), _) := fun w' hb j hj => at_Relation (Cod.ok_below h hb) j hj
  have Hi : Hid (∀ w' : World, Below w.heap.size w w' → ∀ j (hj : j < x.terms.length), _) := fun w' hb j hj => ints_at (Cod.ok_below h1 hb) j hj
  have Hg := Lib.hid (ints_rng h1)
  clear h h' h1
  unfold atomOk
  obtain ⟨n, hn⟩ : ∃ n : Nat, l.length = n := ⟨_, rfl⟩
  have Hn := Lib.hid hn
  rw [hn] at hm ⊢
  clear hn
  obtain ⟨r, v⟩ := x
  simp only at *
  obtain ⟨nv, hnv⟩ : ∃ n : Nat, v.length = n := ⟨_, rfl⟩
  have Hnv := Lib.hid hnv
  rw [hnv] at hm1 ⊢
  clear hnv
  have Hl : Hid (∀ ww, Calls Try.prog 40 #[.int .i64 r, .int .i64 n] ww fun e w' => e = .returned (.bool (inB r 0 ((n : Int) - 1))) ∧ Below ww.heap.size ww w') := fun ww => (isIndexX_any _ _ _).mono (by rintro e w' ⟨rfl, rfl⟩; exact ⟨rfl, Below.refl _ _⟩)
  have hI : inB r 0 ((n : Int) - 1) = true → 0 ≤ r ∧ r ≤ (n : Int) - 1 := by unfold inB; simp
  generalize inB r 0 ((n : Int) - 1) = I at *
  obtain ⟨wx, hwx⟩ : ∃ wx, wx = w.alloc (Obj.cells #[.int .i64 r, .slice a1 nv cap1] 43) := ⟨_, rfl⟩
  have hb0 : Below w.heap.size w wx := by rw [hwx]; go_grown
  have p0 : wx.cell? ⟨w.heap.size, 0, none⟩ = some (.int .i64 r) := by rw [hwx]; go_simp
  have p1 : wx.cell? ⟨w.heap.size, 1, none⟩ = some (.slice a1 nv cap1) := by rw [hwx]; go_simp
  have Hwx := Lib.hid hwx
  clear hwx
  have P0 := grow_cell p0
  have P1 := grow_cell p1
  cases I with
  | false =>
    rw [Bool.false_and]
    clear hI Hr Hi
    go_enter Try.func31, Try.ntmps31
    go_wp2_with fail
    rw [← Hwx.out]
    clear Hwx
    refine wp_region_grow (by kernel_rfl) (by kernel_rfl) ?_
    repeat (go_big_quiet_step ((go_at_call 40; exact Calls.grow fun ww h => Hl.out ww)))
    refine wpQuiet_nil ?_
    rintro _ ⟨nq, rfl⟩
    have hbb2 : Below w.heap.size w nq.W := hb0.trans (nq.below.mono hb0.size)
    go_wp2
    go_ret
    exact ⟨rfl, hbb2⟩
  | true =>
    rw [Bool.true_and]
    obtain ⟨hr0, hr1⟩ := hI rfl
    clear hI
    obtain ⟨k, rfl⟩ := Int.eq_ofNat_of_zero_le hr0
    have hk : k < n := by omega
    have hkl : k < l.length := by rw [Hn.out]; exact hk
    have har : arityAt l (k : Int) = l[k].arity := by unfold arityAt; simp [hkl]
    rw [har]
    clear har
    have hTE : v.all (termIn vars) = v.all (fun t => termOk t || inB t 0 (vars - 1)) := by congr 1; funext t; exact termIn_eq hv
    rw [hTE]
    clear hTE
    generalize hR : v.all (fun t => termOk t || inB t 0 (vars - 1)) = R
    have HR : Hid ((v.drop 0).all (fun t => termOk t || inB t 0 (vars - 1)) = R) := hR
    clear hR
    obtain ⟨Q, hQ⟩ : ∃ Q : Bool, decide ((nv : Int) = l[k].arity) = Q := ⟨_, rfl⟩
    rw [hQ]
    have hne : ((nv : Int) != l[k].arity) = !Q := by rw [← hQ]; by_cases h : (nv : Int) = l[k].arity <;> simp [h]
    clear hQ
    obtain ⟨b, off, rfl, hbB, c0, c1, c2, hx⟩ := Hr.out _ hb0 k hkl
    have C1 := grow_cell c1
    have i1 : (0 : Int) ≤ (k : Int) := Int.natCast_nonneg _
    have i2 : (k : Int) < (n : Int) := by omega
    clear c0 c1 c2 hx
    generalize l[k] = q at *
    cases Q with
    | false =>
      rw [Bool.not_false] at hne
      rw [Bool.false_and]
      go_enter Try.func31, Try.ntmps31
      go_wp2_with fail
      rw [← Hwx.out]
      clear Hwx
      refine wp_region_grow (by kernel_rfl) (by kernel_rfl) ?_
      repeat (go_big_quiet_step ((go_at_call 40; exact Calls.grow fun ww h => Hl.out ww)))
      refine wpQuiet_nil ?_
      rintro _ ⟨nq, rfl⟩
      have hbb2 : Below w.heap.size w nq.W := hb0.trans (nq.below.mono hb0.size)
      go_wp2
      go_ret
      exact ⟨rfl, hbb2⟩
    | true =>
      rw [Bool.not_true] at hne
      rw [Bool.true_and]
      go_enter Try.func31, Try.ntmps31
      go_wp2_with fail
      rw [← Hwx.out]
      clear Hwx
      refine wp_region_grow (by kernel_rfl) (by kernel_rfl) ?_
      repeat (go_big_quiet_step ((go_at_call 40; exact Calls.grow fun ww h => Hl.out ww)))
      refine wpQuiet_nil ?_
      rintro _ ⟨nq, rfl⟩
      have hbb2 : Below w.heap.size w nq.W := hb0.trans (nq.below.mono hb0.size)
      have q1 := P1 nq
      have hlt := World.block_lt_of_cell? nq.W _ q1
      clear P0 P1 C1 p0 p1 hne
      generalize nq.W = wn at *
      clear nq
      go_wp2
      go_loopw [32] (fun iv wr => ∃ k : Nat, k ≤ nv ∧ iv = .int .i64 k ∧ Hid ((v.drop k).all (fun t => termOk t || inB t 0 (vars - 1)) = R) ∧ Below wn.heap.size wn wr) (fun iv _ => nv - (intOf iv).toNat)
      case atStart => exact ⟨0, by omega, by go_num, HR, Below.refl _ _⟩
      case round =>
        clear HR
        obtain ⟨j, hj, rfl, Hq, hb⟩ := hrel
        have hbw : Below w.heap.size w wr := hbb2.trans (hb.mono hbb2.size)
        by_cases hjn : j < nv
        · have hjl : j < v.length := by rw [Hnv.out]; exact hjn
          obtain ⟨b', off', rfl, hbB', d0⟩ := Hi.out _ hbw j hjl
          have Hst := Lib.hid (Hq.out.symm.trans (all_drop (fun t => termOk t || inB t 0 (vars - 1)) v j hjl))
          have hrz := Hg.out v[j] (List.getElem_mem hjl)
          unfold inR at hrz
          have Ht : Hid (∀ ww, Calls Try.prog 41 #[.int .i64 v[j]] ww fun e w' => e = .returned (.tuple #[.int .i64 (termVal v[j]), .bool (termOk v[j])]) ∧ Below ww.heap.size ww w') := fun ww => implTermValue_c hrz.1 hrz.2 ww
          have Hx : Hid (∀ ww, Calls Try.prog 40 #[.int .i64 v[j], .int .i64 vars] ww fun e w' => e = .returned (.bool (inB v[j] 0 (vars - 1))) ∧ ww = w') := fun ww => isIndexX_any _ _ _
          clear Hq
          generalize termVal v[j] = tv at *
          generalize termOk v[j] = T at *
          generalize inB v[j] 0 (vars - 1) = J at *
          generalize v[j] = z at *
          cases T with
          | true =>
            have Hs2 : Hid ((v.drop (j + 1)).all (fun t => termOk t || inB t 0 (vars - 1)) = R) := by have h := Hst.out; show _ = _; simpa using h.symm
            go_wp2_with fail
            refine (Ht.out _).mono ?_
            rintro e w2 ⟨rfl, hb2⟩
            go_wp2
            go_roundw
            case rel => exact ⟨j + 1, by omega, by go_num, Hs2, hb.trans (hb2.mono hb.size)⟩
            case measure => simp [intOf]; omega
          | false =>
            cases J with
            | true =>
              have Hs2 : Hid ((v.drop (j + 1)).all (fun t => termOk t || inB t 0 (vars - 1)) = R) := by have h := Hst.out; show _ = _; simpa using h.symm
              go_wp2_with fail
              refine (Ht.out _).mono ?_
              rintro e w2 ⟨rfl, hb2⟩
              go_wp2_with fail
              refine (Hx.out _).mono ?_
              rintro e w3 ⟨rfl, rfl⟩
              go_wp2
              go_roundw
              case rel => exact ⟨j + 1, by omega, by go_num, Hs2, hb.trans (hb2.mono hb.size)⟩
              case measure => simp [intOf]; omega
            | false =>
              have hR : R = false := by have h := Hst.out; simpa using h
              go_wp2_with fail
              refine (Ht.out _).mono ?_
              rintro e w2 ⟨rfl, hb2⟩
              go_wp2_with fail
              refine (Hx.out _).mono ?_
              rintro e w3 ⟨rfl, rfl⟩
              go_wp2
              go_ret
              exact ⟨by subst hR; rfl, hbw.trans (hb2.mono hbw.size)⟩
        · obtain rfl : j = nv := by omega
          have hR : R = true := by
            have := Hq.out
            rw [List.drop_eq_nil_of_le (by rw [Hnv.out]; exact Nat.le_refl _)] at this
            exact this.symm
          go_wp2
          go_ret
          exact ⟨by subst hR; rfl, hbw⟩
/-- An atom of this relation. -/
def relIs (r : Int) (y : Atm) : Bool := decide (y.rel = r)
/-- An atom with this term. -/
def termHas (v : Int) (y : Atm) : Bool := y.terms.contains v
/-- Every variable occurs in an atom. -/
def allUsed (q : Qry) : Bool := (List.range q.vars.toNat).all fun (v : Nat) => q.atoms.any (termHas (v : Int))
theorem all_range (n : Nat) (p : Nat → Bool) : (List.range (n + 1)).all p = ((List.range n).all p && p n) := by
  rw [List.range_succ, List.all_append]; simp
end Go.Proofs.Ytlcogbmceanghaa
namespace Go.Proofs.Ytlcogbmceanghaa
open Go.RowKit
set_option linter.unusedVariables false
set_option maxRecDepth 100000
theorem slice_take {α : Type} {c : Cod α} {B : Nat} {w : World} {l : List α} {a : Option Addr} {len cap : Nat} (h : (cSlice c).ok B w l [.slice a len cap]) (k : Nat) (hk : k ≤ l.length) :
    (cSlice c).ok B w (l.take k) [.slice a (l.take k).length cap] := by
  obtain ⟨a', cap', e, hm, h⟩ := h
  simp at e
  obtain ⟨rfl, rfl, rfl⟩ := e
  have hl : (l.take k).length = k := by simp; omega
  refine ⟨a, cap, rfl, by omega, fun j hj => ?_⟩
  have hjl : j < l.length := by omega
  obtain ⟨b, off, es, rfl, hb, he, hc⟩ := h j hjl
  exact ⟨b, off, es, rfl, hb, by rw [List.getElem_take]; exact he, hc⟩
/-- Atoms of different relations; those before are given. -/
def atomsOk (l : List Rel) (vars : Int) : List Atm → List Atm → Bool
  | _, [] => true
  | p, a :: r => atomOk l vars a && (!(p.any (relIs a.rel)) && atomsOk l vars (p ++ [a]) r)
theorem atomsOk_step (l : List Rel) (vars : Int) (q : List Atm) (k : Nat) (hk : k < q.length) : atomsOk l vars (q.take k) (q.drop k) = (atomOk l vars q[k] && (!((q.take k).any (relIs q[k].rel)) && atomsOk l vars (q.take (k + 1)) (q.drop (k + 1)))) := by
  rw [List.drop_eq_getElem_cons hk, List.take_succ_eq_append_getElem hk]; rfl
/-- A valid query. -/
def validQ (l : List Rel) (q : Qry) : Bool := validRels l && (inB q.vars 0 4 && (inB (q.atoms.length : Int) 1 3 && (atomsOk l q.vars [] q.atoms && (allUsed q && setIx q.vars q.free))))
end Go.Proofs.Ytlcogbmceanghaa
namespace Go.Proofs.Ytlcogbmceanghaa
open Go.RowKit
set_option linter.unusedVariables false
set_option maxRecDepth 100000
def bv (x : Bool) : Value := .bool x
/-- A slice of booleans: element j. -/
theorem bools_at {B : Nat} {w : World} {l : List Bool} {a : Option Addr} {len cap : Nat} (h : (cSlice cBool).ok B w l [.slice a len cap]) (j : Nat) (hj : j < l.length) :
    ∃ b off, a = some ⟨b, off, none⟩ ∧ b < B ∧ w.cell? ⟨b, off + j, none⟩ = some (.bool l[j]) := by
  obtain ⟨b, off, es, rfl, hb, he, hc⟩ := slice_at h j hj
  obtain rfl := he
  exact ⟨b, off, rfl, hb, by simpa [cBool] using hc 0 (by decide)⟩
/-- The row when k numbers are written: the first k, then zeros. -/
def doneB (l : List Bool) (k n : Nat) : List Value := (l.take k).map bv ++ List.replicate (n - k) (bv false)
theorem doneB_step (l : List Bool) (k n : Nat) (hn : l.length = n) (hk : k < n) (hkl : k < l.length) : (doneB l k n).set k (.bool l[k]) = doneB l (k + 1) n := by
  unfold doneB
  have e1 : n - k = (n - (k + 1)) + 1 := by omega
  have e2 : ((l.take k).map bv).length = k := by simp; omega
  rw [e1, List.replicate_succ, List.set_append_right _ _ (by omega), e2, Nat.sub_self, List.set_cons_zero, List.take_succ_eq_append_getElem hkl, List.map_append]
  simp [bv]
theorem doneB_all (l : List Bool) (n : Nat) (h : l.length = n) : doneB l n n = l.map bv := by subst h; simp [doneB]
theorem doneB_at (l : List Bool) (k n : Nat) (hn : l.length = n) (hk : k < n) : (doneB l k n)[k]? = some (.bool false) := by
  have e1 : n - k = (n - (k + 1)) + 1 := by omega
  have e2 : ((l.take k).map bv).length = k := by simp; omega
  unfold doneB
  rw [e1, List.replicate_succ, List.getElem?_append_right (by omega), e2]
  simp [bv]
theorem made_bools (n : Nat) (l : List Bool) : (madeCells #[.bool false] n).toList = doneB l 0 n := by
  unfold doneB madeCells
  apply List.ext_getElem
  · simp
  · intro i h1 h2
    simp [bv, Nat.mod_one]
theorem flat_bools (l : List Bool) : (l.map fun x => [bv x]).flatten = l.map bv := by
  induction l with
  | nil => rfl
  | cons x l ih => simp [ih]
theorem Try.infoBo : (Try.prog.info? 4).map (fun i => (i.zero, i.size, i.bytes)) = some (some (.bool false), 1, 1) := by kernel_rfl
/-- A row of numbers of the call's own. -/
theorem own_bools {w : World} {base : Nat} {e : TypeId} {v : Value} {n : Nat} {l : List Bool} (h : w.ownsRow base e 1 v n (l.map bv)) : Own (cSlice cBool) base w l [v] := by
  have hn : l.length = n := by simpa using h.1
  subst hn
  rcases h.2 with ⟨rfl, h0⟩ | ⟨g, cap, cur, rfl, hb, hg, h1, h2, _⟩
  · obtain rfl := List.eq_nil_of_length_eq_zero h0
    exact Own.nil _ _
  · exact Own.slice (c := cBool) (F := []) (css := l.map fun x => [bv x]) (ownL_flat (c := cBool) (fun x => [bv x]) w l (fun x hx => ⟨rfl, rfl⟩)) (by rw [flat_bools]; exact h) (by simp) (by omega)
theorem Try.cells_bool : Try.prog.cellsOf 4 = 1 := by kernel_rfl
section
open Go.Deep
variable {H : Type} {enc : TypeId × Value → H} {P : Program} {w : World} {base : Nat} {spare : Nat → Bool} {held : Bool}
theorem rd_bool {t : TypeId} (ht : P.underlying t = some .bool) {fuel : Nat} {cs : List Value} {x : DataW H × List MemPlace} (h : DataW.trod enc P w base spare held fuel t cs = some x) : ∃ y, cBool.ok w.heap.size w y cs := by
  obtain ⟨b, e, _⟩ := DataW.trod_bool ht h
  exact ⟨b, e⟩
end
def markB (k : Nat) (l : List Bool) : List Bool := markL (fun k _ => decide (k % 3 = 0)) (fun _ => 1) k l
theorem markB_length (k : Nat) (l : List Bool) : (markB k l).length = l.length := markL_length _ _ _ _
end Go.Proofs.Ytlcogbmceanghaa
namespace Go.Proofs.Ytlcogbmceanghaa
open Go.RowKit
set_option linter.unusedVariables false
set_option maxRecDepth 100000
/-- Four marks in cells of the call's own. -/
def MetOk (w : World) (g : Nat) (M : Nat → Bool) : Prop := g < w.heap.size ∧ ∀ v, v < 4 → w.cell? ⟨g, v, none⟩ = some (.bool (M v)) ∧ w.frozen? ⟨g, v, none⟩ = false
theorem MetOk.next {w w' : World} {g : Nat} {M : Nat → Bool} (h : MetOk w g M) (hb : Below w.heap.size w w') : MetOk w' g M :=
  ⟨Nat.lt_of_lt_of_le h.1 hb.size, fun v hv => ⟨(hb.cell (p := ⟨g, v, none⟩) h.1).trans (h.2 v hv).1, (hb.frozen (p := ⟨g, v, none⟩) h.1).trans (h.2 v hv).2⟩⟩
theorem MetOk.set {w : World} {g : Nat} {M : Nat → Bool} (h : MetOk w g M) (p : Nat) (hp : p < 4) : MetOk (w.setCell ⟨g, p, none⟩ (.bool true)) g (fun v => M v || decide (v = p)) := by
  refine ⟨by have := h.1; simpa [World.setCell] using this, fun v hv => ⟨?_, by rw [World.frozen?_setCell]; exact (h.2 v hv).2⟩⟩
  show _ = some (Value.bool (M v || decide (v = p)))
  by_cases e : v = p
  · rw [decide_eq_true e, Bool.or_true]
    subst e
    exact World.cell?_setCell_same _ _ _ (h.2 v hv).1
  · rw [decide_eq_false e, Bool.or_false]
    exact (World.cell?_setCell_other _ _ _ _ (by simp)).trans (h.2 v hv).1
theorem MetOk.congr {w : World} {g : Nat} {M N : Nat → Bool} (h : MetOk w g M) (e : ∀ v, v < 4 → M v = N v) : MetOk w g N :=
  ⟨h.1, fun v hv => by rw [← e v hv]; exact h.2 v hv⟩
/-- What is marked when k atoms and j terms of the next one are through. -/
def metF (ats : List Atm) (k : Nat) (ts : List Int) (j v : Nat) : Bool := (ats.take k).any (termHas (v : Int)) || (ts.take j).any fun t => decide (t = (v : Int))
theorem has_any (l : List Int) (v : Int) : (l.any fun t => decide (t = v)) = l.contains v := by
  induction l with
  | nil => rfl
  | cons x l ih =>
    rw [List.any_cons, List.contains_cons, ih]
    congr 1
    rw [Bool.eq_iff_iff, decide_eq_true_iff, beq_iff_eq]
    exact eq_comm
theorem metF_zero (ats : List Atm) (k : Nat) (ts : List Int) (v : Nat) : metF ats k ts 0 v = (ats.take k).any (termHas (v : Int)) := by unfold metF; simp
theorem metF_succ (ats : List Atm) (k : Nat) (ts : List Int) (j v : Nat) (hj : j < ts.length) : metF ats k ts (j + 1) v = (metF ats k ts j v || decide (ts[j] = (v : Int))) := by
  unfold metF
  rw [List.take_succ_eq_append_getElem hj, List.any_append, Bool.or_assoc]
  simp
theorem metF_next (ats : List Atm) (k : Nat) (hk : k < ats.length) (v : Nat) : metF ats k ats[k].terms ats[k].terms.length v = (ats.take (k + 1)).any (termHas (v : Int)) := by
  unfold metF
  rw [List.take_length, List.take_succ_eq_append_getElem hk, List.any_append, has_any]
  simp [termHas]
theorem all_take {α : Type} (p : α → Bool) (l : List α) (k : Nat) (hk : k < l.length) : (l.take (k + 1)).all p = ((l.take k).all p && p l[k]) := by
  rw [List.take_succ_eq_append_getElem hk, List.all_append]; simp
theorem any_takeA {α : Type} (p : α → Bool) (l : List α) (k : Nat) (hk : k < l.length) : (l.take (k + 1)).any p = ((l.take k).any p || p l[k]) := by
  rw [List.take_succ_eq_append_getElem hk, List.any_append]; simp
end Go.Proofs.Ytlcogbmceanghaa

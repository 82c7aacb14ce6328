/- VarOne: Var VarK. -/
import Derived.Test.YtlcogbmceanghaaTyTre
import Derived.Test.YtlcogbmceanghaaApp
import Derived.Test.YtlcogbmceanghaaShelf
import Derived.Test.YtlcogbmceanghaaTyTwo
import Derived.Test.YtlcogbmceanghaaKeyOne
import Derived.Test.YtlcogbmceanghaaGrow
import Derived.Test.YtlcogbmceanghaaRelOne
import Derived.Deep.RegionHeld3
/- Chapter 11: the variables of a list of terms: l7Has, AtomVariables of both sides. -/
namespace Go.Proofs.Ytlcogbmceanghaa
open Go.RowKit
set_option linter.unusedVariables false
set_option maxRecDepth 100000

theorem srcs_oneV (w : World) (v : Value) (e : TypeId) (h : v.oneCell' = true) : Srcs (w.alloc (.cells #[v] e)) 1 (some ⟨w.heap.size, 0, none⟩) 1 [v] :=
  ⟨rfl, fun u hu => by simp at hu; subst hu; exact h, .inr ⟨_, rfl, one_at w v e⟩⟩
theorem own_formV {w : World} {base : Nat} {e : TypeId} {v : Value} {n : Nat} {xs : List Value} (h : w.ownsRow base e 1 v n xs) : ∃ a cap, v = .slice a n cap := by
  rcases h.2 with ⟨rfl, h0⟩ | ⟨g, cp, cur, rfl, _⟩
  · exact ⟨none, 0, by rw [h0]⟩
  · exact ⟨_, _, rfl⟩
theorem own_pushV {w w' : World} {base : Nat} {e : TypeId} {v' : Value} {n : Nat} {l : List Int} {x : Int} (h : w'.ownsRow base e 1 v' (n + 1) (l.map iv ++ [.int .i64 x])) : w'.ownsRow base e 1 v' (l ++ [x]).length ((l ++ [x]).map iv) := by
  have hn := h.1
  simp at hn
  rw [List.map_append, List.length_append, List.length_singleton]
  subst hn
  exact h
theorem row_emptyV (w : World) (e : TypeId) (base : Nat) (h : base ≤ w.heap.size) : (w.alloc (.cells #[] e)).ownsRow base e 1 (.slice (some ⟨w.heap.size, 0, none⟩) 0 0) 0 [] :=
  ⟨rfl, .inr ⟨w.heap.size, 0, #[], rfl, h, heap_alloc_new w _, by simp, by simp, by simp, by simp⟩⟩

/-- The variables below k that stand in a list of terms, ascending. -/
def vPart (l : List Int) (k : Nat) : List Int := ((List.range k).filter fun (v : Nat) => l.contains (v : Int)).map fun (v : Nat) => (v : Int)
def varsL (l : List Int) : List Int := vPart l 4
theorem vPart_succ (l : List Int) (k : Nat) : vPart l (k + 1) = if l.contains (k : Int) = true then vPart l k ++ [(k : Int)] else vPart l k := by
  unfold vPart
  rw [List.range_succ, List.filter_append, List.map_append]
  cases h : l.contains (k : Int)
  · rw [if_neg Bool.false_ne_true, List.filter_cons, if_neg (by rw [h]; exact Bool.false_ne_true)]; simp
  · rw [if_pos rfl, List.filter_cons, if_pos h]; rfl
theorem vPart_len (l : List Int) (k : Nat) : (vPart l k).length ≤ k := by
  unfold vPart
  rw [List.length_map]
  exact Nat.le_trans (List.length_filter_le _ _) (by simp)
theorem varsL_bnd (l : List Int) : (varsL l).length ≤ 4611686018427000000 := Nat.le_trans (vPart_len l 4) (by decide)
theorem vPart_inR (l : List Int) (k : Nat) (hk : k ≤ 4) : ∀ x, x ∈ vPart l k → inR x := by
  intro x hx
  obtain ⟨v, hv, rfl⟩ := List.mem_map.1 hx
  have := List.mem_range.1 (List.mem_filter.1 hv).1
  unfold inR
  omega
theorem containsI_c {a : Option Addr} {cap : Nat} {l : List Int} {x : Int} {w : World} (h : At (cSlice cInt) w l [.slice a l.length cap]) :
    Calls Try.prog 42 #[.slice a l.length cap, .int .i64 x] w fun e w' => e = .returned (.bool (l.contains x)) ∧ Below w.heap.size w w' := by
  have hm := (slice_len h).2
  unfold maxLen at hm
  rcases Nat.eq_zero_or_pos l.length with h0 | h0
  · obtain rfl := List.eq_nil_of_length_eq_zero h0
    exact (Try.slices_Contains_int_empty a cap x w).mono fun e w' ⟨he, hw⟩ => ⟨by rw [he]; rfl, hw ▸ Below.refl _ _⟩
  · obtain ⟨b, off, rfl, _, _⟩ := ints_at h 0 h0
    refine (Try.slices_Contains_int b off l.length cap l x w (Nat.le_refl _) (by omega) (fun j hj => ?_)).mono fun e w' ⟨he, hw⟩ => ⟨by rw [he, List.take_length], hw ▸ Below.refl _ _⟩
    obtain ⟨b', off', e, _, hc⟩ := ints_at h j hj
    simp at e
    obtain ⟨rfl, rfl⟩ := e
    rw [hc, List.getD_eq_getElem?_getD, List.getElem?_eq_getElem hj]; rfl
theorem contains_drop (l : List Int) (x : Int) (k : Nat) (hk : k < l.length) : (l.drop k).contains x = (l[k] == x || (l.drop (k + 1)).contains x) := by
  rw [List.drop_eq_getElem_cons hk, List.contains_cons, Bool.beq_comm]
theorem l7Has_c {a : Option Addr} {cap : Nat} {l : List Int} {x : Int} {w : World} (h : At (cSlice cInt) w l [.slice a l.length cap]) :
    Calls Try.prog 27 #[.slice a l.length cap, .int .i64 x] w fun e w' => e = .returned (.bool (l.contains x)) ∧ Below w.heap.size w w' := by
  have hm := (slice_len h).2
  unfold maxLen at hm
  have Hr : Hid (∀ w' : World, Below w.heap.size w w' → ∀ j (hj : j < l.length), _) := fun w' hb j hj => ints_at (Cod.ok_below h hb) j hj
  obtain ⟨n, hn⟩ : ∃ n : Nat, l.length = n := ⟨_, rfl⟩
  have Hn := Lib.hid hn
  rw [hn] at hm ⊢
  clear hn h
  generalize hR : l.contains x = R
  have HR : Hid ((l.drop 0).contains x = R) := hR
  clear hR
  go_enter Try.func27, Try.ntmps27
  go_wp2
  go_loopw [5] (fun iv wr => ∃ k : Nat, k ≤ n ∧ iv = .int .i64 k ∧ Hid ((l.drop k).contains x = R) ∧ Below w.heap.size w wr) (fun iv _ => n - (intOf iv).toNat)
  case atStart => exact ⟨0, by omega, by go_num, HR, Below.refl _ _⟩
  case round =>
    clear HR
    obtain ⟨k, hk, rfl, Hq, hb⟩ := hrel
    by_cases hlt : k < n
    · have hkl : k < l.length := by rw [Hn.out]; exact hlt
      have Hst := Lib.hid (Hq.out.symm.trans (contains_drop l x k hkl))
      obtain ⟨b, off, rfl, hbB, c0⟩ := Hr.out _ hb k hkl
      clear Hq
      generalize l[k] = e at *
      cases he : (e == x) with
      | true =>
        have hR : Hid (R = true) := by have h := Hst.out; rw [he, Bool.true_or] at h; exact h
        go_wp2
        go_ret
        exact ⟨by rw [hR.out]; rfl, hb⟩
      | false =>
        have Hs2 : Hid ((l.drop (k + 1)).contains x = R) := by have h := Hst.out; rw [he, Bool.false_or] at h; exact h.symm
        go_wp2
        go_roundw
        case rel => exact ⟨k + 1, by omega, by go_num, Hs2, hb⟩
        case measure => simp [intOf]; omega
    · obtain rfl : k = n := by omega
      have hR : Hid (R = false) := by
        have h := Hq.out
        rw [List.drop_eq_nil_of_le (by rw [Hn.out]; exact Nat.le_refl _)] at h
        exact h.symm
      go_wp2
      go_ret
      exact ⟨by rw [hR.out]; rfl, hb⟩

set_option maxHeartbeats 1600000 in
theorem variablesOf_c {a : Option Addr} {cap : Nat} {l : List Int} {w : World} (h : At (cSlice cInt) w l [.slice a l.length cap]) :
    Calls Try.prog 43 #[.slice a l.length cap] w fun e w' => (∃ a cap, e = .returned (.slice a (varsL l).length cap) ∧ Own (cSlice cInt) w.heap.size w' (varsL l) [.slice a (varsL l).length cap]) ∧ Below w.heap.size w w' := by
  have H1 : Hid (∀ ww (x : Int), Below w.heap.size w ww → Calls Try.prog 42 #[.slice a l.length cap, .int .i64 x] ww fun e w' => e = .returned (.bool (l.contains x)) ∧ Below ww.heap.size ww w') :=
    fun ww x hb => containsI_c (At.below h hb (Nat.le_refl _))
  clear h
  unfold varsL
  have Hin := Lib.hid (vPart_inR l 4 (by omega))
  generalize l.length = n at *
  obtain ⟨i0, hi, hz0, hz1, hz2⟩ := info_parts Try.infoI
  go_enter Try.func43, Try.ntmps43
  have hown0 : w.ownsRow w.heap.size 3 1 (.slice none 0 0) (vPart l 0).length ((vPart l 0).map iv) := World.ownsRow_nil _ _ _ _
  go_wp2
  go_loopw [3, 5] (fun ov kv wr => ∃ (k : Nat) (o : Value), o = ov ∧ k ≤ 4 ∧ kv = .int .i64 k ∧ wr.ownsRow w.heap.size 3 1 o (vPart l k).length ((vPart l k).map iv) ∧ Below w.heap.size w wr) (fun _ kv _ => 4 - (intOf kv).toNat)
  case atStart => exact ⟨0, _, rfl, by omega, by go_num, hown0, Below.refl _ _⟩
  case round =>
    clear hown0
    obtain ⟨k, o, rfl, hk, rfl, hown, hbx⟩ := hrel
    by_cases hlt : k < 4
    · have Hs := Lib.hid (vPart_succ l k)
      have hlen := vPart_len l k
      have Hc := Lib.hid (H1.out wr (k : Int) hbx)
      generalize hcu : vPart l k = cur at *
      clear hcu
      cases hz : l.contains (k : Int) with
      | true =>
        rw [hz] at Hc Hs
        clear hz
        have Hs2 : Hid (vPart l (k + 1) = cur ++ [(k : Int)]) := by have h := Hs.out; rw [if_pos rfl] at h; exact h
        clear Hs
        go_wp2_with fail
        refine Hc.out.mono ?_
        rintro e w2 ⟨rfl, hb2⟩
        have hown2 := ownsRow_below hown hb2
        have hbx2 : Below w.heap.size w w2 := hbx.trans (hb2.mono hbx.size)
        have hownA : (w2.alloc (.cells #[.int .i64 (k : Int)] 3)).ownsRow w.heap.size 3 1 o cur.length (cur.map iv) := ownsRow_below hown2 (by go_grown)
        have hbA : Below w.heap.size w (w2.alloc (.cells #[.int .i64 (k : Int)] 3)) := hbx2.trans ((by go_grown : Below w2.heap.size w2 _).mono hbx2.size)
        clear hown hown2 hb2 Hc
        go_wp2_with (at_builtin; refine wpList_app rfl _ _ _ (by rfl) w.heap.size 3 i0 (.int .i64 0) 1 8 Try.underlying38 hi hz0 hz1 hz2 rfl (by omega) o cur.length (cur.map iv) (by rfl) hownA _ _ _ [.int .i64 (k : Int)] (by rfl) (srcs_oneV w2 _ _ rfl) ?c1 ?c2 ?c3 ?_)
        case c1 => unfold maxLen; omega
        case c2 => omega
        case c3 => exact hbA.size
        intro v1 w3 hown3 hg3 _
        have hown4 := own_pushV (w := w3) hown3
        have hb4 : Below w.heap.size w w3 := Below.grownOwn hbA hg3 hownA (Nat.le_refl _)
        clear hown3 hg3 hownA hbA
        go_wp2
        go_roundw
        case rel => exact ⟨k + 1, _, rfl, by omega, by go_num, by rw [Hs2.out]; exact hown4, hb4⟩
        case measure => simp [intOf]; omega
      | false =>
        rw [hz] at Hc Hs
        clear hz
        have Hs2 : Hid (vPart l (k + 1) = cur) := by have h := Hs.out; rw [if_neg Bool.false_ne_true] at h; exact h
        clear Hs
        go_wp2_with fail
        refine Hc.out.mono ?_
        rintro e w2 ⟨rfl, hb2⟩
        have hown2 := ownsRow_below hown hb2
        have hbx2 : Below w.heap.size w w2 := hbx.trans (hb2.mono hbx.size)
        clear hown hb2 Hc
        go_wp2
        go_roundw
        case rel => exact ⟨k + 1, _, rfl, by omega, by go_num, by rw [Hs2.out]; exact hown2, hbx2⟩
        case measure => simp [intOf]; omega
    · obtain rfl : k = 4 := by omega
      obtain ⟨oa, oc, rfl⟩ := own_formV hown
      have ho := own_ints hown Hin.out
      clear hown
      go_wp2
      go_ret
      exact ⟨⟨_, _, rfl, ho⟩, hbx⟩

theorem implAtomVariables_c {a : Option Addr} {cap : Nat} {x : Atm} {w : World} (h : At cAtm w x [.int .i64 x.rel, .slice a x.terms.length cap]) :
    Calls Try.prog 34 #[.agg #[.int .i64 x.rel, .slice a x.terms.length cap]] w fun e w' => (∃ a cap, e = .returned (.slice a (varsL x.terms).length cap) ∧ Own (cSlice cInt) w.heap.size w' (varsL x.terms) [.slice a (varsL x.terms).length cap]) ∧ Below w.heap.size w w' := by
  have h2 := (cAtm_inv h).1
  have H1 : Hid (∀ ww, Below w.heap.size w ww → Calls Try.prog 43 #[.slice a x.terms.length cap] ww fun e w' => (∃ a cap, e = .returned (.slice a (varsL x.terms).length cap) ∧ Own (cSlice cInt) ww.heap.size w' (varsL x.terms) [.slice a (varsL x.terms).length cap]) ∧ Below ww.heap.size ww w') :=
    fun ww hb => variablesOf_c (At.below (c := cSlice cInt) h2 hb (Nat.le_refl _))
  clear h h2
  obtain ⟨r, l⟩ := x
  simp only at *
  generalize varsL l = V at *
  generalize l.length = n at *
  go_enter Try.func34, Try.ntmps34
  go_wp2_with fail
  refine (H1.out _ ?hb).mono ?_
  case hb => go_grown
  rintro e w1 ⟨⟨oa, oc, rfl, ho⟩, hb1⟩
  have hbb : Below w.heap.size w w1 := Below.trans (by go_grown) (hb1.mono (by simp; try omega))
  have ho2 := Own.mono ho (by simp; try omega : w.heap.size ≤ _)
  clear ho hb1
  go_wp2
  go_ret
  exact ⟨⟨_, _, rfl, ho2⟩, hbb⟩

set_option maxHeartbeats 1600000 in
theorem specAtomVariables_c {a : Option Addr} {cap : Nat} {x : Atm} {w : World} (h : At cAtm w x [.int .i64 x.rel, .slice a x.terms.length cap]) :
    Calls Try.prog 18 #[.agg #[.int .i64 x.rel, .slice a x.terms.length cap]] w fun e w' => (∃ a cap, e = .returned (.slice a (varsL x.terms).length cap) ∧ Own (cSlice cInt) w.heap.size w' (varsL x.terms) [.slice a (varsL x.terms).length cap]) ∧ Below w.heap.size w w' := by
  have h2 := (cAtm_inv h).1
  have H1 : Hid (∀ ww (y : Int), Below w.heap.size w ww → Calls Try.prog 27 #[.slice a x.terms.length cap, .int .i64 y] ww fun e w' => e = .returned (.bool (x.terms.contains y)) ∧ Below ww.heap.size ww w') :=
    fun ww y hb => l7Has_c (At.below (c := cSlice cInt) h2 hb (Nat.le_refl _))
  clear h h2
  obtain ⟨r, l⟩ := x
  simp only at *
  unfold varsL
  have Hin := Lib.hid (vPart_inR l 4 (by omega))
  generalize l.length = n at *
  obtain ⟨i0, hi, hz0, hz1, hz2⟩ := info_parts Try.infoI
  obtain ⟨wx, hwx⟩ : ∃ wx, wx = w.alloc (Obj.cells #[.int .i64 r, .slice a n cap] 43) := ⟨_, rfl⟩
  have hb0 : Below w.heap.size w wx := by rw [hwx]; go_grown
  have hws : wx.heap.size = w.heap.size + 1 := by rw [hwx]; simp
  have p1 : wx.cell? ⟨w.heap.size, 1, none⟩ = some (.slice a n cap) := by rw [hwx]; go_simp
  have hbe : Below wx.heap.size wx (wx.alloc (Obj.cells #[] 3)) := by go_grown
  have hown0 : (wx.alloc (Obj.cells #[] 3)).ownsRow wx.heap.size 3 1 (.slice (some ⟨w.heap.size + 1, 0, none⟩) 0 0) (vPart l 0).length ((vPart l 0).map iv) := by
    rw [← hws]
    exact row_emptyV wx 3 wx.heap.size (Nat.le_refl _)
  have Hwx := Lib.hid hwx
  clear hwx hws
  obtain ⟨wy, hwy⟩ : ∃ wy, wy = wx.alloc (Obj.cells #[] 3) := ⟨_, rfl⟩
  rw [← hwy] at hbe hown0
  have Hwy := Lib.hid hwy
  clear hwy
  go_enter Try.func18, Try.ntmps18
  go_wp2
  rw [← Hwx.out, ← Hwy.out]
  clear Hwx Hwy
  go_loopw [3, 4] (fun ov kv wr => ∃ (k : Nat) (o : Value), o = ov ∧ k ≤ 4 ∧ kv = .int .i64 k ∧ wr.ownsRow wx.heap.size 3 1 o (vPart l k).length ((vPart l k).map iv) ∧ Below wx.heap.size wx wr) (fun _ kv _ => 4 - (intOf kv).toNat)
  case atStart => exact ⟨0, _, rfl, by omega, by go_num, hown0, hbe⟩
  case round =>
    clear hown0 hbe
    obtain ⟨k, o, rfl, hk, rfl, hown, hbx⟩ := hrel
    have hbw : Below w.heap.size w wr := hb0.trans (hbx.mono hb0.size)
    by_cases hlt : k < 4
    · have Hs := Lib.hid (vPart_succ l k)
      have hlen := vPart_len l k
      have Hc := Lib.hid (H1.out wr (k : Int) hbw)
      have q1 := cell_next p1 hbx
      generalize hcu : vPart l k = cur at *
      clear hcu
      cases hz : l.contains (k : Int) with
      | true =>
        rw [hz] at Hc Hs
        clear hz
        have Hs2 : Hid (vPart l (k + 1) = cur ++ [(k : Int)]) := by have h := Hs.out; rw [if_pos rfl] at h; exact h
        clear Hs
        go_wp2_with fail
        refine Hc.out.mono ?_
        rintro e w2 ⟨rfl, hb2⟩
        have hown2 := ownsRow_below hown hb2
        have hbx2 : Below wx.heap.size wx w2 := hbx.trans (hb2.mono hbx.size)
        have hownA : (w2.alloc (.cells #[.int .i64 (k : Int)] 3)).ownsRow wx.heap.size 3 1 o cur.length (cur.map iv) := ownsRow_below hown2 (by go_grown)
        have hbA : Below wx.heap.size wx (w2.alloc (.cells #[.int .i64 (k : Int)] 3)) := hbx2.trans ((by go_grown : Below w2.heap.size w2 _).mono hbx2.size)
        clear hown hown2 hb2 Hc
        go_wp2_with (at_builtin; refine wpList_app rfl _ _ _ (by rfl) wx.heap.size 3 i0 (.int .i64 0) 1 8 Try.underlying38 hi hz0 hz1 hz2 rfl (by omega) o cur.length (cur.map iv) (by rfl) hownA _ _ _ [.int .i64 (k : Int)] (by rfl) (srcs_oneV w2 _ _ rfl) ?c1 ?c2 ?c3 ?_)
        case c1 => unfold maxLen; omega
        case c2 => omega
        case c3 => exact hbA.size
        intro v1 w3 hown3 hg3 _
        have hown4 := own_pushV (w := w3) hown3
        have hb4 : Below wx.heap.size wx w3 := Below.grownOwn hbA hg3 hownA (Nat.le_refl _)
        clear hown3 hg3 hownA hbA
        go_wp2
        go_roundw
        case rel => exact ⟨k + 1, _, rfl, by omega, by go_num, by rw [Hs2.out]; exact hown4, hb4⟩
        case measure => simp [intOf]; omega
      | false =>
        rw [hz] at Hc Hs
        clear hz
        have Hs2 : Hid (vPart l (k + 1) = cur) := by have h := Hs.out; rw [if_neg Bool.false_ne_true] at h; exact h
        clear Hs
        go_wp2_with fail
        refine Hc.out.mono ?_
        rintro e w2 ⟨rfl, hb2⟩
        have hown2 := ownsRow_below hown hb2
        have hbx2 : Below wx.heap.size wx w2 := hbx.trans (hb2.mono hbx.size)
        clear hown hb2 Hc
        go_wp2
        go_roundw
        case rel => exact ⟨k + 1, _, rfl, by omega, by go_num, by rw [Hs2.out]; exact hown2, hbx2⟩
        case measure => simp [intOf]; omega
    · obtain rfl : k = 4 := by omega
      obtain ⟨oa, oc, rfl⟩ := own_formV hown
      have ho := Own.mono (own_ints hown Hin.out) hb0.size
      clear hown
      go_wp2
      go_ret
      exact ⟨⟨_, _, rfl, ho⟩, hbw⟩
end Go.Proofs.Ytlcogbmceanghaa

/- Chapter 11: KeyVariables, both sides. -/
namespace Go.Proofs.Ytlcogbmceanghaa
open Go.RowKit
set_option linter.unusedVariables false
set_option maxRecDepth 100000

/-- The length of the key of the relation at an index. -/
def keyAtV (l : List Rel) (r : Int) : Int := match l[r.toNat]? with
  | some q => q.key
  | none => 0
def keyVarsL (l : List Rel) (x : Atm) : List Int :=
  if (inB x.rel 0 ((l.length : Int) - 1) && inB (keyAtV l x.rel) 0 (x.terms.length : Int)) = true then varsL (x.terms.take (keyAtV l x.rel).toNat) else []
theorem keyVarsL_bnd (l : List Rel) (x : Atm) : (keyVarsL l x).length ≤ 4611686018427000000 := by
  unfold keyVarsL
  split
  · exact varsL_bnd _
  · simp
theorem keyAtV_at (l : List Rel) (k : Nat) (hk : k < l.length) : keyAtV l (k : Int) = l[k].key := by
  unfold keyAtV
  simp [hk]
theorem isIndexV_any (i n : Int) (w : World) :
    Calls Try.prog 40 #[.int .i64 i, .int .i64 n] w fun e w' => e = .returned (.bool (inB i 0 (n - 1))) ∧ w = w' := by
  unfold inB
  have e : decide (i ≤ n - 1) = decide (i < n) := by simp; omega
  rw [e]
  clear e
  by_cases h : 0 ≤ i
  · go_enter Try.func40, Try.ntmps40
    go_wp2
    go_ret
    exact ⟨by simp; try omega, rfl⟩
  · go_enter Try.func40, Try.ntmps40
    go_wp2
    go_ret
    exact ⟨by simp; try omega, rfl⟩

set_option maxHeartbeats 1600000 in
theorem implKeyVariables_c {a0 ax : Option Addr} {cap0 cx : Nat} {l : List Rel} {x : Atm} {w : World} (h : At (cSlice cRel) w l [.slice a0 l.length cap0]) (h1 : At cAtm w x [.int .i64 x.rel, .slice ax x.terms.length cx]) :
    Calls Try.prog 33 #[.slice a0 l.length cap0, .agg #[.int .i64 x.rel, .slice ax x.terms.length cx]] w fun e w' => (∃ a cap, e = .returned (.slice a (keyVarsL l x).length cap) ∧ Own (cSlice cInt) w.heap.size w' (keyVarsL l x) [.slice a (keyVarsL l x).length cap]) ∧ Below w.heap.size w w' := by
  have hX := (cAtm_inv h1).1
  have hcx := slice_cap hX
  have hm := (slice_len h).2
  have hmx := (slice_len hX).2
  unfold maxLen at hm hmx
  have Hr : Hid (∀ w' : World, Below w.heap.size w w' → ∀ j (hj : j < l.length), _) := fun w' hb j hj => at_Relation (Cod.ok_below h hb) j hj
  have HI : Hid (∀ ww, Calls Try.prog 40 #[.int .i64 x.rel, .int .i64 l.length] ww fun e w' => e = .returned (.bool (inB x.rel 0 ((l.length : Int) - 1))) ∧ ww = w') := fun ww => isIndexV_any _ _ _
  have Hv : Hid (∀ ww p, p ≤ x.terms.length → Below w.heap.size w ww → Calls Try.prog 43 #[.slice ax p cx] ww fun e w' => (∃ a cap, e = .returned (.slice a (varsL (x.terms.take p)).length cap) ∧ Own (cSlice cInt) ww.heap.size w' (varsL (x.terms.take p)) [.slice a (varsL (x.terms.take p)).length cap]) ∧ Below ww.heap.size ww w') := by
    intro ww p hp hb
    have h := variablesOf_c (At.below (ints_take hX p hp) hb (Nat.le_refl _))
    rw [show (x.terms.take p).length = p by simp; omega] at h
    exact h
  unfold keyVarsL
  clear h h1 hX
  obtain ⟨rx, vx⟩ := x
  simp only at *
  cases hV : inB rx 0 ((l.length : Int) - 1) with
  | false =>
    rw [hV] at HI
    rw [Bool.false_and, if_neg Bool.false_ne_true]
    clear hV Hv Hr hcx
    generalize vx.length = n at *
    generalize l.length = nl at *
    have ho : ∀ w1, Own (cSlice cInt) w.heap.size w1 [] [.slice none 0 0] := fun w1 => Own.nil _ _
    go_enter Try.func33, Try.ntmps33
    go_wp2_with fail
    refine (HI.out _).mono ?_
    rintro e w1 ⟨rfl, rfl⟩
    go_wp2
    go_ret
    exact ⟨⟨_, _, rfl, ho _⟩, by go_grown⟩
  | true =>
    rw [hV] at HI
    rw [Bool.true_and]
    have h2 : 0 ≤ rx ∧ rx ≤ (l.length : Int) - 1 := by unfold inB at hV; simpa using hV
    obtain ⟨k, rfl⟩ := Int.eq_ofNat_of_zero_le h2.1
    have hk : k < l.length := by omega
    rw [keyAtV_at l k hk]
    clear hV h2
    have HR : Hid (∀ w' : World, Below w.heap.size w w' → ∃ b off, a0 = some ⟨b, off, none⟩ ∧ w'.cell? ⟨b, off + k * 3 + 2, none⟩ = some (.int .i64 l[k].key)) := fun w' hb => by
      obtain ⟨b, off, e, _, _, _, c2, _⟩ := Hr.out w' hb k hk
      exact ⟨b, off, e, c2⟩
    clear Hr
    generalize l[k].key = q at *
    obtain ⟨n, hn⟩ : ∃ n : Nat, vx.length = n := ⟨_, rfl⟩
    rw [hn] at Hv hcx hmx ⊢
    clear hn
    generalize l.length = nl at *
    have ho : ∀ w1, Own (cSlice cInt) w.heap.size w1 [] [.slice none 0 0] := fun w1 => Own.nil _ _
    obtain ⟨wx, hwx⟩ : ∃ wx, wx = w.alloc (Obj.cells #[.int .i64 (k : Int), .slice ax n cx] 43) := ⟨_, rfl⟩
    have hb0 : Below w.heap.size w wx := by rw [hwx]; go_grown
    have p0 : wx.cell? ⟨w.heap.size, 0, none⟩ = some (.int .i64 (k : Int)) := by rw [hwx]; go_simp
    have p1 : wx.cell? ⟨w.heap.size, 1, none⟩ = some (.slice ax n cx) := by rw [hwx]; go_simp
    obtain ⟨b, off, rfl, c2⟩ := HR.out wx hb0
    have Hwx := Lib.hid hwx
    clear hwx HR
    by_cases g0 : q < 0
    · rw [if_neg (by unfold inB; simp; omega)]
      clear Hv
      go_enter Try.func33, Try.ntmps33
      go_wp2_with fail
      rw [← Hwx.out]
      clear Hwx
      refine (HI.out _).mono ?_
      rintro e w1 ⟨rfl, rfl⟩
      go_wp2
      go_ret
      exact ⟨⟨_, _, rfl, ho _⟩, hb0⟩
    · by_cases g1 : q > (n : Int)
      · rw [if_neg (by unfold inB; simp; omega)]
        clear Hv
        go_enter Try.func33, Try.ntmps33
        go_wp2_with fail
        rw [← Hwx.out]
        clear Hwx
        refine (HI.out _).mono ?_
        rintro e w1 ⟨rfl, rfl⟩
        go_wp2
        go_ret
        exact ⟨⟨_, _, rfl, ho _⟩, hb0⟩
      · rw [if_pos (by unfold inB; simp; omega)]
        obtain ⟨p, rfl⟩ := Int.eq_ofNat_of_zero_le (show 0 ≤ q by omega)
        have hp : p ≤ n := by omega
        have Hv2 : Hid (Calls Try.prog 43 #[.slice ax p cx] wx fun e w' => (∃ a cap, e = .returned (.slice a (varsL (vx.take p)).length cap) ∧ Own (cSlice cInt) wx.heap.size w' (varsL (vx.take p)) [.slice a (varsL (vx.take p)).length cap]) ∧ Below wx.heap.size wx w') := Hv.out wx p hp hb0
        rw [show ((p : Int)).toNat = p from rfl]
        clear Hv ho
        generalize varsL (vx.take p) = V at *
        have i0' : (0 : Int) ≤ (p : Int) := Int.natCast_nonneg _
        have i1' : (p : Int) ≤ (cx : Int) := by omega
        go_enter Try.func33, Try.ntmps33
        go_wp2_with fail
        rw [← Hwx.out]
        clear Hwx
        refine (HI.out _).mono ?_
        rintro e w1 ⟨rfl, rfl⟩
        go_wp2_with fail
        refine Hv2.out.mono ?_
        rintro e w2 ⟨⟨a', cap', rfl, ho⟩, hb2⟩
        go_wp2
        go_ret
        exact ⟨⟨_, _, rfl, Own.mono ho hb0.size⟩, Below.next hb0 hb2⟩

set_option maxHeartbeats 3200000 in
theorem specKeyVariables_c {a0 ax : Option Addr} {cap0 cx : Nat} {l : List Rel} {x : Atm} {w : World} (h : At (cSlice cRel) w l [.slice a0 l.length cap0]) (h1 : At cAtm w x [.int .i64 x.rel, .slice ax x.terms.length cx]) :
    Calls Try.prog 17 #[.slice a0 l.length cap0, .agg #[.int .i64 x.rel, .slice ax x.terms.length cx]] w fun e w' => (∃ a cap, e = .returned (.slice a (keyVarsL l x).length cap) ∧ Own (cSlice cInt) w.heap.size w' (keyVarsL l x) [.slice a (keyVarsL l x).length cap]) ∧ Below w.heap.size w w' := by
  have hX := (cAtm_inv h1).1
  have hcx := slice_cap hX
  have hm := (slice_len h).2
  have hmx := (slice_len hX).2
  unfold maxLen at hm hmx
  have Hr : Hid (∀ w' : World, Below w.heap.size w w' → ∀ j (hj : j < l.length), _) := fun w' hb j hj => at_Relation (Cod.ok_below h hb) j hj
  have HI : Hid (∀ ww, Calls Try.prog 15 #[.int .i64 x.rel, .int .i64 0, .int .i64 ((l.length : Int) - 1)] ww fun e w' => e = .returned (.bool (inB x.rel 0 ((l.length : Int) - 1))) ∧ Below ww.heap.size ww w') := fun ww => (l1In_any _ _ _ _).mono (by rintro e w' ⟨rfl, rfl⟩; exact ⟨rfl, Below.refl _ _⟩)
  have Hw : Hid (IntKind.i64.wrap ((l.length : Int) - 1) = (l.length : Int) - 1) := by show _ = _; rw [IntKind.wrap_i64]; omega
  have Hv : Hid (∀ ww p, p ≤ x.terms.length → Below w.heap.size w ww → Calls Try.prog 18 #[.agg #[.int .i64 0, .slice ax p cx]] ww fun e w' => (∃ a cap, e = .returned (.slice a (varsL (x.terms.take p)).length cap) ∧ Own (cSlice cInt) ww.heap.size w' (varsL (x.terms.take p)) [.slice a (varsL (x.terms.take p)).length cap]) ∧ Below ww.heap.size ww w') := by
    intro ww p hp hb
    have h3 := At.below (ints_take hX p hp) hb (Nat.le_refl _)
    have h4 : At cAtm ww ⟨0, x.terms.take p⟩ [.int .i64 0, .slice ax (x.terms.take p).length cx] := ⟨[_], [_], rfl, ⟨rfl, by show inR (0 : Int); unfold inR; omega⟩, h3⟩
    have h := specAtomVariables_c h4
    simp only at h
    rw [show (x.terms.take p).length = p by simp; omega] at h
    exact h
  unfold keyVarsL
  clear h h1 hX
  obtain ⟨rx, vx⟩ := x
  simp only at *
  obtain ⟨wx, hwx⟩ : ∃ wx, wx = w.alloc (Obj.cells #[.int .i64 rx, .slice ax vx.length cx] 43) := ⟨_, rfl⟩
  have hb0 : Below w.heap.size w wx := by rw [hwx]; go_grown
  have p0 : wx.cell? ⟨w.heap.size, 0, none⟩ = some (.int .i64 rx) := by rw [hwx]; go_simp
  have p1 : wx.cell? ⟨w.heap.size, 1, none⟩ = some (.slice ax vx.length cx) := by rw [hwx]; go_simp
  have P0 := grow_cell p0
  have P1 := grow_cell p1
  have Hwx := Lib.hid hwx
  clear hwx
  cases hV : inB rx 0 ((l.length : Int) - 1) with
  | false =>
    rw [hV] at HI
    rw [Bool.false_and, if_neg Bool.false_ne_true]
    clear hV Hv Hr hcx
    generalize vx.length = n at *
    generalize l.length = nl at *
    go_enter Try.func17, Try.ntmps17
    go_wp2_with fail
    rw [← Hwx.out]
    clear Hwx
    refine wp_region_grow (by kernel_rfl) (by kernel_rfl) ?_
    repeat (go_big_quiet_step ((go_at_call 15; (try rw [Hw.out]); exact Calls.grow fun ww h => HI.out ww)))
    refine wpQuiet_nil ?_
    rintro _ ⟨nq, rfl⟩
    have hbn : Below w.heap.size w nq.W := hb0.trans (nq.below.mono hb0.size)
    have ho : Own (cSlice cInt) w.heap.size (nq.W.alloc (Obj.cells #[] 3)) [] [.slice (some ⟨nq.W.heap.size, 0, none⟩) 0 0] := Own.mono (own_ints (l := []) (row_emptyV nq.W 3 nq.W.heap.size (Nat.le_refl _)) (by simp)) hbn.size
    go_wp2
    go_ret
    exact ⟨⟨_, _, rfl, ho⟩, hbn.trans ((by go_grown : Below nq.W.heap.size nq.W _).mono hbn.size)⟩
  | true =>
    rw [hV] at HI
    rw [Bool.true_and]
    have h2 : 0 ≤ rx ∧ rx ≤ (l.length : Int) - 1 := by unfold inB at hV; simpa using hV
    obtain ⟨k, rfl⟩ := Int.eq_ofNat_of_zero_le h2.1
    have hk : k < l.length := by omega
    rw [keyAtV_at l k hk]
    clear hV h2
    have HR : Hid (∀ w' : World, Below w.heap.size w w' → ∃ b off, a0 = some ⟨b, off, none⟩ ∧ w'.cell? ⟨b, off + k * 3 + 2, none⟩ = some (.int .i64 l[k].key)) := fun w' hb => by
      obtain ⟨b, off, e, _, _, _, c2, _⟩ := Hr.out w' hb k hk
      exact ⟨b, off, e, c2⟩
    clear Hr
    generalize l[k].key = q at *
    obtain ⟨n, hn⟩ : ∃ n : Nat, vx.length = n := ⟨_, rfl⟩
    rw [hn] at Hv hcx hmx P1 p1 Hwx ⊢
    clear hn
    have HJ : Hid (∀ ww, Calls Try.prog 15 #[.int .i64 q, .int .i64 0, .int .i64 (n : Int)] ww fun e w' => e = .returned (.bool (inB q 0 (n : Int))) ∧ Below ww.heap.size ww w') := fun ww => (l1In_any _ _ _ _).mono (by rintro e w' ⟨rfl, rfl⟩; exact ⟨rfl, Below.refl _ _⟩)
    obtain ⟨nl, hnl⟩ : ∃ n : Nat, l.length = n := ⟨_, rfl⟩
    rw [hnl] at hm HI Hw hk ⊢
    clear hnl
    have HJ1 : inB q 0 (n : Int) = true → 0 ≤ q ∧ q ≤ (n : Int) := by unfold inB; simp
    obtain ⟨b, off, rfl, c2⟩ := HR.out wx hb0
    have C2 := grow_cell c2
    clear HR
    generalize inB q 0 (n : Int) = J at *
    cases J with
    | false =>
      rw [if_neg Bool.false_ne_true]
      clear HJ1 Hv p0 p1 c2
      go_enter Try.func17, Try.ntmps17
      go_wp2_with fail
      rw [← Hwx.out]
      clear Hwx
      refine wp_region_grow (by kernel_rfl) (by kernel_rfl) ?_
      repeat (go_big_quiet_step (first | (go_at_call_of 15 (Value.int .i64 q); exact Calls.grow fun ww h => HJ.out ww) | (go_at_call_of 15 (Value.int .i64 (k : Int)); (try rw [Hw.out]); exact Calls.grow fun ww h => HI.out ww)))
      refine wpQuiet_nil ?_
      rintro _ ⟨nq, rfl⟩
      have hbn : Below w.heap.size w nq.W := hb0.trans (nq.below.mono hb0.size)
      have ho : Own (cSlice cInt) w.heap.size (nq.W.alloc (Obj.cells #[] 3)) [] [.slice (some ⟨nq.W.heap.size, 0, none⟩) 0 0] := Own.mono (own_ints (l := []) (row_emptyV nq.W 3 nq.W.heap.size (Nat.le_refl _)) (by simp)) hbn.size
      go_wp2
      go_ret
      exact ⟨⟨_, _, rfl, ho⟩, hbn.trans ((by go_grown : Below nq.W.heap.size nq.W _).mono hbn.size)⟩
    | true =>
      rw [if_pos rfl]
      obtain ⟨hq0, hq1⟩ := HJ1 rfl
      clear HJ1
      obtain ⟨p, rfl⟩ := Int.eq_ofNat_of_zero_le hq0
      have hp : p ≤ n := by omega
      have Hv2 : Hid (∀ ww, Below w.heap.size w ww → Calls Try.prog 18 #[.agg #[.int .i64 0, .slice ax p cx]] ww fun e w' => (∃ a cap, e = .returned (.slice a (varsL (vx.take p)).length cap) ∧ Own (cSlice cInt) ww.heap.size w' (varsL (vx.take p)) [.slice a (varsL (vx.take p)).length cap]) ∧ Below ww.heap.size ww w') := fun ww hb => Hv.out ww p hp hb
      rw [show ((p : Int)).toNat = p from rfl]
      clear Hv
      generalize varsL (vx.take p) = V at *
      have i0' : (0 : Int) ≤ (p : Int) := Int.natCast_nonneg _
      have i1' : (p : Int) ≤ (cx : Int) := by omega
      have k0' : (0 : Int) ≤ (k : Int) := Int.natCast_nonneg _
      have k1' : (k : Int) < (nl : Int) := by omega
      go_enter Try.func17, Try.ntmps17
      go_wp2_with fail
      rw [← Hwx.out]
      clear Hwx
      refine wp_region_grow (by kernel_rfl) (by kernel_rfl) ?_
      repeat (go_big_quiet_step (first | (go_at_call_of 15 (Value.int .i64 (p : Int)); exact Calls.grow fun ww h => HJ.out ww) | (go_at_call_of 15 (Value.int .i64 (k : Int)); (try rw [Hw.out]); exact Calls.grow fun ww h => HI.out ww)))
      refine wpQuiet_nil ?_
      rintro _ ⟨nq, rfl⟩
      have hbn : Below w.heap.size w nq.W := hb0.trans (nq.below.mono hb0.size)
      replace p0 := P0 nq
      replace p1 := P1 nq
      replace c2 := C2 nq
      clear P0 P1 C2 hb0 HI HJ Hw
      generalize nq.W = w1 at *
      go_wp2_with fail
      go_region_held3 (fun w' => w'.cell? ⟨w.heap.size, 0, none⟩ = some (.int .i64 (k : Int)) ∧ w'.cell? ⟨w.heap.size, 1, none⟩ = some (.slice ax n cx) ∧ w'.cell? ⟨b, off + k * 3 + 2, none⟩ = some (.int .i64 (p : Int)))
        (first | go_keep | (go_split_ands; exact ⟨cell_next p0 hb2, cell_next p1 hb2, cell_next c2 hb2⟩))
        ((go_at_call 18; refine (Hv2.out _ (by first | exact hbn | exact hbn.drew | exact Below.drewN' hbn _)).mono ?_; rintro e w2 ⟨⟨a', cap', rfl, ho⟩, hb2⟩))
      go_wp2
      go_ret
      exact ⟨⟨_, _, rfl, Own.mono ho (by simpa using hbn.size)⟩, Below.next hbn hb2⟩
end Go.Proofs.Ytlcogbmceanghaa


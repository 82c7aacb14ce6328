/- Chapter 11: KeyVariables, both sides. -/
import Derived.Test.YtioofopbidgpeaaVar
import Derived.Test.YtioofopbidgpeaaTyC
import Derived.Test.YtioofopbidgpeaaEq
import Derived.Test.YtioofopbidgpeaaGrow
import Derived.Test.YtioofopbidgpeaaIn
import Derived.Deep.RegionHeld3
namespace Go.Proofs.Ytioofopbidgpeaa
open Go.RowKit
set_option linter.unusedVariables false
set_option maxRecDepth 100000

/-- The length of the key of the relation at an index. -/
def keyAtV (l : List Rel) (r : Int) : Int := match l[r.toNat]? with
  | some q => q.key
  | none => 0
def keyVarsL (l : List Rel) (x : Atm) : List Int :=
  if (inB x.rel 0 ((l.length : Int) - 1) && inB (keyAtV l x.rel) 0 (x.terms.length : Int)) = true then varsL (x.terms.take (keyAtV l x.rel).toNat) else []
theorem keyVarsL_bnd (l : List Rel) (x : Atm) : (keyVarsL l x).length ≤ 4611686018427000000 := by
  unfold keyVarsL
  split
  · exact varsL_bnd _
  · simp
theorem keyAtV_at (l : List Rel) (k : Nat) (hk : k < l.length) : keyAtV l (k : Int) = l[k].key := by
  unfold keyAtV
  simp [hk]
theorem isIndexV_any (i n : Int) (w : World) :
    Calls Try.prog 48 #[.int .i64 i, .int .i64 n] w fun e w' => e = .returned (.bool (inB i 0 (n - 1))) ∧ w = w' := by
  unfold inB
  have e : decide (i ≤ n - 1) = decide (i < n) := by simp; omega
  rw [e]
  clear e
  by_cases h : 0 ≤ i
  · go_enter Try.func48, Try.ntmps48
    go_wp2
    go_ret
    exact ⟨by simp; try omega, rfl⟩
  · go_enter Try.func48, Try.ntmps48
    go_wp2
    go_ret
    exact ⟨by simp; try omega, rfl⟩

set_option maxHeartbeats 1600000 in
theorem implKeyVariables_c {a0 ax : Option Addr} {cap0 cx : Nat} {l : List Rel} {x : Atm} {w : World} (h : At (cSlice cRel) w l [.slice a0 l.length cap0]) (h1 : At cAtm w x [.int .i64 x.rel, .slice ax x.terms.length cx]) :
    Calls Try.prog 24 #[.slice a0 l.length cap0, .agg #[.int .i64 x.rel, .slice ax x.terms.length cx]] w fun e w' => (∃ a cap, e = .returned (.slice a (keyVarsL l x).length cap) ∧ Own (cSlice cInt) w.heap.size w' (keyVarsL l x) [.slice a (keyVarsL l x).length cap]) ∧ Below w.heap.size w w' := by
  have hX := (cAtm_inv h1).1
  have hcx := slice_cap hX
  have hm := (slice_len h).2
  have hmx := (slice_len hX).2
  unfold maxLen at hm hmx
  have Hr : Hid (∀ w' : World, Below w.heap.size w w' → ∀ j (hj : j < l.length), _) := fun w' hb j hj => at_Relation (Cod.ok_below h hb) j hj
  have HI : Hid (∀ ww, Calls Try.prog 48 #[.int .i64 x.rel, .int .i64 l.length] ww fun e w' => e = .returned (.bool (inB x.rel 0 ((l.length : Int) - 1))) ∧ ww = w') := fun ww => isIndexV_any _ _ _
  have Hv : Hid (∀ ww p, p ≤ x.terms.length → Below w.heap.size w ww → Calls Try.prog 49 #[.slice ax p cx] ww fun e w' => (∃ a cap, e = .returned (.slice a (varsL (x.terms.take p)).length cap) ∧ Own (cSlice cInt) ww.heap.size w' (varsL (x.terms.take p)) [.slice a (varsL (x.terms.take p)).length cap]) ∧ Below ww.heap.size ww w') := by
    intro ww p hp hb
    have h := variablesOf_c (At.below (ints_take hX p hp) hb (Nat.le_refl _))
    rw [show (x.terms.take p).length = p by simp; omega] at h
    exact h
  unfold keyVarsL
  clear h h1 hX
  obtain ⟨rx, vx⟩ := x
  simp only at *
  cases hV : inB rx 0 ((l.length : Int) - 1) with
  | false =>
    rw [hV] at HI
    rw [Bool.false_and, if_neg Bool.false_ne_true]
    clear hV Hv Hr hcx
    generalize vx.length = n at *
    generalize l.length = nl at *
    have ho : ∀ w1, Own (cSlice cInt) w.heap.size w1 [] [.slice none 0 0] := fun w1 => Own.nil _ _
    go_enter Try.func24, Try.ntmps24
    go_wp2_with fail
    refine (HI.out _).mono ?_
    rintro e w1 ⟨rfl, rfl⟩
    go_wp2
    go_ret
    exact ⟨⟨_, _, rfl, ho _⟩, by go_grown⟩
  | true =>
    rw [hV] at HI
    rw [Bool.true_and]
    have h2 : 0 ≤ rx ∧ rx ≤ (l.length : Int) - 1 := by unfold inB at hV; simpa using hV
    obtain ⟨k, rfl⟩ := Int.eq_ofNat_of_zero_le h2.1
    have hk : k < l.length := by omega
    rw [keyAtV_at l k hk]
    clear hV h2
    have HR : Hid (∀ w' : World, Below w.heap.size w w' → ∃ b off, a0 = some ⟨b, off, none⟩ ∧ w'.cell? ⟨b, off + k * 3 + 2, none⟩ = some (.int .i64 l[k].key)) := fun w' hb => by
      obtain ⟨b, off, e, _, _, _, c2, _⟩ := Hr.out w' hb k hk
      exact ⟨b, off, e, c2⟩
    clear Hr
    generalize l[k].key = q at *
    obtain ⟨n, hn⟩ : ∃ n : Nat, vx.length = n := ⟨_, rfl⟩
    rw [hn] at Hv hcx hmx ⊢
    clear hn
    generalize l.length = nl at *
    have ho : ∀ w1, Own (cSlice cInt) w.heap.size w1 [] [.slice none 0 0] := fun w1 => Own.nil _ _
    obtain ⟨wx, hwx⟩ : ∃ wx, wx = w.alloc (Obj.cells #[.int .i64 (k : Int), .slice ax n cx] 46) := ⟨_, rfl⟩
    have hb0 : Below w.heap.size w wx := by rw [hwx]; go_grown
    have p0 : wx.cell? ⟨w.heap.size, 0, none⟩ = some (.int .i64 (k : Int)) := by rw [hwx]; go_simp
    have p1 : wx.cell? ⟨w.heap.size, 1, none⟩ = some (.slice ax n cx) := by rw [hwx]; go_simp
    obtain ⟨b, off, rfl, c2⟩ := HR.out wx hb0
    have Hwx := Lib.hid hwx
    clear hwx HR
    by_cases g0 : q < 0
    · rw [if_neg (by unfold inB; simp; omega)]
      clear Hv
      go_enter Try.func24, Try.ntmps24
      go_wp2_with fail
      rw [← Hwx.out]
      clear Hwx
      refine (HI.out _).mono ?_
      rintro e w1 ⟨rfl, rfl⟩
      go_wp2
      go_ret
      exact ⟨⟨_, _, rfl, ho _⟩, hb0⟩
    · by_cases g1 : q > (n : Int)
      · rw [if_neg (by unfold inB; simp; omega)]
        clear Hv
        go_enter Try.func24, Try.ntmps24
        go_wp2_with fail
        rw [← Hwx.out]
        clear Hwx
        refine (HI.out _).mono ?_
        rintro e w1 ⟨rfl, rfl⟩
        go_wp2
        go_ret
        exact ⟨⟨_, _, rfl, ho _⟩, hb0⟩
      · rw [if_pos (by unfold inB; simp; omega)]
        obtain ⟨p, rfl⟩ := Int.eq_ofNat_of_zero_le (show 0 ≤ q by omega)
        have hp : p ≤ n := by omega
        have Hv2 : Hid (Calls Try.prog 49 #[.slice ax p cx] wx fun e w' => (∃ a cap, e = .returned (.slice a (varsL (vx.take p)).length cap) ∧ Own (cSlice cInt) wx.heap.size w' (varsL (vx.take p)) [.slice a (varsL (vx.take p)).length cap]) ∧ Below wx.heap.size wx w') := Hv.out wx p hp hb0
        rw [show ((p : Int)).toNat = p from rfl]
        clear Hv ho
        generalize varsL (vx.take p) = V at *
        have i0' : (0 : Int) ≤ (p : Int) := Int.natCast_nonneg _
        have i1' : (p : Int) ≤ (cx : Int) := by omega
        go_enter Try.func24, Try.ntmps24
        go_wp2_with fail
        rw [← Hwx.out]
        clear Hwx
        refine (HI.out _).mono ?_
        rintro e w1 ⟨rfl, rfl⟩
        go_wp2_with fail
        refine Hv2.out.mono ?_
        rintro e w2 ⟨⟨a', cap', rfl, ho⟩, hb2⟩
        go_wp2
        go_ret
        exact ⟨⟨_, _, rfl, Own.mono ho hb0.size⟩, Below.next hb0 hb2⟩

set_option maxHeartbeats 3200000 in
theorem specKeyVariables_c {a0 ax : Option Addr} {cap0 cx : Nat} {l : List Rel} {x : Atm} {w : World} (h : At (cSlice cRel) w l [.slice a0 l.length cap0]) (h1 : At cAtm w x [.int .i64 x.rel, .slice ax x.terms.length cx]) :
    Calls Try.prog 21 #[.slice a0 l.length cap0, .agg #[.int .i64 x.rel, .slice ax x.terms.length cx]] w fun e w' => (∃ a cap, e = .returned (.slice a (keyVarsL l x).length cap) ∧ Own (cSlice cInt) w.heap.size w' (keyVarsL l x) [.slice a (keyVarsL l x).length cap]) ∧ Below w.heap.size w w' := by
  have hX := (cAtm_inv h1).1
  have hcx := slice_cap hX
  have hm := (slice_len h).2
  have hmx := (slice_len hX).2
  unfold maxLen at hm hmx
  have Hr : Hid (∀ w' : World, Below w.heap.size w w' → ∀ j (hj : j < l.length), _) := fun w' hb j hj => at_Relation (Cod.ok_below h hb) j hj
  have HI : Hid (∀ ww, Calls Try.prog 46 #[.int .i64 x.rel, .int .i64 0, .int .i64 ((l.length : Int) - 1)] ww fun e w' => e = .returned (.bool (inB x.rel 0 ((l.length : Int) - 1))) ∧ Below ww.heap.size ww w') := fun ww => (l1In_any _ _ _ _).mono (by rintro e w' ⟨rfl, rfl⟩; exact ⟨rfl, Below.refl _ _⟩)
  have Hw : Hid (IntKind.i64.wrap ((l.length : Int) - 1) = (l.length : Int) - 1) := by show _ = _; rw [IntKind.wrap_i64]; omega
  have Hv : Hid (∀ ww p, p ≤ x.terms.length → Below w.heap.size w ww → Calls Try.prog 31 #[.agg #[.int .i64 0, .slice ax p cx]] ww fun e w' => (∃ a cap, e = .returned (.slice a (varsL (x.terms.take p)).length cap) ∧ Own (cSlice cInt) ww.heap.size w' (varsL (x.terms.take p)) [.slice a (varsL (x.terms.take p)).length cap]) ∧ Below ww.heap.size ww w') := by
    intro ww p hp hb
    have h3 := At.below (ints_take hX p hp) hb (Nat.le_refl _)
    have h4 : At cAtm ww ⟨0, x.terms.take p⟩ [.int .i64 0, .slice ax (x.terms.take p).length cx] := ⟨[_], [_], rfl, ⟨rfl, by show inR (0 : Int); unfold inR; omega⟩, h3⟩
    have h := specAtomVariables_c h4
    simp only at h
    rw [show (x.terms.take p).length = p by simp; omega] at h
    exact h
  unfold keyVarsL
  clear h h1 hX
  obtain ⟨rx, vx⟩ := x
  simp only at *
  obtain ⟨wx, hwx⟩ : ∃ wx, wx = w.alloc (Obj.cells #[.int .i64 rx, .slice ax vx.length cx] 46) := ⟨_, rfl⟩
  have hb0 : Below w.heap.size w wx := by rw [hwx]; go_grown
  have p0 : wx.cell? ⟨w.heap.size, 0, none⟩ = some (.int .i64 rx) := by rw [hwx]; go_simp
  have p1 : wx.cell? ⟨w.heap.size, 1, none⟩ = some (.slice ax vx.length cx) := by rw [hwx]; go_simp
  have P0 := grow_cell p0
  have P1 := grow_cell p1
  have Hwx := Lib.hid hwx
  clear hwx
  cases hV : inB rx 0 ((l.length : Int) - 1) with
  | false =>
    rw [hV] at HI
    rw [Bool.false_and, if_neg Bool.false_ne_true]
    clear hV Hv Hr hcx
    generalize vx.length = n at *
    generalize l.length = nl at *
    go_enter Try.func21, Try.ntmps21
    go_wp2_with fail
    rw [← Hwx.out]
    clear Hwx
    refine wp_region_grow (by kernel_rfl) (by kernel_rfl) ?_
    repeat (go_big_quiet_step ((go_at_call 46; (try rw [Hw.out]); exact Calls.grow fun ww h => HI.out ww)))
    refine wpQuiet_nil ?_
    rintro _ ⟨nq, rfl⟩
    have hbn : Below w.heap.size w nq.W := hb0.trans (nq.below.mono hb0.size)
    have ho : Own (cSlice cInt) w.heap.size (nq.W.alloc (Obj.cells #[] 3)) [] [.slice (some ⟨nq.W.heap.size, 0, none⟩) 0 0] := Own.mono (own_ints (l := []) (row_emptyV nq.W 3 nq.W.heap.size (Nat.le_refl _)) (by simp)) hbn.size
    go_wp2
    go_ret
    exact ⟨⟨_, _, rfl, ho⟩, hbn.trans ((by go_grown : Below nq.W.heap.size nq.W _).mono hbn.size)⟩
  | true =>
    rw [hV] at HI
    rw [Bool.true_and]
    have h2 : 0 ≤ rx ∧ rx ≤ (l.length : Int) - 1 := by unfold inB at hV; simpa using hV
    obtain ⟨k, rfl⟩ := Int.eq_ofNat_of_zero_le h2.1
    have hk : k < l.length := by omega
    rw [keyAtV_at l k hk]
    clear hV h2
    have HR : Hid (∀ w' : World, Below w.heap.size w w' → ∃ b off, a0 = some ⟨b, off, none⟩ ∧ w'.cell? ⟨b, off + k * 3 + 2, none⟩ = some (.int .i64 l[k].key)) := fun w' hb => by
      obtain ⟨b, off, e, _, _, _, c2, _⟩ := Hr.out w' hb k hk
      exact ⟨b, off, e, c2⟩
    clear Hr
    generalize l[k].key = q at *
    obtain ⟨n, hn⟩ : ∃ n : Nat, vx.length = n := ⟨_, rfl⟩
    rw [hn] at Hv hcx hmx P1 p1 Hwx ⊢
    clear hn
    have HJ : Hid (∀ ww, Calls Try.prog 46 #[.int .i64 q, .int .i64 0, .int .i64 (n : Int)] ww fun e w' => e = .returned (.bool (inB q 0 (n : Int))) ∧ Below ww.heap.size ww w') := fun ww => (l1In_any _ _ _ _).mono (by rintro e w' ⟨rfl, rfl⟩; exact ⟨rfl, Below.refl _ _⟩)
    obtain ⟨nl, hnl⟩ : ∃ n : Nat, l.length = n := ⟨_, rfl⟩
    rw [hnl] at hm HI Hw hk ⊢
    clear hnl
    have HJ1 : inB q 0 (n : Int) = true → 0 ≤ q ∧ q ≤ (n : Int) := by unfold inB; simp
    obtain ⟨b, off, rfl, c2⟩ := HR.out wx hb0
    have C2 := grow_cell c2
    clear HR
    generalize inB q 0 (n : Int) = J at *
    cases J with
    | false =>
      rw [if_neg Bool.false_ne_true]
      clear HJ1 Hv p0 p1 c2
      go_enter Try.func21, Try.ntmps21
      go_wp2_with fail
      rw [← Hwx.out]
      clear Hwx
      refine wp_region_grow (by kernel_rfl) (by kernel_rfl) ?_
      repeat (go_big_quiet_step (first | (go_at_call_of 46 (Value.int .i64 q); exact Calls.grow fun ww h => HJ.out ww) | (go_at_call_of 46 (Value.int .i64 (k : Int)); (try rw [Hw.out]); exact Calls.grow fun ww h => HI.out ww)))
      refine wpQuiet_nil ?_
      rintro _ ⟨nq, rfl⟩
      have hbn : Below w.heap.size w nq.W := hb0.trans (nq.below.mono hb0.size)
      have ho : Own (cSlice cInt) w.heap.size (nq.W.alloc (Obj.cells #[] 3)) [] [.slice (some ⟨nq.W.heap.size, 0, none⟩) 0 0] := Own.mono (own_ints (l := []) (row_emptyV nq.W 3 nq.W.heap.size (Nat.le_refl _)) (by simp)) hbn.size
      go_wp2
      go_ret
      exact ⟨⟨_, _, rfl, ho⟩, hbn.trans ((by go_grown : Below nq.W.heap.size nq.W _).mono hbn.size)⟩
    | true =>
      rw [if_pos rfl]
      obtain ⟨hq0, hq1⟩ := HJ1 rfl
      clear HJ1
      obtain ⟨p, rfl⟩ := Int.eq_ofNat_of_zero_le hq0
      have hp : p ≤ n := by omega
      have Hv2 : Hid (∀ ww, Below w.heap.size w ww → Calls Try.prog 31 #[.agg #[.int .i64 0, .slice ax p cx]] ww fun e w' => (∃ a cap, e = .returned (.slice a (varsL (vx.take p)).length cap) ∧ Own (cSlice cInt) ww.heap.size w' (varsL (vx.take p)) [.slice a (varsL (vx.take p)).length cap]) ∧ Below ww.heap.size ww w') := fun ww hb => Hv.out ww p hp hb
      rw [show ((p : Int)).toNat = p from rfl]
      clear Hv
      generalize varsL (vx.take p) = V at *
      have i0' : (0 : Int) ≤ (p : Int) := Int.natCast_nonneg _
      have i1' : (p : Int) ≤ (cx : Int) := by omega
      have k0' : (0 : Int) ≤ (k : Int) := Int.natCast_nonneg _
      have k1' : (k : Int) < (nl : Int) := by omega
      go_enter Try.func21, Try.ntmps21
      go_wp2_with fail
      rw [← Hwx.out]
      clear Hwx
      refine wp_region_grow (by kernel_rfl) (by kernel_rfl) ?_
      repeat (go_big_quiet_step (first | (go_at_call_of 46 (Value.int .i64 (p : Int)); exact Calls.grow fun ww h => HJ.out ww) | (go_at_call_of 46 (Value.int .i64 (k : Int)); (try rw [Hw.out]); exact Calls.grow fun ww h => HI.out ww)))
      refine wpQuiet_nil ?_
      rintro _ ⟨nq, rfl⟩
      have hbn : Below w.heap.size w nq.W := hb0.trans (nq.below.mono hb0.size)
      replace p0 := P0 nq
      replace p1 := P1 nq
      replace c2 := C2 nq
      clear P0 P1 C2 hb0 HI HJ Hw
      generalize nq.W = w1 at *
      go_wp2_with fail
      go_region_held3 (fun w' => w'.cell? ⟨w.heap.size, 0, none⟩ = some (.int .i64 (k : Int)) ∧ w'.cell? ⟨w.heap.size, 1, none⟩ = some (.slice ax n cx) ∧ w'.cell? ⟨b, off + k * 3 + 2, none⟩ = some (.int .i64 (p : Int)))
        (first | go_keep | (go_split_ands; exact ⟨cell_next p0 hb2, cell_next p1 hb2, cell_next c2 hb2⟩))
        ((go_at_call 31; refine (Hv2.out _ (by first | exact hbn | exact hbn.drew | exact Below.drewN' hbn _)).mono ?_; rintro e w2 ⟨⟨a', cap', rfl, ho⟩, hb2⟩))
      go_wp2
      go_ret
      exact ⟨⟨_, _, rfl, Own.mono ho (by simpa using hbn.size)⟩, Below.next hbn hb2⟩
end Go.Proofs.Ytioofopbidgpeaa


/- Chapter 3: keys: KeyOf and HaveSameKey, the program's side. -/
import Derived.Test.YtknnnebjjjldpaaEq
import Derived.Test.YtknnnebjjjldpaaApp
import Derived.StillTailTactics
namespace Go.Proofs.Ytknnnebjjjldpaa
open Go.RowKit
set_option linter.unusedVariables false
set_option maxRecDepth 100000

/-- The key's length of a relation, by its place. -/
def keyN (l : List Rel) (r : Int) : Nat := match l[r.toNat]? with | some q => q.key.toNat | none => 0
theorem validRels_all {l : List Rel} (h : validRels l = true) (k : Nat) (hk : k < l.length) : validRel l[k] = true := by
  unfold validRels at h
  rw [ascFrom_split] at h
  simp only [Bool.and_eq_true] at h
  exact List.all_eq_true.1 h.1.1 _ (List.getElem_mem hk)
theorem validRels_len {l : List Rel} (h : validRels l = true) : l.length ≤ 4 := by
  unfold validRels at h
  simp only [Bool.and_eq_true, decide_eq_true_eq] at h
  exact h.2
/-- A valid fact: its relation is there, the key is no longer than the values. -/
theorem validFact_key {l : List Rel} {x : Fct} (h : validFact l x = true) : ∃ (k p : Nat) (hk : k < l.length), x.rel = (k : Int) ∧ l[k].key = (p : Int) ∧ p ≤ x.vals.length ∧ x.vals.length ≤ 3 ∧ keyN l (k : Int) = p ∧ l[k].arity = (x.vals.length : Int) := by
  unfold validFact inB at h
  simp only [Bool.and_eq_true, decide_eq_true_eq] at h
  obtain ⟨h1, ⟨h2, h3⟩, h4, h5⟩ := h
  obtain ⟨k, hk0⟩ := Int.eq_ofNat_of_zero_le h2
  have hk : k < l.length := by omega
  have hv := validRels_all h1 k hk
  unfold validRel inB at hv
  simp only [Bool.and_eq_true, decide_eq_true_eq] at hv
  obtain ⟨_, ⟨h6, h7⟩, h8, h9⟩ := hv
  have har : arityAt l x.rel = l[k].arity := by unfold arityAt; rw [hk0]; simp [hk]
  rw [har] at h4
  obtain ⟨p, hp⟩ := Int.eq_ofNat_of_zero_le h8
  refine ⟨k, p, hk, hk0, hp, by omega, by omega, ?_, h4.symm⟩
  unfold keyN
  simp [hk, hp]
/-- Two facts of one relation, with one key. -/
def sameKey (l : List Rel) (x y : Fct) : Bool := decide (x.rel = y.rel) && decide (x.vals.take (keyN l x.rel) = y.vals.take (keyN l x.rel))
/-- The key's values of a fact. -/
def keyVals (l : List Rel) (x : Fct) : List Int := if validFact l x then x.vals.take (keyN l x.rel) else []

set_option maxHeartbeats 1600000 in
theorem agreeOnKey_c {a0 ax ay : Option Addr} {cap0 cx cy : Nat} {l : List Rel} {x y : Fct} {w : World} (h : At (cSlice cRel) w l [.slice a0 l.length cap0]) (h1 : At cFct w x [.int .i64 x.rel, .slice ax x.vals.length cx]) (h2 : At cFct w y [.int .i64 y.rel, .slice ay y.vals.length cy])
    (hx : validFact l x = true) (hy : validFact l y = true) :
    Calls Try.prog 132 #[.slice a0 l.length cap0, .agg #[.int .i64 x.rel, .slice ax x.vals.length cx], .agg #[.int .i64 y.rel, .slice ay y.vals.length cy]] w fun e w' => e = .returned (.bool (sameKey l x y)) ∧ Below w.heap.size w w' := by
  have hX := (cFct_inv h1).1
  have hY := (cFct_inv h2).1
  have hcx := slice_cap hX
  have hcy := slice_cap hY
  have Hr : Hid (∀ w' : World, Below w.heap.size w w' → ∀ j (hj : j < l.length), _) := fun w' hb j hj => at_Relation (Cod.ok_below h hb) j hj
  obtain ⟨k, p, hk, hrx, hkey, hpl, hl3, hkn, ha1⟩ := validFact_key hx
  obtain ⟨k', p', hk', hry, hkey', hpl', hl3', hkn', ha2⟩ := validFact_key hy
  unfold sameKey
  obtain ⟨rx, vx⟩ := x
  obtain ⟨ry, vy⟩ := y
  simp only at *
  by_cases hrr : rx = ry
  · subst hrr
    obtain rfl : k = k' := by omega
    obtain rfl : p = p' := by omega
    subst hrx
    have He : Hid (∀ ww, Below w.heap.size w ww → Calls Try.prog 112 #[.slice ax p cx, .slice ay p cy] ww fun e w' => e = .returned (.bool (decide (vx.take p = vy.take p))) ∧ Below ww.heap.size ww w') := by
      intro ww hb
      have h := slicesEqualInt_c (At.below (ints_take hX p hpl) hb (Nat.le_refl _)) (At.below (ints_take hY p hpl') hb (Nat.le_refl _))
      rw [show (vx.take p).length = p by simp; omega, show (vy.take p).length = p by simp; omega] at h
      exact h
    rw [hkn, decide_eq_true rfl, Bool.true_and]
    generalize decide (vx.take p = vy.take p) = B at *
    obtain ⟨n, hn⟩ : ∃ n : Nat, vx.length = n := ⟨_, rfl⟩
    obtain ⟨m, hm⟩ : ∃ n : Nat, vy.length = n := ⟨_, rfl⟩
    obtain ⟨nl, hnl⟩ : ∃ n : Nat, l.length = n := ⟨_, rfl⟩
    have hkl := hk
    rw [hnl] at hkl ⊢
    rw [hn] at hcx hpl hl3 ⊢
    rw [hm] at hcy hpl' hl3' ⊢
    have Hk := Lib.hid hkey
    have HK : Hid (k < l.length) := hk
    clear hx hy h h1 h2 hX hY hkn hkn' hry ha1 ha2 hkey hkey' hn hm hnl hk'
    obtain ⟨wx, hwx⟩ : ∃ wx, wx = (w.alloc (Obj.cells #[.int .i64 (k : Int), .slice ax n cx] 124)).alloc (Obj.cells #[.int .i64 (k : Int), .slice ay m cy] 124) := ⟨_, rfl⟩
    have hb0 : Below w.heap.size w wx := by rw [hwx]; go_grown
    have p0 : wx.cell? ⟨w.heap.size, 0, none⟩ = some (.int .i64 (k : Int)) := by rw [hwx]; go_simp
    have p1 : wx.cell? ⟨w.heap.size, 1, none⟩ = some (.slice ax n cx) := by rw [hwx]; go_simp
    have r0 : wx.cell? ⟨w.heap.size + 1, 0, none⟩ = some (.int .i64 (k : Int)) := by rw [hwx]; go_simp
    have r1 : wx.cell? ⟨w.heap.size + 1, 1, none⟩ = some (.slice ay m cy) := by rw [hwx]; go_simp
    obtain ⟨b, off, rfl, hbB, c0, c1, c2, hx⟩ := Hr.out _ (Below.refl _ _) k HK.out
    rw [Hk.out] at c2
    clear c0 c1 hx Hk HK Hr
    have Hwx := Lib.hid hwx
    clear hwx
    have P1 := grow_cell p1
    have R1 := grow_cell r1
    go_enter Try.func132, Try.ntmps132
    go_wp2_with fail
    rw [← Hwx.out]
    refine wp_region_grow (by kernel_rfl) (by kernel_rfl) ?_
    repeat (go_big_quiet_step ((go_at_call 112; exact Calls.grow fun ww h => He.out ww (hb0.trans (h.mono hb0.size)))))
    refine wpQuiet_nil ?_
    rintro _ ⟨nq, rfl⟩
    go_wp2
    go_ret
    exact ⟨rfl, hb0.trans (nq.below.mono hb0.size)⟩
  · rw [decide_eq_false hrr, Bool.false_and]
    have hne : (rx != ry) = true := by simp [hrr]
    clear hx hy h h1 h2 hX hY hkn hkn' hrx hry ha1 ha2 hkey hkey' Hr hrr
    go_enter Try.func132, Try.ntmps132
    go_wp2
    go_ret
    exact ⟨rfl, by go_grown⟩

/-- HaveSameKey's answer. -/
def haveKey (l : List Rel) (x y : Fct) : Bool := validFact l x && (validFact l y && sameKey l x y)
end Go.Proofs.Ytknnnebjjjldpaa

/- KeyOne: Eq Key Ord DbSpec DbImpl. -/
import Derived.Test.YtpofglamcaikfaaRelOne
import Derived.Test.YtpofglamcaikfaaApp
import Derived.StillTailTactics
/- Go's slices.Equal on numbers; the first numbers of a slice. -/
namespace Go.Proofs.Ytpofglamcaikfaa
open Go.RowKit
set_option linter.unusedVariables false
set_option maxRecDepth 100000

/-- The first k numbers of a slice. -/
theorem ints_take {B : Nat} {w : World} {l : List Int} {a : Option Addr} {len cap : Nat} (h : (cSlice cInt).ok B w l [.slice a len cap]) (k : Nat) (hk : k ≤ l.length) :
    (cSlice cInt).ok B w (l.take k) [.slice a (l.take k).length cap] := by
  obtain ⟨a', cap', e, hm, h⟩ := h
  simp at e
  obtain ⟨rfl, rfl, rfl⟩ := e
  have hl : (l.take k).length = k := by simp; omega
  refine ⟨a, cap, rfl, ⟨by omega, by omega⟩, fun j hj => ?_⟩
  obtain ⟨b, off, es, he, hb, hc, hi⟩ := h j (by omega)
  exact ⟨b, off, es, he, hb, by simpa using hc, hi⟩

set_option maxHeartbeats 800000 in
theorem slicesEqualInt_c {a a' : Option Addr} {cap cap' : Nat} {l m : List Int} {w : World} (h : At (cSlice cInt) w l [.slice a l.length cap]) (h' : At (cSlice cInt) w m [.slice a' m.length cap']) :
    Calls Try.prog 45 #[.slice a l.length cap, .slice a' m.length cap'] w fun e w' => e = .returned (.bool (decide (l = m))) ∧ Below w.heap.size w w' := by
  have hm := (slice_len h).2
  have hm' := (slice_len h').2
  unfold maxLen at hm hm'
  by_cases hne : l.length = m.length
  · obtain ⟨n, hn⟩ : ∃ n : Nat, l.length = n := ⟨_, rfl⟩
    have Hr : Hid (∀ w' : World, Below w.heap.size w w' → ∀ j (hj : j < l.length), ∃ b off, a = some ⟨b, off, none⟩ ∧ b < w.heap.size ∧ w'.cell? ⟨b, off + j, none⟩ = some (.int .i64 l[j])) := fun w' hb j hj => ints_at (Cod.ok_below h hb) j hj
    have Hr' : Hid (∀ w' : World, Below w.heap.size w w' → ∀ j (hj : j < m.length), ∃ b off, a' = some ⟨b, off, none⟩ ∧ b < w.heap.size ∧ w'.cell? ⟨b, off + j, none⟩ = some (.int .i64 m[j])) := fun w' hb j hj => ints_at (Cod.ok_below h' hb) j hj
    clear h h'
    rw [← hne, hn]
    have Hn := Lib.hid hn
    have Hm : Hid (m.length = n) := by rw [← hne]; exact hn
    have hm2 : n ≤ 2 ^ 63 - 1 := by omega
    generalize hR : decide (l = m) = R
    have HR : Hid (decide (l.drop 0 = m.drop 0) = R) := hR
    clear hR hne hn hm hm'
    go_enter Try.func45, Try.ntmps45
    go_wp2
    go_loopw [13] (fun iv wr => ∃ k : Nat, k ≤ n ∧ iv = .int .i64 k ∧ Hid (decide (l.drop k = m.drop k) = R) ∧ Below w.heap.size w wr) (fun iv _ => n - (intOf iv).toNat)
    case atStart => exact ⟨0, by omega, by go_num, HR, Below.refl _ _⟩
    case round =>
      obtain ⟨k, hk, rfl, Hq, hb⟩ := hrel
      by_cases hlt : k < n
      · have hkl : k < l.length := by rw [Hn.out]; exact hlt
        have hkm : k < m.length := by rw [Hm.out]; exact hlt
        have Hst : Hid (R = (decide (l[k] = m[k]) && decide (l.drop (k + 1) = m.drop (k + 1)))) := by
          show R = _
          rw [← Hq.out, ← Bool.decide_and]; congr 1; rw [List.drop_eq_getElem_cons hkl, List.drop_eq_getElem_cons hkm, List.cons.injEq]
        obtain ⟨b, off, rfl, hbB, c0⟩ := Hr.out _ hb k hkl
        obtain ⟨b', off', rfl, hbB', c0'⟩ := Hr'.out _ hb k hkm
        generalize hrk : l[k] = r at *
        generalize hrk' : m[k] = r' at *
        clear hrk hrk'
        by_cases he : r = r'
        · have hn : (r != r') = false := by simp [he]
          have hst := Hst.out
          rw [decide_eq_true he, Bool.true_and] at hst
          have Hst2 := Lib.hid hst.symm
          clear hst Hst he
          go_wp2
          go_quiet (fail)
          go_wp2
          go_roundw
          case rel => exact ⟨k + 1, by omega, by go_num, Hst2, Below.drewN' hb _⟩
          case measure => simp [intOf]; omega
        · have hn : (r != r') = true := by simp [he]
          have hR : R = false := by have := Hst.out; rw [decide_eq_false he, Bool.false_and] at this; exact this
          clear Hst he
          go_wp2
          go_quiet (fail)
          go_wp2
          go_ret
          exact ⟨by rw [hR]; rfl, Below.drewN' hb _⟩
      · obtain rfl : k = n := by omega
        have hR : R = true := by
          have := Hq.out
          rw [List.drop_eq_nil_of_le (by rw [Hn.out]; exact Nat.le_refl _), List.drop_eq_nil_of_le (by rw [Hm.out]; exact Nat.le_refl _)] at this
          simpa using this.symm
        go_wp2
        go_ret
        exact ⟨by rw [hR]; rfl, hb⟩
  · rw [decide_eq_false (fun e => hne (by rw [e]))]
    have hne2 : (l.length != m.length) = true := by simpa using hne
    go_enter Try.func45, Try.ntmps45
    go_wp2
    go_ret
    exact ⟨rfl, Below.refl _ _⟩
end Go.Proofs.Ytpofglamcaikfaa

/- Chapter 3: keys: KeyOf and HaveSameKey, the program's side. -/
namespace Go.Proofs.Ytpofglamcaikfaa
open Go.RowKit
set_option linter.unusedVariables false
set_option maxRecDepth 100000

/-- The key's length of a relation, by its place. -/
def keyN (l : List Rel) (r : Int) : Nat := match l[r.toNat]? with | some q => q.key.toNat | none => 0
theorem validRels_all {l : List Rel} (h : validRels l = true) (k : Nat) (hk : k < l.length) : validRel l[k] = true := by
  unfold validRels at h
  rw [ascFrom_split] at h
  simp only [Bool.and_eq_true] at h
  exact List.all_eq_true.1 h.1.1 _ (List.getElem_mem hk)
theorem validRels_len {l : List Rel} (h : validRels l = true) : l.length ≤ 4 := by
  unfold validRels at h
  simp only [Bool.and_eq_true, decide_eq_true_eq] at h
  exact h.2
/-- A valid fact: its relation is there, the key is no longer than the values. -/
theorem validFact_key {l : List Rel} {x : Fct} (h : validFact l x = true) : ∃ (k p : Nat) (hk : k < l.length), x.rel = (k : Int) ∧ l[k].key = (p : Int) ∧ p ≤ x.vals.length ∧ x.vals.length ≤ 3 ∧ keyN l (k : Int) = p ∧ l[k].arity = (x.vals.length : Int) := by
  unfold validFact inB at h
  simp only [Bool.and_eq_true, decide_eq_true_eq] at h
  obtain ⟨h1, ⟨h2, h3⟩, h4, h5⟩ := h
  obtain ⟨k, hk0⟩ := Int.eq_ofNat_of_zero_le h2
  have hk : k < l.length := by omega
  have hv := validRels_all h1 k hk
  unfold validRel inB at hv
  simp only [Bool.and_eq_true, decide_eq_true_eq] at hv
  obtain ⟨_, ⟨h6, h7⟩, h8, h9⟩ := hv
  have har : arityAt l x.rel = l[k].arity := by unfold arityAt; rw [hk0]; simp [hk]
  rw [har] at h4
  obtain ⟨p, hp⟩ := Int.eq_ofNat_of_zero_le h8
  refine ⟨k, p, hk, hk0, hp, by omega, by omega, ?_, h4.symm⟩
  unfold keyN
  simp [hk, hp]
/-- Two facts of one relation, with one key. -/
def sameKey (l : List Rel) (x y : Fct) : Bool := decide (x.rel = y.rel) && decide (x.vals.take (keyN l x.rel) = y.vals.take (keyN l x.rel))
/-- The key's values of a fact. -/
def keyVals (l : List Rel) (x : Fct) : List Int := if validFact l x then x.vals.take (keyN l x.rel) else []

set_option maxHeartbeats 1600000 in
theorem agreeOnKey_c {a0 ax ay : Option Addr} {cap0 cx cy : Nat} {l : List Rel} {x y : Fct} {w : World} (h : At (cSlice cRel) w l [.slice a0 l.length cap0]) (h1 : At cFct w x [.int .i64 x.rel, .slice ax x.vals.length cx]) (h2 : At cFct w y [.int .i64 y.rel, .slice ay y.vals.length cy])
    (hx : validFact l x = true) (hy : validFact l y = true) :
    Calls Try.prog 30 #[.slice a0 l.length cap0, .agg #[.int .i64 x.rel, .slice ax x.vals.length cx], .agg #[.int .i64 y.rel, .slice ay y.vals.length cy]] w fun e w' => e = .returned (.bool (sameKey l x y)) ∧ Below w.heap.size w w' := by
  have hX := (cFct_inv h1).1
  have hY := (cFct_inv h2).1
  have hcx := slice_cap hX
  have hcy := slice_cap hY
  have Hr : Hid (∀ w' : World, Below w.heap.size w w' → ∀ j (hj : j < l.length), _) := fun w' hb j hj => at_Relation (Cod.ok_below h hb) j hj
  obtain ⟨k, p, hk, hrx, hkey, hpl, hl3, hkn, ha1⟩ := validFact_key hx
  obtain ⟨k', p', hk', hry, hkey', hpl', hl3', hkn', ha2⟩ := validFact_key hy
  unfold sameKey
  obtain ⟨rx, vx⟩ := x
  obtain ⟨ry, vy⟩ := y
  simp only at *
  by_cases hrr : rx = ry
  · subst hrr
    obtain rfl : k = k' := by omega
    obtain rfl : p = p' := by omega
    subst hrx
    have He : Hid (∀ ww, Below w.heap.size w ww → Calls Try.prog 45 #[.slice ax p cx, .slice ay p cy] ww fun e w' => e = .returned (.bool (decide (vx.take p = vy.take p))) ∧ Below ww.heap.size ww w') := by
      intro ww hb
      have h := slicesEqualInt_c (At.below (ints_take hX p hpl) hb (Nat.le_refl _)) (At.below (ints_take hY p hpl') hb (Nat.le_refl _))
      rw [show (vx.take p).length = p by simp; omega, show (vy.take p).length = p by simp; omega] at h
      exact h
    rw [hkn, decide_eq_true rfl, Bool.true_and]
    generalize decide (vx.take p = vy.take p) = B at *
    obtain ⟨n, hn⟩ : ∃ n : Nat, vx.length = n := ⟨_, rfl⟩
    obtain ⟨m, hm⟩ : ∃ n : Nat, vy.length = n := ⟨_, rfl⟩
    obtain ⟨nl, hnl⟩ : ∃ n : Nat, l.length = n := ⟨_, rfl⟩
    have hkl := hk
    rw [hnl] at hkl ⊢
    rw [hn] at hcx hpl hl3 ⊢
    rw [hm] at hcy hpl' hl3' ⊢
    have Hk := Lib.hid hkey
    have HK : Hid (k < l.length) := hk
    clear hx hy h h1 h2 hX hY hkn hkn' hry ha1 ha2 hkey hkey' hn hm hnl hk'
    obtain ⟨wx, hwx⟩ : ∃ wx, wx = (w.alloc (Obj.cells #[.int .i64 (k : Int), .slice ax n cx] 59)).alloc (Obj.cells #[.int .i64 (k : Int), .slice ay m cy] 59) := ⟨_, rfl⟩
    have hb0 : Below w.heap.size w wx := by rw [hwx]; go_grown
    have p0 : wx.cell? ⟨w.heap.size, 0, none⟩ = some (.int .i64 (k : Int)) := by rw [hwx]; go_simp
    have p1 : wx.cell? ⟨w.heap.size, 1, none⟩ = some (.slice ax n cx) := by rw [hwx]; go_simp
    have r0 : wx.cell? ⟨w.heap.size + 1, 0, none⟩ = some (.int .i64 (k : Int)) := by rw [hwx]; go_simp
    have r1 : wx.cell? ⟨w.heap.size + 1, 1, none⟩ = some (.slice ay m cy) := by rw [hwx]; go_simp
    obtain ⟨b, off, rfl, hbB, c0, c1, c2, hx⟩ := Hr.out _ (Below.refl _ _) k HK.out
    rw [Hk.out] at c2
    clear c0 c1 hx Hk HK Hr
    have Hwx := Lib.hid hwx
    clear hwx
    have P1 := grow_cell p1
    have R1 := grow_cell r1
    go_enter Try.func30, Try.ntmps30
    go_wp2_with fail
    rw [← Hwx.out]
    refine wp_region_grow (by kernel_rfl) (by kernel_rfl) ?_
    repeat (go_big_quiet_step ((go_at_call 45; exact Calls.grow fun ww h => He.out ww (hb0.trans (h.mono hb0.size)))))
    refine wpQuiet_nil ?_
    rintro _ ⟨nq, rfl⟩
    go_wp2
    go_ret
    exact ⟨rfl, hb0.trans (nq.below.mono hb0.size)⟩
  · rw [decide_eq_false hrr, Bool.false_and]
    have hne : (rx != ry) = true := by simp [hrr]
    clear hx hy h h1 h2 hX hY hkn hkn' hrx hry ha1 ha2 hkey hkey' Hr hrr
    go_enter Try.func30, Try.ntmps30
    go_wp2
    go_ret
    exact ⟨rfl, by go_grown⟩

/-- HaveSameKey's answer. -/
def haveKey (l : List Rel) (x y : Fct) : Bool := validFact l x && (validFact l y && sameKey l x y)
end Go.Proofs.Ytpofglamcaikfaa
namespace Go.Proofs.Ytpofglamcaikfaa
set_option linter.unusedVariables false
theorem cmpL_trans : ∀ a b c : List Int, cmpL a b < 0 → cmpL b c < 0 → cmpL a c < 0
  | [], [], _, h, _ => by simp [cmpL] at h
  | [], _ :: _, [], _, h => by simp [cmpL] at h
  | [], _ :: _, _ :: _, _, _ => by simp [cmpL]
  | _ :: _, [], _, h, _ => by simp [cmpL] at h
  | _ :: _, _ :: _, [], _, h => by simp [cmpL] at h
  | x :: a, y :: b, z :: c, h1, h2 => by
    simp only [cmpL] at h1 h2 ⊢
    split at h1
    · split at h2
      · rw [if_pos (by omega)]; omega
      · split at h2
        · omega
        · rw [if_pos (by omega)]; omega
    · split at h1
      · omega
      · split at h2
        · rw [if_pos (by omega)]; omega
        · split at h2
          · omega
          · rw [if_neg (by omega), if_neg (by omega)]; exact cmpL_trans a b c h1 h2
theorem cmpL_zero : ∀ a b : List Int, cmpL a b = 0 ↔ a = b
  | [], [] => by simp [cmpL]
  | [], _ :: _ => by simp [cmpL]
  | _ :: _, [] => by simp [cmpL]
  | x :: a, y :: b => by
    simp only [cmpL]
    split
    · simp; omega
    · split
      · simp; omega
      · rw [cmpL_zero a b, List.cons.injEq]
        exact ⟨fun h => ⟨by omega, h⟩, fun h => h.2⟩
theorem cmpF_zero (x y : Fct) : cmpF x y = 0 ↔ x = y := by
  obtain ⟨r, v⟩ := x
  obtain ⟨s, u⟩ := y
  unfold cmpF
  simp only [Fct.mk.injEq]
  split
  · simp; omega
  · split
    · simp; omega
    · rw [cmpL_zero]
      exact ⟨fun h => ⟨by omega, h⟩, fun h => h.2⟩
theorem cmpF_trans (x y z : Fct) (h1 : cmpF x y < 0) (h2 : cmpF y z < 0) : cmpF x z < 0 := by
  unfold cmpF at *
  split at h1
  · split at h2
    · rw [if_pos (by omega)]; omega
    · split at h2
      · omega
      · rw [if_pos (by omega)]; omega
  · split at h1
    · omega
    · split at h2
      · rw [if_pos (by omega)]; omega
      · split at h2
        · omega
        · rw [if_neg (by omega), if_neg (by omega)]; exact cmpL_trans _ _ _ h1 h2
theorem take_mid : ∀ (p : Nat) (a b c : List Int), a.length = b.length → b.length = c.length → cmpL a b ≤ 0 → cmpL b c ≤ 0 → a.take p = c.take p → b.take p = c.take p
  | 0, _, _, _, _, _, _, _, _ => by simp
  | p + 1, [], [], [], _, _, _, _, _ => rfl
  | p + 1, x :: a, y :: b, z :: c, h1, h2, h3, h4, h5 => by
    simp only [List.take_succ_cons, List.cons.injEq] at h5 ⊢
    simp only [cmpL] at h3 h4
    obtain ⟨rfl, h5⟩ := h5
    have hxy : x = y := by
      split at h3 <;> split at h4 <;> try omega
      all_goals (split at h3 <;> try omega)
      all_goals (split at h4 <;> omega)
    subst hxy
    rw [if_neg (by omega), if_neg (by omega)] at h3 h4
    exact ⟨rfl, take_mid p a b c (by simpa using h1) (by simpa using h2) h3 h4 h5⟩
  | p + 1, [], _ :: _, _, h, _, _, _, _ => by simp at h
  | p + 1, _ :: _, [], _, h, _, _, _, _ => by simp at h
  | p + 1, [], [], _ :: _, _, h, _, _, _ => by simp at h
  | p + 1, _ :: _, _ :: _, [], _, h, _, _, _ => by simp at h
end Go.Proofs.Ytpofglamcaikfaa

/- Chapter 4: the model's functions on databases that hand back plain values. -/
namespace Go.Proofs.Ytpofglamcaikfaa
open Go.RowKit
set_option linter.unusedVariables false
set_option maxRecDepth 100000

/-- What stands before place k. -/
def prevG {α : Type} (l : List α) : Nat → Option α
  | 0 => none
  | k + 1 => l[k]?
/-- A fact behind another one. -/
def okF : Option Fct → Fct → Bool
  | none, _ => true
  | some q, x => !decide (cmpF q x ≥ 0)
/-- Valid facts, ascending from a fact on. -/
def factsFrom (rs : List Rel) : Option Fct → List Fct → Bool
  | _, [] => true
  | p, x :: l => validFact rs x && (okF p x && factsFrom rs (some x) l)
/-- A valid database. -/
def validDb (d : Dbs) : Bool := factsFrom d.rels none d.facts && (validRels d.rels && decide (d.facts.length ≤ 14))
theorem factsFrom_step (rs : List Rel) (l : List Fct) (k : Nat) (hk : k < l.length) : factsFrom rs (prevG l k) (l.drop k) = (validFact rs l[k] && (okF (prevG l k) l[k] && factsFrom rs (prevG l (k + 1)) (l.drop (k + 1)))) := by
  rw [List.drop_eq_getElem_cons hk]
  simp [factsFrom, prevG, hk]
theorem okF_succ (l : List Fct) (k : Nat) (hk : k < l.length) (x : Fct) : okF (prevG l (k + 1)) x = !decide (cmpF l[k] x ≥ 0) := by
  simp [prevG, hk, okF]

set_option maxHeartbeats 3200000 in
theorem specIsValidDatabase_c {a0 a1 : Option Addr} {cap0 cap1 : Nat} {x : Dbs} {w : World} (h : At cDbs w x [.slice a0 x.rels.length cap0, .slice a1 x.facts.length cap1]) :
    Calls Try.prog 25 #[.agg #[.slice a0 x.rels.length cap0, .slice a1 x.facts.length cap1]] w fun e w' => e = .returned (.bool (validDb x)) ∧ Below w.heap.size w w' := by
  have h0 := (cDbs_inv h).1
  have h1 := (cDbs_inv h).2
  have hm := (slice_len h1).2
  unfold maxLen at hm
  have Hr : Hid (∀ w' : World, Below w.heap.size w w' → ∀ j (hj : j < x.facts.length), _) := fun w' hb j hj => at_Fact (Cod.ok_below h1 hb) j hj
  have Hv : Hid (∀ ww, Below w.heap.size w ww → Calls Try.prog 37 #[.slice a0 x.rels.length cap0] ww fun e w' => e = .returned (.bool (validRels x.rels)) ∧ Below ww.heap.size ww w') :=
    fun ww hb => specAreValidRelations_c (At.below h0 hb (Nat.le_refl _))
  have Hf : Hid (∀ ww, Below w.heap.size w ww → ∀ (f : Fct) (a : Option Addr) (c : Nat), At cFct ww f [.int .i64 f.rel, .slice a f.vals.length c] → Calls Try.prog 35 #[.slice a0 x.rels.length cap0, .agg #[.int .i64 f.rel, .slice a f.vals.length c]] ww fun e w' => e = .returned (.bool (validFact x.rels f)) ∧ Below ww.heap.size ww w') :=
    fun ww hb f a c hA => specIsValidFact_c (At.below h0 hb (Nat.le_refl _)) hA
  clear h h0 h1
  obtain ⟨rs, l⟩ := x
  simp only [validDb] at *
  obtain ⟨n, hn⟩ : ∃ n : Nat, l.length = n := ⟨_, rfl⟩
  obtain ⟨nr, hnr⟩ : ∃ n : Nat, rs.length = n := ⟨_, rfl⟩
  have Hn := Lib.hid hn
  rw [hn] at hm ⊢
  rw [hnr] at Hv Hf ⊢
  clear hn hnr
  generalize validRels rs = V at *
  generalize hR : factsFrom rs none l = R
  have HR : Hid (factsFrom rs (prevG l 0) (l.drop 0) = R) := hR
  clear hR
  go_enter Try.func25, Try.ntmps25
  go_wp2_with fail
  obtain ⟨wx, hwx⟩ : ∃ wx, wx = w.alloc (Obj.cells #[.slice a0 nr cap0, .slice a1 n cap1] 32) := ⟨_, rfl⟩
  rw [← hwx]
  have hb0 : Below w.heap.size w wx := by rw [hwx]; go_grown
  have p0 : wx.cell? ⟨w.heap.size, 0, none⟩ = some (.slice a0 nr cap0) := by rw [hwx]; go_simp
  have p1 : wx.cell? ⟨w.heap.size, 1, none⟩ = some (.slice a1 n cap1) := by rw [hwx]; go_simp
  clear hwx
  go_loopw [3] (fun iv wr => ∃ k : Nat, k ≤ n ∧ iv = .int .i64 k ∧ Hid (factsFrom rs (prevG l k) (l.drop k) = R) ∧ Below wx.heap.size wx wr) (fun iv _ => n - (intOf iv).toNat)
  case atStart => exact ⟨0, by omega, by go_num, HR, Below.refl _ _⟩
  case round =>
    clear HR
    obtain ⟨k, hk, rfl, Hq, hbx⟩ := hrel
    have q0 := (hbx.cell (World.block_lt_of_cell? wx _ p0)).trans p0
    have q1 := (hbx.cell (World.block_lt_of_cell? wx _ p1)).trans p1
    have hb : Below w.heap.size w wr := hb0.trans (hbx.mono hb0.size)
    clear p0 p1
    by_cases hlt : k < n
    · have hkl : k < l.length := by rw [Hn.out]; exact hlt
      have Hst := Lib.hid (Hq.out.symm.trans (factsFrom_step rs l k hkl))
      obtain ⟨b, off, av, cv, rfl, hbB, c0, c1, hx⟩ := Hr.out _ hb k hkl
      have hA : At cFct wr l[k] [.int .i64 l[k].rel, .slice av l[k].vals.length cv] := cFct.keep hx (fun _ _ => rfl) hb.size
      have Hc : Hid (∀ ww, Below wr.heap.size wr ww → Calls Try.prog 35 #[.slice a0 nr cap0, .agg #[.int .i64 l[k].rel, .slice av l[k].vals.length cv]] ww fun e w' => e = .returned (.bool (validFact rs l[k])) ∧ Below ww.heap.size ww w') :=
        fun ww hw2 => Hf.out ww (hb.trans (hw2.mono hb.size)) l[k] av cv (At.below hA hw2 (Nat.le_refl _))
      have C0 := grow_cell c0
      have C1 := grow_cell c1
      have Q0 := grow_cell q0
      have Q1 := grow_cell q1
      clear hx Hq c0 c1
      generalize validFact rs l[k] = v at *
      rcases Nat.eq_zero_or_pos k with hk0 | hk0
      · have hg : decide ((0 : Int) < (k : Int)) = false := decide_eq_false (by omega)
        have hg2 : decide (0 < k) = false := decide_eq_false (by omega)
        have hp : okF (prevG l k) l[k] = true := by subst hk0; rfl
        rw [hp, Bool.true_and] at Hst
        clear hp hk0 hA
        generalize l[k] = r at *
        cases v with
        | true =>
          go_wp2_with fail
          refine wp_region_grow (by kernel_rfl) (by kernel_rfl) ?_
          repeat (go_big_quiet_step ((go_at_call 35; exact Calls.grow fun ww h => Hc.out ww h)))
          refine wpQuiet_nil ?_
          rintro _ ⟨nq, rfl⟩
          go_wp2
          go_roundw
          case rel => exact ⟨k + 1, by omega, by go_num, by have h := Hst.out; rw [Bool.true_and] at h; exact h.symm, hbx.trans (nq.below.mono hbx.size)⟩
          case measure => simp [intOf]; omega
        | false =>
          have hR : R = false := by have h := Hst.out; rw [Bool.false_and] at h; exact h
          go_wp2_with fail
          refine wp_region_grow (by kernel_rfl) (by kernel_rfl) ?_
          repeat (go_big_quiet_step ((go_at_call 35; exact Calls.grow fun ww h => Hc.out ww h)))
          refine wpQuiet_nil ?_
          rintro _ ⟨nq, rfl⟩
          go_wp2
          go_ret
          exact ⟨by rw [hR]; rfl, hb.trans (nq.below.mono hb.size)⟩
      · have hg : decide ((0 : Int) < (k : Int)) = true := decide_eq_true (by omega)
        have hg2 : decide (0 < k) = true := decide_eq_true (by omega)
        obtain ⟨j, hj⟩ : ∃ j, k = j + 1 := ⟨k - 1, by omega⟩
        have hjl : j < l.length := by omega
        have hp : okF (prevG l k) l[k] = !decide (cmpF l[j] l[k] ≥ 0) := by subst hj; exact okF_succ l j hjl _
        rw [hp] at Hst
        clear hp hk0
        obtain ⟨b', off', av', cv', e', hbB', d0, d1, hxp⟩ := Hr.out _ hb j hjl
        obtain ⟨rfl, rfl⟩ : b = b' ∧ off = off' := by simp at e'; exact e'
        have hA' : At cFct wr l[j] [.int .i64 l[j].rel, .slice av' l[j].vals.length cv'] := cFct.keep hxp (fun _ _ => rfl) hb.size
        have Hz : Hid (∀ ww, Below wr.heap.size wr ww → Calls Try.prog 36 #[.agg #[.int .i64 l[j].rel, .slice av' l[j].vals.length cv'], .agg #[.int .i64 l[k].rel, .slice av l[k].vals.length cv]] ww fun e w' => e = .returned (.int .i64 (cmpF l[j] l[k])) ∧ Below ww.heap.size ww w') :=
          fun ww hw2 => specCompareFacts_c (At.below hA' hw2 (Nat.le_refl _)) (At.below hA hw2 (Nat.le_refl _))
        have hwj : wrap64 ((k : Int) - 1) = (j : Int) := by rw [IntWalk.wrap64_in _ ⟨by omega, by omega⟩]; omega
        have hkj : (k : Int) - 1 = (j : Int) := by omega
        have D0 := grow_cell d0
        have D1 := grow_cell d1
        have hjn : (j : Int) < n := by omega
        have Hj := Lib.hid hj
        clear hj e' hxp hbB' d0 d1 hA hA'
        generalize cmpF l[j] l[k] = z at *
        generalize l[j] = q at *
        generalize l[k] = r at *
        cases v with
        | true =>
          rw [Bool.true_and] at Hst
          by_cases hz : z ≥ 0
          · have hR : R = false := by have h := Hst.out; rw [decide_eq_true hz, Bool.not_true, Bool.false_and] at h; exact h
            have hzd : decide (z ≥ 0) = true := decide_eq_true hz
            go_wp2_with fail
            refine wp_region_grow (by kernel_rfl) (by kernel_rfl) ?_
            repeat (go_big_quiet_step (first | (go_at_call 35; exact Calls.grow fun ww h => Hc.out ww h) | (go_at_call 36; exact Calls.grow fun ww h => Hz.out ww h)))
            refine wpQuiet_nil ?_
            rintro _ ⟨nq, rfl⟩
            go_wp2
            go_ret
            exact ⟨by rw [hR]; rfl, hb.trans (nq.below.mono hb.size)⟩
          · have Hs2 : Hid (factsFrom rs (prevG l (k + 1)) (l.drop (k + 1)) = R) := by have h := Hst.out; rw [decide_eq_false hz, Bool.not_false, Bool.true_and] at h; exact h.symm
            have hzd : decide (z ≥ 0) = false := decide_eq_false hz
            go_wp2_with fail
            refine wp_region_grow (by kernel_rfl) (by kernel_rfl) ?_
            repeat (go_big_quiet_step (first | (go_at_call 35; exact Calls.grow fun ww h => Hc.out ww h) | (go_at_call 36; exact Calls.grow fun ww h => Hz.out ww h)))
            refine wpQuiet_nil ?_
            rintro _ ⟨nq, rfl⟩
            go_wp2
            go_roundw
            case rel => exact ⟨k + 1, by omega, by go_num, Hs2, hbx.trans (nq.below.mono hbx.size)⟩
            case measure => simp [intOf]; omega
        | false =>
          have hR : R = false := by have h := Hst.out; rw [Bool.false_and] at h; exact h
          go_wp2_with fail
          refine wp_region_grow (by kernel_rfl) (by kernel_rfl) ?_
          repeat (go_big_quiet_step ((go_at_call 35; exact Calls.grow fun ww h => Hc.out ww h)))
          refine wpQuiet_nil ?_
          rintro _ ⟨nq, rfl⟩
          go_wp2
          go_ret
          exact ⟨by rw [hR]; rfl, hb.trans (nq.below.mono hb.size)⟩
    · obtain rfl : k = n := by omega
      have hR : R = true := by
        have := Hq.out
        rw [List.drop_eq_nil_of_le (by rw [Hn.out]; exact Nat.le_refl _)] at this
        exact this.symm
      go_wp2_with fail
      refine (Hv.out _ hb).mono ?_
      rintro e w1 ⟨rfl, hb1⟩
      have hbb : Below w.heap.size w w1 := hb.trans (hb1.mono hb.size)
      replace q1 := (hb1.cell (World.block_lt_of_cell? wr _ q1)).trans q1
      cases V with
      | true =>
        by_cases h4 : (k : Int) ≤ 14
        · go_wp2
          go_ret
          exact ⟨by show Ending.returned (.bool _) = _; rw [hR]; simp; omega, hbb⟩
        · go_wp2
          go_ret
          exact ⟨by show Ending.returned (.bool _) = _; rw [hR]; simp; omega, hbb⟩
      | false =>
        go_wp2
        go_ret
        exact ⟨by rw [hR]; rfl, hbb⟩
end Go.Proofs.Ytpofglamcaikfaa

/- Chapter 4: the program's IsValidDatabase. -/
namespace Go.Proofs.Ytpofglamcaikfaa
open Go.RowKit
set_option linter.unusedVariables false
set_option maxRecDepth 100000

/-- Facts ascending, behind a fact. -/
def ascF : Option Fct → List Fct → Bool
  | _, [] => true
  | p, x :: l => okF p x && ascF (some x) l
theorem ascF_step (l : List Fct) (k : Nat) (hk : k < l.length) : ascF (prevG l k) (l.drop k) = (okF (prevG l k) l[k] && ascF (prevG l (k + 1)) (l.drop (k + 1))) := by
  rw [List.drop_eq_getElem_cons hk]
  simp [ascF, prevG, hk]
theorem ascF_start (l : List Fct) : ascF none l = ascF (prevG l 1) (l.drop 1) := by
  cases l with
  | nil => rfl
  | cons r l => simp [ascF, prevG, okF]
theorem factsFrom_split (rs : List Rel) : ∀ (l : List Fct) (p : Option Fct), factsFrom rs p l = (l.all (validFact rs) && ascF p l)
  | [], _ => rfl
  | r :: l, p => by
    simp only [factsFrom, ascF, List.all_cons, factsFrom_split rs l]
    cases validFact rs r <;> cases okF p r <;> cases l.all (validFact rs) <;> simp
theorem validDb_eq (d : Dbs) : validDb d = ((validRels d.rels && decide (d.facts.length ≤ 14)) && (d.facts.all (validFact d.rels) && ascF none d.facts)) := by
  unfold validDb
  rw [factsFrom_split, Bool.and_comm]

set_option maxHeartbeats 1600000 in
theorem ascFacts_c {a0 : Option Addr} {cap0 : Nat} {l : List Fct} {w : World} (h : At (cSlice cFct) w l [.slice a0 l.length cap0]) :
    Calls Try.prog 43 #[.slice a0 l.length cap0, .func (.func 44) #[] #[]] w fun e w' => e = .returned (.bool (ascF none l)) ∧ Below w.heap.size w w' := by
  have hm := (slice_len h).2
  unfold maxLen at hm
  obtain ⟨n, hn⟩ : ∃ n : Nat, l.length = n := ⟨_, rfl⟩
  have Hr : Hid (∀ w' : World, Below w.heap.size w w' → ∀ j (hj : j < l.length), _) := fun w' hb j hj => at_Fact (Cod.ok_below h hb) j hj
  have Hn := Lib.hid hn
  rw [hn] at hm ⊢
  clear hn h
  generalize hR : ascF none l = R
  rw [ascF_start] at hR
  have HR : Hid (ascF (prevG l 1) (l.drop 1) = R) := hR
  clear hR
  go_enter Try.func43, Try.ntmps43
  go_wp2
  go_loopw [5] (fun iv wr => ∃ k : Nat, (k ≤ n ∨ k = 1) ∧ 1 ≤ k ∧ iv = .int .i64 k ∧ Hid (ascF (prevG l k) (l.drop k) = R) ∧ Below w.heap.size w wr) (fun iv _ => n - (intOf iv).toNat)
  case atStart => exact ⟨1, by omega, by omega, by go_num, HR, Below.refl _ _⟩
  case round =>
    clear HR
    obtain ⟨k, hk, hk1, rfl, Hq, hb⟩ := hrel
    by_cases hlt : k < n
    · have hkl : k < l.length := by rw [Hn.out]; exact hlt
      obtain ⟨j, hj⟩ : ∃ j, k = j + 1 := ⟨k - 1, by omega⟩
      have hjl : j < l.length := by omega
      have hp : okF (prevG l k) l[k] = !decide (cmpF l[j] l[k] ≥ 0) := by subst hj; exact okF_succ l j hjl _
      have Hst := Lib.hid (Hq.out.symm.trans (ascF_step l k hkl))
      rw [hp] at Hst
      obtain ⟨b, off, av, cv, rfl, hbB, c0, c1, hx⟩ := Hr.out _ hb k hkl
      obtain ⟨b', off', av', cv', e', hbB', p0, p1, hxp⟩ := Hr.out _ hb j hjl
      obtain ⟨rfl, rfl⟩ : b = b' ∧ off = off' := by simp at e'; exact e'
      have hA : At cFct wr l[k] [.int .i64 l[k].rel, .slice av l[k].vals.length cv] := cFct.keep hx (fun _ _ => rfl) hb.size
      have hA' : At cFct wr l[j] [.int .i64 l[j].rel, .slice av' l[j].vals.length cv'] := cFct.keep hxp (fun _ _ => rfl) hb.size
      have Hz : Hid (∀ ww, Below wr.heap.size wr ww → Calls Try.prog 44 #[.agg #[.int .i64 l[j].rel, .slice av' l[j].vals.length cv'], .agg #[.int .i64 l[k].rel, .slice av l[k].vals.length cv]] ww fun e w' => e = .returned (.int .i64 (cmpF l[j] l[k])) ∧ Below ww.heap.size ww w') :=
        fun ww hw2 => implCompareFacts_c (At.below hA' hw2 (Nat.le_refl _)) (At.below hA hw2 (Nat.le_refl _))
      have C0 := grow_cell c0
      have C1 := grow_cell c1
      have D0 := grow_cell p0
      have D1 := grow_cell p1
      have hwj : wrap64 ((k : Int) - 1) = (j : Int) := by rw [IntWalk.wrap64_in _ ⟨by omega, by omega⟩]; omega
      have hkj : (k : Int) - 1 = (j : Int) := by omega
      have hjn : (j : Int) < n := by omega
      have Hj := Lib.hid hj
      clear hj e' hxp hx hp hbB' hbB p0 p1 c0 c1 hA hA' Hq
      generalize cmpF l[j] l[k] = z at *
      generalize l[j] = q at *
      generalize l[k] = r at *
      by_cases hz : z ≥ 0
      · have hR : R = false := by have h := Hst.out; rw [decide_eq_true hz, Bool.not_true, Bool.false_and] at h; exact h
        have hzd : decide (z ≥ 0) = true := decide_eq_true hz
        go_wp2_with fail
        refine wp_region_grow (by kernel_rfl) (by kernel_rfl) ?_
        repeat (go_big_quiet_step ((go_at_call 44; exact Calls.grow fun ww h => Hz.out ww h)))
        refine wpQuiet_nil ?_
        rintro _ ⟨nq, rfl⟩
        go_wp2
        go_ret
        exact ⟨by rw [hR]; rfl, hb.trans (nq.below.mono hb.size)⟩
      · have Hs2 : Hid (ascF (prevG l (k + 1)) (l.drop (k + 1)) = R) := by have h := Hst.out; rw [decide_eq_false hz, Bool.not_false, Bool.true_and] at h; exact h.symm
        have hzd : decide (z ≥ 0) = false := decide_eq_false hz
        go_wp2_with fail
        refine wp_region_grow (by kernel_rfl) (by kernel_rfl) ?_
        repeat (go_big_quiet_step ((go_at_call 44; exact Calls.grow fun ww h => Hz.out ww h)))
        refine wpQuiet_nil ?_
        rintro _ ⟨nq, rfl⟩
        go_wp2
        go_roundw
        case rel => exact ⟨k + 1, by omega, by omega, by go_num, Hs2, hb.trans (nq.below.mono hb.size)⟩
        case measure => simp [intOf]; omega
    · have hR : R = true := by
        have := Hq.out
        rw [List.drop_eq_nil_of_le (by rw [Hn.out]; omega)] at this
        exact this.symm
      go_wp2
      go_ret
      exact ⟨by rw [hR]; rfl, hb⟩

set_option maxHeartbeats 3200000 in
theorem implIsValidDatabase_c {a0 a1 : Option Addr} {cap0 cap1 : Nat} {x : Dbs} {w : World} (h : At cDbs w x [.slice a0 x.rels.length cap0, .slice a1 x.facts.length cap1]) :
    Calls Try.prog 29 #[.agg #[.slice a0 x.rels.length cap0, .slice a1 x.facts.length cap1]] w fun e w' => e = .returned (.bool (validDb x)) ∧ Below w.heap.size w w' := by
  rw [validDb_eq]
  have h0 := (cDbs_inv h).1
  have h1 := (cDbs_inv h).2
  have hm := (slice_len h1).2
  unfold maxLen at hm
  have Hr : Hid (∀ w' : World, Below w.heap.size w w' → ∀ j (hj : j < x.facts.length), _) := fun w' hb j hj => at_Fact (Cod.ok_below h1 hb) j hj
  have Hv : Hid (∀ ww, Below w.heap.size w ww → Calls Try.prog 41 #[.slice a0 x.rels.length cap0] ww fun e w' => e = .returned (.bool (validRels x.rels)) ∧ Below ww.heap.size ww w') :=
    fun ww hb => implAreValidRelations_c (At.below h0 hb (Nat.le_refl _))
  have Hs : Hid (∀ ww, Below w.heap.size w ww → Calls Try.prog 43 #[.slice a1 x.facts.length cap1, .func (.func 44) #[] #[]] ww fun e w' => e = .returned (.bool (ascF none x.facts)) ∧ Below ww.heap.size ww w') :=
    fun ww hb => ascFacts_c (At.below h1 hb (Nat.le_refl _))
  have Hf : Hid (∀ ww, Below w.heap.size w ww → ∀ (f : Fct) (a : Option Addr) (c : Nat), At cFct ww f [.int .i64 f.rel, .slice a f.vals.length c] → Calls Try.prog 42 #[.slice a0 x.rels.length cap0, .agg #[.int .i64 f.rel, .slice a f.vals.length c]] ww fun e w' => e = .returned (.bool (validFact x.rels f)) ∧ Below ww.heap.size ww w') :=
    fun ww hb f a c hA => implIsValidFact_c (At.below h0 hb (Nat.le_refl _)) hA
  clear h h0 h1
  obtain ⟨rs, l⟩ := x
  simp only at *
  obtain ⟨n, hn⟩ : ∃ n : Nat, l.length = n := ⟨_, rfl⟩
  obtain ⟨nr, hnr⟩ : ∃ n : Nat, rs.length = n := ⟨_, rfl⟩
  have Hn := Lib.hid hn
  rw [hn] at hm Hs ⊢
  rw [hnr] at Hv Hf ⊢
  clear hn hnr
  generalize validRels rs = V at *
  generalize ascF none l = A at *
  generalize hR : l.all (validFact rs) = R
  have HR : Hid ((l.drop 0).all (validFact rs) = R) := hR
  clear hR
  obtain ⟨wx, hwx⟩ : ∃ wx, wx = w.alloc (Obj.cells #[.slice a0 nr cap0, .slice a1 n cap1] 32) := ⟨_, rfl⟩
  have hb0 : Below w.heap.size w wx := by rw [hwx]; go_grown
  have p0 : wx.cell? ⟨w.heap.size, 0, none⟩ = some (.slice a0 nr cap0) := by rw [hwx]; go_simp
  have p1 : wx.cell? ⟨w.heap.size, 1, none⟩ = some (.slice a1 n cap1) := by rw [hwx]; go_simp
  have Hwx := Lib.hid hwx
  clear hwx
  by_cases h4 : (n : Int) > 14
  · have hd : decide (n ≤ 14) = false := decide_eq_false (by omega)
    rw [hd, Bool.and_false, Bool.false_and]
    cases V with
    | true =>
      go_enter Try.func29, Try.ntmps29
      go_wp2_with fail
      rw [← Hwx.out]
      refine (Hv.out _ hb0).mono ?_
      rintro e w1 ⟨rfl, hb1⟩
      have hbb : Below w.heap.size w w1 := hb0.trans (hb1.mono hb0.size)
      replace p1 := (hb1.cell (World.block_lt_of_cell? wx _ p1)).trans p1
      go_wp2
      go_ret
      exact ⟨rfl, hbb⟩
    | false =>
      go_enter Try.func29, Try.ntmps29
      go_wp2_with fail
      rw [← Hwx.out]
      refine (Hv.out _ hb0).mono ?_
      rintro e w1 ⟨rfl, hb1⟩
      have hbb : Below w.heap.size w w1 := hb0.trans (hb1.mono hb0.size)
      go_wp2
      go_ret
      exact ⟨rfl, hbb⟩
  · have hd : decide (n ≤ 14) = true := decide_eq_true (by omega)
    rw [hd, Bool.and_true]
    cases V with
    | false =>
      rw [Bool.false_and]
      go_enter Try.func29, Try.ntmps29
      go_wp2_with fail
      rw [← Hwx.out]
      refine (Hv.out _ hb0).mono ?_
      rintro e w1 ⟨rfl, hb1⟩
      have hbb : Below w.heap.size w w1 := hb0.trans (hb1.mono hb0.size)
      go_wp2
      go_ret
      exact ⟨rfl, hbb⟩
    | true =>
      rw [Bool.true_and]
      go_enter Try.func29, Try.ntmps29
      go_wp2_with fail
      rw [← Hwx.out]
      refine (Hv.out _ hb0).mono ?_
      rintro e w1 ⟨rfl, hb1⟩
      have hbb : Below w.heap.size w w1 := hb0.trans (hb1.mono hb0.size)
      replace p0 := (hb1.cell (World.block_lt_of_cell? wx _ p0)).trans p0
      replace p1 := (hb1.cell (World.block_lt_of_cell? wx _ p1)).trans p1
      clear hb0 hb1 Hwx
      go_wp2
      go_loopw [18] (fun iv wr => ∃ k : Nat, k ≤ n ∧ iv = .int .i64 k ∧ Hid ((l.drop k).all (validFact rs) = R) ∧ Below w1.heap.size w1 wr) (fun iv _ => n - (intOf iv).toNat)
      case atStart => exact ⟨0, by omega, by go_num, HR, Below.refl _ _⟩
      case round =>
        clear HR
        obtain ⟨k, hk, rfl, Hq, hbx⟩ := hrel
        have q0 := (hbx.cell (World.block_lt_of_cell? w1 _ p0)).trans p0
        have q1 := (hbx.cell (World.block_lt_of_cell? w1 _ p1)).trans p1
        have hb : Below w.heap.size w wr := hbb.trans (hbx.mono hbb.size)
        clear p0 p1
        by_cases hlt : k < n
        · have hkl : k < l.length := by rw [Hn.out]; exact hlt
          have Hst := Lib.hid (Hq.out.symm.trans (all_drop (validFact rs) l k hkl))
          obtain ⟨b, off, av, cv, rfl, hbB, c0, c1, hx⟩ := Hr.out _ hb k hkl
          have hA : At cFct wr l[k] [.int .i64 l[k].rel, .slice av l[k].vals.length cv] := cFct.keep hx (fun _ _ => rfl) hb.size
          have Hc : Hid (∀ ww, Below wr.heap.size wr ww → Calls Try.prog 42 #[.slice a0 nr cap0, .agg #[.int .i64 l[k].rel, .slice av l[k].vals.length cv]] ww fun e w' => e = .returned (.bool (validFact rs l[k])) ∧ Below ww.heap.size ww w') :=
            fun ww hw2 => Hf.out ww (hb.trans (hw2.mono hb.size)) l[k] av cv (At.below hA hw2 (Nat.le_refl _))
          clear hx Hq hA
          generalize validFact rs l[k] = v at *
          generalize l[k] = r at *
          have hlt0 := World.block_lt_of_cell? wr _ q0
          cases v with
          | true =>
            rw [Bool.true_and] at Hst
            go_wp2_with fail
            refine (Hc.out _ ?hb).mono ?_
            case hb => go_grown
            rintro e w2 ⟨rfl, hb2⟩
            have hbr : Below wr.heap.size wr w2 := Below.trans (by go_grown) (hb2.mono (by simp; try omega))
            go_wp2
            go_roundw
            case rel => exact ⟨k + 1, by omega, by go_num, Hst.out.symm, hbx.trans (hbr.mono hbx.size)⟩
            case measure => simp [intOf]; omega
          | false =>
            have hR : R = false := by have h := Hst.out; rw [Bool.false_and] at h; exact h
            go_wp2_with fail
            refine (Hc.out _ ?hb).mono ?_
            case hb => go_grown
            rintro e w2 ⟨rfl, hb2⟩
            have hbr : Below wr.heap.size wr w2 := Below.trans (by go_grown) (hb2.mono (by simp; try omega))
            go_wp2
            go_ret
            exact ⟨by rw [hR]; rfl, hb.trans (hbr.mono hb.size)⟩
        · obtain rfl : k = n := by omega
          have hR : R = true := by
            have := Hq.out
            rw [List.drop_eq_nil_of_le (by rw [Hn.out]; exact Nat.le_refl _)] at this
            exact this.symm
          go_wp2_with fail
          refine (Hs.out _ hb).mono ?_
          rintro e w2 ⟨rfl, hb2⟩
          go_wp2
          go_ret
          exact ⟨by rw [hR]; rfl, hb.trans (hb2.mono hb.size)⟩
end Go.Proofs.Ytpofglamcaikfaa


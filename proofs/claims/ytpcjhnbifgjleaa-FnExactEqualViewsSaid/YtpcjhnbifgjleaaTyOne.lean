/- TyOne: TyA TyB TyB2. -/
import Derived.Test.YtpcjhnbifgjleaaRows
import Derived.Test.YtpcjhnbifgjleaaCodOne
import Derived.WalkKit
import Derived.BigQuiet
import Derived.Deep.QuietTactic
import Derived.Deep.RegionWith
import Derived.Lib.Strings
/- Numbers in a slice, relations, facts: the laws' helpers on them (size, copy, equality). -/
namespace Go.Proofs.Ytpcjhnbifgjleaa
open Go.RowKit
set_option linter.unusedVariables false
set_option maxRecDepth 100000

/-- What is left of an allowance behind n, or -1. -/
def szR (left : Int) (n : Nat) : Int := if left - (n : Int) < 0 then -1 else left - (n : Int)

theorem szR_le (left : Int) (n : Nat) (h : 0 ≤ left) : szR left n ≤ left := by unfold szR; split <;> omega
theorem szR_ge {left : Int} {n M : Nat} (h : ¬ szR left n < 0) (hM : left ≤ (M : Int)) : n ≤ M := by unfold szR at h; split at h <;> omega
theorem szR_neg {left : Int} {n : Nat} (h : szR left n < 0) : szR left n = -1 := by unfold szR at *; split at h <;> simp_all
theorem szR_step (q : Int) (s t : Nat) : szR q (s + t) = if szR q s < 0 then -1 else szR (szR q s) t := by
  unfold szR
  by_cases h : q - (s : Int) < 0
  · rw [if_pos h, if_pos (by omega), if_pos (by omega)]
  · rw [if_neg h, if_neg h]
    by_cases h2 : q - (s : Int) - (t : Int) < 0
    · rw [if_pos (by omega), if_pos h2]
    · rw [if_neg (by omega), if_neg h2]; omega
theorem szIntS_c {a : Option Addr} {cap : Nat} {l : List Int} {left : Int} {w : World} (hl : 0 ≤ left) (hl2 : left ≤ 1048576) (h : At (cSlice cInt) w l [.slice a l.length cap]) :
    Calls Try.prog 27 #[.slice a l.length cap, .int .i64 left] w fun e w' => e = .returned (.int .i64 (szR left l.length)) ∧ Below w.heap.size w w' := by
  have hm := (slice_len h).2
  unfold maxLen at hm
  have hw : wrap64 (left - (l.length : Int)) = left - (l.length : Int) := IntWalk.wrap64_in _ ⟨by omega, by omega⟩
  unfold szR
  by_cases h : left - (l.length : Int) < 0
  · rw [if_pos h]
    go_enter Try.func27, Try.ntmps27
    go_wp2
    go_ret
    exact ⟨rfl, Below.refl _ _⟩
  · rw [if_neg h]
    go_enter Try.func27, Try.ntmps27
    go_wp2
    go_ret
    exact ⟨rfl, Below.refl _ _⟩

/-- A number as a cell. -/
def iv (x : Int) : Value := .int .i64 x
/-- The row when k numbers are written: the first k, then zeros. -/
def doneI (l : List Int) (k n : Nat) : List Value := (l.take k).map iv ++ List.replicate (n - k) (iv 0)
theorem doneI_step (l : List Int) (k n : Nat) (hn : l.length = n) (hk : k < n) (hkl : k < l.length) : (doneI l k n).set k (.int .i64 l[k]) = doneI l (k + 1) n := by
  unfold doneI
  have e1 : n - k = (n - (k + 1)) + 1 := by omega
  have e2 : ((l.take k).map iv).length = k := by simp; omega
  rw [e1, List.replicate_succ, List.set_append_right _ _ (by omega), e2, Nat.sub_self, List.set_cons_zero, List.take_succ_eq_append_getElem hkl, List.map_append]
  simp [iv]
theorem doneI_all (l : List Int) (n : Nat) (h : l.length = n) : doneI l n n = l.map iv := by subst h; simp [doneI]
theorem doneI_at (l : List Int) (k n : Nat) (hn : l.length = n) (hk : k < n) : (doneI l k n)[k]? = some (.int .i64 0) := by
  have e1 : n - k = (n - (k + 1)) + 1 := by omega
  have e2 : ((l.take k).map iv).length = k := by simp; omega
  unfold doneI
  rw [e1, List.replicate_succ, List.getElem?_append_right (by omega), e2]
  simp [iv]
theorem made_ints (n : Nat) (l : List Int) : (madeCells #[.int .i64 0] n).toList = doneI l 0 n := by
  unfold doneI madeCells
  apply List.ext_getElem
  · simp
  · intro i h1 h2
    simp [iv, Nat.mod_one]
theorem flat_ints (l : List Int) : (l.map fun x => [iv x]).flatten = l.map iv := by
  induction l with
  | nil => rfl
  | cons x l ih => simp [ih]
theorem Try.infoI : (Try.prog.info? 3).map (fun i => (i.zero, i.size, i.bytes)) = some (some (.int .i64 0), 1, 8) := by kernel_rfl
theorem Below.drewN' {B : Nat} {a w : World} (h : Below B a w) (n : Nat) : Below B a (w.drewN n) := ⟨h.os, h.tape, h.output, h.size, h.block⟩
theorem ownsRow_below {base : Nat} {w w' : World} {e : TypeId} {sz : Nat} {v : Value} {n : Nat} {xs : List Value} (h : w.ownsRow base e sz v n xs) (k : Below w.heap.size w w') : w'.ownsRow base e sz v n xs := by
  refine ⟨h.1, ?_⟩
  rcases h.2 with h0 | ⟨g, cap, cur, rfl, hb, hg, hrest⟩
  · exact .inl h0
  · have hlt := (h.lt g rfl).2
    exact .inr ⟨g, cap, cur, rfl, hb, (k.block g hlt).trans hg, hrest⟩
/-- A row of numbers of the call's own. -/
theorem own_ints {w : World} {base : Nat} {e : TypeId} {v : Value} {n : Nat} {l : List Int} (h : w.ownsRow base e 1 v n (l.map iv)) (hr : ∀ x, x ∈ l → inR x) : Own (cSlice cInt) base w l [v] := by
  have hn : l.length = n := by simpa using h.1
  subst hn
  rcases h.2 with ⟨rfl, h0⟩ | ⟨g, cap, cur, rfl, hb, hg, h1, h2, _⟩
  · obtain rfl := List.eq_nil_of_length_eq_zero h0
    exact Own.nil _ _
  · exact Own.slice (c := cInt) (F := []) (css := l.map fun x => [iv x]) (ownL_flat (c := cInt) (fun x => [iv x]) w l (fun x hx => ⟨⟨rfl, hr x hx⟩, rfl⟩)) (by rw [flat_ints]; exact h) (by simp) (by omega)
set_option maxHeartbeats 800000 in
theorem toIntS_c {a : Option Addr} {cap : Nat} {l : List Int} {w : World} (hs : l.length ≤ 1048576) (h : At (cSlice cInt) w l [.slice a l.length cap]) :
    Calls Try.prog 33 #[.slice a l.length cap] w fun e w' => (∃ a' cap', e = .returned (.slice a' l.length cap') ∧ Own (cSlice cInt) w.heap.size w' l [.slice a' l.length cap']) ∧ Below w.heap.size w w' := by
  obtain ⟨n, hn⟩ : ∃ n : Nat, l.length = n := ⟨_, rfl⟩
  have Hn := Lib.hid hn
  have Hr : Hid (∀ w' : World, Below w.heap.size w w' → ∀ j (hj : j < l.length), ∃ b off, a = some ⟨b, off, none⟩ ∧ b < w.heap.size ∧ w'.cell? ⟨b, off + j, none⟩ = some (.int .i64 l[j])) := fun w' hb j hj => ints_at (Cod.ok_below h hb) j hj
  have Hg := Lib.hid (ints_rng h)
  rw [hn] at hs h ⊢
  clear hn h
  obtain ⟨i0, hi, hz0, hz1, hz2⟩ := info_parts Try.infoI
  go_enter Try.func33, Try.ntmps33
  go_wp2_with (at_make; refine wpList_make_full _ rfl (.tmp 6) (.tmp 6) 27 rfl w.heap.size 3 i0 (.int .i64 0) 1 Try.underlying27 hi hz0 hz1 .i64 .i64 n n n rfl rfl rfl rfl ?c1 ?c2 (Nat.le_refl _) ?_)
  case c1 => rw [hz2]; omega
  case c2 => unfold maxLen; omega
  intro w1 hown hg1
  rw [made_ints n l] at hown
  have hb0 : Below w.heap.size w w1 := (Below.refl _ _).grown hg1 (Nat.le_refl _) (fun k hk => by cases hk)
  clear hg1 hi hz0 hz1 hz2
  go_wp2
  go_loopw [4] (fun iv wr => ∃ k : Nat, k ≤ n ∧ iv = .int .i64 k ∧ wr.ownsRow w.heap.size 3 1 (.slice (some ⟨w.heap.size, 0, none⟩) n n) n (doneI l k n) ∧ Below w.heap.size w wr) (fun iv _ => n - (intOf iv).toNat)
  case atStart => exact ⟨0, by omega, by go_num, hown, hb0⟩
  case round =>
    clear hown hb0
    obtain ⟨k, hk, rfl, hown, hb⟩ := hrel
    by_cases hlt : k < n
    · have hkl : k < l.length := by rw [Hn.out]; exact hlt
      obtain ⟨b, off, rfl, hbB, c0⟩ := Hr.out _ hb k hkl
      have Hstep := Lib.hid (doneI_step l k n Hn.out hlt hkl)
      have f0 := hown.frozenAt k
      have d0 := (hown.cellAt k (by omega)).trans (doneI_at l k n Hn.out hlt)
      generalize hrk : l[k] = r at *
      clear hrk
      go_wp2
      go_roundw
      case rel =>
        have h1 := (hown.stored k (.int .i64 r)).1
        rw [Hstep.out] at h1
        exact ⟨k + 1, by omega, by go_num, h1, hb.setCell (Nat.le_refl _) _⟩
      case measure => simp [intOf]; omega
    · obtain rfl : k = n := by omega
      rw [doneI_all l k Hn.out] at hown
      go_wp2
      go_ret
      exact ⟨⟨_, _, rfl, own_ints hown Hg.out⟩, hb⟩
theorem eqIntS_c {a a' : Option Addr} {cap cap' : Nat} {l m : List Int} {w : World} (h : At (cSlice cInt) w l [.slice a l.length cap]) (h' : At (cSlice cInt) w m [.slice a' m.length cap']) :
    Calls Try.prog 44 #[.slice a l.length cap, .slice a' m.length cap'] w fun e w' => e = .returned (.bool (decide (l = m))) ∧ Below w.heap.size w w' := by
  have hm := (slice_len h).2
  have hm' := (slice_len h').2
  unfold maxLen at hm hm'
  by_cases hne : l.length = m.length
  · obtain ⟨n, hn⟩ : ∃ n : Nat, l.length = n := ⟨_, rfl⟩
    have Hr : Hid (∀ w' : World, Below w.heap.size w w' → ∀ j (hj : j < l.length), ∃ b off, a = some ⟨b, off, none⟩ ∧ b < w.heap.size ∧ w'.cell? ⟨b, off + j, none⟩ = some (.int .i64 l[j])) := fun w' hb j hj => ints_at (Cod.ok_below h hb) j hj
    have Hr' : Hid (∀ w' : World, Below w.heap.size w w' → ∀ j (hj : j < m.length), ∃ b off, a' = some ⟨b, off, none⟩ ∧ b < w.heap.size ∧ w'.cell? ⟨b, off + j, none⟩ = some (.int .i64 m[j])) := fun w' hb j hj => ints_at (Cod.ok_below h' hb) j hj
    clear h h'
    rw [← hne, hn]
    have Hn := Lib.hid hn
    have Hm : Hid (m.length = n) := by rw [← hne]; exact hn
    have hm2 : n ≤ 2 ^ 63 - 1 := by omega
    generalize hR : decide (l = m) = R
    have HR : Hid (decide (l.drop 0 = m.drop 0) = R) := hR
    clear hR hne hn hm hm'
    go_enter Try.func44, Try.ntmps44
    go_wp2
    go_loopw [5] (fun iv wr => ∃ k : Nat, k ≤ n ∧ iv = .int .i64 k ∧ Hid (decide (l.drop k = m.drop k) = R) ∧ Below w.heap.size w wr) (fun iv _ => n - (intOf iv).toNat)
    case atStart => exact ⟨0, by omega, by go_num, HR, Below.refl _ _⟩
    case round =>
      obtain ⟨k, hk, rfl, Hq, hb⟩ := hrel
      by_cases hlt : k < n
      · have hkl : k < l.length := by rw [Hn.out]; exact hlt
        have hkm : k < m.length := by rw [Hm.out]; exact hlt
        have Hst : Hid (R = (decide (l[k] = m[k]) && decide (l.drop (k + 1) = m.drop (k + 1)))) := by
          show R = _
          rw [← Hq.out, ← Bool.decide_and]; congr 1; rw [List.drop_eq_getElem_cons hkl, List.drop_eq_getElem_cons hkm, List.cons.injEq]
        obtain ⟨b, off, rfl, hbB, c0⟩ := Hr.out _ hb k hkl
        obtain ⟨b', off', rfl, hbB', c0'⟩ := Hr'.out _ hb k hkm
        generalize hrk : l[k] = r at *
        generalize hrk' : m[k] = r' at *
        clear hrk hrk'
        by_cases he : r = r'
        · have hn : (r != r') = false := by simp [he]
          have hst := Hst.out
          rw [decide_eq_true he, Bool.true_and] at hst
          have Hst2 := Lib.hid hst.symm
          clear hst Hst he
          go_wp2
          go_quiet (fail)
          go_wp2
          go_roundw
          case rel => exact ⟨k + 1, by omega, by go_num, Hst2, Below.drewN' hb _⟩
          case measure => simp [intOf]; omega
        · have hn : (r != r') = true := by simp [he]
          have hR : R = false := by have := Hst.out; rw [decide_eq_false he, Bool.false_and] at this; exact this
          clear Hst he
          go_wp2
          go_quiet (fail)
          go_wp2
          go_ret
          exact ⟨by rw [hR]; rfl, Below.drewN' hb _⟩
      · obtain rfl : k = n := by omega
        have hR : R = true := by
          have := Hq.out
          rw [List.drop_eq_nil_of_le (by rw [Hn.out]; exact Nat.le_refl _), List.drop_eq_nil_of_le (by rw [Hm.out]; exact Nat.le_refl _)] at this
          simpa using this.symm
        go_wp2
        go_ret
        exact ⟨by rw [hR]; rfl, hb⟩
  · rw [decide_eq_false (fun e => hne (by rw [e]))]
    have hne2 : (l.length != m.length) = true := by simpa using hne
    go_enter Try.func44, Try.ntmps44
    go_wp2
    go_ret
    exact ⟨rfl, Below.refl _ _⟩
end Go.Proofs.Ytpcjhnbifgjleaa

/- Relations and facts: structures, readings, the laws' helpers on one of them. -/
namespace Go.Proofs.Ytpcjhnbifgjleaa
open Go.RowKit
set_option linter.unusedVariables false
set_option maxRecDepth 100000

/-- A relation: its name, its arity, its key's length. -/
structure Rel where
  name : ByteArray
  arity : Int
  key : Int
deriving DecidableEq
def cRel : Cod Rel := cMap (fun x => (x.name, x.arity, x.key)) (cPair cStr (cPair cInt cInt))
theorem cRel_inv {B : Nat} {w : World} {x : Rel} {cs : List Value} (h : cRel.ok B w x cs) : cs = [.string x.name, .int .i64 x.arity, .int .i64 x.key] ∧ x.name.size ≤ maxLen ∧ inR x.arity ∧ inR x.key := by
  obtain ⟨_, _, rfl, ⟨rfl, hs⟩, _, _, rfl, ⟨rfl, h1⟩, ⟨rfl, h2⟩⟩ := h
  exact ⟨rfl, hs, h1, h2⟩
theorem cRel_open {B : Nat} {w : World} {x : Rel} {cs : List Value} (h : cRel.ok B w x cs) : cs = [.string x.name, .int .i64 x.arity, .int .i64 x.key] ∧ cRel.ok B w x [.string x.name, .int .i64 x.arity, .int .i64 x.key] := by
  have h2 := cRel_inv h
  exact ⟨h2.1, h2.1 ▸ h⟩
theorem cRel_mk {B : Nat} {w : World} {x : Rel} (h : x.name.size ≤ maxLen) (h1 : inR x.arity) (h2 : inR x.key) : cRel.ok B w x [.string x.name, .int .i64 x.arity, .int .i64 x.key] := ⟨[_], [_, _], rfl, ⟨rfl, h⟩, [_], [_], rfl, ⟨rfl, h1⟩, ⟨rfl, h2⟩⟩
theorem cRel_mkO {w : World} {x : Rel} (h : x.name.size ≤ maxLen) (h1 : inR x.arity) (h2 : inR x.key) : cRel.own [] w x [.string x.name, .int .i64 x.arity, .int .i64 x.key] := ⟨[_], [_, _], [], [], rfl, ⟨⟨rfl, h⟩, rfl⟩, ⟨[_], [_], [], [], rfl, ⟨⟨rfl, h1⟩, rfl⟩, ⟨⟨rfl, h2⟩, rfl⟩, rfl, by simp⟩, rfl, by simp⟩
theorem Own.rel {B : Nat} {w : World} {x : Rel} (h : x.name.size ≤ maxLen) (h1 : inR x.arity) (h2 : inR x.key) : Own cRel B w x [.string x.name, .int .i64 x.arity, .int .i64 x.key] := ⟨[], cRel_mkO h h1 h2, by simp⟩
theorem szRelation_c {x : Rel} {left : Int} {w : World} (hl : 0 ≤ left) (hl2 : left ≤ 1048576) (h : At cRel w x [.string x.name, .int .i64 x.arity, .int .i64 x.key]) :
    Calls Try.prog 45 #[.agg #[.string x.name, .int .i64 x.arity, .int .i64 x.key], .int .i64 left] w fun e w' =>
      e = .returned (.int .i64 (szR left x.name.size)) ∧ Below w.heap.size w w' := by
  have hr := (cRel_inv h).2.1
  clear h
  obtain ⟨n, a, k⟩ := x
  unfold maxLen at hr
  simp only [szR] at *
  have hw : wrap64 (left - (n.size : Int)) = left - (n.size : Int) := IntWalk.wrap64_in _ ⟨by omega, by omega⟩
  by_cases h : (left - n.size) < 0
  · rw [if_pos h]
    go_enter Try.func45, Try.ntmps45
    go_wp2
    go_ret
    exact ⟨rfl, (Below.refl _ _).alloc (Nat.le_refl _) _⟩
  · rw [if_neg h]
    go_enter Try.func45, Try.ntmps45
    go_wp2
    go_ret
    exact ⟨rfl, (Below.refl _ _).alloc (Nat.le_refl _) _⟩
theorem toRelation_c {x : Rel} {w : World} (hs : x.name.size ≤ 1048576) (h : At cRel w x [.string x.name, .int .i64 x.arity, .int .i64 x.key]) :
    Calls Try.prog 48 #[.agg #[.string x.name, .int .i64 x.arity, .int .i64 x.key]] w fun e w' => (e = .returned (.agg #[.string x.name, .int .i64 x.arity, .int .i64 x.key]) ∧ Own cRel w.heap.size w' x [.string x.name, .int .i64 x.arity, .int .i64 x.key]) ∧ Below w.heap.size w w' := by
  have ho : ∀ w', Own cRel w.heap.size w' x [.string x.name, .int .i64 x.arity, .int .i64 x.key] := fun w' => Own.rel (cRel_inv h).2.1 (cRel_inv h).2.2.1 (cRel_inv h).2.2.2
  have Ho := Lib.hid ho
  clear ho h
  obtain ⟨n, a, k⟩ := x
  simp only at *
  go_enter Try.func48, Try.ntmps48
  go_wp2
  go_returns
  refine ⟨⟨?_, Ho.out _⟩, ?_⟩
  · simp
  · go_grown
theorem eqRelation_c {x y : Rel} {w : World} (h : At cRel w x [.string x.name, .int .i64 x.arity, .int .i64 x.key]) (h' : At cRel w y [.string y.name, .int .i64 y.arity, .int .i64 y.key]) :
    Calls Try.prog 52 #[.agg #[.string x.name, .int .i64 x.arity, .int .i64 x.key], .agg #[.string y.name, .int .i64 y.arity, .int .i64 y.key]] w fun e w' => e = .returned (.bool (decide (x = y))) ∧ Below w.heap.size w w' := by
  clear h h'
  obtain ⟨n, a, k⟩ := x
  obtain ⟨n', a', k'⟩ := y
  simp only [Rel.mk.injEq] at *
  by_cases h1 : n = n'
  · subst h1
    have h1' : (n.toList == n.toList) = true := by simp
    by_cases h2 : a = a'
    · subst h2
      by_cases h3 : k = k'
      · subst h3
        go_enter Try.func52, Try.ntmps52
        go_wp2
        go_ret
        exact ⟨by simp, by go_grown⟩
      · have hn : (k != k') = true := by simp [h3]
        go_enter Try.func52, Try.ntmps52
        go_wp2
        go_ret
        exact ⟨by simp [h3], by go_grown⟩
    · have hn : (a != a') = true := by simp [h2]
      go_enter Try.func52, Try.ntmps52
      go_wp2
      go_ret
      exact ⟨by simp [h2], by go_grown⟩
  · have h1' : (n.toList == n'.toList) = false := by
      rw [Lib.toList_data, Lib.toList_data]
      simp only [beq_eq_false_iff_ne, ne_eq]
      intro e; exact h1 (by rw [str_of n, str_of n', e])
    go_enter Try.func52, Try.ntmps52
    go_wp2
    go_ret
    exact ⟨by simp [h1], by go_grown⟩

end Go.Proofs.Ytpcjhnbifgjleaa

/- Structs: readings, the laws' helpers on them (size, copy, equality). -/
namespace Go.Proofs.Ytpcjhnbifgjleaa
open Go.RowKit
set_option linter.unusedVariables false
set_option maxRecDepth 100000

/-- A fact: its relation's place, its values. -/
structure Fct where
  rel : Int
  vals : List Int
deriving DecidableEq
def cFct : Cod Fct := cMap (fun x => (x.rel, x.vals)) (cPair cInt (cSlice cInt))
theorem cFct_fields {B : Nat} {w : World} {x : Fct} {cs : List Value} (h : cFct.ok B w x cs) : ∃ a1 cap1, cs = [.int .i64 x.rel, .slice a1 x.vals.length cap1] ∧ (cSlice cInt).ok B w x.vals [.slice a1 x.vals.length cap1] ∧ inR x.rel := by
  obtain ⟨_, _, rfl, h0, h1⟩ := h
  obtain ⟨rfl, g0⟩ := h0
  have k1 := h1
  obtain ⟨a1, cap1, rfl, _⟩ := k1
  exact ⟨a1, cap1, rfl, h1, g0⟩
theorem cFct_open {B : Nat} {w : World} {x : Fct} {cs : List Value} (h : cFct.ok B w x cs) : ∃ a1 cap1, cs = [.int .i64 x.rel, .slice a1 x.vals.length cap1] ∧ cFct.ok B w x [.int .i64 x.rel, .slice a1 x.vals.length cap1] := by
  have h0 := h
  obtain ⟨a1, cap1, rfl, _⟩ := cFct_fields h
  exact ⟨a1, cap1, rfl, h0⟩
theorem cFct_inv {B : Nat} {w : World} {x : Fct} {v0 v1 : Value} (h : cFct.ok B w x [v0, v1]) : (cSlice cInt).ok B w x.vals [v1] ∧ inR x.rel := by
  obtain ⟨a1, cap1, e, h1, g0⟩ := cFct_fields h
  simp only [List.cons.injEq, and_true] at e
  obtain ⟨rfl, rfl⟩ := e
  exact ⟨h1, g0⟩
theorem cFct_mk {B : Nat} {w : World} {x : Fct} {v1 : Value} (h1 : (cSlice cInt).ok B w x.vals [v1]) (g0 : inR x.rel) : cFct.ok B w x [.int .i64 x.rel, v1] := ⟨[_], _, rfl, ⟨rfl, g0⟩, h1⟩
theorem cFct_own {lo hi lo1 hi1 : Nat} {w : World} {x : Fct} {v1 : Value} (h1 : OwnIn (cSlice cInt) lo1 hi1 w x.vals [v1]) (l1 : lo1 ≤ hi1) (g0 : inR x.rel) (q1 : lo ≤ lo1) (q : hi1 ≤ hi) : OwnIn cFct lo hi w x [.int .i64 x.rel, v1] := (OwnIn.pair (OwnIn.int lo lo _ g0) (h1.wide (lo' := lo) (hi' := hi) (by omega) (by omega)) (by omega) (by omega))
/-- Its size: its leaves behind slices. -/
def sizeFact (x : Fct) : Nat := x.vals.length
theorem szFact_c {a1 : Option Addr} {cap1 : Nat} {x : Fct} {left : Int} {w : World} (hl : 0 ≤ left) (hl2 : left ≤ 1048576) (h : At cFct w x [.int .i64 x.rel, .slice a1 x.vals.length cap1]) :
    Calls Try.prog 46 #[.agg #[.int .i64 x.rel, .slice a1 x.vals.length cap1], .int .i64 left] w fun e w' => e = .returned (.int .i64 (szR left (sizeFact x))) ∧ Below w.heap.size w w' := by
  obtain ⟨k1, _⟩ := cFct_inv h
  unfold sizeFact
  clear h
  obtain ⟨rel, vals⟩ := x
  simp only at *
  have H1 : Hid (∀ q : Int, 0 ≤ q → q ≤ 1048576 → ∀ ww, Below w.heap.size w ww → Calls Try.prog 27 #[.slice a1 vals.length cap1, .int .i64 q] ww fun e w' => e = .returned (.int .i64 (szR q (vals.length))) ∧ Below ww.heap.size ww w') :=
    fun q h0 h1 ww hb => szIntS_c h0 h1 (At.below (c := (cSlice cInt)) k1 hb (Nat.le_refl _))
  clear k1
  have G1 := Lib.hid (H1.out (left) (by omega) (by omega))
  have hn1 : szR (left) (vals.length) < 0 → szR (left) (vals.length) = -1 := szR_neg
  have hle1 := szR_le (left) (vals.length) (by omega)
  generalize szR (left) (vals.length) = z1 at *
  by_cases hz1 : z1 < 0
  · obtain rfl : z1 = -1 := hn1 hz1
    clear hn1
    go_enter Try.func46, Try.ntmps46
    go_wp2_with fail
    refine (G1.out _ ?hb).mono ?_
    case hb => go_grown
    rintro e w1 ⟨rfl, hb1⟩
    have hbb1 : Below w.heap.size w w1 := Below.trans (by go_grown) (hb1.mono (by simp; try omega))
    have hsz1 : w.heap.size + 1 ≤ w1.heap.size := by have := hb1.size; simp at this; omega
    have p1_0 : w1.cell? ⟨w.heap.size, 0, none⟩ = some (.int .i64 rel) := (hb1.cell (by simp)).trans (by go_simp)
    have p1_1 : w1.cell? ⟨w.heap.size, 1, none⟩ = some (.slice a1 vals.length cap1) := (hb1.cell (by simp)).trans (by go_simp)
    clear hb1
    go_wp2
    go_ret
    exact ⟨rfl, hbb1⟩
  · clear hn1
    go_enter Try.func46, Try.ntmps46
    go_wp2_with fail
    refine (G1.out _ ?hb).mono ?_
    case hb => go_grown
    rintro e w1 ⟨rfl, hb1⟩
    have hbb1 : Below w.heap.size w w1 := Below.trans (by go_grown) (hb1.mono (by simp; try omega))
    have hsz1 : w.heap.size + 1 ≤ w1.heap.size := by have := hb1.size; simp at this; omega
    have p1_0 : w1.cell? ⟨w.heap.size, 0, none⟩ = some (.int .i64 rel) := (hb1.cell (by simp)).trans (by go_simp)
    have p1_1 : w1.cell? ⟨w.heap.size, 1, none⟩ = some (.slice a1 vals.length cap1) := (hb1.cell (by simp)).trans (by go_simp)
    clear hb1
    go_wp2
    go_ret
    exact ⟨rfl, hbb1⟩
set_option maxHeartbeats 800000 in
theorem toFact_c {a1 : Option Addr} {cap1 : Nat} {x : Fct} {w : World} (hs : sizeFact x ≤ 1048576) (h : At cFct w x [.int .i64 x.rel, .slice a1 x.vals.length cap1]) :
    Calls Try.prog 49 #[.agg #[.int .i64 x.rel, .slice a1 x.vals.length cap1]] w fun e w' => (∃ a1' cap1', e = .returned (.agg #[.int .i64 x.rel, .slice a1' x.vals.length cap1']) ∧ Own cFct w.heap.size w' x [.int .i64 x.rel, .slice a1' x.vals.length cap1']) ∧ Below w.heap.size w w' := by
  unfold sizeFact at hs
  obtain ⟨k1, g0⟩ := cFct_inv h
  have G0 := Lib.hid g0
  clear g0
  clear h
  obtain ⟨rel, vals⟩ := x
  simp only at *
  have H1 : Hid (∀ ww, Below w.heap.size w ww → Calls Try.prog 33 #[.slice a1 vals.length cap1] ww fun e w' => (∃ a' cap', e = .returned (.slice a' vals.length cap') ∧ Own (cSlice cInt) ww.heap.size w' vals [.slice a' vals.length cap']) ∧ Below ww.heap.size ww w') :=
    fun ww hb => toIntS_c (by omega) (At.below (c := (cSlice cInt)) k1 hb (Nat.le_refl _))
  clear hs k1
  go_enter Try.func49, Try.ntmps49
  go_wp2_with fail
  refine (H1.out _ ?hb).mono ?_
  case hb => go_grown
  rintro e w1 ⟨⟨a1', cap1', rfl, ho1⟩, hb1⟩
  have hbb1 : Below w.heap.size w w1 := Below.trans (by go_grown) (hb1.mono (by simp; try omega))
  have hsz1 : w.heap.size + 3 ≤ w1.heap.size := by have := hb1.size; simp at this; omega
  have p1_0 : w1.cell? ⟨w.heap.size, 0, none⟩ = some (.int .i64 rel) := (hb1.cell (by simp; try omega)).trans (by go_simp)
  have o1_0 : w1.cell? ⟨w.heap.size + 1 + 1, 0, none⟩ = some (.int .i64 rel) := (hb1.cell (by simp; try omega)).trans (by go_simp)
  have f1_0 : w1.frozen? ⟨w.heap.size + 1 + 1, 0, none⟩ = false := (hb1.frozen (by simp; try omega)).trans (by go_simp)
  have e1_0 : w1.cell? ⟨w.heap.size + 1, 0, none⟩ = some (.int .i64 0) := (hb1.cell (by simp; try omega)).trans (by go_simp)
  have g1_0 : w1.frozen? ⟨w.heap.size + 1, 0, none⟩ = false := (hb1.frozen (by simp; try omega)).trans (by go_simp)
  have p1_1 : w1.cell? ⟨w.heap.size, 1, none⟩ = some (.slice a1 vals.length cap1) := (hb1.cell (by simp; try omega)).trans (by go_simp)
  have o1_1 : w1.cell? ⟨w.heap.size + 1 + 1, 1, none⟩ = some (.slice none 0 0) := (hb1.cell (by simp; try omega)).trans (by go_simp)
  have f1_1 : w1.frozen? ⟨w.heap.size + 1 + 1, 1, none⟩ = false := (hb1.frozen (by simp; try omega)).trans (by go_simp)
  have e1_1 : w1.cell? ⟨w.heap.size + 1, 1, none⟩ = some (.slice none 0 0) := (hb1.cell (by simp; try omega)).trans (by go_simp)
  have g1_1 : w1.frozen? ⟨w.heap.size + 1, 1, none⟩ = false := (hb1.frozen (by simp; try omega)).trans (by go_simp)
  have hR1 : w1.heap[w.heap.size + 1]? = some (.cells #[.int .i64 0, .slice none 0 0] 63 (0, 0)) := (hb1.block _ (by simp; try omega)).trans (by rw [Go.heap_alloc_old _ _ (by simp; try omega)]; exact heap_alloc2_new _ _ _)
  have u1 : OwnIn (cSlice cInt) (w.heap.size + 3) w1.heap.size w1 vals _ := OwnIn.wide ho1 (by simp; try omega) (Nat.le_refl _)
  clear hb1 ho1
  have U1 := Lib.hid u1
  clear u1
  go_wp2
  (try simp only [Exit.inBlock, Exit.then])
  refine bodyPost_ret (results_cell_row rfl _ _ (w.heap.size + 1) _ _ _ _ rfl (heap_setCell_same _ _ 1 _ _ _ (heap_setCell_same _ _ 0 _ _ _ ((heap_setCell_other _ _ _ _ (by simp)).trans (hR1)))) Try.underlying63 rfl (by kernel_rfl)) rfl ?_
  exact ⟨⟨_, _, rfl, OwnIn.own (cFct_own (x := ⟨rel, vals⟩) (lo := w.heap.size) (hi := w1.heap.size) ((((U1.out).setCell (by simp; try omega) _).setCell (by simp; try omega) _).setCell (by simp; try omega) _) (by omega) G0.out (by omega) (by omega)) (by simp [World.setCell])⟩, (((hbb1).setCell (by simp; try omega) _).setCell (by simp; try omega) _).setCell (by simp; try omega) _⟩
theorem eqFact_c {a1 : Option Addr} {cap1 : Nat} {a1' : Option Addr} {cap1' : Nat} {x y : Fct} {w : World} (h : At cFct w x [.int .i64 x.rel, .slice a1 x.vals.length cap1]) (h' : At cFct w y [.int .i64 y.rel, .slice a1' y.vals.length cap1']) :
    Calls Try.prog 53 #[.agg #[.int .i64 x.rel, .slice a1 x.vals.length cap1], .agg #[.int .i64 y.rel, .slice a1' y.vals.length cap1']] w fun e w' => e = .returned (.bool (decide (x = y))) ∧ Below w.heap.size w w' := by
  obtain ⟨k1, _⟩ := cFct_inv h
  obtain ⟨m1, _⟩ := cFct_inv h'
  clear h h'
  obtain ⟨rel, vals⟩ := x
  obtain ⟨rel', vals'⟩ := y
  have he : decide (Fct.mk rel vals = Fct.mk rel' vals') = (decide (rel = rel') && decide (vals = vals')) := by
    simp only [← Bool.decide_and]; congr 1; rw [Fct.mk.injEq]
  rw [he]
  clear he
  simp only at *
  have H1 : Hid (∀ ww, Below w.heap.size w ww → Calls Try.prog 44 #[.slice a1 vals.length cap1, .slice a1' vals'.length cap1'] ww fun e w' => e = .returned (.bool (decide (vals = vals'))) ∧ Below ww.heap.size ww w') :=
    fun ww hb => eqIntS_c (At.below (c := (cSlice cInt)) k1 hb (Nat.le_refl _)) (At.below (c := (cSlice cInt)) m1 hb (Nat.le_refl _))
  clear k1 m1
  by_cases hr0 : rel = rel'
  · subst hr0
    rw [decide_eq_true rfl, Bool.true_and]
    generalize decide (vals = vals') = z1 at *
    cases z1 with
    | true =>
      go_enter Try.func53, Try.ntmps53
      go_wp2_with fail
      refine (H1.out _ ?hb).mono ?_
      case hb => go_grown
      rintro e w1 ⟨rfl, hb1⟩
      have hbb1 : Below w.heap.size w w1 := Below.trans (by go_grown) (hb1.mono (by simp; try omega))
      have hsz1 : w.heap.size + 2 ≤ w1.heap.size := by have := hb1.size; simp at this; omega
      have p1_0 : w1.cell? ⟨w.heap.size, 0, none⟩ = some (.int .i64 rel) := (hb1.cell (by simp; try omega)).trans (by go_simp)
      have r1_0 : w1.cell? ⟨w.heap.size + 1, 0, none⟩ = some (.int .i64 rel) := (hb1.cell (by simp; try omega)).trans (by go_simp)
      have p1_1 : w1.cell? ⟨w.heap.size, 1, none⟩ = some (.slice a1 vals.length cap1) := (hb1.cell (by simp; try omega)).trans (by go_simp)
      have r1_1 : w1.cell? ⟨w.heap.size + 1, 1, none⟩ = some (.slice a1' vals'.length cap1') := (hb1.cell (by simp; try omega)).trans (by go_simp)
      clear hb1
      go_wp2
      go_ret
      exact ⟨by simp, hbb1⟩
    | false =>
      go_enter Try.func53, Try.ntmps53
      go_wp2_with fail
      refine (H1.out _ ?hb).mono ?_
      case hb => go_grown
      rintro e w1 ⟨rfl, hb1⟩
      have hbb1 : Below w.heap.size w w1 := Below.trans (by go_grown) (hb1.mono (by simp; try omega))
      have hsz1 : w.heap.size + 2 ≤ w1.heap.size := by have := hb1.size; simp at this; omega
      have p1_0 : w1.cell? ⟨w.heap.size, 0, none⟩ = some (.int .i64 rel) := (hb1.cell (by simp; try omega)).trans (by go_simp)
      have r1_0 : w1.cell? ⟨w.heap.size + 1, 0, none⟩ = some (.int .i64 rel) := (hb1.cell (by simp; try omega)).trans (by go_simp)
      have p1_1 : w1.cell? ⟨w.heap.size, 1, none⟩ = some (.slice a1 vals.length cap1) := (hb1.cell (by simp; try omega)).trans (by go_simp)
      have r1_1 : w1.cell? ⟨w.heap.size + 1, 1, none⟩ = some (.slice a1' vals'.length cap1') := (hb1.cell (by simp; try omega)).trans (by go_simp)
      clear hb1
      go_wp2
      go_ret
      exact ⟨by simp, hbb1⟩
  · have hn0 : (rel != rel') = true := by simp [hr0]
    rw [decide_eq_false hr0, Bool.false_and]
    go_enter Try.func53, Try.ntmps53
    go_wp2
    go_ret
    exact ⟨by simp, by go_grown⟩
end Go.Proofs.Ytpcjhnbifgjleaa


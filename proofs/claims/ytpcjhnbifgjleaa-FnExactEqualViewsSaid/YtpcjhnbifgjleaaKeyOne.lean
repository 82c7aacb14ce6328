/- KeyOne: Eq Key Ord DbSpec DbImpl. -/
import Derived.Test.YtpcjhnbifgjleaaRelOne
import Derived.Test.YtpcjhnbifgjleaaApp
import Derived.StillTailTactics
/- Go's slices.Equal on numbers; the first numbers of a slice. -/
namespace Go.Proofs.Ytpcjhnbifgjleaa
open Go.RowKit
set_option linter.unusedVariables false
set_option maxRecDepth 100000

/-- The first k numbers of a slice. -/
theorem ints_take {B : Nat} {w : World} {l : List Int} {a : Option Addr} {len cap : Nat} (h : (cSlice cInt).ok B w l [.slice a len cap]) (k : Nat) (hk : k ≤ l.length) :
    (cSlice cInt).ok B w (l.take k) [.slice a (l.take k).length cap] := by
  obtain ⟨a', cap', e, hm, h⟩ := h
  simp at e
  obtain ⟨rfl, rfl, rfl⟩ := e
  have hl : (l.take k).length = k := by simp; omega
  refine ⟨a, cap, rfl, ⟨by omega, by omega⟩, fun j hj => ?_⟩
  obtain ⟨b, off, es, he, hb, hc, hi⟩ := h j (by omega)
  exact ⟨b, off, es, he, hb, by simpa using hc, hi⟩

set_option maxHeartbeats 800000 in
theorem slicesEqualInt_c {a a' : Option Addr} {cap cap' : Nat} {l m : List Int} {w : World} (h : At (cSlice cInt) w l [.slice a l.length cap]) (h' : At (cSlice cInt) w m [.slice a' m.length cap']) :
    Calls Try.prog 39 #[.slice a l.length cap, .slice a' m.length cap'] w fun e w' => e = .returned (.bool (decide (l = m))) ∧ Below w.heap.size w w' := by
  have hm := (slice_len h).2
  have hm' := (slice_len h').2
  unfold maxLen at hm hm'
  by_cases hne : l.length = m.length
  · obtain ⟨n, hn⟩ : ∃ n : Nat, l.length = n := ⟨_, rfl⟩
    have Hr : Hid (∀ w' : World, Below w.heap.size w w' → ∀ j (hj : j < l.length), ∃ b off, a = some ⟨b, off, none⟩ ∧ b < w.heap.size ∧ w'.cell? ⟨b, off + j, none⟩ = some (.int .i64 l[j])) := fun w' hb j hj => ints_at (Cod.ok_below h hb) j hj
    have Hr' : Hid (∀ w' : World, Below w.heap.size w w' → ∀ j (hj : j < m.length), ∃ b off, a' = some ⟨b, off, none⟩ ∧ b < w.heap.size ∧ w'.cell? ⟨b, off + j, none⟩ = some (.int .i64 m[j])) := fun w' hb j hj => ints_at (Cod.ok_below h' hb) j hj
    clear h h'
    rw [← hne, hn]
    have Hn := Lib.hid hn
    have Hm : Hid (m.length = n) := by rw [← hne]; exact hn
    have hm2 : n ≤ 2 ^ 63 - 1 := by omega
    generalize hR : decide (l = m) = R
    have HR : Hid (decide (l.drop 0 = m.drop 0) = R) := hR
    clear hR hne hn hm hm'
    go_enter Try.func39, Try.ntmps39
    go_wp2
    go_loopw [13] (fun iv wr => ∃ k : Nat, k ≤ n ∧ iv = .int .i64 k ∧ Hid (decide (l.drop k = m.drop k) = R) ∧ Below w.heap.size w wr) (fun iv _ => n - (intOf iv).toNat)
    case atStart => exact ⟨0, by omega, by go_num, HR, Below.refl _ _⟩
    case round =>
      obtain ⟨k, hk, rfl, Hq, hb⟩ := hrel
      by_cases hlt : k < n
      · have hkl : k < l.length := by rw [Hn.out]; exact hlt
        have hkm : k < m.length := by rw [Hm.out]; exact hlt
        have Hst : Hid (R = (decide (l[k] = m[k]) && decide (l.drop (k + 1) = m.drop (k + 1)))) := by
          show R = _
          rw [← Hq.out, ← Bool.decide_and]; congr 1; rw [List.drop_eq_getElem_cons hkl, List.drop_eq_getElem_cons hkm, List.cons.injEq]
        obtain ⟨b, off, rfl, hbB, c0⟩ := Hr.out _ hb k hkl
        obtain ⟨b', off', rfl, hbB', c0'⟩ := Hr'.out _ hb k hkm
        generalize hrk : l[k] = r at *
        generalize hrk' : m[k] = r' at *
        clear hrk hrk'
        by_cases he : r = r'
        · have hn : (r != r') = false := by simp [he]
          have hst := Hst.out
          rw [decide_eq_true he, Bool.true_and] at hst
          have Hst2 := Lib.hid hst.symm
          clear hst Hst he
          go_wp2
          go_quiet (fail)
          go_wp2
          go_roundw
          case rel => exact ⟨k + 1, by omega, by go_num, Hst2, Below.drewN' hb _⟩
          case measure => simp [intOf]; omega
        · have hn : (r != r') = true := by simp [he]
          have hR : R = false := by have := Hst.out; rw [decide_eq_false he, Bool.false_and] at this; exact this
          clear Hst he
          go_wp2
          go_quiet (fail)
          go_wp2
          go_ret
          exact ⟨by rw [hR]; rfl, Below.drewN' hb _⟩
      · obtain rfl : k = n := by omega
        have hR : R = true := by
          have := Hq.out
          rw [List.drop_eq_nil_of_le (by rw [Hn.out]; exact Nat.le_refl _), List.drop_eq_nil_of_le (by rw [Hm.out]; exact Nat.le_refl _)] at this
          simpa using this.symm
        go_wp2
        go_ret
        exact ⟨by rw [hR]; rfl, hb⟩
  · rw [decide_eq_false (fun e => hne (by rw [e]))]
    have hne2 : (l.length != m.length) = true := by simpa using hne
    go_enter Try.func39, Try.ntmps39
    go_wp2
    go_ret
    exact ⟨rfl, Below.refl _ _⟩
end Go.Proofs.Ytpcjhnbifgjleaa

/- Chapter 3: keys: KeyOf and HaveSameKey, the program's side. -/
namespace Go.Proofs.Ytpcjhnbifgjleaa
open Go.RowKit
set_option linter.unusedVariables false
set_option maxRecDepth 100000

/-- The key's length of a relation, by its place. -/
def keyN (l : List Rel) (r : Int) : Nat := match l[r.toNat]? with | some q => q.key.toNat | none => 0
theorem validRels_all {l : List Rel} (h : validRels l = true) (k : Nat) (hk : k < l.length) : validRel l[k] = true := by
  unfold validRels at h
  rw [ascFrom_split] at h
  simp only [Bool.and_eq_true] at h
  exact List.all_eq_true.1 h.1.1 _ (List.getElem_mem hk)
theorem validRels_len {l : List Rel} (h : validRels l = true) : l.length ≤ 4 := by
  unfold validRels at h
  simp only [Bool.and_eq_true, decide_eq_true_eq] at h
  exact h.2
/-- A valid fact: its relation is there, the key is no longer than the values. -/
theorem validFact_key {l : List Rel} {x : Fct} (h : validFact l x = true) : ∃ (k p : Nat) (hk : k < l.length), x.rel = (k : Int) ∧ l[k].key = (p : Int) ∧ p ≤ x.vals.length ∧ x.vals.length ≤ 3 ∧ keyN l (k : Int) = p ∧ l[k].arity = (x.vals.length : Int) := by
  unfold validFact inB at h
  simp only [Bool.and_eq_true, decide_eq_true_eq] at h
  obtain ⟨h1, ⟨h2, h3⟩, h4, h5⟩ := h
  obtain ⟨k, hk0⟩ := Int.eq_ofNat_of_zero_le h2
  have hk : k < l.length := by omega
  have hv := validRels_all h1 k hk
  unfold validRel inB at hv
  simp only [Bool.and_eq_true, decide_eq_true_eq] at hv
  obtain ⟨_, ⟨h6, h7⟩, h8, h9⟩ := hv
  have har : arityAt l x.rel = l[k].arity := by unfold arityAt; rw [hk0]; simp [hk]
  rw [har] at h4
  obtain ⟨p, hp⟩ := Int.eq_ofNat_of_zero_le h8
  refine ⟨k, p, hk, hk0, hp, by omega, by omega, ?_, h4.symm⟩
  unfold keyN
  simp [hk, hp]
/-- Two facts of one relation, with one key. -/
def sameKey (l : List Rel) (x y : Fct) : Bool := decide (x.rel = y.rel) && decide (x.vals.take (keyN l x.rel) = y.vals.take (keyN l x.rel))
/-- The key's values of a fact. -/
def keyVals (l : List Rel) (x : Fct) : List Int := if validFact l x then x.vals.take (keyN l x.rel) else []

/-- HaveSameKey's answer. -/
def haveKey (l : List Rel) (x y : Fct) : Bool := validFact l x && (validFact l y && sameKey l x y)
end Go.Proofs.Ytpcjhnbifgjleaa
namespace Go.Proofs.Ytpcjhnbifgjleaa
set_option linter.unusedVariables false
theorem cmpL_trans : ∀ a b c : List Int, cmpL a b < 0 → cmpL b c < 0 → cmpL a c < 0
  | [], [], _, h, _ => by simp [cmpL] at h
  | [], _ :: _, [], _, h => by simp [cmpL] at h
  | [], _ :: _, _ :: _, _, _ => by simp [cmpL]
  | _ :: _, [], _, h, _ => by simp [cmpL] at h
  | _ :: _, _ :: _, [], _, h => by simp [cmpL] at h
  | x :: a, y :: b, z :: c, h1, h2 => by
    simp only [cmpL] at h1 h2 ⊢
    split at h1
    · split at h2
      · rw [if_pos (by omega)]; omega
      · split at h2
        · omega
        · rw [if_pos (by omega)]; omega
    · split at h1
      · omega
      · split at h2
        · rw [if_pos (by omega)]; omega
        · split at h2
          · omega
          · rw [if_neg (by omega), if_neg (by omega)]; exact cmpL_trans a b c h1 h2
theorem cmpL_zero : ∀ a b : List Int, cmpL a b = 0 ↔ a = b
  | [], [] => by simp [cmpL]
  | [], _ :: _ => by simp [cmpL]
  | _ :: _, [] => by simp [cmpL]
  | x :: a, y :: b => by
    simp only [cmpL]
    split
    · simp; omega
    · split
      · simp; omega
      · rw [cmpL_zero a b, List.cons.injEq]
        exact ⟨fun h => ⟨by omega, h⟩, fun h => h.2⟩
theorem cmpF_zero (x y : Fct) : cmpF x y = 0 ↔ x = y := by
  obtain ⟨r, v⟩ := x
  obtain ⟨s, u⟩ := y
  unfold cmpF
  simp only [Fct.mk.injEq]
  split
  · simp; omega
  · split
    · simp; omega
    · rw [cmpL_zero]
      exact ⟨fun h => ⟨by omega, h⟩, fun h => h.2⟩
theorem cmpF_trans (x y z : Fct) (h1 : cmpF x y < 0) (h2 : cmpF y z < 0) : cmpF x z < 0 := by
  unfold cmpF at *
  split at h1
  · split at h2
    · rw [if_pos (by omega)]; omega
    · split at h2
      · omega
      · rw [if_pos (by omega)]; omega
  · split at h1
    · omega
    · split at h2
      · rw [if_pos (by omega)]; omega
      · split at h2
        · omega
        · rw [if_neg (by omega), if_neg (by omega)]; exact cmpL_trans _ _ _ h1 h2
theorem take_mid : ∀ (p : Nat) (a b c : List Int), a.length = b.length → b.length = c.length → cmpL a b ≤ 0 → cmpL b c ≤ 0 → a.take p = c.take p → b.take p = c.take p
  | 0, _, _, _, _, _, _, _, _ => by simp
  | p + 1, [], [], [], _, _, _, _, _ => rfl
  | p + 1, x :: a, y :: b, z :: c, h1, h2, h3, h4, h5 => by
    simp only [List.take_succ_cons, List.cons.injEq] at h5 ⊢
    simp only [cmpL] at h3 h4
    obtain ⟨rfl, h5⟩ := h5
    have hxy : x = y := by
      split at h3 <;> split at h4 <;> try omega
      all_goals (split at h3 <;> try omega)
      all_goals (split at h4 <;> omega)
    subst hxy
    rw [if_neg (by omega), if_neg (by omega)] at h3 h4
    exact ⟨rfl, take_mid p a b c (by simpa using h1) (by simpa using h2) h3 h4 h5⟩
  | p + 1, [], _ :: _, _, h, _, _, _, _ => by simp at h
  | p + 1, _ :: _, [], _, h, _, _, _, _ => by simp at h
  | p + 1, [], [], _ :: _, _, h, _, _, _ => by simp at h
  | p + 1, _ :: _, _ :: _, [], _, h, _, _, _ => by simp at h
end Go.Proofs.Ytpcjhnbifgjleaa

/- Chapter 4: the model's functions on databases that hand back plain values. -/
namespace Go.Proofs.Ytpcjhnbifgjleaa
open Go.RowKit
set_option linter.unusedVariables false
set_option maxRecDepth 100000

/-- What stands before place k. -/
def prevG {α : Type} (l : List α) : Nat → Option α
  | 0 => none
  | k + 1 => l[k]?
/-- A fact behind another one. -/
def okF : Option Fct → Fct → Bool
  | none, _ => true
  | some q, x => !decide (cmpF q x ≥ 0)
/-- Valid facts, ascending from a fact on. -/
def factsFrom (rs : List Rel) : Option Fct → List Fct → Bool
  | _, [] => true
  | p, x :: l => validFact rs x && (okF p x && factsFrom rs (some x) l)
/-- A valid database. -/
def validDb (d : Dbs) : Bool := factsFrom d.rels none d.facts && (validRels d.rels && decide (d.facts.length ≤ 14))
theorem factsFrom_step (rs : List Rel) (l : List Fct) (k : Nat) (hk : k < l.length) : factsFrom rs (prevG l k) (l.drop k) = (validFact rs l[k] && (okF (prevG l k) l[k] && factsFrom rs (prevG l (k + 1)) (l.drop (k + 1)))) := by
  rw [List.drop_eq_getElem_cons hk]
  simp [factsFrom, prevG, hk]
theorem okF_succ (l : List Fct) (k : Nat) (hk : k < l.length) (x : Fct) : okF (prevG l (k + 1)) x = !decide (cmpF l[k] x ≥ 0) := by
  simp [prevG, hk, okF]

end Go.Proofs.Ytpcjhnbifgjleaa
namespace Go.Proofs.Ytpcjhnbifgjleaa
open Go.RowKit
set_option linter.unusedVariables false
set_option maxRecDepth 100000
/-- Facts ascending, behind a fact. -/
def ascF : Option Fct → List Fct → Bool
  | _, [] => true
  | p, x :: l => okF p x && ascF (some x) l
theorem ascF_step (l : List Fct) (k : Nat) (hk : k < l.length) : ascF (prevG l k) (l.drop k) = (okF (prevG l k) l[k] && ascF (prevG l (k + 1)) (l.drop (k + 1))) := by
  rw [List.drop_eq_getElem_cons hk]
  simp [ascF, prevG, hk]
theorem ascF_start (l : List Fct) : ascF none l = ascF (prevG l 1) (l.drop 1) := by
  cases l with
  | nil => rfl
  | cons r l => simp [ascF, prevG, okF]
theorem factsFrom_split (rs : List Rel) : ∀ (l : List Fct) (p : Option Fct), factsFrom rs p l = (l.all (validFact rs) && ascF p l)
  | [], _ => rfl
  | r :: l, p => by
    simp only [factsFrom, ascF, List.all_cons, factsFrom_split rs l]
    cases validFact rs r <;> cases okF p r <;> cases l.all (validFact rs) <;> simp
theorem validDb_eq (d : Dbs) : validDb d = ((validRels d.rels && decide (d.facts.length ≤ 14)) && (d.facts.all (validFact d.rels) && ascF none d.facts)) := by
  unfold validDb
  rw [factsFrom_split, Bool.and_comm]

end Go.Proofs.Ytpcjhnbifgjleaa

/- VarOne: Var VarK. -/
import Derived.Test.YtlhdagpimcafaaaDoorTyTre
import Derived.Test.YtlhdagpimcafaaaDoorApp
import Derived.Test.YtlhdagpimcafaaaDoorShelf
import Derived.Test.YtlhdagpimcafaaaDoorTyTwo
import Derived.Test.YtlhdagpimcafaaaDoorKeyOne
import Derived.Test.YtlhdagpimcafaaaDoorGrow
import Derived.Test.YtlhdagpimcafaaaDoorRelOne
import Derived.Deep.RegionHeld3
/- Chapter 11: the variables of a list of terms: l7Has, AtomVariables of both sides. -/
namespace Go.Proofs.YtlhdagpimcafaaaDoor
open Go.RowKit
set_option linter.unusedVariables false
set_option maxRecDepth 100000

theorem srcs_oneV (w : World) (v : Value) (e : TypeId) (h : v.oneCell' = true) : Srcs (w.alloc (.cells #[v] e)) 1 (some ⟨w.heap.size, 0, none⟩) 1 [v] :=
  ⟨rfl, fun u hu => by simp at hu; subst hu; exact h, .inr ⟨_, rfl, one_at w v e⟩⟩
theorem own_formV {w : World} {base : Nat} {e : TypeId} {v : Value} {n : Nat} {xs : List Value} (h : w.ownsRow base e 1 v n xs) : ∃ a cap, v = .slice a n cap := by
  rcases h.2 with ⟨rfl, h0⟩ | ⟨g, cp, cur, rfl, _⟩
  · exact ⟨none, 0, by rw [h0]⟩
  · exact ⟨_, _, rfl⟩
theorem own_pushV {w w' : World} {base : Nat} {e : TypeId} {v' : Value} {n : Nat} {l : List Int} {x : Int} (h : w'.ownsRow base e 1 v' (n + 1) (l.map iv ++ [.int .i64 x])) : w'.ownsRow base e 1 v' (l ++ [x]).length ((l ++ [x]).map iv) := by
  have hn := h.1
  simp at hn
  rw [List.map_append, List.length_append, List.length_singleton]
  subst hn
  exact h
theorem row_emptyV (w : World) (e : TypeId) (base : Nat) (h : base ≤ w.heap.size) : (w.alloc (.cells #[] e)).ownsRow base e 1 (.slice (some ⟨w.heap.size, 0, none⟩) 0 0) 0 [] :=
  ⟨rfl, .inr ⟨w.heap.size, 0, #[], rfl, h, heap_alloc_new w _, by simp, by simp, by simp, by simp⟩⟩

/-- The variables below k that stand in a list of terms, ascending. -/
def vPart (l : List Int) (k : Nat) : List Int := ((List.range k).filter fun (v : Nat) => l.contains (v : Int)).map fun (v : Nat) => (v : Int)
def varsL (l : List Int) : List Int := vPart l 4
theorem vPart_succ (l : List Int) (k : Nat) : vPart l (k + 1) = if l.contains (k : Int) = true then vPart l k ++ [(k : Int)] else vPart l k := by
  unfold vPart
  rw [List.range_succ, List.filter_append, List.map_append]
  cases h : l.contains (k : Int)
  · rw [if_neg Bool.false_ne_true, List.filter_cons, if_neg (by rw [h]; exact Bool.false_ne_true)]; simp
  · rw [if_pos rfl, List.filter_cons, if_pos h]; rfl
theorem vPart_len (l : List Int) (k : Nat) : (vPart l k).length ≤ k := by
  unfold vPart
  rw [List.length_map]
  exact Nat.le_trans (List.length_filter_le _ _) (by simp)
theorem varsL_bnd (l : List Int) : (varsL l).length ≤ 4611686018427000000 := Nat.le_trans (vPart_len l 4) (by decide)
theorem vPart_inR (l : List Int) (k : Nat) (hk : k ≤ 4) : ∀ x, x ∈ vPart l k → inR x := by
  intro x hx
  obtain ⟨v, hv, rfl⟩ := List.mem_map.1 hx
  have := List.mem_range.1 (List.mem_filter.1 hv).1
  unfold inR
  omega
theorem contains_drop (l : List Int) (x : Int) (k : Nat) (hk : k < l.length) : (l.drop k).contains x = (l[k] == x || (l.drop (k + 1)).contains x) := by
  rw [List.drop_eq_getElem_cons hk, List.contains_cons, Bool.beq_comm]
theorem l7Has_c {a : Option Addr} {cap : Nat} {l : List Int} {x : Int} {w : World} (h : At (cSlice cInt) w l [.slice a l.length cap]) :
    Calls Tryd.prog 55 #[.slice a l.length cap, .int .i64 x] w fun e w' => e = .returned (.bool (l.contains x)) ∧ Below w.heap.size w w' := by
  have hm := (slice_len h).2
  unfold maxLen at hm
  have Hr : Hid (∀ w' : World, Below w.heap.size w w' → ∀ j (hj : j < l.length), _) := fun w' hb j hj => ints_at (Cod.ok_below h hb) j hj
  obtain ⟨n, hn⟩ : ∃ n : Nat, l.length = n := ⟨_, rfl⟩
  have Hn := Lib.hid hn
  rw [hn] at hm ⊢
  clear hn h
  generalize hR : l.contains x = R
  have HR : Hid ((l.drop 0).contains x = R) := hR
  clear hR
  go_enter Tryd.func55, Tryd.ntmps55
  go_wp2
  go_loopw [5] (fun iv wr => ∃ k : Nat, k ≤ n ∧ iv = .int .i64 k ∧ Hid ((l.drop k).contains x = R) ∧ Below w.heap.size w wr) (fun iv _ => n - (intOf iv).toNat)
  case atStart => exact ⟨0, by omega, by go_num, HR, Below.refl _ _⟩
  case round =>
    clear HR
    obtain ⟨k, hk, rfl, Hq, hb⟩ := hrel
    by_cases hlt : k < n
    · have hkl : k < l.length := by rw [Hn.out]; exact hlt
      have Hst := Lib.hid (Hq.out.symm.trans (contains_drop l x k hkl))
      obtain ⟨b, off, rfl, hbB, c0⟩ := Hr.out _ hb k hkl
      clear Hq
      generalize l[k] = e at *
      cases he : (e == x) with
      | true =>
        have hR : Hid (R = true) := by have h := Hst.out; rw [he, Bool.true_or] at h; exact h
        go_wp2
        go_ret
        exact ⟨by rw [hR.out]; rfl, hb⟩
      | false =>
        have Hs2 : Hid ((l.drop (k + 1)).contains x = R) := by have h := Hst.out; rw [he, Bool.false_or] at h; exact h.symm
        go_wp2
        go_roundw
        case rel => exact ⟨k + 1, by omega, by go_num, Hs2, hb⟩
        case measure => simp [intOf]; omega
    · obtain rfl : k = n := by omega
      have hR : Hid (R = false) := by
        have h := Hq.out
        rw [List.drop_eq_nil_of_le (by rw [Hn.out]; exact Nat.le_refl _)] at h
        exact h.symm
      go_wp2
      go_ret
      exact ⟨by rw [hR.out]; rfl, hb⟩

end Go.Proofs.YtlhdagpimcafaaaDoor
namespace Go.Proofs.YtlhdagpimcafaaaDoor
open Go.RowKit
set_option linter.unusedVariables false
set_option maxRecDepth 100000
/-- The length of the key of the relation at an index. -/
def keyAtV (l : List Rel) (r : Int) : Int := match l[r.toNat]? with
  | some q => q.key
  | none => 0
def keyVarsL (l : List Rel) (x : Atm) : List Int :=
  if (inB x.rel 0 ((l.length : Int) - 1) && inB (keyAtV l x.rel) 0 (x.terms.length : Int)) = true then varsL (x.terms.take (keyAtV l x.rel).toNat) else []
theorem keyVarsL_bnd (l : List Rel) (x : Atm) : (keyVarsL l x).length ≤ 4611686018427000000 := by
  unfold keyVarsL
  split
  · exact varsL_bnd _
  · simp
theorem keyAtV_at (l : List Rel) (k : Nat) (hk : k < l.length) : keyAtV l (k : Int) = l[k].key := by
  unfold keyAtV
  simp [hk]
theorem isIndexV_any (i n : Int) (w : World) :
    Calls Tryd.prog 40 #[.int .i64 i, .int .i64 n] w fun e w' => e = .returned (.bool (inB i 0 (n - 1))) ∧ w = w' := by
  unfold inB
  have e : decide (i ≤ n - 1) = decide (i < n) := by simp; omega
  rw [e]
  clear e
  by_cases h : 0 ≤ i
  · go_enter Tryd.func40, Tryd.ntmps40
    go_wp2
    go_ret
    exact ⟨by simp; try omega, rfl⟩
  · go_enter Tryd.func40, Tryd.ntmps40
    go_wp2
    go_ret
    exact ⟨by simp; try omega, rfl⟩

end Go.Proofs.YtlhdagpimcafaaaDoor

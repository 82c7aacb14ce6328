/- A map of the call's own from numbers to bools: what stands for true in it. -/
import Derived.Test.YtpoackngngdhlaaDoorTyOne
import Derived.Maps.OwnSet
import Derived.Maps.Views
import Derived.Maps.OwnOps
namespace Go.Proofs.YtpoackngngdhlaaDoor
open Go.RowKit
set_option linter.unusedVariables false
set_option maxRecDepth 100000

theorem mapKeyed : Go.Maps.Keyed Tryd.prog 3 := Go.Maps.int_keyed Tryd.underlying3
theorem boolZero (w : World) : (zeroValue 4).run Tryd.prog w = .ok (.bool false) w := by kernel_rfl
theorem plainElem_bool_inv {H : Type} {v : Value} {z : DataW H × List MemPlace} (h : plainElem Tryd.prog 4 v = some z) : ∃ x, v = .bool x ∧ z = (.lit (.bool x), []) := by
  unfold plainElem at h
  rw [Tryd.underlying4] at h
  cases v <;> simp at h
  exact ⟨_, rfl, h.symm⟩
/-- Block b is a map of n entries at most in which x stands for true exactly if M x. -/
def SetAt (w : World) (b n : Nat) (M : Int → Bool) : Prop :=
  ∃ D : DataW Unit, w.ownsMap Tryd.prog 3 (plainElem Tryd.prog 4) b n D ∧ ∀ x, D.atKey (.int .i64 x) (.lit (.bool false)) = .lit (.bool (M x))
theorem SetAt.made (w : World) : SetAt (w.alloc (.map #[] 0)) w.heap.size 0 (fun _ => false) :=
  ⟨_, World.ownsMap_made _ _ _ _, fun x => rfl⟩
theorem SetAt.lt {w : World} {b n : Nat} {M : Int → Bool} (h : SetAt w b n M) : b < w.heap.size := h.choose_spec.1.lt
theorem SetAt.kept {w w' : World} {b n : Nat} {M : Int → Bool} {row : Option Nat} (h : SetAt w b n M) (hg : w.grownBy w' row) (hne : some b ≠ row) : SetAt w' b n M := by
  obtain ⟨D, h1, h2⟩ := h
  exact ⟨D, h1.kept hg hne, h2⟩
theorem SetAt.block {w w' : World} {b n : Nat} {M : Int → Bool} (h : SetAt w b n M) (hb : w'.heap[b]? = w.heap[b]?) : SetAt w' b n M := by
  obtain ⟨D, ⟨es, clock, h0, r⟩, h2⟩ := h
  exact ⟨D, ⟨es, clock, hb.trans h0, r⟩, h2⟩
theorem SetAt.next {w w' : World} {b n : Nat} {M : Int → Bool} (h : SetAt w b n M) (hb : Below w.heap.size w w') : SetAt w' b n M := h.block (hb.block _ h.lt)
theorem inR_wf {x : Int} (h : inR x) : (Lit.int .i64 x).wf = true := by
  unfold inR at h
  simp only [Lit.wf, Bool.and_eq_true, decide_eq_true_eq]
  exact ⟨h.1, h.2⟩
theorem SetAt.look {w : World} {b n : Nat} {M : Int → Bool} (h : SetAt w b n M) {x : Int} (hx : inR x) {t : TypeId} (ht : Tryd.prog.underlying t = some (.map 3 4)) :
    (Instr.lookup t (.map (some b)) (.int .i64 x) false).run Tryd.prog w = .ok (.bool (M x)) w := by
  obtain ⟨D, h1, h2⟩ := h
  obtain ⟨v, ps, hrun, hv⟩ := h1.lookup mapKeyed ht (boolZero w) (plainElem_bool Tryd.underlying4 false) (Go.Maps.keyOf_int_mk Tryd.underlying3 (inR_wf hx))
  obtain ⟨y, rfl, hy⟩ := plainElem_bool_inv hv
  have e := congrArg Prod.fst hy
  simp only [h2 x] at e
  cases e
  exact hrun
theorem SetAt.put {w : World} {b n : Nat} {M : Int → Bool} (h : SetAt w b n M) (hn : n < maxLen) {x : Int} (hx : inR x) {t : TypeId} (ht : Tryd.prog.underlying t = some (.map 3 4)) :
    ∃ w', (Instr.mapUpdate t (.map (some b)) (.int .i64 x) (.bool true)).run Tryd.prog w = .ok () w' ∧ SetAt w' b (n + 1) (fun y => M y || decide (y = x)) ∧ w.grownBy w' (some b) := by
  obtain ⟨D, h1, h2⟩ := h
  have hkey := Go.Maps.keyOf_int_mk Tryd.underlying3 (inR_wf hx)
  obtain ⟨w', hrun, hown, hg⟩ := h1.update mapKeyed ht hn hkey (plainElem_bool Tryd.underlying4 true)
  refine ⟨w', hrun, ⟨_, hown, fun y => ?_⟩, hg⟩
  by_cases hy : y = x
  · subst hy
    rw [Go.Maps.atKey_put_same h1.isMap (mapKeyed.key hkey)]
    simp
  · rw [Go.Maps.atKey_put_other (by simpa using hy), h2 y]
    simp [hy]
end Go.Proofs.YtpoackngngdhlaaDoor


/- Chapters 8, 9: edges between facts; the constraints' conflicts. -/
import Derived.Test.YtlcogbmceanghaaDoorRnkOne
import Derived.Test.YtlcogbmceanghaaDoorAbThr
import Derived.Test.YtlcogbmceanghaaDoorViol2
open Go Go.Proofs Go.RowKit
namespace Go.Proofs.YtlcogbmceanghaaDoor.Ab
set_option linter.unusedSimpArgs false
set_option linter.unusedVariables false
set_option maxRecDepth 100000
def eDcn : Enc cDcn := eMap _ (ePair eInt (ePair eInt (ePair eInt (ePair eInt (ePair eInt (ePair eInt eInt))))))
def factS (x : Fct) : S := .a [.d (.v (.int .i64 x.rel)), .d (encIs x.vals)]
def dcS (c : Dcn) : S := .a [.d (.v (.int .i64 c.r1)), .d (.v (.int .i64 c.r2)), .d (.v (.int .i64 c.j1)), .d (.v (.int .i64 c.j2)), .d (.v (.int .i64 c.c1)), .d (.v (.int .i64 c.c2)), .d (.v (.int .i64 c.cmp))]
theorem fact_cut {x : Fct} (g : eFct.good x) {w : World} {K : Nat → Nat → Prop} {ov : Nat → Value} {v : Value} (hK : ∀ b o, K b o → b < w.heap.size) (hr : RdS w (ghA K ov) (factS x) v) :
    ∃ a cap, v = .agg #[.int .i64 x.rel, .slice a x.vals.length cap] ∧ At cFct w x [.int .i64 x.rel, .slice a x.vals.length cap] := by
  obtain ⟨vs, rfl, h⟩ := eFct.atA (x := x) g hK hr
  obtain ⟨a1, c1, rfl, h⟩ := cFct_open h
  exact ⟨a1, c1, rfl, h⟩
theorem dc_cut {c : Dcn} {w : World} {K : Nat → Nat → Prop} {ov : Nat → Value} {v : Value} (g : eDcn.good c) (hK : ∀ b o, K b o → b < w.heap.size) (hr : RdS w (ghA K ov) (dcS c) v) :
    v = .agg #[.int .i64 c.r1, .int .i64 c.r2, .int .i64 c.j1, .int .i64 c.j2, .int .i64 c.c1, .int .i64 c.c2, .int .i64 c.cmp] ∧ At cDcn w c [.int .i64 c.r1, .int .i64 c.r2, .int .i64 c.j1, .int .i64 c.j2, .int .i64 c.c1, .int .i64 c.c2, .int .i64 c.cmp] := by
  obtain ⟨vs, rfl, h⟩ := eDcn.atA (x := c) g hK hr
  have := cDcn_open h
  obtain ⟨rfl, h⟩ := this
  exact ⟨rfl, h⟩
theorem rels_cut {l : List Rel} (g : (eSlice eRel).good l) {w : World} {K : Nat → Nat → Prop} {ov : Nat → Value} {v : Value} (hK : ∀ b o, K b o → b < w.heap.size) (hr : RdS w (ghA K ov) (.d (encRs l)) v) :
    ∃ a cap, v = .slice a l.length cap ∧ At (cSlice cRel) w l [.slice a l.length cap] := by
  have h := (eSlice eRel).at1 (x := l) rfl g hK hr
  obtain ⟨a, cap, e, _⟩ := id h
  injection e with e
  subst e
  exact ⟨a, cap, rfl, h⟩
/-- The edges from a to places before b. -/
def rowP (P : Nat → Nat → Bool) (a b : Nat) : List Edg := ((List.range b).filter fun k => decide (a < k) && P a k).map fun k : Nat => ⟨(a : Int), (k : Int)⟩
def edgP (n : Nat) (P : Nat → Nat → Bool) (a : Nat) : List Edg := (List.range a).flatMap fun i => rowP P i n
/-- All edges among n, in order. -/
def edgesL (n : Nat) (P : Nat → Nat → Bool) : List Edg := edgP n P n
theorem rowP_step (P : Nat → Nat → Bool) (a b : Nat) (h : a < b) : rowP P a (b + 1) = rowP P a b ++ (if P a b = true then [⟨(a : Int), (b : Int)⟩] else []) := by
  unfold rowP
  rw [List.range_succ, List.filter_append, List.map_append]
  congr 1
  simp only [List.filter_cons, List.filter_nil, h, decide_true, Bool.true_and]
  split <;> rfl
theorem rowP_start (P : Nat → Nat → Bool) (a : Nat) : rowP P a (a + 1) = [] := by
  unfold rowP
  rw [List.filter_eq_nil_iff.2, List.map_nil]
  intro k hk
  have := List.mem_range.1 hk
  simp
  omega
theorem rowP_len (P : Nat → Nat → Bool) (a b : Nat) : (rowP P a b).length ≤ b := by
  unfold rowP
  rw [List.length_map]
  exact Nat.le_trans (List.length_filter_le _ _) (by simp)
theorem edgP_step (n : Nat) (P : Nat → Nat → Bool) (a : Nat) : edgP n P (a + 1) = edgP n P a ++ rowP P a n := by
  unfold edgP
  rw [List.range_succ, List.flatMap_append]
  simp
theorem edgP_len (n : Nat) (P : Nat → Nat → Bool) : ∀ a, (edgP n P a).length ≤ a * n
  | 0 => by simp [edgP]
  | a + 1 => by
    rw [edgP_step, List.length_append, Nat.succ_mul]
    have := edgP_len n P a
    have := rowP_len P a n
    omega
theorem getC {l : List Dcn} {i : Nat} (h : i < l.length) : (l.map encC)[i]? = some (encC l[i]) := by simp [h]
/-- Two facts in conflict: by a key or by a constraint. -/
def confP (d : Dbs) (L : List Dcn) (a b : Nat) : Bool := keyR d a b || L.any fun c => violates d c a b || violates d c b a
def conflL (d : Dbs) (L : List Dcn) : List Edg := if validDb d then edgesL d.facts.length (confP d L) else []
theorem viol_eq {d : Dbs} (hv : validDb d = true) {a b : Nat} (ha : a < d.facts.length) (hb : b < d.facts.length) (hab : a ≠ b) (c : Dcn) : violates d c a b = (fits d.rels c && forb c d.facts[a] d.facts[b]) := by
  unfold violates validCon forbAt
  have h1 : inB (a : Int) 0 ((d.facts.length : Int) - 1) = true := by unfold inB; simp; omega
  have h2 : inB (b : Int) 0 ((d.facts.length : Int) - 1) = true := by unfold inB; simp; omega
  have h3 : decide ((a : Int) = (b : Int)) = false := by simp; omega
  rw [hv, h1, h2, h3, Int.toNat_natCast, Int.toNat_natCast, List.getElem?_eq_getElem ha, List.getElem?_eq_getElem hb]
  simp
theorem facts_good {d : Dbs} (g : eDbs.good d) {a : Nat} (h : a < d.facts.length) : eFct.good d.facts[a] := g.2.2 _ (List.getElem_mem h)
end Go.Proofs.YtlcogbmceanghaaDoor.Ab

/- Chapter 8: IsIndependent, the program's: a set of numbers kept in a map of its own. -/
import Derived.Test.YteabehbpfhfljaaDoorMp
import Derived.Test.YteabehbpfhfljaaDoorEdge1
namespace Go.Proofs.YteabehbpfhfljaaDoor
open Go.RowKit
set_option linter.unusedVariables false
set_option maxRecDepth 100000

theorem wpList_lookup_set {w : World} {ops : Array Oper} {rest : List Oper} {o : Oper} {a : Act} {Q : Exit → Act → World → Prop}
    (hg : o.guard = none) (m x : Operand) (t : TypeId) (hop : o.op = Op.lookup t m x false) (ht : Tryd.prog.underlying t = some (.map 3 4))
    (b n : Nat) (M : Int → Bool) (hset : SetAt w b n M) (hm : a.eval m = .map (some b)) (y : Int) (hx : a.eval x = .int .i64 y) (hy : inR y) (c : Bool) (hc : M y = c)
    (hK : wpList Tryd.prog ops Q rest (a.put o.dst (.bool c)) w) : wpList Tryd.prog ops Q (o :: rest) a w := by
  refine wpList_plain hg fun K' hK' => ?_
  have hrun := hset.look hy ht
  rw [hc] at hrun
  unfold Oper.wp
  simp [execOp, hop, hm, hx, hrun, Result.andThen]
  exact hK' _ _ hK
theorem wpList_put_set {w : World} {ops : Array Oper} {rest : List Oper} {o : Oper} {a : Act} {Q : Exit → Act → World → Prop}
    (hg : o.guard = none) (m x v : Operand) (t : TypeId) (hop : o.op = Op.mapUpdate t m x v) (ht : Tryd.prog.underlying t = some (.map 3 4))
    (b n : Nat) (M : Int → Bool) (hset : SetAt w b n M) (hn : n < maxLen) (hm : a.eval m = .map (some b)) (y : Int) (hx : a.eval x = .int .i64 y) (hv : a.eval v = .bool true) (hy : inR y)
    (hK : ∀ w', SetAt w' b (n + 1) (fun z => M z || decide (z = y)) → w.grownBy w' (some b) → wpList Tryd.prog ops Q rest (a.put o.dst undef) w') : wpList Tryd.prog ops Q (o :: rest) a w := by
  refine wpList_plain hg fun K' hK' => ?_
  obtain ⟨w', hrun, r1, r2⟩ := hset.put hn hy ht
  unfold Oper.wp
  simp [execOp, hop, hm, hx, hv, hrun, Result.andThen]
  exact hK' _ _ (hK w' r1 r2)
/-- No edge lies within the set. -/
def indE (l : List Edg) (s : List Int) : Bool := l.all fun e => !(s.contains e.a && s.contains e.b)
theorem take_has (s : List Int) (k : Nat) (hk : k < s.length) (z : Int) : (s.take (k + 1)).contains z = ((s.take k).contains z || decide (z = s[k])) := by
  rw [List.take_succ_eq_append_getElem hk, Bool.eq_iff_iff]
  simp only [List.contains_iff_mem, List.mem_append, List.mem_singleton, Bool.or_eq_true, decide_eq_true_eq]
end Go.Proofs.YteabehbpfhfljaaDoor

/- Answers of two parts, the first the call's own. -/
import Derived.Test.YtknnnebjjjldpabAbBr
namespace Go.Proofs.Ytknnnebjjjldpab.Ab
open Go.RowKit
set_option linter.unusedSimpArgs false
set_option linter.unusedVariables false
set_option maxRecDepth 100000
theorem RdV.o2 {α : Type} {c : Cod α} {p : Enc c} {x : α} {d : D} {k : Nat} {y v : Value} {w w' : World} {K : Nat → Nat → Prop} (hd : p.e x = [d]) (g : p.good x) (h : RdV w K w' (.t [.o k d, .d (.v y)]) v) : ∃ u, v = .tuple #[u, y] ∧ Own c w.heap.size w' x [u] := by
  obtain ⟨F, ov, h1, h2, h3⟩ := h
  simp only [RdS, RdSs, RdD] at h1
  obtain ⟨cs, rfl, u, c2, rfl, hu, u2, c4, rfl, ⟨rfl, _⟩, rfl⟩ := h1
  refine ⟨u, rfl, p.own1 (K := K) (k := k) hd g ⟨F, ov, ?_, fun q hq => h2 q ?_, fun q r hq hr => h3 q r ?_ ?_⟩⟩
  · simp only [RdS]; exact hu
  · simpa [S.os, S.oss] using hq
  · simpa [S.os, S.oss] using hq
  · simpa [S.os, S.oss] using hr
theorem RdV.a2 {α : Type} {c : Cod α} {p : Enc c} {x : α} {l : List S} {y v : Value} {w w' : World} {K : Nat → Nat → Prop} (hd : Parts l (p.e x)) (g : p.good x) (hn : ((S.oss l).map (·.1)).Nodup) (h : RdV w K w' (.t [.a l, .d (.v y)]) v) : ∃ cs : List Value, v = .tuple #[.agg cs.toArray, y] ∧ Own c w.heap.size w' x cs := by
  obtain ⟨F, ov, h1, h2, h3⟩ := h
  simp only [RdS, RdSs, RdD] at h1
  obtain ⟨cs, rfl, u, c2, rfl, hu, u2, c4, rfl, ⟨rfl, _⟩, rfl⟩ := h1
  obtain ⟨es, rfl, ho⟩ := p.ownA (K := K) (v := u) hd g hn ⟨F, ov, by simp only [RdS]; exact hu, fun q hq => h2 q (by simpa [S.os, S.oss] using hq), fun q r hq hr => h3 q r (by simpa [S.os, S.oss] using hq) (by simpa [S.os, S.oss] using hr)⟩
  exact ⟨es, rfl, ho⟩
end Go.Proofs.Ytknnnebjjjldpab.Ab


/- What the model answers: it stands there, below a block. -/
import Derived.Test.YtpofglamcaikfaaMarkOne
import Derived.Test.YtpofglamcaikfaaAbThr
open Go Go.Proofs Go.RowKit
namespace Go.Proofs.Ytpofglamcaikfaa
set_option linter.unusedVariables false
/-- The datum stands there, in blocks below hi. -/
def AtIn {α : Type} (c : Cod α) (lo hi : Nat) (w : World) (x : α) (cs : List Value) : Prop := c.ok hi w x cs
theorem AtIn.at {α : Type} {c : Cod α} {lo hi : Nat} {w : World} {x : α} {cs : List Value} (h : AtIn c lo hi w x cs) (hs : hi ≤ w.heap.size) : At c w x cs := c.keep h (fun _ _ => rfl) hs
theorem AtIn.next {α : Type} {c : Cod α} {lo hi : Nat} {w W w' : World} {x : α} {cs : List Value} (h : AtIn c lo hi w x cs) (hs : hi ≤ w.heap.size) (hb : Below W.heap.size W w') (hW : W.heap = w.heap := by rfl) : AtIn c lo hi w' x cs :=
  c.keep h (fun k hk => by rw [← hW]; exact hb.block k (by rw [hW]; omega)) (Nat.le_refl _)
theorem AtIn.only {α : Type} {c : Cod α} {lo hi lo' hi' : Nat} {F : List Nat} {w w' : World} {x : α} {cs : List Value} (h : AtIn c lo hi w x cs) (ho : Only F w w') (hF : ∀ k, k ∈ F → lo' ≤ k ∧ k < hi') (hs : hi ≤ w.heap.size) (hd : hi ≤ lo') : AtIn c lo hi w' x cs :=
  c.keep h (fun k hk => ho.block k (by omega) (fun hm => by have := hF k hm; omega)) (Nat.le_refl _)
namespace Ab
section
variable {α : Type} {c : Cod α} (p : Enc c)
theorem RdV.at1 {w w' : World} {x : α} {v : Value} {d : D} (hd : p.e x = [d]) (g : p.good x) (h : RdV w (fun b _ => b < w.heap.size) w' (.d d) v) (hs : w.heap.size ≤ w'.heap.size) : At c w' x [v] := by
  obtain ⟨F, ov, h1, _⟩ := h
  exact p.at1 hd g (fun b o hb => by rcases hb with hb | hb <;> omega) h1
theorem RdV.atO {w w' : World} {x : α} {v : Value} {d : D} {k : Nat} (hd : p.e x = [d]) (g : p.good x) (h : RdV w (fun b _ => b < w.heap.size) w' (.o k d) v) (hs : w.heap.size ≤ w'.heap.size) : At c w' x [v] := (p.own1 hd g h).at
/-- The first of two answers. -/
theorem RdV.at2 {w w' : World} {x : α} {v y : Value} {d : D} (hd : p.e x = [d]) (g : p.good x) (h : RdV w (fun b _ => b < w.heap.size) w' (.t [.d d, .d (.v y)]) v) (hs : w.heap.size ≤ w'.heap.size) : ∃ u, v = .tuple #[u, y] ∧ At c w' x [u] := by
  obtain ⟨F, ov, h1, _⟩ := h
  simp only [RdS, RdSs] at h1
  obtain ⟨cs, rfl, c1, c2, rfl, h2, c3, c4, rfl, h3, rfl⟩ := h1
  simp only [RdD] at h3
  obtain ⟨rfl, _⟩ := h3
  exact ⟨c1, rfl, p.at1 (w := w') (K := fun b o => b < w.heap.size ∨ (w.heap.size ≤ b ∧ b < w'.heap.size)) (ov := ov) hd g (fun b o hb => by rcases hb with hb | hb <;> omega) (by simpa only [RdS] using h2)⟩
theorem RdV.atA {w w' : World} {x : α} {v : Value} (g : p.good x) (h : RdV w (fun b _ => b < w.heap.size) w' (.a ((p.e x).map S.d)) v) (hs : w.heap.size ≤ w'.heap.size) : ∃ cs : List Value, v = .agg cs.toArray ∧ At c w' x cs := by
  obtain ⟨F, ov, h1, _⟩ := h
  exact p.atA g (fun b o hb => by rcases hb with hb | hb <;> omega) h1
theorem RdV.atA2 {w w' : World} {x : α} {v y : Value} (g : p.good x) (h : RdV w (fun b _ => b < w.heap.size) w' (.t [.a ((p.e x).map S.d), .d (.v y)]) v) (hs : w.heap.size ≤ w'.heap.size) : ∃ cs : List Value, v = .tuple #[.agg cs.toArray, y] ∧ At c w' x cs := by
  obtain ⟨F, ov, h1, _⟩ := h
  simp only [RdS, RdSs] at h1
  obtain ⟨cs, rfl, c1, c2, rfl, h2, c3, c4, rfl, h3, rfl⟩ := h1
  simp only [RdD] at h3
  obtain ⟨rfl, _⟩ := h3
  obtain ⟨us, rfl, h4⟩ := p.atA (w := w') (K := fun b o => b < w.heap.size ∨ (w.heap.size ≤ b ∧ b < w'.heap.size)) (ov := ov) g (fun b o hb => by rcases hb with hb | hb <;> omega) (by simpa only [RdS] using h2)
  exact ⟨us, rfl, h4⟩
end
end Ab
end Go.Proofs.Ytpofglamcaikfaa


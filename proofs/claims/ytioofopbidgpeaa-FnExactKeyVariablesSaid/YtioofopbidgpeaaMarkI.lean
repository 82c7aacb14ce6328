/- The laws' marks in atoms. -/
import Derived.Test.YtioofopbidgpeaaMarkD
import Derived.Test.YtioofopbidgpeaaTyF
namespace Go.Proofs.Ytioofopbidgpeaa
open Go.RowKit
set_option linter.unusedVariables false
set_option maxRecDepth 100000

theorem cAtm_ownI {F : List Nat} {w : World} {x : Atm} {v0 v1 : Value} (h : cAtm.own F w x [v0, v1]) : v0 = .int .i64 x.rel ∧ inR x.rel ∧ (cSlice cInt).own F w x.terms [v1] := by
  obtain ⟨_, _, F1, F2, e, ⟨⟨rfl, hr⟩, rfl⟩, h2, rfl, _⟩ := h
  simp at e
  obtain ⟨rfl, rfl⟩ := e
  exact ⟨rfl, hr, by simpa using h2⟩
theorem cAtm_ownMk {F : List Nat} {w : World} {x : Atm} {v1 : Value} (hr : inR x.rel) (h : (cSlice cInt).own F w x.terms [v1]) : cAtm.own F w x [.int .i64 x.rel, v1] := ⟨[_], [_], [], F, rfl, ⟨⟨rfl, hr⟩, rfl⟩, h, rfl, by simp⟩
theorem cAtm_ownOpen {F : List Nat} {w : World} {x : Atm} {cs : List Value} (h : cAtm.own F w x cs) : ∃ a cap, cs = [.int .i64 x.rel, .slice a x.terms.length cap] ∧ cAtm.own F w x [.int .i64 x.rel, .slice a x.terms.length cap] := by
  have h0 := h
  obtain ⟨_, _, F1, F2, rfl, ⟨⟨rfl, hr⟩, rfl⟩, h2, rfl, _⟩ := h
  obtain ⟨a, cap, rfl, _⟩ := h2
  exact ⟨a, cap, rfl, h0⟩
theorem markAtom_c {F : List Nat} {a : Option Addr} {cap : Nat} {x : Atm} {k : Nat} {w : World} (hk : (k + x.terms.length : Nat) ≤ 4611686018427387904) (hF : ∀ k, k ∈ F → k < w.heap.size) (h : cAtm.own F w x [.int .i64 x.rel, .slice a x.terms.length cap]) :
    Calls Try.prog 28 #[.agg #[.int .i64 x.rel, .slice a x.terms.length cap], .int .i64 k] w fun e w' => e = .returned (.int .i64 ((k + x.terms.length : Nat) : Int)) ∧ cAtm.own F w' ⟨x.rel, markI k x.terms⟩ [.int .i64 x.rel, .slice a x.terms.length cap] ∧ Only F w w' := by
  obtain ⟨_, hr, h2⟩ := cAtm_ownI h
  have H : Hid (∀ ww, Below w.heap.size w ww → Calls Try.prog 29 #[.slice a x.terms.length cap, .int .i64 k] ww fun e w' => e = .returned (.int .i64 ((k + x.terms.length : Nat) : Int)) ∧ (cSlice cInt).own F w' (markI k x.terms) [.slice a x.terms.length cap] ∧ Only F ww w') :=
    fun ww hb => markIntS_c hk (fun q hq => Nat.lt_of_lt_of_le (hF q hq) hb.size) ((cSlice cInt).keepO h2 (fun q hq => hb.block q (hF q hq)))
  have Hr := Lib.hid hr
  clear h h2 hr hF
  obtain ⟨r, l⟩ := x
  simp only at *
  go_enter Try.func28, Try.ntmps28
  go_wp2_with fail
  refine (H.out _ ?hb).mono ?_
  case hb => go_grown
  rintro e w1 ⟨rfl, hown, ho⟩
  have hbb : Only F w w1 := Only.trans (H := F) (Only.of_below (F := F) (by go_grown)) ho (fun _ h => h) (fun _ h => h)
  have Hown := Lib.hid hown
  clear hown ho
  go_wp2
  go_ret
  exact ⟨rfl, cAtm_ownMk (x := ⟨r, markI k l⟩) Hr.out Hown.out, hbb⟩
end Go.Proofs.Ytioofopbidgpeaa

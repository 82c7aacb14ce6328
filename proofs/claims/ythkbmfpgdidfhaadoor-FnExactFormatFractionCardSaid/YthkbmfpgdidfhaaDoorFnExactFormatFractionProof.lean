/- FnExactFormatFraction: FormatFraction: for all arguments the program's answer is the model's and the arguments read as before; arguments of more than 1 MiB are let by in the statement itself. -/
import Derived.Test.YthkbmfpgdidfhaaDoorRows
import Derived.Test.YthkbmfpgdidfhaaDoorCards
import Derived.Test.YthkbmfpgdidfhaaDoorTie
import Derived.WalkKit
import Derived.Test.YthkbmfpgdidfhaaDoorRowFr
import Derived.Test.YthkbmfpgdidfhaaDoorTyFr
import Derived.Test.YthkbmfpgdidfhaaDoorCFormatFraction
import Derived.Deep.Cut
import Derived.LaidMore
import Derived.Stop.Joined
import Derived.SevenTiedAt
import Derived.ProofKit
import Derived.OpenShut
import Derived.ShutString
import Derived.ChangeOld
import Derived.Below
namespace Go.Proofs.YthkbmfpgdidfhaaDoor.fnExactFormatFraction
open Go.ChangeShapes Go.WideShapes Go.ChangeAt Go.RowKit
open Go.ChangeMaps (open_string shut_string)
set_option maxRecDepth 100000
set_option linter.unusedVariables false

theorem own : ownKnob Tryd.prog.godebug = none := by kernel_rfl
theorem laidOut : laidOutB Tryd.prog = true := by kernel_rfl

/-- WHAT THE WALK IS TOLD OF A SLICE OF INTEGERS THAT CAME IN: it is nil; or it leads to a row of 'cap' cells, the numbers 'zs' (the first 'len' are its elements, the rest its spare room), each fitting its kind. -/
def IsRow (k : IntKind) (w : World) (a : Option Addr) (len cap : Nat) (zs : List Int) : Prop :=
  (a = none ∧ len = 0 ∧ cap = 0 ∧ zs = []) ∨
  ∃ x, a = some x ∧ len ≤ cap ∧ cap ≤ maxLen ∧ zs.length = cap ∧ (∀ i, i < zs.length → w.cell? (x.add i) = some (.int k (zs.getD i 0))) ∧ ∀ n ∈ zs, (Lit.int k n).wf = true

/-! ### STEP 1: THE WALK: the Go text returns true, AND WRITES NOTHING THAT WAS THERE: 'Below w.heap.size w w'' (Derived/Below.lean: '.refl', '.alloc', '.drew', '.setCell' at a new block, '.trans'). Open each 'IsRow' by 'rcases' AHEAD of 'go_enter'; part every test ahead of the walk. -/
set_option maxHeartbeats 8000000 in
theorem walk (x0 : Frc) (w : World) (w0 : At cFrc w x0 [.int .i64 x0.num, .int .i64 x0.den]) (hL : laidMetH Tryd.prog Rows.fnExactFormatFractionRow.laid w) :
    Calls Tryd.prog 7 #[.agg #[.int .i64 x0.num, .int .i64 x0.den]] w fun e w' => e = .returned (.bool true) ∧ Below w.heap.size w w' := by
  have hg0 : Ab.Glob w := by rw [MakeChecks.laidMetH_plain _ _ _ (by kernel_rfl)] at hL; exact Ab.glob_of_laid hL
  have o0 := w0
  clear w0
  go_enter Tryd.func7, Tryd.ntmps7
  go_wp2_with fail
  obtain ⟨wx, hwx⟩ : ∃ wx, wx = (w.alloc (Obj.cells #[.int .i64 x0.num, .int .i64 x0.den] 38)) := ⟨_, rfl⟩
  rw [← hwx]
  have hbb : Below w.heap.size w wx := by rw [hwx]; go_grown
  have p0_0 : wx.cell? ⟨w.heap.size, 0, none⟩ = some (.int .i64 x0.num) := by rw [hwx]; go_simp
  have p0_1 : wx.cell? ⟨w.heap.size, 1, none⟩ = some (.int .i64 x0.den) := by rw [hwx]; go_simp
  replace o0 := At.below o0 hbb (Nat.le_refl _)
  clear hwx
  refine (toFraction_c (At.here o0)).mono ?_
  rintro e wx ⟨⟨rfl, q⟩, hb⟩
  have s0 := q.at
  clear q
  replace o0 := At.next o0 hb
  replace p0_0 := cell_next p0_0 hb
  replace p0_1 := cell_next p0_1 hb
  replace hbb := Below.next hbb hb
  clear hb
  go_wp2_with fail
  refine (specFormatFraction_c (At.here s0) (hg0.below hbb)).mono ?_
  rintro e wx ⟨rfl, hb⟩
  replace o0 := At.next o0 hb
  replace s0 := At.next s0 hb
  replace p0_0 := cell_next p0_0 hb
  replace p0_1 := cell_next p0_1 hb
  replace hbb := Below.next hbb hb
  clear hb
  clear s0
  go_wp2_with fail
  refine (toFraction_c (At.here o0)).mono ?_
  rintro e wx ⟨⟨rfl, q⟩, hb⟩
  have s0 := q.at
  clear q
  replace o0 := At.next o0 hb
  replace p0_0 := cell_next p0_0 hb
  replace p0_1 := cell_next p0_1 hb
  replace hbb := Below.next hbb hb
  clear hb
  go_wp2_with fail
  refine (implFormatFraction_c (At.here s0) (hg0.below hbb)).mono ?_
  rintro e wx ⟨rfl, hb⟩
  replace o0 := At.next o0 hb
  replace s0 := At.next s0 hb
  replace p0_0 := cell_next p0_0 hb
  replace p0_1 := cell_next p0_1 hb
  replace hbb := Below.next hbb hb
  clear hb
  clear s0
  go_wp2
  go_ret
  exact ⟨rfl, hbb⟩

/-! ### THE ROW's STEP: WRITTEN OUT: LEAVE IT -/
theorem door_met (os : Os) (args : Array Value) : laidMetH Tryd.prog Rows.fnExactFormatFractionRow.laid ((World.doorLaid Tryd.prog 400 os).forCall (fun _ _ => 0) ⟨#[], args, []⟩).memory := by
  rw [MakeChecks.laidMetH_plain _ _ _ (by kernel_rfl)]
  exact laidMet_of_run' 8 (by kernel_rfl) (by kernel_rfl)

set_option maxRecDepth 100000 in
theorem lifted (os : Os) (started : os.Started) (H : Type) (enc : TypeId × Value → H) :
    ReturnsInHanded {} Tryd.checked os 7 .any (fun w args => (Rows.fnExactFormatFractionSpec.pre enc Tryd.prog Tryd.f7 Rows.fnExactFormatFractionRow.domain false w args ∧ laidMetH Tryd.prog Rows.fnExactFormatFractionRow.laid w) ∧ sizedMet enc Tryd.prog Tryd.f7 (OpenSpec.ofChange Rows.fnExactFormatFractionSpec) false w args) (Rows.fnExactFormatFractionSpec.post enc Tryd.prog Tryd.f7 false true false false) := by
  refine returnsInHanded_of_change_and (C := Tryd.checked) (X := fun w _ => laidMetH Tryd.prog Rows.fnExactFormatFractionRow.laid w) (fun _ _ _ hh h => h.of_heap hh) own started (by kernel_rfl) Tryd.func7
    (ChangeSpec.witness_shaped (enc := enc) (C := Tryd.checked) (os := os) (X := fun w _ => laidMetH Tryd.prog Rows.fnExactFormatFractionRow.laid w) false (World.doorLaid Tryd.prog 400 os) #[.agg #[.int .i64 0, .int .i64 0]] 8 rfl (World.shaped_of_RefB (by kernel_rfl) (by kernel_rfl)) (by kernel_rfl) (by kernel_rfl) (by kernel_rfl) (door_met os _)) ?_
  intro W base args ds gs before hval0 hW hcnd _ hL _
  have hval : ∀ (j : Nat) t v, Tryd.f7.params[j]? = some t → args[j]? = some v → Value.okWide Tryd.prog W .any base t v := hval0
  have hW' := hW
  obtain ⟨p, q, hA0, hV, rfl, hfz, hnd⟩ := hW
  have hA : DataW.TrodAll enc Tryd.prog W 0 (fun _ => true) true Tryd.f7.params.toList args.toList ds p := hA0
  rw [Tryd.params7] at hA hval
  obtain ⟨v0, vs0, d0, ds0, p0, q0, hargs, rfl, rfl, h0, r0⟩ := trodAll_cons hA
  obtain ⟨rfl, rfl, rfl⟩ := trodAll_nil r0
  obtain rfl : args = #[v0] := by cases args; simp_all
  obtain ⟨rfl, rfl⟩ := trodVars_none hV
  have k0 := h0
  have lt0 : ∀ x ∈ p0, x.block < W.heap.size := by obtain ⟨m, hm⟩ := k0; exact DataW.trod_lt m _ _ _ hm
  obtain ⟨x0, rfl, w0⟩ := row_Fraction (hval 0 38 v0 rfl rfl) h0
  clear hA0 hval0
  refine (walk x0 W w0 hL).mono fun e W' ⟨he, bel⟩ => ?_
  subst he
  exact ⟨_, rfl, _, _, _, [], _, [], hW', trodAll_mk1 (shut_bool Tryd.underlying4 _), (trodAll_cons_mk (Below.trod laidOut (by kernel_rfl) (of_decide_eq_true (by kernel_rfl)) k0 bel lt0) trodAll_mk0), rfl, bel.frame _, fun h => by cases h⟩

theorem fEnt : Tryd.prog.mayEnter = true := by kernel_rfl
theorem fLif : (Rows.fnExactFormatFractionRow.lifted == Tryd.prog.liftsFinal) = true := by kernel_rfl
theorem fMak : (Tryd.prog.make == some Rows.fnExactFormatFractionRow.make) = true := by kernel_rfl
theorem fWf : (Rows.fnExactFormatFractionRow.wf (OpenSpec.ofChange Rows.fnExactFormatFractionSpec)) = true := by kernel_rfl
theorem fHeard : Tryd.prog.stopsHeard = true := by kernel_rfl
theorem fIn : (Rows.fnExactFormatFractionRow.inPlace == Tryd.prog.inPlace 7) = true := by kernel_rfl
theorem fUn : (Rows.fnExactFormatFractionRow.unfollowed == Tryd.prog.unfollowed 7) = true := by kernel_rfl
theorem fRec : (Rows.fnExactFormatFractionRow.recurses == Tryd.prog.recurses 7) = true := by kernel_rfl
theorem fNam : (Rows.fnExactFormatFractionRow.named == Tryd.prog.varsNamed 7) = true := by kernel_rfl
theorem closed : joinedFacts Tryd.prog 7 Tryd.f7 Rows.fnExactFormatFractionSpec Rows.fnExactFormatFractionRow = true := by
  unfold joinedFacts
  rw [fEnt, fLif, fMak, fWf, fHeard, fIn, fUn, fRec, fNam]
  kernel_rfl

theorem over : Rows.fnExactFormatFractionRow.holds Tryd.pinned (OpenSpec.ofChange Rows.fnExactFormatFractionSpec) :=
  OpenClaim.holds_of_wide 7 Tryd.f7 rfl rfl rfl rfl rfl rfl rfl ⟨rfl, rfl, rfl, rfl, rfl⟩ rfl rfl rfl rfl rfl (by kernel_rfl) Tryd.func7 closed
    (of_decide_eq_true (by kernel_rfl)) (by unfold Func.isWrapper; first | (rw [if_pos (by decide +kernel)]; kernel_rfl) | (rw [if_neg (by decide +kernel)]; exact ⟨rfl, rfl⟩))
    (fun os started H enc _ => lifted os started H enc)

/-- ████ THE STATEMENT ████ -/
theorem row_holds : Rows.FnExactFormatFractionSaid := over
/-- The statement: the tied card. -/
theorem card : Rows.FnExactFormatFractionCardSaid :=
  Claim7.holds_tied_plain_at .later [] [.data, .data, .data] true (true, "a65e3d0809cb8d3465ad8e0d4dd9811854c01b0e4fc68d7b9219c557bafdcac8") true
    row_holds (fun _ h => by cases h) (by kernel_rfl) (fun _ h => by cases h) fnExactFormatFraction_row_tie rfl ⟨rfl, rfl⟩ (by kernel_rfl) rfl
    (fun f fn hf hfn => by
      obtain rfl : f = 7 := Option.some.inj ((show Tryd.prog.funcNamed "loop.example/g01918/laws.FnExactFormatFraction" = some 7 by kernel_rfl).symm.trans hf) |>.symm
      obtain rfl : fn = Tryd.f7 := (Option.some.inj (Tryd.func7.symm.trans hfn)).symm
      exact ⟨by kernel_rfl, fun j t ht => by
        rw [Tryd.params7] at ht
        have hm : t ∈ [38] := by simpa using Array.mem_of_getElem? ht
        have hall : ([38].all fun u => !Tryd.prog.wantsStandIn u) = true := by kernel_rfl
        exact (show Tryd.prog.wantsStandIn t = false by simpa using List.all_eq_true.1 hall t hm)⟩)
    (by kernel_rfl)
#print axioms card
end Go.Proofs.YthkbmfpgdidfhaaDoor.fnExactFormatFraction

/- FnExactFormatRewriting: FormatRewriting: for all arguments the program's answer is the model's and the arguments read as before; arguments of more than 1 MiB are let by in the statement itself. -/
import Derived.Test.YtlcogbmceanghaaDoorRows
import Derived.Test.YtlcogbmceanghaaDoorCards
import Derived.Test.YtlcogbmceanghaaDoorTie
import Derived.WalkKit
import Derived.Deep.Cut
import Derived.LaidMore
import Derived.Stop.Joined
import Derived.SevenTiedAt
import Derived.ProofKit
import Derived.OpenShut
import Derived.ShutString
import Derived.ChangeOld
import Derived.Below
import Derived.Test.YtlcogbmceanghaaDoorMgFnExactFormatRewritingE
namespace Go.Proofs.YtlcogbmceanghaaDoor.fnExactFormatRewriting
open Go.ChangeShapes Go.WideShapes Go.ChangeAt Go.RowKit
open Go.ChangeMaps (open_string shut_string)
set_option maxRecDepth 100000
set_option linter.unusedVariables false

theorem own : ownKnob Tryd.prog.godebug = none := by kernel_rfl
theorem laidOut : laidOutB Tryd.prog = true := by kernel_rfl

/-- WHAT THE WALK IS TOLD OF A SLICE OF INTEGERS THAT CAME IN: it is nil; or it leads to a row of 'cap' cells, the numbers 'zs' (the first 'len' are its elements, the rest its spare room), each fitting its kind. -/
def IsRow (k : IntKind) (w : World) (a : Option Addr) (len cap : Nat) (zs : List Int) : Prop :=
 (a = none ∧ len = 0 ∧ cap = 0 ∧ zs = []) ∨
 ∃ x, a = some x ∧ len ≤ cap ∧ cap ≤ maxLen ∧ zs.length = cap ∧ (∀ i, i < zs.length → w.cell? (x.add i) = some (.int k (zs.getD i 0))) ∧ ∀ n ∈ zs, (Lit.int k n).wf = true

/-! ### STEP 1: THE WALK: the Go text returns true, AND WRITES NOTHING THAT WAS THERE: 'Below w.heap.size w w'' (Derived/Below.lean: '.refl', '.alloc', '.drew', '.setCell' at a new block, '.trans'). Open each 'IsRow' by 'rcases' AHEAD of 'go_enter'; part every test ahead of the walk. -/
set_option maxHeartbeats 8000000 in
theorem walk (a0 : Option Addr) (cap0 : Nat) (l0 : List Rel) (a1 : Option Addr) (cap1 : Nat) (l1 : List Rst) (w : World) (w0 : At (cSlice cRel) w l0 [.slice a0 l0.length cap0]) (w1 : At (cSlice cRst) w l1 [.slice a1 l1.length cap1]) (hL : laidMetH Tryd.prog Rows.fnExactFormatRewritingRow.laid w) :
   Calls Tryd.prog 8 #[.slice a0 l0.length cap0, .slice a1 l1.length cap1] w fun e w' => e = .returned (.bool true) ∧ Below w.heap.size w w' := by
 have hg0 : Ab.Glob w := by rw [MakeChecks.laidMetH_plain _ _ _ (by kernel_rfl)] at hL; exact Ab.glob_of_laid hL
 have o0 := w0
 clear w0
 have o1 := w1
 clear w1
 have hle0 := szR_le (1048576) (sizeRelationS l0) (by omega)
 by_cases hn0 : szR (1048576) (sizeRelationS l0) < 0
 · have hk := hn0
   go_enter Tryd.func8, Tryd.ntmps8
   have hbb := Below.refl w.heap.size w
   go_wp2_with fail
   refine (szRelationS_c (by omega) (by omega) (At.here o0)).mono ?_
   rintro e wx ⟨rfl, hb⟩
   replace o0 := At.next o0 hb
   replace o1 := At.next o1 hb
   replace hbb := Below.next hbb hb
   clear hb
   go_wp2
   go_ret
   exact ⟨rfl, hbb⟩
 have hz0 : sizeRelationS l0 ≤ 1048576 := szR_ge hn0 (by omega)
 have hle1 := szR_le (szR (1048576) (sizeRelationS l0)) (sizeRewritingStepS l1) (by omega)
 by_cases hn1 : szR (szR (1048576) (sizeRelationS l0)) (sizeRewritingStepS l1) < 0
 · have hk := hn1
   go_enter Tryd.func8, Tryd.ntmps8
   have hbb := Below.refl w.heap.size w
   go_wp2_with fail
   refine (szRelationS_c (by omega) (by omega) (At.here o0)).mono ?_
   rintro e wx ⟨rfl, hb⟩
   replace o0 := At.next o0 hb
   replace o1 := At.next o1 hb
   replace hbb := Below.next hbb hb
   clear hb
   go_wp2_with fail
   refine (szRewritingStepS_c (by omega) (by omega) (At.here o1)).mono ?_
   rintro e wx ⟨rfl, hb⟩
   replace o0 := At.next o0 hb
   replace o1 := At.next o1 hb
   replace hbb := Below.next hbb hb
   clear hb
   go_wp2
   go_ret
   exact ⟨rfl, hbb⟩
 have hz1 : sizeRewritingStepS l1 ≤ 1048576 := szR_ge hn1 (by omega)
 go_enter Tryd.func8, Tryd.ntmps8
 have hbb := Below.refl w.heap.size w
 go_wp2_with fail
 refine (szRelationS_c (by omega) (by omega) (At.here o0)).mono ?_
 rintro e wx ⟨rfl, hb⟩
 replace o0 := At.next o0 hb
 replace o1 := At.next o1 hb
 replace hbb := Below.next hbb hb
 clear hb
 go_wp2_with fail
 refine (szRewritingStepS_c (by omega) (by omega) (At.here o1)).mono ?_
 rintro e wx ⟨rfl, hb⟩
 replace o0 := At.next o0 hb
 replace o1 := At.next o1 hb
 replace hbb := Below.next hbb hb
 clear hb
 go_wp2_with fail
 refine (toRelationS_c hz0 (At.here o0)).mono ?_
 rintro e wx ⟨⟨_, _, rfl, q⟩, hb⟩
 have s0 := q.at
 clear q
 replace o0 := At.next o0 hb
 replace o1 := At.next o1 hb
 replace hbb := Below.next hbb hb
 clear hb
 go_wp2_with fail
 refine (toRewritingStepS_c hz1 (At.here o1)).mono ?_
 rintro e wx ⟨⟨_, _, rfl, q⟩, hb⟩
 have s1 := q.at
 clear q
 replace o0 := At.next o0 hb
 replace o1 := At.next o1 hb
 replace s0 := At.next s0 hb
 replace hbb := Below.next hbb hb
 clear hb
 go_wp2_with fail
 refine (specFormatRewriting_c hz0 hz1 (At.here s0) (At.here s1) (hg0.below hbb)).mono ?_
 rintro e wx ⟨rfl, hb⟩
 replace o0 := At.next o0 hb
 replace o1 := At.next o1 hb
 replace s0 := At.next s0 hb
 replace s1 := At.next s1 hb
 replace hbb := Below.next hbb hb
 clear hb
 clear s0
 clear s1
 go_wp2_with fail
 refine (toRelationS_c hz0 (At.here o0)).mono ?_
 rintro e wx ⟨⟨_, _, rfl, q⟩, hb⟩
 have c0 := q.at
 clear q
 replace o0 := At.next o0 hb
 replace o1 := At.next o1 hb
 replace hbb := Below.next hbb hb
 clear hb
 go_wp2_with fail
 refine (toRewritingStepS_c hz1 (At.here o1)).mono ?_
 rintro e wx ⟨⟨_, _, rfl, q⟩, hb⟩
 have c1 := q.at
 clear q
 replace c0 := At.next c0 hb
 replace o0 := At.next o0 hb
 replace o1 := At.next o1 hb
 replace hbb := Below.next hbb hb
 clear hb
 go_wp2_with fail
 refine (implFormatRewriting_c hz0 hz1 (At.here c0) (At.here c1) (hg0.below hbb)).mono ?_
 rintro e wx ⟨rfl, hb⟩
 replace c0 := At.next c0 hb
 replace c1 := At.next c1 hb
 replace o0 := At.next o0 hb
 replace o1 := At.next o1 hb
 replace hbb := Below.next hbb hb
 clear hb
 go_wp2_with fail
 refine (toRelationS_c hz0 (At.here o0)).mono ?_
 rintro e wx ⟨⟨_, _, rfl, q⟩, hb⟩
 have t0 := q.at
 clear q
 replace c0 := At.next c0 hb
 replace c1 := At.next c1 hb
 replace o0 := At.next o0 hb
 replace o1 := At.next o1 hb
 replace hbb := Below.next hbb hb
 clear hb
 go_wp2_with fail
 refine (eqRelationS_c (At.here c0) (At.here t0)).mono ?_
 rintro e wx ⟨he, hb⟩
 rw [dec_self] at he
 subst he
 replace c0 := At.next c0 hb
 replace c1 := At.next c1 hb
 replace o0 := At.next o0 hb
 replace o1 := At.next o1 hb
 replace t0 := At.next t0 hb
 replace hbb := Below.next hbb hb
 clear hb
 clear t0
 go_wp2_with fail
 refine (toRewritingStepS_c hz1 (At.here o1)).mono ?_
 rintro e wx ⟨⟨_, _, rfl, q⟩, hb⟩
 have t1 := q.at
 clear q
 replace c0 := At.next c0 hb
 replace c1 := At.next c1 hb
 replace o0 := At.next o0 hb
 replace o1 := At.next o1 hb
 replace hbb := Below.next hbb hb
 clear hb
 go_wp2_with fail
 refine (eqRewritingStepS_c (At.here c1) (At.here t1)).mono ?_
 rintro e wx ⟨he, hb⟩
 rw [dec_self] at he
 subst he
 replace c0 := At.next c0 hb
 replace c1 := At.next c1 hb
 replace o0 := At.next o0 hb
 replace o1 := At.next o1 hb
 replace t1 := At.next t1 hb
 replace hbb := Below.next hbb hb
 clear hb
 clear t1
 go_wp2
 go_ret
 exact ⟨rfl, hbb⟩

/-! ### THE ROW's STEP: WRITTEN OUT: LEAVE IT -/
theorem door_met (os : Os) (args : Array Value) : laidMetH Tryd.prog Rows.fnExactFormatRewritingRow.laid ((World.doorLaid Tryd.prog 400 os).forCall (fun _ _ => 0) ⟨#[], args, []⟩).memory := by
 rw [MakeChecks.laidMetH_plain _ _ _ (by kernel_rfl)]
 exact laidMet_of_run' 8 (by kernel_rfl) (by kernel_rfl)

set_option maxRecDepth 100000 in
theorem lifted (os : Os) (started : os.Started) (H : Type) (enc : TypeId × Value → H) :
   ReturnsInHanded {} Tryd.checked os 8 .any (fun w args => (Rows.fnExactFormatRewritingSpec.pre enc Tryd.prog Tryd.f8 Rows.fnExactFormatRewritingRow.domain false w args ∧ laidMetH Tryd.prog Rows.fnExactFormatRewritingRow.laid w) ∧ sizedMet enc Tryd.prog Tryd.f8 (OpenSpec.ofChange Rows.fnExactFormatRewritingSpec) false w args) (Rows.fnExactFormatRewritingSpec.post enc Tryd.prog Tryd.f8 false true false false) := by
 refine returnsInHanded_of_change_and (C := Tryd.checked) (X := fun w _ => laidMetH Tryd.prog Rows.fnExactFormatRewritingRow.laid w) (fun _ _ _ hh h => h.of_heap hh) own started (by kernel_rfl) Tryd.func8
   (ChangeSpec.witness_shaped (enc := enc) (C := Tryd.checked) (os := os) (X := fun w _ => laidMetH Tryd.prog Rows.fnExactFormatRewritingRow.laid w) false (World.doorLaid Tryd.prog 400 os) #[.slice none 0 0, .slice none 0 0] 8 rfl (World.shaped_of_RefB (by kernel_rfl) (by kernel_rfl)) (by kernel_rfl) (by kernel_rfl) (by kernel_rfl) (door_met os _)) ?_
 intro W base args ds gs before hval0 hW hcnd _ hL _
 have hval : ∀ (j : Nat) t v, Tryd.f8.params[j]? = some t → args[j]? = some v → Value.okWide Tryd.prog W .any base t v := hval0
 have hW' := hW
 obtain ⟨p, q, hA0, hV, rfl, hfz, hnd⟩ := hW
 have hA : DataW.TrodAll enc Tryd.prog W 0 (fun _ => true) true Tryd.f8.params.toList args.toList ds p := hA0
 rw [Tryd.params8] at hA hval
 obtain ⟨v0, vs0, d0, ds0, p0, q0, hargs, rfl, rfl, h0, r0⟩ := trodAll_cons hA
 obtain ⟨v1, vs1, d1, ds1, p1, q1, rfl, rfl, rfl, h1, r1⟩ := trodAll_cons r0
 obtain ⟨rfl, rfl, rfl⟩ := trodAll_nil r1
 obtain rfl : args = #[v0, v1] := by cases args; simp_all
 obtain ⟨rfl, rfl⟩ := trodVars_none hV
 have k0 := h0
 have lt0 : ∀ x ∈ p0, x.block < W.heap.size := by obtain ⟨m, hm⟩ := k0; exact DataW.trod_lt m _ _ _ hm
 obtain ⟨a0, cap0, l0, rfl, w0⟩ := row_RelationS (hval 0 22 v0 rfl rfl) h0
 have k1 := h1
 have lt1 : ∀ x ∈ p1, x.block < W.heap.size := by obtain ⟨m, hm⟩ := k1; exact DataW.trod_lt m _ _ _ hm
 obtain ⟨a1, cap1, l1, rfl, w1⟩ := row_RewritingStepS (hval 1 80 v1 rfl rfl) h1
 clear hA0 hval0
 refine (walk a0 cap0 l0 a1 cap1 l1 W w0 w1 hL).mono fun e W' ⟨he, bel⟩ => ?_
 subst he
 exact ⟨_, rfl, _, _, _, [], _, [], hW', trodAll_mk1 (shut_bool Tryd.underlying4 _), (trodAll_cons_mk (Below.trod laidOut (by kernel_rfl) (of_decide_eq_true (by kernel_rfl)) k0 bel lt0) (trodAll_cons_mk (Below.trod laidOut (by kernel_rfl) (of_decide_eq_true (by kernel_rfl)) k1 bel lt1) trodAll_mk0)), rfl, bel.frame _, fun h => by cases h⟩

theorem over : Rows.fnExactFormatRewritingRow.holds Tryd.pinned (OpenSpec.ofChange Rows.fnExactFormatRewritingSpec) :=
 OpenClaim.holds_of_wide 8 Tryd.f8 rfl rfl rfl rfl rfl rfl rfl ⟨rfl, rfl, rfl, rfl, rfl⟩ rfl rfl rfl rfl rfl (by kernel_rfl) Tryd.func8 (by kernel_rfl)
   (of_decide_eq_true (by kernel_rfl)) (by unfold Func.isWrapper; first | (rw [if_pos (by decide +kernel)]; kernel_rfl) | (rw [if_neg (by decide +kernel)]; exact ⟨rfl, rfl⟩))
   (fun os started H enc _ => lifted os started H enc)

/-- ████ THE STATEMENT ████ -/
theorem row_holds : Rows.FnExactFormatRewritingSaid := over
/-- The statement: the tied card. -/
theorem card : Rows.FnExactFormatRewritingCardSaid :=
 Claim7.holds_tied_plain_at .later [] [.data, .data, .data] true (true, "1a4dc14f6d33ca93f2f27bbe08d71c1f4eb47041aeca6d2df25e47a38c9f1667") false
   row_holds (fun _ h => by cases h) (by kernel_rfl) (fun _ h => by cases h) fnExactFormatRewriting_row_tie rfl ⟨rfl, rfl⟩ (by kernel_rfl) rfl
   (fun f fn hf hfn => by
     obtain rfl : f = 8 := Option.some.inj ((show Tryd.prog.funcNamed "loop.example/g01918/laws.FnExactFormatRewriting" = some 8 by kernel_rfl).symm.trans hf) |>.symm
     obtain rfl : fn = Tryd.f8 := (Option.some.inj (Tryd.func8.symm.trans hfn)).symm
     exact ⟨by kernel_rfl, fun j t ht => by
       rw [Tryd.params8] at ht
       have hm : t ∈ [22, 80] := by simpa using Array.mem_of_getElem? ht
       have hall : ([22, 80].all fun u => !Tryd.prog.wantsStandIn u) = true := by kernel_rfl
       exact (show Tryd.prog.wantsStandIn t = false by simpa using List.all_eq_true.1 hall t hm)⟩)
   (by kernel_rfl)
#print axioms card
end Go.Proofs.YtlcogbmceanghaaDoor.fnExactFormatRewriting

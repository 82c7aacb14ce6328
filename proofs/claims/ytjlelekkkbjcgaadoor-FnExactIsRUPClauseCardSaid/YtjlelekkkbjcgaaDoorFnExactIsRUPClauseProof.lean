/- FnExactIsRUPClause: IsRUPClause: for all arguments the program's answer is the model's and the arguments read as before; arguments of more than 1 MiB are let by in the statement itself. -/
import Derived.Test.YtjlelekkkbjcgaaDoorRows
import Derived.Test.YtjlelekkkbjcgaaDoorCards
import Derived.Test.YtjlelekkkbjcgaaDoorTie
import Derived.WalkKit
import Derived.Test.YtjlelekkkbjcgaaDoorRowTwo
import Derived.Test.YtjlelekkkbjcgaaDoorRowV
import Derived.Test.YtjlelekkkbjcgaaDoorTyTre
import Derived.Test.YtjlelekkkbjcgaaDoorMarkTwo
import Derived.Test.YtjlelekkkbjcgaaDoorCIsRUPClause
import Derived.Deep.Cut
import Derived.LaidMore
import Derived.Stop.Joined
import Derived.SevenTiedAt
import Derived.ProofKit
import Derived.OpenShut
import Derived.ShutString
import Derived.ChangeOld
import Derived.Below
namespace Go.Proofs.YtjlelekkkbjcgaaDoor.fnExactIsRUPClause
open Go.ChangeShapes Go.WideShapes Go.ChangeAt Go.RowKit
open Go.ChangeMaps (open_string shut_string)
set_option maxRecDepth 100000
set_option linter.unusedVariables false

theorem own : ownKnob Tryd.prog.godebug = none := by kernel_rfl
theorem laidOut : laidOutB Tryd.prog = true := by kernel_rfl

/-- WHAT THE WALK IS TOLD OF A SLICE OF INTEGERS THAT CAME IN: it is nil; or it leads to a row of 'cap' cells, the numbers 'zs' (the first 'len' are its elements, the rest its spare room), each fitting its kind. -/
def IsRow (k : IntKind) (w : World) (a : Option Addr) (len cap : Nat) (zs : List Int) : Prop :=
  (a = none ∧ len = 0 ∧ cap = 0 ∧ zs = []) ∨
  ∃ x, a = some x ∧ len ≤ cap ∧ cap ≤ maxLen ∧ zs.length = cap ∧ (∀ i, i < zs.length → w.cell? (x.add i) = some (.int k (zs.getD i 0))) ∧ ∀ n ∈ zs, (Lit.int k n).wf = true

/-! ### STEP 1: THE WALK: the Go text returns true, AND WRITES NOTHING THAT WAS THERE: 'Below w.heap.size w w'' (Derived/Below.lean: '.refl', '.alloc', '.drew', '.setCell' at a new block, '.trans'). Open each 'IsRow' by 'rcases' AHEAD of 'go_enter'; part every test ahead of the walk. -/
set_option maxHeartbeats 8000000 in
theorem walk (a0 : Int) (a1 : Option Addr) (cap1 : Nat) (l1 : List (List Int)) (a2 : Option Addr) (cap2 : Nat) (l2 : List Int) (w : World) (w0 : (Lit.int .i64 a0).wf = true) (w1 : At (cSlice (cSlice cInt)) w l1 [.slice a1 l1.length cap1]) (w2 : At (cSlice cInt) w l2 [.slice a2 l2.length cap2]) (hL : laidMetH Tryd.prog Rows.fnExactIsRUPClauseRow.laid w) :
    Calls Tryd.prog 4 #[.int .i64 a0, .slice a1 l1.length cap1, .slice a2 l2.length cap2] w fun e w' => e = .returned (.bool true) ∧ Below w.heap.size w w' := by
  have hg0 : Ab.Glob w := by rw [MakeChecks.laidMetH_plain _ _ _ (by kernel_rfl)] at hL; exact Ab.glob_of_laid hL
  have o1 := w1
  clear w1
  have o2 := w2
  clear w2
  by_cases hbig2 : 1048576 < l2.length
  · clear o1 o2
    go_enter Tryd.func4, Tryd.ntmps4
    go_wp2
    go_ret
    exact ⟨rfl, by go_grown⟩
  have hz2 : l2.length ≤ 1048576 := by omega
  have hle1 := szR_le (1048576) (sizeIntSS l1) (by omega)
  by_cases hn1 : szR (1048576) (sizeIntSS l1) < 0
  · have hk := hn1
    go_enter Tryd.func4, Tryd.ntmps4
    have hbb := Below.refl w.heap.size w
    go_wp2_with fail
    refine (szIntSS_c (by omega) (by omega) (At.here o1)).mono ?_
    rintro e wx ⟨rfl, hb⟩
    replace o1 := At.next o1 hb
    replace o2 := At.next o2 hb
    replace hbb := Below.next hbb hb
    clear hb
    go_wp2
    go_ret
    exact ⟨rfl, hbb⟩
  have hz1 : sizeIntSS l1 ≤ 1048576 := szR_ge hn1 (by omega)
  go_enter Tryd.func4, Tryd.ntmps4
  have hbb := Below.refl w.heap.size w
  go_wp2_with fail
  refine (szIntSS_c (by omega) (by omega) (At.here o1)).mono ?_
  rintro e wx ⟨rfl, hb⟩
  replace o1 := At.next o1 hb
  replace o2 := At.next o2 hb
  replace hbb := Below.next hbb hb
  clear hb
  go_wp2_with fail
  refine (toIntSS_c hz1 (At.here o1)).mono ?_
  rintro e wx ⟨⟨_, _, rfl, q⟩, hb⟩
  have s1 := q.at
  clear q
  replace o1 := At.next o1 hb
  replace o2 := At.next o2 hb
  replace hbb := Below.next hbb hb
  clear hb
  go_wp2_with fail
  refine (toIntS_c hz2 (At.here o2)).mono ?_
  rintro e wx ⟨⟨_, _, rfl, q⟩, hb⟩
  have s2 := q.at
  clear q
  replace o1 := At.next o1 hb
  replace o2 := At.next o2 hb
  replace s1 := At.next s1 hb
  replace hbb := Below.next hbb hb
  clear hb
  go_wp2_with fail
  refine (specIsRUPClause_c hz1 hz2 (At.here s1) (At.here s2) (hg0.below hbb)).mono ?_
  rintro e wx ⟨rfl, hb⟩
  replace o1 := At.next o1 hb
  replace o2 := At.next o2 hb
  replace s1 := At.next s1 hb
  replace s2 := At.next s2 hb
  replace hbb := Below.next hbb hb
  clear hb
  clear s1
  clear s2
  go_wp2_with fail
  refine (toIntSS_c hz1 (At.here o1)).mono ?_
  rintro e wx ⟨⟨_, _, rfl, q⟩, hb⟩
  have c1 := q.at
  clear q
  replace o1 := At.next o1 hb
  replace o2 := At.next o2 hb
  replace hbb := Below.next hbb hb
  clear hb
  go_wp2_with fail
  refine (toIntS_c hz2 (At.here o2)).mono ?_
  rintro e wx ⟨⟨_, _, rfl, q⟩, hb⟩
  have c2 := q.at
  clear q
  replace c1 := At.next c1 hb
  replace o1 := At.next o1 hb
  replace o2 := At.next o2 hb
  replace hbb := Below.next hbb hb
  clear hb
  go_wp2_with fail
  refine (implIsRUPClause_c hz1 hz2 (At.here c1) (At.here c2) (hg0.below hbb)).mono ?_
  rintro e wx ⟨rfl, hb⟩
  replace c1 := At.next c1 hb
  replace c2 := At.next c2 hb
  replace o1 := At.next o1 hb
  replace o2 := At.next o2 hb
  replace hbb := Below.next hbb hb
  clear hb
  have hne0 : ((Ab.rupC a0 l1 l2) != (Ab.rupC a0 l1 l2)) = false := bne_self_eq_false _
  go_wp2_with fail
  refine (toIntSS_c hz1 (At.here o1)).mono ?_
  rintro e wx ⟨⟨_, _, rfl, q⟩, hb⟩
  have t1 := q.at
  clear q
  replace c1 := At.next c1 hb
  replace c2 := At.next c2 hb
  replace o1 := At.next o1 hb
  replace o2 := At.next o2 hb
  replace hbb := Below.next hbb hb
  clear hb
  go_wp2_with fail
  refine (eqIntSS_c (At.here c1) (At.here t1)).mono ?_
  rintro e wx ⟨he, hb⟩
  rw [dec_self] at he
  subst he
  replace c1 := At.next c1 hb
  replace c2 := At.next c2 hb
  replace o1 := At.next o1 hb
  replace o2 := At.next o2 hb
  replace t1 := At.next t1 hb
  replace hbb := Below.next hbb hb
  clear hb
  clear t1
  go_wp2_with fail
  refine (toIntS_c hz2 (At.here o2)).mono ?_
  rintro e wx ⟨⟨_, _, rfl, q⟩, hb⟩
  have t2 := q.at
  clear q
  replace c1 := At.next c1 hb
  replace c2 := At.next c2 hb
  replace o1 := At.next o1 hb
  replace o2 := At.next o2 hb
  replace hbb := Below.next hbb hb
  clear hb
  go_wp2_with fail
  refine (eqIntS_c (At.here c2) (At.here t2)).mono ?_
  rintro e wx ⟨he, hb⟩
  rw [dec_self] at he
  subst he
  replace c1 := At.next c1 hb
  replace c2 := At.next c2 hb
  replace o1 := At.next o1 hb
  replace o2 := At.next o2 hb
  replace t2 := At.next t2 hb
  replace hbb := Below.next hbb hb
  clear hb
  clear t2
  go_wp2
  go_ret
  exact ⟨rfl, hbb⟩

/-! ### THE ROW's STEP: WRITTEN OUT: LEAVE IT -/
theorem door_met (os : Os) (args : Array Value) : laidMetH Tryd.prog Rows.fnExactIsRUPClauseRow.laid ((World.doorLaid Tryd.prog 400 os).forCall (fun _ _ => 0) ⟨#[], args, []⟩).memory := by
  rw [MakeChecks.laidMetH_plain _ _ _ (by kernel_rfl)]
  exact laidMet_of_run' 8 (by kernel_rfl) (by kernel_rfl)

set_option maxRecDepth 100000 in
theorem lifted (os : Os) (started : os.Started) (H : Type) (enc : TypeId × Value → H) :
    ReturnsInHanded {} Tryd.checked os 4 .any (fun w args => (Rows.fnExactIsRUPClauseSpec.pre enc Tryd.prog Tryd.f4 Rows.fnExactIsRUPClauseRow.domain false w args ∧ laidMetH Tryd.prog Rows.fnExactIsRUPClauseRow.laid w) ∧ sizedMet enc Tryd.prog Tryd.f4 (OpenSpec.ofChange Rows.fnExactIsRUPClauseSpec) false w args) (Rows.fnExactIsRUPClauseSpec.post enc Tryd.prog Tryd.f4 false true false false) := by
  refine returnsInHanded_of_change_and (C := Tryd.checked) (X := fun w _ => laidMetH Tryd.prog Rows.fnExactIsRUPClauseRow.laid w) (fun _ _ _ hh h => h.of_heap hh) own started (by kernel_rfl) Tryd.func4
    (ChangeSpec.witness_shaped (enc := enc) (C := Tryd.checked) (os := os) (X := fun w _ => laidMetH Tryd.prog Rows.fnExactIsRUPClauseRow.laid w) false (World.doorLaid Tryd.prog 400 os) #[.int .i64 0, .slice none 0 0, .slice none 0 0] 8 rfl (World.shaped_of_RefB (by kernel_rfl) (by kernel_rfl)) (by kernel_rfl) (by kernel_rfl) (by kernel_rfl) (door_met os _)) ?_
  intro W base args ds gs before hval0 hW hcnd _ hL _
  have hval : ∀ (j : Nat) t v, Tryd.f4.params[j]? = some t → args[j]? = some v → Value.okWide Tryd.prog W .any base t v := hval0
  have hW' := hW
  obtain ⟨p, q, hA0, hV, rfl, hfz, hnd⟩ := hW
  have hA : DataW.TrodAll enc Tryd.prog W 0 (fun _ => true) true Tryd.f4.params.toList args.toList ds p := hA0
  rw [Tryd.params4] at hA hval
  obtain ⟨v0, vs0, d0, ds0, p0, q0, hargs, rfl, rfl, h0, r0⟩ := trodAll_cons hA
  obtain ⟨v1, vs1, d1, ds1, p1, q1, rfl, rfl, rfl, h1, r1⟩ := trodAll_cons r0
  obtain ⟨v2, vs2, d2, ds2, p2, q2, rfl, rfl, rfl, h2, r2⟩ := trodAll_cons r1
  obtain ⟨rfl, rfl, rfl⟩ := trodAll_nil r2
  obtain rfl : args = #[v0, v1, v2] := by cases args; simp_all
  obtain ⟨rfl, rfl⟩ := trodVars_none hV
  obtain ⟨a0, rfl, rfl, rfl, w0⟩ := open_int Tryd.underlying3 (hval 0 3 v0 rfl rfl) h0
  have k1 := h1
  have lt1 : ∀ x ∈ p1, x.block < W.heap.size := by obtain ⟨m, hm⟩ := k1; exact DataW.trod_lt m _ _ _ hm
  obtain ⟨a1, cap1, l1, rfl, w1⟩ := row_intSS (hval 1 22 v1 rfl rfl) h1
  have k2 := h2
  have lt2 : ∀ x ∈ p2, x.block < W.heap.size := by obtain ⟨m, hm⟩ := k2; exact DataW.trod_lt m _ _ _ hm
  obtain ⟨a2, cap2, l2, rfl, w2⟩ := row_intS (hval 2 23 v2 rfl rfl) h2
  clear hA0 hval0
  refine (walk a0 a1 cap1 l1 a2 cap2 l2 W w0 w1 w2 hL).mono fun e W' ⟨he, bel⟩ => ?_
  subst he
  exact ⟨_, rfl, _, _, _, [], _, [], hW', trodAll_mk1 (shut_bool Tryd.underlying4 _), (trodAll_cons_mk (shut_int Tryd.underlying3 w0) (trodAll_cons_mk (Below.trod laidOut (by kernel_rfl) (of_decide_eq_true (by kernel_rfl)) k1 bel lt1) (trodAll_cons_mk (Below.trod laidOut (by kernel_rfl) (of_decide_eq_true (by kernel_rfl)) k2 bel lt2) trodAll_mk0))), rfl, bel.frame _, fun h => by cases h⟩

theorem over : Rows.fnExactIsRUPClauseRow.holds Tryd.pinned (OpenSpec.ofChange Rows.fnExactIsRUPClauseSpec) :=
  OpenClaim.holds_of_wide 4 Tryd.f4 rfl rfl rfl rfl rfl rfl rfl ⟨rfl, rfl, rfl, rfl, rfl⟩ rfl rfl rfl rfl rfl (by kernel_rfl) Tryd.func4 (by kernel_rfl)
    (of_decide_eq_true (by kernel_rfl)) (by unfold Func.isWrapper; first | (rw [if_pos (by decide +kernel)]; kernel_rfl) | (rw [if_neg (by decide +kernel)]; exact ⟨rfl, rfl⟩))
    (fun os started H enc _ => lifted os started H enc)

/-- ████ THE STATEMENT ████ -/
theorem row_holds : Rows.FnExactIsRUPClauseSaid := over
/-- The statement: the tied card. -/
theorem card : Rows.FnExactIsRUPClauseCardSaid :=
  Claim7.holds_tied_plain_at .later [] [.data, .data] true (true, "b67ee5b33d05fb90fc58e0df8b74d4ab38f7575d9ab61e583bd9bd044cd4f01c") false
    row_holds (fun _ h => by cases h) (by kernel_rfl) (fun _ h => by cases h) fnExactIsRUPClause_row_tie rfl ⟨rfl, rfl⟩ (by kernel_rfl) rfl
    (fun f fn hf hfn => by
      obtain rfl : f = 4 := Option.some.inj ((show Tryd.prog.funcNamed "loop.example/g01918/laws.FnExactIsRUPClause" = some 4 by kernel_rfl).symm.trans hf) |>.symm
      obtain rfl : fn = Tryd.f4 := (Option.some.inj (Tryd.func4.symm.trans hfn)).symm
      exact ⟨by kernel_rfl, fun j t ht => by
        rw [Tryd.params4] at ht
        have hm : t ∈ [3, 22, 23] := by simpa using Array.mem_of_getElem? ht
        have hall : ([3, 22, 23].all fun u => !Tryd.prog.wantsStandIn u) = true := by kernel_rfl
        exact (show Tryd.prog.wantsStandIn t = false by simpa using List.all_eq_true.1 hall t hm)⟩)
    (by kernel_rfl)
#print axioms card
end Go.Proofs.YtjlelekkkbjcgaaDoor.fnExactIsRUPClause

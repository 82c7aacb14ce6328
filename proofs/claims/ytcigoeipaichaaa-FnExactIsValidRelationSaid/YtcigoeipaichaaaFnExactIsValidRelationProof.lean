/- FnExactIsValidRelation: IsValidRelation: for all arguments the program's answer is the model's and the arguments read as before; arguments of more than 1 MiB are let by in the statement itself. -/
import Derived.Test.YtcigoeipaichaaaRows
import Derived.WalkKit
import Derived.Test.YtcigoeipaichaaaRowT
import Derived.Test.YtcigoeipaichaaaRelSpec2
import Derived.Test.YtcigoeipaichaaaRelImpl3
import Derived.Deep.Cut
import Derived.ProofKit
import Derived.OpenShut
import Derived.ShutString
import Derived.ChangeOld
import Derived.Below
namespace Go.Proofs.Ytcigoeipaichaaa.fnExactIsValidRelation
open Go.ChangeShapes Go.WideShapes Go.ChangeAt Go.RowKit
open Go.ChangeMaps (open_string shut_string)
set_option maxRecDepth 100000
set_option linter.unusedVariables false

theorem own : ownKnob Try.prog.godebug = none := by kernel_rfl
theorem laidOut : laidOutB Try.prog = true := by kernel_rfl

/-- WHAT THE WALK IS TOLD OF A SLICE OF INTEGERS THAT CAME IN: it is nil; or it leads to a row of 'cap' cells, the numbers 'zs' (the first 'len' are its elements, the rest its spare room), each fitting its kind. -/
def IsRow (k : IntKind) (w : World) (a : Option Addr) (len cap : Nat) (zs : List Int) : Prop :=
  (a = none ∧ len = 0 ∧ cap = 0 ∧ zs = []) ∨
  ∃ x, a = some x ∧ len ≤ cap ∧ cap ≤ maxLen ∧ zs.length = cap ∧ (∀ i, i < zs.length → w.cell? (x.add i) = some (.int k (zs.getD i 0))) ∧ ∀ n ∈ zs, (Lit.int k n).wf = true

/-! ### STEP 1: THE WALK: the Go text returns true, AND WRITES NOTHING THAT WAS THERE: 'Below w.heap.size w w'' (Derived/Below.lean: '.refl', '.alloc', '.drew', '.setCell' at a new block, '.trans'). Open each 'IsRow' by 'rcases' AHEAD of 'go_enter'; part every test ahead of the walk. -/
set_option maxHeartbeats 8000000 in
theorem walk (r0 : Rel) (w : World) (w0 : At cRel w r0 [.string r0.name, .int .i64 r0.arity, .int .i64 r0.key]) :
    Calls Try.prog 3 #[.agg #[.string r0.name, .int .i64 r0.arity, .int .i64 r0.key]] w fun e w' => e = .returned (.bool true) ∧ Below w.heap.size w w' := by
  have o0 := w0
  clear w0
  have hle0 := szR_le (1048576) (r0.name.size) (by omega)
  by_cases hn0 : szR (1048576) (r0.name.size) < 0
  · have hk := hn0
    go_enter Try.func3, Try.ntmps3
    go_wp2_with fail
    obtain ⟨wx, hwx⟩ : ∃ wx, wx = (w.alloc (Obj.cells #[.string r0.name, .int .i64 r0.arity, .int .i64 r0.key] 23)) := ⟨_, rfl⟩
    rw [← hwx]
    have hbb : Below w.heap.size w wx := by rw [hwx]; go_grown
    have p0_0 : wx.cell? ⟨w.heap.size, 0, none⟩ = some (.string r0.name) := by rw [hwx]; go_simp
    have p0_1 : wx.cell? ⟨w.heap.size, 1, none⟩ = some (.int .i64 r0.arity) := by rw [hwx]; go_simp
    have p0_2 : wx.cell? ⟨w.heap.size, 2, none⟩ = some (.int .i64 r0.key) := by rw [hwx]; go_simp
    replace o0 := At.below o0 hbb (Nat.le_refl _)
    clear hwx
    refine (szRelation_c (by omega) (by omega) (At.here o0)).mono ?_
    rintro e wx ⟨rfl, hb⟩
    replace o0 := At.next o0 hb
    replace p0_0 := cell_next p0_0 hb
    replace p0_1 := cell_next p0_1 hb
    replace p0_2 := cell_next p0_2 hb
    replace hbb := Below.next hbb hb
    clear hb
    go_wp2
    go_ret
    exact ⟨rfl, hbb⟩
  have hz0 : r0.name.size ≤ 1048576 := szR_ge hn0 (by omega)
  go_enter Try.func3, Try.ntmps3
  go_wp2_with fail
  obtain ⟨wx, hwx⟩ : ∃ wx, wx = (w.alloc (Obj.cells #[.string r0.name, .int .i64 r0.arity, .int .i64 r0.key] 23)) := ⟨_, rfl⟩
  rw [← hwx]
  have hbb : Below w.heap.size w wx := by rw [hwx]; go_grown
  have p0_0 : wx.cell? ⟨w.heap.size, 0, none⟩ = some (.string r0.name) := by rw [hwx]; go_simp
  have p0_1 : wx.cell? ⟨w.heap.size, 1, none⟩ = some (.int .i64 r0.arity) := by rw [hwx]; go_simp
  have p0_2 : wx.cell? ⟨w.heap.size, 2, none⟩ = some (.int .i64 r0.key) := by rw [hwx]; go_simp
  replace o0 := At.below o0 hbb (Nat.le_refl _)
  clear hwx
  refine (szRelation_c (by omega) (by omega) (At.here o0)).mono ?_
  rintro e wx ⟨rfl, hb⟩
  replace o0 := At.next o0 hb
  replace p0_0 := cell_next p0_0 hb
  replace p0_1 := cell_next p0_1 hb
  replace p0_2 := cell_next p0_2 hb
  replace hbb := Below.next hbb hb
  clear hb
  go_wp2_with fail
  refine (toRelation_c hz0 (At.here o0)).mono ?_
  rintro e wx ⟨⟨rfl, q⟩, hb⟩
  have s0 := q.at
  clear q
  replace o0 := At.next o0 hb
  replace p0_0 := cell_next p0_0 hb
  replace p0_1 := cell_next p0_1 hb
  replace p0_2 := cell_next p0_2 hb
  replace hbb := Below.next hbb hb
  clear hb
  go_wp2_with fail
  refine (specIsValidRelation_c (At.here s0)).mono ?_
  rintro e wx ⟨rfl, hb⟩
  replace o0 := At.next o0 hb
  replace s0 := At.next s0 hb
  replace p0_0 := cell_next p0_0 hb
  replace p0_1 := cell_next p0_1 hb
  replace p0_2 := cell_next p0_2 hb
  replace hbb := Below.next hbb hb
  clear hb
  clear s0
  go_wp2_with fail
  refine (toRelation_c hz0 (At.here o0)).mono ?_
  rintro e wx ⟨⟨rfl, q⟩, hb⟩
  have s0 := q.at
  clear q
  replace o0 := At.next o0 hb
  replace p0_0 := cell_next p0_0 hb
  replace p0_1 := cell_next p0_1 hb
  replace p0_2 := cell_next p0_2 hb
  replace hbb := Below.next hbb hb
  clear hb
  go_wp2_with fail
  refine (implIsValidRelation_c (At.here s0)).mono ?_
  rintro e wx ⟨rfl, hb⟩
  replace o0 := At.next o0 hb
  replace s0 := At.next s0 hb
  replace p0_0 := cell_next p0_0 hb
  replace p0_1 := cell_next p0_1 hb
  replace p0_2 := cell_next p0_2 hb
  replace hbb := Below.next hbb hb
  clear hb
  clear s0
  have hne0 : ((validRel r0) != (validRel r0)) = false := bne_self_eq_false _
  go_wp2
  go_ret
  exact ⟨rfl, hbb⟩

/-! ### THE ROW's STEP: WRITTEN OUT: LEAVE IT -/
set_option maxRecDepth 100000 in
theorem lifted (os : Os) (started : os.Started) (H : Type) (enc : TypeId × Value → H) :
    ReturnsInHanded {} Try.checked os 3 .any (Rows.fnExactIsValidRelationSpec.pre6 enc Try.prog Try.f3 Rows.fnExactIsValidRelationRow.domain false) (Rows.fnExactIsValidRelationSpec.post enc Try.prog Try.f3 false true false false) := by
  refine returnsInHanded_of_change (C := Try.checked) own started (by kernel_rfl) Try.func3
    (ChangeSpec.witness6 (enc := enc) (C := Try.checked) false ⟨#[], #[.agg #[.string ByteArray.empty, .int .i64 0, .int .i64 0]], []⟩ 8 (by kernel_rfl) (by kernel_rfl) (by kernel_rfl) (by kernel_rfl)) ?_
  intro W base args ds gs before hval0 hW hcnd _
  have hval : ∀ (j : Nat) t v, Try.f3.params[j]? = some t → args[j]? = some v → Value.okWide Try.prog W .any base t v := hval0
  have hW' := hW
  obtain ⟨p, q, hA0, hV, rfl, hfz, hnd⟩ := hW
  have hA : DataW.TrodAll enc Try.prog W 0 (fun _ => true) true Try.f3.params.toList args.toList ds p := hA0
  rw [Try.params3] at hA hval
  obtain ⟨v0, vs0, d0, ds0, p0, q0, hargs, rfl, rfl, h0, r0⟩ := trodAll_cons hA
  obtain ⟨rfl, rfl, rfl⟩ := trodAll_nil r0
  obtain rfl : args = #[v0] := by cases args; simp_all
  obtain ⟨rfl, rfl⟩ := trodVars_none hV
  have k0 := h0
  have lt0 : ∀ x ∈ p0, x.block < W.heap.size := by obtain ⟨m, hm⟩ := k0; exact DataW.trod_lt m _ _ _ hm
  obtain ⟨r0, rfl, w0⟩ := row_Relation (hval 0 23 v0 rfl rfl) h0
  clear hA0 hval0
  refine (walk r0 W w0).mono fun e W' ⟨he, bel⟩ => ?_
  subst he
  exact ⟨_, rfl, _, _, _, [], _, [], hW', trodAll_mk1 (shut_bool Try.underlying4 _), (trodAll_cons_mk (Below.trod laidOut (by kernel_rfl) (of_decide_eq_true (by kernel_rfl)) k0 bel lt0) trodAll_mk0), rfl, bel.frame _, fun h => by cases h⟩

theorem over : Rows.fnExactIsValidRelationRow.holds Try.pinned (OpenSpec.ofChange Rows.fnExactIsValidRelationSpec) :=
  OpenClaim.holds_of_wide 3 Try.f3 rfl rfl rfl rfl rfl rfl rfl ⟨rfl, rfl, rfl, rfl, rfl⟩ rfl rfl rfl rfl rfl (by kernel_rfl) Try.func3 (by kernel_rfl)
    (of_decide_eq_true (by kernel_rfl)) (by unfold Func.isWrapper; first | (rw [if_pos (by decide +kernel)]; kernel_rfl) | (rw [if_neg (by decide +kernel)]; exact ⟨rfl, rfl⟩))
    (fun os started H enc _ => lifted os started H enc)

/-- ████ THE STATEMENT ████ -/
theorem proved : Rows.FnExactIsValidRelationSaid := over
#print axioms proved
end Go.Proofs.Ytcigoeipaichaaa.fnExactIsValidRelation

/- FnExactLadderQuery: LadderQuery: the program's answer is the model's and owns its memory. -/
import Derived.Test.YtknnnebjjjldpaaRows
import Derived.WalkKit
import Derived.Test.YtknnnebjjjldpaaRowTwo
import Derived.Test.YtknnnebjjjldpaaTyTre
import Derived.Test.YtknnnebjjjldpaaMarkK
import Derived.Test.YtknnnebjjjldpaaCLadderQuery
import Derived.Deep.Cut
import Derived.ProofKit
import Derived.OpenShut
import Derived.ShutString
namespace Go.Proofs.Ytknnnebjjjldpaa.fnExactLadderQuery
open Go.ChangeShapes Go.WideShapes Go.ChangeAt Go.RowKit
open Go.ChangeMaps (open_string shut_string)
set_option maxRecDepth 100000
set_option linter.unusedVariables false      -- a walk need not use every 'w<i>' (that an integer argument fits its kind)

theorem own : ownKnob Try.prog.godebug = none := by kernel_rfl

/-! ### STEP 1: THE WALK: the Go text returns true. 'Grown w w'': the world has at most new blocks (Derived/RowKit3.lean). Part the cases AHEAD of 'go_enter' where a test parts the walk; take each callee by a contract of your own. -/
set_option maxHeartbeats 8000000 in
theorem walk  (w : World) :
    Calls Try.prog 5 #[] w fun e w' => e = .returned (.bool true) ∧ Below w.heap.size w w' := by
  have hB : lvQ ((Ab.ladQ)) ≤ 4611686018427000000 := (by decide)
  obtain ⟨R, hRR⟩ : ∃ R, Ab.ladQ = R := ⟨_, rfl⟩
  rw [hRR] at hB
  go_enter Try.func5, Try.ntmps5
  go_wp2_with fail
  have hbb := Below.refl w.heap.size w
  have hm0 : w.heap.size ≤ w.heap.size := Nat.le_refl _
  refine (specLadderQuery_c).mono ?_
  rintro e wx1 ⟨⟨ra1_g_w, rc1_g_w, ra2_g_w, rc2_g_w, he, q⟩, hb⟩
  rw [hRR] at he q
  subst he
  have g_w : OwnIn cQry w.heap.size wx1.heap.size wx1 R [.int .i64 R.vars, .slice ra1_g_w R.atoms.length rc1_g_w, .slice ra2_g_w R.free.length rc2_g_w] := q
  clear q
  have hm1 : w.heap.size ≤ wx1.heap.size := hb.size
  replace hbb := Below.next hbb hb
  clear hb
  go_upto_region 2 with fail
  obtain ⟨wx2, hb, hsz, rg_w_0, rg_w_1, rg_w_2, hwx⟩ : ∃ wy, Below wx1.heap.size wx1 wy ∧ wx1.heap.size < wy.heap.size ∧ wy.cell? ⟨wx1.heap.size, 0, none⟩ = some (.int .i64 R.vars) ∧ wy.cell? ⟨wx1.heap.size, 1, none⟩ = some (.slice ra1_g_w R.atoms.length rc1_g_w) ∧ wy.cell? ⟨wx1.heap.size, 2, none⟩ = some (.slice ra2_g_w R.free.length rc2_g_w) ∧ wx1.alloc (Obj.cells #[.int .i64 R.vars, .slice ra1_g_w R.atoms.length rc1_g_w, .slice ra2_g_w R.free.length rc2_g_w] 41) = wy := ⟨_, by go_grown, by simp, by go_simp, by go_simp, by go_simp, rfl⟩
  rw [hwx]
  clear hwx
  have hqrg_w := hsz
  clear hsz
  have hm2 : wx1.heap.size ≤ wx2.heap.size := hb.size
  replace g_w := OwnIn.next g_w (by omega) hb
  replace hbb := Below.next hbb hb
  clear hb
  go_wp2_with fail
  refine (implLadderQuery_c).mono ?_
  rintro e wx3 ⟨⟨ra1_g_g, rc1_g_g, ra2_g_g, rc2_g_g, he, q⟩, hb⟩
  rw [hRR] at he q
  subst he
  have g_g : OwnIn cQry wx2.heap.size wx3.heap.size wx3 R [.int .i64 R.vars, .slice ra1_g_g R.atoms.length rc1_g_g, .slice ra2_g_g R.free.length rc2_g_g] := q
  clear q
  have hm3 : wx2.heap.size ≤ wx3.heap.size := hb.size
  replace g_w := OwnIn.next g_w (by omega) hb
  replace rg_w_0 := cell_next rg_w_0 hb
  replace rg_w_1 := cell_next rg_w_1 hb
  replace rg_w_2 := cell_next rg_w_2 hb
  replace hbb := Below.next hbb hb
  clear hb
  go_upto_region 3 with fail
  obtain ⟨wx4, hb, hsz, rg_g_0, rg_g_1, rg_g_2, hwx⟩ : ∃ wy, Below wx3.heap.size wx3 wy ∧ wx3.heap.size < wy.heap.size ∧ wy.cell? ⟨wx3.heap.size, 0, none⟩ = some (.int .i64 R.vars) ∧ wy.cell? ⟨wx3.heap.size, 1, none⟩ = some (.slice ra1_g_g R.atoms.length rc1_g_g) ∧ wy.cell? ⟨wx3.heap.size, 2, none⟩ = some (.slice ra2_g_g R.free.length rc2_g_g) ∧ wx3.alloc (Obj.cells #[.int .i64 R.vars, .slice ra1_g_g R.atoms.length rc1_g_g, .slice ra2_g_g R.free.length rc2_g_g] 41) = wy := ⟨_, by go_grown, by simp, by go_simp, by go_simp, by go_simp, rfl⟩
  rw [hwx]
  clear hwx
  have hqrg_g := hsz
  clear hsz
  have hm4 : wx3.heap.size ≤ wx4.heap.size := hb.size
  replace g_w := OwnIn.next g_w (by omega) hb
  replace g_g := OwnIn.next g_g (by omega) hb
  replace rg_w_0 := cell_next rg_w_0 hb
  replace rg_w_1 := cell_next rg_w_1 hb
  replace rg_w_2 := cell_next rg_w_2 hb
  replace hbb := Below.next hbb hb
  clear hb
  go_wp2_with fail
  refine (eqQuery_c (OwnIn.at g_g (by omega)) (OwnIn.at g_w (by omega))).mono ?_
  rintro e wx5 ⟨he, hb⟩
  rw [dec_self] at he
  subst he
  have hm5 : wx4.heap.size ≤ wx5.heap.size := hb.size
  replace g_w := OwnIn.next g_w (by omega) hb
  replace g_g := OwnIn.next g_g (by omega) hb
  replace rg_w_0 := cell_next rg_w_0 hb
  replace rg_w_1 := cell_next rg_w_1 hb
  replace rg_w_2 := cell_next rg_w_2 hb
  replace rg_g_0 := cell_next rg_g_0 hb
  replace rg_g_1 := cell_next rg_g_1 hb
  replace rg_g_2 := cell_next rg_g_2 hb
  replace hbb := Below.next hbb hb
  clear hb
  obtain ⟨F_g_g, hown, hF⟩ := g_g
  go_wp2_with fail
  refine (markQuery_c (k := 1) (by omega) (fun k hk => by have := (hF k hk).2; omega) hown).mono ?_
  rintro e wx6 ⟨he, hown2, ho⟩
  obtain ⟨mm, hmm⟩ : ∃ q : Nat, 1 + lvQ (R) = q := ⟨_, rfl⟩
  rw [hmm] at he
  subst he
  have hm6 : wx5.heap.size ≤ wx6.heap.size := ho.size
  replace g_w := OwnIn.only g_w ho hF (by omega) (by omega)
  replace rg_w_0 := cell_only rg_w_0 ho hF (by first | (left; simp only []; omega) | (right; simp only []; omega))
  replace rg_w_1 := cell_only rg_w_1 ho hF (by first | (left; simp only []; omega) | (right; simp only []; omega))
  replace rg_w_2 := cell_only rg_w_2 ho hF (by first | (left; simp only []; omega) | (right; simp only []; omega))
  replace rg_g_0 := cell_only rg_g_0 ho hF (by first | (left; simp only []; omega) | (right; simp only []; omega))
  replace rg_g_1 := cell_only rg_g_1 ho hF (by first | (left; simp only []; omega) | (right; simp only []; omega))
  replace rg_g_2 := cell_only rg_g_2 ho hF (by first | (left; simp only []; omega) | (right; simp only []; omega))
  replace hbb := Below.trans hbb (Only.below ho (fun k hk => by have := (hF k hk).1; omega) (by omega))
  have g_g : OwnIn cQry wx2.heap.size wx3.heap.size wx6 (markQ 1 R) _ := ⟨F_g_g, hown2, hF⟩
  clear hown hown2 ho hF
  have hmd : decide (((mm : Nat) : Int) < 0) = false := decide_eq_false (by omega)
  have hmn : (((mm : Nat) : Int) != ((mm : Nat) : Int)) = false := bne_self_eq_false _
  go_wp2_with fail
  refine (heldQuery_c (k := 1) (by omega) (OwnIn.at g_g (by omega))).mono ?_
  rintro e wx7 ⟨he, hb⟩
  rw [hmm] at he
  subst he
  have hm7 : wx6.heap.size ≤ wx7.heap.size := hb.size
  replace g_w := OwnIn.next g_w (by omega) hb
  replace g_g := OwnIn.next g_g (by omega) hb
  replace rg_w_0 := cell_next rg_w_0 hb
  replace rg_w_1 := cell_next rg_w_1 hb
  replace rg_w_2 := cell_next rg_w_2 hb
  replace rg_g_0 := cell_next rg_g_0 hb
  replace rg_g_1 := cell_next rg_g_1 hb
  replace rg_g_2 := cell_next rg_g_2 hb
  replace hbb := Below.next hbb hb
  clear hb
  go_wp2_with fail
  refine (implLadderQuery_c).mono ?_
  rintro e wx8 ⟨⟨ra1_g_h, rc1_g_h, ra2_g_h, rc2_g_h, he, q⟩, hb⟩
  rw [hRR] at he q
  subst he
  have g_h : OwnIn cQry wx7.heap.size wx8.heap.size wx8 R [.int .i64 R.vars, .slice ra1_g_h R.atoms.length rc1_g_h, .slice ra2_g_h R.free.length rc2_g_h] := q
  clear q
  have hm8 : wx7.heap.size ≤ wx8.heap.size := hb.size
  replace g_w := OwnIn.next g_w (by omega) hb
  replace g_g := OwnIn.next g_g (by omega) hb
  replace rg_w_0 := cell_next rg_w_0 hb
  replace rg_w_1 := cell_next rg_w_1 hb
  replace rg_w_2 := cell_next rg_w_2 hb
  replace rg_g_0 := cell_next rg_g_0 hb
  replace rg_g_1 := cell_next rg_g_1 hb
  replace rg_g_2 := cell_next rg_g_2 hb
  replace hbb := Below.next hbb hb
  clear hb
  go_upto_region 14 with fail
  obtain ⟨wx9, hb, hsz, rg_h_0, rg_h_1, rg_h_2, hwx⟩ : ∃ wy, Below wx8.heap.size wx8 wy ∧ wx8.heap.size < wy.heap.size ∧ wy.cell? ⟨wx8.heap.size, 0, none⟩ = some (.int .i64 R.vars) ∧ wy.cell? ⟨wx8.heap.size, 1, none⟩ = some (.slice ra1_g_h R.atoms.length rc1_g_h) ∧ wy.cell? ⟨wx8.heap.size, 2, none⟩ = some (.slice ra2_g_h R.free.length rc2_g_h) ∧ wx8.alloc (Obj.cells #[.int .i64 R.vars, .slice ra1_g_h R.atoms.length rc1_g_h, .slice ra2_g_h R.free.length rc2_g_h] 41) = wy := ⟨_, by go_grown, by simp, by go_simp, by go_simp, by go_simp, rfl⟩
  rw [hwx]
  clear hwx
  have hqrg_h := hsz
  clear hsz
  have hm9 : wx8.heap.size ≤ wx9.heap.size := hb.size
  replace g_w := OwnIn.next g_w (by omega) hb
  replace g_g := OwnIn.next g_g (by omega) hb
  replace g_h := OwnIn.next g_h (by omega) hb
  replace rg_w_0 := cell_next rg_w_0 hb
  replace rg_w_1 := cell_next rg_w_1 hb
  replace rg_w_2 := cell_next rg_w_2 hb
  replace rg_g_0 := cell_next rg_g_0 hb
  replace rg_g_1 := cell_next rg_g_1 hb
  replace rg_g_2 := cell_next rg_g_2 hb
  replace hbb := Below.next hbb hb
  clear hb
  go_wp2_with fail
  refine (eqQuery_c (OwnIn.at g_h (by omega)) (OwnIn.at g_w (by omega))).mono ?_
  rintro e wx10 ⟨he, hb⟩
  rw [dec_self] at he
  subst he
  have hm10 : wx9.heap.size ≤ wx10.heap.size := hb.size
  replace g_w := OwnIn.next g_w (by omega) hb
  replace g_g := OwnIn.next g_g (by omega) hb
  replace g_h := OwnIn.next g_h (by omega) hb
  replace rg_w_0 := cell_next rg_w_0 hb
  replace rg_w_1 := cell_next rg_w_1 hb
  replace rg_w_2 := cell_next rg_w_2 hb
  replace rg_g_0 := cell_next rg_g_0 hb
  replace rg_g_1 := cell_next rg_g_1 hb
  replace rg_g_2 := cell_next rg_g_2 hb
  replace rg_h_0 := cell_next rg_h_0 hb
  replace rg_h_1 := cell_next rg_h_1 hb
  replace rg_h_2 := cell_next rg_h_2 hb
  replace hbb := Below.next hbb hb
  clear hb
  go_wp2_with fail
  refine (heldQuery_c (k := 1) (by omega) (OwnIn.at g_g (by omega))).mono ?_
  rintro e wx11 ⟨he, hb⟩
  rw [hmm] at he
  subst he
  have hm11 : wx10.heap.size ≤ wx11.heap.size := hb.size
  replace g_w := OwnIn.next g_w (by omega) hb
  replace g_g := OwnIn.next g_g (by omega) hb
  replace g_h := OwnIn.next g_h (by omega) hb
  replace rg_w_0 := cell_next rg_w_0 hb
  replace rg_w_1 := cell_next rg_w_1 hb
  replace rg_w_2 := cell_next rg_w_2 hb
  replace rg_g_0 := cell_next rg_g_0 hb
  replace rg_g_1 := cell_next rg_g_1 hb
  replace rg_g_2 := cell_next rg_g_2 hb
  replace rg_h_0 := cell_next rg_h_0 hb
  replace rg_h_1 := cell_next rg_h_1 hb
  replace rg_h_2 := cell_next rg_h_2 hb
  replace hbb := Below.next hbb hb
  clear hb
  go_wp2
  go_ret
  exact ⟨rfl, hbb⟩

/-! ### THE ROW's STEP: WRITTEN OUT: LEAVE IT -/
set_option maxRecDepth 100000 in
theorem lifted (os : Os) (started : os.Started) (H : Type) (enc : TypeId × Value → H) :
    ReturnsInHanded {} Try.checked os 5 .any (Rows.fnExactLadderQuerySpec.pre6 enc Try.prog Try.f5 Rows.fnExactLadderQueryRow.domain false) (Rows.fnExactLadderQuerySpec.post enc Try.prog Try.f5 false true false false) := by
  refine returnsInHanded_of_change (C := Try.checked) own started (by kernel_rfl) Try.func5
    (ChangeSpec.witness6 (enc := enc) (C := Try.checked) false ⟨#[], #[], []⟩ 8 (by kernel_rfl) (by kernel_rfl) (by kernel_rfl) (by kernel_rfl)) ?_
  intro W base args ds gs before hval0 hW hcnd _
  have hval : ∀ (j : Nat) t v, Try.f5.params[j]? = some t → args[j]? = some v → Value.okWide Try.prog W .any base t v := hval0
  have hW' := hW
  obtain ⟨p, q, hA0, hV, rfl, hfz, hnd⟩ := hW
  have hA : DataW.TrodAll enc Try.prog W 0 (fun _ => true) true Try.f5.params.toList args.toList ds p := hA0
  rw [Try.params5] at hA hval
  obtain ⟨rfl, rfl, rfl⟩ := trodAll_none hA
  obtain ⟨rfl, rfl⟩ := trodVars_none hV
  clear hA0 hval0
  refine (walk  W).mono fun e W' ⟨he, hg⟩ => ?_
  subst he
  exact ⟨_, rfl, _, _, _, [], _, [], hW', trodAll_mk1 (shut_bool Try.underlying4 _), rfl, rfl, hg.frame _, fun h => by cases h⟩

theorem over : Rows.fnExactLadderQueryRow.holds Try.pinned (OpenSpec.ofChange Rows.fnExactLadderQuerySpec) :=
  OpenClaim.holds_of_wide 5 Try.f5 rfl rfl rfl rfl rfl rfl rfl ⟨rfl, rfl, rfl, rfl, rfl⟩ rfl rfl rfl rfl rfl (by kernel_rfl) Try.func5 (by kernel_rfl)
    (of_decide_eq_true (by kernel_rfl)) (by unfold Func.isWrapper; first | (rw [if_pos (by decide +kernel)]; kernel_rfl) | (rw [if_neg (by decide +kernel)]; exact ⟨rfl, rfl⟩))
    (fun os started H enc _ => lifted os started H enc)

/-- ████ THE STATEMENT ████ -/
theorem proved : Rows.FnExactLadderQuerySaid :=
  over
#print axioms proved
end Go.Proofs.Ytknnnebjjjldpaa.fnExactLadderQuery

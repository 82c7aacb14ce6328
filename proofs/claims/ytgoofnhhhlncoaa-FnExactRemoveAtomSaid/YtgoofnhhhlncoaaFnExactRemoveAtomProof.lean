/- FnExactRemoveAtom: RemoveAtom: for all arguments the program's answer is the model's and the arguments read as before; the answer owns its memory; arguments of more than 1 MiB are let by in the statement itself. -/
import Derived.Test.YtgoofnhhhlncoaaRows
import Derived.WalkKit
import Derived.Test.YtgoofnhhhlncoaaRowTwo
import Derived.Test.YtgoofnhhhlncoaaTyTre
import Derived.Test.YtgoofnhhhlncoaaMarkThr
import Derived.Test.YtgoofnhhhlncoaaCRemoveAtom
import Derived.Deep.Cut
import Derived.ProofKit
import Derived.OpenShut
import Derived.ShutString
import Derived.ChangeOld
import Derived.Below
namespace Go.Proofs.Ytgoofnhhhlncoaa.fnExactRemoveAtom
open Go.ChangeShapes Go.WideShapes Go.ChangeAt Go.RowKit
open Go.ChangeMaps (open_string shut_string)
set_option maxRecDepth 100000
set_option linter.unusedVariables false

theorem own : ownKnob Try.prog.godebug = none := by kernel_rfl
theorem laidOut : laidOutB Try.prog = true := by kernel_rfl

/-- WHAT THE WALK IS TOLD OF A SLICE OF INTEGERS THAT CAME IN: it is nil; or it leads to a row of 'cap' cells, the numbers 'zs' (the first 'len' are its elements, the rest its spare room), each fitting its kind. -/
def IsRow (k : IntKind) (w : World) (a : Option Addr) (len cap : Nat) (zs : List Int) : Prop :=
  (a = none ∧ len = 0 ∧ cap = 0 ∧ zs = []) ∨
  ∃ x, a = some x ∧ len ≤ cap ∧ cap ≤ maxLen ∧ zs.length = cap ∧ (∀ i, i < zs.length → w.cell? (x.add i) = some (.int k (zs.getD i 0))) ∧ ∀ n ∈ zs, (Lit.int k n).wf = true

/-! ### STEP 1: THE WALK: the Go text returns true, AND WRITES NOTHING THAT WAS THERE: 'Below w.heap.size w w'' (Derived/Below.lean: '.refl', '.alloc', '.drew', '.setCell' at a new block, '.trans'). Open each 'IsRow' by 'rcases' AHEAD of 'go_enter'; part every test ahead of the walk. -/
set_option maxHeartbeats 8000000 in
theorem walk (x0 : Qry) (a1_0 : Option Addr) (cap1_0 : Nat) (a2_0 : Option Addr) (cap2_0 : Nat) (a1 : Int) (w : World) (w0 : At cQry w x0 [.int .i64 x0.vars, .slice a1_0 x0.atoms.length cap1_0, .slice a2_0 x0.free.length cap2_0]) (w1 : (Lit.int .i64 a1).wf = true) :
    Calls Try.prog 3 #[.agg #[.int .i64 x0.vars, .slice a1_0 x0.atoms.length cap1_0, .slice a2_0 x0.free.length cap2_0], .int .i64 a1] w fun e w' => e = .returned (.bool true) ∧ Below w.heap.size w w' := by
  have hg0 : Ab.Glob w := trivial
  have o0 := w0
  clear w0
  have hle0 := szR_le (1048576) (sizeQuery x0) (by omega)
  by_cases hn0 : szR (1048576) (sizeQuery x0) < 0
  · have hk := hn0
    go_enter Try.func3, Try.ntmps3
    go_wp2_with fail
    obtain ⟨wx0, hbb, hm0, p0_0, p0_1, p0_2, hwx⟩ : ∃ wx0, Below w.heap.size w wx0 ∧ w.heap.size + 1 ≤ wx0.heap.size ∧ wx0.cell? ⟨w.heap.size, 0, none⟩ = some (.int .i64 x0.vars) ∧ wx0.cell? ⟨w.heap.size, 1, none⟩ = some (.slice a1_0 x0.atoms.length cap1_0) ∧ wx0.cell? ⟨w.heap.size, 2, none⟩ = some (.slice a2_0 x0.free.length cap2_0) ∧ (w.alloc (Obj.cells #[.int .i64 x0.vars, .slice a1_0 x0.atoms.length cap1_0, .slice a2_0 x0.free.length cap2_0] 25)) = wx0 := ⟨_, by go_grown, by simp, by go_simp, by go_simp, by go_simp, rfl⟩
    rw [hwx]
    clear hwx
    refine (szQuery_c (by omega) (by omega) (At.below (c := cQry) o0 hbb (Nat.le_refl _))).mono ?_
    rintro e wx1 ⟨rfl, hb⟩
    have hm1 : wx0.heap.size ≤ wx1.heap.size := hb.size
    replace p0_0 := cell_next p0_0 hb
    replace p0_1 := cell_next p0_1 hb
    replace p0_2 := cell_next p0_2 hb
    replace hbb := Below.next hbb hb
    clear hb
    go_wp2
    go_ret
    exact ⟨rfl, hbb⟩
  have hz0 : sizeQuery x0 ≤ 1048576 := szR_ge hn0 (by omega)
  have hB : lvQ ((Ab.remQ x0 a1)) ≤ 4611686018427000000 := Ab.remQ_lv hz0 a1
  obtain ⟨R, hRR⟩ : ∃ R, Ab.remQ x0 a1 = R := ⟨_, rfl⟩
  rw [hRR] at hB
  go_enter Try.func3, Try.ntmps3
  go_wp2_with fail
  obtain ⟨wx0, hbb, hm0, p0_0, p0_1, p0_2, hwx⟩ : ∃ wx0, Below w.heap.size w wx0 ∧ w.heap.size + 1 ≤ wx0.heap.size ∧ wx0.cell? ⟨w.heap.size, 0, none⟩ = some (.int .i64 x0.vars) ∧ wx0.cell? ⟨w.heap.size, 1, none⟩ = some (.slice a1_0 x0.atoms.length cap1_0) ∧ wx0.cell? ⟨w.heap.size, 2, none⟩ = some (.slice a2_0 x0.free.length cap2_0) ∧ (w.alloc (Obj.cells #[.int .i64 x0.vars, .slice a1_0 x0.atoms.length cap1_0, .slice a2_0 x0.free.length cap2_0] 25)) = wx0 := ⟨_, by go_grown, by simp, by go_simp, by go_simp, by go_simp, rfl⟩
  rw [hwx]
  clear hwx
  refine (szQuery_c (by omega) (by omega) (At.below (c := cQry) o0 hbb (Nat.le_refl _))).mono ?_
  rintro e wx1 ⟨rfl, hb⟩
  have hm1 : wx0.heap.size ≤ wx1.heap.size := hb.size
  replace p0_0 := cell_next p0_0 hb
  replace p0_1 := cell_next p0_1 hb
  replace p0_2 := cell_next p0_2 hb
  replace hbb := Below.next hbb hb
  clear hb
  go_wp2_with fail
  refine (toQuery_c hz0 (At.below (c := cQry) o0 hbb (Nat.le_refl _))).mono ?_
  rintro e wx2 ⟨⟨ds0_0, ds0_1, ds0_2, ds0_3, rfl, q⟩, hb⟩
  have s0 : OwnIn cQry wx1.heap.size wx2.heap.size wx2 x0 [.int .i64 x0.vars, .slice ds0_0 x0.atoms.length ds0_1, .slice ds0_2 x0.free.length ds0_3] := q
  clear q
  have hm2 : wx1.heap.size ≤ wx2.heap.size := hb.size
  replace p0_0 := cell_next p0_0 hb
  replace p0_1 := cell_next p0_1 hb
  replace p0_2 := cell_next p0_2 hb
  replace hbb := Below.next hbb hb
  clear hb
  go_wp2_with fail
  refine (specRemoveAtom_c hz0 (OwnIn.at s0 (by omega)) (hg0.below hbb)).mono ?_
  rintro e wx3 ⟨⟨ra1_g_w, rc1_g_w, ra2_g_w, rc2_g_w, he, q⟩, hb⟩
  rw [hRR] at he q
  subst he
  have g_w : AtIn cQry wx2.heap.size wx3.heap.size wx3 R [.int .i64 R.vars, .slice ra1_g_w R.atoms.length rc1_g_w, .slice ra2_g_w R.free.length rc2_g_w] := q
  clear q
  have hm3 : wx2.heap.size ≤ wx3.heap.size := hb.size
  replace s0 := OwnIn.next s0 (by omega) hb
  replace p0_0 := cell_next p0_0 hb
  replace p0_1 := cell_next p0_1 hb
  replace p0_2 := cell_next p0_2 hb
  replace hbb := Below.next hbb hb
  clear hb
  go_upto_region 6 with fail
  obtain ⟨wx4, hb, hsz, rg_w_0, rg_w_1, rg_w_2, hwx⟩ : ∃ wy, Below wx3.heap.size wx3 wy ∧ wx3.heap.size < wy.heap.size ∧ wy.cell? ⟨wx3.heap.size, 0, none⟩ = some (.int .i64 R.vars) ∧ wy.cell? ⟨wx3.heap.size, 1, none⟩ = some (.slice ra1_g_w R.atoms.length rc1_g_w) ∧ wy.cell? ⟨wx3.heap.size, 2, none⟩ = some (.slice ra2_g_w R.free.length rc2_g_w) ∧ wx3.alloc (Obj.cells #[.int .i64 R.vars, .slice ra1_g_w R.atoms.length rc1_g_w, .slice ra2_g_w R.free.length rc2_g_w] 29) = wy := ⟨_, by go_grown, by simp, by go_simp, by go_simp, by go_simp, rfl⟩
  rw [hwx]
  clear hwx
  have hqrg_w := hsz
  clear hsz
  have hm4 : wx3.heap.size ≤ wx4.heap.size := hb.size
  replace s0 := OwnIn.next s0 (by omega) hb
  replace g_w := AtIn.next g_w (by omega) hb
  replace p0_0 := cell_next p0_0 hb
  replace p0_1 := cell_next p0_1 hb
  replace p0_2 := cell_next p0_2 hb
  replace hbb := Below.next hbb hb
  clear hb
  clear s0
  go_wp2_with fail
  refine (toQuery_c hz0 (At.below (c := cQry) o0 hbb (Nat.le_refl _))).mono ?_
  rintro e wx5 ⟨⟨dc0_0, dc0_1, dc0_2, dc0_3, rfl, q⟩, hb⟩
  have c0 : OwnIn cQry wx4.heap.size wx5.heap.size wx5 x0 [.int .i64 x0.vars, .slice dc0_0 x0.atoms.length dc0_1, .slice dc0_2 x0.free.length dc0_3] := q
  clear q
  have hm5 : wx4.heap.size ≤ wx5.heap.size := hb.size
  replace g_w := AtIn.next g_w (by omega) hb
  replace p0_0 := cell_next p0_0 hb
  replace p0_1 := cell_next p0_1 hb
  replace p0_2 := cell_next p0_2 hb
  replace rg_w_0 := cell_next rg_w_0 hb
  replace rg_w_1 := cell_next rg_w_1 hb
  replace rg_w_2 := cell_next rg_w_2 hb
  replace hbb := Below.next hbb hb
  clear hb
  go_upto_region 7 with fail
  obtain ⟨wx6, hb, hsz, q0_0, q0_1, q0_2, hwx⟩ : ∃ wy, Below wx5.heap.size wx5 wy ∧ wx5.heap.size < wy.heap.size ∧ wy.cell? ⟨wx5.heap.size, 0, none⟩ = some (.int .i64 x0.vars) ∧ wy.cell? ⟨wx5.heap.size, 1, none⟩ = some (.slice dc0_0 x0.atoms.length dc0_1) ∧ wy.cell? ⟨wx5.heap.size, 2, none⟩ = some (.slice dc0_2 x0.free.length dc0_3) ∧ wx5.alloc (Obj.cells #[.int .i64 x0.vars, .slice dc0_0 x0.atoms.length dc0_1, .slice dc0_2 x0.free.length dc0_3] 29) = wy := ⟨_, by go_grown, by simp, by go_simp, by go_simp, by go_simp, rfl⟩
  rw [hwx]
  clear hwx
  have hq0 := hsz
  clear hsz
  have hm6 : wx5.heap.size ≤ wx6.heap.size := hb.size
  replace g_w := AtIn.next g_w (by omega) hb
  replace c0 := OwnIn.next c0 (by omega) hb
  replace p0_0 := cell_next p0_0 hb
  replace p0_1 := cell_next p0_1 hb
  replace p0_2 := cell_next p0_2 hb
  replace rg_w_0 := cell_next rg_w_0 hb
  replace rg_w_1 := cell_next rg_w_1 hb
  replace rg_w_2 := cell_next rg_w_2 hb
  replace hbb := Below.next hbb hb
  clear hb
  go_wp2_with fail
  refine (implRemoveAtom_c hz0 (OwnIn.at c0 (by omega)) (hg0.below hbb)).mono ?_
  rintro e wx7 ⟨⟨ra1_g_g, rc1_g_g, ra2_g_g, rc2_g_g, he, q⟩, hb⟩
  rw [hRR] at he q
  subst he
  have g_g : OwnIn cQry wx6.heap.size wx7.heap.size wx7 R [.int .i64 R.vars, .slice ra1_g_g R.atoms.length rc1_g_g, .slice ra2_g_g R.free.length rc2_g_g] := q
  clear q
  have hm7 : wx6.heap.size ≤ wx7.heap.size := hb.size
  replace g_w := AtIn.next g_w (by omega) hb
  replace c0 := OwnIn.next c0 (by omega) hb
  replace p0_0 := cell_next p0_0 hb
  replace p0_1 := cell_next p0_1 hb
  replace p0_2 := cell_next p0_2 hb
  replace rg_w_0 := cell_next rg_w_0 hb
  replace rg_w_1 := cell_next rg_w_1 hb
  replace rg_w_2 := cell_next rg_w_2 hb
  replace q0_0 := cell_next q0_0 hb
  replace q0_1 := cell_next q0_1 hb
  replace q0_2 := cell_next q0_2 hb
  replace hbb := Below.next hbb hb
  clear hb
  go_upto_region 8 with fail
  obtain ⟨wx8, hb, hsz, rg_g_0, rg_g_1, rg_g_2, hwx⟩ : ∃ wy, Below wx7.heap.size wx7 wy ∧ wx7.heap.size < wy.heap.size ∧ wy.cell? ⟨wx7.heap.size, 0, none⟩ = some (.int .i64 R.vars) ∧ wy.cell? ⟨wx7.heap.size, 1, none⟩ = some (.slice ra1_g_g R.atoms.length rc1_g_g) ∧ wy.cell? ⟨wx7.heap.size, 2, none⟩ = some (.slice ra2_g_g R.free.length rc2_g_g) ∧ wx7.alloc (Obj.cells #[.int .i64 R.vars, .slice ra1_g_g R.atoms.length rc1_g_g, .slice ra2_g_g R.free.length rc2_g_g] 29) = wy := ⟨_, by go_grown, by simp, by go_simp, by go_simp, by go_simp, rfl⟩
  rw [hwx]
  clear hwx
  have hqrg_g := hsz
  clear hsz
  have hm8 : wx7.heap.size ≤ wx8.heap.size := hb.size
  replace g_w := AtIn.next g_w (by omega) hb
  replace c0 := OwnIn.next c0 (by omega) hb
  replace g_g := OwnIn.next g_g (by omega) hb
  replace p0_0 := cell_next p0_0 hb
  replace p0_1 := cell_next p0_1 hb
  replace p0_2 := cell_next p0_2 hb
  replace rg_w_0 := cell_next rg_w_0 hb
  replace rg_w_1 := cell_next rg_w_1 hb
  replace rg_w_2 := cell_next rg_w_2 hb
  replace q0_0 := cell_next q0_0 hb
  replace q0_1 := cell_next q0_1 hb
  replace q0_2 := cell_next q0_2 hb
  replace hbb := Below.next hbb hb
  clear hb
  go_wp2_with fail
  refine (eqQuery_c (OwnIn.at g_g (by omega)) (AtIn.at g_w (by omega))).mono ?_
  rintro e wx9 ⟨he, hb⟩
  rw [dec_self] at he
  subst he
  have hm9 : wx8.heap.size ≤ wx9.heap.size := hb.size
  replace g_w := AtIn.next g_w (by omega) hb
  replace c0 := OwnIn.next c0 (by omega) hb
  replace g_g := OwnIn.next g_g (by omega) hb
  replace p0_0 := cell_next p0_0 hb
  replace p0_1 := cell_next p0_1 hb
  replace p0_2 := cell_next p0_2 hb
  replace rg_w_0 := cell_next rg_w_0 hb
  replace rg_w_1 := cell_next rg_w_1 hb
  replace rg_w_2 := cell_next rg_w_2 hb
  replace q0_0 := cell_next q0_0 hb
  replace q0_1 := cell_next q0_1 hb
  replace q0_2 := cell_next q0_2 hb
  replace rg_g_0 := cell_next rg_g_0 hb
  replace rg_g_1 := cell_next rg_g_1 hb
  replace rg_g_2 := cell_next rg_g_2 hb
  replace hbb := Below.next hbb hb
  clear hb
  go_upto_region 10 with fail
  have hbm := Below.refl wx9.heap.size wx9
  have x0_at := (OwnIn.at c0 (by omega))
  go_cut [35] from 13 (fun v0 wr => v0 = .bool false ∧ Below wx9.heap.size wx9 wr)
  case first =>
    go_region_with (first
      | (go_at_call 17; refine (toQuery_c hz0 (At.here (At.below (c := cQry) o0 hbb (Nat.le_refl _)))).mono ?_; rintro e wy ⟨⟨_, _, _, _, rfl, q⟩, hb⟩; have t_at := q.at; clear q; replace x0_at := At.next x0_at hb; replace p0_0 := cell_next p0_0 hb; replace p0_1 := cell_next p0_1 hb; replace p0_2 := cell_next p0_2 hb; replace rg_w_0 := cell_next rg_w_0 hb; replace rg_w_1 := cell_next rg_w_1 hb; replace rg_w_2 := cell_next rg_w_2 hb; replace q0_0 := cell_next q0_0 hb; replace q0_1 := cell_next q0_1 hb; replace q0_2 := cell_next q0_2 hb; replace rg_g_0 := cell_next rg_g_0 hb; replace rg_g_1 := cell_next rg_g_1 hb; replace rg_g_2 := cell_next rg_g_2 hb; replace hbm := Below.next hbm hb; clear hb)
      | (go_at_call 19; refine (eqQuery_c (At.here x0_at) (At.here t_at)).mono ?_; rintro e wy ⟨he, hb⟩; rw [dec_self] at he; subst he; replace hbm := Below.next hbm hb; clear hb))
    all_goals (go_wp2_with fail; go_meet; exact ⟨rfl, hbm⟩)
  case rest =>
  obtain ⟨rfl, hb⟩ := hcut
  clear hbm x0_at
  obtain ⟨wx10, hwx⟩ : ∃ wx, wx = wc := ⟨_, rfl⟩
  subst hwx
  have hm10 : wx9.heap.size ≤ wx10.heap.size := hb.size
  replace g_w := AtIn.next g_w (by omega) hb
  replace c0 := OwnIn.next c0 (by omega) hb
  replace g_g := OwnIn.next g_g (by omega) hb
  replace p0_0 := cell_next p0_0 hb
  replace p0_1 := cell_next p0_1 hb
  replace p0_2 := cell_next p0_2 hb
  replace rg_w_0 := cell_next rg_w_0 hb
  replace rg_w_1 := cell_next rg_w_1 hb
  replace rg_w_2 := cell_next rg_w_2 hb
  replace q0_0 := cell_next q0_0 hb
  replace q0_1 := cell_next q0_1 hb
  replace q0_2 := cell_next q0_2 hb
  replace rg_g_0 := cell_next rg_g_0 hb
  replace rg_g_1 := cell_next rg_g_1 hb
  replace rg_g_2 := cell_next rg_g_2 hb
  replace hbb := Below.next hbb hb
  clear hb
  have hlv0 := lvQ_le x0
  obtain ⟨F_c0, hown, hF⟩ := c0
  go_wp2_with fail
  refine (markQuery_c (k := 1) (by omega) (fun k hk => by have := (hF k hk).2; omega) hown).mono ?_
  rintro e wx11 ⟨he, hown2, ho⟩
  obtain ⟨k0_, hk0_⟩ : ∃ q : Nat, 1 + lvQ x0 = q := ⟨_, rfl⟩
  rw [hk0_] at he
  subst he
  have hm11 : wx10.heap.size ≤ wx11.heap.size := ho.size
  replace g_w := AtIn.only g_w ho hF (by omega) (by omega)
  replace g_g := OwnIn.only g_g ho hF (by omega) (by omega)
  replace p0_0 := cell_only p0_0 ho hF (by first | (left; simp only []; omega) | (right; simp only []; omega))
  replace p0_1 := cell_only p0_1 ho hF (by first | (left; simp only []; omega) | (right; simp only []; omega))
  replace p0_2 := cell_only p0_2 ho hF (by first | (left; simp only []; omega) | (right; simp only []; omega))
  replace rg_w_0 := cell_only rg_w_0 ho hF (by first | (left; simp only []; omega) | (right; simp only []; omega))
  replace rg_w_1 := cell_only rg_w_1 ho hF (by first | (left; simp only []; omega) | (right; simp only []; omega))
  replace rg_w_2 := cell_only rg_w_2 ho hF (by first | (left; simp only []; omega) | (right; simp only []; omega))
  replace q0_0 := cell_only q0_0 ho hF (by first | (left; simp only []; omega) | (right; simp only []; omega))
  replace q0_1 := cell_only q0_1 ho hF (by first | (left; simp only []; omega) | (right; simp only []; omega))
  replace q0_2 := cell_only q0_2 ho hF (by first | (left; simp only []; omega) | (right; simp only []; omega))
  replace rg_g_0 := cell_only rg_g_0 ho hF (by first | (left; simp only []; omega) | (right; simp only []; omega))
  replace rg_g_1 := cell_only rg_g_1 ho hF (by first | (left; simp only []; omega) | (right; simp only []; omega))
  replace rg_g_2 := cell_only rg_g_2 ho hF (by first | (left; simp only []; omega) | (right; simp only []; omega))
  replace hbb := Below.trans hbb (Only.below ho (fun k hk => by have := (hF k hk).1; omega) (by omega))
  have c0 : OwnIn cQry wx4.heap.size wx5.heap.size wx11 (markQ 1 x0) _ := ⟨F_c0, hown2, hF⟩
  clear hown hown2 ho hF
  clear c0
  have hkd : decide (((k0_ : Nat) : Int) < 0) = false := decide_eq_false (by omega)
  go_wp2_with fail
  refine (eqQuery_c (OwnIn.at g_g (by omega)) (AtIn.at g_w (by omega))).mono ?_
  rintro e wx12 ⟨he, hb⟩
  rw [dec_self] at he
  subst he
  have hm12 : wx11.heap.size ≤ wx12.heap.size := hb.size
  replace g_w := AtIn.next g_w (by omega) hb
  replace g_g := OwnIn.next g_g (by omega) hb
  replace p0_0 := cell_next p0_0 hb
  replace p0_1 := cell_next p0_1 hb
  replace p0_2 := cell_next p0_2 hb
  replace rg_w_0 := cell_next rg_w_0 hb
  replace rg_w_1 := cell_next rg_w_1 hb
  replace rg_w_2 := cell_next rg_w_2 hb
  replace q0_0 := cell_next q0_0 hb
  replace q0_1 := cell_next q0_1 hb
  replace q0_2 := cell_next q0_2 hb
  replace rg_g_0 := cell_next rg_g_0 hb
  replace rg_g_1 := cell_next rg_g_1 hb
  replace rg_g_2 := cell_next rg_g_2 hb
  replace hbb := Below.next hbb hb
  clear hb
  obtain ⟨F_g_g, hown, hF⟩ := g_g
  go_wp2_with fail
  refine (markQuery_c (k := 1) (by omega) (fun k hk => by have := (hF k hk).2; omega) hown).mono ?_
  rintro e wx13 ⟨he, hown2, ho⟩
  obtain ⟨mm, hmm⟩ : ∃ q : Nat, 1 + lvQ (R) = q := ⟨_, rfl⟩
  rw [hmm] at he
  subst he
  have hm13 : wx12.heap.size ≤ wx13.heap.size := ho.size
  replace g_w := AtIn.only g_w ho hF (by omega) (by omega)
  replace p0_0 := cell_only p0_0 ho hF (by first | (left; simp only []; omega) | (right; simp only []; omega))
  replace p0_1 := cell_only p0_1 ho hF (by first | (left; simp only []; omega) | (right; simp only []; omega))
  replace p0_2 := cell_only p0_2 ho hF (by first | (left; simp only []; omega) | (right; simp only []; omega))
  replace rg_w_0 := cell_only rg_w_0 ho hF (by first | (left; simp only []; omega) | (right; simp only []; omega))
  replace rg_w_1 := cell_only rg_w_1 ho hF (by first | (left; simp only []; omega) | (right; simp only []; omega))
  replace rg_w_2 := cell_only rg_w_2 ho hF (by first | (left; simp only []; omega) | (right; simp only []; omega))
  replace q0_0 := cell_only q0_0 ho hF (by first | (left; simp only []; omega) | (right; simp only []; omega))
  replace q0_1 := cell_only q0_1 ho hF (by first | (left; simp only []; omega) | (right; simp only []; omega))
  replace q0_2 := cell_only q0_2 ho hF (by first | (left; simp only []; omega) | (right; simp only []; omega))
  replace rg_g_0 := cell_only rg_g_0 ho hF (by first | (left; simp only []; omega) | (right; simp only []; omega))
  replace rg_g_1 := cell_only rg_g_1 ho hF (by first | (left; simp only []; omega) | (right; simp only []; omega))
  replace rg_g_2 := cell_only rg_g_2 ho hF (by first | (left; simp only []; omega) | (right; simp only []; omega))
  replace hbb := Below.trans hbb (Only.below ho (fun k hk => by have := (hF k hk).1; omega) (by omega))
  have g_g : OwnIn cQry wx6.heap.size wx7.heap.size wx13 (markQ 1 R) _ := ⟨F_g_g, hown2, hF⟩
  clear hown hown2 ho hF
  have hmd : decide (((mm : Nat) : Int) < 0) = false := decide_eq_false (by omega)
  have hmn : (((mm : Nat) : Int) != ((mm : Nat) : Int)) = false := bne_self_eq_false _
  go_wp2_with fail
  refine (heldQuery_c (k := 1) (by omega) (OwnIn.at g_g (by omega))).mono ?_
  rintro e wx14 ⟨he, hb⟩
  rw [hmm] at he
  subst he
  have hm14 : wx13.heap.size ≤ wx14.heap.size := hb.size
  replace g_w := AtIn.next g_w (by omega) hb
  replace g_g := OwnIn.next g_g (by omega) hb
  replace p0_0 := cell_next p0_0 hb
  replace p0_1 := cell_next p0_1 hb
  replace p0_2 := cell_next p0_2 hb
  replace rg_w_0 := cell_next rg_w_0 hb
  replace rg_w_1 := cell_next rg_w_1 hb
  replace rg_w_2 := cell_next rg_w_2 hb
  replace q0_0 := cell_next q0_0 hb
  replace q0_1 := cell_next q0_1 hb
  replace q0_2 := cell_next q0_2 hb
  replace rg_g_0 := cell_next rg_g_0 hb
  replace rg_g_1 := cell_next rg_g_1 hb
  replace rg_g_2 := cell_next rg_g_2 hb
  replace hbb := Below.next hbb hb
  clear hb
  go_wp2_with fail
  refine (toQuery_c hz0 (At.below (c := cQry) o0 hbb (Nat.le_refl _))).mono ?_
  rintro e wx15 ⟨⟨ds0_0, ds0_1, ds0_2, ds0_3, rfl, q⟩, hb⟩
  have s0 : OwnIn cQry wx14.heap.size wx15.heap.size wx15 x0 [.int .i64 x0.vars, .slice ds0_0 x0.atoms.length ds0_1, .slice ds0_2 x0.free.length ds0_3] := q
  clear q
  have hm15 : wx14.heap.size ≤ wx15.heap.size := hb.size
  replace g_w := AtIn.next g_w (by omega) hb
  replace g_g := OwnIn.next g_g (by omega) hb
  replace p0_0 := cell_next p0_0 hb
  replace p0_1 := cell_next p0_1 hb
  replace p0_2 := cell_next p0_2 hb
  replace rg_w_0 := cell_next rg_w_0 hb
  replace rg_w_1 := cell_next rg_w_1 hb
  replace rg_w_2 := cell_next rg_w_2 hb
  replace q0_0 := cell_next q0_0 hb
  replace q0_1 := cell_next q0_1 hb
  replace q0_2 := cell_next q0_2 hb
  replace rg_g_0 := cell_next rg_g_0 hb
  replace rg_g_1 := cell_next rg_g_1 hb
  replace rg_g_2 := cell_next rg_g_2 hb
  replace hbb := Below.next hbb hb
  clear hb
  go_wp2_with fail
  refine (implRemoveAtom_c hz0 (OwnIn.at s0 (by omega)) (hg0.below hbb)).mono ?_
  rintro e wx16 ⟨⟨ra1_g_h, rc1_g_h, ra2_g_h, rc2_g_h, he, q⟩, hb⟩
  rw [hRR] at he q
  subst he
  have g_h : OwnIn cQry wx15.heap.size wx16.heap.size wx16 R [.int .i64 R.vars, .slice ra1_g_h R.atoms.length rc1_g_h, .slice ra2_g_h R.free.length rc2_g_h] := q
  clear q
  have hm16 : wx15.heap.size ≤ wx16.heap.size := hb.size
  replace g_w := AtIn.next g_w (by omega) hb
  replace g_g := OwnIn.next g_g (by omega) hb
  replace s0 := OwnIn.next s0 (by omega) hb
  replace p0_0 := cell_next p0_0 hb
  replace p0_1 := cell_next p0_1 hb
  replace p0_2 := cell_next p0_2 hb
  replace rg_w_0 := cell_next rg_w_0 hb
  replace rg_w_1 := cell_next rg_w_1 hb
  replace rg_w_2 := cell_next rg_w_2 hb
  replace q0_0 := cell_next q0_0 hb
  replace q0_1 := cell_next q0_1 hb
  replace q0_2 := cell_next q0_2 hb
  replace rg_g_0 := cell_next rg_g_0 hb
  replace rg_g_1 := cell_next rg_g_1 hb
  replace rg_g_2 := cell_next rg_g_2 hb
  replace hbb := Below.next hbb hb
  clear hb
  go_upto_region 25 with fail
  obtain ⟨wx17, hb, hsz, rg_h_0, rg_h_1, rg_h_2, hwx⟩ : ∃ wy, Below wx16.heap.size wx16 wy ∧ wx16.heap.size < wy.heap.size ∧ wy.cell? ⟨wx16.heap.size, 0, none⟩ = some (.int .i64 R.vars) ∧ wy.cell? ⟨wx16.heap.size, 1, none⟩ = some (.slice ra1_g_h R.atoms.length rc1_g_h) ∧ wy.cell? ⟨wx16.heap.size, 2, none⟩ = some (.slice ra2_g_h R.free.length rc2_g_h) ∧ wx16.alloc (Obj.cells #[.int .i64 R.vars, .slice ra1_g_h R.atoms.length rc1_g_h, .slice ra2_g_h R.free.length rc2_g_h] 29) = wy := ⟨_, by go_grown, by simp, by go_simp, by go_simp, by go_simp, rfl⟩
  rw [hwx]
  clear hwx
  have hqrg_h := hsz
  clear hsz
  have hm17 : wx16.heap.size ≤ wx17.heap.size := hb.size
  replace g_w := AtIn.next g_w (by omega) hb
  replace g_g := OwnIn.next g_g (by omega) hb
  replace s0 := OwnIn.next s0 (by omega) hb
  replace g_h := OwnIn.next g_h (by omega) hb
  replace p0_0 := cell_next p0_0 hb
  replace p0_1 := cell_next p0_1 hb
  replace p0_2 := cell_next p0_2 hb
  replace rg_w_0 := cell_next rg_w_0 hb
  replace rg_w_1 := cell_next rg_w_1 hb
  replace rg_w_2 := cell_next rg_w_2 hb
  replace q0_0 := cell_next q0_0 hb
  replace q0_1 := cell_next q0_1 hb
  replace q0_2 := cell_next q0_2 hb
  replace rg_g_0 := cell_next rg_g_0 hb
  replace rg_g_1 := cell_next rg_g_1 hb
  replace rg_g_2 := cell_next rg_g_2 hb
  replace hbb := Below.next hbb hb
  clear hb
  clear s0
  go_wp2_with fail
  refine (eqQuery_c (OwnIn.at g_h (by omega)) (AtIn.at g_w (by omega))).mono ?_
  rintro e wx18 ⟨he, hb⟩
  rw [dec_self] at he
  subst he
  have hm18 : wx17.heap.size ≤ wx18.heap.size := hb.size
  replace g_w := AtIn.next g_w (by omega) hb
  replace g_g := OwnIn.next g_g (by omega) hb
  replace g_h := OwnIn.next g_h (by omega) hb
  replace p0_0 := cell_next p0_0 hb
  replace p0_1 := cell_next p0_1 hb
  replace p0_2 := cell_next p0_2 hb
  replace rg_w_0 := cell_next rg_w_0 hb
  replace rg_w_1 := cell_next rg_w_1 hb
  replace rg_w_2 := cell_next rg_w_2 hb
  replace q0_0 := cell_next q0_0 hb
  replace q0_1 := cell_next q0_1 hb
  replace q0_2 := cell_next q0_2 hb
  replace rg_g_0 := cell_next rg_g_0 hb
  replace rg_g_1 := cell_next rg_g_1 hb
  replace rg_g_2 := cell_next rg_g_2 hb
  replace rg_h_0 := cell_next rg_h_0 hb
  replace rg_h_1 := cell_next rg_h_1 hb
  replace rg_h_2 := cell_next rg_h_2 hb
  replace hbb := Below.next hbb hb
  clear hb
  go_wp2_with fail
  refine (heldQuery_c (k := 1) (by omega) (OwnIn.at g_g (by omega))).mono ?_
  rintro e wx19 ⟨he, hb⟩
  rw [hmm] at he
  subst he
  have hm19 : wx18.heap.size ≤ wx19.heap.size := hb.size
  replace g_w := AtIn.next g_w (by omega) hb
  replace g_g := OwnIn.next g_g (by omega) hb
  replace g_h := OwnIn.next g_h (by omega) hb
  replace p0_0 := cell_next p0_0 hb
  replace p0_1 := cell_next p0_1 hb
  replace p0_2 := cell_next p0_2 hb
  replace rg_w_0 := cell_next rg_w_0 hb
  replace rg_w_1 := cell_next rg_w_1 hb
  replace rg_w_2 := cell_next rg_w_2 hb
  replace q0_0 := cell_next q0_0 hb
  replace q0_1 := cell_next q0_1 hb
  replace q0_2 := cell_next q0_2 hb
  replace rg_g_0 := cell_next rg_g_0 hb
  replace rg_g_1 := cell_next rg_g_1 hb
  replace rg_g_2 := cell_next rg_g_2 hb
  replace rg_h_0 := cell_next rg_h_0 hb
  replace rg_h_1 := cell_next rg_h_1 hb
  replace rg_h_2 := cell_next rg_h_2 hb
  replace hbb := Below.next hbb hb
  clear hb
  go_wp2
  go_ret
  exact ⟨rfl, hbb⟩

/-! ### THE ROW's STEP: WRITTEN OUT: LEAVE IT -/
set_option maxRecDepth 100000 in
theorem lifted (os : Os) (started : os.Started) (H : Type) (enc : TypeId × Value → H) :
    ReturnsInHanded {} Try.checked os 3 .any (Rows.fnExactRemoveAtomSpec.pre6 enc Try.prog Try.f3 Rows.fnExactRemoveAtomRow.domain false) (Rows.fnExactRemoveAtomSpec.post enc Try.prog Try.f3 false true false false) := by
  refine returnsInHanded_of_change (C := Try.checked) own started (by kernel_rfl) Try.func3
    (ChangeSpec.witness6 (enc := enc) (C := Try.checked) false ⟨#[], #[.agg #[.int .i64 0, .slice none 0 0, .slice none 0 0], .int .i64 0], []⟩ 8 (by kernel_rfl) (by kernel_rfl) (by kernel_rfl) (by kernel_rfl)) ?_
  intro W base args ds gs before hval0 hW hcnd _
  have hval : ∀ (j : Nat) t v, Try.f3.params[j]? = some t → args[j]? = some v → Value.okWide Try.prog W .any base t v := hval0
  have hW' := hW
  obtain ⟨p, q, hA0, hV, rfl, hfz, hnd⟩ := hW
  have hA : DataW.TrodAll enc Try.prog W 0 (fun _ => true) true Try.f3.params.toList args.toList ds p := hA0
  rw [Try.params3] at hA hval
  obtain ⟨v0, vs0, d0, ds0, p0, q0, hargs, rfl, rfl, h0, r0⟩ := trodAll_cons hA
  obtain ⟨v1, vs1, d1, ds1, p1, q1, rfl, rfl, rfl, h1, r1⟩ := trodAll_cons r0
  obtain ⟨rfl, rfl, rfl⟩ := trodAll_nil r1
  obtain rfl : args = #[v0, v1] := by cases args; simp_all
  obtain ⟨rfl, rfl⟩ := trodVars_none hV
  have k0 := h0
  have lt0 : ∀ x ∈ p0, x.block < W.heap.size := by obtain ⟨m, hm⟩ := k0; exact DataW.trod_lt m _ _ _ hm
  obtain ⟨x0, a1_0, cap1_0, a2_0, cap2_0, rfl, w0⟩ := row_Query (hval 0 25 v0 rfl rfl) h0
  obtain ⟨a1, rfl, rfl, rfl, w1⟩ := open_int Try.underlying3 (hval 1 3 v1 rfl rfl) h1
  clear hA0 hval0
  refine (walk x0 a1_0 cap1_0 a2_0 cap2_0 a1 W w0 w1).mono fun e W' ⟨he, bel⟩ => ?_
  subst he
  exact ⟨_, rfl, _, _, _, [], _, [], hW', trodAll_mk1 (shut_bool Try.underlying4 _), (trodAll_cons_mk (Below.trod laidOut (by kernel_rfl) (of_decide_eq_true (by kernel_rfl)) k0 bel lt0) (trodAll_cons_mk (shut_int Try.underlying3 w1) trodAll_mk0)), rfl, bel.frame _, fun h => by cases h⟩

theorem fEnt : Try.prog.mayEnter = true := by kernel_rfl
theorem fLif : (Rows.fnExactRemoveAtomRow.lifted == Try.prog.liftsFinal) = true := by kernel_rfl
theorem fMak : (Try.prog.make == some Rows.fnExactRemoveAtomRow.make) = true := by kernel_rfl
theorem fWf : (Rows.fnExactRemoveAtomRow.wf (OpenSpec.ofChange Rows.fnExactRemoveAtomSpec)) = true := by kernel_rfl
theorem fHeard : Try.prog.stopsHeard = true := by kernel_rfl
theorem fIn : (Rows.fnExactRemoveAtomRow.inPlace == Try.prog.inPlace 3) = true := by kernel_rfl
theorem fUn : (Rows.fnExactRemoveAtomRow.unfollowed == Try.prog.unfollowed 3) = true := by kernel_rfl
theorem fRec : (Rows.fnExactRemoveAtomRow.recurses == Try.prog.recurses 3) = true := by kernel_rfl
theorem fNam : (Rows.fnExactRemoveAtomRow.named == Try.prog.varsNamed 3) = true := by kernel_rfl
theorem closed : joinedFacts Try.prog 3 Try.f3 Rows.fnExactRemoveAtomSpec Rows.fnExactRemoveAtomRow = true := by
  unfold joinedFacts
  rw [fEnt, fLif, fMak, fWf, fHeard, fIn, fUn, fRec, fNam]
  kernel_rfl

theorem over : Rows.fnExactRemoveAtomRow.holds Try.pinned (OpenSpec.ofChange Rows.fnExactRemoveAtomSpec) :=
  OpenClaim.holds_of_wide 3 Try.f3 rfl rfl rfl rfl rfl rfl rfl ⟨rfl, rfl, rfl, rfl, rfl⟩ rfl rfl rfl rfl rfl (by kernel_rfl) Try.func3 closed
    (of_decide_eq_true (by kernel_rfl)) (by unfold Func.isWrapper; first | (rw [if_pos (by decide +kernel)]; kernel_rfl) | (rw [if_neg (by decide +kernel)]; exact ⟨rfl, rfl⟩))
    (fun os started H enc _ => lifted os started H enc)

/-- ████ THE STATEMENT ████ -/
theorem proved : Rows.FnExactRemoveAtomSaid := over
#print axioms proved
end Go.Proofs.Ytgoofnhhhlncoaa.fnExactRemoveAtom

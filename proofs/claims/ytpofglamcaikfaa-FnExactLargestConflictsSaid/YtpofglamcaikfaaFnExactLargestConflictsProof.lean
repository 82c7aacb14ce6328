/- FnExactLargestConflicts: LargestConflicts: for all arguments the program's answer is the model's and the arguments read as before; the answer owns its memory; arguments of more than 1 MiB are let by in the statement itself. -/
import Derived.Test.YtpofglamcaikfaaRows
import Derived.WalkKit
import Derived.Test.YtpofglamcaikfaaRowTwo
import Derived.Test.YtpofglamcaikfaaTyTre
import Derived.Test.YtpofglamcaikfaaMarkTwo
import Derived.Test.YtpofglamcaikfaaCLargestConflicts
import Derived.Deep.Cut
import Derived.ProofKit
import Derived.OpenShut
import Derived.ShutString
import Derived.ChangeOld
import Derived.Below
namespace Go.Proofs.Ytpofglamcaikfaa.fnExactLargestConflicts
open Go.ChangeShapes Go.WideShapes Go.ChangeAt Go.RowKit
open Go.ChangeMaps (open_string shut_string)
set_option maxRecDepth 100000
set_option linter.unusedVariables false

theorem own : ownKnob Try.prog.godebug = none := by kernel_rfl
theorem laidOut : laidOutB Try.prog = true := by kernel_rfl

/-- WHAT THE WALK IS TOLD OF A SLICE OF INTEGERS THAT CAME IN: it is nil; or it leads to a row of 'cap' cells, the numbers 'zs' (the first 'len' are its elements, the rest its spare room), each fitting its kind. -/
def IsRow (k : IntKind) (w : World) (a : Option Addr) (len cap : Nat) (zs : List Int) : Prop :=
  (a = none ∧ len = 0 ∧ cap = 0 ∧ zs = []) ∨
  ∃ x, a = some x ∧ len ≤ cap ∧ cap ≤ maxLen ∧ zs.length = cap ∧ (∀ i, i < zs.length → w.cell? (x.add i) = some (.int k (zs.getD i 0))) ∧ ∀ n ∈ zs, (Lit.int k n).wf = true

/-! ### STEP 1: THE WALK: the Go text returns true, AND WRITES NOTHING THAT WAS THERE: 'Below w.heap.size w w'' (Derived/Below.lean: '.refl', '.alloc', '.drew', '.setCell' at a new block, '.trans'). Open each 'IsRow' by 'rcases' AHEAD of 'go_enter'; part every test ahead of the walk. -/
set_option maxHeartbeats 8000000 in
theorem walk (x0 : Dbs) (a0_0 : Option Addr) (cap0_0 : Nat) (a1_0 : Option Addr) (cap1_0 : Nat) (w : World) (w0 : At cDbs w x0 [.slice a0_0 x0.rels.length cap0_0, .slice a1_0 x0.facts.length cap1_0]) :
    Calls Try.prog 3 #[.agg #[.slice a0_0 x0.rels.length cap0_0, .slice a1_0 x0.facts.length cap1_0]] w fun e w' => e = .returned (.bool true) ∧ Below w.heap.size w w' := by
  have hg0 : Ab.Glob w := trivial
  have o0 := w0
  clear w0
  have hle0 := szR_le (1048576) (sizeDatabase x0) (by omega)
  by_cases hn0 : szR (1048576) (sizeDatabase x0) < 0
  · have hk := hn0
    go_enter Try.func3, Try.ntmps3
    go_wp2_with fail
    obtain ⟨wx0, hbb, hm0, p0_0, p0_1, hwx⟩ : ∃ wx0, Below w.heap.size w wx0 ∧ w.heap.size + 1 ≤ wx0.heap.size ∧ wx0.cell? ⟨w.heap.size, 0, none⟩ = some (.slice a0_0 x0.rels.length cap0_0) ∧ wx0.cell? ⟨w.heap.size, 1, none⟩ = some (.slice a1_0 x0.facts.length cap1_0) ∧ (w.alloc (Obj.cells #[.slice a0_0 x0.rels.length cap0_0, .slice a1_0 x0.facts.length cap1_0] 25)) = wx0 := ⟨_, by go_grown, by simp, by go_simp, by go_simp, rfl⟩
    rw [hwx]
    clear hwx
    refine (szDatabase_c (by omega) (by omega) (At.below (c := cDbs) o0 hbb (Nat.le_refl _))).mono ?_
    rintro e wx1 ⟨rfl, hb⟩
    have hm1 : wx0.heap.size ≤ wx1.heap.size := hb.size
    replace p0_0 := cell_next p0_0 hb
    replace p0_1 := cell_next p0_1 hb
    replace hbb := Below.next hbb hb
    clear hb
    go_wp2
    go_ret
    exact ⟨rfl, hbb⟩
  have hz0 : sizeDatabase x0 ≤ 1048576 := szR_ge hn0 (by omega)
  have hB : (Ab.lgcL x0).length ≤ 4611686018427000000 := Ab.lgcL_bnd x0
  obtain ⟨R, hRR⟩ : ∃ R, Ab.lgcL x0 = R := ⟨_, rfl⟩
  rw [hRR] at hB
  go_enter Try.func3, Try.ntmps3
  go_wp2_with fail
  obtain ⟨wx0, hbb, hm0, p0_0, p0_1, hwx⟩ : ∃ wx0, Below w.heap.size w wx0 ∧ w.heap.size + 1 ≤ wx0.heap.size ∧ wx0.cell? ⟨w.heap.size, 0, none⟩ = some (.slice a0_0 x0.rels.length cap0_0) ∧ wx0.cell? ⟨w.heap.size, 1, none⟩ = some (.slice a1_0 x0.facts.length cap1_0) ∧ (w.alloc (Obj.cells #[.slice a0_0 x0.rels.length cap0_0, .slice a1_0 x0.facts.length cap1_0] 25)) = wx0 := ⟨_, by go_grown, by simp, by go_simp, by go_simp, rfl⟩
  rw [hwx]
  clear hwx
  refine (szDatabase_c (by omega) (by omega) (At.below (c := cDbs) o0 hbb (Nat.le_refl _))).mono ?_
  rintro e wx1 ⟨rfl, hb⟩
  have hm1 : wx0.heap.size ≤ wx1.heap.size := hb.size
  replace p0_0 := cell_next p0_0 hb
  replace p0_1 := cell_next p0_1 hb
  replace hbb := Below.next hbb hb
  clear hb
  go_wp2_with fail
  refine (toDatabase_c hz0 (At.below (c := cDbs) o0 hbb (Nat.le_refl _))).mono ?_
  rintro e wx2 ⟨⟨ds0_0, ds0_1, ds0_2, ds0_3, rfl, q⟩, hb⟩
  have s0 : OwnIn cDbs wx1.heap.size wx2.heap.size wx2 x0 [.slice ds0_0 x0.rels.length ds0_1, .slice ds0_2 x0.facts.length ds0_3] := q
  clear q
  have hm2 : wx1.heap.size ≤ wx2.heap.size := hb.size
  replace p0_0 := cell_next p0_0 hb
  replace p0_1 := cell_next p0_1 hb
  replace hbb := Below.next hbb hb
  clear hb
  go_wp2_with fail
  refine (specLargestConflicts_c hz0 (OwnIn.at s0 (by omega)) (hg0.below hbb)).mono ?_
  rintro e wx3 ⟨⟨ra_g_w, rc_g_w, he, q⟩, hb⟩
  rw [hRR] at he q
  subst he
  have g_w : AtIn (cSlice cInt) wx2.heap.size wx3.heap.size wx3 R [.slice ra_g_w R.length rc_g_w] := q
  clear q
  have hm3 : wx2.heap.size ≤ wx3.heap.size := hb.size
  replace s0 := OwnIn.next s0 (by omega) hb
  replace p0_0 := cell_next p0_0 hb
  replace p0_1 := cell_next p0_1 hb
  replace hbb := Below.next hbb hb
  clear hb
  clear s0
  go_wp2_with fail
  refine (toDatabase_c hz0 (At.below (c := cDbs) o0 hbb (Nat.le_refl _))).mono ?_
  rintro e wx4 ⟨⟨dc0_0, dc0_1, dc0_2, dc0_3, rfl, q⟩, hb⟩
  have c0 : OwnIn cDbs wx3.heap.size wx4.heap.size wx4 x0 [.slice dc0_0 x0.rels.length dc0_1, .slice dc0_2 x0.facts.length dc0_3] := q
  clear q
  have hm4 : wx3.heap.size ≤ wx4.heap.size := hb.size
  replace g_w := AtIn.next g_w (by omega) hb
  replace p0_0 := cell_next p0_0 hb
  replace p0_1 := cell_next p0_1 hb
  replace hbb := Below.next hbb hb
  clear hb
  go_upto_region 7 with fail
  obtain ⟨wx5, hb, hsz, q0_0, q0_1, hwx⟩ : ∃ wy, Below wx4.heap.size wx4 wy ∧ wx4.heap.size < wy.heap.size ∧ wy.cell? ⟨wx4.heap.size, 0, none⟩ = some (.slice dc0_0 x0.rels.length dc0_1) ∧ wy.cell? ⟨wx4.heap.size, 1, none⟩ = some (.slice dc0_2 x0.facts.length dc0_3) ∧ wx4.alloc (Obj.cells #[.slice dc0_0 x0.rels.length dc0_1, .slice dc0_2 x0.facts.length dc0_3] 32) = wy := ⟨_, by go_grown, by simp, by go_simp, by go_simp, rfl⟩
  rw [hwx]
  clear hwx
  have hq0 := hsz
  clear hsz
  have hm5 : wx4.heap.size ≤ wx5.heap.size := hb.size
  replace g_w := AtIn.next g_w (by omega) hb
  replace c0 := OwnIn.next c0 (by omega) hb
  replace p0_0 := cell_next p0_0 hb
  replace p0_1 := cell_next p0_1 hb
  replace hbb := Below.next hbb hb
  clear hb
  go_wp2_with fail
  refine (implLargestConflicts_c hz0 (OwnIn.at c0 (by omega)) (hg0.below hbb)).mono ?_
  rintro e wx6 ⟨⟨ra_g_g, rc_g_g, he, q⟩, hb⟩
  rw [hRR] at he q
  subst he
  have g_g : OwnIn (cSlice cInt) wx5.heap.size wx6.heap.size wx6 R [.slice ra_g_g R.length rc_g_g] := q
  clear q
  have hm6 : wx5.heap.size ≤ wx6.heap.size := hb.size
  replace g_w := AtIn.next g_w (by omega) hb
  replace c0 := OwnIn.next c0 (by omega) hb
  replace p0_0 := cell_next p0_0 hb
  replace p0_1 := cell_next p0_1 hb
  replace q0_0 := cell_next q0_0 hb
  replace q0_1 := cell_next q0_1 hb
  replace hbb := Below.next hbb hb
  clear hb
  go_wp2_with fail
  refine (eqIntS_c (OwnIn.at g_g (by omega)) (AtIn.at g_w (by omega))).mono ?_
  rintro e wx7 ⟨he, hb⟩
  rw [dec_self] at he
  subst he
  have hm7 : wx6.heap.size ≤ wx7.heap.size := hb.size
  replace g_w := AtIn.next g_w (by omega) hb
  replace c0 := OwnIn.next c0 (by omega) hb
  replace g_g := OwnIn.next g_g (by omega) hb
  replace p0_0 := cell_next p0_0 hb
  replace p0_1 := cell_next p0_1 hb
  replace q0_0 := cell_next q0_0 hb
  replace q0_1 := cell_next q0_1 hb
  replace hbb := Below.next hbb hb
  clear hb
  go_upto_region 10 with fail
  have hbm := Below.refl wx7.heap.size wx7
  have x0_at := (OwnIn.at c0 (by omega))
  go_cut [31] from 11 (fun v0 wr => v0 = .bool false ∧ Below wx7.heap.size wx7 wr)
  case first =>
    go_region_with (first
      | (go_at_call 6; refine (toDatabase_c hz0 (At.here (At.below (c := cDbs) o0 hbb (Nat.le_refl _)))).mono ?_; rintro e wy ⟨⟨_, _, _, _, rfl, q⟩, hb⟩; have t_at := q.at; clear q; replace x0_at := At.next x0_at hb; replace p0_0 := cell_next p0_0 hb; replace p0_1 := cell_next p0_1 hb; replace q0_0 := cell_next q0_0 hb; replace q0_1 := cell_next q0_1 hb; replace hbm := Below.next hbm hb; clear hb)
      | (go_at_call 9; refine (eqDatabase_c (At.here x0_at) (At.here t_at)).mono ?_; rintro e wy ⟨he, hb⟩; rw [dec_self] at he; subst he; replace hbm := Below.next hbm hb; clear hb))
    all_goals (go_wp2_with fail; go_meet; exact ⟨rfl, hbm⟩)
  case rest =>
  obtain ⟨rfl, hb⟩ := hcut
  clear hbm x0_at
  obtain ⟨wx8, hwx⟩ : ∃ wx, wx = wc := ⟨_, rfl⟩
  subst hwx
  have hm8 : wx7.heap.size ≤ wx8.heap.size := hb.size
  replace g_w := AtIn.next g_w (by omega) hb
  replace c0 := OwnIn.next c0 (by omega) hb
  replace g_g := OwnIn.next g_g (by omega) hb
  replace p0_0 := cell_next p0_0 hb
  replace p0_1 := cell_next p0_1 hb
  replace q0_0 := cell_next q0_0 hb
  replace q0_1 := cell_next q0_1 hb
  replace hbb := Below.next hbb hb
  clear hb
  have hlv0 := lvD_le x0
  obtain ⟨F_c0, hown, hF⟩ := c0
  go_wp2_with fail
  refine (markDatabase_c (k := 1) (by omega) (by omega) (fun k hk => by have := (hF k hk).2; omega) hown).mono ?_
  rintro e wx9 ⟨he, hown2, ho⟩
  obtain ⟨k0_, hk0_⟩ : ∃ q : Nat, 1 + lvD x0 = q := ⟨_, rfl⟩
  rw [hk0_] at he
  subst he
  have hm9 : wx8.heap.size ≤ wx9.heap.size := ho.size
  replace g_w := AtIn.only g_w ho hF (by omega) (by omega)
  replace g_g := OwnIn.only g_g ho hF (by omega) (by omega)
  replace p0_0 := cell_only p0_0 ho hF (by first | (left; simp only []; omega) | (right; simp only []; omega))
  replace p0_1 := cell_only p0_1 ho hF (by first | (left; simp only []; omega) | (right; simp only []; omega))
  replace q0_0 := cell_only q0_0 ho hF (by first | (left; simp only []; omega) | (right; simp only []; omega))
  replace q0_1 := cell_only q0_1 ho hF (by first | (left; simp only []; omega) | (right; simp only []; omega))
  replace hbb := Below.trans hbb (Only.below ho (fun k hk => by have := (hF k hk).1; omega) (by omega))
  have c0 : OwnIn cDbs wx3.heap.size wx4.heap.size wx9 (markD 1 x0) _ := ⟨F_c0, hown2, hF⟩
  clear hown hown2 ho hF
  clear c0
  have hkd : decide (((k0_ : Nat) : Int) < 0) = false := decide_eq_false (by omega)
  go_wp2_with fail
  refine (eqIntS_c (OwnIn.at g_g (by omega)) (AtIn.at g_w (by omega))).mono ?_
  rintro e wx10 ⟨he, hb⟩
  rw [dec_self] at he
  subst he
  have hm10 : wx9.heap.size ≤ wx10.heap.size := hb.size
  replace g_w := AtIn.next g_w (by omega) hb
  replace g_g := OwnIn.next g_g (by omega) hb
  replace p0_0 := cell_next p0_0 hb
  replace p0_1 := cell_next p0_1 hb
  replace q0_0 := cell_next q0_0 hb
  replace q0_1 := cell_next q0_1 hb
  replace hbb := Below.next hbb hb
  clear hb
  obtain ⟨F_g_g, hown, hF⟩ := g_g
  go_wp2_with fail
  refine (markIntS_c (k := 1) (by omega) (fun k hk => by have := (hF k hk).2; omega) hown).mono ?_
  rintro e wx11 ⟨he, hown2, ho⟩
  obtain ⟨mm, hmm⟩ : ∃ q : Nat, 1 + R.length = q := ⟨_, rfl⟩
  rw [hmm] at he
  subst he
  have hm11 : wx10.heap.size ≤ wx11.heap.size := ho.size
  replace g_w := AtIn.only g_w ho hF (by omega) (by omega)
  replace p0_0 := cell_only p0_0 ho hF (by first | (left; simp only []; omega) | (right; simp only []; omega))
  replace p0_1 := cell_only p0_1 ho hF (by first | (left; simp only []; omega) | (right; simp only []; omega))
  replace q0_0 := cell_only q0_0 ho hF (by first | (left; simp only []; omega) | (right; simp only []; omega))
  replace q0_1 := cell_only q0_1 ho hF (by first | (left; simp only []; omega) | (right; simp only []; omega))
  replace hbb := Below.trans hbb (Only.below ho (fun k hk => by have := (hF k hk).1; omega) (by omega))
  have g_g : OwnIn (cSlice cInt) wx5.heap.size wx6.heap.size wx11 (markI 1 R) _ := ⟨F_g_g, hown2, hF⟩
  clear hown hown2 ho hF
  have hmd : decide (((mm : Nat) : Int) < 0) = false := decide_eq_false (by omega)
  have hmn : (((mm : Nat) : Int) != ((mm : Nat) : Int)) = false := bne_self_eq_false _
  have hg_at := (OwnIn.at g_g (by omega))
  have hgl : (markI 1 R).length = R.length := markL_length _ _ _ _
  rw [← hgl] at hg_at
  go_wp2_with fail
  refine (by have h := heldIntS_c (k := 1) (by rw [hgl]; omega) (fun i hi => markI_get _ _ _ hi) hg_at; rw [hgl] at h; exact h : Calls _ _ _ _ fun e w' => e = .returned (.int .i64 ((1 + R.length : Nat) : Int)) ∧ Below _ _ w').mono ?_
  rintro e wx12 ⟨he, hb⟩
  rw [hmm] at he
  subst he
  clear hg_at hgl
  have hm12 : wx11.heap.size ≤ wx12.heap.size := hb.size
  replace g_w := AtIn.next g_w (by omega) hb
  replace g_g := OwnIn.next g_g (by omega) hb
  replace p0_0 := cell_next p0_0 hb
  replace p0_1 := cell_next p0_1 hb
  replace q0_0 := cell_next q0_0 hb
  replace q0_1 := cell_next q0_1 hb
  replace hbb := Below.next hbb hb
  clear hb
  go_wp2_with fail
  refine (toDatabase_c hz0 (At.below (c := cDbs) o0 hbb (Nat.le_refl _))).mono ?_
  rintro e wx13 ⟨⟨ds0_0, ds0_1, ds0_2, ds0_3, rfl, q⟩, hb⟩
  have s0 : OwnIn cDbs wx12.heap.size wx13.heap.size wx13 x0 [.slice ds0_0 x0.rels.length ds0_1, .slice ds0_2 x0.facts.length ds0_3] := q
  clear q
  have hm13 : wx12.heap.size ≤ wx13.heap.size := hb.size
  replace g_w := AtIn.next g_w (by omega) hb
  replace g_g := OwnIn.next g_g (by omega) hb
  replace p0_0 := cell_next p0_0 hb
  replace p0_1 := cell_next p0_1 hb
  replace q0_0 := cell_next q0_0 hb
  replace q0_1 := cell_next q0_1 hb
  replace hbb := Below.next hbb hb
  clear hb
  go_wp2_with fail
  refine (implLargestConflicts_c hz0 (OwnIn.at s0 (by omega)) (hg0.below hbb)).mono ?_
  rintro e wx14 ⟨⟨ra_g_h, rc_g_h, he, q⟩, hb⟩
  rw [hRR] at he q
  subst he
  have g_h : OwnIn (cSlice cInt) wx13.heap.size wx14.heap.size wx14 R [.slice ra_g_h R.length rc_g_h] := q
  clear q
  have hm14 : wx13.heap.size ≤ wx14.heap.size := hb.size
  replace g_w := AtIn.next g_w (by omega) hb
  replace g_g := OwnIn.next g_g (by omega) hb
  replace s0 := OwnIn.next s0 (by omega) hb
  replace p0_0 := cell_next p0_0 hb
  replace p0_1 := cell_next p0_1 hb
  replace q0_0 := cell_next q0_0 hb
  replace q0_1 := cell_next q0_1 hb
  replace hbb := Below.next hbb hb
  clear hb
  clear s0
  go_wp2_with fail
  refine (eqIntS_c (OwnIn.at g_h (by omega)) (AtIn.at g_w (by omega))).mono ?_
  rintro e wx15 ⟨he, hb⟩
  rw [dec_self] at he
  subst he
  have hm15 : wx14.heap.size ≤ wx15.heap.size := hb.size
  replace g_w := AtIn.next g_w (by omega) hb
  replace g_g := OwnIn.next g_g (by omega) hb
  replace g_h := OwnIn.next g_h (by omega) hb
  replace p0_0 := cell_next p0_0 hb
  replace p0_1 := cell_next p0_1 hb
  replace q0_0 := cell_next q0_0 hb
  replace q0_1 := cell_next q0_1 hb
  replace hbb := Below.next hbb hb
  clear hb
  have hg_at := (OwnIn.at g_g (by omega))
  have hgl : (markI 1 R).length = R.length := markL_length _ _ _ _
  rw [← hgl] at hg_at
  go_wp2_with fail
  refine (by have h := heldIntS_c (k := 1) (by rw [hgl]; omega) (fun i hi => markI_get _ _ _ hi) hg_at; rw [hgl] at h; exact h : Calls _ _ _ _ fun e w' => e = .returned (.int .i64 ((1 + R.length : Nat) : Int)) ∧ Below _ _ w').mono ?_
  rintro e wx16 ⟨he, hb⟩
  rw [hmm] at he
  subst he
  clear hg_at hgl
  have hm16 : wx15.heap.size ≤ wx16.heap.size := hb.size
  replace g_w := AtIn.next g_w (by omega) hb
  replace g_g := OwnIn.next g_g (by omega) hb
  replace g_h := OwnIn.next g_h (by omega) hb
  replace p0_0 := cell_next p0_0 hb
  replace p0_1 := cell_next p0_1 hb
  replace q0_0 := cell_next q0_0 hb
  replace q0_1 := cell_next q0_1 hb
  replace hbb := Below.next hbb hb
  clear hb
  go_wp2
  go_ret
  exact ⟨rfl, hbb⟩

/-! ### THE ROW's STEP: WRITTEN OUT: LEAVE IT -/
set_option maxRecDepth 100000 in
theorem lifted (os : Os) (started : os.Started) (H : Type) (enc : TypeId × Value → H) :
    ReturnsInHanded {} Try.checked os 3 .any (Rows.fnExactLargestConflictsSpec.pre6 enc Try.prog Try.f3 Rows.fnExactLargestConflictsRow.domain false) (Rows.fnExactLargestConflictsSpec.post enc Try.prog Try.f3 false true false false) := by
  refine returnsInHanded_of_change (C := Try.checked) own started (by kernel_rfl) Try.func3
    (ChangeSpec.witness6 (enc := enc) (C := Try.checked) false ⟨#[], #[.agg #[.slice none 0 0, .slice none 0 0]], []⟩ 8 (by kernel_rfl) (by kernel_rfl) (by kernel_rfl) (by kernel_rfl)) ?_
  intro W base args ds gs before hval0 hW hcnd _
  have hval : ∀ (j : Nat) t v, Try.f3.params[j]? = some t → args[j]? = some v → Value.okWide Try.prog W .any base t v := hval0
  have hW' := hW
  obtain ⟨p, q, hA0, hV, rfl, hfz, hnd⟩ := hW
  have hA : DataW.TrodAll enc Try.prog W 0 (fun _ => true) true Try.f3.params.toList args.toList ds p := hA0
  rw [Try.params3] at hA hval
  obtain ⟨v0, vs0, d0, ds0, p0, q0, hargs, rfl, rfl, h0, r0⟩ := trodAll_cons hA
  obtain ⟨rfl, rfl, rfl⟩ := trodAll_nil r0
  obtain rfl : args = #[v0] := by cases args; simp_all
  obtain ⟨rfl, rfl⟩ := trodVars_none hV
  have k0 := h0
  have lt0 : ∀ x ∈ p0, x.block < W.heap.size := by obtain ⟨m, hm⟩ := k0; exact DataW.trod_lt m _ _ _ hm
  obtain ⟨x0, a0_0, cap0_0, a1_0, cap1_0, rfl, w0⟩ := row_Database (hval 0 25 v0 rfl rfl) h0
  clear hA0 hval0
  refine (walk x0 a0_0 cap0_0 a1_0 cap1_0 W w0).mono fun e W' ⟨he, bel⟩ => ?_
  subst he
  exact ⟨_, rfl, _, _, _, [], _, [], hW', trodAll_mk1 (shut_bool Try.underlying4 _), (trodAll_cons_mk (Below.trod laidOut (by kernel_rfl) (of_decide_eq_true (by kernel_rfl)) k0 bel lt0) trodAll_mk0), rfl, bel.frame _, fun h => by cases h⟩

theorem over : Rows.fnExactLargestConflictsRow.holds Try.pinned (OpenSpec.ofChange Rows.fnExactLargestConflictsSpec) :=
  OpenClaim.holds_of_wide 3 Try.f3 rfl rfl rfl rfl rfl rfl rfl ⟨rfl, rfl, rfl, rfl, rfl⟩ rfl rfl rfl rfl rfl (by kernel_rfl) Try.func3 (by kernel_rfl)
    (of_decide_eq_true (by kernel_rfl)) (by unfold Func.isWrapper; first | (rw [if_pos (by decide +kernel)]; kernel_rfl) | (rw [if_neg (by decide +kernel)]; exact ⟨rfl, rfl⟩))
    (fun os started H enc _ => lifted os started H enc)

/-- ████ THE STATEMENT ████ -/
theorem proved : Rows.FnExactLargestConflictsSaid := over
#print axioms proved
end Go.Proofs.Ytpofglamcaikfaa.fnExactLargestConflicts

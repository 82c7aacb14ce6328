/- FnExactKeyClosure: KeyClosure: for all arguments the program's answer is the model's and the arguments read as before; the answer owns its memory; arguments of more than 1 MiB are let by in the statement itself. -/
import Derived.Test.YtgoofnhhhlncoabDoorRows
import Derived.Test.YtgoofnhhhlncoabDoorCards
import Derived.Test.YtgoofnhhhlncoabDoorTie
import Derived.WalkKit
import Derived.Test.YtgoofnhhhlncoabDoorRowTwo
import Derived.Test.YtgoofnhhhlncoabDoorTyTre
import Derived.Test.YtgoofnhhhlncoabDoorMarkTwo
import Derived.Test.YtgoofnhhhlncoabDoorMarkThr
import Derived.Test.YtgoofnhhhlncoabDoorCKeyClosure
import Derived.Deep.Cut
import Derived.LaidMore
import Derived.Stop.Joined
import Derived.SevenTiedAt
import Derived.ProofKit
import Derived.OpenShut
import Derived.ShutString
import Derived.ChangeOld
import Derived.Below
namespace Go.Proofs.YtgoofnhhhlncoabDoor.fnExactKeyClosure
open Go.ChangeShapes Go.WideShapes Go.ChangeAt Go.RowKit
open Go.ChangeMaps (open_string shut_string)
set_option maxRecDepth 100000
set_option linter.unusedVariables false

theorem own : ownKnob Tryd.prog.godebug = none := by kernel_rfl
theorem laidOut : laidOutB Tryd.prog = true := by kernel_rfl

/-- WHAT THE WALK IS TOLD OF A SLICE OF INTEGERS THAT CAME IN: it is nil; or it leads to a row of 'cap' cells, the numbers 'zs' (the first 'len' are its elements, the rest its spare room), each fitting its kind. -/
def IsRow (k : IntKind) (w : World) (a : Option Addr) (len cap : Nat) (zs : List Int) : Prop :=
  (a = none ∧ len = 0 ∧ cap = 0 ∧ zs = []) ∨
  ∃ x, a = some x ∧ len ≤ cap ∧ cap ≤ maxLen ∧ zs.length = cap ∧ (∀ i, i < zs.length → w.cell? (x.add i) = some (.int k (zs.getD i 0))) ∧ ∀ n ∈ zs, (Lit.int k n).wf = true

/-! ### STEP 1: THE WALK: the Go text returns true, AND WRITES NOTHING THAT WAS THERE: 'Below w.heap.size w w'' (Derived/Below.lean: '.refl', '.alloc', '.drew', '.setCell' at a new block, '.trans'). Open each 'IsRow' by 'rcases' AHEAD of 'go_enter'; part every test ahead of the walk. -/
set_option maxHeartbeats 8000000 in
theorem walk (a0 : Option Addr) (cap0 : Nat) (l0 : List Rel) (x1 : Qry) (a1_1 : Option Addr) (cap1_1 : Nat) (a2_1 : Option Addr) (cap2_1 : Nat) (a2 : Int) (w : World) (w0 : At (cSlice cRel) w l0 [.slice a0 l0.length cap0]) (w1 : At cQry w x1 [.int .i64 x1.vars, .slice a1_1 x1.atoms.length cap1_1, .slice a2_1 x1.free.length cap2_1]) (w2 : (Lit.int .i64 a2).wf = true) (hL : laidMetH Tryd.prog Rows.fnExactKeyClosureRow.laid w) :
    Calls Tryd.prog 4 #[.slice a0 l0.length cap0, .agg #[.int .i64 x1.vars, .slice a1_1 x1.atoms.length cap1_1, .slice a2_1 x1.free.length cap2_1], .int .i64 a2] w fun e w' => e = .returned (.bool true) ∧ Below w.heap.size w w' := by
  have hg0 : Ab.Glob w := by rw [MakeChecks.laidMetH_plain _ _ _ (by kernel_rfl)] at hL; exact Ab.glob_of_laid hL
  have o0 := w0
  clear w0
  have o1 := w1
  clear w1
  have hle0 := szR_le (1048576) (sizeRelationS l0) (by omega)
  by_cases hn0 : szR (1048576) (sizeRelationS l0) < 0
  · have hk := hn0
    go_enter Tryd.func4, Tryd.ntmps4
    go_wp2_with fail
    obtain ⟨wx0, hbb, hm0, p1_0, p1_1, p1_2, hwx⟩ : ∃ wx0, Below w.heap.size w wx0 ∧ w.heap.size + 1 ≤ wx0.heap.size ∧ wx0.cell? ⟨w.heap.size, 0, none⟩ = some (.int .i64 x1.vars) ∧ wx0.cell? ⟨w.heap.size, 1, none⟩ = some (.slice a1_1 x1.atoms.length cap1_1) ∧ wx0.cell? ⟨w.heap.size, 2, none⟩ = some (.slice a2_1 x1.free.length cap2_1) ∧ (w.alloc (Obj.cells #[.int .i64 x1.vars, .slice a1_1 x1.atoms.length cap1_1, .slice a2_1 x1.free.length cap2_1] 26)) = wx0 := ⟨_, by go_grown, by simp, by go_simp, by go_simp, by go_simp, rfl⟩
    rw [hwx]
    clear hwx
    refine (szRelationS_c (by omega) (by omega) (At.below (c := (cSlice cRel)) o0 hbb (Nat.le_refl _))).mono ?_
    rintro e wx1 ⟨rfl, hb⟩
    have hm1 : wx0.heap.size ≤ wx1.heap.size := hb.size
    replace p1_0 := cell_next p1_0 hb
    replace p1_1 := cell_next p1_1 hb
    replace p1_2 := cell_next p1_2 hb
    replace hbb := Below.next hbb hb
    clear hb
    go_wp2
    go_ret
    exact ⟨rfl, hbb⟩
  have hz0 : sizeRelationS l0 ≤ 1048576 := szR_ge hn0 (by omega)
  have hle1 := szR_le (szR (1048576) (sizeRelationS l0)) (sizeQuery x1) (by omega)
  by_cases hn1 : szR (szR (1048576) (sizeRelationS l0)) (sizeQuery x1) < 0
  · have hk := hn1
    go_enter Tryd.func4, Tryd.ntmps4
    go_wp2_with fail
    obtain ⟨wx0, hbb, hm0, p1_0, p1_1, p1_2, hwx⟩ : ∃ wx0, Below w.heap.size w wx0 ∧ w.heap.size + 1 ≤ wx0.heap.size ∧ wx0.cell? ⟨w.heap.size, 0, none⟩ = some (.int .i64 x1.vars) ∧ wx0.cell? ⟨w.heap.size, 1, none⟩ = some (.slice a1_1 x1.atoms.length cap1_1) ∧ wx0.cell? ⟨w.heap.size, 2, none⟩ = some (.slice a2_1 x1.free.length cap2_1) ∧ (w.alloc (Obj.cells #[.int .i64 x1.vars, .slice a1_1 x1.atoms.length cap1_1, .slice a2_1 x1.free.length cap2_1] 26)) = wx0 := ⟨_, by go_grown, by simp, by go_simp, by go_simp, by go_simp, rfl⟩
    rw [hwx]
    clear hwx
    refine (szRelationS_c (by omega) (by omega) (At.below (c := (cSlice cRel)) o0 hbb (Nat.le_refl _))).mono ?_
    rintro e wx1 ⟨rfl, hb⟩
    have hm1 : wx0.heap.size ≤ wx1.heap.size := hb.size
    replace p1_0 := cell_next p1_0 hb
    replace p1_1 := cell_next p1_1 hb
    replace p1_2 := cell_next p1_2 hb
    replace hbb := Below.next hbb hb
    clear hb
    go_wp2_with fail
    refine (szQuery_c (by omega) (by omega) (At.below (c := cQry) o1 hbb (Nat.le_refl _))).mono ?_
    rintro e wx2 ⟨rfl, hb⟩
    have hm2 : wx1.heap.size ≤ wx2.heap.size := hb.size
    replace p1_0 := cell_next p1_0 hb
    replace p1_1 := cell_next p1_1 hb
    replace p1_2 := cell_next p1_2 hb
    replace hbb := Below.next hbb hb
    clear hb
    go_wp2
    go_ret
    exact ⟨rfl, hbb⟩
  have hz1 : sizeQuery x1 ≤ 1048576 := szR_ge hn1 (by omega)
  have hB : (Ab.keyClL l0 x1 a2).length ≤ 4611686018427000000 := Ab.keyClL_bnd l0 x1 a2
  obtain ⟨R, hRR⟩ : ∃ R, Ab.keyClL l0 x1 a2 = R := ⟨_, rfl⟩
  rw [hRR] at hB
  go_enter Tryd.func4, Tryd.ntmps4
  go_wp2_with fail
  obtain ⟨wx0, hbb, hm0, p1_0, p1_1, p1_2, hwx⟩ : ∃ wx0, Below w.heap.size w wx0 ∧ w.heap.size + 1 ≤ wx0.heap.size ∧ wx0.cell? ⟨w.heap.size, 0, none⟩ = some (.int .i64 x1.vars) ∧ wx0.cell? ⟨w.heap.size, 1, none⟩ = some (.slice a1_1 x1.atoms.length cap1_1) ∧ wx0.cell? ⟨w.heap.size, 2, none⟩ = some (.slice a2_1 x1.free.length cap2_1) ∧ (w.alloc (Obj.cells #[.int .i64 x1.vars, .slice a1_1 x1.atoms.length cap1_1, .slice a2_1 x1.free.length cap2_1] 26)) = wx0 := ⟨_, by go_grown, by simp, by go_simp, by go_simp, by go_simp, rfl⟩
  rw [hwx]
  clear hwx
  refine (szRelationS_c (by omega) (by omega) (At.below (c := (cSlice cRel)) o0 hbb (Nat.le_refl _))).mono ?_
  rintro e wx1 ⟨rfl, hb⟩
  have hm1 : wx0.heap.size ≤ wx1.heap.size := hb.size
  replace p1_0 := cell_next p1_0 hb
  replace p1_1 := cell_next p1_1 hb
  replace p1_2 := cell_next p1_2 hb
  replace hbb := Below.next hbb hb
  clear hb
  go_wp2_with fail
  refine (szQuery_c (by omega) (by omega) (At.below (c := cQry) o1 hbb (Nat.le_refl _))).mono ?_
  rintro e wx2 ⟨rfl, hb⟩
  have hm2 : wx1.heap.size ≤ wx2.heap.size := hb.size
  replace p1_0 := cell_next p1_0 hb
  replace p1_1 := cell_next p1_1 hb
  replace p1_2 := cell_next p1_2 hb
  replace hbb := Below.next hbb hb
  clear hb
  go_upto_region 8 with fail
  have hbm := Below.refl wx2.heap.size wx2
  go_cut [8] from 16 (fun v0 wr => (∃ a cap, v0 = .slice a R.length cap ∧ OwnIn (cSlice cInt) wx2.heap.size wr.heap.size wr R [.slice a R.length cap]) ∧ Below wx2.heap.size wx2 wr)
  case first =>
    go_region_with (first
      | (go_at_call 13; refine (toRelationS_c hz0 (At.here (At.below (c := (cSlice cRel)) o0 hbb (Nat.le_refl _)))).mono ?_; rintro e wy ⟨⟨_, _, rfl, q⟩, hb⟩; have s0 := q.at; clear q; (try replace s1 := At.next s1 hb); replace p1_0 := cell_next p1_0 hb; replace p1_1 := cell_next p1_1 hb; replace p1_2 := cell_next p1_2 hb; replace hbm := Below.next hbm hb; replace hbb := Below.next hbb hb; clear hb)
      | (go_at_call 14; refine (toQuery_c hz1 (At.here (At.below (c := cQry) o1 hbb (Nat.le_refl _)))).mono ?_; rintro e wy ⟨⟨_, _, _, _, rfl, q⟩, hb⟩; have s1 := q.at; clear q; (try replace s0 := At.next s0 hb); replace p1_0 := cell_next p1_0 hb; replace p1_1 := cell_next p1_1 hb; replace p1_2 := cell_next p1_2 hb; replace hbm := Below.next hbm hb; replace hbb := Below.next hbb hb; clear hb)
      | (go_at_call 24; refine (specKeyClosure_c hz0 hz1 (At.here s0) (At.here s1) (hg0.below hbb)).mono ?_; rintro e wy ⟨⟨ra, rc, he, q⟩, hb⟩; rw [hRR] at he q; subst he; have hq := (Own.mono q hbm.size).in; clear q; replace p1_0 := cell_next p1_0 hb; replace p1_1 := cell_next p1_1 hb; replace p1_2 := cell_next p1_2 hb; replace hbm := Below.next hbm hb; replace hbb := Below.next hbb hb; clear hb))
    all_goals (go_wp2_with fail; go_meet; exact ⟨⟨_, _, rfl, hq⟩, hbm⟩)
  case rest =>
  obtain ⟨⟨ra_g_w, rc_g_w, rfl, q⟩, hb⟩ := hcut
  clear hbm
  obtain ⟨wx3, hwx⟩ : ∃ wx, wx = wc := ⟨_, rfl⟩
  subst hwx
  have g_w : OwnIn (cSlice cInt) wx2.heap.size wx3.heap.size wx3 R [.slice ra_g_w R.length rc_g_w] := q
  clear q
  have hm3 : wx2.heap.size ≤ wx3.heap.size := hb.size
  replace p1_0 := cell_next p1_0 hb
  replace p1_1 := cell_next p1_1 hb
  replace p1_2 := cell_next p1_2 hb
  replace hbb := Below.next hbb hb
  clear hb
  go_wp2_with fail
  refine (toRelationS_c hz0 (At.below (c := (cSlice cRel)) o0 hbb (Nat.le_refl _))).mono ?_
  rintro e wx4 ⟨⟨dc0_0, dc0_1, rfl, q⟩, hb⟩
  have c0 : OwnIn (cSlice cRel) wx3.heap.size wx4.heap.size wx4 l0 [.slice dc0_0 l0.length dc0_1] := q
  clear q
  have hm4 : wx3.heap.size ≤ wx4.heap.size := hb.size
  replace g_w := OwnIn.next g_w (by omega) hb
  replace p1_0 := cell_next p1_0 hb
  replace p1_1 := cell_next p1_1 hb
  replace p1_2 := cell_next p1_2 hb
  replace hbb := Below.next hbb hb
  clear hb
  go_wp2_with fail
  refine (toQuery_c hz1 (At.below (c := cQry) o1 hbb (Nat.le_refl _))).mono ?_
  rintro e wx5 ⟨⟨dc1_0, dc1_1, dc1_2, dc1_3, rfl, q⟩, hb⟩
  have c1 : OwnIn cQry wx4.heap.size wx5.heap.size wx5 x1 [.int .i64 x1.vars, .slice dc1_0 x1.atoms.length dc1_1, .slice dc1_2 x1.free.length dc1_3] := q
  clear q
  have hm5 : wx4.heap.size ≤ wx5.heap.size := hb.size
  replace g_w := OwnIn.next g_w (by omega) hb
  replace c0 := OwnIn.next c0 (by omega) hb
  replace p1_0 := cell_next p1_0 hb
  replace p1_1 := cell_next p1_1 hb
  replace p1_2 := cell_next p1_2 hb
  replace hbb := Below.next hbb hb
  clear hb
  go_upto_region 11 with fail
  obtain ⟨wx6, hb, hsz, q1_0, q1_1, q1_2, hwx⟩ : ∃ wy, Below wx5.heap.size wx5 wy ∧ wx5.heap.size < wy.heap.size ∧ wy.cell? ⟨wx5.heap.size, 0, none⟩ = some (.int .i64 x1.vars) ∧ wy.cell? ⟨wx5.heap.size, 1, none⟩ = some (.slice dc1_0 x1.atoms.length dc1_1) ∧ wy.cell? ⟨wx5.heap.size, 2, none⟩ = some (.slice dc1_2 x1.free.length dc1_3) ∧ wx5.alloc (Obj.cells #[.int .i64 x1.vars, .slice dc1_0 x1.atoms.length dc1_1, .slice dc1_2 x1.free.length dc1_3] 34) = wy := ⟨_, by go_grown, by simp, by go_simp, by go_simp, by go_simp, rfl⟩
  rw [hwx]
  clear hwx
  have hq1 := hsz
  clear hsz
  have hm6 : wx5.heap.size ≤ wx6.heap.size := hb.size
  replace g_w := OwnIn.next g_w (by omega) hb
  replace c0 := OwnIn.next c0 (by omega) hb
  replace c1 := OwnIn.next c1 (by omega) hb
  replace p1_0 := cell_next p1_0 hb
  replace p1_1 := cell_next p1_1 hb
  replace p1_2 := cell_next p1_2 hb
  replace hbb := Below.next hbb hb
  clear hb
  go_wp2_with fail
  refine (implKeyClosure_c hz0 hz1 (OwnIn.at c0 (by omega)) (OwnIn.at c1 (by omega)) (hg0.below hbb)).mono ?_
  rintro e wx7 ⟨⟨ra_g_g, rc_g_g, he, q⟩, hb⟩
  rw [hRR] at he q
  subst he
  have g_g : OwnIn (cSlice cInt) wx6.heap.size wx7.heap.size wx7 R [.slice ra_g_g R.length rc_g_g] := q
  clear q
  have hm7 : wx6.heap.size ≤ wx7.heap.size := hb.size
  replace g_w := OwnIn.next g_w (by omega) hb
  replace c0 := OwnIn.next c0 (by omega) hb
  replace c1 := OwnIn.next c1 (by omega) hb
  replace p1_0 := cell_next p1_0 hb
  replace p1_1 := cell_next p1_1 hb
  replace p1_2 := cell_next p1_2 hb
  replace q1_0 := cell_next q1_0 hb
  replace q1_1 := cell_next q1_1 hb
  replace q1_2 := cell_next q1_2 hb
  replace hbb := Below.next hbb hb
  clear hb
  go_wp2_with fail
  refine (eqIntS_c (OwnIn.at g_g (by omega)) (OwnIn.at g_w (by omega))).mono ?_
  rintro e wx8 ⟨he, hb⟩
  rw [dec_self] at he
  subst he
  have hm8 : wx7.heap.size ≤ wx8.heap.size := hb.size
  replace g_w := OwnIn.next g_w (by omega) hb
  replace c0 := OwnIn.next c0 (by omega) hb
  replace c1 := OwnIn.next c1 (by omega) hb
  replace g_g := OwnIn.next g_g (by omega) hb
  replace p1_0 := cell_next p1_0 hb
  replace p1_1 := cell_next p1_1 hb
  replace p1_2 := cell_next p1_2 hb
  replace q1_0 := cell_next q1_0 hb
  replace q1_1 := cell_next q1_1 hb
  replace q1_2 := cell_next q1_2 hb
  replace hbb := Below.next hbb hb
  clear hb
  go_wp2_with fail
  refine (toRelationS_c hz0 (At.below (c := (cSlice cRel)) o0 hbb (Nat.le_refl _))).mono ?_
  rintro e wx9 ⟨⟨dt0_0, dt0_1, rfl, q⟩, hb⟩
  have t0 : OwnIn (cSlice cRel) wx8.heap.size wx9.heap.size wx9 l0 [.slice dt0_0 l0.length dt0_1] := q
  clear q
  have hm9 : wx8.heap.size ≤ wx9.heap.size := hb.size
  replace g_w := OwnIn.next g_w (by omega) hb
  replace c0 := OwnIn.next c0 (by omega) hb
  replace c1 := OwnIn.next c1 (by omega) hb
  replace g_g := OwnIn.next g_g (by omega) hb
  replace p1_0 := cell_next p1_0 hb
  replace p1_1 := cell_next p1_1 hb
  replace p1_2 := cell_next p1_2 hb
  replace q1_0 := cell_next q1_0 hb
  replace q1_1 := cell_next q1_1 hb
  replace q1_2 := cell_next q1_2 hb
  replace hbb := Below.next hbb hb
  clear hb
  go_wp2_with fail
  refine (eqRelationS_c (OwnIn.at c0 (by omega)) (OwnIn.at t0 (by omega))).mono ?_
  rintro e wx10 ⟨he, hb⟩
  rw [dec_self] at he
  subst he
  have hm10 : wx9.heap.size ≤ wx10.heap.size := hb.size
  replace g_w := OwnIn.next g_w (by omega) hb
  replace c0 := OwnIn.next c0 (by omega) hb
  replace c1 := OwnIn.next c1 (by omega) hb
  replace g_g := OwnIn.next g_g (by omega) hb
  replace t0 := OwnIn.next t0 (by omega) hb
  replace p1_0 := cell_next p1_0 hb
  replace p1_1 := cell_next p1_1 hb
  replace p1_2 := cell_next p1_2 hb
  replace q1_0 := cell_next q1_0 hb
  replace q1_1 := cell_next q1_1 hb
  replace q1_2 := cell_next q1_2 hb
  replace hbb := Below.next hbb hb
  clear hb
  clear t0
  go_upto_region 16 with fail
  have hbm := Below.refl wx10.heap.size wx10
  have x1_at := (OwnIn.at c1 (by omega))
  go_cut [53] from 16 (fun v0 wr => v0 = .bool false ∧ Below wx10.heap.size wx10 wr)
  case first =>
    go_region_with (first
      | (go_at_call 14; refine (toQuery_c hz1 (At.here (At.below (c := cQry) o1 hbb (Nat.le_refl _)))).mono ?_; rintro e wy ⟨⟨_, _, _, _, rfl, q⟩, hb⟩; have t_at := q.at; clear q; replace x1_at := At.next x1_at hb; replace p1_0 := cell_next p1_0 hb; replace p1_1 := cell_next p1_1 hb; replace p1_2 := cell_next p1_2 hb; replace q1_0 := cell_next q1_0 hb; replace q1_1 := cell_next q1_1 hb; replace q1_2 := cell_next q1_2 hb; replace hbm := Below.next hbm hb; clear hb)
      | (go_at_call 19; refine (eqQuery_c (At.here x1_at) (At.here t_at)).mono ?_; rintro e wy ⟨he, hb⟩; rw [dec_self] at he; subst he; replace hbm := Below.next hbm hb; clear hb))
    all_goals (go_wp2_with fail; go_meet; exact ⟨rfl, hbm⟩)
  case rest =>
  obtain ⟨rfl, hb⟩ := hcut
  clear hbm x1_at
  obtain ⟨wx11, hwx⟩ : ∃ wx, wx = wc := ⟨_, rfl⟩
  subst hwx
  have hm11 : wx10.heap.size ≤ wx11.heap.size := hb.size
  replace g_w := OwnIn.next g_w (by omega) hb
  replace c0 := OwnIn.next c0 (by omega) hb
  replace c1 := OwnIn.next c1 (by omega) hb
  replace g_g := OwnIn.next g_g (by omega) hb
  replace p1_0 := cell_next p1_0 hb
  replace p1_1 := cell_next p1_1 hb
  replace p1_2 := cell_next p1_2 hb
  replace q1_0 := cell_next q1_0 hb
  replace q1_1 := cell_next q1_1 hb
  replace q1_2 := cell_next q1_2 hb
  replace hbb := Below.next hbb hb
  clear hb
  have hlv0 : l0.length ≤ 1048576 := Nat.le_trans (Nat.le_add_right _ _) hz0
  obtain ⟨F_c0, hown, hF⟩ := c0
  go_wp2_with fail
  refine (markRelationS_c (k := 1) (by omega) (by omega) (fun k hk => by have := (hF k hk).2; omega) hown).mono ?_
  rintro e wx12 ⟨he, hown2, ho⟩
  obtain ⟨k0_, hk0_⟩ : ∃ q : Nat, 1 + l0.length * 3 = q := ⟨_, rfl⟩
  rw [hk0_] at he
  subst he
  have hm12 : wx11.heap.size ≤ wx12.heap.size := ho.size
  replace g_w := OwnIn.only g_w ho hF (by omega) (by omega)
  replace c1 := OwnIn.only c1 ho hF (by omega) (by omega)
  replace g_g := OwnIn.only g_g ho hF (by omega) (by omega)
  replace p1_0 := cell_only p1_0 ho hF (by first | (left; simp only []; omega) | (right; simp only []; omega))
  replace p1_1 := cell_only p1_1 ho hF (by first | (left; simp only []; omega) | (right; simp only []; omega))
  replace p1_2 := cell_only p1_2 ho hF (by first | (left; simp only []; omega) | (right; simp only []; omega))
  replace q1_0 := cell_only q1_0 ho hF (by first | (left; simp only []; omega) | (right; simp only []; omega))
  replace q1_1 := cell_only q1_1 ho hF (by first | (left; simp only []; omega) | (right; simp only []; omega))
  replace q1_2 := cell_only q1_2 ho hF (by first | (left; simp only []; omega) | (right; simp only []; omega))
  replace hbb := Below.trans hbb (Only.below ho (fun k hk => by have := (hF k hk).1; omega) (by omega))
  have c0 : OwnIn (cSlice cRel) wx3.heap.size wx4.heap.size wx12 (markRs 1 l0) _ := ⟨F_c0, hown2, hF⟩
  clear hown hown2 ho hF
  clear c0
  have hlv1 := lvQ_le x1
  obtain ⟨F_c1, hown, hF⟩ := c1
  go_wp2_with fail
  refine (markQuery_c (k := k0_) (by omega) (fun k hk => by have := (hF k hk).2; omega) hown).mono ?_
  rintro e wx13 ⟨he, hown2, ho⟩
  obtain ⟨k1_, hk1_⟩ : ∃ q : Nat, k0_ + lvQ x1 = q := ⟨_, rfl⟩
  rw [hk1_] at he
  subst he
  have hm13 : wx12.heap.size ≤ wx13.heap.size := ho.size
  replace g_w := OwnIn.only g_w ho hF (by omega) (by omega)
  replace g_g := OwnIn.only g_g ho hF (by omega) (by omega)
  replace p1_0 := cell_only p1_0 ho hF (by first | (left; simp only []; omega) | (right; simp only []; omega))
  replace p1_1 := cell_only p1_1 ho hF (by first | (left; simp only []; omega) | (right; simp only []; omega))
  replace p1_2 := cell_only p1_2 ho hF (by first | (left; simp only []; omega) | (right; simp only []; omega))
  replace q1_0 := cell_only q1_0 ho hF (by first | (left; simp only []; omega) | (right; simp only []; omega))
  replace q1_1 := cell_only q1_1 ho hF (by first | (left; simp only []; omega) | (right; simp only []; omega))
  replace q1_2 := cell_only q1_2 ho hF (by first | (left; simp only []; omega) | (right; simp only []; omega))
  replace hbb := Below.trans hbb (Only.below ho (fun k hk => by have := (hF k hk).1; omega) (by omega))
  have c1 : OwnIn cQry wx4.heap.size wx5.heap.size wx13 (markQ k0_ x1) _ := ⟨F_c1, hown2, hF⟩
  clear hown hown2 ho hF
  clear c1
  have hkd : decide (((k1_ : Nat) : Int) < 0) = false := decide_eq_false (by omega)
  go_wp2_with fail
  refine (eqIntS_c (OwnIn.at g_g (by omega)) (OwnIn.at g_w (by omega))).mono ?_
  rintro e wx14 ⟨he, hb⟩
  rw [dec_self] at he
  subst he
  have hm14 : wx13.heap.size ≤ wx14.heap.size := hb.size
  replace g_w := OwnIn.next g_w (by omega) hb
  replace g_g := OwnIn.next g_g (by omega) hb
  replace p1_0 := cell_next p1_0 hb
  replace p1_1 := cell_next p1_1 hb
  replace p1_2 := cell_next p1_2 hb
  replace q1_0 := cell_next q1_0 hb
  replace q1_1 := cell_next q1_1 hb
  replace q1_2 := cell_next q1_2 hb
  replace hbb := Below.next hbb hb
  clear hb
  obtain ⟨F_g_g, hown, hF⟩ := g_g
  go_wp2_with fail
  refine (markIntS_c (k := 1) (by omega) (fun k hk => by have := (hF k hk).2; omega) hown).mono ?_
  rintro e wx15 ⟨he, hown2, ho⟩
  obtain ⟨mm, hmm⟩ : ∃ q : Nat, 1 + R.length = q := ⟨_, rfl⟩
  rw [hmm] at he
  subst he
  have hm15 : wx14.heap.size ≤ wx15.heap.size := ho.size
  replace g_w := OwnIn.only g_w ho hF (by omega) (by omega)
  replace p1_0 := cell_only p1_0 ho hF (by first | (left; simp only []; omega) | (right; simp only []; omega))
  replace p1_1 := cell_only p1_1 ho hF (by first | (left; simp only []; omega) | (right; simp only []; omega))
  replace p1_2 := cell_only p1_2 ho hF (by first | (left; simp only []; omega) | (right; simp only []; omega))
  replace q1_0 := cell_only q1_0 ho hF (by first | (left; simp only []; omega) | (right; simp only []; omega))
  replace q1_1 := cell_only q1_1 ho hF (by first | (left; simp only []; omega) | (right; simp only []; omega))
  replace q1_2 := cell_only q1_2 ho hF (by first | (left; simp only []; omega) | (right; simp only []; omega))
  replace hbb := Below.trans hbb (Only.below ho (fun k hk => by have := (hF k hk).1; omega) (by omega))
  have g_g : OwnIn (cSlice cInt) wx6.heap.size wx7.heap.size wx15 (markI 1 R) _ := ⟨F_g_g, hown2, hF⟩
  clear hown hown2 ho hF
  have hmd : decide (((mm : Nat) : Int) < 0) = false := decide_eq_false (by omega)
  have hmn : (((mm : Nat) : Int) != ((mm : Nat) : Int)) = false := bne_self_eq_false _
  have hg_at := (OwnIn.at g_g (by omega))
  have hgl : (markI 1 R).length = R.length := markL_length _ _ _ _
  rw [← hgl] at hg_at
  go_wp2_with fail
  refine (by have h := heldIntS_c (k := 1) (by rw [hgl]; omega) (fun i hi => markI_get _ _ _ hi) hg_at; rw [hgl] at h; exact h : Calls _ _ _ _ fun e w' => e = .returned (.int .i64 ((1 + R.length : Nat) : Int)) ∧ Below _ _ w').mono ?_
  rintro e wx16 ⟨he, hb⟩
  rw [hmm] at he
  subst he
  clear hg_at hgl
  have hm16 : wx15.heap.size ≤ wx16.heap.size := hb.size
  replace g_w := OwnIn.next g_w (by omega) hb
  replace g_g := OwnIn.next g_g (by omega) hb
  replace p1_0 := cell_next p1_0 hb
  replace p1_1 := cell_next p1_1 hb
  replace p1_2 := cell_next p1_2 hb
  replace q1_0 := cell_next q1_0 hb
  replace q1_1 := cell_next q1_1 hb
  replace q1_2 := cell_next q1_2 hb
  replace hbb := Below.next hbb hb
  clear hb
  go_upto_region 31 with fail
  have hbm := Below.refl wx16.heap.size wx16
  go_cut [15] from 16 (fun v0 wr => (∃ a cap, v0 = .slice a R.length cap ∧ OwnIn (cSlice cInt) wx16.heap.size wr.heap.size wr R [.slice a R.length cap]) ∧ Below wx16.heap.size wx16 wr)
  case first =>
    go_region_with (first
      | (go_at_call 13; refine (toRelationS_c hz0 (At.here (At.below (c := (cSlice cRel)) o0 hbb (Nat.le_refl _)))).mono ?_; rintro e wy ⟨⟨_, _, rfl, q⟩, hb⟩; have s0 := q.at; clear q; (try replace s1 := At.next s1 hb); replace p1_0 := cell_next p1_0 hb; replace p1_1 := cell_next p1_1 hb; replace p1_2 := cell_next p1_2 hb; replace q1_0 := cell_next q1_0 hb; replace q1_1 := cell_next q1_1 hb; replace q1_2 := cell_next q1_2 hb; replace hbm := Below.next hbm hb; replace hbb := Below.next hbb hb; clear hb)
      | (go_at_call 14; refine (toQuery_c hz1 (At.here (At.below (c := cQry) o1 hbb (Nat.le_refl _)))).mono ?_; rintro e wy ⟨⟨_, _, _, _, rfl, q⟩, hb⟩; have s1 := q.at; clear q; (try replace s0 := At.next s0 hb); replace p1_0 := cell_next p1_0 hb; replace p1_1 := cell_next p1_1 hb; replace p1_2 := cell_next p1_2 hb; replace q1_0 := cell_next q1_0 hb; replace q1_1 := cell_next q1_1 hb; replace q1_2 := cell_next q1_2 hb; replace hbm := Below.next hbm hb; replace hbb := Below.next hbb hb; clear hb)
      | (go_at_call 25; refine (implKeyClosure_c hz0 hz1 (At.here s0) (At.here s1) (hg0.below hbb)).mono ?_; rintro e wy ⟨⟨ra, rc, he, q⟩, hb⟩; rw [hRR] at he q; subst he; have hq := (Own.mono q hbm.size).in; clear q; replace p1_0 := cell_next p1_0 hb; replace p1_1 := cell_next p1_1 hb; replace p1_2 := cell_next p1_2 hb; replace q1_0 := cell_next q1_0 hb; replace q1_1 := cell_next q1_1 hb; replace q1_2 := cell_next q1_2 hb; replace hbm := Below.next hbm hb; replace hbb := Below.next hbb hb; clear hb))
    all_goals (go_wp2_with fail; go_meet; exact ⟨⟨_, _, rfl, hq⟩, hbm⟩)
  case rest =>
  obtain ⟨⟨ra_g_h, rc_g_h, rfl, q⟩, hb⟩ := hcut
  clear hbm
  obtain ⟨wx17, hwx⟩ : ∃ wx, wx = wc := ⟨_, rfl⟩
  subst hwx
  have g_h : OwnIn (cSlice cInt) wx16.heap.size wx17.heap.size wx17 R [.slice ra_g_h R.length rc_g_h] := q
  clear q
  have hm17 : wx16.heap.size ≤ wx17.heap.size := hb.size
  replace g_w := OwnIn.next g_w (by omega) hb
  replace g_g := OwnIn.next g_g (by omega) hb
  replace p1_0 := cell_next p1_0 hb
  replace p1_1 := cell_next p1_1 hb
  replace p1_2 := cell_next p1_2 hb
  replace q1_0 := cell_next q1_0 hb
  replace q1_1 := cell_next q1_1 hb
  replace q1_2 := cell_next q1_2 hb
  replace hbb := Below.next hbb hb
  clear hb
  go_wp2_with fail
  refine (eqIntS_c (OwnIn.at g_h (by omega)) (OwnIn.at g_w (by omega))).mono ?_
  rintro e wx18 ⟨he, hb⟩
  rw [dec_self] at he
  subst he
  have hm18 : wx17.heap.size ≤ wx18.heap.size := hb.size
  replace g_w := OwnIn.next g_w (by omega) hb
  replace g_g := OwnIn.next g_g (by omega) hb
  replace g_h := OwnIn.next g_h (by omega) hb
  replace p1_0 := cell_next p1_0 hb
  replace p1_1 := cell_next p1_1 hb
  replace p1_2 := cell_next p1_2 hb
  replace q1_0 := cell_next q1_0 hb
  replace q1_1 := cell_next q1_1 hb
  replace q1_2 := cell_next q1_2 hb
  replace hbb := Below.next hbb hb
  clear hb
  have hg_at := (OwnIn.at g_g (by omega))
  have hgl : (markI 1 R).length = R.length := markL_length _ _ _ _
  rw [← hgl] at hg_at
  go_wp2_with fail
  refine (by have h := heldIntS_c (k := 1) (by rw [hgl]; omega) (fun i hi => markI_get _ _ _ hi) hg_at; rw [hgl] at h; exact h : Calls _ _ _ _ fun e w' => e = .returned (.int .i64 ((1 + R.length : Nat) : Int)) ∧ Below _ _ w').mono ?_
  rintro e wx19 ⟨he, hb⟩
  rw [hmm] at he
  subst he
  clear hg_at hgl
  have hm19 : wx18.heap.size ≤ wx19.heap.size := hb.size
  replace g_w := OwnIn.next g_w (by omega) hb
  replace g_g := OwnIn.next g_g (by omega) hb
  replace g_h := OwnIn.next g_h (by omega) hb
  replace p1_0 := cell_next p1_0 hb
  replace p1_1 := cell_next p1_1 hb
  replace p1_2 := cell_next p1_2 hb
  replace q1_0 := cell_next q1_0 hb
  replace q1_1 := cell_next q1_1 hb
  replace q1_2 := cell_next q1_2 hb
  replace hbb := Below.next hbb hb
  clear hb
  go_wp2
  go_ret
  exact ⟨rfl, hbb⟩

/-! ### THE ROW's STEP: WRITTEN OUT: LEAVE IT -/
theorem door_met (os : Os) (args : Array Value) : laidMetH Tryd.prog Rows.fnExactKeyClosureRow.laid ((World.doorLaid Tryd.prog 400 os).forCall (fun _ _ => 0) ⟨#[], args, []⟩).memory := by
  rw [MakeChecks.laidMetH_plain _ _ _ (by kernel_rfl)]
  exact laidMet_of_run' 8 (by kernel_rfl) (by kernel_rfl)

set_option maxRecDepth 100000 in
theorem lifted (os : Os) (started : os.Started) (H : Type) (enc : TypeId × Value → H) :
    ReturnsInHanded {} Tryd.checked os 4 .any (fun w args => (Rows.fnExactKeyClosureSpec.pre enc Tryd.prog Tryd.f4 Rows.fnExactKeyClosureRow.domain false w args ∧ laidMetH Tryd.prog Rows.fnExactKeyClosureRow.laid w) ∧ sizedMet enc Tryd.prog Tryd.f4 (OpenSpec.ofChange Rows.fnExactKeyClosureSpec) false w args) (Rows.fnExactKeyClosureSpec.post enc Tryd.prog Tryd.f4 false true false false) := by
  refine returnsInHanded_of_change_and (C := Tryd.checked) (X := fun w _ => laidMetH Tryd.prog Rows.fnExactKeyClosureRow.laid w) (fun _ _ _ hh h => h.of_heap hh) own started (by kernel_rfl) Tryd.func4
    (ChangeSpec.witness_shaped (enc := enc) (C := Tryd.checked) (os := os) (X := fun w _ => laidMetH Tryd.prog Rows.fnExactKeyClosureRow.laid w) false (World.doorLaid Tryd.prog 400 os) #[.slice none 0 0, .agg #[.int .i64 0, .slice none 0 0, .slice none 0 0], .int .i64 0] 8 rfl (World.shaped_of_RefB (by kernel_rfl) (by kernel_rfl)) (by kernel_rfl) (by kernel_rfl) (by kernel_rfl) (door_met os _)) ?_
  intro W base args ds gs before hval0 hW hcnd _ hL _
  have hval : ∀ (j : Nat) t v, Tryd.f4.params[j]? = some t → args[j]? = some v → Value.okWide Tryd.prog W .any base t v := hval0
  have hW' := hW
  obtain ⟨p, q, hA0, hV, rfl, hfz, hnd⟩ := hW
  have hA : DataW.TrodAll enc Tryd.prog W 0 (fun _ => true) true Tryd.f4.params.toList args.toList ds p := hA0
  rw [Tryd.params4] at hA hval
  obtain ⟨v0, vs0, d0, ds0, p0, q0, hargs, rfl, rfl, h0, r0⟩ := trodAll_cons hA
  obtain ⟨v1, vs1, d1, ds1, p1, q1, rfl, rfl, rfl, h1, r1⟩ := trodAll_cons r0
  obtain ⟨v2, vs2, d2, ds2, p2, q2, rfl, rfl, rfl, h2, r2⟩ := trodAll_cons r1
  obtain ⟨rfl, rfl, rfl⟩ := trodAll_nil r2
  obtain rfl : args = #[v0, v1, v2] := by cases args; simp_all
  obtain ⟨rfl, rfl⟩ := trodVars_none hV
  have k0 := h0
  have lt0 : ∀ x ∈ p0, x.block < W.heap.size := by obtain ⟨m, hm⟩ := k0; exact DataW.trod_lt m _ _ _ hm
  obtain ⟨a0, cap0, l0, rfl, w0⟩ := row_RelationS (hval 0 22 v0 rfl rfl) h0
  have k1 := h1
  have lt1 : ∀ x ∈ p1, x.block < W.heap.size := by obtain ⟨m, hm⟩ := k1; exact DataW.trod_lt m _ _ _ hm
  obtain ⟨x1, a1_1, cap1_1, a2_1, cap2_1, rfl, w1⟩ := row_Query (hval 1 26 v1 rfl rfl) h1
  obtain ⟨a2, rfl, rfl, rfl, w2⟩ := open_int Tryd.underlying3 (hval 2 3 v2 rfl rfl) h2
  clear hA0 hval0
  refine (walk a0 cap0 l0 x1 a1_1 cap1_1 a2_1 cap2_1 a2 W w0 w1 w2 hL).mono fun e W' ⟨he, bel⟩ => ?_
  subst he
  exact ⟨_, rfl, _, _, _, [], _, [], hW', trodAll_mk1 (shut_bool Tryd.underlying4 _), (trodAll_cons_mk (Below.trod laidOut (by kernel_rfl) (of_decide_eq_true (by kernel_rfl)) k0 bel lt0) (trodAll_cons_mk (Below.trod laidOut (by kernel_rfl) (of_decide_eq_true (by kernel_rfl)) k1 bel lt1) (trodAll_cons_mk (shut_int Tryd.underlying3 w2) trodAll_mk0))), rfl, bel.frame _, fun h => by cases h⟩

theorem over : Rows.fnExactKeyClosureRow.holds Tryd.pinned (OpenSpec.ofChange Rows.fnExactKeyClosureSpec) :=
  OpenClaim.holds_of_wide 4 Tryd.f4 rfl rfl rfl rfl rfl rfl rfl ⟨rfl, rfl, rfl, rfl, rfl⟩ rfl rfl rfl rfl rfl (by kernel_rfl) Tryd.func4 (by kernel_rfl)
    (of_decide_eq_true (by kernel_rfl)) (by unfold Func.isWrapper; first | (rw [if_pos (by decide +kernel)]; kernel_rfl) | (rw [if_neg (by decide +kernel)]; exact ⟨rfl, rfl⟩))
    (fun os started H enc _ => lifted os started H enc)

/-- ████ THE STATEMENT ████ -/
theorem row_holds : Rows.FnExactKeyClosureSaid := over
/-- The statement: the tied card. -/
theorem card : Rows.FnExactKeyClosureCardSaid :=
  Claim7.holds_tied_plain_at .later [] [.data, .data] true (true, "72de098110390eff47116366a813612d2d87730f6dd4f7315a39733a348cb33d") false
    row_holds (fun _ h => by cases h) (by kernel_rfl) (fun _ h => by cases h) fnExactKeyClosure_row_tie rfl ⟨rfl, rfl⟩ (by kernel_rfl) rfl
    (fun f fn hf hfn => by
      obtain rfl : f = 4 := Option.some.inj ((show Tryd.prog.funcNamed "loop.example/g01918/laws.FnExactKeyClosure" = some 4 by kernel_rfl).symm.trans hf) |>.symm
      obtain rfl : fn = Tryd.f4 := (Option.some.inj (Tryd.func4.symm.trans hfn)).symm
      exact ⟨by kernel_rfl, fun j t ht => by
        rw [Tryd.params4] at ht
        have hm : t ∈ [22, 26, 3] := by simpa using Array.mem_of_getElem? ht
        have hall : ([22, 26, 3].all fun u => !Tryd.prog.wantsStandIn u) = true := by kernel_rfl
        exact (show Tryd.prog.wantsStandIn t = false by simpa using List.all_eq_true.1 hall t hm)⟩)
    (by kernel_rfl)
#print axioms card
end Go.Proofs.YtgoofnhhhlncoabDoor.fnExactKeyClosure

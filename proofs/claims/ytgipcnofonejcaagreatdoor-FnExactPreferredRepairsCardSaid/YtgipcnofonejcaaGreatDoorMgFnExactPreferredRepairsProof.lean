/- FnExactPreferredRepairs: PreferredRepairs: for all arguments the program's answer is the model's and the arguments read as before; the answer owns its memory; arguments of more than 1 MiB are let by in the statement itself. -/
import Derived.Test.YtgipcnofonejcaaGreatDoorRows
import Derived.Test.YtgipcnofonejcaaGreatDoorCards
import Derived.Test.YtgipcnofonejcaaGreatDoorTie
import Derived.WalkKit
import Derived.Deep.Cut
import Derived.LaidMore
import Derived.Stop.Joined
import Derived.SevenTiedAt
import Derived.ProofKit
import Derived.OpenShut
import Derived.ShutString
import Derived.ChangeOld
import Derived.Below
import Derived.Test.YtgipcnofonejcaaGreatDoorMgFnExactPreferredRepairsG
namespace Go.Proofs.YtgipcnofonejcaaGreatDoor.fnExactPreferredRepairs
open Go.ChangeShapes Go.WideShapes Go.ChangeAt Go.RowKit
open Go.ChangeMaps (open_string shut_string)
set_option maxRecDepth 100000
set_option linter.unusedVariables false

theorem own : ownKnob Tryz.prog.godebug = none := by kernel_rfl
theorem laidOut : laidOutB Tryz.prog = true := by kernel_rfl

/-- WHAT THE WALK IS TOLD OF A SLICE OF INTEGERS THAT CAME IN: it is nil; or it leads to a row of 'cap' cells, the numbers 'zs' (the first 'len' are its elements, the rest its spare room), each fitting its kind. -/
def IsRow (k : IntKind) (w : World) (a : Option Addr) (len cap : Nat) (zs : List Int) : Prop :=
 (a = none ∧ len = 0 ∧ cap = 0 ∧ zs = []) ∨
 ∃ x, a = some x ∧ len ≤ cap ∧ cap ≤ maxLen ∧ zs.length = cap ∧ (∀ i, i < zs.length → w.cell? (x.add i) = some (.int k (zs.getD i 0))) ∧ ∀ n ∈ zs, (Lit.int k n).wf = true

/-! ### STEP 1: THE WALK: the Go text returns true, AND WRITES NOTHING THAT WAS THERE: 'Below w.heap.size w w'' (Derived/Below.lean: '.refl', '.alloc', '.drew', '.setCell' at a new block, '.trans'). Open each 'IsRow' by 'rcases' AHEAD of 'go_enter'; part every test ahead of the walk. -/
set_option maxHeartbeats 8000000 in
theorem walk (x0 : Dbs) (a0_0 : Option Addr) (cap0_0 : Nat) (a1_0 : Option Addr) (cap1_0 : Nat) (a1 : Option Addr) (cap1 : Nat) (l1 : List Dcn) (a2 : Option Addr) (cap2 : Nat) (l2 : List Edg) (w : World) (w0 : At cDbs w x0 [.slice a0_0 x0.rels.length cap0_0, .slice a1_0 x0.facts.length cap1_0]) (w1 : At (cSlice cDcn) w l1 [.slice a1 l1.length cap1]) (w2 : At (cSlice cEdg) w l2 [.slice a2 l2.length cap2]) (hL : laidMetH Tryz.prog Rows.fnExactPreferredRepairsRow.laid w) :
   Calls Tryz.prog 4 #[.agg #[.slice a0_0 x0.rels.length cap0_0, .slice a1_0 x0.facts.length cap1_0], .slice a1 l1.length cap1, .slice a2 l2.length cap2] w fun e w' => e = .returned (.bool true) ∧ Below w.heap.size w w' := by
 have hg0 : Ab.Glob w := by rw [MakeChecks.laidMetH_plain _ _ _ (by kernel_rfl)] at hL; exact Ab.glob_of_laid hL
 have o0 := w0
 clear w0
 have o1 := w1
 clear w1
 have o2 := w2
 clear w2
 have hle0 := szR_le (1048576) (sizeDatabase x0) (by omega)
 by_cases hn0 : szR (1048576) (sizeDatabase x0) < 0
 · have hk := hn0
   go_enter Tryz.func4, Tryz.ntmps4
   go_wp2_with fail
   obtain ⟨wx0, hbb, hm0, p0_0, p0_1, hwx⟩ : ∃ wx0, Below w.heap.size w wx0 ∧ w.heap.size + 1 ≤ wx0.heap.size ∧ wx0.cell? ⟨w.heap.size, 0, none⟩ = some (.slice a0_0 x0.rels.length cap0_0) ∧ wx0.cell? ⟨w.heap.size, 1, none⟩ = some (.slice a1_0 x0.facts.length cap1_0) ∧ (w.alloc (Obj.cells #[.slice a0_0 x0.rels.length cap0_0, .slice a1_0 x0.facts.length cap1_0] 25)) = wx0 := ⟨_, by go_grown, by simp, by go_simp, by go_simp, rfl⟩
   rw [hwx]
   clear hwx
   refine (szDatabase_c (by omega) (by omega) (At.below (c := cDbs) o0 hbb (Nat.le_refl _))).mono ?_
   rintro e wx1 ⟨rfl, hb⟩
   have hm1 : wx0.heap.size ≤ wx1.heap.size := hb.size
   replace p0_0 := cell_next p0_0 hb
   replace p0_1 := cell_next p0_1 hb
   replace hbb := Below.next hbb hb
   clear hb
   go_wp2
   go_ret
   exact ⟨rfl, hbb⟩
 have hz0 : sizeDatabase x0 ≤ 1048576 := szR_ge hn0 (by omega)
 have hle1 := szR_le (szR (1048576) (sizeDatabase x0)) (l1.length) (by omega)
 by_cases hn1 : szR (szR (1048576) (sizeDatabase x0)) (l1.length) < 0
 · have hk := hn1
   go_enter Tryz.func4, Tryz.ntmps4
   go_wp2_with fail
   obtain ⟨wx0, hbb, hm0, p0_0, p0_1, hwx⟩ : ∃ wx0, Below w.heap.size w wx0 ∧ w.heap.size + 1 ≤ wx0.heap.size ∧ wx0.cell? ⟨w.heap.size, 0, none⟩ = some (.slice a0_0 x0.rels.length cap0_0) ∧ wx0.cell? ⟨w.heap.size, 1, none⟩ = some (.slice a1_0 x0.facts.length cap1_0) ∧ (w.alloc (Obj.cells #[.slice a0_0 x0.rels.length cap0_0, .slice a1_0 x0.facts.length cap1_0] 25)) = wx0 := ⟨_, by go_grown, by simp, by go_simp, by go_simp, rfl⟩
   rw [hwx]
   clear hwx
   refine (szDatabase_c (by omega) (by omega) (At.below (c := cDbs) o0 hbb (Nat.le_refl _))).mono ?_
   rintro e wx1 ⟨rfl, hb⟩
   have hm1 : wx0.heap.size ≤ wx1.heap.size := hb.size
   replace p0_0 := cell_next p0_0 hb
   replace p0_1 := cell_next p0_1 hb
   replace hbb := Below.next hbb hb
   clear hb
   go_wp2_with fail
   refine (szDenialConstraintS_c (by omega) (by omega) (At.below (c := (cSlice cDcn)) o1 hbb (Nat.le_refl _))).mono ?_
   rintro e wx2 ⟨rfl, hb⟩
   have hm2 : wx1.heap.size ≤ wx2.heap.size := hb.size
   replace p0_0 := cell_next p0_0 hb
   replace p0_1 := cell_next p0_1 hb
   replace hbb := Below.next hbb hb
   clear hb
   go_wp2
   go_ret
   exact ⟨rfl, hbb⟩
 have hz1 : l1.length ≤ 1048576 := szR_ge hn1 (by omega)
 have hle2 := szR_le (szR (szR (1048576) (sizeDatabase x0)) (l1.length)) (l2.length) (by omega)
 by_cases hn2 : szR (szR (szR (1048576) (sizeDatabase x0)) (l1.length)) (l2.length) < 0
 · have hk := hn2
   go_enter Tryz.func4, Tryz.ntmps4
   go_wp2_with fail
   obtain ⟨wx0, hbb, hm0, p0_0, p0_1, hwx⟩ : ∃ wx0, Below w.heap.size w wx0 ∧ w.heap.size + 1 ≤ wx0.heap.size ∧ wx0.cell? ⟨w.heap.size, 0, none⟩ = some (.slice a0_0 x0.rels.length cap0_0) ∧ wx0.cell? ⟨w.heap.size, 1, none⟩ = some (.slice a1_0 x0.facts.length cap1_0) ∧ (w.alloc (Obj.cells #[.slice a0_0 x0.rels.length cap0_0, .slice a1_0 x0.facts.length cap1_0] 25)) = wx0 := ⟨_, by go_grown, by simp, by go_simp, by go_simp, rfl⟩
   rw [hwx]
   clear hwx
   refine (szDatabase_c (by omega) (by omega) (At.below (c := cDbs) o0 hbb (Nat.le_refl _))).mono ?_
   rintro e wx1 ⟨rfl, hb⟩
   have hm1 : wx0.heap.size ≤ wx1.heap.size := hb.size
   replace p0_0 := cell_next p0_0 hb
   replace p0_1 := cell_next p0_1 hb
   replace hbb := Below.next hbb hb
   clear hb
   go_wp2_with fail
   refine (szDenialConstraintS_c (by omega) (by omega) (At.below (c := (cSlice cDcn)) o1 hbb (Nat.le_refl _))).mono ?_
   rintro e wx2 ⟨rfl, hb⟩
   have hm2 : wx1.heap.size ≤ wx2.heap.size := hb.size
   replace p0_0 := cell_next p0_0 hb
   replace p0_1 := cell_next p0_1 hb
   replace hbb := Below.next hbb hb
   clear hb
   go_wp2_with fail
   refine (szConflictEdgeS_c (by omega) (by omega) (At.below (c := (cSlice cEdg)) o2 hbb (Nat.le_refl _))).mono ?_
   rintro e wx3 ⟨rfl, hb⟩
   have hm3 : wx2.heap.size ≤ wx3.heap.size := hb.size
   replace p0_0 := cell_next p0_0 hb
   replace p0_1 := cell_next p0_1 hb
   replace hbb := Below.next hbb hb
   clear hb
   go_wp2
   go_ret
   exact ⟨rfl, hbb⟩
 have hz2 : l2.length ≤ 1048576 := szR_ge hn2 (by omega)
 have hB : lvs List.length (Ab.pfrR x0 l1 l2) ≤ 4611686018427000000 := Ab.pfrR_lvs x0 l1 l2
 obtain ⟨R, hRR⟩ : ∃ R, Ab.pfrR x0 l1 l2 = R := ⟨_, rfl⟩
 rw [hRR] at hB
 go_enter Tryz.func4, Tryz.ntmps4
 go_wp2_with fail
 obtain ⟨wx0, hbb, hm0, p0_0, p0_1, hwx⟩ : ∃ wx0, Below w.heap.size w wx0 ∧ w.heap.size + 1 ≤ wx0.heap.size ∧ wx0.cell? ⟨w.heap.size, 0, none⟩ = some (.slice a0_0 x0.rels.length cap0_0) ∧ wx0.cell? ⟨w.heap.size, 1, none⟩ = some (.slice a1_0 x0.facts.length cap1_0) ∧ (w.alloc (Obj.cells #[.slice a0_0 x0.rels.length cap0_0, .slice a1_0 x0.facts.length cap1_0] 25)) = wx0 := ⟨_, by go_grown, by simp, by go_simp, by go_simp, rfl⟩
 rw [hwx]
 clear hwx
 refine (szDatabase_c (by omega) (by omega) (At.below (c := cDbs) o0 hbb (Nat.le_refl _))).mono ?_
 rintro e wx1 ⟨rfl, hb⟩
 have hm1 : wx0.heap.size ≤ wx1.heap.size := hb.size
 replace p0_0 := cell_next p0_0 hb
 replace p0_1 := cell_next p0_1 hb
 replace hbb := Below.next hbb hb
 clear hb
 go_wp2_with fail
 refine (szDenialConstraintS_c (by omega) (by omega) (At.below (c := (cSlice cDcn)) o1 hbb (Nat.le_refl _))).mono ?_
 rintro e wx2 ⟨rfl, hb⟩
 have hm2 : wx1.heap.size ≤ wx2.heap.size := hb.size
 replace p0_0 := cell_next p0_0 hb
 replace p0_1 := cell_next p0_1 hb
 replace hbb := Below.next hbb hb
 clear hb
 go_wp2_with fail
 refine (szConflictEdgeS_c (by omega) (by omega) (At.below (c := (cSlice cEdg)) o2 hbb (Nat.le_refl _))).mono ?_
 rintro e wx3 ⟨rfl, hb⟩
 have hm3 : wx2.heap.size ≤ wx3.heap.size := hb.size
 replace p0_0 := cell_next p0_0 hb
 replace p0_1 := cell_next p0_1 hb
 replace hbb := Below.next hbb hb
 clear hb
 go_wp2_with fail
 refine (toDatabase_c hz0 (At.below (c := cDbs) o0 hbb (Nat.le_refl _))).mono ?_
 rintro e wx4 ⟨⟨ds0_0, ds0_1, ds0_2, ds0_3, rfl, q⟩, hb⟩
 have s0 : OwnIn cDbs wx3.heap.size wx4.heap.size wx4 x0 [.slice ds0_0 x0.rels.length ds0_1, .slice ds0_2 x0.facts.length ds0_3] := q
 clear q
 have hm4 : wx3.heap.size ≤ wx4.heap.size := hb.size
 replace p0_0 := cell_next p0_0 hb
 replace p0_1 := cell_next p0_1 hb
 replace hbb := Below.next hbb hb
 clear hb
 go_wp2_with fail
 refine (toDenialConstraintS_c hz1 (At.below (c := (cSlice cDcn)) o1 hbb (Nat.le_refl _))).mono ?_
 rintro e wx5 ⟨⟨ds1_0, ds1_1, rfl, q⟩, hb⟩
 have s1 : OwnIn (cSlice cDcn) wx4.heap.size wx5.heap.size wx5 l1 [.slice ds1_0 l1.length ds1_1] := q
 clear q
 have hm5 : wx4.heap.size ≤ wx5.heap.size := hb.size
 replace s0 := OwnIn.next s0 (by omega) hb
 replace p0_0 := cell_next p0_0 hb
 replace p0_1 := cell_next p0_1 hb
 replace hbb := Below.next hbb hb
 clear hb
 go_wp2_with fail
 refine (toConflictEdgeS_c hz2 (At.below (c := (cSlice cEdg)) o2 hbb (Nat.le_refl _))).mono ?_
 rintro e wx6 ⟨⟨ds2_0, ds2_1, rfl, q⟩, hb⟩
 have s2 : OwnIn (cSlice cEdg) wx5.heap.size wx6.heap.size wx6 l2 [.slice ds2_0 l2.length ds2_1] := q
 clear q
 have hm6 : wx5.heap.size ≤ wx6.heap.size := hb.size
 replace s0 := OwnIn.next s0 (by omega) hb
 replace s1 := OwnIn.next s1 (by omega) hb
 replace p0_0 := cell_next p0_0 hb
 replace p0_1 := cell_next p0_1 hb
 replace hbb := Below.next hbb hb
 clear hb
 go_wp2_with fail
 refine (specPreferredRepairs_c hz0 hz1 hz2 (OwnIn.at s0 (by omega)) (OwnIn.at s1 (by omega)) (OwnIn.at s2 (by omega)) (hg0.below hbb)).mono ?_
 rintro e wx7 ⟨⟨ra_g_w, rc_g_w, he, q⟩, hb⟩
 rw [hRR] at he q
 subst he
 have g_w : AtIn (cSlice (cSlice cInt)) wx6.heap.size wx7.heap.size wx7 R [.slice ra_g_w R.length rc_g_w] := q
 clear q
 have hm7 : wx6.heap.size ≤ wx7.heap.size := hb.size
 replace s0 := OwnIn.next s0 (by omega) hb
 replace s1 := OwnIn.next s1 (by omega) hb
 replace s2 := OwnIn.next s2 (by omega) hb
 replace p0_0 := cell_next p0_0 hb
 replace p0_1 := cell_next p0_1 hb
 replace hbb := Below.next hbb hb
 clear hb
 clear s0
 clear s1
 clear s2
 go_wp2_with fail
 refine (toDatabase_c hz0 (At.below (c := cDbs) o0 hbb (Nat.le_refl _))).mono ?_
 rintro e wx8 ⟨⟨dc0_0, dc0_1, dc0_2, dc0_3, rfl, q⟩, hb⟩
 have c0 : OwnIn cDbs wx7.heap.size wx8.heap.size wx8 x0 [.slice dc0_0 x0.rels.length dc0_1, .slice dc0_2 x0.facts.length dc0_3] := q
 clear q
 have hm8 : wx7.heap.size ≤ wx8.heap.size := hb.size
 replace g_w := AtIn.next g_w (by omega) hb
 replace p0_0 := cell_next p0_0 hb
 replace p0_1 := cell_next p0_1 hb
 replace hbb := Below.next hbb hb
 clear hb
 go_upto_region 13 with fail
 obtain ⟨wx9, hb, hsz, q0_0, q0_1, hwx⟩ : ∃ wy, Below wx8.heap.size wx8 wy ∧ wx8.heap.size < wy.heap.size ∧ wy.cell? ⟨wx8.heap.size, 0, none⟩ = some (.slice dc0_0 x0.rels.length dc0_1) ∧ wy.cell? ⟨wx8.heap.size, 1, none⟩ = some (.slice dc0_2 x0.facts.length dc0_3) ∧ wx8.alloc (Obj.cells #[.slice dc0_0 x0.rels.length dc0_1, .slice dc0_2 x0.facts.length dc0_3] 34) = wy := ⟨_, by go_grown, by simp, by go_simp, by go_simp, rfl⟩
 rw [hwx]
 clear hwx
 have hq0 := hsz
 clear hsz
 have hm9 : wx8.heap.size ≤ wx9.heap.size := hb.size
 replace g_w := AtIn.next g_w (by omega) hb
 replace c0 := OwnIn.next c0 (by omega) hb
 replace p0_0 := cell_next p0_0 hb
 replace p0_1 := cell_next p0_1 hb
 replace hbb := Below.next hbb hb
 clear hb
 go_wp2_with fail
 refine (toDenialConstraintS_c hz1 (At.below (c := (cSlice cDcn)) o1 hbb (Nat.le_refl _))).mono ?_
 rintro e wx10 ⟨⟨dc1_0, dc1_1, rfl, q⟩, hb⟩
 have c1 : OwnIn (cSlice cDcn) wx9.heap.size wx10.heap.size wx10 l1 [.slice dc1_0 l1.length dc1_1] := q
 clear q
 have hm10 : wx9.heap.size ≤ wx10.heap.size := hb.size
 replace g_w := AtIn.next g_w (by omega) hb
 replace c0 := OwnIn.next c0 (by omega) hb
 replace p0_0 := cell_next p0_0 hb
 replace p0_1 := cell_next p0_1 hb
 replace q0_0 := cell_next q0_0 hb
 replace q0_1 := cell_next q0_1 hb
 replace hbb := Below.next hbb hb
 clear hb
 go_wp2_with fail
 refine (toConflictEdgeS_c hz2 (At.below (c := (cSlice cEdg)) o2 hbb (Nat.le_refl _))).mono ?_
 rintro e wx11 ⟨⟨dc2_0, dc2_1, rfl, q⟩, hb⟩
 have c2 : OwnIn (cSlice cEdg) wx10.heap.size wx11.heap.size wx11 l2 [.slice dc2_0 l2.length dc2_1] := q
 clear q
 have hm11 : wx10.heap.size ≤ wx11.heap.size := hb.size
 replace g_w := AtIn.next g_w (by omega) hb
 replace c0 := OwnIn.next c0 (by omega) hb
 replace c1 := OwnIn.next c1 (by omega) hb
 replace p0_0 := cell_next p0_0 hb
 replace p0_1 := cell_next p0_1 hb
 replace q0_0 := cell_next q0_0 hb
 replace q0_1 := cell_next q0_1 hb
 replace hbb := Below.next hbb hb
 clear hb
 go_wp2_with fail
 refine (implPreferredRepairs_c hz0 hz1 hz2 (OwnIn.at c0 (by omega)) (OwnIn.at c1 (by omega)) (OwnIn.at c2 (by omega)) (hg0.below hbb)).mono ?_
 rintro e wx12 ⟨⟨ra_g_g, rc_g_g, he, q⟩, hb⟩
 rw [hRR] at he q
 subst he
 have g_g : OwnIn (cSlice (cSlice cInt)) wx11.heap.size wx12.heap.size wx12 R [.slice ra_g_g R.length rc_g_g] := q
 clear q
 have hm12 : wx11.heap.size ≤ wx12.heap.size := hb.size
 replace g_w := AtIn.next g_w (by omega) hb
 replace c0 := OwnIn.next c0 (by omega) hb
 replace c1 := OwnIn.next c1 (by omega) hb
 replace c2 := OwnIn.next c2 (by omega) hb
 replace p0_0 := cell_next p0_0 hb
 replace p0_1 := cell_next p0_1 hb
 replace q0_0 := cell_next q0_0 hb
 replace q0_1 := cell_next q0_1 hb
 replace hbb := Below.next hbb hb
 clear hb
 go_wp2_with fail
 refine (eqIntSS_c (OwnIn.at g_g (by omega)) (AtIn.at g_w (by omega))).mono ?_
 rintro e wx13 ⟨he, hb⟩
 rw [dec_self] at he
 subst he
 have hm13 : wx12.heap.size ≤ wx13.heap.size := hb.size
 replace g_w := AtIn.next g_w (by omega) hb
 replace c0 := OwnIn.next c0 (by omega) hb
 replace c1 := OwnIn.next c1 (by omega) hb
 replace c2 := OwnIn.next c2 (by omega) hb
 replace g_g := OwnIn.next g_g (by omega) hb
 replace p0_0 := cell_next p0_0 hb
 replace p0_1 := cell_next p0_1 hb
 replace q0_0 := cell_next q0_0 hb
 replace q0_1 := cell_next q0_1 hb
 replace hbb := Below.next hbb hb
 clear hb
 go_upto_region 18 with fail
 have hbm := Below.refl wx13.heap.size wx13
 have x0_at := (OwnIn.at c0 (by omega))
 go_cut [57] from 17 (fun v0 wr => v0 = .bool false ∧ Below wx13.heap.size wx13 wr)
 case first =>
   go_region_with (first
     | (go_at_call 8; refine (toDatabase_c hz0 (At.here (At.below (c := cDbs) o0 hbb (Nat.le_refl _)))).mono ?_; rintro e wy ⟨⟨_, _, _, _, rfl, q⟩, hb⟩; have t_at := q.at; clear q; replace x0_at := At.next x0_at hb; replace p0_0 := cell_next p0_0 hb; replace p0_1 := cell_next p0_1 hb; replace q0_0 := cell_next q0_0 hb; replace q0_1 := cell_next q0_1 hb; replace hbm := Below.next hbm hb; clear hb)
     | (go_at_call 12; refine (eqDatabase_c (At.here x0_at) (At.here t_at)).mono ?_; rintro e wy ⟨he, hb⟩; rw [dec_self] at he; subst he; replace hbm := Below.next hbm hb; clear hb))
   all_goals (go_wp2_with fail; go_meet; exact ⟨rfl, hbm⟩)
 case rest =>
 obtain ⟨rfl, hb⟩ := hcut
 clear hbm x0_at
 obtain ⟨wx14, hwx⟩ : ∃ wx, wx = wc := ⟨_, rfl⟩
 subst hwx
 have hm14 : wx13.heap.size ≤ wx14.heap.size := hb.size
 replace g_w := AtIn.next g_w (by omega) hb
 replace c0 := OwnIn.next c0 (by omega) hb
 replace c1 := OwnIn.next c1 (by omega) hb
 replace c2 := OwnIn.next c2 (by omega) hb
 replace g_g := OwnIn.next g_g (by omega) hb
 replace p0_0 := cell_next p0_0 hb
 replace p0_1 := cell_next p0_1 hb
 replace q0_0 := cell_next q0_0 hb
 replace q0_1 := cell_next q0_1 hb
 replace hbb := Below.next hbb hb
 clear hb
 go_wp2_with fail
 refine (toDenialConstraintS_c hz1 (At.below (c := (cSlice cDcn)) o1 hbb (Nat.le_refl _))).mono ?_
 rintro e wx15 ⟨⟨dt1_0, dt1_1, rfl, q⟩, hb⟩
 have t1 : OwnIn (cSlice cDcn) wx14.heap.size wx15.heap.size wx15 l1 [.slice dt1_0 l1.length dt1_1] := q
 clear q
 have hm15 : wx14.heap.size ≤ wx15.heap.size := hb.size
 replace g_w := AtIn.next g_w (by omega) hb
 replace c0 := OwnIn.next c0 (by omega) hb
 replace c1 := OwnIn.next c1 (by omega) hb
 replace c2 := OwnIn.next c2 (by omega) hb
 replace g_g := OwnIn.next g_g (by omega) hb
 replace p0_0 := cell_next p0_0 hb
 replace p0_1 := cell_next p0_1 hb
 replace q0_0 := cell_next q0_0 hb
 replace q0_1 := cell_next q0_1 hb
 replace hbb := Below.next hbb hb
 clear hb
 go_wp2_with fail
 refine (eqDenialConstraintS_c (OwnIn.at c1 (by omega)) (OwnIn.at t1 (by omega))).mono ?_
 rintro e wx16 ⟨he, hb⟩
 rw [dec_self] at he
 subst he
 have hm16 : wx15.heap.size ≤ wx16.heap.size := hb.size
 replace g_w := AtIn.next g_w (by omega) hb
 replace c0 := OwnIn.next c0 (by omega) hb
 replace c1 := OwnIn.next c1 (by omega) hb
 replace c2 := OwnIn.next c2 (by omega) hb
 replace g_g := OwnIn.next g_g (by omega) hb
 replace t1 := OwnIn.next t1 (by omega) hb
 replace p0_0 := cell_next p0_0 hb
 replace p0_1 := cell_next p0_1 hb
 replace q0_0 := cell_next q0_0 hb
 replace q0_1 := cell_next q0_1 hb
 replace hbb := Below.next hbb hb
 clear hb
 clear t1
 go_wp2_with fail
 refine (toConflictEdgeS_c hz2 (At.below (c := (cSlice cEdg)) o2 hbb (Nat.le_refl _))).mono ?_
 rintro e wx17 ⟨⟨dt2_0, dt2_1, rfl, q⟩, hb⟩
 have t2 : OwnIn (cSlice cEdg) wx16.heap.size wx17.heap.size wx17 l2 [.slice dt2_0 l2.length dt2_1] := q
 clear q
 have hm17 : wx16.heap.size ≤ wx17.heap.size := hb.size
 replace g_w := AtIn.next g_w (by omega) hb
 replace c0 := OwnIn.next c0 (by omega) hb
 replace c1 := OwnIn.next c1 (by omega) hb
 replace c2 := OwnIn.next c2 (by omega) hb
 replace g_g := OwnIn.next g_g (by omega) hb
 replace p0_0 := cell_next p0_0 hb
 replace p0_1 := cell_next p0_1 hb
 replace q0_0 := cell_next q0_0 hb
 replace q0_1 := cell_next q0_1 hb
 replace hbb := Below.next hbb hb
 clear hb
 go_wp2_with fail
 refine (eqConflictEdgeS_c (OwnIn.at c2 (by omega)) (OwnIn.at t2 (by omega))).mono ?_
 rintro e wx18 ⟨he, hb⟩
 rw [dec_self] at he
 subst he
 have hm18 : wx17.heap.size ≤ wx18.heap.size := hb.size
 replace g_w := AtIn.next g_w (by omega) hb
 replace c0 := OwnIn.next c0 (by omega) hb
 replace c1 := OwnIn.next c1 (by omega) hb
 replace c2 := OwnIn.next c2 (by omega) hb
 replace g_g := OwnIn.next g_g (by omega) hb
 replace t2 := OwnIn.next t2 (by omega) hb
 replace p0_0 := cell_next p0_0 hb
 replace p0_1 := cell_next p0_1 hb
 replace q0_0 := cell_next q0_0 hb
 replace q0_1 := cell_next q0_1 hb
 replace hbb := Below.next hbb hb
 clear hb
 clear t2
 have hlv0 := lvD_le x0
 obtain ⟨F_c0, hown, hF⟩ := c0
 go_wp2_with fail
 refine (markDatabase_c (k := 1) (by omega) (by omega) (fun k hk => by have := (hF k hk).2; omega) hown).mono ?_
 rintro e wx19 ⟨he, hown2, ho⟩
 obtain ⟨k0_, hk0_⟩ : ∃ q : Nat, 1 + lvD x0 = q := ⟨_, rfl⟩
 rw [hk0_] at he
 subst he
 have hm19 : wx18.heap.size ≤ wx19.heap.size := ho.size
 replace g_w := AtIn.only g_w ho hF (by omega) (by omega)
 replace c1 := OwnIn.only c1 ho hF (by omega) (by omega)
 replace c2 := OwnIn.only c2 ho hF (by omega) (by omega)
 replace g_g := OwnIn.only g_g ho hF (by omega) (by omega)
 replace p0_0 := cell_only p0_0 ho hF (by first | (left; simp only []; omega) | (right; simp only []; omega))
 replace p0_1 := cell_only p0_1 ho hF (by first | (left; simp only []; omega) | (right; simp only []; omega))
 replace q0_0 := cell_only q0_0 ho hF (by first | (left; simp only []; omega) | (right; simp only []; omega))
 replace q0_1 := cell_only q0_1 ho hF (by first | (left; simp only []; omega) | (right; simp only []; omega))
 replace hbb := Below.trans hbb (Only.below ho (fun k hk => by have := (hF k hk).1; omega) (by omega))
 have c0 : OwnIn cDbs wx7.heap.size wx8.heap.size wx19 (markD 1 x0) _ := ⟨F_c0, hown2, hF⟩
 clear hown hown2 ho hF
 clear c0
 obtain ⟨F_c1, hown, hF⟩ := c1
 go_wp2_with fail
 refine (markDenialConstraintS_c (k := k0_) (by omega) (fun k hk => by have := (hF k hk).2; omega) hown).mono ?_
 rintro e wx20 ⟨he, hown2, ho⟩
 obtain ⟨k1_, hk1_⟩ : ∃ q : Nat, k0_ + l1.length * 7 = q := ⟨_, rfl⟩
 rw [hk1_] at he
 subst he
 have hm20 : wx19.heap.size ≤ wx20.heap.size := ho.size
 replace g_w := AtIn.only g_w ho hF (by omega) (by omega)
 replace c2 := OwnIn.only c2 ho hF (by omega) (by omega)
 replace g_g := OwnIn.only g_g ho hF (by omega) (by omega)
 replace p0_0 := cell_only p0_0 ho hF (by first | (left; simp only []; omega) | (right; simp only []; omega))
 replace p0_1 := cell_only p0_1 ho hF (by first | (left; simp only []; omega) | (right; simp only []; omega))
 replace q0_0 := cell_only q0_0 ho hF (by first | (left; simp only []; omega) | (right; simp only []; omega))
 replace q0_1 := cell_only q0_1 ho hF (by first | (left; simp only []; omega) | (right; simp only []; omega))
 replace hbb := Below.trans hbb (Only.below ho (fun k hk => by have := (hF k hk).1; omega) (by omega))
 have c1 : OwnIn (cSlice cDcn) wx9.heap.size wx10.heap.size wx20 (markCs k0_ l1) _ := ⟨F_c1, hown2, hF⟩
 clear hown hown2 ho hF
 clear c1
 obtain ⟨F_c2, hown, hF⟩ := c2
 go_wp2_with fail
 refine (markConflictEdgeS_c (k := k1_) (by omega) (fun k hk => by have := (hF k hk).2; omega) hown).mono ?_
 rintro e wx21 ⟨he, hown2, ho⟩
 obtain ⟨k2_, hk2_⟩ : ∃ q : Nat, k1_ + l2.length * 2 = q := ⟨_, rfl⟩
 rw [hk2_] at he
 subst he
 have hm21 : wx20.heap.size ≤ wx21.heap.size := ho.size
 replace g_w := AtIn.only g_w ho hF (by omega) (by omega)
 replace g_g := OwnIn.only g_g ho hF (by omega) (by omega)
 replace p0_0 := cell_only p0_0 ho hF (by first | (left; simp only []; omega) | (right; simp only []; omega))
 replace p0_1 := cell_only p0_1 ho hF (by first | (left; simp only []; omega) | (right; simp only []; omega))
 replace q0_0 := cell_only q0_0 ho hF (by first | (left; simp only []; omega) | (right; simp only []; omega))
 replace q0_1 := cell_only q0_1 ho hF (by first | (left; simp only []; omega) | (right; simp only []; omega))
 replace hbb := Below.trans hbb (Only.below ho (fun k hk => by have := (hF k hk).1; omega) (by omega))
 have c2 : OwnIn (cSlice cEdg) wx10.heap.size wx11.heap.size wx21 (markEs k1_ l2) _ := ⟨F_c2, hown2, hF⟩
 clear hown hown2 ho hF
 clear c2
 have hkd : decide (((k2_ : Nat) : Int) < 0) = false := decide_eq_false (by omega)
 go_wp2_with fail
 refine (eqIntSS_c (OwnIn.at g_g (by omega)) (AtIn.at g_w (by omega))).mono ?_
 rintro e wx22 ⟨he, hb⟩
 rw [dec_self] at he
 subst he
 have hm22 : wx21.heap.size ≤ wx22.heap.size := hb.size
 replace g_w := AtIn.next g_w (by omega) hb
 replace g_g := OwnIn.next g_g (by omega) hb
 replace p0_0 := cell_next p0_0 hb
 replace p0_1 := cell_next p0_1 hb
 replace q0_0 := cell_next q0_0 hb
 replace q0_1 := cell_next q0_1 hb
 replace hbb := Below.next hbb hb
 clear hb
 obtain ⟨F_g_g, hown, hF⟩ := g_g
 go_wp2_with fail
 refine (markIntSS_c (k := 1) (by omega) (fun k hk => by have := (hF k hk).2; omega) hown).mono ?_
 rintro e wx23 ⟨he, hown2, ho⟩
 obtain ⟨mm, hmm⟩ : ∃ q : Nat, 1 + lvs List.length R = q := ⟨_, rfl⟩
 rw [hmm] at he
 subst he
 have hm23 : wx22.heap.size ≤ wx23.heap.size := ho.size
 replace g_w := AtIn.only g_w ho hF (by omega) (by omega)
 replace p0_0 := cell_only p0_0 ho hF (by first | (left; simp only []; omega) | (right; simp only []; omega))
 replace p0_1 := cell_only p0_1 ho hF (by first | (left; simp only []; omega) | (right; simp only []; omega))
 replace q0_0 := cell_only q0_0 ho hF (by first | (left; simp only []; omega) | (right; simp only []; omega))
 replace q0_1 := cell_only q0_1 ho hF (by first | (left; simp only []; omega) | (right; simp only []; omega))
 replace hbb := Below.trans hbb (Only.below ho (fun k hk => by have := (hF k hk).1; omega) (by omega))
 have g_g : OwnIn (cSlice (cSlice cInt)) wx11.heap.size wx12.heap.size wx23 (markIs 1 R) _ := ⟨F_g_g, hown2, hF⟩
 clear hown hown2 ho hF
 have hmd : decide (((mm : Nat) : Int) < 0) = false := decide_eq_false (by omega)
 have hmn : (((mm : Nat) : Int) != ((mm : Nat) : Int)) = false := bne_self_eq_false _
 go_wp2_with fail
 refine (heldIntSS_c (k := 1) (by omega) (OwnIn.at g_g (by omega))).mono ?_
 rintro e wx24 ⟨he, hb⟩
 rw [hmm] at he
 subst he
 have hm24 : wx23.heap.size ≤ wx24.heap.size := hb.size
 replace g_w := AtIn.next g_w (by omega) hb
 replace g_g := OwnIn.next g_g (by omega) hb
 replace p0_0 := cell_next p0_0 hb
 replace p0_1 := cell_next p0_1 hb
 replace q0_0 := cell_next q0_0 hb
 replace q0_1 := cell_next q0_1 hb
 replace hbb := Below.next hbb hb
 clear hb
 go_wp2_with fail
 refine (toDatabase_c hz0 (At.below (c := cDbs) o0 hbb (Nat.le_refl _))).mono ?_
 rintro e wx25 ⟨⟨ds0_0, ds0_1, ds0_2, ds0_3, rfl, q⟩, hb⟩
 have s0 : OwnIn cDbs wx24.heap.size wx25.heap.size wx25 x0 [.slice ds0_0 x0.rels.length ds0_1, .slice ds0_2 x0.facts.length ds0_3] := q
 clear q
 have hm25 : wx24.heap.size ≤ wx25.heap.size := hb.size
 replace g_w := AtIn.next g_w (by omega) hb
 replace g_g := OwnIn.next g_g (by omega) hb
 replace p0_0 := cell_next p0_0 hb
 replace p0_1 := cell_next p0_1 hb
 replace q0_0 := cell_next q0_0 hb
 replace q0_1 := cell_next q0_1 hb
 replace hbb := Below.next hbb hb
 clear hb
 go_wp2_with fail
 refine (toDenialConstraintS_c hz1 (At.below (c := (cSlice cDcn)) o1 hbb (Nat.le_refl _))).mono ?_
 rintro e wx26 ⟨⟨ds1_0, ds1_1, rfl, q⟩, hb⟩
 have s1 : OwnIn (cSlice cDcn) wx25.heap.size wx26.heap.size wx26 l1 [.slice ds1_0 l1.length ds1_1] := q
 clear q
 have hm26 : wx25.heap.size ≤ wx26.heap.size := hb.size
 replace g_w := AtIn.next g_w (by omega) hb
 replace g_g := OwnIn.next g_g (by omega) hb
 replace s0 := OwnIn.next s0 (by omega) hb
 replace p0_0 := cell_next p0_0 hb
 replace p0_1 := cell_next p0_1 hb
 replace q0_0 := cell_next q0_0 hb
 replace q0_1 := cell_next q0_1 hb
 replace hbb := Below.next hbb hb
 clear hb
 go_wp2_with fail
 refine (toConflictEdgeS_c hz2 (At.below (c := (cSlice cEdg)) o2 hbb (Nat.le_refl _))).mono ?_
 rintro e wx27 ⟨⟨ds2_0, ds2_1, rfl, q⟩, hb⟩
 have s2 : OwnIn (cSlice cEdg) wx26.heap.size wx27.heap.size wx27 l2 [.slice ds2_0 l2.length ds2_1] := q
 clear q
 have hm27 : wx26.heap.size ≤ wx27.heap.size := hb.size
 replace g_w := AtIn.next g_w (by omega) hb
 replace g_g := OwnIn.next g_g (by omega) hb
 replace s0 := OwnIn.next s0 (by omega) hb
 replace s1 := OwnIn.next s1 (by omega) hb
 replace p0_0 := cell_next p0_0 hb
 replace p0_1 := cell_next p0_1 hb
 replace q0_0 := cell_next q0_0 hb
 replace q0_1 := cell_next q0_1 hb
 replace hbb := Below.next hbb hb
 clear hb
 go_wp2_with fail
 refine (implPreferredRepairs_c hz0 hz1 hz2 (OwnIn.at s0 (by omega)) (OwnIn.at s1 (by omega)) (OwnIn.at s2 (by omega)) (hg0.below hbb)).mono ?_
 rintro e wx28 ⟨⟨ra_g_h, rc_g_h, he, q⟩, hb⟩
 rw [hRR] at he q
 subst he
 have g_h : OwnIn (cSlice (cSlice cInt)) wx27.heap.size wx28.heap.size wx28 R [.slice ra_g_h R.length rc_g_h] := q
 clear q
 have hm28 : wx27.heap.size ≤ wx28.heap.size := hb.size
 replace g_w := AtIn.next g_w (by omega) hb
 replace g_g := OwnIn.next g_g (by omega) hb
 replace s0 := OwnIn.next s0 (by omega) hb
 replace s1 := OwnIn.next s1 (by omega) hb
 replace s2 := OwnIn.next s2 (by omega) hb
 replace p0_0 := cell_next p0_0 hb
 replace p0_1 := cell_next p0_1 hb
 replace q0_0 := cell_next q0_0 hb
 replace q0_1 := cell_next q0_1 hb
 replace hbb := Below.next hbb hb
 clear hb
 clear s0
 clear s1
 clear s2
 go_wp2_with fail
 refine (eqIntSS_c (OwnIn.at g_h (by omega)) (AtIn.at g_w (by omega))).mono ?_
 rintro e wx29 ⟨he, hb⟩
 rw [dec_self] at he
 subst he
 have hm29 : wx28.heap.size ≤ wx29.heap.size := hb.size
 replace g_w := AtIn.next g_w (by omega) hb
 replace g_g := OwnIn.next g_g (by omega) hb
 replace g_h := OwnIn.next g_h (by omega) hb
 replace p0_0 := cell_next p0_0 hb
 replace p0_1 := cell_next p0_1 hb
 replace q0_0 := cell_next q0_0 hb
 replace q0_1 := cell_next q0_1 hb
 replace hbb := Below.next hbb hb
 clear hb
 go_wp2_with fail
 refine (heldIntSS_c (k := 1) (by omega) (OwnIn.at g_g (by omega))).mono ?_
 rintro e wx30 ⟨he, hb⟩
 rw [hmm] at he
 subst he
 have hm30 : wx29.heap.size ≤ wx30.heap.size := hb.size
 replace g_w := AtIn.next g_w (by omega) hb
 replace g_g := OwnIn.next g_g (by omega) hb
 replace g_h := OwnIn.next g_h (by omega) hb
 replace p0_0 := cell_next p0_0 hb
 replace p0_1 := cell_next p0_1 hb
 replace q0_0 := cell_next q0_0 hb
 replace q0_1 := cell_next q0_1 hb
 replace hbb := Below.next hbb hb
 clear hb
 go_wp2
 go_ret
 exact ⟨rfl, hbb⟩

/-! ### THE ROW's STEP: WRITTEN OUT: LEAVE IT -/
theorem door_met (os : Os) (args : Array Value) : laidMetH Tryz.prog Rows.fnExactPreferredRepairsRow.laid ((World.doorLaid Tryz.prog 400 os).forCall (fun _ _ => 0) ⟨#[], args, []⟩).memory := by
 rw [MakeChecks.laidMetH_plain _ _ _ (by kernel_rfl)]
 exact laidMet_of_run' 8 (by kernel_rfl) (by kernel_rfl)

set_option maxRecDepth 100000 in
theorem lifted (os : Os) (started : os.Started) (H : Type) (enc : TypeId × Value → H) :
   ReturnsInHanded {} Tryz.checked os 4 .any (fun w args => (Rows.fnExactPreferredRepairsSpec.pre enc Tryz.prog Tryz.f4 Rows.fnExactPreferredRepairsRow.domain false w args ∧ laidMetH Tryz.prog Rows.fnExactPreferredRepairsRow.laid w) ∧ sizedMet enc Tryz.prog Tryz.f4 (OpenSpec.ofChange Rows.fnExactPreferredRepairsSpec) false w args) (Rows.fnExactPreferredRepairsSpec.post enc Tryz.prog Tryz.f4 false true false false) := by
 refine returnsInHanded_of_change_and (C := Tryz.checked) (X := fun w _ => laidMetH Tryz.prog Rows.fnExactPreferredRepairsRow.laid w) (fun _ _ _ hh h => h.of_heap hh) own started (by kernel_rfl) Tryz.func4
   (ChangeSpec.witness_shaped (enc := enc) (C := Tryz.checked) (os := os) (X := fun w _ => laidMetH Tryz.prog Rows.fnExactPreferredRepairsRow.laid w) false (World.doorLaid Tryz.prog 400 os) #[.agg #[.slice none 0 0, .slice none 0 0], .slice none 0 0, .slice none 0 0] 8 rfl (World.shaped_of_RefB (by kernel_rfl) (by kernel_rfl)) (by kernel_rfl) (by kernel_rfl) (by kernel_rfl) (door_met os _)) ?_
 intro W base args ds gs before hval0 hW hcnd _ hL _
 have hval : ∀ (j : Nat) t v, Tryz.f4.params[j]? = some t → args[j]? = some v → Value.okWide Tryz.prog W .any base t v := hval0
 have hW' := hW
 obtain ⟨p, q, hA0, hV, rfl, hfz, hnd⟩ := hW
 have hA : DataW.TrodAll enc Tryz.prog W 0 (fun _ => true) true Tryz.f4.params.toList args.toList ds p := hA0
 rw [Tryz.params4] at hA hval
 obtain ⟨v0, vs0, d0, ds0, p0, q0, hargs, rfl, rfl, h0, r0⟩ := trodAll_cons hA
 obtain ⟨v1, vs1, d1, ds1, p1, q1, rfl, rfl, rfl, h1, r1⟩ := trodAll_cons r0
 obtain ⟨v2, vs2, d2, ds2, p2, q2, rfl, rfl, rfl, h2, r2⟩ := trodAll_cons r1
 obtain ⟨rfl, rfl, rfl⟩ := trodAll_nil r2
 obtain rfl : args = #[v0, v1, v2] := by cases args; simp_all
 obtain ⟨rfl, rfl⟩ := trodVars_none hV
 have k0 := h0
 have lt0 : ∀ x ∈ p0, x.block < W.heap.size := by obtain ⟨m, hm⟩ := k0; exact DataW.trod_lt m _ _ _ hm
 obtain ⟨x0, a0_0, cap0_0, a1_0, cap1_0, rfl, w0⟩ := row_Database (hval 0 25 v0 rfl rfl) h0
 have k1 := h1
 have lt1 : ∀ x ∈ p1, x.block < W.heap.size := by obtain ⟨m, hm⟩ := k1; exact DataW.trod_lt m _ _ _ hm
 obtain ⟨a1, cap1, l1, rfl, w1⟩ := row_DenialConstraintS (hval 1 26 v1 rfl rfl) h1
 have k2 := h2
 have lt2 : ∀ x ∈ p2, x.block < W.heap.size := by obtain ⟨m, hm⟩ := k2; exact DataW.trod_lt m _ _ _ hm
 obtain ⟨a2, cap2, l2, rfl, w2⟩ := row_ConflictEdgeS (hval 2 45 v2 rfl rfl) h2
 clear hA0 hval0
 refine (walk x0 a0_0 cap0_0 a1_0 cap1_0 a1 cap1 l1 a2 cap2 l2 W w0 w1 w2 hL).mono fun e W' ⟨he, bel⟩ => ?_
 subst he
 exact ⟨_, rfl, _, _, _, [], _, [], hW', trodAll_mk1 (shut_bool Tryz.underlying4 _), (trodAll_cons_mk (Below.trod laidOut (by kernel_rfl) (of_decide_eq_true (by kernel_rfl)) k0 bel lt0) (trodAll_cons_mk (Below.trod laidOut (by kernel_rfl) (of_decide_eq_true (by kernel_rfl)) k1 bel lt1) (trodAll_cons_mk (Below.trod laidOut (by kernel_rfl) (of_decide_eq_true (by kernel_rfl)) k2 bel lt2) trodAll_mk0))), rfl, bel.frame _, fun h => by cases h⟩

theorem over : Rows.fnExactPreferredRepairsRow.holds Tryz.pinned (OpenSpec.ofChange Rows.fnExactPreferredRepairsSpec) :=
 OpenClaim.holds_of_wide 4 Tryz.f4 rfl rfl rfl rfl rfl rfl rfl ⟨rfl, rfl, rfl, rfl, rfl⟩ rfl rfl rfl rfl rfl (by kernel_rfl) Tryz.func4 (by kernel_rfl)
   (of_decide_eq_true (by kernel_rfl)) (by unfold Func.isWrapper; first | (rw [if_pos (by decide +kernel)]; kernel_rfl) | (rw [if_neg (by decide +kernel)]; exact ⟨rfl, rfl⟩))
   (fun os started H enc _ => lifted os started H enc)

/-- ████ THE STATEMENT ████ -/
theorem row_holds : Rows.FnExactPreferredRepairsSaid := over
/-- The statement: the tied card. -/
theorem card : Rows.FnExactPreferredRepairsCardSaid :=
 Claim7.holds_tied_plain_at .later [] [.data, .data] true (true, "9ba85e32e22f9e1382ebfc8d1e5c6ed4c5eea27b9a297ab6e863560e81751c70") false
   row_holds (fun _ h => by cases h) (by kernel_rfl) (fun _ h => by cases h) fnExactPreferredRepairs_row_tie rfl ⟨rfl, rfl⟩ (by kernel_rfl) rfl
   (fun f fn hf hfn => by
     obtain rfl : f = 4 := Option.some.inj ((show Tryz.prog.funcNamed "loop.example/g01918/laws.FnExactPreferredRepairs" = some 4 by kernel_rfl).symm.trans hf) |>.symm
     obtain rfl : fn = Tryz.f4 := (Option.some.inj (Tryz.func4.symm.trans hfn)).symm
     exact ⟨by kernel_rfl, fun j t ht => by
       rw [Tryz.params4] at ht
       have hm : t ∈ [25, 26, 45] := by simpa using Array.mem_of_getElem? ht
       have hall : ([25, 26, 45].all fun u => !Tryz.prog.wantsStandIn u) = true := by kernel_rfl
       exact (show Tryz.prog.wantsStandIn t = false by simpa using List.all_eq_true.1 hall t hm)⟩)
   (by kernel_rfl)
#print axioms card
end Go.Proofs.YtgipcnofonejcaaGreatDoor.fnExactPreferredRepairs

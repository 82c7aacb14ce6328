/- FnExactParetoOptimalRepairs: ParetoOptimalRepairs: for all arguments the program's answer is the model's and the arguments read as before; the answer owns its memory; arguments of more than 1 MiB are let by in the statement itself. -/
import Derived.Test.YtgipcnofonejcaaDoorRows
import Derived.Test.YtgipcnofonejcaaDoorCards
import Derived.Test.YtgipcnofonejcaaDoorTie
import Derived.WalkKit
import Derived.Deep.Cut
import Derived.LaidMore
import Derived.Stop.Joined
import Derived.SevenTiedAt
import Derived.ProofKit
import Derived.OpenShut
import Derived.ShutString
import Derived.ChangeOld
import Derived.Below
import Derived.Test.YtgipcnofonejcaaDoorMgFnExactParetoOptimalRepairsF
namespace Go.Proofs.YtgipcnofonejcaaDoor.fnExactParetoOptimalRepairs
open Go.ChangeShapes Go.WideShapes Go.ChangeAt Go.RowKit
open Go.ChangeMaps (open_string shut_string)
set_option maxRecDepth 100000
set_option linter.unusedVariables false

theorem own : ownKnob Tryd.prog.godebug = none := by kernel_rfl
theorem laidOut : laidOutB Tryd.prog = true := by kernel_rfl

/-- WHAT THE WALK IS TOLD OF A SLICE OF INTEGERS THAT CAME IN: it is nil; or it leads to a row of 'cap' cells, the numbers 'zs' (the first 'len' are its elements, the rest its spare room), each fitting its kind. -/
def IsRow (k : IntKind) (w : World) (a : Option Addr) (len cap : Nat) (zs : List Int) : Prop :=
  (a = none ∧ len = 0 ∧ cap = 0 ∧ zs = []) ∨
  ∃ x, a = some x ∧ len ≤ cap ∧ cap ≤ maxLen ∧ zs.length = cap ∧ (∀ i, i < zs.length → w.cell? (x.add i) = some (.int k (zs.getD i 0))) ∧ ∀ n ∈ zs, (Lit.int k n).wf = true

/-! ### STEP 1: THE WALK: the Go text returns true, AND WRITES NOTHING THAT WAS THERE: 'Below w.heap.size w w'' (Derived/Below.lean: '.refl', '.alloc', '.drew', '.setCell' at a new block, '.trans'). Open each 'IsRow' by 'rcases' AHEAD of 'go_enter'; part every test ahead of the walk. -/
set_option maxHeartbeats 8000000 in
theorem walk (a0 : Int) (a1 : Option Addr) (cap1 : Nat) (l1 : List Edg) (a2 : Option Addr) (cap2 : Nat) (l2 : List Edg) (w : World) (w0 : (Lit.int .i64 a0).wf = true) (w1 : At (cSlice cEdg) w l1 [.slice a1 l1.length cap1]) (w2 : At (cSlice cEdg) w l2 [.slice a2 l2.length cap2]) (hL : laidMetH Tryd.prog Rows.fnExactParetoOptimalRepairsRow.laid w) :
    Calls Tryd.prog 6 #[.int .i64 a0, .slice a1 l1.length cap1, .slice a2 l2.length cap2] w fun e w' => e = .returned (.bool true) ∧ Below w.heap.size w w' := by
  have hg0 : Ab.Glob w := by rw [MakeChecks.laidMetH_plain _ _ _ (by kernel_rfl)] at hL; exact Ab.glob_of_laid hL
  have o1 := w1
  clear w1
  have o2 := w2
  clear w2
  have hle1 := szR_le (1048576) (l1.length) (by omega)
  by_cases hn1 : szR (1048576) (l1.length) < 0
  · have hk := hn1
    go_enter Tryd.func6, Tryd.ntmps6
    go_wp2_with fail
    have hbb := Below.refl w.heap.size w
    have hm0 : w.heap.size ≤ w.heap.size := Nat.le_refl _
    refine (szConflictEdgeS_c (by omega) (by omega) (At.below (c := (cSlice cEdg)) o1 hbb (Nat.le_refl _))).mono ?_
    rintro e wx1 ⟨rfl, hb⟩
    have hm1 : w.heap.size ≤ wx1.heap.size := hb.size
    replace hbb := Below.next hbb hb
    clear hb
    go_wp2
    go_ret
    exact ⟨rfl, hbb⟩
  have hz1 : l1.length ≤ 1048576 := szR_ge hn1 (by omega)
  have hle2 := szR_le (szR (1048576) (l1.length)) (l2.length) (by omega)
  by_cases hn2 : szR (szR (1048576) (l1.length)) (l2.length) < 0
  · have hk := hn2
    go_enter Tryd.func6, Tryd.ntmps6
    go_wp2_with fail
    have hbb := Below.refl w.heap.size w
    have hm0 : w.heap.size ≤ w.heap.size := Nat.le_refl _
    refine (szConflictEdgeS_c (by omega) (by omega) (At.below (c := (cSlice cEdg)) o1 hbb (Nat.le_refl _))).mono ?_
    rintro e wx1 ⟨rfl, hb⟩
    have hm1 : w.heap.size ≤ wx1.heap.size := hb.size
    replace hbb := Below.next hbb hb
    clear hb
    go_wp2_with fail
    refine (szConflictEdgeS_c (by omega) (by omega) (At.below (c := (cSlice cEdg)) o2 hbb (Nat.le_refl _))).mono ?_
    rintro e wx2 ⟨rfl, hb⟩
    have hm2 : wx1.heap.size ≤ wx2.heap.size := hb.size
    replace hbb := Below.next hbb hb
    clear hb
    go_wp2
    go_ret
    exact ⟨rfl, hbb⟩
  have hz2 : l2.length ≤ 1048576 := szR_ge hn2 (by omega)
  have hB : lvs List.length (Ab.parR a0 l1 l2) ≤ 4611686018427000000 := Ab.parR_lvs a0 l1 l2
  obtain ⟨R, hRR⟩ : ∃ R, Ab.parR a0 l1 l2 = R := ⟨_, rfl⟩
  rw [hRR] at hB
  go_enter Tryd.func6, Tryd.ntmps6
  go_wp2_with fail
  have hbb := Below.refl w.heap.size w
  have hm0 : w.heap.size ≤ w.heap.size := Nat.le_refl _
  refine (szConflictEdgeS_c (by omega) (by omega) (At.below (c := (cSlice cEdg)) o1 hbb (Nat.le_refl _))).mono ?_
  rintro e wx1 ⟨rfl, hb⟩
  have hm1 : w.heap.size ≤ wx1.heap.size := hb.size
  replace hbb := Below.next hbb hb
  clear hb
  go_wp2_with fail
  refine (szConflictEdgeS_c (by omega) (by omega) (At.below (c := (cSlice cEdg)) o2 hbb (Nat.le_refl _))).mono ?_
  rintro e wx2 ⟨rfl, hb⟩
  have hm2 : wx1.heap.size ≤ wx2.heap.size := hb.size
  replace hbb := Below.next hbb hb
  clear hb
  go_wp2_with fail
  refine (toConflictEdgeS_c hz1 (At.below (c := (cSlice cEdg)) o1 hbb (Nat.le_refl _))).mono ?_
  rintro e wx3 ⟨⟨ds1_0, ds1_1, rfl, q⟩, hb⟩
  have s1 : OwnIn (cSlice cEdg) wx2.heap.size wx3.heap.size wx3 l1 [.slice ds1_0 l1.length ds1_1] := q
  clear q
  have hm3 : wx2.heap.size ≤ wx3.heap.size := hb.size
  replace hbb := Below.next hbb hb
  clear hb
  go_wp2_with fail
  refine (toConflictEdgeS_c hz2 (At.below (c := (cSlice cEdg)) o2 hbb (Nat.le_refl _))).mono ?_
  rintro e wx4 ⟨⟨ds2_0, ds2_1, rfl, q⟩, hb⟩
  have s2 : OwnIn (cSlice cEdg) wx3.heap.size wx4.heap.size wx4 l2 [.slice ds2_0 l2.length ds2_1] := q
  clear q
  have hm4 : wx3.heap.size ≤ wx4.heap.size := hb.size
  replace s1 := OwnIn.next s1 (by omega) hb
  replace hbb := Below.next hbb hb
  clear hb
  go_wp2_with fail
  refine (specParetoOptimalRepairs_c hz1 hz2 (OwnIn.at s1 (by omega)) (OwnIn.at s2 (by omega)) (hg0.below hbb)).mono ?_
  rintro e wx5 ⟨⟨ra_g_w, rc_g_w, he, q⟩, hb⟩
  rw [hRR] at he q
  subst he
  have g_w : AtIn (cSlice (cSlice cInt)) wx4.heap.size wx5.heap.size wx5 R [.slice ra_g_w R.length rc_g_w] := q
  clear q
  have hm5 : wx4.heap.size ≤ wx5.heap.size := hb.size
  replace s1 := OwnIn.next s1 (by omega) hb
  replace s2 := OwnIn.next s2 (by omega) hb
  replace hbb := Below.next hbb hb
  clear hb
  clear s1
  clear s2
  go_wp2_with fail
  refine (toConflictEdgeS_c hz1 (At.below (c := (cSlice cEdg)) o1 hbb (Nat.le_refl _))).mono ?_
  rintro e wx6 ⟨⟨dc1_0, dc1_1, rfl, q⟩, hb⟩
  have c1 : OwnIn (cSlice cEdg) wx5.heap.size wx6.heap.size wx6 l1 [.slice dc1_0 l1.length dc1_1] := q
  clear q
  have hm6 : wx5.heap.size ≤ wx6.heap.size := hb.size
  replace g_w := AtIn.next g_w (by omega) hb
  replace hbb := Below.next hbb hb
  clear hb
  go_wp2_with fail
  refine (toConflictEdgeS_c hz2 (At.below (c := (cSlice cEdg)) o2 hbb (Nat.le_refl _))).mono ?_
  rintro e wx7 ⟨⟨dc2_0, dc2_1, rfl, q⟩, hb⟩
  have c2 : OwnIn (cSlice cEdg) wx6.heap.size wx7.heap.size wx7 l2 [.slice dc2_0 l2.length dc2_1] := q
  clear q
  have hm7 : wx6.heap.size ≤ wx7.heap.size := hb.size
  replace g_w := AtIn.next g_w (by omega) hb
  replace c1 := OwnIn.next c1 (by omega) hb
  replace hbb := Below.next hbb hb
  clear hb
  go_wp2_with fail
  refine (implParetoOptimalRepairs_c hz1 hz2 (OwnIn.at c1 (by omega)) (OwnIn.at c2 (by omega)) (hg0.below hbb)).mono ?_
  rintro e wx8 ⟨⟨ra_g_g, rc_g_g, he, q⟩, hb⟩
  rw [hRR] at he q
  subst he
  have g_g : OwnIn (cSlice (cSlice cInt)) wx7.heap.size wx8.heap.size wx8 R [.slice ra_g_g R.length rc_g_g] := q
  clear q
  have hm8 : wx7.heap.size ≤ wx8.heap.size := hb.size
  replace g_w := AtIn.next g_w (by omega) hb
  replace c1 := OwnIn.next c1 (by omega) hb
  replace c2 := OwnIn.next c2 (by omega) hb
  replace hbb := Below.next hbb hb
  clear hb
  go_wp2_with fail
  refine (eqIntSS_c (OwnIn.at g_g (by omega)) (AtIn.at g_w (by omega))).mono ?_
  rintro e wx9 ⟨he, hb⟩
  rw [dec_self] at he
  subst he
  have hm9 : wx8.heap.size ≤ wx9.heap.size := hb.size
  replace g_w := AtIn.next g_w (by omega) hb
  replace c1 := OwnIn.next c1 (by omega) hb
  replace c2 := OwnIn.next c2 (by omega) hb
  replace g_g := OwnIn.next g_g (by omega) hb
  replace hbb := Below.next hbb hb
  clear hb
  go_wp2_with fail
  refine (toConflictEdgeS_c hz1 (At.below (c := (cSlice cEdg)) o1 hbb (Nat.le_refl _))).mono ?_
  rintro e wx10 ⟨⟨dt1_0, dt1_1, rfl, q⟩, hb⟩
  have t1 : OwnIn (cSlice cEdg) wx9.heap.size wx10.heap.size wx10 l1 [.slice dt1_0 l1.length dt1_1] := q
  clear q
  have hm10 : wx9.heap.size ≤ wx10.heap.size := hb.size
  replace g_w := AtIn.next g_w (by omega) hb
  replace c1 := OwnIn.next c1 (by omega) hb
  replace c2 := OwnIn.next c2 (by omega) hb
  replace g_g := OwnIn.next g_g (by omega) hb
  replace hbb := Below.next hbb hb
  clear hb
  go_wp2_with fail
  refine (eqConflictEdgeS_c (OwnIn.at c1 (by omega)) (OwnIn.at t1 (by omega))).mono ?_
  rintro e wx11 ⟨he, hb⟩
  rw [dec_self] at he
  subst he
  have hm11 : wx10.heap.size ≤ wx11.heap.size := hb.size
  replace g_w := AtIn.next g_w (by omega) hb
  replace c1 := OwnIn.next c1 (by omega) hb
  replace c2 := OwnIn.next c2 (by omega) hb
  replace g_g := OwnIn.next g_g (by omega) hb
  replace t1 := OwnIn.next t1 (by omega) hb
  replace hbb := Below.next hbb hb
  clear hb
  clear t1
  go_wp2_with fail
  refine (toConflictEdgeS_c hz2 (At.below (c := (cSlice cEdg)) o2 hbb (Nat.le_refl _))).mono ?_
  rintro e wx12 ⟨⟨dt2_0, dt2_1, rfl, q⟩, hb⟩
  have t2 : OwnIn (cSlice cEdg) wx11.heap.size wx12.heap.size wx12 l2 [.slice dt2_0 l2.length dt2_1] := q
  clear q
  have hm12 : wx11.heap.size ≤ wx12.heap.size := hb.size
  replace g_w := AtIn.next g_w (by omega) hb
  replace c1 := OwnIn.next c1 (by omega) hb
  replace c2 := OwnIn.next c2 (by omega) hb
  replace g_g := OwnIn.next g_g (by omega) hb
  replace hbb := Below.next hbb hb
  clear hb
  go_wp2_with fail
  refine (eqConflictEdgeS_c (OwnIn.at c2 (by omega)) (OwnIn.at t2 (by omega))).mono ?_
  rintro e wx13 ⟨he, hb⟩
  rw [dec_self] at he
  subst he
  have hm13 : wx12.heap.size ≤ wx13.heap.size := hb.size
  replace g_w := AtIn.next g_w (by omega) hb
  replace c1 := OwnIn.next c1 (by omega) hb
  replace c2 := OwnIn.next c2 (by omega) hb
  replace g_g := OwnIn.next g_g (by omega) hb
  replace t2 := OwnIn.next t2 (by omega) hb
  replace hbb := Below.next hbb hb
  clear hb
  clear t2
  obtain ⟨F_c1, hown, hF⟩ := c1
  go_wp2_with fail
  refine (markConflictEdgeS_c (k := 1) (by omega) (fun k hk => by have := (hF k hk).2; omega) hown).mono ?_
  rintro e wx14 ⟨he, hown2, ho⟩
  obtain ⟨k1_, hk1_⟩ : ∃ q : Nat, 1 + l1.length * 2 = q := ⟨_, rfl⟩
  rw [hk1_] at he
  subst he
  have hm14 : wx13.heap.size ≤ wx14.heap.size := ho.size
  replace g_w := AtIn.only g_w ho hF (by omega) (by omega)
  replace c2 := OwnIn.only c2 ho hF (by omega) (by omega)
  replace g_g := OwnIn.only g_g ho hF (by omega) (by omega)
  replace hbb := Below.trans hbb (Only.below ho (fun k hk => by have := (hF k hk).1; omega) (by omega))
  have c1 : OwnIn (cSlice cEdg) wx5.heap.size wx6.heap.size wx14 (markEs 1 l1) _ := ⟨F_c1, hown2, hF⟩
  clear hown hown2 ho hF
  clear c1
  obtain ⟨F_c2, hown, hF⟩ := c2
  go_wp2_with fail
  refine (markConflictEdgeS_c (k := k1_) (by omega) (fun k hk => by have := (hF k hk).2; omega) hown).mono ?_
  rintro e wx15 ⟨he, hown2, ho⟩
  obtain ⟨k2_, hk2_⟩ : ∃ q : Nat, k1_ + l2.length * 2 = q := ⟨_, rfl⟩
  rw [hk2_] at he
  subst he
  have hm15 : wx14.heap.size ≤ wx15.heap.size := ho.size
  replace g_w := AtIn.only g_w ho hF (by omega) (by omega)
  replace g_g := OwnIn.only g_g ho hF (by omega) (by omega)
  replace hbb := Below.trans hbb (Only.below ho (fun k hk => by have := (hF k hk).1; omega) (by omega))
  have c2 : OwnIn (cSlice cEdg) wx6.heap.size wx7.heap.size wx15 (markEs k1_ l2) _ := ⟨F_c2, hown2, hF⟩
  clear hown hown2 ho hF
  clear c2
  have hkd : decide (((k2_ : Nat) : Int) < 0) = false := decide_eq_false (by omega)
  go_wp2_with fail
  refine (eqIntSS_c (OwnIn.at g_g (by omega)) (AtIn.at g_w (by omega))).mono ?_
  rintro e wx16 ⟨he, hb⟩
  rw [dec_self] at he
  subst he
  have hm16 : wx15.heap.size ≤ wx16.heap.size := hb.size
  replace g_w := AtIn.next g_w (by omega) hb
  replace g_g := OwnIn.next g_g (by omega) hb
  replace hbb := Below.next hbb hb
  clear hb
  obtain ⟨F_g_g, hown, hF⟩ := g_g
  go_wp2_with fail
  refine (markIntSS_c (k := 1) (by omega) (fun k hk => by have := (hF k hk).2; omega) hown).mono ?_
  rintro e wx17 ⟨he, hown2, ho⟩
  obtain ⟨mm, hmm⟩ : ∃ q : Nat, 1 + lvs List.length R = q := ⟨_, rfl⟩
  rw [hmm] at he
  subst he
  have hm17 : wx16.heap.size ≤ wx17.heap.size := ho.size
  replace g_w := AtIn.only g_w ho hF (by omega) (by omega)
  replace hbb := Below.trans hbb (Only.below ho (fun k hk => by have := (hF k hk).1; omega) (by omega))
  have g_g : OwnIn (cSlice (cSlice cInt)) wx7.heap.size wx8.heap.size wx17 (markIs 1 R) _ := ⟨F_g_g, hown2, hF⟩
  clear hown hown2 ho hF
  have hmd : decide (((mm : Nat) : Int) < 0) = false := decide_eq_false (by omega)
  have hmn : (((mm : Nat) : Int) != ((mm : Nat) : Int)) = false := bne_self_eq_false _
  go_wp2_with fail
  refine (heldIntSS_c (k := 1) (by omega) (OwnIn.at g_g (by omega))).mono ?_
  rintro e wx18 ⟨he, hb⟩
  rw [hmm] at he
  subst he
  have hm18 : wx17.heap.size ≤ wx18.heap.size := hb.size
  replace g_w := AtIn.next g_w (by omega) hb
  replace g_g := OwnIn.next g_g (by omega) hb
  replace hbb := Below.next hbb hb
  clear hb
  go_wp2_with fail
  refine (toConflictEdgeS_c hz1 (At.below (c := (cSlice cEdg)) o1 hbb (Nat.le_refl _))).mono ?_
  rintro e wx19 ⟨⟨ds1_0, ds1_1, rfl, q⟩, hb⟩
  have s1 : OwnIn (cSlice cEdg) wx18.heap.size wx19.heap.size wx19 l1 [.slice ds1_0 l1.length ds1_1] := q
  clear q
  have hm19 : wx18.heap.size ≤ wx19.heap.size := hb.size
  replace g_w := AtIn.next g_w (by omega) hb
  replace g_g := OwnIn.next g_g (by omega) hb
  replace hbb := Below.next hbb hb
  clear hb
  go_wp2_with fail
  refine (toConflictEdgeS_c hz2 (At.below (c := (cSlice cEdg)) o2 hbb (Nat.le_refl _))).mono ?_
  rintro e wx20 ⟨⟨ds2_0, ds2_1, rfl, q⟩, hb⟩
  have s2 : OwnIn (cSlice cEdg) wx19.heap.size wx20.heap.size wx20 l2 [.slice ds2_0 l2.length ds2_1] := q
  clear q
  have hm20 : wx19.heap.size ≤ wx20.heap.size := hb.size
  replace g_w := AtIn.next g_w (by omega) hb
  replace g_g := OwnIn.next g_g (by omega) hb
  replace s1 := OwnIn.next s1 (by omega) hb
  replace hbb := Below.next hbb hb
  clear hb
  go_wp2_with fail
  refine (implParetoOptimalRepairs_c hz1 hz2 (OwnIn.at s1 (by omega)) (OwnIn.at s2 (by omega)) (hg0.below hbb)).mono ?_
  rintro e wx21 ⟨⟨ra_g_h, rc_g_h, he, q⟩, hb⟩
  rw [hRR] at he q
  subst he
  have g_h : OwnIn (cSlice (cSlice cInt)) wx20.heap.size wx21.heap.size wx21 R [.slice ra_g_h R.length rc_g_h] := q
  clear q
  have hm21 : wx20.heap.size ≤ wx21.heap.size := hb.size
  replace g_w := AtIn.next g_w (by omega) hb
  replace g_g := OwnIn.next g_g (by omega) hb
  replace s1 := OwnIn.next s1 (by omega) hb
  replace s2 := OwnIn.next s2 (by omega) hb
  replace hbb := Below.next hbb hb
  clear hb
  clear s1
  clear s2
  go_wp2_with fail
  refine (eqIntSS_c (OwnIn.at g_h (by omega)) (AtIn.at g_w (by omega))).mono ?_
  rintro e wx22 ⟨he, hb⟩
  rw [dec_self] at he
  subst he
  have hm22 : wx21.heap.size ≤ wx22.heap.size := hb.size
  replace g_w := AtIn.next g_w (by omega) hb
  replace g_g := OwnIn.next g_g (by omega) hb
  replace g_h := OwnIn.next g_h (by omega) hb
  replace hbb := Below.next hbb hb
  clear hb
  go_wp2_with fail
  refine (heldIntSS_c (k := 1) (by omega) (OwnIn.at g_g (by omega))).mono ?_
  rintro e wx23 ⟨he, hb⟩
  rw [hmm] at he
  subst he
  have hm23 : wx22.heap.size ≤ wx23.heap.size := hb.size
  replace g_w := AtIn.next g_w (by omega) hb
  replace g_g := OwnIn.next g_g (by omega) hb
  replace g_h := OwnIn.next g_h (by omega) hb
  replace hbb := Below.next hbb hb
  clear hb
  go_wp2
  go_ret
  exact ⟨rfl, hbb⟩

/-! ### THE ROW's STEP: WRITTEN OUT: LEAVE IT -/
theorem door_met (os : Os) (args : Array Value) : laidMetH Tryd.prog Rows.fnExactParetoOptimalRepairsRow.laid ((World.doorLaid Tryd.prog 400 os).forCall (fun _ _ => 0) ⟨#[], args, []⟩).memory := by
  rw [MakeChecks.laidMetH_plain _ _ _ (by kernel_rfl)]
  exact laidMet_of_run' 8 (by kernel_rfl) (by kernel_rfl)

set_option maxRecDepth 100000 in
theorem lifted (os : Os) (started : os.Started) (H : Type) (enc : TypeId × Value → H) :
    ReturnsInHanded {} Tryd.checked os 6 .any (fun w args => (Rows.fnExactParetoOptimalRepairsSpec.pre enc Tryd.prog Tryd.f6 Rows.fnExactParetoOptimalRepairsRow.domain false w args ∧ laidMetH Tryd.prog Rows.fnExactParetoOptimalRepairsRow.laid w) ∧ sizedMet enc Tryd.prog Tryd.f6 (OpenSpec.ofChange Rows.fnExactParetoOptimalRepairsSpec) false w args) (Rows.fnExactParetoOptimalRepairsSpec.post enc Tryd.prog Tryd.f6 false true false false) := by
  refine returnsInHanded_of_change_and (C := Tryd.checked) (X := fun w _ => laidMetH Tryd.prog Rows.fnExactParetoOptimalRepairsRow.laid w) (fun _ _ _ hh h => h.of_heap hh) own started (by kernel_rfl) Tryd.func6
    (ChangeSpec.witness_shaped (enc := enc) (C := Tryd.checked) (os := os) (X := fun w _ => laidMetH Tryd.prog Rows.fnExactParetoOptimalRepairsRow.laid w) false (World.doorLaid Tryd.prog 400 os) #[.int .i64 0, .slice none 0 0, .slice none 0 0] 8 rfl (World.shaped_of_RefB (by kernel_rfl) (by kernel_rfl)) (by kernel_rfl) (by kernel_rfl) (by kernel_rfl) (door_met os _)) ?_
  intro W base args ds gs before hval0 hW hcnd _ hL _
  have hval : ∀ (j : Nat) t v, Tryd.f6.params[j]? = some t → args[j]? = some v → Value.okWide Tryd.prog W .any base t v := hval0
  have hW' := hW
  obtain ⟨p, q, hA0, hV, rfl, hfz, hnd⟩ := hW
  have hA : DataW.TrodAll enc Tryd.prog W 0 (fun _ => true) true Tryd.f6.params.toList args.toList ds p := hA0
  rw [Tryd.params6] at hA hval
  obtain ⟨v0, vs0, d0, ds0, p0, q0, hargs, rfl, rfl, h0, r0⟩ := trodAll_cons hA
  obtain ⟨v1, vs1, d1, ds1, p1, q1, rfl, rfl, rfl, h1, r1⟩ := trodAll_cons r0
  obtain ⟨v2, vs2, d2, ds2, p2, q2, rfl, rfl, rfl, h2, r2⟩ := trodAll_cons r1
  obtain ⟨rfl, rfl, rfl⟩ := trodAll_nil r2
  obtain rfl : args = #[v0, v1, v2] := by cases args; simp_all
  obtain ⟨rfl, rfl⟩ := trodVars_none hV
  obtain ⟨a0, rfl, rfl, rfl, w0⟩ := open_int Tryd.underlying3 (hval 0 3 v0 rfl rfl) h0
  have k1 := h1
  have lt1 : ∀ x ∈ p1, x.block < W.heap.size := by obtain ⟨m, hm⟩ := k1; exact DataW.trod_lt m _ _ _ hm
  obtain ⟨a1, cap1, l1, rfl, w1⟩ := row_ConflictEdgeS (hval 1 53 v1 rfl rfl) h1
  have k2 := h2
  have lt2 : ∀ x ∈ p2, x.block < W.heap.size := by obtain ⟨m, hm⟩ := k2; exact DataW.trod_lt m _ _ _ hm
  obtain ⟨a2, cap2, l2, rfl, w2⟩ := row_ConflictEdgeS (hval 2 53 v2 rfl rfl) h2
  clear hA0 hval0
  refine (walk a0 a1 cap1 l1 a2 cap2 l2 W w0 w1 w2 hL).mono fun e W' ⟨he, bel⟩ => ?_
  subst he
  exact ⟨_, rfl, _, _, _, [], _, [], hW', trodAll_mk1 (shut_bool Tryd.underlying4 _), (trodAll_cons_mk (shut_int Tryd.underlying3 w0) (trodAll_cons_mk (Below.trod laidOut (by kernel_rfl) (of_decide_eq_true (by kernel_rfl)) k1 bel lt1) (trodAll_cons_mk (Below.trod laidOut (by kernel_rfl) (of_decide_eq_true (by kernel_rfl)) k2 bel lt2) trodAll_mk0))), rfl, bel.frame _, fun h => by cases h⟩

theorem over : Rows.fnExactParetoOptimalRepairsRow.holds Tryd.pinned (OpenSpec.ofChange Rows.fnExactParetoOptimalRepairsSpec) :=
  OpenClaim.holds_of_wide 6 Tryd.f6 rfl rfl rfl rfl rfl rfl rfl ⟨rfl, rfl, rfl, rfl, rfl⟩ rfl rfl rfl rfl rfl (by kernel_rfl) Tryd.func6 (by kernel_rfl)
    (of_decide_eq_true (by kernel_rfl)) (by unfold Func.isWrapper; first | (rw [if_pos (by decide +kernel)]; kernel_rfl) | (rw [if_neg (by decide +kernel)]; exact ⟨rfl, rfl⟩))
    (fun os started H enc _ => lifted os started H enc)

/-- ████ THE STATEMENT ████ -/
theorem row_holds : Rows.FnExactParetoOptimalRepairsSaid := over
/-- The statement: the tied card. -/
theorem card : Rows.FnExactParetoOptimalRepairsCardSaid :=
  Claim7.holds_tied_plain_at .later [] [.data, .data] true (true, "d619ab3ab529adeb51bbe713605c737a553820f1e95afcfd5fa3ad6f6ea0e796") false
    row_holds (fun _ h => by cases h) (by kernel_rfl) (fun _ h => by cases h) fnExactParetoOptimalRepairs_row_tie rfl ⟨rfl, rfl⟩ (by kernel_rfl) rfl
    (fun f fn hf hfn => by
      obtain rfl : f = 6 := Option.some.inj ((show Tryd.prog.funcNamed "loop.example/g01918/laws.FnExactParetoOptimalRepairs" = some 6 by kernel_rfl).symm.trans hf) |>.symm
      obtain rfl : fn = Tryd.f6 := (Option.some.inj (Tryd.func6.symm.trans hfn)).symm
      exact ⟨by kernel_rfl, fun j t ht => by
        rw [Tryd.params6] at ht
        have hm : t ∈ [3, 53, 53] := by simpa using Array.mem_of_getElem? ht
        have hall : ([3, 53, 53].all fun u => !Tryd.prog.wantsStandIn u) = true := by kernel_rfl
        exact (show Tryd.prog.wantsStandIn t = false by simpa using List.all_eq_true.1 hall t hm)⟩)
    (by kernel_rfl)
#print axioms card
end Go.Proofs.YtgipcnofonejcaaDoor.fnExactParetoOptimalRepairs

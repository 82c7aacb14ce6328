/- FnExactMinimalSets: MinimalSets: for all arguments the program's answer is the model's and the arguments read as before; the answer owns its memory; arguments of more than 1 MiB are let by in the statement itself. -/
import Derived.Test.YtgoofnhhhlncoaaRows
import Derived.WalkKit
import Derived.Test.YtgoofnhhhlncoaaRowTwo
import Derived.Test.YtgoofnhhhlncoaaRowV
import Derived.Test.YtgoofnhhhlncoaaTyTre
import Derived.Test.YtgoofnhhhlncoaaMarkTwo
import Derived.Test.YtgoofnhhhlncoaaCMinimalSets
import Derived.Deep.Cut
import Derived.ProofKit
import Derived.OpenShut
import Derived.ShutString
import Derived.ChangeOld
import Derived.Below
namespace Go.Proofs.Ytgoofnhhhlncoaa.fnExactMinimalSets
open Go.ChangeShapes Go.WideShapes Go.ChangeAt Go.RowKit
open Go.ChangeMaps (open_string shut_string)
set_option maxRecDepth 100000
set_option linter.unusedVariables false

theorem own : ownKnob Try.prog.godebug = none := by kernel_rfl
theorem laidOut : laidOutB Try.prog = true := by kernel_rfl

/-- WHAT THE WALK IS TOLD OF A SLICE OF INTEGERS THAT CAME IN: it is nil; or it leads to a row of 'cap' cells, the numbers 'zs' (the first 'len' are its elements, the rest its spare room), each fitting its kind. -/
def IsRow (k : IntKind) (w : World) (a : Option Addr) (len cap : Nat) (zs : List Int) : Prop :=
  (a = none ∧ len = 0 ∧ cap = 0 ∧ zs = []) ∨
  ∃ x, a = some x ∧ len ≤ cap ∧ cap ≤ maxLen ∧ zs.length = cap ∧ (∀ i, i < zs.length → w.cell? (x.add i) = some (.int k (zs.getD i 0))) ∧ ∀ n ∈ zs, (Lit.int k n).wf = true

/-! ### STEP 1: THE WALK: the Go text returns true, AND WRITES NOTHING THAT WAS THERE: 'Below w.heap.size w w'' (Derived/Below.lean: '.refl', '.alloc', '.drew', '.setCell' at a new block, '.trans'). Open each 'IsRow' by 'rcases' AHEAD of 'go_enter'; part every test ahead of the walk. -/
set_option maxHeartbeats 8000000 in
theorem walk (a0 : Option Addr) (cap0 : Nat) (l0 : List (List Int)) (w : World) (w0 : At (cSlice (cSlice cInt)) w l0 [.slice a0 l0.length cap0]) :
    Calls Try.prog 10 #[.slice a0 l0.length cap0] w fun e w' => e = .returned (.bool true) ∧ Below w.heap.size w w' := by
  have hg0 : Ab.Glob w := trivial
  have o0 := w0
  clear w0
  have hle0 := szR_le (1048576) (sizeIntSS l0) (by omega)
  by_cases hn0 : szR (1048576) (sizeIntSS l0) < 0
  · have hk := hn0
    go_enter Try.func10, Try.ntmps10
    go_wp2_with fail
    have hbb := Below.refl w.heap.size w
    have hm0 : w.heap.size ≤ w.heap.size := Nat.le_refl _
    refine (szIntSS_c (by omega) (by omega) (At.below (c := (cSlice (cSlice cInt))) o0 hbb (Nat.le_refl _))).mono ?_
    rintro e wx1 ⟨rfl, hb⟩
    have hm1 : w.heap.size ≤ wx1.heap.size := hb.size
    replace hbb := Below.next hbb hb
    clear hb
    go_wp2
    go_ret
    exact ⟨rfl, hbb⟩
  have hz0 : sizeIntSS l0 ≤ 1048576 := szR_ge hn0 (by omega)
  have hB : lvs List.length (Ab.minL l0 l0.length) ≤ 4611686018427000000 := Ab.selC_lvs hz0 (Nat.le_trans (Ab.minI_len l0 l0.length) (Ab.sizeIntSS_len hz0))
  obtain ⟨R, hRR⟩ : ∃ R, Ab.minL l0 l0.length = R := ⟨_, rfl⟩
  rw [hRR] at hB
  go_enter Try.func10, Try.ntmps10
  go_wp2_with fail
  have hbb := Below.refl w.heap.size w
  have hm0 : w.heap.size ≤ w.heap.size := Nat.le_refl _
  refine (szIntSS_c (by omega) (by omega) (At.below (c := (cSlice (cSlice cInt))) o0 hbb (Nat.le_refl _))).mono ?_
  rintro e wx1 ⟨rfl, hb⟩
  have hm1 : w.heap.size ≤ wx1.heap.size := hb.size
  replace hbb := Below.next hbb hb
  clear hb
  go_wp2_with fail
  refine (toIntSS_c hz0 (At.below (c := (cSlice (cSlice cInt))) o0 hbb (Nat.le_refl _))).mono ?_
  rintro e wx2 ⟨⟨ds0_0, ds0_1, rfl, q⟩, hb⟩
  have s0 : OwnIn (cSlice (cSlice cInt)) wx1.heap.size wx2.heap.size wx2 l0 [.slice ds0_0 l0.length ds0_1] := q
  clear q
  have hm2 : wx1.heap.size ≤ wx2.heap.size := hb.size
  replace hbb := Below.next hbb hb
  clear hb
  go_wp2_with fail
  refine (specMinimalSets_c hz0 (OwnIn.at s0 (by omega)) (hg0.below hbb)).mono ?_
  rintro e wx3 ⟨⟨ra_g_w, rc_g_w, he, q⟩, hb⟩
  rw [hRR] at he q
  subst he
  have g_w : OwnIn (cSlice (cSlice cInt)) wx2.heap.size wx3.heap.size wx3 R [.slice ra_g_w R.length rc_g_w] := q
  clear q
  have hm3 : wx2.heap.size ≤ wx3.heap.size := hb.size
  replace s0 := OwnIn.next s0 (by omega) hb
  replace hbb := Below.next hbb hb
  clear hb
  clear s0
  go_wp2_with fail
  refine (toIntSS_c hz0 (At.below (c := (cSlice (cSlice cInt))) o0 hbb (Nat.le_refl _))).mono ?_
  rintro e wx4 ⟨⟨dc0_0, dc0_1, rfl, q⟩, hb⟩
  have c0 : OwnIn (cSlice (cSlice cInt)) wx3.heap.size wx4.heap.size wx4 l0 [.slice dc0_0 l0.length dc0_1] := q
  clear q
  have hm4 : wx3.heap.size ≤ wx4.heap.size := hb.size
  replace g_w := OwnIn.next g_w (by omega) hb
  replace hbb := Below.next hbb hb
  clear hb
  go_wp2_with fail
  refine (implMinimalSets_c hz0 (OwnIn.at c0 (by omega)) (hg0.below hbb)).mono ?_
  rintro e wx5 ⟨⟨ra_g_g, rc_g_g, he, q⟩, hb⟩
  rw [hRR] at he q
  subst he
  have g_g : OwnIn (cSlice (cSlice cInt)) wx4.heap.size wx5.heap.size wx5 R [.slice ra_g_g R.length rc_g_g] := q
  clear q
  have hm5 : wx4.heap.size ≤ wx5.heap.size := hb.size
  replace g_w := OwnIn.next g_w (by omega) hb
  replace c0 := OwnIn.next c0 (by omega) hb
  replace hbb := Below.next hbb hb
  clear hb
  go_wp2_with fail
  refine (eqIntSS_c (OwnIn.at g_g (by omega)) (OwnIn.at g_w (by omega))).mono ?_
  rintro e wx6 ⟨he, hb⟩
  rw [dec_self] at he
  subst he
  have hm6 : wx5.heap.size ≤ wx6.heap.size := hb.size
  replace g_w := OwnIn.next g_w (by omega) hb
  replace c0 := OwnIn.next c0 (by omega) hb
  replace g_g := OwnIn.next g_g (by omega) hb
  replace hbb := Below.next hbb hb
  clear hb
  go_wp2_with fail
  refine (toIntSS_c hz0 (At.below (c := (cSlice (cSlice cInt))) o0 hbb (Nat.le_refl _))).mono ?_
  rintro e wx7 ⟨⟨dt0_0, dt0_1, rfl, q⟩, hb⟩
  have t0 : OwnIn (cSlice (cSlice cInt)) wx6.heap.size wx7.heap.size wx7 l0 [.slice dt0_0 l0.length dt0_1] := q
  clear q
  have hm7 : wx6.heap.size ≤ wx7.heap.size := hb.size
  replace g_w := OwnIn.next g_w (by omega) hb
  replace c0 := OwnIn.next c0 (by omega) hb
  replace g_g := OwnIn.next g_g (by omega) hb
  replace hbb := Below.next hbb hb
  clear hb
  go_wp2_with fail
  refine (eqIntSS_c (OwnIn.at c0 (by omega)) (OwnIn.at t0 (by omega))).mono ?_
  rintro e wx8 ⟨he, hb⟩
  rw [dec_self] at he
  subst he
  have hm8 : wx7.heap.size ≤ wx8.heap.size := hb.size
  replace g_w := OwnIn.next g_w (by omega) hb
  replace c0 := OwnIn.next c0 (by omega) hb
  replace g_g := OwnIn.next g_g (by omega) hb
  replace t0 := OwnIn.next t0 (by omega) hb
  replace hbb := Below.next hbb hb
  clear hb
  clear t0
  have hlv0 : lvs List.length l0 ≤ 1048576 := Nat.le_trans (Nat.le_add_left _ _) hz0
  obtain ⟨F_c0, hown, hF⟩ := c0
  go_wp2_with fail
  refine (markIntSS_c (k := 1) (by omega) (fun k hk => by have := (hF k hk).2; omega) hown).mono ?_
  rintro e wx9 ⟨he, hown2, ho⟩
  obtain ⟨k0_, hk0_⟩ : ∃ q : Nat, 1 + lvs List.length l0 = q := ⟨_, rfl⟩
  rw [hk0_] at he
  subst he
  have hm9 : wx8.heap.size ≤ wx9.heap.size := ho.size
  replace g_w := OwnIn.only g_w ho hF (by omega) (by omega)
  replace g_g := OwnIn.only g_g ho hF (by omega) (by omega)
  replace hbb := Below.trans hbb (Only.below ho (fun k hk => by have := (hF k hk).1; omega) (by omega))
  have c0 : OwnIn (cSlice (cSlice cInt)) wx3.heap.size wx4.heap.size wx9 (markIs 1 l0) _ := ⟨F_c0, hown2, hF⟩
  clear hown hown2 ho hF
  clear c0
  have hkd : decide (((k0_ : Nat) : Int) < 0) = false := decide_eq_false (by omega)
  go_wp2_with fail
  refine (eqIntSS_c (OwnIn.at g_g (by omega)) (OwnIn.at g_w (by omega))).mono ?_
  rintro e wx10 ⟨he, hb⟩
  rw [dec_self] at he
  subst he
  have hm10 : wx9.heap.size ≤ wx10.heap.size := hb.size
  replace g_w := OwnIn.next g_w (by omega) hb
  replace g_g := OwnIn.next g_g (by omega) hb
  replace hbb := Below.next hbb hb
  clear hb
  obtain ⟨F_g_g, hown, hF⟩ := g_g
  go_wp2_with fail
  refine (markIntSS_c (k := 1) (by omega) (fun k hk => by have := (hF k hk).2; omega) hown).mono ?_
  rintro e wx11 ⟨he, hown2, ho⟩
  obtain ⟨mm, hmm⟩ : ∃ q : Nat, 1 + lvs List.length R = q := ⟨_, rfl⟩
  rw [hmm] at he
  subst he
  have hm11 : wx10.heap.size ≤ wx11.heap.size := ho.size
  replace g_w := OwnIn.only g_w ho hF (by omega) (by omega)
  replace hbb := Below.trans hbb (Only.below ho (fun k hk => by have := (hF k hk).1; omega) (by omega))
  have g_g : OwnIn (cSlice (cSlice cInt)) wx4.heap.size wx5.heap.size wx11 (markIs 1 R) _ := ⟨F_g_g, hown2, hF⟩
  clear hown hown2 ho hF
  have hmd : decide (((mm : Nat) : Int) < 0) = false := decide_eq_false (by omega)
  have hmn : (((mm : Nat) : Int) != ((mm : Nat) : Int)) = false := bne_self_eq_false _
  go_wp2_with fail
  refine (heldIntSS_c (k := 1) (by omega) (OwnIn.at g_g (by omega))).mono ?_
  rintro e wx12 ⟨he, hb⟩
  rw [hmm] at he
  subst he
  have hm12 : wx11.heap.size ≤ wx12.heap.size := hb.size
  replace g_w := OwnIn.next g_w (by omega) hb
  replace g_g := OwnIn.next g_g (by omega) hb
  replace hbb := Below.next hbb hb
  clear hb
  go_wp2_with fail
  refine (toIntSS_c hz0 (At.below (c := (cSlice (cSlice cInt))) o0 hbb (Nat.le_refl _))).mono ?_
  rintro e wx13 ⟨⟨ds0_0, ds0_1, rfl, q⟩, hb⟩
  have s0 : OwnIn (cSlice (cSlice cInt)) wx12.heap.size wx13.heap.size wx13 l0 [.slice ds0_0 l0.length ds0_1] := q
  clear q
  have hm13 : wx12.heap.size ≤ wx13.heap.size := hb.size
  replace g_w := OwnIn.next g_w (by omega) hb
  replace g_g := OwnIn.next g_g (by omega) hb
  replace hbb := Below.next hbb hb
  clear hb
  go_wp2_with fail
  refine (implMinimalSets_c hz0 (OwnIn.at s0 (by omega)) (hg0.below hbb)).mono ?_
  rintro e wx14 ⟨⟨ra_g_h, rc_g_h, he, q⟩, hb⟩
  rw [hRR] at he q
  subst he
  have g_h : OwnIn (cSlice (cSlice cInt)) wx13.heap.size wx14.heap.size wx14 R [.slice ra_g_h R.length rc_g_h] := q
  clear q
  have hm14 : wx13.heap.size ≤ wx14.heap.size := hb.size
  replace g_w := OwnIn.next g_w (by omega) hb
  replace g_g := OwnIn.next g_g (by omega) hb
  replace s0 := OwnIn.next s0 (by omega) hb
  replace hbb := Below.next hbb hb
  clear hb
  clear s0
  go_wp2_with fail
  refine (eqIntSS_c (OwnIn.at g_h (by omega)) (OwnIn.at g_w (by omega))).mono ?_
  rintro e wx15 ⟨he, hb⟩
  rw [dec_self] at he
  subst he
  have hm15 : wx14.heap.size ≤ wx15.heap.size := hb.size
  replace g_w := OwnIn.next g_w (by omega) hb
  replace g_g := OwnIn.next g_g (by omega) hb
  replace g_h := OwnIn.next g_h (by omega) hb
  replace hbb := Below.next hbb hb
  clear hb
  go_wp2_with fail
  refine (heldIntSS_c (k := 1) (by omega) (OwnIn.at g_g (by omega))).mono ?_
  rintro e wx16 ⟨he, hb⟩
  rw [hmm] at he
  subst he
  have hm16 : wx15.heap.size ≤ wx16.heap.size := hb.size
  replace g_w := OwnIn.next g_w (by omega) hb
  replace g_g := OwnIn.next g_g (by omega) hb
  replace g_h := OwnIn.next g_h (by omega) hb
  replace hbb := Below.next hbb hb
  clear hb
  go_wp2
  go_ret
  exact ⟨rfl, hbb⟩

/-! ### THE ROW's STEP: WRITTEN OUT: LEAVE IT -/
set_option maxRecDepth 100000 in
theorem lifted (os : Os) (started : os.Started) (H : Type) (enc : TypeId × Value → H) :
    ReturnsInHanded {} Try.checked os 10 .any (Rows.fnExactMinimalSetsSpec.pre6 enc Try.prog Try.f10 Rows.fnExactMinimalSetsRow.domain false) (Rows.fnExactMinimalSetsSpec.post enc Try.prog Try.f10 false true false false) := by
  refine returnsInHanded_of_change (C := Try.checked) own started (by kernel_rfl) Try.func10
    (ChangeSpec.witness6 (enc := enc) (C := Try.checked) false ⟨#[], #[.slice none 0 0], []⟩ 8 (by kernel_rfl) (by kernel_rfl) (by kernel_rfl) (by kernel_rfl)) ?_
  intro W base args ds gs before hval0 hW hcnd _
  have hval : ∀ (j : Nat) t v, Try.f10.params[j]? = some t → args[j]? = some v → Value.okWide Try.prog W .any base t v := hval0
  have hW' := hW
  obtain ⟨p, q, hA0, hV, rfl, hfz, hnd⟩ := hW
  have hA : DataW.TrodAll enc Try.prog W 0 (fun _ => true) true Try.f10.params.toList args.toList ds p := hA0
  rw [Try.params10] at hA hval
  obtain ⟨v0, vs0, d0, ds0, p0, q0, hargs, rfl, rfl, h0, r0⟩ := trodAll_cons hA
  obtain ⟨rfl, rfl, rfl⟩ := trodAll_nil r0
  obtain rfl : args = #[v0] := by cases args; simp_all
  obtain ⟨rfl, rfl⟩ := trodVars_none hV
  have k0 := h0
  have lt0 : ∀ x ∈ p0, x.block < W.heap.size := by obtain ⟨m, hm⟩ := k0; exact DataW.trod_lt m _ _ _ hm
  obtain ⟨a0, cap0, l0, rfl, w0⟩ := row_intSS (hval 0 57 v0 rfl rfl) h0
  clear hA0 hval0
  refine (walk a0 cap0 l0 W w0).mono fun e W' ⟨he, bel⟩ => ?_
  subst he
  exact ⟨_, rfl, _, _, _, [], _, [], hW', trodAll_mk1 (shut_bool Try.underlying4 _), (trodAll_cons_mk (Below.trod laidOut (by kernel_rfl) (of_decide_eq_true (by kernel_rfl)) k0 bel lt0) trodAll_mk0), rfl, bel.frame _, fun h => by cases h⟩

theorem fEnt : Try.prog.mayEnter = true := by kernel_rfl
theorem fLif : (Rows.fnExactMinimalSetsRow.lifted == Try.prog.liftsFinal) = true := by kernel_rfl
theorem fMak : (Try.prog.make == some Rows.fnExactMinimalSetsRow.make) = true := by kernel_rfl
theorem fWf : (Rows.fnExactMinimalSetsRow.wf (OpenSpec.ofChange Rows.fnExactMinimalSetsSpec)) = true := by kernel_rfl
theorem fHeard : Try.prog.stopsHeard = true := by kernel_rfl
theorem fIn : (Rows.fnExactMinimalSetsRow.inPlace == Try.prog.inPlace 10) = true := by kernel_rfl
theorem fUn : (Rows.fnExactMinimalSetsRow.unfollowed == Try.prog.unfollowed 10) = true := by kernel_rfl
theorem fRec : (Rows.fnExactMinimalSetsRow.recurses == Try.prog.recurses 10) = true := by kernel_rfl
theorem fNam : (Rows.fnExactMinimalSetsRow.named == Try.prog.varsNamed 10) = true := by kernel_rfl
theorem closed : joinedFacts Try.prog 10 Try.f10 Rows.fnExactMinimalSetsSpec Rows.fnExactMinimalSetsRow = true := by
  unfold joinedFacts
  rw [fEnt, fLif, fMak, fWf, fHeard, fIn, fUn, fRec, fNam]
  kernel_rfl

theorem over : Rows.fnExactMinimalSetsRow.holds Try.pinned (OpenSpec.ofChange Rows.fnExactMinimalSetsSpec) :=
  OpenClaim.holds_of_wide 10 Try.f10 rfl rfl rfl rfl rfl rfl rfl ⟨rfl, rfl, rfl, rfl, rfl⟩ rfl rfl rfl rfl rfl (by kernel_rfl) Try.func10 closed
    (of_decide_eq_true (by kernel_rfl)) (by unfold Func.isWrapper; first | (rw [if_pos (by decide +kernel)]; kernel_rfl) | (rw [if_neg (by decide +kernel)]; exact ⟨rfl, rfl⟩))
    (fun os started H enc _ => lifted os started H enc)

/-- ████ THE STATEMENT ████ -/
theorem proved : Rows.FnExactMinimalSetsSaid := over
#print axioms proved
end Go.Proofs.Ytgoofnhhhlncoaa.fnExactMinimalSets

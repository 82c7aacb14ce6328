/- FnExactFormatEdit: FormatEdit: for all arguments the program's answer is the model's and the arguments read as before; arguments of more than 1 MiB are let by in the statement itself. -/
import Derived.Test.YtlcogbmceanghaaDoorRows
import Derived.Test.YtlcogbmceanghaaDoorCards
import Derived.Test.YtlcogbmceanghaaDoorTie
import Derived.WalkKit
import Derived.Test.YtlcogbmceanghaaDoorRowEdt
import Derived.Test.YtlcogbmceanghaaDoorTyTwo
import Derived.Test.YtlcogbmceanghaaDoorCFormatEdit
import Derived.Deep.Cut
import Derived.LaidMore
import Derived.Stop.Joined
import Derived.SevenTiedAt
import Derived.ProofKit
import Derived.OpenShut
import Derived.ShutString
import Derived.ChangeOld
import Derived.Below
namespace Go.Proofs.YtlcogbmceanghaaDoor.fnExactFormatEdit
open Go.ChangeShapes Go.WideShapes Go.ChangeAt Go.RowKit
open Go.ChangeMaps (open_string shut_string)
set_option maxRecDepth 100000
set_option linter.unusedVariables false

theorem own : ownKnob Tryd.prog.godebug = none := by kernel_rfl
theorem laidOut : laidOutB Tryd.prog = true := by kernel_rfl

/-- WHAT THE WALK IS TOLD OF A SLICE OF INTEGERS THAT CAME IN: it is nil; or it leads to a row of 'cap' cells, the numbers 'zs' (the first 'len' are its elements, the rest its spare room), each fitting its kind. -/
def IsRow (k : IntKind) (w : World) (a : Option Addr) (len cap : Nat) (zs : List Int) : Prop :=
  (a = none ∧ len = 0 ∧ cap = 0 ∧ zs = []) ∨
  ∃ x, a = some x ∧ len ≤ cap ∧ cap ≤ maxLen ∧ zs.length = cap ∧ (∀ i, i < zs.length → w.cell? (x.add i) = some (.int k (zs.getD i 0))) ∧ ∀ n ∈ zs, (Lit.int k n).wf = true

/-! ### STEP 1: THE WALK: the Go text returns true, AND WRITES NOTHING THAT WAS THERE: 'Below w.heap.size w w'' (Derived/Below.lean: '.refl', '.alloc', '.drew', '.setCell' at a new block, '.trans'). Open each 'IsRow' by 'rcases' AHEAD of 'go_enter'; part every test ahead of the walk. -/
set_option maxHeartbeats 8000000 in
theorem walk (x0 : Dbs) (a0_0 : Option Addr) (cap0_0 : Nat) (a1_0 : Option Addr) (cap1_0 : Nat) (x1 : Edt) (a2_1 : Option Addr) (cap2_1 : Nat) (w : World) (w0 : At cDbs w x0 [.slice a0_0 x0.rels.length cap0_0, .slice a1_0 x0.facts.length cap1_0]) (w1 : At cEdt w x1 [.int .i64 x1.kind, .int .i64 x1.fact.rel, .slice a2_1 x1.fact.vals.length cap2_1]) (hL : laidMetH Tryd.prog Rows.fnExactFormatEditRow.laid w) :
    Calls Tryd.prog 5 #[.agg #[.slice a0_0 x0.rels.length cap0_0, .slice a1_0 x0.facts.length cap1_0], .agg #[.int .i64 x1.kind, .int .i64 x1.fact.rel, .slice a2_1 x1.fact.vals.length cap2_1]] w fun e w' => e = .returned (.bool true) ∧ Below w.heap.size w w' := by
  have hg0 : Ab.Glob w := by rw [MakeChecks.laidMetH_plain _ _ _ (by kernel_rfl)] at hL; exact Ab.glob_of_laid hL
  have o0 := w0
  clear w0
  have o1 := w1
  clear w1
  have hle0 := szR_le (1048576) (sizeDatabase x0) (by omega)
  by_cases hn0 : szR (1048576) (sizeDatabase x0) < 0
  · have hk := hn0
    go_enter Tryd.func5, Tryd.ntmps5
    go_wp2_with fail
    obtain ⟨wx, hwx⟩ : ∃ wx, wx = ((w.alloc (Obj.cells #[.slice a0_0 x0.rels.length cap0_0, .slice a1_0 x0.facts.length cap1_0] 48)).alloc (Obj.cells #[.int .i64 x1.kind, .int .i64 x1.fact.rel, .slice a2_1 x1.fact.vals.length cap2_1] 52)) := ⟨_, rfl⟩
    rw [← hwx]
    have hbb : Below w.heap.size w wx := by rw [hwx]; go_grown
    have p0_0 : wx.cell? ⟨w.heap.size, 0, none⟩ = some (.slice a0_0 x0.rels.length cap0_0) := by rw [hwx]; go_simp
    have p0_1 : wx.cell? ⟨w.heap.size, 1, none⟩ = some (.slice a1_0 x0.facts.length cap1_0) := by rw [hwx]; go_simp
    have p1_0 : wx.cell? ⟨w.heap.size + 1, 0, none⟩ = some (.int .i64 x1.kind) := by rw [hwx]; go_simp
    have p1_1 : wx.cell? ⟨w.heap.size + 1, 1, none⟩ = some (.int .i64 x1.fact.rel) := by rw [hwx]; go_simp
    have p1_2 : wx.cell? ⟨w.heap.size + 1, 2, none⟩ = some (.slice a2_1 x1.fact.vals.length cap2_1) := by rw [hwx]; go_simp
    replace o0 := At.below o0 hbb (Nat.le_refl _)
    replace o1 := At.below o1 hbb (Nat.le_refl _)
    clear hwx
    refine (szDatabase_c (by omega) (by omega) (At.here o0)).mono ?_
    rintro e wx ⟨rfl, hb⟩
    replace o0 := At.next o0 hb
    replace o1 := At.next o1 hb
    replace p0_0 := cell_next p0_0 hb
    replace p0_1 := cell_next p0_1 hb
    replace p1_0 := cell_next p1_0 hb
    replace p1_1 := cell_next p1_1 hb
    replace p1_2 := cell_next p1_2 hb
    replace hbb := Below.next hbb hb
    clear hb
    go_wp2
    go_ret
    exact ⟨rfl, hbb⟩
  have hz0 : sizeDatabase x0 ≤ 1048576 := szR_ge hn0 (by omega)
  have hle1 := szR_le (szR (1048576) (sizeDatabase x0)) (sizeEdit x1) (by omega)
  by_cases hn1 : szR (szR (1048576) (sizeDatabase x0)) (sizeEdit x1) < 0
  · have hk := hn1
    go_enter Tryd.func5, Tryd.ntmps5
    go_wp2_with fail
    obtain ⟨wx, hwx⟩ : ∃ wx, wx = ((w.alloc (Obj.cells #[.slice a0_0 x0.rels.length cap0_0, .slice a1_0 x0.facts.length cap1_0] 48)).alloc (Obj.cells #[.int .i64 x1.kind, .int .i64 x1.fact.rel, .slice a2_1 x1.fact.vals.length cap2_1] 52)) := ⟨_, rfl⟩
    rw [← hwx]
    have hbb : Below w.heap.size w wx := by rw [hwx]; go_grown
    have p0_0 : wx.cell? ⟨w.heap.size, 0, none⟩ = some (.slice a0_0 x0.rels.length cap0_0) := by rw [hwx]; go_simp
    have p0_1 : wx.cell? ⟨w.heap.size, 1, none⟩ = some (.slice a1_0 x0.facts.length cap1_0) := by rw [hwx]; go_simp
    have p1_0 : wx.cell? ⟨w.heap.size + 1, 0, none⟩ = some (.int .i64 x1.kind) := by rw [hwx]; go_simp
    have p1_1 : wx.cell? ⟨w.heap.size + 1, 1, none⟩ = some (.int .i64 x1.fact.rel) := by rw [hwx]; go_simp
    have p1_2 : wx.cell? ⟨w.heap.size + 1, 2, none⟩ = some (.slice a2_1 x1.fact.vals.length cap2_1) := by rw [hwx]; go_simp
    replace o0 := At.below o0 hbb (Nat.le_refl _)
    replace o1 := At.below o1 hbb (Nat.le_refl _)
    clear hwx
    refine (szDatabase_c (by omega) (by omega) (At.here o0)).mono ?_
    rintro e wx ⟨rfl, hb⟩
    replace o0 := At.next o0 hb
    replace o1 := At.next o1 hb
    replace p0_0 := cell_next p0_0 hb
    replace p0_1 := cell_next p0_1 hb
    replace p1_0 := cell_next p1_0 hb
    replace p1_1 := cell_next p1_1 hb
    replace p1_2 := cell_next p1_2 hb
    replace hbb := Below.next hbb hb
    clear hb
    go_wp2_with fail
    refine (szEdit_c (by omega) (by omega) (At.here o1)).mono ?_
    rintro e wx ⟨rfl, hb⟩
    replace o0 := At.next o0 hb
    replace o1 := At.next o1 hb
    replace p0_0 := cell_next p0_0 hb
    replace p0_1 := cell_next p0_1 hb
    replace p1_0 := cell_next p1_0 hb
    replace p1_1 := cell_next p1_1 hb
    replace p1_2 := cell_next p1_2 hb
    replace hbb := Below.next hbb hb
    clear hb
    go_wp2
    go_ret
    exact ⟨rfl, hbb⟩
  have hz1 : sizeEdit x1 ≤ 1048576 := szR_ge hn1 (by omega)
  go_enter Tryd.func5, Tryd.ntmps5
  go_wp2_with fail
  obtain ⟨wx, hwx⟩ : ∃ wx, wx = ((w.alloc (Obj.cells #[.slice a0_0 x0.rels.length cap0_0, .slice a1_0 x0.facts.length cap1_0] 48)).alloc (Obj.cells #[.int .i64 x1.kind, .int .i64 x1.fact.rel, .slice a2_1 x1.fact.vals.length cap2_1] 52)) := ⟨_, rfl⟩
  rw [← hwx]
  have hbb : Below w.heap.size w wx := by rw [hwx]; go_grown
  have p0_0 : wx.cell? ⟨w.heap.size, 0, none⟩ = some (.slice a0_0 x0.rels.length cap0_0) := by rw [hwx]; go_simp
  have p0_1 : wx.cell? ⟨w.heap.size, 1, none⟩ = some (.slice a1_0 x0.facts.length cap1_0) := by rw [hwx]; go_simp
  have p1_0 : wx.cell? ⟨w.heap.size + 1, 0, none⟩ = some (.int .i64 x1.kind) := by rw [hwx]; go_simp
  have p1_1 : wx.cell? ⟨w.heap.size + 1, 1, none⟩ = some (.int .i64 x1.fact.rel) := by rw [hwx]; go_simp
  have p1_2 : wx.cell? ⟨w.heap.size + 1, 2, none⟩ = some (.slice a2_1 x1.fact.vals.length cap2_1) := by rw [hwx]; go_simp
  replace o0 := At.below o0 hbb (Nat.le_refl _)
  replace o1 := At.below o1 hbb (Nat.le_refl _)
  clear hwx
  refine (szDatabase_c (by omega) (by omega) (At.here o0)).mono ?_
  rintro e wx ⟨rfl, hb⟩
  replace o0 := At.next o0 hb
  replace o1 := At.next o1 hb
  replace p0_0 := cell_next p0_0 hb
  replace p0_1 := cell_next p0_1 hb
  replace p1_0 := cell_next p1_0 hb
  replace p1_1 := cell_next p1_1 hb
  replace p1_2 := cell_next p1_2 hb
  replace hbb := Below.next hbb hb
  clear hb
  go_wp2_with fail
  refine (szEdit_c (by omega) (by omega) (At.here o1)).mono ?_
  rintro e wx ⟨rfl, hb⟩
  replace o0 := At.next o0 hb
  replace o1 := At.next o1 hb
  replace p0_0 := cell_next p0_0 hb
  replace p0_1 := cell_next p0_1 hb
  replace p1_0 := cell_next p1_0 hb
  replace p1_1 := cell_next p1_1 hb
  replace p1_2 := cell_next p1_2 hb
  replace hbb := Below.next hbb hb
  clear hb
  go_upto_region 8 with fail
  have hbm := Below.refl wx.heap.size wx
  go_cut [6] from 10 (fun v0 wr => (v0 = .string (Ab.edB x0 x1)) ∧ Below wx.heap.size wx wr)
  case first =>
    go_region_with (first
      | (go_at_call 25; refine (toDatabase_c hz0 (At.here o0)).mono ?_; rintro e wx ⟨⟨_, _, _, _, rfl, q⟩, hb⟩; have s0 := q.at; clear q; replace o0 := At.next o0 hb; replace o1 := At.next o1 hb; replace p0_0 := cell_next p0_0 hb; replace p0_1 := cell_next p0_1 hb; replace p1_0 := cell_next p1_0 hb; replace p1_1 := cell_next p1_1 hb; replace p1_2 := cell_next p1_2 hb; (try replace s1 := At.next s1 hb); replace hbm := Below.next hbm hb; replace hbb := Below.next hbb hb; clear hb)
      | (go_at_call 26; refine (toEdit_c hz1 (At.here o1)).mono ?_; rintro e wx ⟨⟨_, _, rfl, q⟩, hb⟩; have s1 := q.at; clear q; replace o0 := At.next o0 hb; replace o1 := At.next o1 hb; replace p0_0 := cell_next p0_0 hb; replace p0_1 := cell_next p0_1 hb; replace p1_0 := cell_next p1_0 hb; replace p1_1 := cell_next p1_1 hb; replace p1_2 := cell_next p1_2 hb; (try replace s0 := At.next s0 hb); replace hbm := Below.next hbm hb; replace hbb := Below.next hbb hb; clear hb)
      | (go_at_call 24; refine (specFormatEdit_c hz0 hz1 (At.here s0) (At.here s1) (hg0.below hbb)).mono ?_; rintro e wx ⟨rfl, hb⟩; replace o0 := At.next o0 hb; replace o1 := At.next o1 hb; replace s0 := At.next s0 hb; replace s1 := At.next s1 hb; replace p0_0 := cell_next p0_0 hb; replace p0_1 := cell_next p0_1 hb; replace p1_0 := cell_next p1_0 hb; replace p1_1 := cell_next p1_1 hb; replace p1_2 := cell_next p1_2 hb; replace hbm := Below.next hbm hb; replace hbb := Below.next hbb hb; clear hb))
    all_goals (go_wp2_with fail; go_meet; exact ⟨rfl, hbm⟩)
  case rest =>
  obtain ⟨rfl, hb⟩ := hcut
  clear hbm
  replace o0 := At.next o0 hb
  replace o1 := At.next o1 hb
  replace p0_0 := cell_next p0_0 hb
  replace p0_1 := cell_next p0_1 hb
  replace p1_0 := cell_next p1_0 hb
  replace p1_1 := cell_next p1_1 hb
  replace p1_2 := cell_next p1_2 hb
  replace hbb := Below.next hbb hb
  clear hb
  obtain ⟨wx, hwx⟩ : ∃ wx, wx = wc := ⟨_, rfl⟩
  subst hwx
  go_wp2_with fail
  refine (toDatabase_c hz0 (At.here o0)).mono ?_
  rintro e wx ⟨⟨d0_0, e0_0, d0_1, e0_1, rfl, q⟩, hb⟩
  have c0 := q.at
  clear q
  replace o0 := At.next o0 hb
  replace o1 := At.next o1 hb
  replace p0_0 := cell_next p0_0 hb
  replace p0_1 := cell_next p0_1 hb
  replace p1_0 := cell_next p1_0 hb
  replace p1_1 := cell_next p1_1 hb
  replace p1_2 := cell_next p1_2 hb
  replace hbb := Below.next hbb hb
  clear hb
  go_upto_region 10 with fail
  obtain ⟨wx, hb, q0_0, q0_1, hwx⟩ : ∃ wy, Below wx.heap.size wx wy ∧ wy.cell? ⟨wx.heap.size, 0, none⟩ = some (.slice d0_0 x0.rels.length e0_0) ∧ wy.cell? ⟨wx.heap.size, 1, none⟩ = some (.slice d0_1 x0.facts.length e0_1) ∧ wx.alloc (Obj.cells #[.slice d0_0 x0.rels.length e0_0, .slice d0_1 x0.facts.length e0_1] 58) = wy := ⟨_, by go_grown, by go_simp, by go_simp, rfl⟩
  rw [hwx]
  clear hwx
  replace c0 := At.next c0 hb
  replace o0 := At.next o0 hb
  replace o1 := At.next o1 hb
  replace p0_0 := cell_next p0_0 hb
  replace p0_1 := cell_next p0_1 hb
  replace p1_0 := cell_next p1_0 hb
  replace p1_1 := cell_next p1_1 hb
  replace p1_2 := cell_next p1_2 hb
  replace hbb := Below.next hbb hb
  clear hb
  go_wp2_with fail
  refine (toEdit_c hz1 (At.here o1)).mono ?_
  rintro e wx ⟨⟨d1_2, e1_2, rfl, q⟩, hb⟩
  have c1 := q.at
  clear q
  replace c0 := At.next c0 hb
  replace o0 := At.next o0 hb
  replace o1 := At.next o1 hb
  replace p0_0 := cell_next p0_0 hb
  replace p0_1 := cell_next p0_1 hb
  replace p1_0 := cell_next p1_0 hb
  replace p1_1 := cell_next p1_1 hb
  replace p1_2 := cell_next p1_2 hb
  replace q0_0 := cell_next q0_0 hb
  replace q0_1 := cell_next q0_1 hb
  replace hbb := Below.next hbb hb
  clear hb
  go_upto_region 11 with fail
  obtain ⟨wx, hb, q1_0, q1_1, q1_2, hwx⟩ : ∃ wy, Below wx.heap.size wx wy ∧ wy.cell? ⟨wx.heap.size, 0, none⟩ = some (.int .i64 x1.kind) ∧ wy.cell? ⟨wx.heap.size, 1, none⟩ = some (.int .i64 x1.fact.rel) ∧ wy.cell? ⟨wx.heap.size, 2, none⟩ = some (.slice d1_2 x1.fact.vals.length e1_2) ∧ wx.alloc (Obj.cells #[.int .i64 x1.kind, .int .i64 x1.fact.rel, .slice d1_2 x1.fact.vals.length e1_2] 62) = wy := ⟨_, by go_grown, by go_simp, by go_simp, by go_simp, rfl⟩
  rw [hwx]
  clear hwx
  replace c0 := At.next c0 hb
  replace c1 := At.next c1 hb
  replace o0 := At.next o0 hb
  replace o1 := At.next o1 hb
  replace p0_0 := cell_next p0_0 hb
  replace p0_1 := cell_next p0_1 hb
  replace p1_0 := cell_next p1_0 hb
  replace p1_1 := cell_next p1_1 hb
  replace p1_2 := cell_next p1_2 hb
  replace q0_0 := cell_next q0_0 hb
  replace q0_1 := cell_next q0_1 hb
  replace hbb := Below.next hbb hb
  clear hb
  go_wp2_with fail
  refine (implFormatEdit_c hz0 hz1 (At.here c0) (At.here c1) (hg0.below hbb)).mono ?_
  rintro e wx ⟨rfl, hb⟩
  replace c0 := At.next c0 hb
  replace c1 := At.next c1 hb
  replace o0 := At.next o0 hb
  replace o1 := At.next o1 hb
  replace p0_0 := cell_next p0_0 hb
  replace p0_1 := cell_next p0_1 hb
  replace p1_0 := cell_next p1_0 hb
  replace p1_1 := cell_next p1_1 hb
  replace p1_2 := cell_next p1_2 hb
  replace q0_0 := cell_next q0_0 hb
  replace q0_1 := cell_next q0_1 hb
  replace q1_0 := cell_next q1_0 hb
  replace q1_1 := cell_next q1_1 hb
  replace q1_2 := cell_next q1_2 hb
  replace hbb := Below.next hbb hb
  clear hb
  go_upto_region 14 with fail
  have hbm := Below.refl wx.heap.size wx
  go_cut [39] from 10 (fun v0 wr => (v0 = .bool false) ∧ Below wx.heap.size wx wr)
  case first =>
    go_region_with (first
      | (go_at_call 25; refine (toDatabase_c hz0 (At.here o0)).mono ?_; rintro e wx ⟨⟨_, _, _, _, rfl, q⟩, hb⟩; have t0 := q.at; clear q; replace c0 := At.next c0 hb; replace c1 := At.next c1 hb; replace o0 := At.next o0 hb; replace o1 := At.next o1 hb; replace p0_0 := cell_next p0_0 hb; replace p0_1 := cell_next p0_1 hb; replace p1_0 := cell_next p1_0 hb; replace p1_1 := cell_next p1_1 hb; replace p1_2 := cell_next p1_2 hb; replace q0_0 := cell_next q0_0 hb; replace q0_1 := cell_next q0_1 hb; replace q1_0 := cell_next q1_0 hb; replace q1_1 := cell_next q1_1 hb; replace q1_2 := cell_next q1_2 hb; replace hbm := Below.next hbm hb; replace hbb := Below.next hbb hb; clear hb)
      | (go_at_call 28; refine (eqDatabase_c (At.here c0) (At.here t0)).mono ?_; rintro e wx ⟨he, hb⟩; rw [dec_self] at he; subst he; replace c0 := At.next c0 hb; replace c1 := At.next c1 hb; replace o0 := At.next o0 hb; replace o1 := At.next o1 hb; replace t0 := At.next t0 hb; replace p0_0 := cell_next p0_0 hb; replace p0_1 := cell_next p0_1 hb; replace p1_0 := cell_next p1_0 hb; replace p1_1 := cell_next p1_1 hb; replace p1_2 := cell_next p1_2 hb; replace q0_0 := cell_next q0_0 hb; replace q0_1 := cell_next q0_1 hb; replace q1_0 := cell_next q1_0 hb; replace q1_1 := cell_next q1_1 hb; replace q1_2 := cell_next q1_2 hb; replace hbm := Below.next hbm hb; replace hbb := Below.next hbb hb; clear hb))
    all_goals (go_wp2_with fail; go_meet; exact ⟨rfl, hbm⟩)
  case rest =>
  obtain ⟨rfl, hb⟩ := hcut
  clear hbm
  replace c0 := At.next c0 hb
  replace c1 := At.next c1 hb
  replace o0 := At.next o0 hb
  replace o1 := At.next o1 hb
  replace p0_0 := cell_next p0_0 hb
  replace p0_1 := cell_next p0_1 hb
  replace p1_0 := cell_next p1_0 hb
  replace p1_1 := cell_next p1_1 hb
  replace p1_2 := cell_next p1_2 hb
  replace q0_0 := cell_next q0_0 hb
  replace q0_1 := cell_next q0_1 hb
  replace q1_0 := cell_next q1_0 hb
  replace q1_1 := cell_next q1_1 hb
  replace q1_2 := cell_next q1_2 hb
  replace hbb := Below.next hbb hb
  clear hb
  obtain ⟨wx, hwx⟩ : ∃ wx, wx = wc := ⟨_, rfl⟩
  subst hwx
  go_upto_region 16 with fail
  have hbm := Below.refl wx.heap.size wx
  go_cut [44] from 10 (fun v0 wr => (v0 = .bool false) ∧ Below wx.heap.size wx wr)
  case first =>
    go_region_with (first
      | (go_at_call 26; refine (toEdit_c hz1 (At.here o1)).mono ?_; rintro e wx ⟨⟨_, _, rfl, q⟩, hb⟩; have t1 := q.at; clear q; replace c0 := At.next c0 hb; replace c1 := At.next c1 hb; replace o0 := At.next o0 hb; replace o1 := At.next o1 hb; replace p0_0 := cell_next p0_0 hb; replace p0_1 := cell_next p0_1 hb; replace p1_0 := cell_next p1_0 hb; replace p1_1 := cell_next p1_1 hb; replace p1_2 := cell_next p1_2 hb; replace q0_0 := cell_next q0_0 hb; replace q0_1 := cell_next q0_1 hb; replace q1_0 := cell_next q1_0 hb; replace q1_1 := cell_next q1_1 hb; replace q1_2 := cell_next q1_2 hb; replace hbm := Below.next hbm hb; replace hbb := Below.next hbb hb; clear hb)
      | (go_at_call 29; refine (eqEdit_c (At.here c1) (At.here t1)).mono ?_; rintro e wx ⟨he, hb⟩; rw [dec_self] at he; subst he; replace c0 := At.next c0 hb; replace c1 := At.next c1 hb; replace o0 := At.next o0 hb; replace o1 := At.next o1 hb; replace t1 := At.next t1 hb; replace p0_0 := cell_next p0_0 hb; replace p0_1 := cell_next p0_1 hb; replace p1_0 := cell_next p1_0 hb; replace p1_1 := cell_next p1_1 hb; replace p1_2 := cell_next p1_2 hb; replace q0_0 := cell_next q0_0 hb; replace q0_1 := cell_next q0_1 hb; replace q1_0 := cell_next q1_0 hb; replace q1_1 := cell_next q1_1 hb; replace q1_2 := cell_next q1_2 hb; replace hbm := Below.next hbm hb; replace hbb := Below.next hbb hb; clear hb))
    all_goals (go_wp2_with fail; go_meet; exact ⟨rfl, hbm⟩)
  case rest =>
  obtain ⟨rfl, hb⟩ := hcut
  clear hbm
  replace c0 := At.next c0 hb
  replace c1 := At.next c1 hb
  replace o0 := At.next o0 hb
  replace o1 := At.next o1 hb
  replace p0_0 := cell_next p0_0 hb
  replace p0_1 := cell_next p0_1 hb
  replace p1_0 := cell_next p1_0 hb
  replace p1_1 := cell_next p1_1 hb
  replace p1_2 := cell_next p1_2 hb
  replace q0_0 := cell_next q0_0 hb
  replace q0_1 := cell_next q0_1 hb
  replace q1_0 := cell_next q1_0 hb
  replace q1_1 := cell_next q1_1 hb
  replace q1_2 := cell_next q1_2 hb
  replace hbb := Below.next hbb hb
  clear hb
  obtain ⟨wx, hwx⟩ : ∃ wx, wx = wc := ⟨_, rfl⟩
  subst hwx
  go_wp2
  go_ret
  exact ⟨rfl, hbb⟩

/-! ### THE ROW's STEP: WRITTEN OUT: LEAVE IT -/
theorem door_met (os : Os) (args : Array Value) : laidMetH Tryd.prog Rows.fnExactFormatEditRow.laid ((World.doorLaid Tryd.prog 400 os).forCall (fun _ _ => 0) ⟨#[], args, []⟩).memory := by
  rw [MakeChecks.laidMetH_plain _ _ _ (by kernel_rfl)]
  exact laidMet_of_run' 8 (by kernel_rfl) (by kernel_rfl)

set_option maxRecDepth 100000 in
theorem lifted (os : Os) (started : os.Started) (H : Type) (enc : TypeId × Value → H) :
    ReturnsInHanded {} Tryd.checked os 5 .any (fun w args => (Rows.fnExactFormatEditSpec.pre enc Tryd.prog Tryd.f5 Rows.fnExactFormatEditRow.domain false w args ∧ laidMetH Tryd.prog Rows.fnExactFormatEditRow.laid w) ∧ sizedMet enc Tryd.prog Tryd.f5 (OpenSpec.ofChange Rows.fnExactFormatEditSpec) false w args) (Rows.fnExactFormatEditSpec.post enc Tryd.prog Tryd.f5 false true false false) := by
  refine returnsInHanded_of_change_and (C := Tryd.checked) (X := fun w _ => laidMetH Tryd.prog Rows.fnExactFormatEditRow.laid w) (fun _ _ _ hh h => h.of_heap hh) own started (by kernel_rfl) Tryd.func5
    (ChangeSpec.witness_shaped (enc := enc) (C := Tryd.checked) (os := os) (X := fun w _ => laidMetH Tryd.prog Rows.fnExactFormatEditRow.laid w) false (World.doorLaid Tryd.prog 400 os) #[.agg #[.slice none 0 0, .slice none 0 0], .agg #[.int .i64 0, .int .i64 0, .slice none 0 0]] 8 rfl (World.shaped_of_RefB (by kernel_rfl) (by kernel_rfl)) (by kernel_rfl) (by kernel_rfl) (by kernel_rfl) (door_met os _)) ?_
  intro W base args ds gs before hval0 hW hcnd _ hL _
  have hval : ∀ (j : Nat) t v, Tryd.f5.params[j]? = some t → args[j]? = some v → Value.okWide Tryd.prog W .any base t v := hval0
  have hW' := hW
  obtain ⟨p, q, hA0, hV, rfl, hfz, hnd⟩ := hW
  have hA : DataW.TrodAll enc Tryd.prog W 0 (fun _ => true) true Tryd.f5.params.toList args.toList ds p := hA0
  rw [Tryd.params5] at hA hval
  obtain ⟨v0, vs0, d0, ds0, p0, q0, hargs, rfl, rfl, h0, r0⟩ := trodAll_cons hA
  obtain ⟨v1, vs1, d1, ds1, p1, q1, rfl, rfl, rfl, h1, r1⟩ := trodAll_cons r0
  obtain ⟨rfl, rfl, rfl⟩ := trodAll_nil r1
  obtain rfl : args = #[v0, v1] := by cases args; simp_all
  obtain ⟨rfl, rfl⟩ := trodVars_none hV
  have k0 := h0
  have lt0 : ∀ x ∈ p0, x.block < W.heap.size := by obtain ⟨m, hm⟩ := k0; exact DataW.trod_lt m _ _ _ hm
  obtain ⟨x0, a0_0, cap0_0, a1_0, cap1_0, rfl, w0⟩ := row_Database (hval 0 48 v0 rfl rfl) h0
  have k1 := h1
  have lt1 : ∀ x ∈ p1, x.block < W.heap.size := by obtain ⟨m, hm⟩ := k1; exact DataW.trod_lt m _ _ _ hm
  obtain ⟨x1, a2_1, cap2_1, rfl, w1⟩ := row_Edit (hval 1 52 v1 rfl rfl) h1
  clear hA0 hval0
  refine (walk x0 a0_0 cap0_0 a1_0 cap1_0 x1 a2_1 cap2_1 W w0 w1 hL).mono fun e W' ⟨he, bel⟩ => ?_
  subst he
  exact ⟨_, rfl, _, _, _, [], _, [], hW', trodAll_mk1 (shut_bool Tryd.underlying4 _), (trodAll_cons_mk (Below.trod laidOut (by kernel_rfl) (of_decide_eq_true (by kernel_rfl)) k0 bel lt0) (trodAll_cons_mk (Below.trod laidOut (by kernel_rfl) (of_decide_eq_true (by kernel_rfl)) k1 bel lt1) trodAll_mk0)), rfl, bel.frame _, fun h => by cases h⟩

theorem over : Rows.fnExactFormatEditRow.holds Tryd.pinned (OpenSpec.ofChange Rows.fnExactFormatEditSpec) :=
  OpenClaim.holds_of_wide 5 Tryd.f5 rfl rfl rfl rfl rfl rfl rfl ⟨rfl, rfl, rfl, rfl, rfl⟩ rfl rfl rfl rfl rfl (by kernel_rfl) Tryd.func5 (by kernel_rfl)
    (of_decide_eq_true (by kernel_rfl)) (by unfold Func.isWrapper; first | (rw [if_pos (by decide +kernel)]; kernel_rfl) | (rw [if_neg (by decide +kernel)]; exact ⟨rfl, rfl⟩))
    (fun os started H enc _ => lifted os started H enc)

/-- ████ THE STATEMENT ████ -/
theorem row_holds : Rows.FnExactFormatEditSaid := over
/-- The statement: the tied card. -/
theorem card : Rows.FnExactFormatEditCardSaid :=
  Claim7.holds_tied_plain_at .later [] [.data, .data, .data] true (true, "1a4dc14f6d33ca93f2f27bbe08d71c1f4eb47041aeca6d2df25e47a38c9f1667") false
    row_holds (fun _ h => by cases h) (by kernel_rfl) (fun _ h => by cases h) fnExactFormatEdit_row_tie rfl ⟨rfl, rfl⟩ (by kernel_rfl) rfl
    (fun f fn hf hfn => by
      obtain rfl : f = 5 := Option.some.inj ((show Tryd.prog.funcNamed "loop.example/g01918/laws.FnExactFormatEdit" = some 5 by kernel_rfl).symm.trans hf) |>.symm
      obtain rfl : fn = Tryd.f5 := (Option.some.inj (Tryd.func5.symm.trans hfn)).symm
      exact ⟨by kernel_rfl, fun j t ht => by
        rw [Tryd.params5] at ht
        have hm : t ∈ [48, 52] := by simpa using Array.mem_of_getElem? ht
        have hall : ([48, 52].all fun u => !Tryd.prog.wantsStandIn u) = true := by kernel_rfl
        exact (show Tryd.prog.wantsStandIn t = false by simpa using List.all_eq_true.1 hall t hm)⟩)
    (by kernel_rfl)
#print axioms card
end Go.Proofs.YtlcogbmceanghaaDoor.fnExactFormatEdit

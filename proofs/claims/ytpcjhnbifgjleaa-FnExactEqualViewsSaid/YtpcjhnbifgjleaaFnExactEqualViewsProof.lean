/- FnExactEqualViews: EqualViews: for all arguments the program's answer is the model's and the arguments read as before; arguments of more than 1 MiB are let by in the statement itself. -/
import Derived.Test.YtpcjhnbifgjleaaRows
import Derived.WalkKit
import Derived.Test.YtpcjhnbifgjleaaRowVew
import Derived.Test.YtpcjhnbifgjleaaTyTre
import Derived.Test.YtpcjhnbifgjleaaCEqualViews
import Derived.Deep.Cut
import Derived.ProofKit
import Derived.OpenShut
import Derived.ShutString
import Derived.ChangeOld
import Derived.Below
namespace Go.Proofs.Ytpcjhnbifgjleaa.fnExactEqualViews
open Go.ChangeShapes Go.WideShapes Go.ChangeAt Go.RowKit
open Go.ChangeMaps (open_string shut_string)
set_option maxRecDepth 100000
set_option linter.unusedVariables false

theorem own : ownKnob Try.prog.godebug = none := by kernel_rfl
theorem laidOut : laidOutB Try.prog = true := by kernel_rfl

/-- WHAT THE WALK IS TOLD OF A SLICE OF INTEGERS THAT CAME IN: it is nil; or it leads to a row of 'cap' cells, the numbers 'zs' (the first 'len' are its elements, the rest its spare room), each fitting its kind. -/
def IsRow (k : IntKind) (w : World) (a : Option Addr) (len cap : Nat) (zs : List Int) : Prop :=
  (a = none ∧ len = 0 ∧ cap = 0 ∧ zs = []) ∨
  ∃ x, a = some x ∧ len ≤ cap ∧ cap ≤ maxLen ∧ zs.length = cap ∧ (∀ i, i < zs.length → w.cell? (x.add i) = some (.int k (zs.getD i 0))) ∧ ∀ n ∈ zs, (Lit.int k n).wf = true

/-! ### STEP 1: THE WALK: the Go text returns true, AND WRITES NOTHING THAT WAS THERE: 'Below w.heap.size w w'' (Derived/Below.lean: '.refl', '.alloc', '.drew', '.setCell' at a new block, '.trans'). Open each 'IsRow' by 'rcases' AHEAD of 'go_enter'; part every test ahead of the walk. -/
set_option maxHeartbeats 8000000 in
theorem walk (x0 : Vew) (a0_0 : Option Addr) (cap0_0 : Nat) (a1_0 : Option Addr) (cap1_0 : Nat) (a3_0 : Option Addr) (cap3_0 : Nat) (a4_0 : Option Addr) (cap4_0 : Nat) (a5_0 : Option Addr) (cap5_0 : Nat) (a6_0 : Option Addr) (cap6_0 : Nat) (x1 : Vew) (a0_1 : Option Addr) (cap0_1 : Nat) (a1_1 : Option Addr) (cap1_1 : Nat) (a3_1 : Option Addr) (cap3_1 : Nat) (a4_1 : Option Addr) (cap4_1 : Nat) (a5_1 : Option Addr) (cap5_1 : Nat) (a6_1 : Option Addr) (cap6_1 : Nat) (w : World) (w0 : At cVew w x0 [.slice a0_0 x0.db.rels.length cap0_0, .slice a1_0 x0.db.facts.length cap1_0, .int .i64 x0.qry.vars, .slice a3_0 x0.qry.atoms.length cap3_0, .slice a4_0 x0.qry.free.length cap4_0, .slice a5_0 x0.sure.length cap5_0, .slice a6_0 x0.open_.length cap6_0]) (w1 : At cVew w x1 [.slice a0_1 x1.db.rels.length cap0_1, .slice a1_1 x1.db.facts.length cap1_1, .int .i64 x1.qry.vars, .slice a3_1 x1.qry.atoms.length cap3_1, .slice a4_1 x1.qry.free.length cap4_1, .slice a5_1 x1.sure.length cap5_1, .slice a6_1 x1.open_.length cap6_1]) :
    Calls Try.prog 3 #[.agg #[.slice a0_0 x0.db.rels.length cap0_0, .slice a1_0 x0.db.facts.length cap1_0, .int .i64 x0.qry.vars, .slice a3_0 x0.qry.atoms.length cap3_0, .slice a4_0 x0.qry.free.length cap4_0, .slice a5_0 x0.sure.length cap5_0, .slice a6_0 x0.open_.length cap6_0], .agg #[.slice a0_1 x1.db.rels.length cap0_1, .slice a1_1 x1.db.facts.length cap1_1, .int .i64 x1.qry.vars, .slice a3_1 x1.qry.atoms.length cap3_1, .slice a4_1 x1.qry.free.length cap4_1, .slice a5_1 x1.sure.length cap5_1, .slice a6_1 x1.open_.length cap6_1]] w fun e w' => e = .returned (.bool true) ∧ Below w.heap.size w w' := by
  have hg0 : Ab.Glob w := trivial
  have o0 := w0
  clear w0
  have o1 := w1
  clear w1
  have hle0 := szR_le (1048576) (sizeView x0) (by omega)
  by_cases hn0 : szR (1048576) (sizeView x0) < 0
  · have hk := hn0
    go_enter Try.func3, Try.ntmps3
    go_wp2_with fail
    obtain ⟨wx, hwx⟩ : ∃ wx, wx = ((w.alloc (Obj.cells #[.slice a0_0 x0.db.rels.length cap0_0, .slice a1_0 x0.db.facts.length cap1_0, .int .i64 x0.qry.vars, .slice a3_0 x0.qry.atoms.length cap3_0, .slice a4_0 x0.qry.free.length cap4_0, .slice a5_0 x0.sure.length cap5_0, .slice a6_0 x0.open_.length cap6_0] 32)).alloc (Obj.cells #[.slice a0_1 x1.db.rels.length cap0_1, .slice a1_1 x1.db.facts.length cap1_1, .int .i64 x1.qry.vars, .slice a3_1 x1.qry.atoms.length cap3_1, .slice a4_1 x1.qry.free.length cap4_1, .slice a5_1 x1.sure.length cap5_1, .slice a6_1 x1.open_.length cap6_1] 32)) := ⟨_, rfl⟩
    rw [← hwx]
    have hbb : Below w.heap.size w wx := by rw [hwx]; go_grown
    have p0_0 : wx.cell? ⟨w.heap.size, 0, none⟩ = some (.slice a0_0 x0.db.rels.length cap0_0) := by rw [hwx]; go_simp
    have p0_1 : wx.cell? ⟨w.heap.size, 1, none⟩ = some (.slice a1_0 x0.db.facts.length cap1_0) := by rw [hwx]; go_simp
    have p0_2 : wx.cell? ⟨w.heap.size, 2, none⟩ = some (.int .i64 x0.qry.vars) := by rw [hwx]; go_simp
    have p0_3 : wx.cell? ⟨w.heap.size, 3, none⟩ = some (.slice a3_0 x0.qry.atoms.length cap3_0) := by rw [hwx]; go_simp
    have p0_4 : wx.cell? ⟨w.heap.size, 4, none⟩ = some (.slice a4_0 x0.qry.free.length cap4_0) := by rw [hwx]; go_simp
    have p0_5 : wx.cell? ⟨w.heap.size, 5, none⟩ = some (.slice a5_0 x0.sure.length cap5_0) := by rw [hwx]; go_simp
    have p0_6 : wx.cell? ⟨w.heap.size, 6, none⟩ = some (.slice a6_0 x0.open_.length cap6_0) := by rw [hwx]; go_simp
    have p1_0 : wx.cell? ⟨w.heap.size + 1, 0, none⟩ = some (.slice a0_1 x1.db.rels.length cap0_1) := by rw [hwx]; go_simp
    have p1_1 : wx.cell? ⟨w.heap.size + 1, 1, none⟩ = some (.slice a1_1 x1.db.facts.length cap1_1) := by rw [hwx]; go_simp
    have p1_2 : wx.cell? ⟨w.heap.size + 1, 2, none⟩ = some (.int .i64 x1.qry.vars) := by rw [hwx]; go_simp
    have p1_3 : wx.cell? ⟨w.heap.size + 1, 3, none⟩ = some (.slice a3_1 x1.qry.atoms.length cap3_1) := by rw [hwx]; go_simp
    have p1_4 : wx.cell? ⟨w.heap.size + 1, 4, none⟩ = some (.slice a4_1 x1.qry.free.length cap4_1) := by rw [hwx]; go_simp
    have p1_5 : wx.cell? ⟨w.heap.size + 1, 5, none⟩ = some (.slice a5_1 x1.sure.length cap5_1) := by rw [hwx]; go_simp
    have p1_6 : wx.cell? ⟨w.heap.size + 1, 6, none⟩ = some (.slice a6_1 x1.open_.length cap6_1) := by rw [hwx]; go_simp
    replace o0 := At.below o0 hbb (Nat.le_refl _)
    replace o1 := At.below o1 hbb (Nat.le_refl _)
    clear hwx
    refine (szView_c (by omega) (by omega) (At.here o0)).mono ?_
    rintro e wx ⟨rfl, hb⟩
    replace o0 := At.next o0 hb
    replace o1 := At.next o1 hb
    replace p0_0 := cell_next p0_0 hb
    replace p0_1 := cell_next p0_1 hb
    replace p0_2 := cell_next p0_2 hb
    replace p0_3 := cell_next p0_3 hb
    replace p0_4 := cell_next p0_4 hb
    replace p0_5 := cell_next p0_5 hb
    replace p0_6 := cell_next p0_6 hb
    replace p1_0 := cell_next p1_0 hb
    replace p1_1 := cell_next p1_1 hb
    replace p1_2 := cell_next p1_2 hb
    replace p1_3 := cell_next p1_3 hb
    replace p1_4 := cell_next p1_4 hb
    replace p1_5 := cell_next p1_5 hb
    replace p1_6 := cell_next p1_6 hb
    replace hbb := Below.next hbb hb
    clear hb
    go_wp2
    go_ret
    exact ⟨rfl, hbb⟩
  have hz0 : sizeView x0 ≤ 1048576 := szR_ge hn0 (by omega)
  have hle1 := szR_le (szR (1048576) (sizeView x0)) (sizeView x1) (by omega)
  by_cases hn1 : szR (szR (1048576) (sizeView x0)) (sizeView x1) < 0
  · have hk := hn1
    go_enter Try.func3, Try.ntmps3
    go_wp2_with fail
    obtain ⟨wx, hwx⟩ : ∃ wx, wx = ((w.alloc (Obj.cells #[.slice a0_0 x0.db.rels.length cap0_0, .slice a1_0 x0.db.facts.length cap1_0, .int .i64 x0.qry.vars, .slice a3_0 x0.qry.atoms.length cap3_0, .slice a4_0 x0.qry.free.length cap4_0, .slice a5_0 x0.sure.length cap5_0, .slice a6_0 x0.open_.length cap6_0] 32)).alloc (Obj.cells #[.slice a0_1 x1.db.rels.length cap0_1, .slice a1_1 x1.db.facts.length cap1_1, .int .i64 x1.qry.vars, .slice a3_1 x1.qry.atoms.length cap3_1, .slice a4_1 x1.qry.free.length cap4_1, .slice a5_1 x1.sure.length cap5_1, .slice a6_1 x1.open_.length cap6_1] 32)) := ⟨_, rfl⟩
    rw [← hwx]
    have hbb : Below w.heap.size w wx := by rw [hwx]; go_grown
    have p0_0 : wx.cell? ⟨w.heap.size, 0, none⟩ = some (.slice a0_0 x0.db.rels.length cap0_0) := by rw [hwx]; go_simp
    have p0_1 : wx.cell? ⟨w.heap.size, 1, none⟩ = some (.slice a1_0 x0.db.facts.length cap1_0) := by rw [hwx]; go_simp
    have p0_2 : wx.cell? ⟨w.heap.size, 2, none⟩ = some (.int .i64 x0.qry.vars) := by rw [hwx]; go_simp
    have p0_3 : wx.cell? ⟨w.heap.size, 3, none⟩ = some (.slice a3_0 x0.qry.atoms.length cap3_0) := by rw [hwx]; go_simp
    have p0_4 : wx.cell? ⟨w.heap.size, 4, none⟩ = some (.slice a4_0 x0.qry.free.length cap4_0) := by rw [hwx]; go_simp
    have p0_5 : wx.cell? ⟨w.heap.size, 5, none⟩ = some (.slice a5_0 x0.sure.length cap5_0) := by rw [hwx]; go_simp
    have p0_6 : wx.cell? ⟨w.heap.size, 6, none⟩ = some (.slice a6_0 x0.open_.length cap6_0) := by rw [hwx]; go_simp
    have p1_0 : wx.cell? ⟨w.heap.size + 1, 0, none⟩ = some (.slice a0_1 x1.db.rels.length cap0_1) := by rw [hwx]; go_simp
    have p1_1 : wx.cell? ⟨w.heap.size + 1, 1, none⟩ = some (.slice a1_1 x1.db.facts.length cap1_1) := by rw [hwx]; go_simp
    have p1_2 : wx.cell? ⟨w.heap.size + 1, 2, none⟩ = some (.int .i64 x1.qry.vars) := by rw [hwx]; go_simp
    have p1_3 : wx.cell? ⟨w.heap.size + 1, 3, none⟩ = some (.slice a3_1 x1.qry.atoms.length cap3_1) := by rw [hwx]; go_simp
    have p1_4 : wx.cell? ⟨w.heap.size + 1, 4, none⟩ = some (.slice a4_1 x1.qry.free.length cap4_1) := by rw [hwx]; go_simp
    have p1_5 : wx.cell? ⟨w.heap.size + 1, 5, none⟩ = some (.slice a5_1 x1.sure.length cap5_1) := by rw [hwx]; go_simp
    have p1_6 : wx.cell? ⟨w.heap.size + 1, 6, none⟩ = some (.slice a6_1 x1.open_.length cap6_1) := by rw [hwx]; go_simp
    replace o0 := At.below o0 hbb (Nat.le_refl _)
    replace o1 := At.below o1 hbb (Nat.le_refl _)
    clear hwx
    refine (szView_c (by omega) (by omega) (At.here o0)).mono ?_
    rintro e wx ⟨rfl, hb⟩
    replace o0 := At.next o0 hb
    replace o1 := At.next o1 hb
    replace p0_0 := cell_next p0_0 hb
    replace p0_1 := cell_next p0_1 hb
    replace p0_2 := cell_next p0_2 hb
    replace p0_3 := cell_next p0_3 hb
    replace p0_4 := cell_next p0_4 hb
    replace p0_5 := cell_next p0_5 hb
    replace p0_6 := cell_next p0_6 hb
    replace p1_0 := cell_next p1_0 hb
    replace p1_1 := cell_next p1_1 hb
    replace p1_2 := cell_next p1_2 hb
    replace p1_3 := cell_next p1_3 hb
    replace p1_4 := cell_next p1_4 hb
    replace p1_5 := cell_next p1_5 hb
    replace p1_6 := cell_next p1_6 hb
    replace hbb := Below.next hbb hb
    clear hb
    go_wp2_with fail
    refine (szView_c (by omega) (by omega) (At.here o1)).mono ?_
    rintro e wx ⟨rfl, hb⟩
    replace o0 := At.next o0 hb
    replace o1 := At.next o1 hb
    replace p0_0 := cell_next p0_0 hb
    replace p0_1 := cell_next p0_1 hb
    replace p0_2 := cell_next p0_2 hb
    replace p0_3 := cell_next p0_3 hb
    replace p0_4 := cell_next p0_4 hb
    replace p0_5 := cell_next p0_5 hb
    replace p0_6 := cell_next p0_6 hb
    replace p1_0 := cell_next p1_0 hb
    replace p1_1 := cell_next p1_1 hb
    replace p1_2 := cell_next p1_2 hb
    replace p1_3 := cell_next p1_3 hb
    replace p1_4 := cell_next p1_4 hb
    replace p1_5 := cell_next p1_5 hb
    replace p1_6 := cell_next p1_6 hb
    replace hbb := Below.next hbb hb
    clear hb
    go_wp2
    go_ret
    exact ⟨rfl, hbb⟩
  have hz1 : sizeView x1 ≤ 1048576 := szR_ge hn1 (by omega)
  go_enter Try.func3, Try.ntmps3
  go_wp2_with fail
  obtain ⟨wx, hwx⟩ : ∃ wx, wx = ((w.alloc (Obj.cells #[.slice a0_0 x0.db.rels.length cap0_0, .slice a1_0 x0.db.facts.length cap1_0, .int .i64 x0.qry.vars, .slice a3_0 x0.qry.atoms.length cap3_0, .slice a4_0 x0.qry.free.length cap4_0, .slice a5_0 x0.sure.length cap5_0, .slice a6_0 x0.open_.length cap6_0] 32)).alloc (Obj.cells #[.slice a0_1 x1.db.rels.length cap0_1, .slice a1_1 x1.db.facts.length cap1_1, .int .i64 x1.qry.vars, .slice a3_1 x1.qry.atoms.length cap3_1, .slice a4_1 x1.qry.free.length cap4_1, .slice a5_1 x1.sure.length cap5_1, .slice a6_1 x1.open_.length cap6_1] 32)) := ⟨_, rfl⟩
  rw [← hwx]
  have hbb : Below w.heap.size w wx := by rw [hwx]; go_grown
  have p0_0 : wx.cell? ⟨w.heap.size, 0, none⟩ = some (.slice a0_0 x0.db.rels.length cap0_0) := by rw [hwx]; go_simp
  have p0_1 : wx.cell? ⟨w.heap.size, 1, none⟩ = some (.slice a1_0 x0.db.facts.length cap1_0) := by rw [hwx]; go_simp
  have p0_2 : wx.cell? ⟨w.heap.size, 2, none⟩ = some (.int .i64 x0.qry.vars) := by rw [hwx]; go_simp
  have p0_3 : wx.cell? ⟨w.heap.size, 3, none⟩ = some (.slice a3_0 x0.qry.atoms.length cap3_0) := by rw [hwx]; go_simp
  have p0_4 : wx.cell? ⟨w.heap.size, 4, none⟩ = some (.slice a4_0 x0.qry.free.length cap4_0) := by rw [hwx]; go_simp
  have p0_5 : wx.cell? ⟨w.heap.size, 5, none⟩ = some (.slice a5_0 x0.sure.length cap5_0) := by rw [hwx]; go_simp
  have p0_6 : wx.cell? ⟨w.heap.size, 6, none⟩ = some (.slice a6_0 x0.open_.length cap6_0) := by rw [hwx]; go_simp
  have p1_0 : wx.cell? ⟨w.heap.size + 1, 0, none⟩ = some (.slice a0_1 x1.db.rels.length cap0_1) := by rw [hwx]; go_simp
  have p1_1 : wx.cell? ⟨w.heap.size + 1, 1, none⟩ = some (.slice a1_1 x1.db.facts.length cap1_1) := by rw [hwx]; go_simp
  have p1_2 : wx.cell? ⟨w.heap.size + 1, 2, none⟩ = some (.int .i64 x1.qry.vars) := by rw [hwx]; go_simp
  have p1_3 : wx.cell? ⟨w.heap.size + 1, 3, none⟩ = some (.slice a3_1 x1.qry.atoms.length cap3_1) := by rw [hwx]; go_simp
  have p1_4 : wx.cell? ⟨w.heap.size + 1, 4, none⟩ = some (.slice a4_1 x1.qry.free.length cap4_1) := by rw [hwx]; go_simp
  have p1_5 : wx.cell? ⟨w.heap.size + 1, 5, none⟩ = some (.slice a5_1 x1.sure.length cap5_1) := by rw [hwx]; go_simp
  have p1_6 : wx.cell? ⟨w.heap.size + 1, 6, none⟩ = some (.slice a6_1 x1.open_.length cap6_1) := by rw [hwx]; go_simp
  replace o0 := At.below o0 hbb (Nat.le_refl _)
  replace o1 := At.below o1 hbb (Nat.le_refl _)
  clear hwx
  refine (szView_c (by omega) (by omega) (At.here o0)).mono ?_
  rintro e wx ⟨rfl, hb⟩
  replace o0 := At.next o0 hb
  replace o1 := At.next o1 hb
  replace p0_0 := cell_next p0_0 hb
  replace p0_1 := cell_next p0_1 hb
  replace p0_2 := cell_next p0_2 hb
  replace p0_3 := cell_next p0_3 hb
  replace p0_4 := cell_next p0_4 hb
  replace p0_5 := cell_next p0_5 hb
  replace p0_6 := cell_next p0_6 hb
  replace p1_0 := cell_next p1_0 hb
  replace p1_1 := cell_next p1_1 hb
  replace p1_2 := cell_next p1_2 hb
  replace p1_3 := cell_next p1_3 hb
  replace p1_4 := cell_next p1_4 hb
  replace p1_5 := cell_next p1_5 hb
  replace p1_6 := cell_next p1_6 hb
  replace hbb := Below.next hbb hb
  clear hb
  go_wp2_with fail
  refine (szView_c (by omega) (by omega) (At.here o1)).mono ?_
  rintro e wx ⟨rfl, hb⟩
  replace o0 := At.next o0 hb
  replace o1 := At.next o1 hb
  replace p0_0 := cell_next p0_0 hb
  replace p0_1 := cell_next p0_1 hb
  replace p0_2 := cell_next p0_2 hb
  replace p0_3 := cell_next p0_3 hb
  replace p0_4 := cell_next p0_4 hb
  replace p0_5 := cell_next p0_5 hb
  replace p0_6 := cell_next p0_6 hb
  replace p1_0 := cell_next p1_0 hb
  replace p1_1 := cell_next p1_1 hb
  replace p1_2 := cell_next p1_2 hb
  replace p1_3 := cell_next p1_3 hb
  replace p1_4 := cell_next p1_4 hb
  replace p1_5 := cell_next p1_5 hb
  replace p1_6 := cell_next p1_6 hb
  replace hbb := Below.next hbb hb
  clear hb
  go_upto_region 8 with fail
  have hbm := Below.refl wx.heap.size wx
  go_cut [6] from 10 (fun v0 wr => (v0 = .bool (Ab.eqVew x0 x1)) ∧ Below wx.heap.size wx wr)
  case first =>
    go_region_with (first
      | (go_at_call_of 6 (Value.agg #[.slice a0_0 x0.db.rels.length cap0_0, .slice a1_0 x0.db.facts.length cap1_0, .int .i64 x0.qry.vars, .slice a3_0 x0.qry.atoms.length cap3_0, .slice a4_0 x0.qry.free.length cap4_0, .slice a5_0 x0.sure.length cap5_0, .slice a6_0 x0.open_.length cap6_0]); refine (toView_c hz0 (At.here o0)).mono ?_; rintro e wx ⟨⟨_, _, _, _, _, _, _, _, _, _, _, _, rfl, q⟩, hb⟩; have s0 := q.at; clear q; replace o0 := At.next o0 hb; replace o1 := At.next o1 hb; replace p0_0 := cell_next p0_0 hb; replace p0_1 := cell_next p0_1 hb; replace p0_2 := cell_next p0_2 hb; replace p0_3 := cell_next p0_3 hb; replace p0_4 := cell_next p0_4 hb; replace p0_5 := cell_next p0_5 hb; replace p0_6 := cell_next p0_6 hb; replace p1_0 := cell_next p1_0 hb; replace p1_1 := cell_next p1_1 hb; replace p1_2 := cell_next p1_2 hb; replace p1_3 := cell_next p1_3 hb; replace p1_4 := cell_next p1_4 hb; replace p1_5 := cell_next p1_5 hb; replace p1_6 := cell_next p1_6 hb; (try replace s1 := At.next s1 hb); replace hbm := Below.next hbm hb; replace hbb := Below.next hbb hb; clear hb)
      | (go_at_call_of 6 (Value.agg #[.slice a0_1 x1.db.rels.length cap0_1, .slice a1_1 x1.db.facts.length cap1_1, .int .i64 x1.qry.vars, .slice a3_1 x1.qry.atoms.length cap3_1, .slice a4_1 x1.qry.free.length cap4_1, .slice a5_1 x1.sure.length cap5_1, .slice a6_1 x1.open_.length cap6_1]); refine (toView_c hz1 (At.here o1)).mono ?_; rintro e wx ⟨⟨_, _, _, _, _, _, _, _, _, _, _, _, rfl, q⟩, hb⟩; have s1 := q.at; clear q; replace o0 := At.next o0 hb; replace o1 := At.next o1 hb; replace p0_0 := cell_next p0_0 hb; replace p0_1 := cell_next p0_1 hb; replace p0_2 := cell_next p0_2 hb; replace p0_3 := cell_next p0_3 hb; replace p0_4 := cell_next p0_4 hb; replace p0_5 := cell_next p0_5 hb; replace p0_6 := cell_next p0_6 hb; replace p1_0 := cell_next p1_0 hb; replace p1_1 := cell_next p1_1 hb; replace p1_2 := cell_next p1_2 hb; replace p1_3 := cell_next p1_3 hb; replace p1_4 := cell_next p1_4 hb; replace p1_5 := cell_next p1_5 hb; replace p1_6 := cell_next p1_6 hb; (try replace s0 := At.next s0 hb); replace hbm := Below.next hbm hb; replace hbb := Below.next hbb hb; clear hb)
      | (go_at_call 5; refine (specEqualViews_c hz0 hz1 (At.here s0) (At.here s1) (hg0.below hbb)).mono ?_; rintro e wx ⟨rfl, hb⟩; replace o0 := At.next o0 hb; replace o1 := At.next o1 hb; replace s0 := At.next s0 hb; replace s1 := At.next s1 hb; replace p0_0 := cell_next p0_0 hb; replace p0_1 := cell_next p0_1 hb; replace p0_2 := cell_next p0_2 hb; replace p0_3 := cell_next p0_3 hb; replace p0_4 := cell_next p0_4 hb; replace p0_5 := cell_next p0_5 hb; replace p0_6 := cell_next p0_6 hb; replace p1_0 := cell_next p1_0 hb; replace p1_1 := cell_next p1_1 hb; replace p1_2 := cell_next p1_2 hb; replace p1_3 := cell_next p1_3 hb; replace p1_4 := cell_next p1_4 hb; replace p1_5 := cell_next p1_5 hb; replace p1_6 := cell_next p1_6 hb; replace hbm := Below.next hbm hb; replace hbb := Below.next hbb hb; clear hb))
    all_goals (go_wp2_with fail; go_meet; exact ⟨rfl, hbm⟩)
  case rest =>
  obtain ⟨rfl, hb⟩ := hcut
  clear hbm
  replace o0 := At.next o0 hb
  replace o1 := At.next o1 hb
  replace p0_0 := cell_next p0_0 hb
  replace p0_1 := cell_next p0_1 hb
  replace p0_2 := cell_next p0_2 hb
  replace p0_3 := cell_next p0_3 hb
  replace p0_4 := cell_next p0_4 hb
  replace p0_5 := cell_next p0_5 hb
  replace p0_6 := cell_next p0_6 hb
  replace p1_0 := cell_next p1_0 hb
  replace p1_1 := cell_next p1_1 hb
  replace p1_2 := cell_next p1_2 hb
  replace p1_3 := cell_next p1_3 hb
  replace p1_4 := cell_next p1_4 hb
  replace p1_5 := cell_next p1_5 hb
  replace p1_6 := cell_next p1_6 hb
  replace hbb := Below.next hbb hb
  clear hb
  obtain ⟨wx, hwx⟩ : ∃ wx, wx = wc := ⟨_, rfl⟩
  subst hwx
  go_wp2_with fail
  refine (toView_c hz0 (At.here o0)).mono ?_
  rintro e wx ⟨⟨d0_0, e0_0, d0_1, e0_1, d0_3, e0_3, d0_4, e0_4, d0_5, e0_5, d0_6, e0_6, rfl, q⟩, hb⟩
  have c0 := q.at
  clear q
  replace o0 := At.next o0 hb
  replace o1 := At.next o1 hb
  replace p0_0 := cell_next p0_0 hb
  replace p0_1 := cell_next p0_1 hb
  replace p0_2 := cell_next p0_2 hb
  replace p0_3 := cell_next p0_3 hb
  replace p0_4 := cell_next p0_4 hb
  replace p0_5 := cell_next p0_5 hb
  replace p0_6 := cell_next p0_6 hb
  replace p1_0 := cell_next p1_0 hb
  replace p1_1 := cell_next p1_1 hb
  replace p1_2 := cell_next p1_2 hb
  replace p1_3 := cell_next p1_3 hb
  replace p1_4 := cell_next p1_4 hb
  replace p1_5 := cell_next p1_5 hb
  replace p1_6 := cell_next p1_6 hb
  replace hbb := Below.next hbb hb
  clear hb
  go_upto_region 10 with fail
  obtain ⟨wx, hb, q0_0, q0_1, q0_2, q0_3, q0_4, q0_5, q0_6, hwx⟩ : ∃ wy, Below wx.heap.size wx wy ∧ wy.cell? ⟨wx.heap.size, 0, none⟩ = some (.slice d0_0 x0.db.rels.length e0_0) ∧ wy.cell? ⟨wx.heap.size, 1, none⟩ = some (.slice d0_1 x0.db.facts.length e0_1) ∧ wy.cell? ⟨wx.heap.size, 2, none⟩ = some (.int .i64 x0.qry.vars) ∧ wy.cell? ⟨wx.heap.size, 3, none⟩ = some (.slice d0_3 x0.qry.atoms.length e0_3) ∧ wy.cell? ⟨wx.heap.size, 4, none⟩ = some (.slice d0_4 x0.qry.free.length e0_4) ∧ wy.cell? ⟨wx.heap.size, 5, none⟩ = some (.slice d0_5 x0.sure.length e0_5) ∧ wy.cell? ⟨wx.heap.size, 6, none⟩ = some (.slice d0_6 x0.open_.length e0_6) ∧ wx.alloc (Obj.cells #[.slice d0_0 x0.db.rels.length e0_0, .slice d0_1 x0.db.facts.length e0_1, .int .i64 x0.qry.vars, .slice d0_3 x0.qry.atoms.length e0_3, .slice d0_4 x0.qry.free.length e0_4, .slice d0_5 x0.sure.length e0_5, .slice d0_6 x0.open_.length e0_6] 43) = wy := ⟨_, by go_grown, by go_simp, by go_simp, by go_simp, by go_simp, by go_simp, by go_simp, by go_simp, rfl⟩
  rw [hwx]
  clear hwx
  replace c0 := At.next c0 hb
  replace o0 := At.next o0 hb
  replace o1 := At.next o1 hb
  replace p0_0 := cell_next p0_0 hb
  replace p0_1 := cell_next p0_1 hb
  replace p0_2 := cell_next p0_2 hb
  replace p0_3 := cell_next p0_3 hb
  replace p0_4 := cell_next p0_4 hb
  replace p0_5 := cell_next p0_5 hb
  replace p0_6 := cell_next p0_6 hb
  replace p1_0 := cell_next p1_0 hb
  replace p1_1 := cell_next p1_1 hb
  replace p1_2 := cell_next p1_2 hb
  replace p1_3 := cell_next p1_3 hb
  replace p1_4 := cell_next p1_4 hb
  replace p1_5 := cell_next p1_5 hb
  replace p1_6 := cell_next p1_6 hb
  replace hbb := Below.next hbb hb
  clear hb
  go_wp2_with fail
  refine (toView_c hz1 (At.here o1)).mono ?_
  rintro e wx ⟨⟨d1_0, e1_0, d1_1, e1_1, d1_3, e1_3, d1_4, e1_4, d1_5, e1_5, d1_6, e1_6, rfl, q⟩, hb⟩
  have c1 := q.at
  clear q
  replace c0 := At.next c0 hb
  replace o0 := At.next o0 hb
  replace o1 := At.next o1 hb
  replace p0_0 := cell_next p0_0 hb
  replace p0_1 := cell_next p0_1 hb
  replace p0_2 := cell_next p0_2 hb
  replace p0_3 := cell_next p0_3 hb
  replace p0_4 := cell_next p0_4 hb
  replace p0_5 := cell_next p0_5 hb
  replace p0_6 := cell_next p0_6 hb
  replace p1_0 := cell_next p1_0 hb
  replace p1_1 := cell_next p1_1 hb
  replace p1_2 := cell_next p1_2 hb
  replace p1_3 := cell_next p1_3 hb
  replace p1_4 := cell_next p1_4 hb
  replace p1_5 := cell_next p1_5 hb
  replace p1_6 := cell_next p1_6 hb
  replace q0_0 := cell_next q0_0 hb
  replace q0_1 := cell_next q0_1 hb
  replace q0_2 := cell_next q0_2 hb
  replace q0_3 := cell_next q0_3 hb
  replace q0_4 := cell_next q0_4 hb
  replace q0_5 := cell_next q0_5 hb
  replace q0_6 := cell_next q0_6 hb
  replace hbb := Below.next hbb hb
  clear hb
  go_upto_region 11 with fail
  obtain ⟨wx, hb, q1_0, q1_1, q1_2, q1_3, q1_4, q1_5, q1_6, hwx⟩ : ∃ wy, Below wx.heap.size wx wy ∧ wy.cell? ⟨wx.heap.size, 0, none⟩ = some (.slice d1_0 x1.db.rels.length e1_0) ∧ wy.cell? ⟨wx.heap.size, 1, none⟩ = some (.slice d1_1 x1.db.facts.length e1_1) ∧ wy.cell? ⟨wx.heap.size, 2, none⟩ = some (.int .i64 x1.qry.vars) ∧ wy.cell? ⟨wx.heap.size, 3, none⟩ = some (.slice d1_3 x1.qry.atoms.length e1_3) ∧ wy.cell? ⟨wx.heap.size, 4, none⟩ = some (.slice d1_4 x1.qry.free.length e1_4) ∧ wy.cell? ⟨wx.heap.size, 5, none⟩ = some (.slice d1_5 x1.sure.length e1_5) ∧ wy.cell? ⟨wx.heap.size, 6, none⟩ = some (.slice d1_6 x1.open_.length e1_6) ∧ wx.alloc (Obj.cells #[.slice d1_0 x1.db.rels.length e1_0, .slice d1_1 x1.db.facts.length e1_1, .int .i64 x1.qry.vars, .slice d1_3 x1.qry.atoms.length e1_3, .slice d1_4 x1.qry.free.length e1_4, .slice d1_5 x1.sure.length e1_5, .slice d1_6 x1.open_.length e1_6] 43) = wy := ⟨_, by go_grown, by go_simp, by go_simp, by go_simp, by go_simp, by go_simp, by go_simp, by go_simp, rfl⟩
  rw [hwx]
  clear hwx
  replace c0 := At.next c0 hb
  replace c1 := At.next c1 hb
  replace o0 := At.next o0 hb
  replace o1 := At.next o1 hb
  replace p0_0 := cell_next p0_0 hb
  replace p0_1 := cell_next p0_1 hb
  replace p0_2 := cell_next p0_2 hb
  replace p0_3 := cell_next p0_3 hb
  replace p0_4 := cell_next p0_4 hb
  replace p0_5 := cell_next p0_5 hb
  replace p0_6 := cell_next p0_6 hb
  replace p1_0 := cell_next p1_0 hb
  replace p1_1 := cell_next p1_1 hb
  replace p1_2 := cell_next p1_2 hb
  replace p1_3 := cell_next p1_3 hb
  replace p1_4 := cell_next p1_4 hb
  replace p1_5 := cell_next p1_5 hb
  replace p1_6 := cell_next p1_6 hb
  replace q0_0 := cell_next q0_0 hb
  replace q0_1 := cell_next q0_1 hb
  replace q0_2 := cell_next q0_2 hb
  replace q0_3 := cell_next q0_3 hb
  replace q0_4 := cell_next q0_4 hb
  replace q0_5 := cell_next q0_5 hb
  replace q0_6 := cell_next q0_6 hb
  replace hbb := Below.next hbb hb
  clear hb
  go_wp2_with fail
  refine (implEqualViews_c hz0 hz1 (At.here c0) (At.here c1) (hg0.below hbb)).mono ?_
  rintro e wx ⟨rfl, hb⟩
  replace c0 := At.next c0 hb
  replace c1 := At.next c1 hb
  replace o0 := At.next o0 hb
  replace o1 := At.next o1 hb
  replace p0_0 := cell_next p0_0 hb
  replace p0_1 := cell_next p0_1 hb
  replace p0_2 := cell_next p0_2 hb
  replace p0_3 := cell_next p0_3 hb
  replace p0_4 := cell_next p0_4 hb
  replace p0_5 := cell_next p0_5 hb
  replace p0_6 := cell_next p0_6 hb
  replace p1_0 := cell_next p1_0 hb
  replace p1_1 := cell_next p1_1 hb
  replace p1_2 := cell_next p1_2 hb
  replace p1_3 := cell_next p1_3 hb
  replace p1_4 := cell_next p1_4 hb
  replace p1_5 := cell_next p1_5 hb
  replace p1_6 := cell_next p1_6 hb
  replace q0_0 := cell_next q0_0 hb
  replace q0_1 := cell_next q0_1 hb
  replace q0_2 := cell_next q0_2 hb
  replace q0_3 := cell_next q0_3 hb
  replace q0_4 := cell_next q0_4 hb
  replace q0_5 := cell_next q0_5 hb
  replace q0_6 := cell_next q0_6 hb
  replace q1_0 := cell_next q1_0 hb
  replace q1_1 := cell_next q1_1 hb
  replace q1_2 := cell_next q1_2 hb
  replace q1_3 := cell_next q1_3 hb
  replace q1_4 := cell_next q1_4 hb
  replace q1_5 := cell_next q1_5 hb
  replace q1_6 := cell_next q1_6 hb
  replace hbb := Below.next hbb hb
  clear hb
  have hne0 : ((Ab.eqVew x0 x1) != (Ab.eqVew x0 x1)) = false := bne_self_eq_false _
  go_upto_region 14 with fail
  have hbm := Below.refl wx.heap.size wx
  go_cut [39] from 10 (fun v0 wr => (v0 = .bool false) ∧ Below wx.heap.size wx wr)
  case first =>
    go_region_with (first
      | (go_at_call 6; refine (toView_c hz0 (At.here o0)).mono ?_; rintro e wx ⟨⟨_, _, _, _, _, _, _, _, _, _, _, _, rfl, q⟩, hb⟩; have t0 := q.at; clear q; replace c0 := At.next c0 hb; replace c1 := At.next c1 hb; replace o0 := At.next o0 hb; replace o1 := At.next o1 hb; replace p0_0 := cell_next p0_0 hb; replace p0_1 := cell_next p0_1 hb; replace p0_2 := cell_next p0_2 hb; replace p0_3 := cell_next p0_3 hb; replace p0_4 := cell_next p0_4 hb; replace p0_5 := cell_next p0_5 hb; replace p0_6 := cell_next p0_6 hb; replace p1_0 := cell_next p1_0 hb; replace p1_1 := cell_next p1_1 hb; replace p1_2 := cell_next p1_2 hb; replace p1_3 := cell_next p1_3 hb; replace p1_4 := cell_next p1_4 hb; replace p1_5 := cell_next p1_5 hb; replace p1_6 := cell_next p1_6 hb; replace q0_0 := cell_next q0_0 hb; replace q0_1 := cell_next q0_1 hb; replace q0_2 := cell_next q0_2 hb; replace q0_3 := cell_next q0_3 hb; replace q0_4 := cell_next q0_4 hb; replace q0_5 := cell_next q0_5 hb; replace q0_6 := cell_next q0_6 hb; replace q1_0 := cell_next q1_0 hb; replace q1_1 := cell_next q1_1 hb; replace q1_2 := cell_next q1_2 hb; replace q1_3 := cell_next q1_3 hb; replace q1_4 := cell_next q1_4 hb; replace q1_5 := cell_next q1_5 hb; replace q1_6 := cell_next q1_6 hb; replace hbm := Below.next hbm hb; replace hbb := Below.next hbb hb; clear hb)
      | (go_at_call 8; refine (eqView_c (At.here c0) (At.here t0)).mono ?_; rintro e wx ⟨he, hb⟩; rw [dec_self] at he; subst he; replace c0 := At.next c0 hb; replace c1 := At.next c1 hb; replace o0 := At.next o0 hb; replace o1 := At.next o1 hb; replace t0 := At.next t0 hb; replace p0_0 := cell_next p0_0 hb; replace p0_1 := cell_next p0_1 hb; replace p0_2 := cell_next p0_2 hb; replace p0_3 := cell_next p0_3 hb; replace p0_4 := cell_next p0_4 hb; replace p0_5 := cell_next p0_5 hb; replace p0_6 := cell_next p0_6 hb; replace p1_0 := cell_next p1_0 hb; replace p1_1 := cell_next p1_1 hb; replace p1_2 := cell_next p1_2 hb; replace p1_3 := cell_next p1_3 hb; replace p1_4 := cell_next p1_4 hb; replace p1_5 := cell_next p1_5 hb; replace p1_6 := cell_next p1_6 hb; replace q0_0 := cell_next q0_0 hb; replace q0_1 := cell_next q0_1 hb; replace q0_2 := cell_next q0_2 hb; replace q0_3 := cell_next q0_3 hb; replace q0_4 := cell_next q0_4 hb; replace q0_5 := cell_next q0_5 hb; replace q0_6 := cell_next q0_6 hb; replace q1_0 := cell_next q1_0 hb; replace q1_1 := cell_next q1_1 hb; replace q1_2 := cell_next q1_2 hb; replace q1_3 := cell_next q1_3 hb; replace q1_4 := cell_next q1_4 hb; replace q1_5 := cell_next q1_5 hb; replace q1_6 := cell_next q1_6 hb; replace hbm := Below.next hbm hb; replace hbb := Below.next hbb hb; clear hb))
    all_goals (go_wp2_with fail; go_meet; exact ⟨rfl, hbm⟩)
  case rest =>
  obtain ⟨rfl, hb⟩ := hcut
  clear hbm
  replace c0 := At.next c0 hb
  replace c1 := At.next c1 hb
  replace o0 := At.next o0 hb
  replace o1 := At.next o1 hb
  replace p0_0 := cell_next p0_0 hb
  replace p0_1 := cell_next p0_1 hb
  replace p0_2 := cell_next p0_2 hb
  replace p0_3 := cell_next p0_3 hb
  replace p0_4 := cell_next p0_4 hb
  replace p0_5 := cell_next p0_5 hb
  replace p0_6 := cell_next p0_6 hb
  replace p1_0 := cell_next p1_0 hb
  replace p1_1 := cell_next p1_1 hb
  replace p1_2 := cell_next p1_2 hb
  replace p1_3 := cell_next p1_3 hb
  replace p1_4 := cell_next p1_4 hb
  replace p1_5 := cell_next p1_5 hb
  replace p1_6 := cell_next p1_6 hb
  replace q0_0 := cell_next q0_0 hb
  replace q0_1 := cell_next q0_1 hb
  replace q0_2 := cell_next q0_2 hb
  replace q0_3 := cell_next q0_3 hb
  replace q0_4 := cell_next q0_4 hb
  replace q0_5 := cell_next q0_5 hb
  replace q0_6 := cell_next q0_6 hb
  replace q1_0 := cell_next q1_0 hb
  replace q1_1 := cell_next q1_1 hb
  replace q1_2 := cell_next q1_2 hb
  replace q1_3 := cell_next q1_3 hb
  replace q1_4 := cell_next q1_4 hb
  replace q1_5 := cell_next q1_5 hb
  replace q1_6 := cell_next q1_6 hb
  replace hbb := Below.next hbb hb
  clear hb
  obtain ⟨wx, hwx⟩ : ∃ wx, wx = wc := ⟨_, rfl⟩
  subst hwx
  go_upto_region 16 with fail
  have hbm := Below.refl wx.heap.size wx
  go_cut [44] from 10 (fun v0 wr => (v0 = .bool false) ∧ Below wx.heap.size wx wr)
  case first =>
    go_region_with (first
      | (go_at_call 6; refine (toView_c hz1 (At.here o1)).mono ?_; rintro e wx ⟨⟨_, _, _, _, _, _, _, _, _, _, _, _, rfl, q⟩, hb⟩; have t1 := q.at; clear q; replace c0 := At.next c0 hb; replace c1 := At.next c1 hb; replace o0 := At.next o0 hb; replace o1 := At.next o1 hb; replace p0_0 := cell_next p0_0 hb; replace p0_1 := cell_next p0_1 hb; replace p0_2 := cell_next p0_2 hb; replace p0_3 := cell_next p0_3 hb; replace p0_4 := cell_next p0_4 hb; replace p0_5 := cell_next p0_5 hb; replace p0_6 := cell_next p0_6 hb; replace p1_0 := cell_next p1_0 hb; replace p1_1 := cell_next p1_1 hb; replace p1_2 := cell_next p1_2 hb; replace p1_3 := cell_next p1_3 hb; replace p1_4 := cell_next p1_4 hb; replace p1_5 := cell_next p1_5 hb; replace p1_6 := cell_next p1_6 hb; replace q0_0 := cell_next q0_0 hb; replace q0_1 := cell_next q0_1 hb; replace q0_2 := cell_next q0_2 hb; replace q0_3 := cell_next q0_3 hb; replace q0_4 := cell_next q0_4 hb; replace q0_5 := cell_next q0_5 hb; replace q0_6 := cell_next q0_6 hb; replace q1_0 := cell_next q1_0 hb; replace q1_1 := cell_next q1_1 hb; replace q1_2 := cell_next q1_2 hb; replace q1_3 := cell_next q1_3 hb; replace q1_4 := cell_next q1_4 hb; replace q1_5 := cell_next q1_5 hb; replace q1_6 := cell_next q1_6 hb; replace hbm := Below.next hbm hb; replace hbb := Below.next hbb hb; clear hb)
      | (go_at_call 8; refine (eqView_c (At.here c1) (At.here t1)).mono ?_; rintro e wx ⟨he, hb⟩; rw [dec_self] at he; subst he; replace c0 := At.next c0 hb; replace c1 := At.next c1 hb; replace o0 := At.next o0 hb; replace o1 := At.next o1 hb; replace t1 := At.next t1 hb; replace p0_0 := cell_next p0_0 hb; replace p0_1 := cell_next p0_1 hb; replace p0_2 := cell_next p0_2 hb; replace p0_3 := cell_next p0_3 hb; replace p0_4 := cell_next p0_4 hb; replace p0_5 := cell_next p0_5 hb; replace p0_6 := cell_next p0_6 hb; replace p1_0 := cell_next p1_0 hb; replace p1_1 := cell_next p1_1 hb; replace p1_2 := cell_next p1_2 hb; replace p1_3 := cell_next p1_3 hb; replace p1_4 := cell_next p1_4 hb; replace p1_5 := cell_next p1_5 hb; replace p1_6 := cell_next p1_6 hb; replace q0_0 := cell_next q0_0 hb; replace q0_1 := cell_next q0_1 hb; replace q0_2 := cell_next q0_2 hb; replace q0_3 := cell_next q0_3 hb; replace q0_4 := cell_next q0_4 hb; replace q0_5 := cell_next q0_5 hb; replace q0_6 := cell_next q0_6 hb; replace q1_0 := cell_next q1_0 hb; replace q1_1 := cell_next q1_1 hb; replace q1_2 := cell_next q1_2 hb; replace q1_3 := cell_next q1_3 hb; replace q1_4 := cell_next q1_4 hb; replace q1_5 := cell_next q1_5 hb; replace q1_6 := cell_next q1_6 hb; replace hbm := Below.next hbm hb; replace hbb := Below.next hbb hb; clear hb))
    all_goals (go_wp2_with fail; go_meet; exact ⟨rfl, hbm⟩)
  case rest =>
  obtain ⟨rfl, hb⟩ := hcut
  clear hbm
  replace c0 := At.next c0 hb
  replace c1 := At.next c1 hb
  replace o0 := At.next o0 hb
  replace o1 := At.next o1 hb
  replace p0_0 := cell_next p0_0 hb
  replace p0_1 := cell_next p0_1 hb
  replace p0_2 := cell_next p0_2 hb
  replace p0_3 := cell_next p0_3 hb
  replace p0_4 := cell_next p0_4 hb
  replace p0_5 := cell_next p0_5 hb
  replace p0_6 := cell_next p0_6 hb
  replace p1_0 := cell_next p1_0 hb
  replace p1_1 := cell_next p1_1 hb
  replace p1_2 := cell_next p1_2 hb
  replace p1_3 := cell_next p1_3 hb
  replace p1_4 := cell_next p1_4 hb
  replace p1_5 := cell_next p1_5 hb
  replace p1_6 := cell_next p1_6 hb
  replace q0_0 := cell_next q0_0 hb
  replace q0_1 := cell_next q0_1 hb
  replace q0_2 := cell_next q0_2 hb
  replace q0_3 := cell_next q0_3 hb
  replace q0_4 := cell_next q0_4 hb
  replace q0_5 := cell_next q0_5 hb
  replace q0_6 := cell_next q0_6 hb
  replace q1_0 := cell_next q1_0 hb
  replace q1_1 := cell_next q1_1 hb
  replace q1_2 := cell_next q1_2 hb
  replace q1_3 := cell_next q1_3 hb
  replace q1_4 := cell_next q1_4 hb
  replace q1_5 := cell_next q1_5 hb
  replace q1_6 := cell_next q1_6 hb
  replace hbb := Below.next hbb hb
  clear hb
  obtain ⟨wx, hwx⟩ : ∃ wx, wx = wc := ⟨_, rfl⟩
  subst hwx
  go_wp2
  go_ret
  exact ⟨rfl, hbb⟩

/-! ### THE ROW's STEP: WRITTEN OUT: LEAVE IT -/
set_option maxRecDepth 100000 in
theorem lifted (os : Os) (started : os.Started) (H : Type) (enc : TypeId × Value → H) :
    ReturnsInHanded {} Try.checked os 3 .any (Rows.fnExactEqualViewsSpec.pre6 enc Try.prog Try.f3 Rows.fnExactEqualViewsRow.domain false) (Rows.fnExactEqualViewsSpec.post enc Try.prog Try.f3 false true false false) := by
  refine returnsInHanded_of_change (C := Try.checked) own started (by kernel_rfl) Try.func3
    (ChangeSpec.witness6 (enc := enc) (C := Try.checked) false ⟨#[], #[.agg #[.slice none 0 0, .slice none 0 0, .int .i64 0, .slice none 0 0, .slice none 0 0, .slice none 0 0, .slice none 0 0], .agg #[.slice none 0 0, .slice none 0 0, .int .i64 0, .slice none 0 0, .slice none 0 0, .slice none 0 0, .slice none 0 0]], []⟩ 8 (by kernel_rfl) (by kernel_rfl) (by kernel_rfl) (by kernel_rfl)) ?_
  intro W base args ds gs before hval0 hW hcnd _
  have hval : ∀ (j : Nat) t v, Try.f3.params[j]? = some t → args[j]? = some v → Value.okWide Try.prog W .any base t v := hval0
  have hW' := hW
  obtain ⟨p, q, hA0, hV, rfl, hfz, hnd⟩ := hW
  have hA : DataW.TrodAll enc Try.prog W 0 (fun _ => true) true Try.f3.params.toList args.toList ds p := hA0
  rw [Try.params3] at hA hval
  obtain ⟨v0, vs0, d0, ds0, p0, q0, hargs, rfl, rfl, h0, r0⟩ := trodAll_cons hA
  obtain ⟨v1, vs1, d1, ds1, p1, q1, rfl, rfl, rfl, h1, r1⟩ := trodAll_cons r0
  obtain ⟨rfl, rfl, rfl⟩ := trodAll_nil r1
  obtain rfl : args = #[v0, v1] := by cases args; simp_all
  obtain ⟨rfl, rfl⟩ := trodVars_none hV
  have k0 := h0
  have lt0 : ∀ x ∈ p0, x.block < W.heap.size := by obtain ⟨m, hm⟩ := k0; exact DataW.trod_lt m _ _ _ hm
  obtain ⟨x0, a0_0, cap0_0, a1_0, cap1_0, a3_0, cap3_0, a4_0, cap4_0, a5_0, cap5_0, a6_0, cap6_0, rfl, w0⟩ := row_View (hval 0 32 v0 rfl rfl) h0
  have k1 := h1
  have lt1 : ∀ x ∈ p1, x.block < W.heap.size := by obtain ⟨m, hm⟩ := k1; exact DataW.trod_lt m _ _ _ hm
  obtain ⟨x1, a0_1, cap0_1, a1_1, cap1_1, a3_1, cap3_1, a4_1, cap4_1, a5_1, cap5_1, a6_1, cap6_1, rfl, w1⟩ := row_View (hval 1 32 v1 rfl rfl) h1
  clear hA0 hval0
  refine (walk x0 a0_0 cap0_0 a1_0 cap1_0 a3_0 cap3_0 a4_0 cap4_0 a5_0 cap5_0 a6_0 cap6_0 x1 a0_1 cap0_1 a1_1 cap1_1 a3_1 cap3_1 a4_1 cap4_1 a5_1 cap5_1 a6_1 cap6_1 W w0 w1).mono fun e W' ⟨he, bel⟩ => ?_
  subst he
  exact ⟨_, rfl, _, _, _, [], _, [], hW', trodAll_mk1 (shut_bool Try.underlying4 _), (trodAll_cons_mk (Below.trod laidOut (by kernel_rfl) (of_decide_eq_true (by kernel_rfl)) k0 bel lt0) (trodAll_cons_mk (Below.trod laidOut (by kernel_rfl) (of_decide_eq_true (by kernel_rfl)) k1 bel lt1) trodAll_mk0)), rfl, bel.frame _, fun h => by cases h⟩

theorem over : Rows.fnExactEqualViewsRow.holds Try.pinned (OpenSpec.ofChange Rows.fnExactEqualViewsSpec) :=
  OpenClaim.holds_of_wide 3 Try.f3 rfl rfl rfl rfl rfl rfl rfl ⟨rfl, rfl, rfl, rfl, rfl⟩ rfl rfl rfl rfl rfl (by kernel_rfl) Try.func3 (by kernel_rfl)
    (of_decide_eq_true (by kernel_rfl)) (by unfold Func.isWrapper; first | (rw [if_pos (by decide +kernel)]; kernel_rfl) | (rw [if_neg (by decide +kernel)]; exact ⟨rfl, rfl⟩))
    (fun os started H enc _ => lifted os started H enc)

/-- ████ THE STATEMENT ████ -/
theorem proved : Rows.FnExactEqualViewsSaid := over
#print axioms proved
end Go.Proofs.Ytpcjhnbifgjleaa.fnExactEqualViews

/- The laws' marks in queries. -/
import Derived.Test.YtknnnebjjjldpaaMarkJ
import Derived.Test.YtknnnebjjjldpaaTyTre
namespace Go.Proofs.Ytknnnebjjjldpaa
open Go.RowKit
set_option linter.unusedVariables false
set_option maxRecDepth 100000

theorem cQry_ownI {F : List Nat} {w : World} {x : Qry} {v0 v1 v2 : Value} (h : cQry.own F w x [v0, v1, v2]) : v0 = .int .i64 x.vars ∧ inR x.vars ∧ ∃ F1 F2, F = F1 ++ F2 ∧ (cSlice cAtm).own F1 w x.atoms [v1] ∧ (cSlice cInt).own F2 w x.free [v2] ∧ ∀ k, k ∈ F1 → k ∉ F2 := by
  obtain ⟨_, _, F0, F3, e, ⟨⟨rfl, hr⟩, rfl⟩, ⟨u, v, F1, F2, e2, h1, h2, rfl, hd⟩, rfl, _⟩ := h
  have h1' := h1
  have h2' := h2
  obtain ⟨_, _, rfl, _⟩ := h1'
  obtain ⟨_, _, rfl, _⟩ := h2'
  subst e2
  simp at e
  obtain ⟨rfl, rfl, rfl⟩ := e
  exact ⟨rfl, hr, F1, F2, rfl, h1, h2, hd⟩
theorem cQry_ownMk {F1 F2 : List Nat} {w : World} {x : Qry} {v1 v2 : Value} (hr : inR x.vars) (h1 : (cSlice cAtm).own F1 w x.atoms [v1]) (h2 : (cSlice cInt).own F2 w x.free [v2]) (hd : ∀ k, k ∈ F1 → k ∉ F2) : cQry.own (F1 ++ F2) w x [.int .i64 x.vars, v1, v2] :=
  ⟨[_], [_, _], [], F1 ++ F2, rfl, ⟨⟨rfl, hr⟩, rfl⟩, ⟨[_], [_], F1, F2, rfl, h1, h2, rfl, hd⟩, rfl, by simp⟩
/-- Marks in a query. -/
def markQ (k : Nat) (x : Qry) : Qry := ⟨x.vars, markAs k x.atoms, markI (k + lvs lvA x.atoms) x.free⟩
def lvQ (x : Qry) : Nat := lvs lvA x.atoms + x.free.length
theorem lvs_lvA (l : List Atm) : lvs lvA l = sumAtom l + l.length := by
  induction l with
  | nil => rfl
  | cons x l ih =>
    unfold lvs sumAtom at *
    rw [List.map_cons, List.sum_cons, ih, List.map_cons, List.sum_cons, List.length_cons]
    show x.terms.length + 1 + _ = _
    omega
theorem lvQ_le (x : Qry) : lvQ x ≤ 3 * sizeQuery x := by
  unfold lvQ sizeQuery sizeAtomS
  rw [lvs_lvA]
  omega
set_option maxHeartbeats 800000 in
theorem markQuery_c {F : List Nat} {a1 a2 : Option Addr} {cap1 cap2 : Nat} {x : Qry} {k : Nat} {w : World} (hk : (k + lvQ x : Nat) ≤ 4611686018427387900) (hF : ∀ k, k ∈ F → k < w.heap.size)
    (h : cQry.own F w x [.int .i64 x.vars, .slice a1 x.atoms.length cap1, .slice a2 x.free.length cap2]) :
    Calls Try.prog 33 #[.agg #[.int .i64 x.vars, .slice a1 x.atoms.length cap1, .slice a2 x.free.length cap2], .int .i64 k] w fun e w' => e = .returned (.int .i64 ((k + lvQ x : Nat) : Int)) ∧ cQry.own F w' (markQ k x) [.int .i64 x.vars, .slice a1 x.atoms.length cap1, .slice a2 x.free.length cap2] ∧ Only F w w' := by
  obtain ⟨_, hr, F1, F2, rfl, o1, o2, hd⟩ := cQry_ownI h
  have hF1 : ∀ k, k ∈ F1 → k < w.heap.size := fun k hk => hF k (List.mem_append_left _ hk)
  have hF2 : ∀ k, k ∈ F2 → k < w.heap.size := fun k hk => hF k (List.mem_append_right _ hk)
  unfold lvQ at hk ⊢
  have H1 : Hid (∀ ww, Below w.heap.size w ww → Calls Try.prog 67 #[.slice a1 x.atoms.length cap1, .int .i64 k] ww fun e w' => e = .returned (.int .i64 ((k + lvs lvA x.atoms : Nat) : Int)) ∧ (cSlice cAtm).own F1 w' (markAs k x.atoms) [.slice a1 x.atoms.length cap1] ∧ Only F1 ww w') :=
    fun ww hb => markAtomS_c (by omega) (fun q hq => Nat.lt_of_lt_of_le (hF1 q hq) hb.size) ((cSlice cAtm).keepO o1 (fun q hq => hb.block q (hF1 q hq)))
  have H2 : Hid (∀ ww, Only F1 w ww → Calls Try.prog 23 #[.slice a2 x.free.length cap2, .int .i64 ((k + lvs lvA x.atoms : Nat) : Int)] ww fun e w' => e = .returned (.int .i64 ((k + lvs lvA x.atoms + x.free.length : Nat) : Int)) ∧ (cSlice cInt).own F2 w' (markI (k + lvs lvA x.atoms) x.free) [.slice a2 x.free.length cap2] ∧ Only F2 ww w') :=
    fun ww ho => markIntS_c (by omega) (fun q hq => Nat.lt_of_lt_of_le (hF2 q hq) ho.size) ((cSlice cInt).keepO o2 (fun q hq => ho.block q (hF2 q hq) (fun h => hd q h hq)))
  have Hd := Lib.hid hd
  have HF1 := Lib.hid hF1
  have Hr := Lib.hid hr
  clear h o1 o2 hd hF hF1 hF2 hr
  obtain ⟨vs, rs, fs⟩ := x
  simp only at *
  go_enter Try.func33, Try.ntmps33
  go_wp2_with fail
  obtain ⟨wx, hb0, p1, hwx⟩ : ∃ wx, Below w.heap.size w wx ∧ wx.cell? ⟨w.heap.size, 2, none⟩ = some (.slice a2 fs.length cap2) ∧ w.alloc (Obj.cells #[.int .i64 vs, .slice a1 rs.length cap1, .slice a2 fs.length cap2] 41) = wx := ⟨_, by go_grown, by go_simp, rfl⟩
  rw [hwx]
  clear hwx
  refine (H1.out _ hb0).mono ?_
  rintro e w1 ⟨rfl, hown1, ho1⟩
  have hlt := World.block_lt_of_cell? wx _ p1
  have q1 : w1.cell? ⟨w.heap.size, 2, none⟩ = some (.slice a2 fs.length cap2) := (World.cell?_of_block (w := wx) (ho1.block w.heap.size hlt (fun h => by have := HF1.out _ h; omega))).trans p1
  have hw1 : Only F1 w w1 := Only.trans (H := F1) (Only.of_below (F := F1) hb0) ho1 (fun _ h => h) (fun _ h => h)
  have Hown1 := Lib.hid hown1
  clear hown1 ho1 p1
  go_wp2_with fail
  refine (H2.out _ hw1).mono ?_
  rintro e w2 ⟨rfl, hown2, ho2⟩
  have Hown2 := Lib.hid hown2
  have Ho2 := Lib.hid ho2
  clear hown2 ho2 q1
  go_wp2
  go_ret
  refine ⟨by rw [← Nat.add_assoc]; rfl, cQry_ownMk (x := markQ k ⟨vs, rs, fs⟩) Hr.out ((cSlice cAtm).keepO Hown1.out (fun q hq => Ho2.out.block q (Nat.lt_of_lt_of_le (HF1.out q hq) hw1.size) (Hd.out q hq))) Hown2.out Hd.out, ?_⟩
  exact Only.trans (H := F1 ++ F2) hw1 Ho2.out (fun _ h => List.mem_append_left _ h) (fun _ h => List.mem_append_right _ h)
set_option maxHeartbeats 800000 in
theorem heldQuery_c {a1 a2 : Option Addr} {cap1 cap2 : Nat} {x : Qry} {k : Nat} {w : World} (hk : (k + lvQ x : Nat) ≤ 4611686018427387900)
    (h : At cQry w (markQ k x) [.int .i64 x.vars, .slice a1 x.atoms.length cap1, .slice a2 x.free.length cap2]) :
    Calls Try.prog 34 #[.agg #[.int .i64 x.vars, .slice a1 x.atoms.length cap1, .slice a2 x.free.length cap2], .int .i64 k] w fun e w' => e = .returned (.int .i64 ((k + lvQ x : Nat) : Int)) ∧ Below w.heap.size w w' := by
  obtain ⟨o1, o2, _⟩ := cQry_inv h
  unfold lvQ at hk ⊢
  have hl2 : (markQ k x).free.length = x.free.length := markI_length _ _
  have H1 : Hid (∀ ww, Below w.heap.size w ww → Calls Try.prog 68 #[.slice a1 x.atoms.length cap1, .int .i64 k] ww fun e w' => e = .returned (.int .i64 ((k + lvs lvA x.atoms : Nat) : Int)) ∧ Below ww.heap.size ww w') :=
    fun ww hb => heldAtomS_c (by omega) (At.below (c := cSlice cAtm) o1 hb (Nat.le_refl _))
  have H2 : Hid (∀ ww, Below w.heap.size w ww → Calls Try.prog 62 #[.slice a2 x.free.length cap2, .int .i64 ((k + lvs lvA x.atoms : Nat) : Int)] ww fun e w' => e = .returned (.int .i64 ((k + lvs lvA x.atoms + x.free.length : Nat) : Int)) ∧ Below ww.heap.size ww w') := by
    intro ww hb
    have := heldIntS_c (a := a2) (cap := cap2) (l := (markQ k x).free) (k := k + lvs lvA x.atoms) (w := ww) (by rw [hl2]; omega) (fun i hi => markI_get _ _ _ hi) (by rw [hl2]; exact At.below (c := cSlice cInt) o2 hb (Nat.le_refl _))
    rw [hl2] at this
    exact this
  clear h o1 o2 hl2
  obtain ⟨vs, rs, fs⟩ := x
  simp only at *
  have hg1 : decide (((k + lvs lvA rs : Nat) : Int) < 0) = false := decide_eq_false (by omega)
  have hg2 : decide (((k + lvs lvA rs + fs.length : Nat) : Int) < 0) = false := decide_eq_false (by omega)
  go_enter Try.func34, Try.ntmps34
  go_wp2_with fail
  obtain ⟨wx, hb0, p1, hwx⟩ : ∃ wx, Below w.heap.size w wx ∧ wx.cell? ⟨w.heap.size, 2, none⟩ = some (.slice a2 fs.length cap2) ∧ w.alloc (Obj.cells #[.int .i64 vs, .slice a1 rs.length cap1, .slice a2 fs.length cap2] 41) = wx := ⟨_, by go_grown, by go_simp, rfl⟩
  rw [hwx]
  clear hwx
  refine (H1.out _ hb0).mono ?_
  rintro e w1 ⟨rfl, hb1⟩
  have q1 := cell_next p1 hb1
  have hw1 := Below.next hb0 hb1
  clear hb1 p1
  go_wp2_with fail
  refine (H2.out _ hw1).mono ?_
  rintro e w2 ⟨rfl, hb2⟩
  have hw2 := Below.next hw1 hb2
  clear hb2 q1
  go_wp2
  go_ret
  exact ⟨by rw [← Nat.add_assoc]; rfl, hw2⟩
end Go.Proofs.Ytknnnebjjjldpaa


/- Chapter 8: AreValidEdges, the model's and the program's. -/
import Derived.Test.YtpoackngngdhlaaDoorTyTre
import Derived.Test.YtpoackngngdhlaaDoorKeyOne
import Derived.Deep.RegionHeld3
namespace Go.Proofs.YtpoackngngdhlaaDoor
open Go.RowKit
set_option linter.unusedVariables false
set_option maxRecDepth 100000

/-- An edge between two of n vertices. -/
def okE (n : Int) (e : Edg) : Bool := decide (0 ≤ e.a) && (decide (e.a < e.b) && decide (e.b < n))
/-- The order of edges. -/
def cmpE (x y : Edg) : Int := if Lib.compareInt x.a y.a ≠ 0 then Lib.compareInt x.a y.a else Lib.compareInt x.b y.b
def okPE : Option Edg → Edg → Bool
  | none, _ => true
  | some q, x => !decide (cmpE q x ≥ 0)
def ascE : Option Edg → List Edg → Bool
  | _, [] => true
  | p, x :: l => okPE p x && ascE (some x) l
/-- Valid edges. -/
def validE (n : Int) (l : List Edg) : Bool := inB n 0 14 && (l.all (okE n) && ascE none l)
theorem ascE_step (l : List Edg) (k : Nat) (hk : k < l.length) : ascE (prevG l k) (l.drop k) = (okPE (prevG l k) l[k] && ascE (prevG l (k + 1)) (l.drop (k + 1))) := by
  rw [List.drop_eq_getElem_cons hk]
  simp [ascE, prevG, hk]
theorem ascE_start (l : List Edg) : ascE none l = ascE (prevG l 1) (l.drop 1) := by
  cases l with
  | nil => rfl
  | cons r l => simp [ascE, prevG, okPE]
theorem okPE_succ (l : List Edg) (k : Nat) (hk : k < l.length) (x : Edg) : okPE (prevG l (k + 1)) x = !decide (cmpE l[k] x ≥ 0) := by
  show okPE (l[k]?) x = _
  rw [List.getElem?_eq_getElem hk]; rfl
/-- What the model's loop asks, as it reckons. -/
def stE (n : Int) (e : Edg) : Bool := inB e.a 0 (wrap64 (e.b - 1)) && inB e.b 0 (wrap64 (n - 1))
def spE (n : Int) : Option Edg → List Edg → Bool
  | _, [] => true
  | p, x :: l => stE n x && (okPE p x && spE n (some x) l)
theorem spE_step (n : Int) (l : List Edg) (k : Nat) (hk : k < l.length) : spE n (prevG l k) (l.drop k) = (stE n l[k] && (okPE (prevG l k) l[k] && spE n (prevG l (k + 1)) (l.drop (k + 1)))) := by
  rw [List.drop_eq_getElem_cons hk]
  simp [spE, prevG, hk]
theorem stE_eq (n : Int) (e : Edg) (hn : inB n 0 14 = true) (hb : inR e.b) : stE n e = okE n e := by
  unfold inB at hn
  simp only [Bool.and_eq_true, decide_eq_true_eq] at hn
  unfold inR at hb
  unfold stE okE inB
  rw [IntWalk.wrap64_in (n - 1) ⟨by omega, by omega⟩]
  by_cases h : e.b = -9223372036854775808
  · rw [h]
    simp
    omega
  · rw [IntWalk.wrap64_in (e.b - 1) ⟨by omega, by omega⟩, Bool.eq_iff_iff]
    simp only [Bool.and_eq_true, decide_eq_true_eq]
    omega
theorem spE_split (n : Int) (hn : inB n 0 14 = true) : ∀ (l : List Edg) (p : Option Edg), (∀ e, e ∈ l → inR e.b) → spE n p l = (l.all (okE n) && ascE p l)
  | [], _, _ => rfl
  | x :: l, p, h => by
    simp only [spE, ascE, List.all_cons, spE_split n hn l (some x) (fun e he => h e (by simp [he])), stE_eq n x hn (h x (by simp))]
    cases okE n x <;> cases okPE p x <;> cases l.all (okE n) <;> simp
theorem validE_eq (n : Int) (l : List Edg) (h : ∀ e, e ∈ l → inR e.b) : validE n l = (spE n none l && inB n 0 14) := by
  unfold validE
  cases hn : inB n 0 14
  · simp
  · rw [spE_split n hn l none h]; simp

set_option maxHeartbeats 1600000 in
theorem cmpOr_c {b : Nat} {x y : Int} {w : World} (h0 : w.cell? ⟨b, 0, none⟩ = some (.int .i64 x)) (h1 : w.cell? ⟨b, 1, none⟩ = some (.int .i64 y)) :
    Calls Tryd.prog 60 #[.slice (some ⟨b, 0, none⟩) 2 2] w fun e w' => e = .returned (.int .i64 (if x ≠ 0 then x else y)) ∧ w = w' := by
  generalize hR : (if x ≠ 0 then x else y) = R
  have HR : Hid ((if x ≠ 0 then x else y) = R) := hR
  clear hR
  go_enter Tryd.func60, Tryd.ntmps60
  go_wp2
  go_loopw [8] (fun iv wr => w = wr ∧ ∃ k : Nat, k ≤ 2 ∧ iv = .int .i64 k ∧ Hid (1 ≤ k → x = 0) ∧ Hid (2 ≤ k → y = 0)) (fun iv _ => 2 - (intOf iv).toNat)
  case atStart => exact ⟨(by first | rfl | trivial), 0, by omega, by go_num, fun h => absurd h (by omega), fun h => absurd h (by omega)⟩
  case round =>
    obtain ⟨rfl, k, hk, rfl, H1, H2⟩ := hrel
    rcases Nat.lt_or_ge k 1 with hk0 | hk0
    · obtain rfl : k = 0 := by omega
      by_cases hx : x = 0
      · subst hx
        go_wp2
        go_roundw
        case rel => exact ⟨(by first | rfl | trivial), 1, by omega, by go_num, fun _ => (by first | rfl | trivial), fun h => absurd h (by omega)⟩
        case measure => simp [intOf]
      · have hR : R = x := by rw [← HR.out, if_pos hx]
        have hne : (x != 0) = true := by simp [hx]
        clear HR H1 H2
        go_wp2
        go_ret
        exact ⟨by subst hR; rfl, by first | rfl | trivial⟩
    · rcases Nat.lt_or_ge k 2 with hk1 | hk1
      · obtain rfl : k = 1 := by omega
        have hx : x = 0 := H1.out (by omega)
        have hR : R = y := by rw [← HR.out, hx]; simp
        have HRy := Lib.hid hR
        have Hx := Lib.hid hx
        clear hR hx HR
        by_cases hy : y = 0
        · have Hy := Lib.hid hy
          have hne : (y != 0) = false := by simp [hy]
          clear hy
          go_wp2
          go_roundw
          case rel => exact ⟨(by first | rfl | trivial), 2, by omega, by go_num, fun _ => Hx.out, fun _ => Hy.out⟩
          case measure => simp [intOf]
        · have hne : (y != 0) = true := by simp [hy]
          go_wp2
          go_ret
          exact ⟨by have h3 := HRy.out; subst h3; rfl, by first | rfl | trivial⟩
      · obtain rfl : k = 2 := by omega
        have hR : R = 0 := by rw [← HR.out, H1.out (by omega), H2.out (by omega)]; simp
        clear HR
        go_wp2
        go_ret
        exact ⟨by subst hR; rfl, by first | rfl | trivial⟩

set_option maxHeartbeats 1600000 in
theorem compareEdges_c {x y : Edg} {w : World} :
    Calls Tryd.prog 52 #[.agg #[.int .i64 x.a, .int .i64 x.b], .agg #[.int .i64 y.a, .int .i64 y.b]] w fun e w' => e = .returned (.int .i64 (cmpE x y)) ∧ Below w.heap.size w w' := by
  unfold cmpE
  obtain ⟨xa, xb⟩ := x
  obtain ⟨ya, yb⟩ := y
  simp only
  have K1 : ∀ ww, Calls Tryd.prog 61 #[.int .i64 xa, .int .i64 ya] ww fun e w' => e = .returned (.int .i64 (Lib.compareInt xa ya)) ∧ w' = ww := fun ww => Tryd.cmp_Compare_int _ _ _
  have K2 : ∀ ww, Calls Tryd.prog 61 #[.int .i64 xb, .int .i64 yb] ww fun e w' => e = .returned (.int .i64 (Lib.compareInt xb yb)) ∧ w' = ww := fun ww => Tryd.cmp_Compare_int _ _ _
  have H1 := Lib.hid K1
  have H2 := Lib.hid K2
  clear K1 K2
  generalize Lib.compareInt xa ya = p at *
  generalize Lib.compareInt xb yb = q at *
  have K3 : ∀ (g : Nat) ww, ww.cell? ⟨g, 0, none⟩ = some (.int .i64 p) → ww.cell? ⟨g, 1, none⟩ = some (.int .i64 q) → Calls Tryd.prog 60 #[.slice (some ⟨g, 0, none⟩) 2 2] ww fun e w' => e = .returned (.int .i64 (if p ≠ 0 then p else q)) ∧ ww = w' := fun g ww h0 h1 => cmpOr_c h0 h1
  have H3 := Lib.hid K3
  clear K3
  generalize (if p ≠ 0 then p else q) = r at *
  obtain ⟨wx, hwx⟩ : ∃ wx, wx = (w.alloc (Obj.cells #[.int .i64 xa, .int .i64 xb] 41)).alloc (Obj.cells #[.int .i64 ya, .int .i64 yb] 41) := ⟨_, rfl⟩
  have hbb : Below w.heap.size w wx := by rw [hwx]; go_grown
  have p0 : wx.cell? ⟨w.heap.size, 0, none⟩ = some (.int .i64 xa) := by rw [hwx]; go_simp
  have p1 : wx.cell? ⟨w.heap.size, 1, none⟩ = some (.int .i64 xb) := by rw [hwx]; go_simp
  have r0 : wx.cell? ⟨w.heap.size + 1, 0, none⟩ = some (.int .i64 ya) := by rw [hwx]; go_simp
  have r1 : wx.cell? ⟨w.heap.size + 1, 1, none⟩ = some (.int .i64 yb) := by rw [hwx]; go_simp
  have l0 := World.block_lt_of_cell? wx _ p0
  have l1 := World.block_lt_of_cell? wx _ r0
  simp only at l0 l1
  have Hwx := Lib.hid hwx
  clear hwx
  go_enter Tryd.func52, Tryd.ntmps52
  go_wp2_with fail
  rw [← Hwx.out]
  clear Hwx
  go_region_held3 (fun w' => w'.cell? ⟨w.heap.size, 0, none⟩ = some (.int .i64 xa) ∧ w'.cell? ⟨w.heap.size, 1, none⟩ = some (.int .i64 xb) ∧ w'.cell? ⟨w.heap.size + 1, 0, none⟩ = some (.int .i64 ya) ∧ w'.cell? ⟨w.heap.size + 1, 1, none⟩ = some (.int .i64 yb))
    (go_keep)
    (first
      | (go_at_call_of 61 (Value.int .i64 xa); refine (H1.out _).mono ?_; rintro e wy ⟨rfl, rfl⟩)
      | (go_at_call_of 61 (Value.int .i64 xb); refine (H2.out _).mono ?_; rintro e wy ⟨rfl, rfl⟩)
      | (go_at_call 60; refine (H3.out wx.heap.size _ (by go_simp) (by go_simp)).mono ?_; rintro e wy ⟨rfl, rfl⟩))
  all_goals
    go_wp2
    go_ret
    exact ⟨rfl, hbb.trans ((by go_grown : Below wx.heap.size wx _).mono hbb.size)⟩


theorem edge_b {B : Nat} {w : World} {l : List Edg} {cs : List Value} (h : (cSlice cEdg).ok B w l cs) : ∀ e, e ∈ l → inR e.b := by
  intro e he
  obtain ⟨j, hj, rfl⟩ := List.getElem_of_mem he
  obtain ⟨_, _, rfl, _, h⟩ := h
  obtain ⟨b, off, es, _, hb, h1, hc⟩ := h j hj
  obtain ⟨_, _, _, ⟨_, _⟩, ⟨_, h2⟩⟩ := h1
  exact h2
set_option maxHeartbeats 3200000 in
theorem ascEdges_c {a0 : Option Addr} {cap0 : Nat} {l : List Edg} {w : World} (h : At (cSlice cEdg) w l [.slice a0 l.length cap0]) :
    Calls Tryd.prog 51 #[.slice a0 l.length cap0, .func (.func 52) #[] #[]] w fun e w' => e = .returned (.bool (ascE none l)) ∧ Below w.heap.size w w' := by
  have hm := (slice_len h).2
  unfold maxLen at hm
  obtain ⟨n, hn⟩ : ∃ n : Nat, l.length = n := ⟨_, rfl⟩
  have Hr : Hid (∀ w' : World, Below w.heap.size w w' → ∀ j (hj : j < l.length), _) := fun w' hb j hj => at_ConflictEdge (Cod.ok_below h hb) j hj
  have Hn := Lib.hid hn
  rw [hn] at hm ⊢
  clear hn h
  generalize hR : ascE none l = R
  rw [ascE_start] at hR
  have HR : Hid (ascE (prevG l 1) (l.drop 1) = R) := hR
  clear hR
  go_enter Tryd.func51, Tryd.ntmps51
  go_wp2
  go_loopw [5] (fun iv wr => ∃ k : Nat, (k ≤ n ∨ k = 1) ∧ 1 ≤ k ∧ iv = .int .i64 k ∧ Hid (ascE (prevG l k) (l.drop k) = R) ∧ Below w.heap.size w wr) (fun iv _ => n - (intOf iv).toNat)
  case atStart => exact ⟨1, by omega, by omega, by go_num, HR, Below.refl _ _⟩
  case round =>
    clear HR
    obtain ⟨k, hk, hk1, rfl, Hq, hb⟩ := hrel
    by_cases hlt : k < n
    · have hkl : k < l.length := by rw [Hn.out]; exact hlt
      obtain ⟨j, hj⟩ : ∃ j, k = j + 1 := ⟨k - 1, by omega⟩
      have hjl : j < l.length := by omega
      have hp : okPE (prevG l k) l[k] = !decide (cmpE l[j] l[k] ≥ 0) := by subst hj; exact okPE_succ l j hjl _
      have Hst := Lib.hid (Hq.out.symm.trans (ascE_step l k hkl))
      rw [hp] at Hst
      obtain ⟨b, off, rfl, hbB, c0, c1, hx⟩ := Hr.out _ hb k hkl
      obtain ⟨b', off', e', hbB', p0, p1, hxp⟩ := Hr.out _ hb j hjl
      obtain ⟨rfl, rfl⟩ : b = b' ∧ off = off' := by simp at e'; exact e'
      have Hz : Hid (∀ ww, Calls Tryd.prog 52 #[.agg #[.int .i64 l[j].a, .int .i64 l[j].b], .agg #[.int .i64 l[k].a, .int .i64 l[k].b]] ww fun e w' => e = .returned (.int .i64 (cmpE l[j] l[k])) ∧ Below ww.heap.size ww w') := fun ww => compareEdges_c
      have C0 := grow_cell c0
      have C1 := grow_cell c1
      have D0 := grow_cell p0
      have D1 := grow_cell p1
      have hwj : wrap64 ((k : Int) - 1) = (j : Int) := by rw [IntWalk.wrap64_in _ ⟨by omega, by omega⟩]; omega
      have hkj : (k : Int) - 1 = (j : Int) := by omega
      have hjn : (j : Int) < n := by omega
      have Hj := Lib.hid hj
      clear hj e' hxp hx hp hbB' hbB p0 p1 c0 c1 Hq
      generalize cmpE l[j] l[k] = z at *
      generalize l[j] = q at *
      generalize l[k] = r at *
      by_cases hz : z ≥ 0
      · have hR : R = false := by have h := Hst.out; rw [decide_eq_true hz, Bool.not_true, Bool.false_and] at h; exact h
        have hzd : decide (z ≥ 0) = true := decide_eq_true hz
        go_wp2_with fail
        refine wp_region_grow (by kernel_rfl) (by kernel_rfl) ?_
        repeat (go_big_quiet_step ((go_at_call 52; exact Calls.grow fun ww h => Hz.out ww)))
        refine wpQuiet_nil ?_
        rintro _ ⟨nq, rfl⟩
        go_wp2
        go_ret
        exact ⟨by rw [hR]; rfl, hb.trans (nq.below.mono hb.size)⟩
      · have Hs2 : Hid (ascE (prevG l (k + 1)) (l.drop (k + 1)) = R) := by have h := Hst.out; rw [decide_eq_false hz, Bool.not_false, Bool.true_and] at h; exact h.symm
        have hzd : decide (z ≥ 0) = false := decide_eq_false hz
        go_wp2_with fail
        refine wp_region_grow (by kernel_rfl) (by kernel_rfl) ?_
        repeat (go_big_quiet_step ((go_at_call 52; exact Calls.grow fun ww h => Hz.out ww)))
        refine wpQuiet_nil ?_
        rintro _ ⟨nq, rfl⟩
        go_wp2
        go_roundw
        case rel => exact ⟨k + 1, by omega, by omega, by go_num, Hs2, hb.trans (nq.below.mono hb.size)⟩
        case measure => simp [intOf]; omega
    · have hR : R = true := by
        have := Hq.out
        rw [List.drop_eq_nil_of_le (by rw [Hn.out]; omega)] at this
        exact this.symm
      go_wp2
      go_ret
      exact ⟨by rw [hR]; rfl, hb⟩

set_option maxHeartbeats 3200000 in
theorem implAreValidEdges_c {a0 : Option Addr} {cap0 : Nat} {l : List Edg} {n : Int} {w : World} (h : At (cSlice cEdg) w l [.slice a0 l.length cap0]) :
    Calls Tryd.prog 42 #[.int .i64 n, .slice a0 l.length cap0] w fun e w' => e = .returned (.bool (validE n l)) ∧ Below w.heap.size w w' := by
  have hm := (slice_len h).2
  unfold maxLen at hm
  have Hr : Hid (∀ w' : World, Below w.heap.size w w' → ∀ j (hj : j < l.length), _) := fun w' hb j hj => at_ConflictEdge (Cod.ok_below h hb) j hj
  have Hs : Hid (∀ ww, Below w.heap.size w ww → Calls Tryd.prog 51 #[.slice a0 l.length cap0, .func (.func 52) #[] #[]] ww fun e w' => e = .returned (.bool (ascE none l)) ∧ Below ww.heap.size ww w') := fun ww hb => ascEdges_c (At.below h hb (Nat.le_refl _))
  clear h
  unfold validE
  obtain ⟨N, hN⟩ : ∃ n : Nat, l.length = n := ⟨_, rfl⟩
  have HN := Lib.hid hN
  rw [hN] at hm Hs ⊢
  clear hN
  by_cases h0 : n < 0
  · rw [show inB n 0 14 = false by unfold inB; simp; omega, Bool.false_and]
    clear Hr Hs
    go_enter Tryd.func42, Tryd.ntmps42
    go_wp2
    go_ret
    exact ⟨rfl, Below.refl _ _⟩
  · by_cases h14 : 14 < n
    · rw [show inB n 0 14 = false by unfold inB; simp; omega, Bool.false_and]
      clear Hr Hs
      go_enter Tryd.func42, Tryd.ntmps42
      go_wp2
      go_ret
      exact ⟨rfl, Below.refl _ _⟩
    · rw [show inB n 0 14 = true by unfold inB; simp; omega, Bool.true_and]
      generalize ascE none l = A at *
      generalize hR : l.all (okE n) = R
      have HR : Hid ((l.drop 0).all (okE n) = R) := hR
      clear hR
      go_enter Tryd.func42, Tryd.ntmps42
      go_wp2
      go_loopw [15] (fun iv wr => ∃ k : Nat, k ≤ N ∧ iv = .int .i64 k ∧ Hid ((l.drop k).all (okE n) = R) ∧ Below w.heap.size w wr) (fun iv _ => N - (intOf iv).toNat)
      case atStart => exact ⟨0, by omega, by go_num, HR, Below.refl _ _⟩
      case round =>
        clear HR
        obtain ⟨k, hk, rfl, Hq, hb⟩ := hrel
        by_cases hlt : k < N
        · have hkl : k < l.length := by rw [HN.out]; exact hlt
          have Hst := Lib.hid (Hq.out.symm.trans (all_drop (okE n) l k hkl))
          obtain ⟨b, off, rfl, hbB, c0, c1, hx⟩ := Hr.out _ hb k hkl
          have lc := World.block_lt_of_cell? wr _ c0
          simp only at lc
          clear hx Hq
          generalize l[k] = e at *
          obtain ⟨ea, eb⟩ := e
          simp only [okE] at *
          by_cases g0 : ea < 0
          · have hR : R = false := by have h := Hst.out; rw [decide_eq_false (p := 0 ≤ ea) (by omega), Bool.false_and, Bool.false_and] at h; exact h
            go_wp2
            go_ret
            exact ⟨by first | rfl | (rw [hR]; rfl) | (simp [hR]), hb.trans ((by go_grown : Below wr.heap.size wr _).mono hb.size)⟩
          · by_cases g1 : ea < eb
            · have g1' : ¬ (ea ≥ eb) := by omega
              by_cases g2 : eb < n
              · have g2' : ¬ (eb ≥ n) := by omega
                have Hs2 : Hid ((l.drop (k + 1)).all (okE n) = R) := by have h := Hst.out; rw [decide_eq_true (p := 0 ≤ ea) (by omega), decide_eq_true g1, decide_eq_true g2] at h; simp only [Bool.true_and] at h; show _ = _; exact h.symm
                go_wp2
                go_roundw
                case rel => exact ⟨k + 1, by omega, by go_num, Hs2, hb.trans ((by go_grown : Below wr.heap.size wr _).mono hb.size)⟩
                case measure => simp [intOf]; omega
              · have hR : R = false := by have h := Hst.out; rw [decide_eq_false g2, Bool.and_false, Bool.and_false, Bool.false_and] at h; exact h
                have g2' : eb ≥ n := by omega
                go_wp2
                go_ret
                exact ⟨by first | rfl | (rw [hR]; rfl) | (simp [hR]), hb.trans ((by go_grown : Below wr.heap.size wr _).mono hb.size)⟩
            · have hR : R = false := by have h := Hst.out; rw [decide_eq_false g1, Bool.false_and, Bool.and_false, Bool.false_and] at h; exact h
              have g1' : ea ≥ eb := by omega
              go_wp2
              go_ret
              exact ⟨by first | rfl | (rw [hR]; rfl) | (simp [hR]), hb.trans ((by go_grown : Below wr.heap.size wr _).mono hb.size)⟩
        · obtain rfl : k = N := by omega
          have hR : R = true := by
            have := Hq.out
            rw [List.drop_eq_nil_of_le (by rw [HN.out]; exact Nat.le_refl _)] at this
            exact this.symm
          go_wp2_with fail
          refine (Hs.out _ hb).mono ?_
          rintro e w2 ⟨rfl, hb2⟩
          go_wp2
          go_ret
          exact ⟨by rw [hR]; rfl, hb.trans (hb2.mono hb.size)⟩
end Go.Proofs.YtpoackngngdhlaaDoor


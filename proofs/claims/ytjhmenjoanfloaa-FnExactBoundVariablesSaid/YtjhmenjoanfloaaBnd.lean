/- Chapter 14: BoundVariables, the model's and the program's. -/
import Derived.Test.YtjhmenjoanfloaaVar
import Derived.Test.YtjhmenjoanfloaaTyH
namespace Go.Proofs.Ytjhmenjoanfloaa
open Go.RowKit
set_option linter.unusedVariables false
set_option maxRecDepth 100000

/-- The variables below k that are not in a list, ascending. -/
def bPart (l : List Int) (k : Nat) : List Int := ((List.range k).filter fun (v : Nat) => !l.contains (v : Int)).map fun (v : Nat) => (v : Int)
def boundL (q : Qry) : List Int := bPart q.free (min q.vars 4).toNat
theorem bPart_succ (l : List Int) (k : Nat) : bPart l (k + 1) = if l.contains (k : Int) = true then bPart l k else bPart l k ++ [(k : Int)] := by
  unfold bPart
  rw [List.range_succ, List.filter_append, List.map_append]
  cases h : l.contains (k : Int)
  · rw [if_neg Bool.false_ne_true, List.filter_cons, if_pos (by rw [h]; rfl)]; rfl
  · rw [if_pos rfl, List.filter_cons, if_neg (by rw [h]; simp)]; simp
theorem bPart_len (l : List Int) (k : Nat) : (bPart l k).length ≤ k := by
  unfold bPart
  rw [List.length_map]
  exact Nat.le_trans (List.length_filter_le _ _) (by simp)
theorem boundL_bnd (q : Qry) : (boundL q).length ≤ 4611686018427000000 := Nat.le_trans (bPart_len q.free _) (by omega)
theorem bPart_inR (l : List Int) (k : Nat) (hk : k ≤ 4) : ∀ x, x ∈ bPart l k → inR x := by
  intro x hx
  obtain ⟨v, hv, rfl⟩ := List.mem_map.1 hx
  have := List.mem_range.1 (List.mem_filter.1 hv).1
  unfold inR
  omega
set_option maxHeartbeats 1600000 in
theorem specBoundVariables_c {a1 a2 : Option Addr} {cap1 cap2 : Nat} {x : Qry} {w : World} (h : At cQry w x [.int .i64 x.vars, .slice a1 x.atoms.length cap1, .slice a2 x.free.length cap2]) :
    Calls Try.prog 21 #[.agg #[.int .i64 x.vars, .slice a1 x.atoms.length cap1, .slice a2 x.free.length cap2]] w fun e w' => (∃ a cap, e = .returned (.slice a (boundL x).length cap) ∧ Own (cSlice cInt) w.heap.size w' (boundL x) [.slice a (boundL x).length cap]) ∧ Below w.heap.size w w' := by
  have h2 := (cQry_inv h).2.1
  have H1 : Hid (∀ ww (y : Int), Below w.heap.size w ww → Calls Try.prog 66 #[.slice a2 x.free.length cap2, .int .i64 y] ww fun e w' => e = .returned (.bool (x.free.contains y)) ∧ Below ww.heap.size ww w') :=
    fun ww y hb => l7Has_c (At.below (c := cSlice cInt) h2 hb (Nat.le_refl _))
  clear h h2
  obtain ⟨vs, ats, l⟩ := x
  simp only at *
  unfold boundL
  simp only
  obtain ⟨n, hn⟩ : ∃ n, (min vs 4).toNat = n := ⟨_, rfl⟩
  rw [hn]
  have hn4 : n ≤ 4 := by omega
  have hnv : ∀ k : Nat, k < n → (k : Int) < vs := by intro k hk; omega
  have hnn : n < 4 → vs ≤ (n : Int) := by intro h; omega
  clear hn
  have Hin := Lib.hid (bPart_inR l n hn4)
  generalize l.length = m2 at *
  generalize ats.length = m1 at *
  obtain ⟨i0, hi, hz0, hz1, hz2⟩ := info_parts Try.infoI
  obtain ⟨wx, hwx⟩ : ∃ wx, wx = w.alloc (Obj.cells #[.int .i64 vs, .slice a1 m1 cap1, .slice a2 m2 cap2] 37) := ⟨_, rfl⟩
  have hb0 : Below w.heap.size w wx := by rw [hwx]; go_grown
  have hws : wx.heap.size = w.heap.size + 1 := by rw [hwx]; simp
  have p0 : wx.cell? ⟨w.heap.size, 0, none⟩ = some (.int .i64 vs) := by rw [hwx]; go_simp
  have p2 : wx.cell? ⟨w.heap.size, 2, none⟩ = some (.slice a2 m2 cap2) := by rw [hwx]; go_simp
  have hbe : Below wx.heap.size wx (wx.alloc (Obj.cells #[] 3)) := by go_grown
  have hown0 : (wx.alloc (Obj.cells #[] 3)).ownsRow wx.heap.size 3 1 (.slice (some ⟨w.heap.size + 1, 0, none⟩) 0 0) (bPart l 0).length ((bPart l 0).map iv) := by
    rw [← hws]
    exact row_emptyV wx 3 wx.heap.size (Nat.le_refl _)
  have Hwx := Lib.hid hwx
  clear hwx hws
  obtain ⟨wy, hwy⟩ : ∃ wy, wy = wx.alloc (Obj.cells #[] 3) := ⟨_, rfl⟩
  rw [← hwy] at hbe hown0
  have Hwy := Lib.hid hwy
  clear hwy
  go_enter Try.func21, Try.ntmps21
  go_wp2
  rw [← Hwx.out, ← Hwy.out]
  clear Hwx Hwy
  go_loopw [3, 4] (fun ov kv wr => ∃ (k : Nat) (o : Value), o = ov ∧ k ≤ n ∧ kv = .int .i64 k ∧ wr.ownsRow wx.heap.size 3 1 o (bPart l k).length ((bPart l k).map iv) ∧ Below wx.heap.size wx wr) (fun _ kv _ => n - (intOf kv).toNat)
  case atStart => exact ⟨0, _, rfl, by omega, by go_num, hown0, hbe⟩
  case round =>
    clear hown0 hbe
    obtain ⟨k, o, rfl, hk, rfl, hown, hbx⟩ := hrel
    have hbw : Below w.heap.size w wr := hb0.trans (hbx.mono hb0.size)
    have q0 := cell_next p0 hbx
    by_cases hlt : k < n
    · have hkv : decide ((k : Int) < vs) = true := decide_eq_true (hnv k hlt)
      have hk4 : k < 4 := by omega
      have Hs := Lib.hid (bPart_succ l k)
      have hlen := bPart_len l k
      have Hc := Lib.hid (H1.out wr (k : Int) hbw)
      have q2 := cell_next p2 hbx
      generalize hcu : bPart l k = cur at *
      clear hcu hnv hnn
      cases hz : l.contains (k : Int) with
      | false =>
        rw [hz] at Hc Hs
        clear hz
        have Hs2 : Hid (bPart l (k + 1) = cur ++ [(k : Int)]) := by have h := Hs.out; rw [if_neg Bool.false_ne_true] at h; exact h
        clear Hs
        go_wp2_with fail
        refine Hc.out.mono ?_
        rintro e w2 ⟨rfl, hb2⟩
        have hown2 := ownsRow_below hown hb2
        have hbx2 : Below wx.heap.size wx w2 := hbx.trans (hb2.mono hbx.size)
        have hownA : (w2.alloc (.cells #[.int .i64 (k : Int)] 3)).ownsRow wx.heap.size 3 1 o cur.length (cur.map iv) := ownsRow_below hown2 (by go_grown)
        have hbA : Below wx.heap.size wx (w2.alloc (.cells #[.int .i64 (k : Int)] 3)) := hbx2.trans ((by go_grown : Below w2.heap.size w2 _).mono hbx2.size)
        clear hown hown2 hb2 Hc q0 q2
        go_wp2_with (at_builtin; refine wpList_app rfl _ _ _ (by rfl) wx.heap.size 3 i0 (.int .i64 0) 1 8 Try.underlying22 hi hz0 hz1 hz2 rfl (by omega) o cur.length (cur.map iv) (by rfl) hownA _ _ _ [.int .i64 (k : Int)] (by rfl) (srcs_oneV w2 _ _ rfl) ?c1 ?c2 ?c3 ?_)
        case c1 => unfold maxLen; omega
        case c2 => omega
        case c3 => exact hbA.size
        intro v1 w3 hown3 hg3 _
        have hown4 := own_pushV (w := w3) hown3
        have hb4 : Below wx.heap.size wx w3 := Below.grownOwn hbA hg3 hownA (Nat.le_refl _)
        clear hown3 hg3 hownA hbA
        go_wp2
        go_roundw
        case rel => exact ⟨k + 1, _, rfl, by omega, by go_num, by rw [Hs2.out]; exact hown4, hb4⟩
        case measure => simp [intOf]; omega
      | true =>
        rw [hz] at Hc Hs
        clear hz
        have Hs2 : Hid (bPart l (k + 1) = cur) := by have h := Hs.out; rw [if_pos rfl] at h; exact h
        clear Hs
        go_wp2_with fail
        refine Hc.out.mono ?_
        rintro e w2 ⟨rfl, hb2⟩
        have hown2 := ownsRow_below hown hb2
        have hbx2 : Below wx.heap.size wx w2 := hbx.trans (hb2.mono hbx.size)
        clear hown hb2 Hc q0 q2
        go_wp2
        go_roundw
        case rel => exact ⟨k + 1, _, rfl, by omega, by go_num, by rw [Hs2.out]; exact hown2, hbx2⟩
        case measure => simp [intOf]; omega
    · obtain rfl : k = n := by omega
      obtain ⟨oa, oc, rfl⟩ := own_formV hown
      have ho := Own.mono (own_ints hown Hin.out) hb0.size
      clear hown
      rcases Nat.lt_or_ge k 4 with h4 | h4
      · have hkv : decide ((k : Int) < vs) = false := decide_eq_false (by have := hnn h4; omega)
        clear hnv hnn
        go_wp2
        go_ret
        exact ⟨⟨_, _, rfl, ho⟩, hbw⟩
      · obtain rfl : k = 4 := by omega
        clear hnv hnn
        by_cases hv : (4 : Int) < vs
        · go_wp2
          go_ret
          exact ⟨⟨_, _, rfl, ho⟩, hbw⟩
        · go_wp2
          go_ret
          exact ⟨⟨_, _, rfl, ho⟩, hbw⟩
set_option maxHeartbeats 1600000 in
theorem implBoundVariables_c {a1 a2 : Option Addr} {cap1 cap2 : Nat} {x : Qry} {w : World} (h : At cQry w x [.int .i64 x.vars, .slice a1 x.atoms.length cap1, .slice a2 x.free.length cap2]) :
    Calls Try.prog 23 #[.agg #[.int .i64 x.vars, .slice a1 x.atoms.length cap1, .slice a2 x.free.length cap2]] w fun e w' => (∃ a cap, e = .returned (.slice a (boundL x).length cap) ∧ Own (cSlice cInt) w.heap.size w' (boundL x) [.slice a (boundL x).length cap]) ∧ Below w.heap.size w w' := by
  have h2 := (cQry_inv h).2.1
  have H1 : Hid (∀ ww (y : Int), Below w.heap.size w ww → Calls Try.prog 68 #[.slice a2 x.free.length cap2, .int .i64 y] ww fun e w' => e = .returned (.bool (x.free.contains y)) ∧ Below ww.heap.size ww w') :=
    fun ww y hb => containsI_c (At.below (c := cSlice cInt) h2 hb (Nat.le_refl _))
  clear h h2
  obtain ⟨vs, ats, l⟩ := x
  simp only at *
  unfold boundL
  simp only
  obtain ⟨mv, hmv⟩ : ∃ mv, min vs 4 = mv := ⟨_, rfl⟩
  rw [hmv]
  obtain ⟨n, hn⟩ : ∃ n, mv.toNat = n := ⟨_, rfl⟩
  rw [hn]
  have hn4 : n ≤ 4 := by omega
  have hnv : ∀ k : Nat, k < n → (k : Int) < mv := by intro k hk; omega
  have hnn : mv ≤ (n : Int) := by omega
  have Hmv := Lib.hid hmv
  clear hn hmv
  have Hin := Lib.hid (bPart_inR l n hn4)
  generalize l.length = m2 at *
  generalize ats.length = m1 at *
  obtain ⟨i0, hi, hz0, hz1, hz2⟩ := info_parts Try.infoI
  obtain ⟨wx, hwx⟩ : ∃ wx, wx = w.alloc (Obj.cells #[.int .i64 vs, .slice a1 m1 cap1, .slice a2 m2 cap2] 37) := ⟨_, rfl⟩
  have hb0 : Below w.heap.size w wx := by rw [hwx]; go_grown
  have p0 : wx.cell? ⟨w.heap.size, 0, none⟩ = some (.int .i64 vs) := by rw [hwx]; go_simp
  have p2 : wx.cell? ⟨w.heap.size, 2, none⟩ = some (.slice a2 m2 cap2) := by rw [hwx]; go_simp
  have hown0 : wx.ownsRow wx.heap.size 3 1 (.slice none 0 0) (bPart l 0).length ((bPart l 0).map iv) := World.ownsRow_nil _ _ _ _
  have Hwx := Lib.hid hwx
  clear hwx
  go_enter Try.func23, Try.ntmps23
  go_wp2
  rw [← Hwx.out, Hmv.out]
  clear Hwx Hmv
  go_loopw [3, 8] (fun ov kv wr => ∃ (k : Nat) (o : Value), o = ov ∧ k ≤ n ∧ kv = .int .i64 k ∧ wr.ownsRow wx.heap.size 3 1 o (bPart l k).length ((bPart l k).map iv) ∧ Below wx.heap.size wx wr) (fun _ kv _ => n - (intOf kv).toNat)
  case atStart => exact ⟨0, _, rfl, by omega, by go_num, hown0, Below.refl _ _⟩
  case round =>
    clear hown0
    obtain ⟨k, o, rfl, hk, rfl, hown, hbx⟩ := hrel
    have hbw : Below w.heap.size w wr := hb0.trans (hbx.mono hb0.size)
    by_cases hlt : k < n
    · have hkv : decide ((k : Int) < mv) = true := decide_eq_true (hnv k hlt)
      have Hs := Lib.hid (bPart_succ l k)
      have hlen := bPart_len l k
      have Hc := Lib.hid (H1.out wr (k : Int) hbw)
      have q2 := cell_next p2 hbx
      generalize hcu : bPart l k = cur at *
      clear hcu hnv hnn
      cases hz : l.contains (k : Int) with
      | false =>
        rw [hz] at Hc Hs
        clear hz
        have Hs2 : Hid (bPart l (k + 1) = cur ++ [(k : Int)]) := by have h := Hs.out; rw [if_neg Bool.false_ne_true] at h; exact h
        clear Hs
        go_wp2_with fail
        refine Hc.out.mono ?_
        rintro e w2 ⟨rfl, hb2⟩
        have hown2 := ownsRow_below hown hb2
        have hbx2 : Below wx.heap.size wx w2 := hbx.trans (hb2.mono hbx.size)
        have hownA : (w2.alloc (.cells #[.int .i64 (k : Int)] 3)).ownsRow wx.heap.size 3 1 o cur.length (cur.map iv) := ownsRow_below hown2 (by go_grown)
        have hbA : Below wx.heap.size wx (w2.alloc (.cells #[.int .i64 (k : Int)] 3)) := hbx2.trans ((by go_grown : Below w2.heap.size w2 _).mono hbx2.size)
        clear hown hown2 hb2 Hc q2
        go_wp2_with (at_builtin; refine wpList_app rfl _ _ _ (by rfl) wx.heap.size 3 i0 (.int .i64 0) 1 8 Try.underlying22 hi hz0 hz1 hz2 rfl (by omega) o cur.length (cur.map iv) (by rfl) hownA _ _ _ [.int .i64 (k : Int)] (by rfl) (srcs_oneV w2 _ _ rfl) ?c1 ?c2 ?c3 ?_)
        case c1 => unfold maxLen; omega
        case c2 => omega
        case c3 => exact hbA.size
        intro v1 w3 hown3 hg3 _
        have hown4 := own_pushV (w := w3) hown3
        have hb4 : Below wx.heap.size wx w3 := Below.grownOwn hbA hg3 hownA (Nat.le_refl _)
        clear hown3 hg3 hownA hbA
        go_wp2
        go_roundw
        case rel => exact ⟨k + 1, _, rfl, by omega, by go_num, by rw [Hs2.out]; exact hown4, hb4⟩
        case measure => simp [intOf]; omega
      | true =>
        rw [hz] at Hc Hs
        clear hz
        have Hs2 : Hid (bPart l (k + 1) = cur) := by have h := Hs.out; rw [if_pos rfl] at h; exact h
        clear Hs
        go_wp2_with fail
        refine Hc.out.mono ?_
        rintro e w2 ⟨rfl, hb2⟩
        have hown2 := ownsRow_below hown hb2
        have hbx2 : Below wx.heap.size wx w2 := hbx.trans (hb2.mono hbx.size)
        clear hown hb2 Hc q2
        go_wp2
        go_roundw
        case rel => exact ⟨k + 1, _, rfl, by omega, by go_num, by rw [Hs2.out]; exact hown2, hbx2⟩
        case measure => simp [intOf]; omega
    · obtain rfl : k = n := by omega
      obtain ⟨oa, oc, rfl⟩ := own_formV hown
      have ho := Own.mono (own_ints hown Hin.out) hb0.size
      have hkv : decide ((k : Int) < mv) = false := decide_eq_false (by omega)
      clear hown hnv hnn
      go_wp2
      go_ret
      exact ⟨⟨_, _, rfl, ho⟩, hbw⟩
end Go.Proofs.Ytjhmenjoanfloaa


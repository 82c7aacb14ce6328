/- Chapters 20 and 21: NegateLiterals and TrueVariables, the model's and the program's. -/
import Derived.Test.YtlhdagpimcafaaaDoorVarOne
import Derived.Test.YtlhdagpimcafaaaDoorQvOne
namespace Go.Proofs.YtlhdagpimcafaaaDoor
open Go.RowKit
set_option linter.unusedVariables false
set_option maxRecDepth 100000

/-- The negated literals. -/
def negL (l : List Int) : List Int := l.map fun x => wrap64 (-x)
theorem negL_len (l : List Int) : (negL l).length = l.length := by simp [negL]
theorem negL_take (l : List Int) (k : Nat) (hk : k < l.length) : negL (l.take (k + 1)) = negL (l.take k) ++ [wrap64 (-l[k])] := by
  unfold negL
  rw [List.take_succ_eq_append_getElem hk, List.map_append]; rfl
theorem negL_inR (l : List Int) : ∀ x, x ∈ negL l → inR x := by
  intro x hx
  obtain ⟨y, _, rfl⟩ := List.mem_map.1 hx
  unfold inR wrap64
  omega
set_option maxHeartbeats 1600000 in
theorem specNegateLiterals_c {a : Option Addr} {cap : Nat} {l : List Int} {w : World} (hs : l.length ≤ 1048576) (h : At (cSlice cInt) w l [.slice a l.length cap]) :
    Calls Tryd.prog 32 #[.slice a l.length cap] w fun e w' => (∃ a cap, e = .returned (.slice a (negL l).length cap) ∧ Own (cSlice cInt) w.heap.size w' (negL l) [.slice a (negL l).length cap]) ∧ Below w.heap.size w w' := by
  have Hr : Hid (∀ w' : World, Below w.heap.size w w' → ∀ j (hj : j < l.length), _) := fun w' hb j hj => ints_at (Cod.ok_below h hb) j hj
  clear h
  have Hin := Lib.hid (negL_inR l)
  have Hlast : Hid (negL (l.take l.length) = negL l) := by show _ = _; rw [List.take_length]
  have hlen0 := negL_len l
  rw [hlen0]
  obtain ⟨n, hn⟩ : ∃ n : Nat, l.length = n := ⟨_, rfl⟩
  have Hn := Lib.hid hn
  rw [hn] at hs Hlast hlen0 ⊢
  clear hn
  generalize negL l = NL at *
  obtain ⟨i0, hi, hz0, hz1, hz2⟩ := info_parts Tryd.infoI
  have hown0 : (w.alloc (Obj.cells #[] 3)).ownsRow w.heap.size 3 1 (.slice (some ⟨w.heap.size, 0, none⟩) 0 0) (negL (l.take 0)).length ((negL (l.take 0)).map iv) := row_emptyV w 3 w.heap.size (Nat.le_refl _)
  have hbe : Below w.heap.size w (w.alloc (Obj.cells #[] 3)) := by go_grown
  go_enter Tryd.func32, Tryd.ntmps32
  go_wp2
  go_loopw [3, 4] (fun ov kv wr => ∃ (k : Nat) (o : Value), o = ov ∧ k ≤ n ∧ kv = .int .i64 k ∧ wr.ownsRow w.heap.size 3 1 o (negL (l.take k)).length ((negL (l.take k)).map iv) ∧ Below w.heap.size w wr) (fun _ kv _ => n - (intOf kv).toNat)
  case atStart => exact ⟨0, _, rfl, by omega, by go_num, hown0, hbe⟩
  case round =>
    clear hown0 hbe
    obtain ⟨k, o, rfl, hk, rfl, hown, hbx⟩ := hrel
    by_cases hlt : k < n
    · have hkl : k < l.length := by rw [Hn.out]; exact hlt
      obtain ⟨b, off, rfl, hbB, c0⟩ := Hr.out _ hbx k hkl
      have Hs := Lib.hid (negL_take l k hkl)
      have hlen : (negL (l.take k)).length = k := by rw [negL_len, List.length_take]; omega
      generalize hcu : negL (l.take k) = cur at *
      clear hcu
      generalize l[k] = y at *
      have hownA : (wr.alloc (.cells #[.int .i64 (wrap64 (-y))] 3)).ownsRow w.heap.size 3 1 o cur.length (cur.map iv) := ownsRow_below hown (by go_grown)
      have hbA : Below w.heap.size w (wr.alloc (.cells #[.int .i64 (wrap64 (-y))] 3)) := hbx.trans ((by go_grown : Below wr.heap.size wr _).mono hbx.size)
      clear hown
      go_wp2_with (at_builtin; refine wpList_app rfl _ _ _ (by rfl) w.heap.size 3 i0 (.int .i64 0) 1 8 Tryd.underlying24 hi hz0 hz1 hz2 rfl (by omega) o cur.length (cur.map iv) (by rfl) hownA _ _ _ [.int .i64 (wrap64 (-y))] (by rfl) (srcs_oneV wr _ _ rfl) ?c1 ?c2 ?c3 ?_)
      case c1 => unfold maxLen; omega
      case c2 => omega
      case c3 => exact hbA.size
      intro v1 w3 hown3 hg3 _
      have hown4 := own_pushV (w := w3) hown3
      have hb4 : Below w.heap.size w w3 := Below.grownOwn hbA hg3 hownA (Nat.le_refl _)
      clear hown3 hg3 hownA hbA
      go_wp2
      go_roundw
      case rel => exact ⟨k + 1, _, rfl, by omega, by go_num, by rw [Hs.out]; exact hown4, hb4⟩
      case measure => simp [intOf]; omega
    · obtain rfl : k = n := by omega
      rw [Hlast.out] at hown
      obtain ⟨oa, oc, rfl⟩ := own_formV hown
      have ho := own_ints hown Hin.out
      clear hown
      rw [hlen0] at ho ⊢
      go_wp2
      go_ret
      exact ⟨⟨_, _, rfl, ho⟩, hbx⟩
theorem negLit_c {y : Int} {w : World} : Calls Tryd.prog 62 #[.int .i64 y] w fun e w' => e = .returned (.int .i64 (wrap64 (-y))) ∧ w = w' := by
  go_enter Tryd.func62, Tryd.ntmps62
  go_wp2
  go_ret
  exact ⟨rfl, rfl⟩
set_option maxHeartbeats 1600000 in
theorem convertNeg_c {a : Option Addr} {cap : Nat} {l : List Int} {w : World} (hs : l.length ≤ 1048576) (h : At (cSlice cInt) w l [.slice a l.length cap]) :
    Calls Tryd.prog 52 #[.slice a l.length cap, .func (.func 62) #[] #[]] w fun e w' => (∃ a cap, e = .returned (.slice a (negL l).length cap) ∧ Own (cSlice cInt) w.heap.size w' (negL l) [.slice a (negL l).length cap]) ∧ Below w.heap.size w w' := by
  have Hr : Hid (∀ w' : World, Below w.heap.size w w' → ∀ j (hj : j < l.length), _) := fun w' hb j hj => ints_at (Cod.ok_below h hb) j hj
  clear h
  have Hin := Lib.hid (negL_inR l)
  have hlen0 := negL_len l
  rw [hlen0]
  obtain ⟨n, hn⟩ : ∃ n : Nat, l.length = n := ⟨_, rfl⟩
  have Hn := Lib.hid hn
  rw [hn] at hs hlen0 ⊢
  clear hn
  obtain ⟨NL, hNL⟩ : ∃ NL, negL l = NL := ⟨_, rfl⟩
  have Hget : Hid (∀ j (hj : j < l.length) (hj2 : j < NL.length), NL[j] = wrap64 (-l[j])) := by
    intro j hj hj2
    subst hNL
    simp [negL]
  rw [hNL] at Hin hlen0 ⊢
  clear hNL
  obtain ⟨i0, hi, hz0, hz1, hz2⟩ := info_parts Tryd.infoI
  have HC : Hid (∀ (y : Int) ww, Calls Tryd.prog 62 #[.int .i64 y] ww fun e w' => e = .returned (.int .i64 (wrap64 (-y))) ∧ ww = w') := fun y ww => negLit_c
  go_enter Tryd.func52, Tryd.ntmps52
  go_wp2_with (at_make; refine wpList_make_full _ rfl (.tmp 9) (.tmp 9) 24 rfl w.heap.size 3 i0 (.int .i64 0) 1 Tryd.underlying24 hi hz0 hz1 .i64 .i64 n n n rfl rfl rfl rfl ?c1 ?c2 (Nat.le_refl _) ?_)
  case c1 => rw [hz2]; omega
  case c2 => unfold maxLen; omega
  intro w1 hown hg1
  rw [made_ints n NL] at hown
  have hb0 : Below w.heap.size w w1 := (Below.refl _ _).grown hg1 (Nat.le_refl _) (fun k hk => by cases hk)
  clear hg1 hi hz0 hz1 hz2
  go_wp2
  go_loopw [13] (fun iv wr => ∃ k : Nat, k ≤ n ∧ iv = .int .i64 k ∧ wr.ownsRow w.heap.size 3 1 (.slice (some ⟨w.heap.size, 0, none⟩) n n) n (doneI NL k n) ∧ Below w.heap.size w wr) (fun iv _ => n - (intOf iv).toNat)
  case atStart => exact ⟨0, by omega, by go_num, hown, hb0⟩
  case round =>
    clear hown hb0
    obtain ⟨k, hk, rfl, hown, hb⟩ := hrel
    by_cases hlt : k < n
    · have hkl : k < l.length := by rw [Hn.out]; exact hlt
      have hkn : k < NL.length := by omega
      obtain ⟨b, off, rfl, hbB, c0⟩ := Hr.out _ hb k hkl
      have Hstep := Lib.hid (doneI_step NL k n hlen0 hlt hkn)
      rw [Hget.out k hkl hkn] at Hstep
      have f0 := hown.frozenAt k
      have d0 := (hown.cellAt k (by omega)).trans (doneI_at NL k n hlen0 hlt)
      generalize hrk : l[k] = r at *
      clear hrk
      go_wp2_with fail
      refine (HC.out _ _).mono ?_
      rintro e w2 ⟨rfl, rfl⟩
      go_wp2
      go_roundw
      case rel =>
        have h1 := (hown.stored k (.int .i64 (wrap64 (-r)))).1
        rw [Hstep.out] at h1
        exact ⟨k + 1, by omega, by go_num, h1, hb.setCell (Nat.le_refl _) _⟩
      case measure => simp [intOf]; omega
    · obtain rfl : k = n := by omega
      rw [doneI_all NL k hlen0] at hown
      have ho := own_ints hown Hin.out
      clear hown
      go_wp2
      go_ret
      exact ⟨⟨_, _, rfl, ho⟩, hb⟩
theorem implNegateLiterals_c {a : Option Addr} {cap : Nat} {l : List Int} {w : World} (hs : l.length ≤ 1048576) (h : At (cSlice cInt) w l [.slice a l.length cap]) :
    Calls Tryd.prog 50 #[.slice a l.length cap] w fun e w' => (∃ a cap, e = .returned (.slice a (negL l).length cap) ∧ Own (cSlice cInt) w.heap.size w' (negL l) [.slice a (negL l).length cap]) ∧ Below w.heap.size w w' := by
  have HC := Lib.hid (convertNeg_c hs h)
  clear hs h
  generalize negL l = NL at *
  generalize l.length = n at *
  go_enter Tryd.func50, Tryd.ntmps50
  go_wp2_with fail
  refine HC.out.mono ?_
  rintro e w1 ⟨⟨oa, oc, rfl, ho⟩, hb1⟩
  go_wp2
  go_ret
  exact ⟨⟨_, _, rfl, ho⟩, hb1⟩

/-- The places below k that are true. -/
def tPart (l : List Bool) (k : Nat) : List Int := ((List.range k).filter fun (v : Nat) => l.getD v false).map fun (v : Nat) => (v : Int)
def truesL (l : List Bool) : List Int := tPart l l.length
theorem tPart_succ (l : List Bool) (k : Nat) (hk : k < l.length) : tPart l (k + 1) = if l[k] = true then tPart l k ++ [(k : Int)] else tPart l k := by
  unfold tPart
  have hg : l.getD k false = l[k] := by simp [hk]
  rw [List.range_succ, List.filter_append, List.map_append]
  cases h : l[k]
  · rw [if_neg Bool.false_ne_true, List.filter_cons, if_neg (by rw [hg, h]; exact Bool.false_ne_true)]; simp
  · rw [if_pos rfl, List.filter_cons, if_pos (by rw [hg, h])]; rfl
theorem tPart_len (l : List Bool) (k : Nat) : (tPart l k).length ≤ k := by
  unfold tPart
  rw [List.length_map]
  exact Nat.le_trans (List.length_filter_le _ _) (by simp)
theorem tPart_inR (l : List Bool) (k : Nat) (hk : k ≤ 1048576) : ∀ x, x ∈ tPart l k → inR x := by
  intro x hx
  obtain ⟨v, hv, rfl⟩ := List.mem_map.1 hx
  have := List.mem_range.1 (List.mem_filter.1 hv).1
  unfold inR
  omega
theorem negL_bnd {l : List Int} (h : l.length ≤ 1048576) : (negL l).length ≤ 4611686018427000000 := by rw [negL_len]; omega
theorem truesL_bnd {l : List Bool} (h : l.length ≤ 1048576) : (truesL l).length ≤ 4611686018427000000 := by have := tPart_len l l.length; unfold truesL; omega
end Go.Proofs.YtlhdagpimcafaaaDoor


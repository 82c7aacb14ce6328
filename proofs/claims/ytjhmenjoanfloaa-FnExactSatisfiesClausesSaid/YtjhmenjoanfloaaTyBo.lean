/- Slices of booleans: the laws' helpers on them (copy, equality, marks), as a row reads them. -/
import Derived.Test.YtjhmenjoanfloaaTyA
import Derived.Test.YtjhmenjoanfloaaRd
import Derived.Test.YtjhmenjoanfloaaMarkB
namespace Go.Proofs.Ytjhmenjoanfloaa
open Go.RowKit
set_option linter.unusedVariables false
set_option maxRecDepth 100000

def bv (x : Bool) : Value := .bool x
/-- A slice of booleans: element j. -/
theorem bools_at {B : Nat} {w : World} {l : List Bool} {a : Option Addr} {len cap : Nat} (h : (cSlice cBool).ok B w l [.slice a len cap]) (j : Nat) (hj : j < l.length) :
    ∃ b off, a = some ⟨b, off, none⟩ ∧ b < B ∧ w.cell? ⟨b, off + j, none⟩ = some (.bool l[j]) := by
  obtain ⟨b, off, es, rfl, hb, he, hc⟩ := slice_at h j hj
  obtain rfl := he
  exact ⟨b, off, rfl, hb, by simpa [cBool] using hc 0 (by decide)⟩
/-- The row when k numbers are written: the first k, then zeros. -/
def doneB (l : List Bool) (k n : Nat) : List Value := (l.take k).map bv ++ List.replicate (n - k) (bv false)
theorem doneB_step (l : List Bool) (k n : Nat) (hn : l.length = n) (hk : k < n) (hkl : k < l.length) : (doneB l k n).set k (.bool l[k]) = doneB l (k + 1) n := by
  unfold doneB
  have e1 : n - k = (n - (k + 1)) + 1 := by omega
  have e2 : ((l.take k).map bv).length = k := by simp; omega
  rw [e1, List.replicate_succ, List.set_append_right _ _ (by omega), e2, Nat.sub_self, List.set_cons_zero, List.take_succ_eq_append_getElem hkl, List.map_append]
  simp [bv]
theorem doneB_all (l : List Bool) (n : Nat) (h : l.length = n) : doneB l n n = l.map bv := by subst h; simp [doneB]
theorem doneB_at (l : List Bool) (k n : Nat) (hn : l.length = n) (hk : k < n) : (doneB l k n)[k]? = some (.bool false) := by
  have e1 : n - k = (n - (k + 1)) + 1 := by omega
  have e2 : ((l.take k).map bv).length = k := by simp; omega
  unfold doneB
  rw [e1, List.replicate_succ, List.getElem?_append_right (by omega), e2]
  simp [bv]
theorem made_bools (n : Nat) (l : List Bool) : (madeCells #[.bool false] n).toList = doneB l 0 n := by
  unfold doneB madeCells
  apply List.ext_getElem
  · simp
  · intro i h1 h2
    simp [bv, Nat.mod_one]
theorem flat_bools (l : List Bool) : (l.map fun x => [bv x]).flatten = l.map bv := by
  induction l with
  | nil => rfl
  | cons x l ih => simp [ih]
theorem Try.infoBo : (Try.prog.info? 4).map (fun i => (i.zero, i.size, i.bytes)) = some (some (.bool false), 1, 1) := by kernel_rfl
/-- A row of numbers of the call's own. -/
theorem own_bools {w : World} {base : Nat} {e : TypeId} {v : Value} {n : Nat} {l : List Bool} (h : w.ownsRow base e 1 v n (l.map bv)) : Own (cSlice cBool) base w l [v] := by
  have hn : l.length = n := by simpa using h.1
  subst hn
  rcases h.2 with ⟨rfl, h0⟩ | ⟨g, cap, cur, rfl, hb, hg, h1, h2, _⟩
  · obtain rfl := List.eq_nil_of_length_eq_zero h0
    exact Own.nil _ _
  · exact Own.slice (c := cBool) (F := []) (css := l.map fun x => [bv x]) (ownL_flat (c := cBool) (fun x => [bv x]) w l (fun x hx => ⟨rfl, rfl⟩)) (by rw [flat_bools]; exact h) (by simp) (by omega)
set_option maxHeartbeats 800000 in
theorem toBoolS_c {a : Option Addr} {cap : Nat} {l : List Bool} {w : World} (hs : l.length ≤ 1048576) (h : At (cSlice cBool) w l [.slice a l.length cap]) :
    Calls Try.prog 32 #[.slice a l.length cap] w fun e w' => (∃ a' cap', e = .returned (.slice a' l.length cap') ∧ Own (cSlice cBool) w.heap.size w' l [.slice a' l.length cap']) ∧ Below w.heap.size w w' := by
  obtain ⟨n, hn⟩ : ∃ n : Nat, l.length = n := ⟨_, rfl⟩
  have Hn := Lib.hid hn
  have Hr : Hid (∀ w' : World, Below w.heap.size w w' → ∀ j (hj : j < l.length), ∃ b off, a = some ⟨b, off, none⟩ ∧ b < w.heap.size ∧ w'.cell? ⟨b, off + j, none⟩ = some (.bool l[j])) := fun w' hb j hj => bools_at (Cod.ok_below h hb) j hj
  rw [hn] at hs h ⊢
  clear hn h
  obtain ⟨i0, hi, hz0, hz1, hz2⟩ := info_parts Try.infoBo
  go_enter Try.func32, Try.ntmps32
  go_wp2_with (at_make; refine wpList_make_full _ rfl (.tmp 6) (.tmp 6) 46 rfl w.heap.size 4 i0 (.bool false) 1 Try.underlying46 hi hz0 hz1 .i64 .i64 n n n rfl rfl rfl rfl ?c1 ?c2 (Nat.le_refl _) ?_)
  case c1 => rw [hz2]; omega
  case c2 => unfold maxLen; omega
  intro w1 hown hg1
  rw [made_bools n l] at hown
  have hb0 : Below w.heap.size w w1 := (Below.refl _ _).grown hg1 (Nat.le_refl _) (fun k hk => by cases hk)
  clear hg1 hi hz0 hz1 hz2
  go_wp2
  go_loopw [4] (fun iv wr => ∃ k : Nat, k ≤ n ∧ iv = .int .i64 k ∧ wr.ownsRow w.heap.size 4 1 (.slice (some ⟨w.heap.size, 0, none⟩) n n) n (doneB l k n) ∧ Below w.heap.size w wr) (fun iv _ => n - (intOf iv).toNat)
  case atStart => exact ⟨0, by omega, by go_num, hown, hb0⟩
  case round =>
    clear hown hb0
    obtain ⟨k, hk, rfl, hown, hb⟩ := hrel
    by_cases hlt : k < n
    · have hkl : k < l.length := by rw [Hn.out]; exact hlt
      obtain ⟨b, off, rfl, hbB, c0⟩ := Hr.out _ hb k hkl
      have Hstep := Lib.hid (doneB_step l k n Hn.out hlt hkl)
      have f0 := hown.frozenAt k
      have d0 := (hown.cellAt k (by omega)).trans (doneB_at l k n Hn.out hlt)
      generalize hrk : l[k] = r at *
      clear hrk
      go_wp2
      go_roundw
      case rel =>
        have h1 := (hown.stored k (.bool r)).1
        rw [Hstep.out] at h1
        exact ⟨k + 1, by omega, by go_num, h1, hb.setCell (Nat.le_refl _) _⟩
      case measure => simp [intOf]; omega
    · obtain rfl : k = n := by omega
      rw [doneB_all l k Hn.out] at hown
      go_wp2
      go_ret
      exact ⟨⟨_, _, rfl, own_bools hown⟩, hb⟩
theorem eqBoolS_c {a a' : Option Addr} {cap cap' : Nat} {l m : List Bool} {w : World} (h : At (cSlice cBool) w l [.slice a l.length cap]) (h' : At (cSlice cBool) w m [.slice a' m.length cap']) :
    Calls Try.prog 34 #[.slice a l.length cap, .slice a' m.length cap'] w fun e w' => e = .returned (.bool (decide (l = m))) ∧ Below w.heap.size w w' := by
  have hm := (slice_len h).2
  have hm' := (slice_len h').2
  unfold maxLen at hm hm'
  by_cases hne : l.length = m.length
  · obtain ⟨n, hn⟩ : ∃ n : Nat, l.length = n := ⟨_, rfl⟩
    have Hr : Hid (∀ w' : World, Below w.heap.size w w' → ∀ j (hj : j < l.length), ∃ b off, a = some ⟨b, off, none⟩ ∧ b < w.heap.size ∧ w'.cell? ⟨b, off + j, none⟩ = some (.bool l[j])) := fun w' hb j hj => bools_at (Cod.ok_below h hb) j hj
    have Hr' : Hid (∀ w' : World, Below w.heap.size w w' → ∀ j (hj : j < m.length), ∃ b off, a' = some ⟨b, off, none⟩ ∧ b < w.heap.size ∧ w'.cell? ⟨b, off + j, none⟩ = some (.bool m[j])) := fun w' hb j hj => bools_at (Cod.ok_below h' hb) j hj
    clear h h'
    rw [← hne, hn]
    have Hn := Lib.hid hn
    have Hm : Hid (m.length = n) := by rw [← hne]; exact hn
    have hm2 : n ≤ 2 ^ 63 - 1 := by omega
    generalize hR : decide (l = m) = R
    have HR : Hid (decide (l.drop 0 = m.drop 0) = R) := hR
    clear hR hne hn hm hm'
    go_enter Try.func34, Try.ntmps34
    go_wp2
    go_loopw [5] (fun iv wr => ∃ k : Nat, k ≤ n ∧ iv = .int .i64 k ∧ Hid (decide (l.drop k = m.drop k) = R) ∧ Below w.heap.size w wr) (fun iv _ => n - (intOf iv).toNat)
    case atStart => exact ⟨0, by omega, by go_num, HR, Below.refl _ _⟩
    case round =>
      obtain ⟨k, hk, rfl, Hq, hb⟩ := hrel
      by_cases hlt : k < n
      · have hkl : k < l.length := by rw [Hn.out]; exact hlt
        have hkm : k < m.length := by rw [Hm.out]; exact hlt
        have Hst : Hid (R = (decide (l[k] = m[k]) && decide (l.drop (k + 1) = m.drop (k + 1)))) := by
          show R = _
          rw [← Hq.out, ← Bool.decide_and]; congr 1; rw [List.drop_eq_getElem_cons hkl, List.drop_eq_getElem_cons hkm, List.cons.injEq]
        obtain ⟨b, off, rfl, hbB, c0⟩ := Hr.out _ hb k hkl
        obtain ⟨b', off', rfl, hbB', c0'⟩ := Hr'.out _ hb k hkm
        generalize hrk : l[k] = r at *
        generalize hrk' : m[k] = r' at *
        clear hrk hrk'
        cases r with
        | false =>
          cases r' with
          | false =>
            have hst := Hst.out
            rw [decide_eq_true rfl, Bool.true_and] at hst
            have Hst2 := Lib.hid hst.symm
            clear hst Hst
            go_wp2
            go_quiet (fail)
            go_wp2
            go_roundw
            case rel => exact ⟨k + 1, by omega, by go_num, Hst2, Below.drewN' hb _⟩
            case measure => simp [intOf]; omega
          | true =>
            have hR : R = false := by have := Hst.out; rw [decide_eq_false (by simp), Bool.false_and] at this; exact this
            clear Hst
            go_wp2
            go_quiet (fail)
            go_wp2
            go_ret
            exact ⟨by rw [hR]; rfl, Below.drewN' hb _⟩
        | true =>
          cases r' with
          | false =>
            have hR : R = false := by have := Hst.out; rw [decide_eq_false (by simp), Bool.false_and] at this; exact this
            clear Hst
            go_wp2
            go_quiet (fail)
            go_wp2
            go_ret
            exact ⟨by rw [hR]; rfl, Below.drewN' hb _⟩
          | true =>
            have hst := Hst.out
            rw [decide_eq_true rfl, Bool.true_and] at hst
            have Hst2 := Lib.hid hst.symm
            clear hst Hst
            go_wp2
            go_quiet (fail)
            go_wp2
            go_roundw
            case rel => exact ⟨k + 1, by omega, by go_num, Hst2, Below.drewN' hb _⟩
            case measure => simp [intOf]; omega
      · obtain rfl : k = n := by omega
        have hR : R = true := by
          have := Hq.out
          rw [List.drop_eq_nil_of_le (by rw [Hn.out]; exact Nat.le_refl _), List.drop_eq_nil_of_le (by rw [Hm.out]; exact Nat.le_refl _)] at this
          simpa using this.symm
        go_wp2
        go_ret
        exact ⟨by rw [hR]; rfl, hb⟩
  · rw [decide_eq_false (fun e => hne (by rw [e]))]
    have hne2 : (l.length != m.length) = true := by simpa using hne
    go_enter Try.func34, Try.ntmps34
    go_wp2
    go_ret
    exact ⟨rfl, Below.refl _ _⟩
theorem Try.cells_bool : Try.prog.cellsOf 4 = 1 := by kernel_rfl
section
open Go.Deep
variable {H : Type} {enc : TypeId × Value → H} {P : Program} {w : World} {base : Nat} {spare : Nat → Bool} {held : Bool}
theorem rd_bool {t : TypeId} (ht : P.underlying t = some .bool) {fuel : Nat} {cs : List Value} {x : DataW H × List MemPlace} (h : DataW.trod enc P w base spare held fuel t cs = some x) : ∃ y, cBool.ok w.heap.size w y cs := by
  obtain ⟨b, e, _⟩ := DataW.trod_bool ht h
  exact ⟨b, e⟩
theorem row_boolS {r0 : Reach} {b0 : Nat} {v : Value} {d : DataW H} {ps : List MemPlace} (hval : Value.okWide Try.prog w r0 b0 46 v) (h : DataW.Trod enc Try.prog w base spare held 46 v d ps) : ∃ a cap l, v = .slice a l.length cap ∧ At (cSlice cBool) w l [.slice a l.length cap] := row_slice Try.underlying46 Try.cells_bool (by decide) (fun _ _ _ h => rd_bool Try.underlying4 h) hval h
end
def markB (k : Nat) (l : List Bool) : List Bool := markL (fun k _ => decide (k % 3 = 0)) (fun _ => 1) k l
theorem markB_length (k : Nat) (l : List Bool) : (markB k l).length = l.length := markL_length _ _ _ _
set_option maxHeartbeats 800000 in
theorem markBoolS_c {F : List Nat} {a : Option Addr} {cap : Nat} {l : List Bool} {k : Nat} {w : World} (hk : (k + l.length : Nat) ≤ 4611686018427387904) (hF : ∀ k, k ∈ F → k < w.heap.size) (h : (cSlice cBool).own F w l [.slice a l.length cap]) :
    Calls Try.prog 35 #[.slice a l.length cap, .int .i64 k] w fun e w' => e = .returned (.int .i64 ((k + l.length : Nat) : Int)) ∧ (cSlice cBool).own F w' (markB k l) [.slice a l.length cap] ∧ Only F w w' := by
  have hm := (own_slice_len h).1
  have Hcp := Lib.hid (own_slice_len h).2
  rcases Nat.eq_zero_or_pos l.length with h0 | h0
  · have hl := List.eq_nil_of_length_eq_zero h0
    subst hl
    have Ho := Lib.hid h
    clear h hm h0
    simp only [List.length_nil] at *
    go_enter Try.func35, Try.ntmps35
    go_wp2
    go_loopw [1, 5] (fun kv iv wr => kv = .int .i64 k ∧ iv = .int .i64 0 ∧ wr = w) (fun _ _ _ => 0)
    case atStart => exact ⟨rfl, rfl, rfl⟩
    case round =>
      obtain ⟨rfl, rfl, rfl⟩ := hrel
      go_wp2
      go_ret
      exact ⟨rfl, Ho.out, Only.refl _ _⟩
  · obtain ⟨g, off, G, es, rfl, hS⟩ := SL.of_own h hF h0
    clear h h0
    obtain ⟨n, hn⟩ : ∃ n : Nat, l.length = n := ⟨_, rfl⟩
    have Hn := Lib.hid hn
    rw [hn] at hk ⊢
    unfold maxLen at hm
    rw [hn] at hm
    clear hn
    generalize hM : markB k l = M
    have HM : Hid ([] ++ markL (fun k _ => decide (k % 3 = 0)) (fun _ => 1) k (l.drop 0) = M) := hM
    have HS : Hid (SL cBool F g off G es w ([] ++ l.drop 0)) := hS
    have HgF : Hid (g ∈ F) := hS.gF
    clear hM hS hF
    go_enter Try.func35, Try.ntmps35
    go_wp2
    go_loopw [1, 5] (fun kv iv wr => ∃ (j : Nat) (dn : List Bool) (es : Nat → List Value), j ≤ n ∧ kv = .int .i64 ((k + j : Nat) : Int) ∧ iv = .int .i64 j ∧ Hid (dn.length = j) ∧ Hid (dn ++ markL (fun k _ => decide (k % 3 = 0)) (fun _ => 1) (k + j) (l.drop j) = M) ∧ Hid (SL cBool F g off G es wr (dn ++ l.drop j)) ∧ Only F w wr) (fun _ iv _ => n - (intOf iv).toNat)
    case atStart => exact ⟨0, [], es, by omega, by go_num, by go_num, rfl, HM, HS, Only.refl _ _⟩
    case round =>
      clear HM HS
      obtain ⟨j, dn, es, hj, rfl, rfl, Hd, HM, HS, ho⟩ := hrel
      by_cases hlt : j < n
      · have hjl : j < l.length := by rw [Hn.out]; exact hlt
        have hdl := List.drop_eq_getElem_cons hjl
        have hjl2 : j < (dn ++ l.drop j).length := by rw [List.length_append, List.length_drop, Hd.out]; omega
        have hel := HS.out.el j hjl2
        have hfr := HS.out.fr j (by show j < _ * 1; omega)
        obtain ⟨⟨he, hG⟩, hc⟩ := hel
        have hc0 : wr.cell? ⟨g, off + j, none⟩ = some (.bool (dn ++ l.drop j)[j]) := by
          have := hc 0 (by decide)
          rw [he] at this
          simpa [cBool] using this
        have Hc := Lib.hid hc0
        have HG := Lib.hid hG
        generalize (dn ++ l.drop j)[j] = z at hc0
        clear hc he hG
        have hm3 : (((k : Int) + (j : Int)) % 3 == 0) = decide ((k + j) % 3 = 0) := by rw [Bool.eq_iff_iff]; simp; omega
        go_wp2
        go_roundw
        case rel =>
          (try rw [hm3])
          have hw : (wr.setCell ⟨g, off + j, none⟩ (.bool (decide ((k + j) % 3 = 0)))).cell? ⟨g, off + j, none⟩ = some (.bool (decide ((k + j) % 3 = 0))) := World.cell?_setCell_same _ _ _ hc0
          have hu := HS.out.upd (w' := wr.setCell ⟨g, off + j, none⟩ (.bool (decide ((k + j) % 3 = 0)))) j hjl2 (decide ((k + j) % 3 = 0)) [.bool (decide ((k + j) % 3 = 0))] (by simp [World.setCell]) (fun i => World.frozen?_setCell _ _ _ _)
            (fun i hi => World.cell?_setCell_other _ _ _ _ (by intro e; simp at e; have : cBool.n = 1 := rfl; rw [this] at hi; omega))
            (fun kk hk1 hk2 _ => heap_setCell_other _ _ _ _ hk2) ⟨rfl, HG.out⟩ (by
              intro i hi
              have : cBool.n = 1 := rfl
              rw [this] at hi
              obtain rfl : i = 0 := by omega
              simpa [this] using hw)
          rw [hdl, set_mid dn _ _ _ j Hd.out] at hu
          have hM2 := HM.out
          rw [markL_drop _ _ _ _ _ hjl] at hM2
          refine ⟨j + 1, dn ++ [decide ((k + j) % 3 = 0)], _, by omega, by go_num, by go_num, show _ = _ by simp [Hd.out], show _ = _ by rw [← hM2]; simp [Nat.add_assoc], hu, ho.setCell HgF.out _⟩
        case measure => simp [intOf]; omega
      · obtain rfl : j = n := by omega
        have hd : l.drop j = [] := List.drop_eq_nil_of_le (by rw [Hn.out]; exact Nat.le_refl _)
        have hM2 := HM.out
        have hS2 := HS.out
        rw [hd] at hM2 hS2
        simp only [markL, List.append_nil] at hM2 hS2
        subst hM2
        have hown := hS2.own cap (by rw [Hd.out]; have hcp := Hcp.out; have hnn := Hn.out; unfold maxLen; exact ⟨by omega, by omega⟩)
        rw [Hd.out] at hown
        have Hown := Lib.hid hown
        clear hown hS2 hd
        go_wp2
        go_ret
        exact ⟨rfl, Hown.out, ho⟩
end Go.Proofs.Ytjhmenjoanfloaa


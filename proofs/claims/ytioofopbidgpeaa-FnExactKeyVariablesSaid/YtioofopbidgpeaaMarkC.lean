/- The laws' marks, read again in slices of numbers; marks in relations. -/
import Derived.Test.YtioofopbidgpeaaMarkB
import Derived.Test.YtioofopbidgpeaaTyC
import Derived.Test.YtioofopbidgpeaaGrow
namespace Go.Proofs.Ytioofopbidgpeaa
open Go.RowKit
set_option linter.unusedVariables false
set_option maxRecDepth 100000

theorem markI_get (k : Nat) (l : List Int) (j : Nat) (hj : j < (markI k l).length) : (markI k l)[j] = ((k + j : Nat) : Int) := by
  induction l generalizing k j with
  | nil => simp [markI, markL] at hj
  | cons x l ih =>
    cases j with
    | zero => simp [markI, markL]
    | succ j =>
      have := ih (k + 1) j (by simpa [markI, markL] using hj)
      simp only [markI, markL, List.getElem_cons_succ] at this ⊢
      rw [this]; omega
theorem heldIntS_c {a : Option Addr} {cap : Nat} {l : List Int} {k : Nat} {w : World} (hk : (k + l.length : Nat) ≤ 4611686018427387904) (hM : ∀ j (hj : j < l.length), l[j] = ((k + j : Nat) : Int)) (h : At (cSlice cInt) w l [.slice a l.length cap]) :
    Calls Try.prog 30 #[.slice a l.length cap, .int .i64 k] w fun e w' => e = .returned (.int .i64 ((k + l.length : Nat) : Int)) ∧ Below w.heap.size w w' := by
  have hm := (slice_len h).2
  unfold maxLen at hm
  obtain ⟨n, hn⟩ : ∃ n : Nat, l.length = n := ⟨_, rfl⟩
  have Hr : Hid (∀ w' : World, Below w.heap.size w w' → ∀ j (hj : j < l.length), _) := fun w' hb j hj => ints_at (Cod.ok_below h hb) j hj
  have HM := Lib.hid hM
  have Hn := Lib.hid hn
  rw [hn] at hk hm ⊢
  clear hn h hM
  go_enter Try.func30, Try.ntmps30
  go_wp2
  go_loopw [1, 5] (fun kv iv wr => ∃ j : Nat, j ≤ n ∧ kv = .int .i64 ((k + j : Nat) : Int) ∧ iv = .int .i64 j ∧ Below w.heap.size w wr) (fun _ iv _ => n - (intOf iv).toNat)
  case atStart => exact ⟨0, by omega, by go_num, by go_num, Below.refl _ _⟩
  case round =>
    obtain ⟨j, hj, rfl, rfl, hb⟩ := hrel
    by_cases hlt : j < n
    · have hjl : j < l.length := by rw [Hn.out]; exact hlt
      obtain ⟨b, off, rfl, hbB, c0⟩ := Hr.out _ hb j hjl
      rw [HM.out j hjl] at c0
      have hne : (((k + j : Nat) : Int) != ((k + j : Nat) : Int)) = false := bne_self_eq_false _
      go_wp2
      go_roundw
      case rel => exact ⟨j + 1, by omega, by go_num, by go_num, hb⟩
      case measure => simp [intOf]; omega
    · obtain rfl : j = n := by omega
      go_wp2
      go_ret
      exact ⟨rfl, hb⟩

theorem cRel_own_nil {F : List Nat} {w : World} {x : Rel} {cs : List Value} (h : cRel.own F w x cs) : F = [] := by
  obtain ⟨_, _, F1, F2, _, ⟨_, rfl⟩, ⟨_, _, F3, F4, _, ⟨_, rfl⟩, ⟨_, rfl⟩, rfl, _⟩, rfl, _⟩ := h
  rfl
/-- Marks in a relation; in a list of relations. -/
def markR (k : Nat) (_ : Rel) : Rel := ⟨mT k, ((k + 1 : Nat) : Int), ((k + 2 : Nat) : Int)⟩
def markRs (k : Nat) (l : List Rel) : List Rel := markL markR (fun _ => 3) k l
theorem lvs_three (l : List Rel) : lvs (fun _ => 3) l = l.length * 3 := by
  induction l with
  | nil => rfl
  | cons x l ih => unfold lvs at *; rw [List.map_cons, List.sum_cons, ih, List.length_cons]; omega
theorem inR_nat {k : Nat} (h : k ≤ 4611686018427387904) : inR (k : Int) := by unfold inR; omega
set_option maxHeartbeats 1600000 in
theorem markRelationS_c {F : List Nat} {a : Option Addr} {cap : Nat} {l : List Rel} {k : Nat} {w : World} (h1 : 1 ≤ k) (hk : (k + l.length * 3 : Nat) ≤ 4611686018427387900) (hF : ∀ k, k ∈ F → k < w.heap.size) (h : (cSlice cRel).own F w l [.slice a l.length cap]) :
    Calls Try.prog 27 #[.slice a l.length cap, .int .i64 k] w fun e w' => e = .returned (.int .i64 ((k + l.length * 3 : Nat) : Int)) ∧ (cSlice cRel).own F w' (markRs k l) [.slice a l.length cap] ∧ Only F w w' := by
  have hm := (own_slice_len h).1
  have Hcp := Lib.hid (own_slice_len h).2
  rcases Nat.eq_zero_or_pos l.length with h0 | h0
  · have hl := List.eq_nil_of_length_eq_zero h0
    subst hl
    have Ho := Lib.hid h
    clear h hm h0
    simp only [List.length_nil] at *
    go_enter Try.func27, Try.ntmps27
    go_wp2
    go_loopw [1, 5] (fun kv iv wr => kv = .int .i64 k ∧ iv = .int .i64 0 ∧ wr = w) (fun _ _ _ => 0)
    case atStart => exact ⟨rfl, rfl, rfl⟩
    case round =>
      obtain ⟨rfl, rfl, rfl⟩ := hrel
      go_wp2
      go_ret
      exact ⟨rfl, Ho.out, Only.refl _ _⟩
  · obtain ⟨g, off, G, es, rfl, hS⟩ := SL.of_own h hF h0
    clear h h0
    obtain ⟨n, hn⟩ : ∃ n : Nat, l.length = n := ⟨_, rfl⟩
    have Hn := Lib.hid hn
    rw [hn] at hk ⊢
    unfold maxLen at hm
    rw [hn] at hm
    clear hn
    generalize hM : markRs k l = M
    have HM : Hid ([] ++ markL markR (fun _ => 3) k (l.drop 0) = M) := hM
    have HS : Hid (SL cRel F g off G es w ([] ++ l.drop 0)) := hS
    have HgF : Hid (g ∈ F) := hS.gF
    clear hM hS hF
    go_enter Try.func27, Try.ntmps27
    go_wp2
    go_loopw [1, 5] (fun kv iv wr => ∃ (j : Nat) (dn : List Rel) (es : Nat → List Value), j ≤ n ∧ kv = .int .i64 ((k + j * 3 : Nat) : Int) ∧ iv = .int .i64 j ∧ Hid (dn.length = j) ∧ Hid (dn ++ markL markR (fun _ => 3) (k + j * 3) (l.drop j) = M) ∧ Hid (SL cRel F g off G es wr (dn ++ l.drop j)) ∧ Only F w wr) (fun _ iv _ => n - (intOf iv).toNat)
    case atStart => exact ⟨0, [], es, by omega, by go_num, by go_num, rfl, HM, HS, Only.refl _ _⟩
    case round =>
      clear HM HS
      obtain ⟨j, dn, es, hj, rfl, rfl, Hd, HM, HS, ho⟩ := hrel
      by_cases hlt : j < n
      · have hjl : j < l.length := by rw [Hn.out]; exact hlt
        have hdl := List.drop_eq_getElem_cons hjl
        have hjl2 : j < (dn ++ l.drop j).length := by rw [List.length_append, List.length_drop, Hd.out]; omega
        have hel := HS.out.el j hjl2
        have hfr : ∀ i, i < 3 → wr.frozen? ⟨g, off + j * 3 + i, none⟩ = false := by
          intro i hi
          have := HS.out.fr (j * 3 + i) (by show _ < _ * 3; omega)
          rw [← Nat.add_assoc] at this
          exact this
        obtain ⟨hG, hc⟩ := hel
        have he := (cRel_inv (cRel.ofO (B := F.sum + g + 1) hG (fun kk hkk => by have := le_sum (HS.out.sub j hjl2 kk hkk).1; omega))).1
        rw [he] at hc hG
        generalize (dn ++ l.drop j)[j] = z at hc hG
        have c0 : wr.cell? ⟨g, off + j * 3, none⟩ = some (.string z.name) := by exact hc 0 (by decide)
        have c1 : wr.cell? ⟨g, off + j * 3 + 1, none⟩ = some (.int .i64 z.arity) := by exact hc 1 (by decide)
        have c2 : wr.cell? ⟨g, off + j * 3 + 2, none⟩ = some (.int .i64 z.key) := by exact hc 2 (by decide)
        have f0 := hfr 0 (by decide)
        have f1 := hfr 1 (by decide)
        have f2 := hfr 2 (by decide)
        have hgw := World.block_lt_of_cell? wr _ c0
        have HG := Lib.hid hG
        clear hc he hG hfr
        go_wp2_with fail
        refine (markText_c (k + j * 3) (by omega) (by omega) _).mono ?_
        rintro e w1 ⟨rfl, hb1⟩
        have d0 := (hb1.cell (p := ⟨g, off + j * 3, none⟩) hgw).trans c0
        have d1 := (hb1.cell (p := ⟨g, off + j * 3 + 1, none⟩) hgw).trans c1
        have d2 := (hb1.cell (p := ⟨g, off + j * 3 + 2, none⟩) hgw).trans c2
        have g0 := (hb1.frozen (p := ⟨g, off + j * 3, none⟩) hgw).trans f0
        have g1 := (hb1.frozen (p := ⟨g, off + j * 3 + 1, none⟩) hgw).trans f1
        have g2 := (hb1.frozen (p := ⟨g, off + j * 3 + 2, none⟩) hgw).trans f2
        clear c0 c1 c2 f0 f1 f2
        go_wp2
        go_roundw
        case rel =>
          have hGj : G j = [] := cRel_own_nil HG.out
          have e0 := World.cell?_setCell_same _ _ (.string (mT (k + j * 3))) d0
          have e1 := World.cell?_setCell_same _ _ (.int .i64 ((k + j * 3 + 1 : Nat) : Int)) ((World.cell?_setCell_other w1 ⟨g, off + j * 3, none⟩ ⟨g, off + j * 3 + 1, none⟩ (.string (mT (k + j * 3))) (by simp)).trans d1)
          have e2 := World.cell?_setCell_same _ _ (.int .i64 ((k + j * 3 + 2 : Nat) : Int)) ((World.cell?_setCell_other _ ⟨g, off + j * 3 + 1, none⟩ ⟨g, off + j * 3 + 2, none⟩ (.int .i64 ((k + j * 3 + 1 : Nat) : Int)) (by simp)).trans ((World.cell?_setCell_other w1 ⟨g, off + j * 3, none⟩ ⟨g, off + j * 3 + 2, none⟩ (.string (mT (k + j * 3))) (by simp)).trans d2))
          have hu := HS.out.upd (w' := ((w1.setCell ⟨g, off + j * 3, none⟩ (.string (mT (k + j * 3)))).setCell ⟨g, off + j * 3 + 1, none⟩ (.int .i64 ((k + j * 3 + 1 : Nat) : Int))).setCell ⟨g, off + j * 3 + 2, none⟩ (.int .i64 ((k + j * 3 + 2 : Nat) : Int))) j hjl2
            (markR (k + j * 3) z) [.string (mT (k + j * 3)), .int .i64 ((k + j * 3 + 1 : Nat) : Int), .int .i64 ((k + j * 3 + 2 : Nat) : Int)] (by simp only [World.setCell, Array.size_modify]; exact hb1.size)
            (fun i => by rw [World.frozen?_setCell, World.frozen?_setCell, World.frozen?_setCell]; exact hb1.frozen hgw)
            (fun i hi => by
              have hn3 : cRel.n = 3 := rfl
              rw [hn3] at hi
              rw [World.cell?_setCell_other _ _ _ _ (by intro e; simp at e <;> omega), World.cell?_setCell_other _ _ _ _ (by intro e; simp at e <;> omega), World.cell?_setCell_other _ _ _ _ (by intro e; simp at e <;> omega)]
              exact hb1.cell hgw)
            (fun kk hk1 hk2 _ => by
              rw [heap_setCell_other _ _ _ _ hk2, heap_setCell_other _ _ _ _ hk2, heap_setCell_other _ _ _ _ hk2]
              exact hb1.block kk (HS.out.lt kk hk1))
            (by rw [hGj]; exact cRel_mkO (by show (mT _).size ≤ _; have := mT_size (k + j * 3) (by omega); unfold maxLen; omega) (inR_nat (by omega)) (inR_nat (by omega)))
            (by
              have hn3 : cRel.n = 3 := rfl
              rw [hn3]
              intro i hi
              match i, hi with
              | 0, _ => exact (World.cell?_setCell_other _ _ _ _ (by simp)).trans ((World.cell?_setCell_other _ _ _ _ (by simp)).trans e0)
              | 1, _ => exact (World.cell?_setCell_other _ _ _ _ (by simp)).trans e1
              | 2, _ => exact e2)
          rw [hdl, set_mid dn _ _ _ j Hd.out] at hu
          have hM2 := HM.out
          rw [markL_drop _ _ _ _ _ hjl] at hM2
          obtain ⟨es2, hu⟩ : ∃ es2, SL cRel F g off G es2 _ _ := ⟨_, hu⟩
          refine ⟨j + 1, dn ++ [markR (k + j * 3) z], es2, by omega, by go_num, by go_num, show _ = _ by simp [Hd.out], show _ = _ by rw [← hM2, show k + (j + 1) * 3 = k + j * 3 + 3 by omega]; simp [markR], ?_, Only.setCell (p := ⟨g, off + j * 3 + 2, none⟩) (Only.setCell (p := ⟨g, off + j * 3 + 1, none⟩) (Only.setCell (p := ⟨g, off + j * 3, none⟩) (Only.trans (H := F) ho (Only.of_below (F := F) hb1) (fun _ h => h) (fun _ h => h)) HgF.out _) HgF.out _) HgF.out _⟩
          exact hu
        case measure => simp [intOf]; omega
      · obtain rfl : j = n := by omega
        have hd : l.drop j = [] := List.drop_eq_nil_of_le (by rw [Hn.out]; exact Nat.le_refl _)
        have hM2 := HM.out
        have hS2 := HS.out
        rw [hd] at hM2 hS2
        simp only [markL, List.append_nil] at hM2 hS2
        subst hM2
        have hown := hS2.own cap (by rw [Hd.out]; have hcp := Hcp.out; have hnn := Hn.out; unfold maxLen; exact ⟨by omega, by omega⟩)
        rw [Hd.out] at hown
        have Hown := Lib.hid hown
        clear hown hS2 hd
        go_wp2
        go_ret
        exact ⟨rfl, Hown.out, ho⟩
end Go.Proofs.Ytioofopbidgpeaa


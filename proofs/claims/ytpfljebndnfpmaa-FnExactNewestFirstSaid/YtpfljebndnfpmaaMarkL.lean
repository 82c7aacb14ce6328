/- The laws' marks in slices of structs of numbers. Written by gen/markflat.py. -/
import Derived.Test.YtpfljebndnfpmaaMarkOne
import Derived.Test.YtpfljebndnfpmaaTyTre
namespace Go.Proofs.Ytpfljebndnfpmaa
open Go.RowKit
set_option linter.unusedVariables false
set_option maxRecDepth 100000

def markE (k : Nat) (_ : Edg) : Edg := ⟨((k : Nat) : Int), ((k + 1 : Nat) : Int)⟩
def markEs (k : Nat) (l : List Edg) : List Edg := markL markE (fun _ => 2) k l
theorem cEdg_own_nil {F : List Nat} {w : World} {x : Edg} {cs : List Value} (h : cEdg.own F w x cs) : F = [] := by
  obtain ⟨_, _, F1, F2, _, ⟨_, rfl⟩, ⟨_, rfl⟩, rfl, _⟩ := h
  rfl
set_option maxHeartbeats 1600000 in
theorem markConflictEdgeS_c {F : List Nat} {a : Option Addr} {cap : Nat} {l : List Edg} {k : Nat} {w : World} (hk : (k + l.length * 2 : Nat) ≤ 4611686018427387900) (hF : ∀ k, k ∈ F → k < w.heap.size) (h : (cSlice cEdg).own F w l [.slice a l.length cap]) :
    Calls Try.prog 19 #[.slice a l.length cap, .int .i64 k] w fun e w' => e = .returned (.int .i64 ((k + l.length * 2 : Nat) : Int)) ∧ (cSlice cEdg).own F w' (markEs k l) [.slice a l.length cap] ∧ Only F w w' := by
  have hm := (own_slice_len h).1
  have Hcp := Lib.hid (own_slice_len h).2
  rcases Nat.eq_zero_or_pos l.length with h0 | h0
  · have hl := List.eq_nil_of_length_eq_zero h0
    subst hl
    have Ho := Lib.hid h
    clear h hm h0
    simp only [List.length_nil] at *
    go_enter Try.func19, Try.ntmps19
    go_wp2
    go_loopw [1, 5] (fun kv iv wr => kv = .int .i64 k ∧ iv = .int .i64 0 ∧ wr = w) (fun _ _ _ => 0)
    case atStart => exact ⟨rfl, rfl, rfl⟩
    case round =>
      obtain ⟨rfl, rfl, rfl⟩ := hrel
      go_wp2
      go_ret
      exact ⟨rfl, Ho.out, Only.refl _ _⟩
  · obtain ⟨g, off, G, es, rfl, hS⟩ := SL.of_own h hF h0
    clear h h0
    obtain ⟨n, hn⟩ : ∃ n : Nat, l.length = n := ⟨_, rfl⟩
    have Hn := Lib.hid hn
    rw [hn] at hk ⊢
    unfold maxLen at hm
    rw [hn] at hm
    clear hn
    generalize hM : markEs k l = M
    have HM : Hid ([] ++ markL markE (fun _ => 2) k (l.drop 0) = M) := hM
    have HS : Hid (SL cEdg F g off G es w ([] ++ l.drop 0)) := hS
    have HgF : Hid (g ∈ F) := hS.gF
    clear hM hS hF
    go_enter Try.func19, Try.ntmps19
    go_wp2
    go_loopw [1, 5] (fun kv iv wr => ∃ (j : Nat) (dn : List Edg) (es : Nat → List Value), j ≤ n ∧ kv = .int .i64 ((k + j * 2 : Nat) : Int) ∧ iv = .int .i64 j ∧ Hid (dn.length = j) ∧ Hid (dn ++ markL markE (fun _ => 2) (k + j * 2) (l.drop j) = M) ∧ Hid (SL cEdg F g off G es wr (dn ++ l.drop j)) ∧ Only F w wr) (fun _ iv _ => n - (intOf iv).toNat)
    case atStart => exact ⟨0, [], es, by omega, by go_num, by go_num, rfl, HM, HS, Only.refl _ _⟩
    case round =>
      clear HM HS
      obtain ⟨j, dn, es, hj, rfl, rfl, Hd, HM, HS, ho⟩ := hrel
      by_cases hlt : j < n
      · have hjl : j < l.length := by rw [Hn.out]; exact hlt
        have hdl := List.drop_eq_getElem_cons hjl
        have hjl2 : j < (dn ++ l.drop j).length := by rw [List.length_append, List.length_drop, Hd.out]; omega
        have hel := HS.out.el j hjl2
        have hfr : ∀ i, i < 2 → wr.frozen? ⟨g, off + j * 2 + i, none⟩ = false := by
          intro i hi
          have := HS.out.fr (j * 2 + i) (by show _ < _ * 2; omega)
          rw [← Nat.add_assoc] at this
          exact this
        obtain ⟨hG, hc⟩ := hel
        have he := (cEdg_open (cEdg.ofO (B := F.sum + g + 1) hG (fun kk hkk => by have := le_sum (HS.out.sub j hjl2 kk hkk).1; omega))).1
        rw [he] at hc hG
        generalize (dn ++ l.drop j)[j] = z at hc hG
        have c0 : wr.cell? ⟨g, off + j * 2, none⟩ = some (.int .i64 z.a) := by exact hc 0 (by decide)
        have c1 : wr.cell? ⟨g, off + j * 2 + 1, none⟩ = some (.int .i64 z.b) := by exact hc 1 (by decide)
        have f0 : wr.frozen? ⟨g, off + j * 2, none⟩ = false := hfr 0 (by decide)
        have f1 : wr.frozen? ⟨g, off + j * 2 + 1, none⟩ = false := hfr 1 (by decide)
        have hgw := World.block_lt_of_cell? wr _ c0
        have HG := Lib.hid hG
        clear hc he hG hfr
        go_wp2
        go_roundw
        case rel =>
          have hGj : G j = [] := cEdg_own_nil HG.out
          have e0 := World.cell?_setCell_same wr _ (.int .i64 ((k + j * 2 : Nat) : Int)) (c0)
          have e1 := World.cell?_setCell_same (wr.setCell ⟨g, off + j * 2, none⟩ (.int .i64 ((k + j * 2 : Nat) : Int))) _ (.int .i64 ((k + j * 2 + 1 : Nat) : Int)) ((World.cell?_setCell_other _ ⟨g, off + j * 2, none⟩ ⟨g, off + j * 2 + 1, none⟩ (.int .i64 ((k + j * 2 : Nat) : Int)) (by simp)).trans (c1))
          have hu := HS.out.upd (w' := ((wr.setCell ⟨g, off + j * 2, none⟩ (.int .i64 ((k + j * 2 : Nat) : Int))).setCell ⟨g, off + j * 2 + 1, none⟩ (.int .i64 ((k + j * 2 + 1 : Nat) : Int)))) j hjl2
            (markE (k + j * 2) z) [.int .i64 ((k + j * 2 : Nat) : Int), .int .i64 ((k + j * 2 + 1 : Nat) : Int)] (by simp only [World.setCell, Array.size_modify]; exact Nat.le_refl _)
            (fun i => by rw [World.frozen?_setCell, World.frozen?_setCell])
            (fun i hi => by
              have hn3 : cEdg.n = 2 := rfl
              rw [hn3] at hi
              rw [World.cell?_setCell_other _ _ _ _ (by intro e; simp at e <;> omega), World.cell?_setCell_other _ _ _ _ (by intro e; simp at e <;> omega)])
            (fun kk hk1 hk2 _ => by
              rw [heap_setCell_other _ _ _ _ hk2, heap_setCell_other _ _ _ _ hk2])
            (by rw [hGj]; exact ⟨[_], _, [], [], rfl, ⟨⟨rfl, inR_nat (by omega)⟩, rfl⟩, ⟨⟨rfl, inR_nat (by omega)⟩, rfl⟩, rfl, fun _ h => by cases h⟩)
            (by
              have hn3 : cEdg.n = 2 := rfl
              rw [hn3]
              intro i hi
              match i, hi with
              | 0, _ => exact (World.cell?_setCell_other _ _ _ _ (by simp)).trans (e0)
              | 1, _ => exact e1)
          rw [hdl, set_mid dn _ _ _ j Hd.out] at hu
          have hM2 := HM.out
          rw [markL_drop _ _ _ _ _ hjl] at hM2
          obtain ⟨es2, hu⟩ : ∃ es2, SL cEdg F g off G es2 _ _ := ⟨_, hu⟩
          refine ⟨j + 1, dn ++ [markE (k + j * 2) z], es2, by omega, by go_num, by go_num, show _ = _ by simp [Hd.out], show _ = _ by rw [← hM2, show k + (j + 1) * 2 = k + j * 2 + 2 by omega]; simp [markE], ?_, (Only.setCell (p := ⟨g, off + j * 2 + 1, none⟩) (Only.setCell (p := ⟨g, off + j * 2, none⟩) ho HgF.out _) HgF.out _)⟩
          exact hu
        case measure => simp [intOf]; omega
      · obtain rfl : j = n := by omega
        have hd : l.drop j = [] := List.drop_eq_nil_of_le (by rw [Hn.out]; exact Nat.le_refl _)
        have hM2 := HM.out
        have hS2 := HS.out
        rw [hd] at hM2 hS2
        simp only [markL, List.append_nil] at hM2 hS2
        subst hM2
        have hown := hS2.own cap (by rw [Hd.out]; have hcp := Hcp.out; have hnn := Hn.out; unfold maxLen; exact ⟨by omega, by omega⟩)
        rw [Hd.out] at hown
        have Hown := Lib.hid hown
        clear hown hS2 hd
        go_wp2
        go_ret
        exact ⟨rfl, Hown.out, ho⟩
theorem markEs_get (k : Nat) (l : List Edg) (j : Nat) (hj : j < (markEs k l).length) : (markEs k l)[j] = ⟨((k + j * 2 : Nat) : Int), ((k + j * 2 + 1 : Nat) : Int)⟩ := by
  induction l generalizing k j with
  | nil => simp [markEs, markL] at hj
  | cons x l ih =>
    cases j with
    | zero => simp [markEs, markL, markE]
    | succ j =>
      have := ih (k + 2) j (by simpa [markEs, markL] using hj)
      simp only [markEs, markL, List.getElem_cons_succ] at this ⊢
      rw [this, show k + 2 + j * 2 = k + (j + 1) * 2 by omega]
set_option maxHeartbeats 1600000 in
theorem heldConflictEdgeS_c {a : Option Addr} {cap : Nat} {l : List Edg} {k : Nat} {w : World} (hk : (k + l.length * 2 : Nat) ≤ 4611686018427387900)
    (hM : ∀ j (hj : j < l.length), l[j] = ⟨((k + j * 2 : Nat) : Int), ((k + j * 2 + 1 : Nat) : Int)⟩) (h : At (cSlice cEdg) w l [.slice a l.length cap]) :
    Calls Try.prog 20 #[.slice a l.length cap, .int .i64 k] w fun e w' => e = .returned (.int .i64 ((k + l.length * 2 : Nat) : Int)) ∧ Below w.heap.size w w' := by
  have hm := (slice_len h).2
  unfold maxLen at hm
  obtain ⟨n, hn⟩ : ∃ n : Nat, l.length = n := ⟨_, rfl⟩
  have Hr : Hid (∀ w' : World, Below w.heap.size w w' → ∀ j (hj : j < l.length), _) := fun w' hb j hj => at_ConflictEdge (Cod.ok_below h hb) j hj
  have HM := Lib.hid hM
  have Hn := Lib.hid hn
  rw [hn] at hk hm ⊢
  clear hn h hM
  go_enter Try.func20, Try.ntmps20
  go_wp2
  go_loopw [1, 5] (fun kv iv wr => ∃ j : Nat, j ≤ n ∧ kv = .int .i64 ((k + j * 2 : Nat) : Int) ∧ iv = .int .i64 j ∧ Below w.heap.size w wr) (fun _ iv _ => n - (intOf iv).toNat)
  case atStart => exact ⟨0, by omega, by go_num, by go_num, Below.refl _ _⟩
  case round =>
    obtain ⟨j, hj, rfl, rfl, hb⟩ := hrel
    by_cases hlt : j < n
    · have hjl : j < l.length := by rw [Hn.out]; exact hlt
      obtain ⟨b, off, rfl, hbB, c0, c1, hx⟩ := Hr.out _ hb j hjl
      clear hx
      rw [HM.out j hjl] at c0 c1
      simp only at c0 c1
      obtain ⟨kk, hkk⟩ : ∃ kk, kk = k + j * 2 := ⟨_, rfl⟩
      rw [← hkk] at c0 c1 ⊢
      have hne0 : (((kk : Int)) != ((kk : Int))) = false := by rw [show (kk : Int) = (kk : Int) by omega]; exact bne_self_eq_false _
      have hne1 : (((kk : Int) + 1) != ((kk : Int) + 1)) = false := by rw [show (kk : Int) + 1 = (kk : Int) + 1 by omega]; exact bne_self_eq_false _
      have hkb : (kk : Int) ≤ 4611686018427387900 := by omega
      have Hkk := Lib.hid hkk
      clear hkk
      go_wp2
      go_roundw
      case rel => exact ⟨j + 1, by omega, by rw [Hkk.out]; go_num, by go_num, hb⟩
      case measure => simp [intOf]; omega
    · obtain rfl : j = n := by omega
      go_wp2
      go_ret
      exact ⟨rfl, hb⟩
end Go.Proofs.Ytpfljebndnfpmaa


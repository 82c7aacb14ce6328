/- The laws' marks in slices of structs of numbers. Written by gen/markflat.py. -/
import Derived.Test.YtpfljebndnfpmaaMarkL
import Derived.Test.YtpfljebndnfpmaaTyDc
namespace Go.Proofs.Ytpfljebndnfpmaa
open Go.RowKit
set_option linter.unusedVariables false
set_option maxRecDepth 100000

def markC (k : Nat) (_ : Dcn) : Dcn := ⟨((k : Nat) : Int), ((k + 1 : Nat) : Int), ((k + 2 : Nat) : Int), ((k + 3 : Nat) : Int), ((k + 4 : Nat) : Int), ((k + 5 : Nat) : Int), ((k + 6 : Nat) : Int)⟩
def markCs (k : Nat) (l : List Dcn) : List Dcn := markL markC (fun _ => 7) k l
theorem cDcn_own_nil {F : List Nat} {w : World} {x : Dcn} {cs : List Value} (h : cDcn.own F w x cs) : F = [] := by
  obtain ⟨_, _, F1, F2, _, ⟨_, rfl⟩, ⟨_, _, F3, F4, _, ⟨_, rfl⟩, ⟨_, _, F5, F6, _, ⟨_, rfl⟩, ⟨_, _, F7, F8, _, ⟨_, rfl⟩, ⟨_, _, F9, F10, _, ⟨_, rfl⟩, ⟨_, _, F11, F12, _, ⟨_, rfl⟩, ⟨_, rfl⟩, rfl, _⟩, rfl, _⟩, rfl, _⟩, rfl, _⟩, rfl, _⟩, rfl, _⟩ := h
  rfl
set_option maxHeartbeats 1600000 in
theorem markDenialConstraintS_c {F : List Nat} {a : Option Addr} {cap : Nat} {l : List Dcn} {k : Nat} {w : World} (hk : (k + l.length * 7 : Nat) ≤ 4611686018427387900) (hF : ∀ k, k ∈ F → k < w.heap.size) (h : (cSlice cDcn).own F w l [.slice a l.length cap]) :
    Calls Try.prog 18 #[.slice a l.length cap, .int .i64 k] w fun e w' => e = .returned (.int .i64 ((k + l.length * 7 : Nat) : Int)) ∧ (cSlice cDcn).own F w' (markCs k l) [.slice a l.length cap] ∧ Only F w w' := by
  have hm := (own_slice_len h).1
  have Hcp := Lib.hid (own_slice_len h).2
  rcases Nat.eq_zero_or_pos l.length with h0 | h0
  · have hl := List.eq_nil_of_length_eq_zero h0
    subst hl
    have Ho := Lib.hid h
    clear h hm h0
    simp only [List.length_nil] at *
    go_enter Try.func18, Try.ntmps18
    go_wp2
    go_loopw [1, 5] (fun kv iv wr => kv = .int .i64 k ∧ iv = .int .i64 0 ∧ wr = w) (fun _ _ _ => 0)
    case atStart => exact ⟨rfl, rfl, rfl⟩
    case round =>
      obtain ⟨rfl, rfl, rfl⟩ := hrel
      go_wp2
      go_ret
      exact ⟨rfl, Ho.out, Only.refl _ _⟩
  · obtain ⟨g, off, G, es, rfl, hS⟩ := SL.of_own h hF h0
    clear h h0
    obtain ⟨n, hn⟩ : ∃ n : Nat, l.length = n := ⟨_, rfl⟩
    have Hn := Lib.hid hn
    rw [hn] at hk ⊢
    unfold maxLen at hm
    rw [hn] at hm
    clear hn
    generalize hM : markCs k l = M
    have HM : Hid ([] ++ markL markC (fun _ => 7) k (l.drop 0) = M) := hM
    have HS : Hid (SL cDcn F g off G es w ([] ++ l.drop 0)) := hS
    have HgF : Hid (g ∈ F) := hS.gF
    clear hM hS hF
    go_enter Try.func18, Try.ntmps18
    go_wp2
    go_loopw [1, 5] (fun kv iv wr => ∃ (j : Nat) (dn : List Dcn) (es : Nat → List Value), j ≤ n ∧ kv = .int .i64 ((k + j * 7 : Nat) : Int) ∧ iv = .int .i64 j ∧ Hid (dn.length = j) ∧ Hid (dn ++ markL markC (fun _ => 7) (k + j * 7) (l.drop j) = M) ∧ Hid (SL cDcn F g off G es wr (dn ++ l.drop j)) ∧ Only F w wr) (fun _ iv _ => n - (intOf iv).toNat)
    case atStart => exact ⟨0, [], es, by omega, by go_num, by go_num, rfl, HM, HS, Only.refl _ _⟩
    case round =>
      clear HM HS
      obtain ⟨j, dn, es, hj, rfl, rfl, Hd, HM, HS, ho⟩ := hrel
      by_cases hlt : j < n
      · have hjl : j < l.length := by rw [Hn.out]; exact hlt
        have hdl := List.drop_eq_getElem_cons hjl
        have hjl2 : j < (dn ++ l.drop j).length := by rw [List.length_append, List.length_drop, Hd.out]; omega
        have hel := HS.out.el j hjl2
        have hfr : ∀ i, i < 7 → wr.frozen? ⟨g, off + j * 7 + i, none⟩ = false := by
          intro i hi
          have := HS.out.fr (j * 7 + i) (by show _ < _ * 7; omega)
          rw [← Nat.add_assoc] at this
          exact this
        obtain ⟨hG, hc⟩ := hel
        have he := (cDcn_open (cDcn.ofO (B := F.sum + g + 1) hG (fun kk hkk => by have := le_sum (HS.out.sub j hjl2 kk hkk).1; omega))).1
        rw [he] at hc hG
        generalize (dn ++ l.drop j)[j] = z at hc hG
        have c0 : wr.cell? ⟨g, off + j * 7, none⟩ = some (.int .i64 z.r1) := by exact hc 0 (by decide)
        have c1 : wr.cell? ⟨g, off + j * 7 + 1, none⟩ = some (.int .i64 z.r2) := by exact hc 1 (by decide)
        have c2 : wr.cell? ⟨g, off + j * 7 + 2, none⟩ = some (.int .i64 z.j1) := by exact hc 2 (by decide)
        have c3 : wr.cell? ⟨g, off + j * 7 + 3, none⟩ = some (.int .i64 z.j2) := by exact hc 3 (by decide)
        have c4 : wr.cell? ⟨g, off + j * 7 + 4, none⟩ = some (.int .i64 z.c1) := by exact hc 4 (by decide)
        have c5 : wr.cell? ⟨g, off + j * 7 + 5, none⟩ = some (.int .i64 z.c2) := by exact hc 5 (by decide)
        have c6 : wr.cell? ⟨g, off + j * 7 + 6, none⟩ = some (.int .i64 z.cmp) := by exact hc 6 (by decide)
        have f0 : wr.frozen? ⟨g, off + j * 7, none⟩ = false := hfr 0 (by decide)
        have f1 : wr.frozen? ⟨g, off + j * 7 + 1, none⟩ = false := hfr 1 (by decide)
        have f2 : wr.frozen? ⟨g, off + j * 7 + 2, none⟩ = false := hfr 2 (by decide)
        have f3 : wr.frozen? ⟨g, off + j * 7 + 3, none⟩ = false := hfr 3 (by decide)
        have f4 : wr.frozen? ⟨g, off + j * 7 + 4, none⟩ = false := hfr 4 (by decide)
        have f5 : wr.frozen? ⟨g, off + j * 7 + 5, none⟩ = false := hfr 5 (by decide)
        have f6 : wr.frozen? ⟨g, off + j * 7 + 6, none⟩ = false := hfr 6 (by decide)
        have hgw := World.block_lt_of_cell? wr _ c0
        have HG := Lib.hid hG
        clear hc he hG hfr
        go_wp2
        go_roundw
        case rel =>
          have hGj : G j = [] := cDcn_own_nil HG.out
          have e0 := World.cell?_setCell_same wr _ (.int .i64 ((k + j * 7 : Nat) : Int)) (c0)
          have e1 := World.cell?_setCell_same (wr.setCell ⟨g, off + j * 7, none⟩ (.int .i64 ((k + j * 7 : Nat) : Int))) _ (.int .i64 ((k + j * 7 + 1 : Nat) : Int)) ((World.cell?_setCell_other _ ⟨g, off + j * 7, none⟩ ⟨g, off + j * 7 + 1, none⟩ (.int .i64 ((k + j * 7 : Nat) : Int)) (by simp)).trans (c1))
          have e2 := World.cell?_setCell_same ((wr.setCell ⟨g, off + j * 7, none⟩ (.int .i64 ((k + j * 7 : Nat) : Int))).setCell ⟨g, off + j * 7 + 1, none⟩ (.int .i64 ((k + j * 7 + 1 : Nat) : Int))) _ (.int .i64 ((k + j * 7 + 2 : Nat) : Int)) ((World.cell?_setCell_other _ ⟨g, off + j * 7 + 1, none⟩ ⟨g, off + j * 7 + 2, none⟩ (.int .i64 ((k + j * 7 + 1 : Nat) : Int)) (by simp)).trans ((World.cell?_setCell_other _ ⟨g, off + j * 7, none⟩ ⟨g, off + j * 7 + 2, none⟩ (.int .i64 ((k + j * 7 : Nat) : Int)) (by simp)).trans (c2)))
          have e3 := World.cell?_setCell_same (((wr.setCell ⟨g, off + j * 7, none⟩ (.int .i64 ((k + j * 7 : Nat) : Int))).setCell ⟨g, off + j * 7 + 1, none⟩ (.int .i64 ((k + j * 7 + 1 : Nat) : Int))).setCell ⟨g, off + j * 7 + 2, none⟩ (.int .i64 ((k + j * 7 + 2 : Nat) : Int))) _ (.int .i64 ((k + j * 7 + 3 : Nat) : Int)) ((World.cell?_setCell_other _ ⟨g, off + j * 7 + 2, none⟩ ⟨g, off + j * 7 + 3, none⟩ (.int .i64 ((k + j * 7 + 2 : Nat) : Int)) (by simp)).trans ((World.cell?_setCell_other _ ⟨g, off + j * 7 + 1, none⟩ ⟨g, off + j * 7 + 3, none⟩ (.int .i64 ((k + j * 7 + 1 : Nat) : Int)) (by simp)).trans ((World.cell?_setCell_other _ ⟨g, off + j * 7, none⟩ ⟨g, off + j * 7 + 3, none⟩ (.int .i64 ((k + j * 7 : Nat) : Int)) (by simp)).trans (c3))))
          have e4 := World.cell?_setCell_same ((((wr.setCell ⟨g, off + j * 7, none⟩ (.int .i64 ((k + j * 7 : Nat) : Int))).setCell ⟨g, off + j * 7 + 1, none⟩ (.int .i64 ((k + j * 7 + 1 : Nat) : Int))).setCell ⟨g, off + j * 7 + 2, none⟩ (.int .i64 ((k + j * 7 + 2 : Nat) : Int))).setCell ⟨g, off + j * 7 + 3, none⟩ (.int .i64 ((k + j * 7 + 3 : Nat) : Int))) _ (.int .i64 ((k + j * 7 + 4 : Nat) : Int)) ((World.cell?_setCell_other _ ⟨g, off + j * 7 + 3, none⟩ ⟨g, off + j * 7 + 4, none⟩ (.int .i64 ((k + j * 7 + 3 : Nat) : Int)) (by simp)).trans ((World.cell?_setCell_other _ ⟨g, off + j * 7 + 2, none⟩ ⟨g, off + j * 7 + 4, none⟩ (.int .i64 ((k + j * 7 + 2 : Nat) : Int)) (by simp)).trans ((World.cell?_setCell_other _ ⟨g, off + j * 7 + 1, none⟩ ⟨g, off + j * 7 + 4, none⟩ (.int .i64 ((k + j * 7 + 1 : Nat) : Int)) (by simp)).trans ((World.cell?_setCell_other _ ⟨g, off + j * 7, none⟩ ⟨g, off + j * 7 + 4, none⟩ (.int .i64 ((k + j * 7 : Nat) : Int)) (by simp)).trans (c4)))))
          have e5 := World.cell?_setCell_same (((((wr.setCell ⟨g, off + j * 7, none⟩ (.int .i64 ((k + j * 7 : Nat) : Int))).setCell ⟨g, off + j * 7 + 1, none⟩ (.int .i64 ((k + j * 7 + 1 : Nat) : Int))).setCell ⟨g, off + j * 7 + 2, none⟩ (.int .i64 ((k + j * 7 + 2 : Nat) : Int))).setCell ⟨g, off + j * 7 + 3, none⟩ (.int .i64 ((k + j * 7 + 3 : Nat) : Int))).setCell ⟨g, off + j * 7 + 4, none⟩ (.int .i64 ((k + j * 7 + 4 : Nat) : Int))) _ (.int .i64 ((k + j * 7 + 5 : Nat) : Int)) ((World.cell?_setCell_other _ ⟨g, off + j * 7 + 4, none⟩ ⟨g, off + j * 7 + 5, none⟩ (.int .i64 ((k + j * 7 + 4 : Nat) : Int)) (by simp)).trans ((World.cell?_setCell_other _ ⟨g, off + j * 7 + 3, none⟩ ⟨g, off + j * 7 + 5, none⟩ (.int .i64 ((k + j * 7 + 3 : Nat) : Int)) (by simp)).trans ((World.cell?_setCell_other _ ⟨g, off + j * 7 + 2, none⟩ ⟨g, off + j * 7 + 5, none⟩ (.int .i64 ((k + j * 7 + 2 : Nat) : Int)) (by simp)).trans ((World.cell?_setCell_other _ ⟨g, off + j * 7 + 1, none⟩ ⟨g, off + j * 7 + 5, none⟩ (.int .i64 ((k + j * 7 + 1 : Nat) : Int)) (by simp)).trans ((World.cell?_setCell_other _ ⟨g, off + j * 7, none⟩ ⟨g, off + j * 7 + 5, none⟩ (.int .i64 ((k + j * 7 : Nat) : Int)) (by simp)).trans (c5))))))
          have e6 := World.cell?_setCell_same ((((((wr.setCell ⟨g, off + j * 7, none⟩ (.int .i64 ((k + j * 7 : Nat) : Int))).setCell ⟨g, off + j * 7 + 1, none⟩ (.int .i64 ((k + j * 7 + 1 : Nat) : Int))).setCell ⟨g, off + j * 7 + 2, none⟩ (.int .i64 ((k + j * 7 + 2 : Nat) : Int))).setCell ⟨g, off + j * 7 + 3, none⟩ (.int .i64 ((k + j * 7 + 3 : Nat) : Int))).setCell ⟨g, off + j * 7 + 4, none⟩ (.int .i64 ((k + j * 7 + 4 : Nat) : Int))).setCell ⟨g, off + j * 7 + 5, none⟩ (.int .i64 ((k + j * 7 + 5 : Nat) : Int))) _ (.int .i64 ((k + j * 7 + 6 : Nat) : Int)) ((World.cell?_setCell_other _ ⟨g, off + j * 7 + 5, none⟩ ⟨g, off + j * 7 + 6, none⟩ (.int .i64 ((k + j * 7 + 5 : Nat) : Int)) (by simp)).trans ((World.cell?_setCell_other _ ⟨g, off + j * 7 + 4, none⟩ ⟨g, off + j * 7 + 6, none⟩ (.int .i64 ((k + j * 7 + 4 : Nat) : Int)) (by simp)).trans ((World.cell?_setCell_other _ ⟨g, off + j * 7 + 3, none⟩ ⟨g, off + j * 7 + 6, none⟩ (.int .i64 ((k + j * 7 + 3 : Nat) : Int)) (by simp)).trans ((World.cell?_setCell_other _ ⟨g, off + j * 7 + 2, none⟩ ⟨g, off + j * 7 + 6, none⟩ (.int .i64 ((k + j * 7 + 2 : Nat) : Int)) (by simp)).trans ((World.cell?_setCell_other _ ⟨g, off + j * 7 + 1, none⟩ ⟨g, off + j * 7 + 6, none⟩ (.int .i64 ((k + j * 7 + 1 : Nat) : Int)) (by simp)).trans ((World.cell?_setCell_other _ ⟨g, off + j * 7, none⟩ ⟨g, off + j * 7 + 6, none⟩ (.int .i64 ((k + j * 7 : Nat) : Int)) (by simp)).trans (c6)))))))
          have hu := HS.out.upd (w' := (((((((wr.setCell ⟨g, off + j * 7, none⟩ (.int .i64 ((k + j * 7 : Nat) : Int))).setCell ⟨g, off + j * 7 + 1, none⟩ (.int .i64 ((k + j * 7 + 1 : Nat) : Int))).setCell ⟨g, off + j * 7 + 2, none⟩ (.int .i64 ((k + j * 7 + 2 : Nat) : Int))).setCell ⟨g, off + j * 7 + 3, none⟩ (.int .i64 ((k + j * 7 + 3 : Nat) : Int))).setCell ⟨g, off + j * 7 + 4, none⟩ (.int .i64 ((k + j * 7 + 4 : Nat) : Int))).setCell ⟨g, off + j * 7 + 5, none⟩ (.int .i64 ((k + j * 7 + 5 : Nat) : Int))).setCell ⟨g, off + j * 7 + 6, none⟩ (.int .i64 ((k + j * 7 + 6 : Nat) : Int)))) j hjl2
            (markC (k + j * 7) z) [.int .i64 ((k + j * 7 : Nat) : Int), .int .i64 ((k + j * 7 + 1 : Nat) : Int), .int .i64 ((k + j * 7 + 2 : Nat) : Int), .int .i64 ((k + j * 7 + 3 : Nat) : Int), .int .i64 ((k + j * 7 + 4 : Nat) : Int), .int .i64 ((k + j * 7 + 5 : Nat) : Int), .int .i64 ((k + j * 7 + 6 : Nat) : Int)] (by simp only [World.setCell, Array.size_modify]; exact Nat.le_refl _)
            (fun i => by rw [World.frozen?_setCell, World.frozen?_setCell, World.frozen?_setCell, World.frozen?_setCell, World.frozen?_setCell, World.frozen?_setCell, World.frozen?_setCell])
            (fun i hi => by
              have hn3 : cDcn.n = 7 := rfl
              rw [hn3] at hi
              rw [World.cell?_setCell_other _ _ _ _ (by intro e; simp at e <;> omega), World.cell?_setCell_other _ _ _ _ (by intro e; simp at e <;> omega), World.cell?_setCell_other _ _ _ _ (by intro e; simp at e <;> omega), World.cell?_setCell_other _ _ _ _ (by intro e; simp at e <;> omega), World.cell?_setCell_other _ _ _ _ (by intro e; simp at e <;> omega), World.cell?_setCell_other _ _ _ _ (by intro e; simp at e <;> omega), World.cell?_setCell_other _ _ _ _ (by intro e; simp at e <;> omega)])
            (fun kk hk1 hk2 _ => by
              rw [heap_setCell_other _ _ _ _ hk2, heap_setCell_other _ _ _ _ hk2, heap_setCell_other _ _ _ _ hk2, heap_setCell_other _ _ _ _ hk2, heap_setCell_other _ _ _ _ hk2, heap_setCell_other _ _ _ _ hk2, heap_setCell_other _ _ _ _ hk2])
            (by rw [hGj]; exact ⟨[_], _, [], [], rfl, ⟨⟨rfl, inR_nat (by omega)⟩, rfl⟩, ⟨[_], _, [], [], rfl, ⟨⟨rfl, inR_nat (by omega)⟩, rfl⟩, ⟨[_], _, [], [], rfl, ⟨⟨rfl, inR_nat (by omega)⟩, rfl⟩, ⟨[_], _, [], [], rfl, ⟨⟨rfl, inR_nat (by omega)⟩, rfl⟩, ⟨[_], _, [], [], rfl, ⟨⟨rfl, inR_nat (by omega)⟩, rfl⟩, ⟨[_], _, [], [], rfl, ⟨⟨rfl, inR_nat (by omega)⟩, rfl⟩, ⟨⟨rfl, inR_nat (by omega)⟩, rfl⟩, rfl, fun _ h => by cases h⟩, rfl, fun _ h => by cases h⟩, rfl, fun _ h => by cases h⟩, rfl, fun _ h => by cases h⟩, rfl, fun _ h => by cases h⟩, rfl, fun _ h => by cases h⟩)
            (by
              have hn3 : cDcn.n = 7 := rfl
              rw [hn3]
              intro i hi
              match i, hi with
              | 0, _ => exact (World.cell?_setCell_other _ _ _ _ (by simp)).trans ((World.cell?_setCell_other _ _ _ _ (by simp)).trans ((World.cell?_setCell_other _ _ _ _ (by simp)).trans ((World.cell?_setCell_other _ _ _ _ (by simp)).trans ((World.cell?_setCell_other _ _ _ _ (by simp)).trans ((World.cell?_setCell_other _ _ _ _ (by simp)).trans (e0))))))
              | 1, _ => exact (World.cell?_setCell_other _ _ _ _ (by simp)).trans ((World.cell?_setCell_other _ _ _ _ (by simp)).trans ((World.cell?_setCell_other _ _ _ _ (by simp)).trans ((World.cell?_setCell_other _ _ _ _ (by simp)).trans ((World.cell?_setCell_other _ _ _ _ (by simp)).trans (e1)))))
              | 2, _ => exact (World.cell?_setCell_other _ _ _ _ (by simp)).trans ((World.cell?_setCell_other _ _ _ _ (by simp)).trans ((World.cell?_setCell_other _ _ _ _ (by simp)).trans ((World.cell?_setCell_other _ _ _ _ (by simp)).trans (e2))))
              | 3, _ => exact (World.cell?_setCell_other _ _ _ _ (by simp)).trans ((World.cell?_setCell_other _ _ _ _ (by simp)).trans ((World.cell?_setCell_other _ _ _ _ (by simp)).trans (e3)))
              | 4, _ => exact (World.cell?_setCell_other _ _ _ _ (by simp)).trans ((World.cell?_setCell_other _ _ _ _ (by simp)).trans (e4))
              | 5, _ => exact (World.cell?_setCell_other _ _ _ _ (by simp)).trans (e5)
              | 6, _ => exact e6)
          rw [hdl, set_mid dn _ _ _ j Hd.out] at hu
          have hM2 := HM.out
          rw [markL_drop _ _ _ _ _ hjl] at hM2
          obtain ⟨es2, hu⟩ : ∃ es2, SL cDcn F g off G es2 _ _ := ⟨_, hu⟩
          refine ⟨j + 1, dn ++ [markC (k + j * 7) z], es2, by omega, by go_num, by go_num, show _ = _ by simp [Hd.out], show _ = _ by rw [← hM2, show k + (j + 1) * 7 = k + j * 7 + 7 by omega]; simp [markC], ?_, (Only.setCell (p := ⟨g, off + j * 7 + 6, none⟩) (Only.setCell (p := ⟨g, off + j * 7 + 5, none⟩) (Only.setCell (p := ⟨g, off + j * 7 + 4, none⟩) (Only.setCell (p := ⟨g, off + j * 7 + 3, none⟩) (Only.setCell (p := ⟨g, off + j * 7 + 2, none⟩) (Only.setCell (p := ⟨g, off + j * 7 + 1, none⟩) (Only.setCell (p := ⟨g, off + j * 7, none⟩) ho HgF.out _) HgF.out _) HgF.out _) HgF.out _) HgF.out _) HgF.out _) HgF.out _)⟩
          exact hu
        case measure => simp [intOf]; omega
      · obtain rfl : j = n := by omega
        have hd : l.drop j = [] := List.drop_eq_nil_of_le (by rw [Hn.out]; exact Nat.le_refl _)
        have hM2 := HM.out
        have hS2 := HS.out
        rw [hd] at hM2 hS2
        simp only [markL, List.append_nil] at hM2 hS2
        subst hM2
        have hown := hS2.own cap (by rw [Hd.out]; have hcp := Hcp.out; have hnn := Hn.out; unfold maxLen; exact ⟨by omega, by omega⟩)
        rw [Hd.out] at hown
        have Hown := Lib.hid hown
        clear hown hS2 hd
        go_wp2
        go_ret
        exact ⟨rfl, Hown.out, ho⟩
theorem markCs_get (k : Nat) (l : List Dcn) (j : Nat) (hj : j < (markCs k l).length) : (markCs k l)[j] = ⟨((k + j * 7 : Nat) : Int), ((k + j * 7 + 1 : Nat) : Int), ((k + j * 7 + 2 : Nat) : Int), ((k + j * 7 + 3 : Nat) : Int), ((k + j * 7 + 4 : Nat) : Int), ((k + j * 7 + 5 : Nat) : Int), ((k + j * 7 + 6 : Nat) : Int)⟩ := by
  induction l generalizing k j with
  | nil => simp [markCs, markL] at hj
  | cons x l ih =>
    cases j with
    | zero => simp [markCs, markL, markC]
    | succ j =>
      have := ih (k + 7) j (by simpa [markCs, markL] using hj)
      simp only [markCs, markL, List.getElem_cons_succ] at this ⊢
      rw [this, show k + 7 + j * 7 = k + (j + 1) * 7 by omega]
end Go.Proofs.Ytpfljebndnfpmaa


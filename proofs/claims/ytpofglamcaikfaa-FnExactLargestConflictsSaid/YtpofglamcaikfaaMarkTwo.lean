/- MarkTwo: MarkE MarkF MarkG MarkH. -/
import Derived.Test.YtpofglamcaikfaaMarkOne
import Derived.Deep.Cut
/- The laws' marks in facts. -/
namespace Go.Proofs.Ytpofglamcaikfaa
open Go.RowKit
set_option linter.unusedVariables false
set_option maxRecDepth 100000

theorem cFct_ownI {F : List Nat} {w : World} {x : Fct} {v0 v1 : Value} (h : cFct.own F w x [v0, v1]) : v0 = .int .i64 x.rel ∧ inR x.rel ∧ (cSlice cInt).own F w x.vals [v1] := by
  obtain ⟨_, _, F1, F2, e, ⟨⟨rfl, hr⟩, rfl⟩, h2, rfl, _⟩ := h
  simp at e
  obtain ⟨rfl, rfl⟩ := e
  exact ⟨rfl, hr, by simpa using h2⟩
theorem cFct_ownMk {F : List Nat} {w : World} {x : Fct} {v1 : Value} (hr : inR x.rel) (h : (cSlice cInt).own F w x.vals [v1]) : cFct.own F w x [.int .i64 x.rel, v1] := ⟨[_], [_], [], F, rfl, ⟨⟨rfl, hr⟩, rfl⟩, h, rfl, by simp⟩
theorem cFct_ownOpen {F : List Nat} {w : World} {x : Fct} {cs : List Value} (h : cFct.own F w x cs) : ∃ a cap, cs = [.int .i64 x.rel, .slice a x.vals.length cap] ∧ cFct.own F w x [.int .i64 x.rel, .slice a x.vals.length cap] := by
  have h0 := h
  obtain ⟨_, _, F1, F2, rfl, ⟨⟨rfl, hr⟩, rfl⟩, h2, rfl, _⟩ := h
  obtain ⟨a, cap, rfl, _⟩ := h2
  exact ⟨a, cap, rfl, h0⟩
end Go.Proofs.Ytpofglamcaikfaa
namespace Go.Proofs.Ytpofglamcaikfaa
open Go.RowKit
set_option linter.unusedVariables false
set_option maxRecDepth 100000
/-- Marks in a fact of a list. -/
def markF (k : Nat) (x : Fct) : Fct := ⟨(k : Int), markI (k + 1) x.vals⟩
/-- The leaves of a fact of a list. -/
def lvF (x : Fct) : Nat := x.vals.length + 1
def markFs (k : Nat) (l : List Fct) : List Fct := markL markF lvF k l
set_option maxHeartbeats 1600000 in
theorem markFactS_c {F : List Nat} {a : Option Addr} {cap : Nat} {l : List Fct} {k : Nat} {w : World} (hk : (k + lvs lvF l : Nat) ≤ 4611686018427387900) (hF : ∀ k, k ∈ F → k < w.heap.size) (h : (cSlice cFct).own F w l [.slice a l.length cap]) :
    Calls Try.prog 22 #[.slice a l.length cap, .int .i64 k] w fun e w' => e = .returned (.int .i64 ((k + lvs lvF l : Nat) : Int)) ∧ (cSlice cFct).own F w' (markFs k l) [.slice a l.length cap] ∧ Only F w w' := by
  have hm := (own_slice_len h).1
  have Hcp := Lib.hid (own_slice_len h).2
  rcases Nat.eq_zero_or_pos l.length with h0 | h0
  · have hl := List.eq_nil_of_length_eq_zero h0
    subst hl
    have Ho := Lib.hid h
    clear h hm h0
    simp only [List.length_nil, lvs_nil] at *
    go_enter Try.func22, Try.ntmps22
    go_wp2
    go_loopw [1, 5] (fun kv iv wr => kv = .int .i64 k ∧ iv = .int .i64 0 ∧ wr = w) (fun _ _ _ => 0)
    case atStart => exact ⟨rfl, rfl, rfl⟩
    case round =>
      obtain ⟨rfl, rfl, rfl⟩ := hrel
      go_wp2
      go_ret
      exact ⟨rfl, Ho.out, Only.refl _ _⟩
  · obtain ⟨g, off, G, es, rfl, hS⟩ := SL.of_own h hF h0
    clear h h0
    obtain ⟨n, hn⟩ : ∃ n : Nat, l.length = n := ⟨_, rfl⟩
    have Hn := Lib.hid hn
    obtain ⟨K, hK⟩ : ∃ K : Nat, k + lvs lvF l = K := ⟨_, rfl⟩
    have HK : Hid (k + lvs lvF (l.drop 0) = K) := hK
    rw [hn]
    rw [hK] at hk ⊢
    unfold maxLen at hm
    rw [hn] at hm
    clear hn hK
    generalize hM : markFs k l = M
    have HM : Hid ([] ++ markL markF lvF k (l.drop 0) = M) := hM
    have HS : Hid (SL cFct F g off G es w ([] ++ l.drop 0)) := hS
    have HgF : Hid (g ∈ F) := hS.gF
    clear hM hS hF
    go_enter Try.func22, Try.ntmps22
    go_wp2
    go_loopw [1, 5] (fun kv iv wr => ∃ (j q : Nat) (dn : List Fct) (es : Nat → List Value), j ≤ n ∧ kv = .int .i64 (q : Int) ∧ iv = .int .i64 j ∧ Hid (q + lvs lvF (l.drop j) = K) ∧ Hid (dn.length = j) ∧ Hid (dn ++ markL markF lvF q (l.drop j) = M) ∧ Hid (SL cFct F g off G es wr (dn ++ l.drop j)) ∧ Only F w wr) (fun _ iv _ => n - (intOf iv).toNat)
    case atStart => exact ⟨0, k, [], es, by omega, rfl, by go_num, HK, rfl, HM, HS, Only.refl _ _⟩
    case round =>
      clear HM HS HK
      obtain ⟨j, q, dn, es, hj, rfl, rfl, HK, Hd, HM, HS, ho⟩ := hrel
      by_cases hlt : j < n
      · have hjl : j < l.length := by rw [Hn.out]; exact hlt
        have hdl := List.drop_eq_getElem_cons hjl
        have hjl2 : j < (dn ++ l.drop j).length := by rw [List.length_append, List.length_drop, Hd.out]; omega
        have hel := HS.out.el j hjl2
        have f0 : wr.frozen? ⟨g, off + j * 2, none⟩ = false := HS.out.fr (j * 2) (by show _ < _ * 2; omega)
        have hz : (dn ++ l.drop j)[j] = l[j] := by
          have := get_mid dn (l.drop (j + 1)) l[j] j Hd.out (by rw [← hdl]; exact hjl2)
          simpa only [← hdl] using this
        rw [hz] at hel
        obtain ⟨hG, hc⟩ := hel
        obtain ⟨a1, cap1, he, hG1⟩ := cFct_ownOpen hG
        rw [he] at hc
        obtain ⟨_, _, hv⟩ := cFct_ownI hG1
        have c0 : wr.cell? ⟨g, off + j * 2, none⟩ = some (.int .i64 l[j].rel) := by exact hc 0 (by decide)
        have c1 : wr.cell? ⟨g, off + j * 2 + 1, none⟩ = some (.slice a1 l[j].vals.length cap1) := by exact hc 1 (by decide)
        have hgw := World.block_lt_of_cell? wr _ c0
        have hK2 := HK.out
        rw [lvs_drop lvF l j hjl] at hK2
        have hlv : lvF l[j] = l[j].vals.length + 1 := rfl
        have hqk : q + l[j].vals.length + 1 ≤ K := by omega
        have hGlt : ∀ x, x ∈ G j → x < wr.heap.size := fun x hx => HS.out.lt x (HS.out.sub j hjl2 x hx).1
        have hGg : ∀ x, x ∈ G j → x ≠ g := fun x hx => (HS.out.sub j hjl2 x hx).2
        obtain ⟨W1, hW1⟩ : ∃ W1, W1 = wr.setCell ⟨g, off + j * 2, none⟩ (.int .i64 (q : Int)) := ⟨_, rfl⟩
        have hsz1 : W1.heap.size = wr.heap.size := by rw [hW1]; simp [World.setCell]
        have Hm : Hid (Calls Try.prog 11 #[.slice a1 l[j].vals.length cap1, .int .i64 ((q + 1 : Nat) : Int)] W1 fun e w' => e = .returned (.int .i64 ((q + 1 + l[j].vals.length : Nat) : Int)) ∧ (cSlice cInt).own (G j) w' (markI (q + 1) l[j].vals) [.slice a1 l[j].vals.length cap1] ∧ Only (G j) W1 w') :=
          markIntS_c (by omega) (fun x hx => by rw [hsz1]; exact hGlt x hx) ((cSlice cInt).keepO hv (fun x hx => by rw [hW1]; exact heap_setCell_other _ _ _ _ (hGg x hx)))
        have e0 : W1.cell? ⟨g, off + j * 2, none⟩ = some (.int .i64 (q : Int)) := by rw [hW1]; exact World.cell?_setCell_same _ _ _ c0
        have e1 : W1.cell? ⟨g, off + j * 2 + 1, none⟩ = some (.slice a1 l[j].vals.length cap1) := by rw [hW1]; exact (World.cell?_setCell_other _ _ _ _ (by simp)).trans c1
        have Hz := Lib.hid hz
        have HK2 := Lib.hid hK2
        have HW1 := Lib.hid hW1
        have HGlt := Lib.hid hGlt
        have HGg := Lib.hid hGg
        clear hc he hG hG1 hv hz hK2 hGlt hGg hlv
        obtain ⟨nv, hnv⟩ : ∃ nv, l[j].vals.length = nv := ⟨_, rfl⟩
        have Hnv := Lib.hid hnv
        rw [hnv] at Hm e1 c1 hqk
        clear hnv
        go_upto_region 6 with fail
        rw [← hW1]
        clear c0 c1 f0 hW1
        go_wp2_with fail
        refine Hm.out.mono ?_
        rintro e w2 ⟨rfl, hown, ho2⟩
        have Hown := Lib.hid hown
        have Ho2 := Lib.hid ho2
        clear hown ho2
        go_wp2
        go_roundw
        case rel =>
          have ho2 := Ho2.out
          have hgw1 : g < W1.heap.size := by rw [hsz1]; exact hgw
          have hgG : g ∉ G j := fun hg => HGg.out g hg rfl
          have hbg : w2.heap[g]? = W1.heap[g]? := ho2.block g hgw1 hgG
          have hu := HS.out.upd (w' := w2) j hjl2 (markF q l[j]) [.int .i64 (q : Int), .slice a1 nv cap1] (by rw [← hsz1]; exact ho2.size)
            (fun i => by rw [World.frozen?_of_block (w := W1) hbg, HW1.out, World.frozen?_setCell])
            (fun i hi => by
              have hn2 : cFct.n = 2 := rfl
              rw [hn2] at hi
              rw [World.cell?_of_block (w := W1) hbg, HW1.out]
              exact World.cell?_setCell_other _ _ _ _ (by intro e; simp at e <;> omega))
            (fun kk hk1 hk2 hk3 => by
              rw [ho2.block kk (by rw [hsz1]; exact HS.out.lt kk hk1) hk3, HW1.out]
              exact heap_setCell_other _ _ _ _ hk2)
            (cFct_ownMk (x := markF q l[j]) (inR_nat (by omega)) Hown.out)
            (by
              have hn2 : cFct.n = 2 := rfl
              rw [hn2]
              intro i hi
              match i, hi with
              | 0, _ => exact (World.cell?_of_block (w := W1) hbg).trans e0
              | 1, _ => exact (World.cell?_of_block (w := W1) hbg).trans e1)
          rw [hdl, set_mid dn _ _ _ j Hd.out] at hu
          obtain ⟨es2, hu⟩ : ∃ es2, SL cFct F g off G es2 _ _ := ⟨_, hu⟩
          have hM2 := HM.out
          rw [markL_drop _ _ _ _ _ hjl] at hM2
          have hlv : lvF l[j] = nv + 1 := by rw [← Hnv.out]; rfl
          have hK3 := HK2.out
          rw [hlv] at hM2 hK3
          refine ⟨j + 1, q + 1 + nv, dn ++ [markF q l[j]], es2, by omega, by go_num, by go_num, show _ = _ by omega, show _ = _ by simp [Hd.out], show _ = _ by rw [← hM2, show q + 1 + nv = q + (nv + 1) by omega]; simp, hu, ?_⟩
          exact Only.trans (H := F) (Only.trans (H := F) ho (by rw [HW1.out]; exact Only.setCell (Only.refl F wr) HgF.out _ : Only F wr W1) (fun _ h => h) (fun _ h => h)) ho2 (fun _ h => h) (fun x hx => (HS.out.sub j hjl2 x hx).1)
        case measure => simp [intOf]; omega
      · obtain rfl : j = n := by omega
        have hd : l.drop j = [] := List.drop_eq_nil_of_le (by rw [Hn.out]; exact Nat.le_refl _)
        have hM2 := HM.out
        have hS2 := HS.out
        have hK2 := HK.out
        rw [hd] at hM2 hS2 hK2
        simp only [markL, List.append_nil, lvs_nil, Nat.add_zero] at hM2 hS2 hK2
        subst hM2
        subst hK2
        have hown := hS2.own cap (by rw [Hd.out]; have hcp := Hcp.out; have hnn := Hn.out; unfold maxLen; exact ⟨by omega, by omega⟩)
        rw [Hd.out] at hown
        have Hown := Lib.hid hown
        clear hown hS2 hd
        go_wp2
        go_ret
        exact ⟨rfl, Hown.out, ho⟩
end Go.Proofs.Ytpofglamcaikfaa

/- The laws' marks, read again in slices of facts; marks in slices of slices of numbers and in databases. -/
namespace Go.Proofs.Ytpofglamcaikfaa
open Go.RowKit
set_option linter.unusedVariables false
set_option maxRecDepth 100000

theorem markL_at {α : Type} (mk : Nat → α → α) (lv : α → Nat) (q : Nat) (l M : List α) (j : Nat) (hj : j < l.length) (hM : j < M.length) (h : M.drop j = markL mk lv q (l.drop j)) : M[j] = mk q l[j] ∧ M.drop (j + 1) = markL mk lv (q + lv l[j]) (l.drop (j + 1)) := by
  rw [List.drop_eq_getElem_cons hM, markL_drop _ _ _ _ _ hj] at h
  simp only [List.cons.injEq] at h
  exact h
/-- Marks in a slice of slices of numbers. -/
def markIs (k : Nat) (l : List (List Int)) : List (List Int) := markL markI List.length k l
end Go.Proofs.Ytpofglamcaikfaa
namespace Go.Proofs.Ytpofglamcaikfaa
open Go.RowKit
set_option linter.unusedVariables false
set_option maxRecDepth 100000
theorem at_IntSS {B : Nat} {w : World} {l : List (List Int)} {a0 : Option Addr} {len cap0 : Nat} (h : (cSlice (cSlice cInt)).ok B w l [.slice a0 len cap0]) (j : Nat) (hj : j < l.length) :
    ∃ b off a cap, a0 = some ⟨b, off, none⟩ ∧ b < B ∧ w.cell? ⟨b, off + j, none⟩ = some (.slice a l[j].length cap) ∧ (cSlice cInt).ok B w l[j] [.slice a l[j].length cap] := by
  obtain ⟨b, off, es, rfl, hb, he, hc⟩ := slice_at h j hj
  obtain ⟨a, cap, rfl, hx⟩ := slice_open he
  refine ⟨b, off, a, cap, rfl, hb, ?_, hx⟩
  have := hc 0 (by decide)
  rw [show (cSlice cInt).n = 1 from rfl, Nat.mul_one, Nat.add_zero] at this
  exact this
theorem cDbs_ownI {F : List Nat} {w : World} {x : Dbs} {v0 v1 : Value} (h : cDbs.own F w x [v0, v1]) : ∃ F1 F2, F = F1 ++ F2 ∧ (cSlice cRel).own F1 w x.rels [v0] ∧ (cSlice cFct).own F2 w x.facts [v1] ∧ ∀ k, k ∈ F1 → k ∉ F2 := by
  obtain ⟨u, v, F1, F2, e, h1, h2, rfl, hd⟩ := h
  have h1' := h1
  have h2' := h2
  obtain ⟨_, _, rfl, _⟩ := h1'
  obtain ⟨_, _, rfl, _⟩ := h2'
  simp at e
  obtain ⟨rfl, rfl⟩ := e
  exact ⟨F1, F2, rfl, h1, h2, hd⟩
/-- Marks in a database. -/
def markD (k : Nat) (x : Dbs) : Dbs := ⟨markRs k x.rels, markFs (k + x.rels.length * 3) x.facts⟩
def lvD (x : Dbs) : Nat := x.rels.length * 3 + lvs lvF x.facts
theorem lvs_lvF (l : List Fct) : lvs lvF l = sumFact l + l.length := by
  induction l with
  | nil => rfl
  | cons x l ih =>
    unfold lvs sumFact at *
    rw [List.map_cons, List.sum_cons, ih, List.map_cons, List.sum_cons, List.length_cons]
    show x.vals.length + 1 + _ = _
    omega
theorem lvD_le (x : Dbs) : lvD x ≤ 3 * sizeDatabase x := by
  unfold lvD sizeDatabase sizeRelationS sizeFactS
  rw [lvs_lvF]
  omega
set_option maxHeartbeats 800000 in
theorem markDatabase_c {F : List Nat} {a0 a1 : Option Addr} {cap0 cap1 : Nat} {x : Dbs} {k : Nat} {w : World} (h1 : 1 ≤ k) (hk : (k + lvD x : Nat) ≤ 4611686018427387900) (hF : ∀ k, k ∈ F → k < w.heap.size)
    (h : cDbs.own F w x [.slice a0 x.rels.length cap0, .slice a1 x.facts.length cap1]) :
    Calls Try.prog 10 #[.agg #[.slice a0 x.rels.length cap0, .slice a1 x.facts.length cap1], .int .i64 k] w fun e w' => e = .returned (.int .i64 ((k + lvD x : Nat) : Int)) ∧ cDbs.own F w' (markD k x) [.slice a0 x.rels.length cap0, .slice a1 x.facts.length cap1] ∧ Only F w w' := by
  obtain ⟨F1, F2, rfl, o1, o2, hd⟩ := cDbs_ownI h
  have hF1 : ∀ k, k ∈ F1 → k < w.heap.size := fun k hk => hF k (List.mem_append_left _ hk)
  have hF2 : ∀ k, k ∈ F2 → k < w.heap.size := fun k hk => hF k (List.mem_append_right _ hk)
  unfold lvD at hk ⊢
  have H1 : Hid (∀ ww, Below w.heap.size w ww → Calls Try.prog 21 #[.slice a0 x.rels.length cap0, .int .i64 k] ww fun e w' => e = .returned (.int .i64 ((k + x.rels.length * 3 : Nat) : Int)) ∧ (cSlice cRel).own F1 w' (markRs k x.rels) [.slice a0 x.rels.length cap0] ∧ Only F1 ww w') :=
    fun ww hb => markRelationS_c h1 (by omega) (fun q hq => Nat.lt_of_lt_of_le (hF1 q hq) hb.size) ((cSlice cRel).keepO o1 (fun q hq => hb.block q (hF1 q hq)))
  have H2 : Hid (∀ ww, Only F1 w ww → Calls Try.prog 22 #[.slice a1 x.facts.length cap1, .int .i64 ((k + x.rels.length * 3 : Nat) : Int)] ww fun e w' => e = .returned (.int .i64 ((k + x.rels.length * 3 + lvs lvF x.facts : Nat) : Int)) ∧ (cSlice cFct).own F2 w' (markFs (k + x.rels.length * 3) x.facts) [.slice a1 x.facts.length cap1] ∧ Only F2 ww w') :=
    fun ww ho => markFactS_c (by omega) (fun q hq => Nat.lt_of_lt_of_le (hF2 q hq) ho.size) ((cSlice cFct).keepO o2 (fun q hq => ho.block q (hF2 q hq) (fun h => hd q h hq)))
  have Hd := Lib.hid hd
  have HF1 := Lib.hid hF1
  clear h o1 o2 hd hF hF1 hF2
  obtain ⟨rs, fs⟩ := x
  simp only at *
  go_enter Try.func10, Try.ntmps10
  go_wp2_with fail
  obtain ⟨wx, hb0, p1, hwx⟩ : ∃ wx, Below w.heap.size w wx ∧ wx.cell? ⟨w.heap.size, 1, none⟩ = some (.slice a1 fs.length cap1) ∧ w.alloc (Obj.cells #[.slice a0 rs.length cap0, .slice a1 fs.length cap1] 32) = wx := ⟨_, by go_grown, by go_simp, rfl⟩
  rw [hwx]
  clear hwx
  refine (H1.out _ hb0).mono ?_
  rintro e w1 ⟨rfl, hown1, ho1⟩
  have hlt := World.block_lt_of_cell? wx _ p1
  have q1 : w1.cell? ⟨w.heap.size, 1, none⟩ = some (.slice a1 fs.length cap1) := (World.cell?_of_block (w := wx) (ho1.block w.heap.size hlt (fun h => by have := HF1.out _ h; omega))).trans p1
  have hw1 : Only F1 w w1 := Only.trans (H := F1) (Only.of_below (F := F1) hb0) ho1 (fun _ h => h) (fun _ h => h)
  have Hown1 := Lib.hid hown1
  clear hown1 ho1 p1
  go_wp2_with fail
  refine (H2.out _ hw1).mono ?_
  rintro e w2 ⟨rfl, hown2, ho2⟩
  have Hown2 := Lib.hid hown2
  have Ho2 := Lib.hid ho2
  clear hown2 ho2 q1
  go_wp2
  go_ret
  refine ⟨by rw [← Nat.add_assoc]; rfl, ⟨[_], [_], F1, F2, rfl, (cSlice cRel).keepO Hown1.out (fun q hq => Ho2.out.block q (Nat.lt_of_lt_of_le (HF1.out q hq) hw1.size) (Hd.out q hq)), Hown2.out, rfl, Hd.out⟩, ?_⟩
  exact Only.trans (H := F1 ++ F2) hw1 Ho2.out (fun _ h => List.mem_append_left _ h) (fun _ h => List.mem_append_right _ h)
end Go.Proofs.Ytpofglamcaikfaa

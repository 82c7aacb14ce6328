/- MarkThr: MarkI MarkJ MarkK. -/
import Derived.Test.YtgoofnhhhlncoaaMarkOne
import Derived.Test.YtgoofnhhhlncoaaTyTre
import Derived.Test.YtgoofnhhhlncoaaMarkTwo
/- The laws' marks in atoms. -/
namespace Go.Proofs.Ytgoofnhhhlncoaa
open Go.RowKit
set_option linter.unusedVariables false
set_option maxRecDepth 100000

theorem cAtm_ownI {F : List Nat} {w : World} {x : Atm} {v0 v1 : Value} (h : cAtm.own F w x [v0, v1]) : v0 = .int .i64 x.rel ∧ inR x.rel ∧ (cSlice cInt).own F w x.terms [v1] := by
  obtain ⟨_, _, F1, F2, e, ⟨⟨rfl, hr⟩, rfl⟩, h2, rfl, _⟩ := h
  simp at e
  obtain ⟨rfl, rfl⟩ := e
  exact ⟨rfl, hr, by simpa using h2⟩
theorem cAtm_ownMk {F : List Nat} {w : World} {x : Atm} {v1 : Value} (hr : inR x.rel) (h : (cSlice cInt).own F w x.terms [v1]) : cAtm.own F w x [.int .i64 x.rel, v1] := ⟨[_], [_], [], F, rfl, ⟨⟨rfl, hr⟩, rfl⟩, h, rfl, by simp⟩
theorem cAtm_ownOpen {F : List Nat} {w : World} {x : Atm} {cs : List Value} (h : cAtm.own F w x cs) : ∃ a cap, cs = [.int .i64 x.rel, .slice a x.terms.length cap] ∧ cAtm.own F w x [.int .i64 x.rel, .slice a x.terms.length cap] := by
  have h0 := h
  obtain ⟨_, _, F1, F2, rfl, ⟨⟨rfl, hr⟩, rfl⟩, h2, rfl, _⟩ := h
  obtain ⟨a, cap, rfl, _⟩ := h2
  exact ⟨a, cap, rfl, h0⟩
end Go.Proofs.Ytgoofnhhhlncoaa
namespace Go.Proofs.Ytgoofnhhhlncoaa
open Go.RowKit
set_option linter.unusedVariables false
set_option maxRecDepth 100000
/-- Marks in an atom of a list. -/
def markA (k : Nat) (x : Atm) : Atm := ⟨(k : Int), markI (k + 1) x.terms⟩
/-- The leaves of an atom of a list. -/
def lvA (x : Atm) : Nat := x.terms.length + 1
def markAs (k : Nat) (l : List Atm) : List Atm := markL markA lvA k l
set_option maxHeartbeats 1600000 in
theorem markAtomS_c {F : List Nat} {a : Option Addr} {cap : Nat} {l : List Atm} {k : Nat} {w : World} (hk : (k + lvs lvA l : Nat) ≤ 4611686018427387900) (hF : ∀ k, k ∈ F → k < w.heap.size) (h : (cSlice cAtm).own F w l [.slice a l.length cap]) :
    Calls Try.prog 86 #[.slice a l.length cap, .int .i64 k] w fun e w' => e = .returned (.int .i64 ((k + lvs lvA l : Nat) : Int)) ∧ (cSlice cAtm).own F w' (markAs k l) [.slice a l.length cap] ∧ Only F w w' := by
  have hm := (own_slice_len h).1
  have Hcp := Lib.hid (own_slice_len h).2
  rcases Nat.eq_zero_or_pos l.length with h0 | h0
  · have hl := List.eq_nil_of_length_eq_zero h0
    subst hl
    have Ho := Lib.hid h
    clear h hm h0
    simp only [List.length_nil, lvs_nil] at *
    go_enter Try.func86, Try.ntmps86
    go_wp2
    go_loopw [1, 5] (fun kv iv wr => kv = .int .i64 k ∧ iv = .int .i64 0 ∧ wr = w) (fun _ _ _ => 0)
    case atStart => exact ⟨rfl, rfl, rfl⟩
    case round =>
      obtain ⟨rfl, rfl, rfl⟩ := hrel
      go_wp2
      go_ret
      exact ⟨rfl, Ho.out, Only.refl _ _⟩
  · obtain ⟨g, off, G, es, rfl, hS⟩ := SL.of_own h hF h0
    clear h h0
    obtain ⟨n, hn⟩ : ∃ n : Nat, l.length = n := ⟨_, rfl⟩
    have Hn := Lib.hid hn
    obtain ⟨K, hK⟩ : ∃ K : Nat, k + lvs lvA l = K := ⟨_, rfl⟩
    have HK : Hid (k + lvs lvA (l.drop 0) = K) := hK
    rw [hn]
    rw [hK] at hk ⊢
    unfold maxLen at hm
    rw [hn] at hm
    clear hn hK
    generalize hM : markAs k l = M
    have HM : Hid ([] ++ markL markA lvA k (l.drop 0) = M) := hM
    have HS : Hid (SL cAtm F g off G es w ([] ++ l.drop 0)) := hS
    have HgF : Hid (g ∈ F) := hS.gF
    clear hM hS hF
    go_enter Try.func86, Try.ntmps86
    go_wp2
    go_loopw [1, 5] (fun kv iv wr => ∃ (j q : Nat) (dn : List Atm) (es : Nat → List Value), j ≤ n ∧ kv = .int .i64 (q : Int) ∧ iv = .int .i64 j ∧ Hid (q + lvs lvA (l.drop j) = K) ∧ Hid (dn.length = j) ∧ Hid (dn ++ markL markA lvA q (l.drop j) = M) ∧ Hid (SL cAtm F g off G es wr (dn ++ l.drop j)) ∧ Only F w wr) (fun _ iv _ => n - (intOf iv).toNat)
    case atStart => exact ⟨0, k, [], es, by omega, rfl, by go_num, HK, rfl, HM, HS, Only.refl _ _⟩
    case round =>
      clear HM HS HK
      obtain ⟨j, q, dn, es, hj, rfl, rfl, HK, Hd, HM, HS, ho⟩ := hrel
      by_cases hlt : j < n
      · have hjl : j < l.length := by rw [Hn.out]; exact hlt
        have hdl := List.drop_eq_getElem_cons hjl
        have hjl2 : j < (dn ++ l.drop j).length := by rw [List.length_append, List.length_drop, Hd.out]; omega
        have hel := HS.out.el j hjl2
        have f0 : wr.frozen? ⟨g, off + j * 2, none⟩ = false := HS.out.fr (j * 2) (by show _ < _ * 2; omega)
        have hz : (dn ++ l.drop j)[j] = l[j] := by
          have := get_mid dn (l.drop (j + 1)) l[j] j Hd.out (by rw [← hdl]; exact hjl2)
          simpa only [← hdl] using this
        rw [hz] at hel
        obtain ⟨hG, hc⟩ := hel
        obtain ⟨a1, cap1, he, hG1⟩ := cAtm_ownOpen hG
        rw [he] at hc
        obtain ⟨_, _, hv⟩ := cAtm_ownI hG1
        have c0 : wr.cell? ⟨g, off + j * 2, none⟩ = some (.int .i64 l[j].rel) := by exact hc 0 (by decide)
        have c1 : wr.cell? ⟨g, off + j * 2 + 1, none⟩ = some (.slice a1 l[j].terms.length cap1) := by exact hc 1 (by decide)
        have hgw := World.block_lt_of_cell? wr _ c0
        have hK2 := HK.out
        rw [lvs_drop lvA l j hjl] at hK2
        have hlv : lvA l[j] = l[j].terms.length + 1 := rfl
        have hqk : q + l[j].terms.length + 1 ≤ K := by omega
        have hGlt : ∀ x, x ∈ G j → x < wr.heap.size := fun x hx => HS.out.lt x (HS.out.sub j hjl2 x hx).1
        have hGg : ∀ x, x ∈ G j → x ≠ g := fun x hx => (HS.out.sub j hjl2 x hx).2
        obtain ⟨W1, hW1⟩ : ∃ W1, W1 = wr.setCell ⟨g, off + j * 2, none⟩ (.int .i64 (q : Int)) := ⟨_, rfl⟩
        have hsz1 : W1.heap.size = wr.heap.size := by rw [hW1]; simp [World.setCell]
        have Hm : Hid (Calls Try.prog 76 #[.slice a1 l[j].terms.length cap1, .int .i64 ((q + 1 : Nat) : Int)] W1 fun e w' => e = .returned (.int .i64 ((q + 1 + l[j].terms.length : Nat) : Int)) ∧ (cSlice cInt).own (G j) w' (markI (q + 1) l[j].terms) [.slice a1 l[j].terms.length cap1] ∧ Only (G j) W1 w') :=
          markIntS_c (by omega) (fun x hx => by rw [hsz1]; exact hGlt x hx) ((cSlice cInt).keepO hv (fun x hx => by rw [hW1]; exact heap_setCell_other _ _ _ _ (hGg x hx)))
        have e0 : W1.cell? ⟨g, off + j * 2, none⟩ = some (.int .i64 (q : Int)) := by rw [hW1]; exact World.cell?_setCell_same _ _ _ c0
        have e1 : W1.cell? ⟨g, off + j * 2 + 1, none⟩ = some (.slice a1 l[j].terms.length cap1) := by rw [hW1]; exact (World.cell?_setCell_other _ _ _ _ (by simp)).trans c1
        have Hz := Lib.hid hz
        have HK2 := Lib.hid hK2
        have HW1 := Lib.hid hW1
        have HGlt := Lib.hid hGlt
        have HGg := Lib.hid hGg
        clear hc he hG hG1 hv hz hK2 hGlt hGg hlv
        obtain ⟨nv, hnv⟩ : ∃ nv, l[j].terms.length = nv := ⟨_, rfl⟩
        have Hnv := Lib.hid hnv
        rw [hnv] at Hm e1 c1 hqk
        clear hnv
        go_upto_region 6 with fail
        rw [← hW1]
        clear c0 c1 f0 hW1
        go_wp2_with fail
        refine Hm.out.mono ?_
        rintro e w2 ⟨rfl, hown, ho2⟩
        have Hown := Lib.hid hown
        have Ho2 := Lib.hid ho2
        clear hown ho2
        go_wp2
        go_roundw
        case rel =>
          have ho2 := Ho2.out
          have hgw1 : g < W1.heap.size := by rw [hsz1]; exact hgw
          have hgG : g ∉ G j := fun hg => HGg.out g hg rfl
          have hbg : w2.heap[g]? = W1.heap[g]? := ho2.block g hgw1 hgG
          have hu := HS.out.upd (w' := w2) j hjl2 (markA q l[j]) [.int .i64 (q : Int), .slice a1 nv cap1] (by rw [← hsz1]; exact ho2.size)
            (fun i => by rw [World.frozen?_of_block (w := W1) hbg, HW1.out, World.frozen?_setCell])
            (fun i hi => by
              have hn2 : cAtm.n = 2 := rfl
              rw [hn2] at hi
              rw [World.cell?_of_block (w := W1) hbg, HW1.out]
              exact World.cell?_setCell_other _ _ _ _ (by intro e; simp at e <;> omega))
            (fun kk hk1 hk2 hk3 => by
              rw [ho2.block kk (by rw [hsz1]; exact HS.out.lt kk hk1) hk3, HW1.out]
              exact heap_setCell_other _ _ _ _ hk2)
            (cAtm_ownMk (x := markA q l[j]) (inR_nat (by omega)) Hown.out)
            (by
              have hn2 : cAtm.n = 2 := rfl
              rw [hn2]
              intro i hi
              match i, hi with
              | 0, _ => exact (World.cell?_of_block (w := W1) hbg).trans e0
              | 1, _ => exact (World.cell?_of_block (w := W1) hbg).trans e1)
          rw [hdl, set_mid dn _ _ _ j Hd.out] at hu
          obtain ⟨es2, hu⟩ : ∃ es2, SL cAtm F g off G es2 _ _ := ⟨_, hu⟩
          have hM2 := HM.out
          rw [markL_drop _ _ _ _ _ hjl] at hM2
          have hlv : lvA l[j] = nv + 1 := by rw [← Hnv.out]; rfl
          have hK3 := HK2.out
          rw [hlv] at hM2 hK3
          refine ⟨j + 1, q + 1 + nv, dn ++ [markA q l[j]], es2, by omega, by go_num, by go_num, show _ = _ by omega, show _ = _ by simp [Hd.out], show _ = _ by rw [← hM2, show q + 1 + nv = q + (nv + 1) by omega]; simp, hu, ?_⟩
          exact Only.trans (H := F) (Only.trans (H := F) ho (by rw [HW1.out]; exact Only.setCell (Only.refl F wr) HgF.out _ : Only F wr W1) (fun _ h => h) (fun _ h => h)) ho2 (fun _ h => h) (fun x hx => (HS.out.sub j hjl2 x hx).1)
        case measure => simp [intOf]; omega
      · obtain rfl : j = n := by omega
        have hd : l.drop j = [] := List.drop_eq_nil_of_le (by rw [Hn.out]; exact Nat.le_refl _)
        have hM2 := HM.out
        have hS2 := HS.out
        have hK2 := HK.out
        rw [hd] at hM2 hS2 hK2
        simp only [markL, List.append_nil, lvs_nil, Nat.add_zero] at hM2 hS2 hK2
        subst hM2
        subst hK2
        have hown := hS2.own cap (by rw [Hd.out]; have hcp := Hcp.out; have hnn := Hn.out; unfold maxLen; exact ⟨by omega, by omega⟩)
        rw [Hd.out] at hown
        have Hown := Lib.hid hown
        clear hown hS2 hd
        go_wp2
        go_ret
        exact ⟨rfl, Hown.out, ho⟩
set_option maxHeartbeats 1600000 in
theorem heldAtomS_c {a : Option Addr} {cap : Nat} {l : List Atm} {k : Nat} {w : World} (hk : (k + lvs lvA l : Nat) ≤ 4611686018427387900) (h : At (cSlice cAtm) w (markAs k l) [.slice a l.length cap]) :
    Calls Try.prog 87 #[.slice a l.length cap, .int .i64 k] w fun e w' => e = .returned (.int .i64 ((k + lvs lvA l : Nat) : Int)) ∧ Below w.heap.size w w' := by
  have hlen := (slice_len h).1
  have hm := (slice_len h).2
  unfold maxLen at hm
  obtain ⟨n, hn⟩ : ∃ n : Nat, l.length = n := ⟨_, rfl⟩
  obtain ⟨M, hM⟩ : ∃ M, markAs k l = M := ⟨_, rfl⟩
  have HM : Hid (M.drop 0 = markL markA lvA k (l.drop 0)) := hM.symm
  obtain ⟨K, hK⟩ : ∃ K : Nat, k + lvs lvA l = K := ⟨_, rfl⟩
  have HK : Hid (k + lvs lvA (l.drop 0) = K) := hK
  rw [hM] at h hlen hm
  have Hr : Hid (∀ w' : World, Below w.heap.size w w' → ∀ j (hj : j < M.length), _) := fun w' hb j hj => at_Atom (Cod.ok_below h hb) j hj
  have Hlen : Hid (M.length = n) := by rw [← hn]; exact hlen.symm
  have Hn := Lib.hid hn
  rw [← hlen, hn] at hm
  rw [hn]
  rw [hK] at hk ⊢
  clear hn h hM hlen hK
  go_enter Try.func87, Try.ntmps87
  go_wp2
  go_loopw [1, 5] (fun kv iv wr => ∃ j q : Nat, j ≤ n ∧ kv = .int .i64 (q : Int) ∧ iv = .int .i64 j ∧ Hid (q + lvs lvA (l.drop j) = K) ∧ Hid (M.drop j = markL markA lvA q (l.drop j)) ∧ Below w.heap.size w wr) (fun _ iv _ => n - (intOf iv).toNat)
  case atStart => exact ⟨0, k, by omega, rfl, by go_num, HK, HM, Below.refl _ _⟩
  case round =>
    clear HM HK
    obtain ⟨j, q, hj, rfl, rfl, HK, HM, hb⟩ := hrel
    by_cases hlt : j < n
    · have hjl : j < l.length := by rw [Hn.out]; exact hlt
      have hjm : j < M.length := by rw [Hlen.out]; exact hlt
      obtain ⟨hMj, hMd⟩ := markL_at _ _ _ _ _ j hjl hjm HM.out
      have HMd := Lib.hid hMd
      obtain ⟨b, off, a1, cap1, rfl, hbB, c0, c1, hx⟩ := Hr.out _ hb j hjm
      rw [hMj] at c0 c1 hx
      have hv := (cAtm_inv hx).1
      have hvl : (markA q l[j]).terms.length = l[j].terms.length := markI_length _ _
      have hK2 := HK.out
      rw [lvs_drop lvA l j hjl] at hK2
      have hlv : lvA l[j] = l[j].terms.length + 1 := rfl
      have Hc : Hid (∀ ww, Below w.heap.size wr ww → Calls Try.prog 77 #[.slice a1 (markA q l[j]).terms.length cap1, .int .i64 ((q + 1 : Nat) : Int)] ww fun e w' => e = .returned (.int .i64 ((q + 1 + (markA q l[j]).terms.length : Nat) : Int)) ∧ Below ww.heap.size ww w') :=
        fun ww hw2 => heldIntS_c (by rw [hvl]; omega) (fun i hi => markI_get _ _ _ hi) ((cSlice cInt).keep hv (fun k hk => hw2.block k hk) (Nat.le_trans hb.size hw2.size))
      have HK2 := Lib.hid hK2
      have Hlv := Lib.hid hlv
      rw [hvl] at c1 Hc
      have hrel : (markA q l[j]).rel = (q : Int) := rfl
      rw [hrel] at c0
      clear hx hv hvl hK2 hlv hMj hMd hrel
      obtain ⟨nv, hnv⟩ : ∃ nv, l[j].terms.length = nv := ⟨_, rfl⟩
      have Hnv := Lib.hid hnv
      rw [hnv] at c1 Hc
      have hqk : q + 1 + nv ≤ K := by have := HK2.out; have := Hlv.out; omega
      clear hnv
      have hne : ((q : Int) != (q : Int)) = false := bne_self_eq_false _
      have hge : decide (((q + 1 + nv : Nat) : Int) < 0) = false := decide_eq_false (by omega)
      go_wp2_with fail
      refine (Hc.out _ (Below.refl _ _)).mono ?_
      rintro e w1 ⟨rfl, hb1⟩
      go_wp2
      go_roundw
      case rel => exact ⟨j + 1, q + 1 + nv, by omega, by go_num, by go_num, show _ = _ by have := HK2.out; have := Hlv.out; have := Hnv.out; omega, show _ = _ by rw [HMd.out, Hlv.out, Hnv.out, show q + (nv + 1) = q + 1 + nv by omega], hb.trans (hb1.mono hb.size)⟩
      case measure => simp [intOf]; omega
    · obtain rfl : j = n := by omega
      have hd : l.drop j = [] := List.drop_eq_nil_of_le (by rw [Hn.out]; exact Nat.le_refl _)
      have hK2 := HK.out
      rw [hd, lvs_nil, Nat.add_zero] at hK2
      subst hK2
      go_wp2
      go_ret
      exact ⟨rfl, hb⟩

end Go.Proofs.Ytgoofnhhhlncoaa

/- The laws' marks in queries. -/
namespace Go.Proofs.Ytgoofnhhhlncoaa
open Go.RowKit
set_option linter.unusedVariables false
set_option maxRecDepth 100000

theorem cQry_ownI {F : List Nat} {w : World} {x : Qry} {v0 v1 v2 : Value} (h : cQry.own F w x [v0, v1, v2]) : v0 = .int .i64 x.vars ∧ inR x.vars ∧ ∃ F1 F2, F = F1 ++ F2 ∧ (cSlice cAtm).own F1 w x.atoms [v1] ∧ (cSlice cInt).own F2 w x.free [v2] ∧ ∀ k, k ∈ F1 → k ∉ F2 := by
  obtain ⟨_, _, F0, F3, e, ⟨⟨rfl, hr⟩, rfl⟩, ⟨u, v, F1, F2, e2, h1, h2, rfl, hd⟩, rfl, _⟩ := h
  have h1' := h1
  have h2' := h2
  obtain ⟨_, _, rfl, _⟩ := h1'
  obtain ⟨_, _, rfl, _⟩ := h2'
  subst e2
  simp at e
  obtain ⟨rfl, rfl, rfl⟩ := e
  exact ⟨rfl, hr, F1, F2, rfl, h1, h2, hd⟩
theorem cQry_ownMk {F1 F2 : List Nat} {w : World} {x : Qry} {v1 v2 : Value} (hr : inR x.vars) (h1 : (cSlice cAtm).own F1 w x.atoms [v1]) (h2 : (cSlice cInt).own F2 w x.free [v2]) (hd : ∀ k, k ∈ F1 → k ∉ F2) : cQry.own (F1 ++ F2) w x [.int .i64 x.vars, v1, v2] :=
  ⟨[_], [_, _], [], F1 ++ F2, rfl, ⟨⟨rfl, hr⟩, rfl⟩, ⟨[_], [_], F1, F2, rfl, h1, h2, rfl, hd⟩, rfl, by simp⟩
/-- Marks in a query. -/
def markQ (k : Nat) (x : Qry) : Qry := ⟨x.vars, markAs k x.atoms, markI (k + lvs lvA x.atoms) x.free⟩
def lvQ (x : Qry) : Nat := lvs lvA x.atoms + x.free.length
theorem lvs_lvA (l : List Atm) : lvs lvA l = sumAtom l + l.length := by
  induction l with
  | nil => rfl
  | cons x l ih =>
    unfold lvs sumAtom at *
    rw [List.map_cons, List.sum_cons, ih, List.map_cons, List.sum_cons, List.length_cons]
    show x.terms.length + 1 + _ = _
    omega
theorem lvQ_le (x : Qry) : lvQ x ≤ 3 * sizeQuery x := by
  unfold lvQ sizeQuery sizeAtomS
  rw [lvs_lvA]
  omega
set_option maxHeartbeats 800000 in
theorem markQuery_c {F : List Nat} {a1 a2 : Option Addr} {cap1 cap2 : Nat} {x : Qry} {k : Nat} {w : World} (hk : (k + lvQ x : Nat) ≤ 4611686018427387900) (hF : ∀ k, k ∈ F → k < w.heap.size)
    (h : cQry.own F w x [.int .i64 x.vars, .slice a1 x.atoms.length cap1, .slice a2 x.free.length cap2]) :
    Calls Try.prog 20 #[.agg #[.int .i64 x.vars, .slice a1 x.atoms.length cap1, .slice a2 x.free.length cap2], .int .i64 k] w fun e w' => e = .returned (.int .i64 ((k + lvQ x : Nat) : Int)) ∧ cQry.own F w' (markQ k x) [.int .i64 x.vars, .slice a1 x.atoms.length cap1, .slice a2 x.free.length cap2] ∧ Only F w w' := by
  obtain ⟨_, hr, F1, F2, rfl, o1, o2, hd⟩ := cQry_ownI h
  have hF1 : ∀ k, k ∈ F1 → k < w.heap.size := fun k hk => hF k (List.mem_append_left _ hk)
  have hF2 : ∀ k, k ∈ F2 → k < w.heap.size := fun k hk => hF k (List.mem_append_right _ hk)
  unfold lvQ at hk ⊢
  have H1 : Hid (∀ ww, Below w.heap.size w ww → Calls Try.prog 86 #[.slice a1 x.atoms.length cap1, .int .i64 k] ww fun e w' => e = .returned (.int .i64 ((k + lvs lvA x.atoms : Nat) : Int)) ∧ (cSlice cAtm).own F1 w' (markAs k x.atoms) [.slice a1 x.atoms.length cap1] ∧ Only F1 ww w') :=
    fun ww hb => markAtomS_c (by omega) (fun q hq => Nat.lt_of_lt_of_le (hF1 q hq) hb.size) ((cSlice cAtm).keepO o1 (fun q hq => hb.block q (hF1 q hq)))
  have H2 : Hid (∀ ww, Only F1 w ww → Calls Try.prog 76 #[.slice a2 x.free.length cap2, .int .i64 ((k + lvs lvA x.atoms : Nat) : Int)] ww fun e w' => e = .returned (.int .i64 ((k + lvs lvA x.atoms + x.free.length : Nat) : Int)) ∧ (cSlice cInt).own F2 w' (markI (k + lvs lvA x.atoms) x.free) [.slice a2 x.free.length cap2] ∧ Only F2 ww w') :=
    fun ww ho => markIntS_c (by omega) (fun q hq => Nat.lt_of_lt_of_le (hF2 q hq) ho.size) ((cSlice cInt).keepO o2 (fun q hq => ho.block q (hF2 q hq) (fun h => hd q h hq)))
  have Hd := Lib.hid hd
  have HF1 := Lib.hid hF1
  have Hr := Lib.hid hr
  clear h o1 o2 hd hF hF1 hF2 hr
  obtain ⟨vs, rs, fs⟩ := x
  simp only at *
  go_enter Try.func20, Try.ntmps20
  go_wp2_with fail
  obtain ⟨wx, hb0, p1, hwx⟩ : ∃ wx, Below w.heap.size w wx ∧ wx.cell? ⟨w.heap.size, 2, none⟩ = some (.slice a2 fs.length cap2) ∧ w.alloc (Obj.cells #[.int .i64 vs, .slice a1 rs.length cap1, .slice a2 fs.length cap2] 29) = wx := ⟨_, by go_grown, by go_simp, rfl⟩
  rw [hwx]
  clear hwx
  refine (H1.out _ hb0).mono ?_
  rintro e w1 ⟨rfl, hown1, ho1⟩
  have hlt := World.block_lt_of_cell? wx _ p1
  have q1 : w1.cell? ⟨w.heap.size, 2, none⟩ = some (.slice a2 fs.length cap2) := (World.cell?_of_block (w := wx) (ho1.block w.heap.size hlt (fun h => by have := HF1.out _ h; omega))).trans p1
  have hw1 : Only F1 w w1 := Only.trans (H := F1) (Only.of_below (F := F1) hb0) ho1 (fun _ h => h) (fun _ h => h)
  have Hown1 := Lib.hid hown1
  clear hown1 ho1 p1
  go_wp2_with fail
  refine (H2.out _ hw1).mono ?_
  rintro e w2 ⟨rfl, hown2, ho2⟩
  have Hown2 := Lib.hid hown2
  have Ho2 := Lib.hid ho2
  clear hown2 ho2 q1
  go_wp2
  go_ret
  refine ⟨by rw [← Nat.add_assoc]; rfl, cQry_ownMk (x := markQ k ⟨vs, rs, fs⟩) Hr.out ((cSlice cAtm).keepO Hown1.out (fun q hq => Ho2.out.block q (Nat.lt_of_lt_of_le (HF1.out q hq) hw1.size) (Hd.out q hq))) Hown2.out Hd.out, ?_⟩
  exact Only.trans (H := F1 ++ F2) hw1 Ho2.out (fun _ h => List.mem_append_left _ h) (fun _ h => List.mem_append_right _ h)
set_option maxHeartbeats 800000 in
theorem heldQuery_c {a1 a2 : Option Addr} {cap1 cap2 : Nat} {x : Qry} {k : Nat} {w : World} (hk : (k + lvQ x : Nat) ≤ 4611686018427387900)
    (h : At cQry w (markQ k x) [.int .i64 x.vars, .slice a1 x.atoms.length cap1, .slice a2 x.free.length cap2]) :
    Calls Try.prog 21 #[.agg #[.int .i64 x.vars, .slice a1 x.atoms.length cap1, .slice a2 x.free.length cap2], .int .i64 k] w fun e w' => e = .returned (.int .i64 ((k + lvQ x : Nat) : Int)) ∧ Below w.heap.size w w' := by
  obtain ⟨o1, o2, _⟩ := cQry_inv h
  unfold lvQ at hk ⊢
  have hl2 : (markQ k x).free.length = x.free.length := markI_length _ _
  have H1 : Hid (∀ ww, Below w.heap.size w ww → Calls Try.prog 87 #[.slice a1 x.atoms.length cap1, .int .i64 k] ww fun e w' => e = .returned (.int .i64 ((k + lvs lvA x.atoms : Nat) : Int)) ∧ Below ww.heap.size ww w') :=
    fun ww hb => heldAtomS_c (by omega) (At.below (c := cSlice cAtm) o1 hb (Nat.le_refl _))
  have H2 : Hid (∀ ww, Below w.heap.size w ww → Calls Try.prog 77 #[.slice a2 x.free.length cap2, .int .i64 ((k + lvs lvA x.atoms : Nat) : Int)] ww fun e w' => e = .returned (.int .i64 ((k + lvs lvA x.atoms + x.free.length : Nat) : Int)) ∧ Below ww.heap.size ww w') := by
    intro ww hb
    have := heldIntS_c (a := a2) (cap := cap2) (l := (markQ k x).free) (k := k + lvs lvA x.atoms) (w := ww) (by rw [hl2]; omega) (fun i hi => markI_get _ _ _ hi) (by rw [hl2]; exact At.below (c := cSlice cInt) o2 hb (Nat.le_refl _))
    rw [hl2] at this
    exact this
  clear h o1 o2 hl2
  obtain ⟨vs, rs, fs⟩ := x
  simp only at *
  have hg1 : decide (((k + lvs lvA rs : Nat) : Int) < 0) = false := decide_eq_false (by omega)
  have hg2 : decide (((k + lvs lvA rs + fs.length : Nat) : Int) < 0) = false := decide_eq_false (by omega)
  go_enter Try.func21, Try.ntmps21
  go_wp2_with fail
  obtain ⟨wx, hb0, p1, hwx⟩ : ∃ wx, Below w.heap.size w wx ∧ wx.cell? ⟨w.heap.size, 2, none⟩ = some (.slice a2 fs.length cap2) ∧ w.alloc (Obj.cells #[.int .i64 vs, .slice a1 rs.length cap1, .slice a2 fs.length cap2] 29) = wx := ⟨_, by go_grown, by go_simp, rfl⟩
  rw [hwx]
  clear hwx
  refine (H1.out _ hb0).mono ?_
  rintro e w1 ⟨rfl, hb1⟩
  have q1 := cell_next p1 hb1
  have hw1 := Below.next hb0 hb1
  clear hb1 p1
  go_wp2_with fail
  refine (H2.out _ hw1).mono ?_
  rintro e w2 ⟨rfl, hb2⟩
  have hw2 := Below.next hw1 hb2
  clear hb2 q1
  go_wp2
  go_ret
  exact ⟨by rw [← Nat.add_assoc]; rfl, hw2⟩
end Go.Proofs.Ytgoofnhhhlncoaa


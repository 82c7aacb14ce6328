/- MarkTwo: MarkE MarkF MarkG MarkH. -/
import Derived.Test.YtlhdagpimcafaaaDoorMarkOne
import Derived.Deep.Cut
/- The laws' marks in facts. -/
namespace Go.Proofs.YtlhdagpimcafaaaDoor
open Go.RowKit
set_option linter.unusedVariables false
set_option maxRecDepth 100000

theorem cFct_ownI {F : List Nat} {w : World} {x : Fct} {v0 v1 : Value} (h : cFct.own F w x [v0, v1]) : v0 = .int .i64 x.rel ∧ inR x.rel ∧ (cSlice cInt).own F w x.vals [v1] := by
  obtain ⟨_, _, F1, F2, e, ⟨⟨rfl, hr⟩, rfl⟩, h2, rfl, _⟩ := h
  simp at e
  obtain ⟨rfl, rfl⟩ := e
  exact ⟨rfl, hr, by simpa using h2⟩
theorem cFct_ownMk {F : List Nat} {w : World} {x : Fct} {v1 : Value} (hr : inR x.rel) (h : (cSlice cInt).own F w x.vals [v1]) : cFct.own F w x [.int .i64 x.rel, v1] := ⟨[_], [_], [], F, rfl, ⟨⟨rfl, hr⟩, rfl⟩, h, rfl, by simp⟩
theorem cFct_ownOpen {F : List Nat} {w : World} {x : Fct} {cs : List Value} (h : cFct.own F w x cs) : ∃ a cap, cs = [.int .i64 x.rel, .slice a x.vals.length cap] ∧ cFct.own F w x [.int .i64 x.rel, .slice a x.vals.length cap] := by
  have h0 := h
  obtain ⟨_, _, F1, F2, rfl, ⟨⟨rfl, hr⟩, rfl⟩, h2, rfl, _⟩ := h
  obtain ⟨a, cap, rfl, _⟩ := h2
  exact ⟨a, cap, rfl, h0⟩
end Go.Proofs.YtlhdagpimcafaaaDoor
namespace Go.Proofs.YtlhdagpimcafaaaDoor
open Go.RowKit
set_option linter.unusedVariables false
set_option maxRecDepth 100000
/-- Marks in a fact of a list. -/
def markF (k : Nat) (x : Fct) : Fct := ⟨(k : Int), markI (k + 1) x.vals⟩
/-- The leaves of a fact of a list. -/
def lvF (x : Fct) : Nat := x.vals.length + 1
def markFs (k : Nat) (l : List Fct) : List Fct := markL markF lvF k l
end Go.Proofs.YtlhdagpimcafaaaDoor
namespace Go.Proofs.YtlhdagpimcafaaaDoor
open Go.RowKit
set_option linter.unusedVariables false
set_option maxRecDepth 100000
theorem markL_at {α : Type} (mk : Nat → α → α) (lv : α → Nat) (q : Nat) (l M : List α) (j : Nat) (hj : j < l.length) (hM : j < M.length) (h : M.drop j = markL mk lv q (l.drop j)) : M[j] = mk q l[j] ∧ M.drop (j + 1) = markL mk lv (q + lv l[j]) (l.drop (j + 1)) := by
  rw [List.drop_eq_getElem_cons hM, markL_drop _ _ _ _ _ hj] at h
  simp only [List.cons.injEq] at h
  exact h
/-- Marks in a slice of slices of numbers. -/
def markIs (k : Nat) (l : List (List Int)) : List (List Int) := markL markI List.length k l
set_option maxHeartbeats 1600000 in
theorem markIntSS_c {F : List Nat} {a : Option Addr} {cap : Nat} {l : List (List Int)} {k : Nat} {w : World} (hk : (k + lvs List.length l : Nat) ≤ 4611686018427387900) (hF : ∀ k, k ∈ F → k < w.heap.size) (h : (cSlice (cSlice cInt)).own F w l [.slice a l.length cap]) :
    Calls Tryd.prog 11 #[.slice a l.length cap, .int .i64 k] w fun e w' => e = .returned (.int .i64 ((k + lvs List.length l : Nat) : Int)) ∧ (cSlice (cSlice cInt)).own F w' (markIs k l) [.slice a l.length cap] ∧ Only F w w' := by
  have hm := (own_slice_len h).1
  have Hcp := Lib.hid (own_slice_len h).2
  rcases Nat.eq_zero_or_pos l.length with h0 | h0
  · have hl := List.eq_nil_of_length_eq_zero h0
    subst hl
    have Ho := Lib.hid h
    clear h hm h0
    simp only [List.length_nil, lvs_nil] at *
    go_enter Tryd.func11, Tryd.ntmps11
    go_wp2
    go_loopw [1, 5] (fun kv iv wr => kv = .int .i64 k ∧ iv = .int .i64 0 ∧ wr = w) (fun _ _ _ => 0)
    case atStart => exact ⟨rfl, rfl, rfl⟩
    case round =>
      obtain ⟨rfl, rfl, rfl⟩ := hrel
      go_wp2
      go_ret
      exact ⟨rfl, Ho.out, Only.refl _ _⟩
  · obtain ⟨g, off, G, es, rfl, hS⟩ := SL.of_own h hF h0
    clear h h0
    obtain ⟨n, hn⟩ : ∃ n : Nat, l.length = n := ⟨_, rfl⟩
    have Hn := Lib.hid hn
    obtain ⟨K, hK⟩ : ∃ K : Nat, k + lvs List.length l = K := ⟨_, rfl⟩
    have HK : Hid (k + lvs List.length (l.drop 0) = K) := hK
    rw [hn]
    rw [hK] at hk ⊢
    unfold maxLen at hm
    rw [hn] at hm
    clear hn hK
    generalize hM : markIs k l = M
    have HM : Hid ([] ++ markL markI List.length k (l.drop 0) = M) := hM
    have HS : Hid (SL (cSlice cInt) F g off G es w ([] ++ l.drop 0)) := hS
    have HgF : Hid (g ∈ F) := hS.gF
    clear hM hS hF
    go_enter Tryd.func11, Tryd.ntmps11
    go_wp2
    go_loopw [1, 5] (fun kv iv wr => ∃ (j q : Nat) (dn : List (List Int)) (es : Nat → List Value), j ≤ n ∧ kv = .int .i64 (q : Int) ∧ iv = .int .i64 j ∧ Hid (q + lvs List.length (l.drop j) = K) ∧ Hid (dn.length = j) ∧ Hid (dn ++ markL markI List.length q (l.drop j) = M) ∧ Hid (SL (cSlice cInt) F g off G es wr (dn ++ l.drop j)) ∧ Only F w wr) (fun _ iv _ => n - (intOf iv).toNat)
    case atStart => exact ⟨0, k, [], es, by omega, rfl, by go_num, HK, rfl, HM, HS, Only.refl _ _⟩
    case round =>
      clear HM HS HK
      obtain ⟨j, q, dn, es, hj, rfl, rfl, HK, Hd, HM, HS, ho⟩ := hrel
      by_cases hlt : j < n
      · have hjl : j < l.length := by rw [Hn.out]; exact hlt
        have hdl := List.drop_eq_getElem_cons hjl
        have hjl2 : j < (dn ++ l.drop j).length := by rw [List.length_append, List.length_drop, Hd.out]; omega
        have hel := HS.out.el j hjl2
        have hz : (dn ++ l.drop j)[j] = l[j] := by
          have := get_mid dn (l.drop (j + 1)) l[j] j Hd.out (by rw [← hdl]; exact hjl2)
          simpa only [← hdl] using this
        rw [hz] at hel
        obtain ⟨hG, hc⟩ := hel
        obtain ⟨a1, cap1, he, hv⟩ := slice_openO hG
        rw [he] at hc
        have c1 : wr.cell? ⟨g, off + j, none⟩ = some (.slice a1 l[j].length cap1) := by
          have := hc 0 (by decide)
          rw [show (cSlice cInt).n = 1 from rfl, Nat.mul_one, Nat.add_zero] at this
          exact this
        have hgw := World.block_lt_of_cell? wr _ c1
        have hK2 := HK.out
        rw [lvs_drop List.length l j hjl] at hK2
        have hqk : q + l[j].length ≤ K := by omega
        have hGlt : ∀ x, x ∈ G j → x < wr.heap.size := fun x hx => HS.out.lt x (HS.out.sub j hjl2 x hx).1
        have hGg : ∀ x, x ∈ G j → x ≠ g := fun x hx => (HS.out.sub j hjl2 x hx).2
        have Hm : Hid (Calls Tryd.prog 12 #[.slice a1 l[j].length cap1, .int .i64 (q : Int)] wr fun e w' => e = .returned (.int .i64 ((q + l[j].length : Nat) : Int)) ∧ (cSlice cInt).own (G j) w' (markI q l[j]) [.slice a1 l[j].length cap1] ∧ Only (G j) wr w') :=
          markIntS_c (by omega) hGlt hv
        have HK2 := Lib.hid hK2
        have HGg := Lib.hid hGg
        have Hc1 := Lib.hid c1
        clear hc he hG hv hz hK2 hGlt hGg
        obtain ⟨nv, hnv⟩ : ∃ nv, l[j].length = nv := ⟨_, rfl⟩
        have Hnv := Lib.hid hnv
        rw [hnv] at Hm c1 Hc1 hqk
        clear hnv
        go_wp2_with fail
        refine Hm.out.mono ?_
        rintro e w2 ⟨rfl, hown, ho2⟩
        have Hown := Lib.hid hown
        have Ho2 := Lib.hid ho2
        clear hown ho2 c1
        go_wp2
        go_roundw
        case rel =>
          have ho2 := Ho2.out
          have hgG : g ∉ G j := fun hg => HGg.out g hg rfl
          have hbg : w2.heap[g]? = wr.heap[g]? := ho2.block g hgw hgG
          have hu := HS.out.upd (w' := w2) j hjl2 (markI q l[j]) [.slice a1 nv cap1] ho2.size
            (fun i => World.frozen?_of_block (w := wr) hbg) (fun i _ => World.cell?_of_block (w := wr) hbg)
            (fun kk hk1 hk2 hk3 => ho2.block kk (HS.out.lt kk hk1) hk3) Hown.out
            (by
              rw [show (cSlice cInt).n = 1 from rfl, Nat.mul_one]
              intro i hi
              obtain rfl : i = 0 := by omega
              exact (World.cell?_of_block (w := wr) hbg).trans Hc1.out)
          rw [hdl, set_mid dn _ _ _ j Hd.out] at hu
          obtain ⟨es2, hu⟩ : ∃ es2, SL (cSlice cInt) F g off G es2 _ _ := ⟨_, hu⟩
          have hM2 := HM.out
          rw [markL_drop _ _ _ _ _ hjl] at hM2
          have hK3 := HK2.out
          rw [Hnv.out] at hM2 hK3
          refine ⟨j + 1, q + nv, dn ++ [markI q l[j]], es2, by omega, by go_num, by go_num, show _ = _ by omega, show _ = _ by simp [Hd.out], show _ = _ by rw [← hM2]; simp, hu, ?_⟩
          exact Only.trans (H := F) ho ho2 (fun _ h => h) (fun x hx => (HS.out.sub j hjl2 x hx).1)
        case measure => simp [intOf]; omega
      · obtain rfl : j = n := by omega
        have hd : l.drop j = [] := List.drop_eq_nil_of_le (by rw [Hn.out]; exact Nat.le_refl _)
        have hM2 := HM.out
        have hS2 := HS.out
        have hK2 := HK.out
        rw [hd] at hM2 hS2 hK2
        simp only [markL, List.append_nil, lvs_nil, Nat.add_zero] at hM2 hS2 hK2
        subst hM2
        subst hK2
        have hown := hS2.own cap (by rw [Hd.out]; have hcp := Hcp.out; have hnn := Hn.out; unfold maxLen; exact ⟨by omega, by omega⟩)
        rw [Hd.out] at hown
        have Hown := Lib.hid hown
        clear hown hS2 hd
        go_wp2
        go_ret
        exact ⟨rfl, Hown.out, ho⟩
end Go.Proofs.YtlhdagpimcafaaaDoor

/- The laws' marks in databases; read again in slices of slices of numbers. -/
namespace Go.Proofs.YtlhdagpimcafaaaDoor
open Go.RowKit
set_option linter.unusedVariables false
set_option maxRecDepth 100000

theorem at_IntSS {B : Nat} {w : World} {l : List (List Int)} {a0 : Option Addr} {len cap0 : Nat} (h : (cSlice (cSlice cInt)).ok B w l [.slice a0 len cap0]) (j : Nat) (hj : j < l.length) :
    ∃ b off a cap, a0 = some ⟨b, off, none⟩ ∧ b < B ∧ w.cell? ⟨b, off + j, none⟩ = some (.slice a l[j].length cap) ∧ (cSlice cInt).ok B w l[j] [.slice a l[j].length cap] := by
  obtain ⟨b, off, es, rfl, hb, he, hc⟩ := slice_at h j hj
  obtain ⟨a, cap, rfl, hx⟩ := slice_open he
  refine ⟨b, off, a, cap, rfl, hb, ?_, hx⟩
  have := hc 0 (by decide)
  rw [show (cSlice cInt).n = 1 from rfl, Nat.mul_one, Nat.add_zero] at this
  exact this
set_option maxHeartbeats 1600000 in
theorem heldIntSS_c {a : Option Addr} {cap : Nat} {l : List (List Int)} {k : Nat} {w : World} (hk : (k + lvs List.length l : Nat) ≤ 4611686018427387900) (h : At (cSlice (cSlice cInt)) w (markIs k l) [.slice a l.length cap]) :
    Calls Tryd.prog 16 #[.slice a l.length cap, .int .i64 k] w fun e w' => e = .returned (.int .i64 ((k + lvs List.length l : Nat) : Int)) ∧ Below w.heap.size w w' := by
  have hlen := (slice_len h).1
  have hm := (slice_len h).2
  unfold maxLen at hm
  obtain ⟨n, hn⟩ : ∃ n : Nat, l.length = n := ⟨_, rfl⟩
  obtain ⟨M, hM⟩ : ∃ M, markIs k l = M := ⟨_, rfl⟩
  have HM : Hid (M.drop 0 = markL markI List.length k (l.drop 0)) := hM.symm
  obtain ⟨K, hK⟩ : ∃ K : Nat, k + lvs List.length l = K := ⟨_, rfl⟩
  have HK : Hid (k + lvs List.length (l.drop 0) = K) := hK
  rw [hM] at h hlen hm
  have Hr : Hid (∀ w' : World, Below w.heap.size w w' → ∀ j (hj : j < M.length), _) := fun w' hb j hj => at_IntSS (Cod.ok_below h hb) j hj
  have Hlen : Hid (M.length = n) := by rw [← hn]; exact hlen.symm
  have Hn := Lib.hid hn
  rw [← hlen, hn] at hm
  rw [hn]
  rw [hK] at hk ⊢
  clear hn h hM hlen hK
  go_enter Tryd.func16, Tryd.ntmps16
  go_wp2
  go_loopw [1, 5] (fun kv iv wr => ∃ j q : Nat, j ≤ n ∧ kv = .int .i64 (q : Int) ∧ iv = .int .i64 j ∧ Hid (q + lvs List.length (l.drop j) = K) ∧ Hid (M.drop j = markL markI List.length q (l.drop j)) ∧ Below w.heap.size w wr) (fun _ iv _ => n - (intOf iv).toNat)
  case atStart => exact ⟨0, k, by omega, rfl, by go_num, HK, HM, Below.refl _ _⟩
  case round =>
    clear HM HK
    obtain ⟨j, q, hj, rfl, rfl, HK, HM, hb⟩ := hrel
    by_cases hlt : j < n
    · have hjl : j < l.length := by rw [Hn.out]; exact hlt
      have hjm : j < M.length := by rw [Hlen.out]; exact hlt
      obtain ⟨hMj, hMd⟩ := markL_at _ _ _ _ _ j hjl hjm HM.out
      have HMd := Lib.hid hMd
      obtain ⟨b, off, a1, cap1, rfl, hbB, c1, hv⟩ := Hr.out _ hb j hjm
      rw [hMj] at c1 hv
      have hvl : (markI q l[j]).length = l[j].length := markI_length _ _
      have hK2 := HK.out
      rw [lvs_drop List.length l j hjl] at hK2
      have Hc : Hid (∀ ww, Below w.heap.size wr ww → Calls Tryd.prog 13 #[.slice a1 (markI q l[j]).length cap1, .int .i64 (q : Int)] ww fun e w' => e = .returned (.int .i64 ((q + (markI q l[j]).length : Nat) : Int)) ∧ Below ww.heap.size ww w') :=
        fun ww hw2 => heldIntS_c (by rw [hvl]; omega) (fun i hi => markI_get _ _ _ hi) ((cSlice cInt).keep hv (fun k hk => hw2.block k hk) (Nat.le_trans hb.size hw2.size))
      have HK2 := Lib.hid hK2
      rw [hvl] at c1 Hc
      clear hv hvl hK2 hMj hMd
      obtain ⟨nv, hnv⟩ : ∃ nv, l[j].length = nv := ⟨_, rfl⟩
      have Hnv := Lib.hid hnv
      rw [hnv] at c1 Hc
      have hqk : q + nv ≤ K := by have := HK2.out; rw [hnv] at this; omega
      clear hnv
      have hge : decide (((q + nv : Nat) : Int) < 0) = false := decide_eq_false (by omega)
      go_wp2_with fail
      refine (Hc.out _ (Below.refl _ _)).mono ?_
      rintro e w1 ⟨rfl, hb1⟩
      go_wp2
      go_roundw
      case rel => exact ⟨j + 1, q + nv, by omega, by go_num, by go_num, show _ = _ by have := HK2.out; rw [Hnv.out] at this; omega, show _ = _ by rw [HMd.out, Hnv.out], hb.trans (hb1.mono hb.size)⟩
      case measure => simp [intOf]; omega
    · obtain rfl : j = n := by omega
      have hd : l.drop j = [] := List.drop_eq_nil_of_le (by rw [Hn.out]; exact Nat.le_refl _)
      have hK2 := HK.out
      rw [hd, lvs_nil, Nat.add_zero] at hK2
      subst hK2
      go_wp2
      go_ret
      exact ⟨rfl, hb⟩

theorem cDbs_ownI {F : List Nat} {w : World} {x : Dbs} {v0 v1 : Value} (h : cDbs.own F w x [v0, v1]) : ∃ F1 F2, F = F1 ++ F2 ∧ (cSlice cRel).own F1 w x.rels [v0] ∧ (cSlice cFct).own F2 w x.facts [v1] ∧ ∀ k, k ∈ F1 → k ∉ F2 := by
  obtain ⟨u, v, F1, F2, e, h1, h2, rfl, hd⟩ := h
  have h1' := h1
  have h2' := h2
  obtain ⟨_, _, rfl, _⟩ := h1'
  obtain ⟨_, _, rfl, _⟩ := h2'
  simp at e
  obtain ⟨rfl, rfl⟩ := e
  exact ⟨F1, F2, rfl, h1, h2, hd⟩
/-- Marks in a database. -/
def markD (k : Nat) (x : Dbs) : Dbs := ⟨markRs k x.rels, markFs (k + x.rels.length * 3) x.facts⟩
def lvD (x : Dbs) : Nat := x.rels.length * 3 + lvs lvF x.facts
theorem lvs_lvF (l : List Fct) : lvs lvF l = sumFact l + l.length := by
  induction l with
  | nil => rfl
  | cons x l ih =>
    unfold lvs sumFact at *
    rw [List.map_cons, List.sum_cons, ih, List.map_cons, List.sum_cons, List.length_cons]
    show x.vals.length + 1 + _ = _
    omega
theorem lvD_le (x : Dbs) : lvD x ≤ 3 * sizeDatabase x := by
  unfold lvD sizeDatabase sizeRelationS sizeFactS
  rw [lvs_lvF]
  omega
end Go.Proofs.YtlhdagpimcafaaaDoor

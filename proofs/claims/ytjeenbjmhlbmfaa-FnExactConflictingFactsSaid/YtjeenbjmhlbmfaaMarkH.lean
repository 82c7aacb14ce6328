/- The laws' marks in databases; read again in slices of slices of numbers. -/
import Derived.Test.YtjeenbjmhlbmfaaMarkG
namespace Go.Proofs.Ytjeenbjmhlbmfaa
open Go.RowKit
set_option linter.unusedVariables false
set_option maxRecDepth 100000

theorem at_IntSS {B : Nat} {w : World} {l : List (List Int)} {a0 : Option Addr} {len cap0 : Nat} (h : (cSlice (cSlice cInt)).ok B w l [.slice a0 len cap0]) (j : Nat) (hj : j < l.length) :
    ∃ b off a cap, a0 = some ⟨b, off, none⟩ ∧ b < B ∧ w.cell? ⟨b, off + j, none⟩ = some (.slice a l[j].length cap) ∧ (cSlice cInt).ok B w l[j] [.slice a l[j].length cap] := by
  obtain ⟨b, off, es, rfl, hb, he, hc⟩ := slice_at h j hj
  obtain ⟨a, cap, rfl, hx⟩ := slice_open he
  refine ⟨b, off, a, cap, rfl, hb, ?_, hx⟩
  have := hc 0 (by decide)
  rw [show (cSlice cInt).n = 1 from rfl, Nat.mul_one, Nat.add_zero] at this
  exact this
set_option maxHeartbeats 1600000 in
theorem heldIntSS_c {a : Option Addr} {cap : Nat} {l : List (List Int)} {k : Nat} {w : World} (hk : (k + lvs List.length l : Nat) ≤ 4611686018427387900) (h : At (cSlice (cSlice cInt)) w (markIs k l) [.slice a l.length cap]) :
    Calls Try.prog 38 #[.slice a l.length cap, .int .i64 k] w fun e w' => e = .returned (.int .i64 ((k + lvs List.length l : Nat) : Int)) ∧ Below w.heap.size w w' := by
  have hlen := (slice_len h).1
  have hm := (slice_len h).2
  unfold maxLen at hm
  obtain ⟨n, hn⟩ : ∃ n : Nat, l.length = n := ⟨_, rfl⟩
  obtain ⟨M, hM⟩ : ∃ M, markIs k l = M := ⟨_, rfl⟩
  have HM : Hid (M.drop 0 = markL markI List.length k (l.drop 0)) := hM.symm
  obtain ⟨K, hK⟩ : ∃ K : Nat, k + lvs List.length l = K := ⟨_, rfl⟩
  have HK : Hid (k + lvs List.length (l.drop 0) = K) := hK
  rw [hM] at h hlen hm
  have Hr : Hid (∀ w' : World, Below w.heap.size w w' → ∀ j (hj : j < M.length), _) := fun w' hb j hj => at_IntSS (Cod.ok_below h hb) j hj
  have Hlen : Hid (M.length = n) := by rw [← hn]; exact hlen.symm
  have Hn := Lib.hid hn
  rw [← hlen, hn] at hm
  rw [hn]
  rw [hK] at hk ⊢
  clear hn h hM hlen hK
  go_enter Try.func38, Try.ntmps38
  go_wp2
  go_loopw [1, 5] (fun kv iv wr => ∃ j q : Nat, j ≤ n ∧ kv = .int .i64 (q : Int) ∧ iv = .int .i64 j ∧ Hid (q + lvs List.length (l.drop j) = K) ∧ Hid (M.drop j = markL markI List.length q (l.drop j)) ∧ Below w.heap.size w wr) (fun _ iv _ => n - (intOf iv).toNat)
  case atStart => exact ⟨0, k, by omega, rfl, by go_num, HK, HM, Below.refl _ _⟩
  case round =>
    clear HM HK
    obtain ⟨j, q, hj, rfl, rfl, HK, HM, hb⟩ := hrel
    by_cases hlt : j < n
    · have hjl : j < l.length := by rw [Hn.out]; exact hlt
      have hjm : j < M.length := by rw [Hlen.out]; exact hlt
      obtain ⟨hMj, hMd⟩ := markL_at _ _ _ _ _ j hjl hjm HM.out
      have HMd := Lib.hid hMd
      obtain ⟨b, off, a1, cap1, rfl, hbB, c1, hv⟩ := Hr.out _ hb j hjm
      rw [hMj] at c1 hv
      have hvl : (markI q l[j]).length = l[j].length := markI_length _ _
      have hK2 := HK.out
      rw [lvs_drop List.length l j hjl] at hK2
      have Hc : Hid (∀ ww, Below w.heap.size wr ww → Calls Try.prog 27 #[.slice a1 (markI q l[j]).length cap1, .int .i64 (q : Int)] ww fun e w' => e = .returned (.int .i64 ((q + (markI q l[j]).length : Nat) : Int)) ∧ Below ww.heap.size ww w') :=
        fun ww hw2 => heldIntS_c (by rw [hvl]; omega) (fun i hi => markI_get _ _ _ hi) ((cSlice cInt).keep hv (fun k hk => hw2.block k hk) (Nat.le_trans hb.size hw2.size))
      have HK2 := Lib.hid hK2
      rw [hvl] at c1 Hc
      clear hv hvl hK2 hMj hMd
      obtain ⟨nv, hnv⟩ : ∃ nv, l[j].length = nv := ⟨_, rfl⟩
      have Hnv := Lib.hid hnv
      rw [hnv] at c1 Hc
      have hqk : q + nv ≤ K := by have := HK2.out; rw [hnv] at this; omega
      clear hnv
      have hge : decide (((q + nv : Nat) : Int) < 0) = false := decide_eq_false (by omega)
      go_wp2_with fail
      refine (Hc.out _ (Below.refl _ _)).mono ?_
      rintro e w1 ⟨rfl, hb1⟩
      go_wp2
      go_roundw
      case rel => exact ⟨j + 1, q + nv, by omega, by go_num, by go_num, show _ = _ by have := HK2.out; rw [Hnv.out] at this; omega, show _ = _ by rw [HMd.out, Hnv.out], hb.trans (hb1.mono hb.size)⟩
      case measure => simp [intOf]; omega
    · obtain rfl : j = n := by omega
      have hd : l.drop j = [] := List.drop_eq_nil_of_le (by rw [Hn.out]; exact Nat.le_refl _)
      have hK2 := HK.out
      rw [hd, lvs_nil, Nat.add_zero] at hK2
      subst hK2
      go_wp2
      go_ret
      exact ⟨rfl, hb⟩

theorem cDbs_ownI {F : List Nat} {w : World} {x : Dbs} {v0 v1 : Value} (h : cDbs.own F w x [v0, v1]) : ∃ F1 F2, F = F1 ++ F2 ∧ (cSlice cRel).own F1 w x.rels [v0] ∧ (cSlice cFct).own F2 w x.facts [v1] ∧ ∀ k, k ∈ F1 → k ∉ F2 := by
  obtain ⟨u, v, F1, F2, e, h1, h2, rfl, hd⟩ := h
  have h1' := h1
  have h2' := h2
  obtain ⟨_, _, rfl, _⟩ := h1'
  obtain ⟨_, _, rfl, _⟩ := h2'
  simp at e
  obtain ⟨rfl, rfl⟩ := e
  exact ⟨F1, F2, rfl, h1, h2, hd⟩
/-- Marks in a database. -/
def markD (k : Nat) (x : Dbs) : Dbs := ⟨markRs k x.rels, markFs (k + x.rels.length * 3) x.facts⟩
def lvD (x : Dbs) : Nat := x.rels.length * 3 + lvs lvF x.facts
theorem lvs_lvF (l : List Fct) : lvs lvF l = sumFact l + l.length := by
  induction l with
  | nil => rfl
  | cons x l ih =>
    unfold lvs sumFact at *
    rw [List.map_cons, List.sum_cons, ih, List.map_cons, List.sum_cons, List.length_cons]
    show x.vals.length + 1 + _ = _
    omega
theorem lvD_le (x : Dbs) : lvD x ≤ 3 * sizeDatabase x := by
  unfold lvD sizeDatabase sizeRelationS sizeFactS
  rw [lvs_lvF]
  omega
set_option maxHeartbeats 800000 in
theorem markDatabase_c {F : List Nat} {a0 a1 : Option Addr} {cap0 cap1 : Nat} {x : Dbs} {k : Nat} {w : World} (h1 : 1 ≤ k) (hk : (k + lvD x : Nat) ≤ 4611686018427387900) (hF : ∀ k, k ∈ F → k < w.heap.size)
    (h : cDbs.own F w x [.slice a0 x.rels.length cap0, .slice a1 x.facts.length cap1]) :
    Calls Try.prog 36 #[.agg #[.slice a0 x.rels.length cap0, .slice a1 x.facts.length cap1], .int .i64 k] w fun e w' => e = .returned (.int .i64 ((k + lvD x : Nat) : Int)) ∧ cDbs.own F w' (markD k x) [.slice a0 x.rels.length cap0, .slice a1 x.facts.length cap1] ∧ Only F w w' := by
  obtain ⟨F1, F2, rfl, o1, o2, hd⟩ := cDbs_ownI h
  have hF1 : ∀ k, k ∈ F1 → k < w.heap.size := fun k hk => hF k (List.mem_append_left _ hk)
  have hF2 : ∀ k, k ∈ F2 → k < w.heap.size := fun k hk => hF k (List.mem_append_right _ hk)
  unfold lvD at hk ⊢
  have H1 : Hid (∀ ww, Below w.heap.size w ww → Calls Try.prog 24 #[.slice a0 x.rels.length cap0, .int .i64 k] ww fun e w' => e = .returned (.int .i64 ((k + x.rels.length * 3 : Nat) : Int)) ∧ (cSlice cRel).own F1 w' (markRs k x.rels) [.slice a0 x.rels.length cap0] ∧ Only F1 ww w') :=
    fun ww hb => markRelationS_c h1 (by omega) (fun q hq => Nat.lt_of_lt_of_le (hF1 q hq) hb.size) ((cSlice cRel).keepO o1 (fun q hq => hb.block q (hF1 q hq)))
  have H2 : Hid (∀ ww, Only F1 w ww → Calls Try.prog 83 #[.slice a1 x.facts.length cap1, .int .i64 ((k + x.rels.length * 3 : Nat) : Int)] ww fun e w' => e = .returned (.int .i64 ((k + x.rels.length * 3 + lvs lvF x.facts : Nat) : Int)) ∧ (cSlice cFct).own F2 w' (markFs (k + x.rels.length * 3) x.facts) [.slice a1 x.facts.length cap1] ∧ Only F2 ww w') :=
    fun ww ho => markFactS_c (by omega) (fun q hq => Nat.lt_of_lt_of_le (hF2 q hq) ho.size) ((cSlice cFct).keepO o2 (fun q hq => ho.block q (hF2 q hq) (fun h => hd q h hq)))
  have Hd := Lib.hid hd
  have HF1 := Lib.hid hF1
  clear h o1 o2 hd hF hF1 hF2
  obtain ⟨rs, fs⟩ := x
  simp only at *
  go_enter Try.func36, Try.ntmps36
  go_wp2_with fail
  obtain ⟨wx, hb0, p1, hwx⟩ : ∃ wx, Below w.heap.size w wx ∧ wx.cell? ⟨w.heap.size, 1, none⟩ = some (.slice a1 fs.length cap1) ∧ w.alloc (Obj.cells #[.slice a0 rs.length cap0, .slice a1 fs.length cap1] 47) = wx := ⟨_, by go_grown, by go_simp, rfl⟩
  rw [hwx]
  clear hwx
  refine (H1.out _ hb0).mono ?_
  rintro e w1 ⟨rfl, hown1, ho1⟩
  have hlt := World.block_lt_of_cell? wx _ p1
  have q1 : w1.cell? ⟨w.heap.size, 1, none⟩ = some (.slice a1 fs.length cap1) := (World.cell?_of_block (w := wx) (ho1.block w.heap.size hlt (fun h => by have := HF1.out _ h; omega))).trans p1
  have hw1 : Only F1 w w1 := Only.trans (H := F1) (Only.of_below (F := F1) hb0) ho1 (fun _ h => h) (fun _ h => h)
  have Hown1 := Lib.hid hown1
  clear hown1 ho1 p1
  go_wp2_with fail
  refine (H2.out _ hw1).mono ?_
  rintro e w2 ⟨rfl, hown2, ho2⟩
  have Hown2 := Lib.hid hown2
  have Ho2 := Lib.hid ho2
  clear hown2 ho2 q1
  go_wp2
  go_ret
  refine ⟨by rw [← Nat.add_assoc]; rfl, ⟨[_], [_], F1, F2, rfl, (cSlice cRel).keepO Hown1.out (fun q hq => Ho2.out.block q (Nat.lt_of_lt_of_le (HF1.out q hq) hw1.size) (Hd.out q hq)), Hown2.out, rfl, Hd.out⟩, ?_⟩
  exact Only.trans (H := F1 ++ F2) hw1 Ho2.out (fun _ h => List.mem_append_left _ h) (fun _ h => List.mem_append_right _ h)
end Go.Proofs.Ytjeenbjmhlbmfaa

/- Chapter 5: the program's BlockOf and BlockSizes, the model's BlockSizes. -/
import Derived.Test.YtjeenbjmhlbmfaaBlock6
import Derived.Test.YtjeenbjmhlbmfaaShelf
namespace Go.Proofs.Ytjeenbjmhlbmfaa
open Go.RowKit
set_option linter.unusedVariables false
set_option maxRecDepth 100000

theorem containsInt_c {a : Option Addr} {cap : Nat} {l : List Int} {x : Int} {w : World} (h : At (cSlice cInt) w l [.slice a l.length cap]) :
    Calls Try.prog 86 #[.slice a l.length cap, .int .i64 x] w fun e w' => e = .returned (.bool (l.contains x)) ∧ Below w.heap.size w w' := by
  have hm := (slice_len h).2
  unfold maxLen at hm
  rcases Nat.eq_zero_or_pos l.length with h0 | h0
  · obtain rfl := List.eq_nil_of_length_eq_zero h0
    exact (Try.slices_Contains_int_empty a cap x w).mono fun e w' ⟨he, hw⟩ => ⟨by rw [he]; rfl, hw ▸ Below.refl _ _⟩
  · obtain ⟨b, off, rfl, _, _⟩ := ints_at h 0 h0
    refine (Try.slices_Contains_int b off l.length cap l x w (Nat.le_refl _) (by omega) (fun j hj => ?_)).mono fun e w' ⟨he, hw⟩ => ⟨by rw [he, List.take_length], hw ▸ Below.refl _ _⟩
    obtain ⟨b', off', e, _, hc⟩ := ints_at h j hj
    simp at e
    obtain ⟨rfl, rfl⟩ := e
    rw [hc, List.getD_eq_getElem?_getD, List.getElem?_eq_getElem hj]; rfl
/-- An element of a slice of slices of the call's own. -/
theorem own_elem {B : Nat} {w : World} {L : List (List Int)} {a : Option Addr} {len cap : Nat} (h : Own (cSlice (cSlice cInt)) B w L [.slice a len cap]) (j : Nat) (hj : j < L.length) :
    ∃ b off ha hc, a = some ⟨b, off, none⟩ ∧ w.cell? ⟨b, off + j, none⟩ = some (.slice ha L[j].length hc) ∧ Own (cSlice cInt) B w L[j] [.slice ha L[j].length hc] := by
  obtain ⟨F, ⟨a', cap', e, _, hF⟩, hFr⟩ := h
  simp at e
  obtain ⟨rfl, rfl, rfl⟩ := e
  rcases hF with ⟨rfl, _⟩ | ⟨g, off, G, rfl, hg, hgs, hG, _, _, he⟩
  · simp at hj
  · obtain ⟨es, h1, h2⟩ := he j hj
    obtain ⟨ha, hc, rfl, h3⟩ := slice_openO h1
    refine ⟨g, off, ha, hc, rfl, ?_, G j, h3, fun k hk => hFr k (hG j hj k hk).1⟩
    have := h2 0 (by decide)
    rw [show (cSlice cInt).n = 1 from rfl, Nat.mul_one, Nat.add_zero] at this
    exact this
theorem ints_contains (b : List Nat) (p : Nat) : (ints b).contains (p : Int) = b.contains p := by
  rw [List.contains_eq_mem, List.contains_eq_mem]
  refine decide_eq_decide.2 ⟨fun hm => ?_, fun hm => List.mem_map.2 ⟨p, hm, rfl⟩⟩
  obtain ⟨a, ha, e⟩ := List.mem_map.1 hm
  have : a = p := by omega
  exact this ▸ ha
theorem find_ints (p : Nat) : ∀ bs : List (List Nat), (bs.map ints).find? (fun b => b.contains (p : Int)) = (bs.find? fun b => b.contains p).map ints
  | [] => rfl
  | b :: bs => by
    rw [List.map_cons, List.find?_cons, List.find?_cons, ints_contains, find_ints p bs]
    cases b.contains p <;> rfl
theorem blockL_find (d : Dbs) (i : Int) : blockL d i = ((blocksL d).find? fun b => b.contains i).getD [] := by
  unfold blockL
  cases hv : validDb d
  · rw [blocksL_false hv]; rfl
  · rw [Bool.true_and]
    by_cases hi : 0 ≤ i
    · obtain ⟨p, rfl⟩ := Int.eq_ofNat_of_zero_le hi
      have hL : blocksL d = (blksI (keyR d) d.facts.length).map ints := by unfold blocksL; rw [if_pos hv]
      rw [hL, find_ints]
      by_cases hp : p < d.facts.length
      · rw [find_blk (conv_db hv) (Nat.le_refl _) hp, if_pos (by unfold inB; simp; omega)]; rfl
      · rw [find_blk_none hp, if_neg (by unfold inB; simp; omega)]; rfl
    · rw [if_neg (by unfold inB; simp; omega)]
      have : (blocksL d).find? (fun b => b.contains i) = none := by
        rw [List.find?_eq_none]
        intro b hb hc
        have hmem : i ∈ (blocksL d).flatten := List.mem_flatten.2 ⟨b, hb, by simpa using hc⟩
        rw [blocksL_flat hv] at hmem
        obtain ⟨n, _, hn⟩ := List.mem_map.1 hmem
        omega
      rw [this]; rfl

set_option maxHeartbeats 3200000 in
theorem implBlockOf_c {a0 a1 : Option Addr} {cap0 cap1 : Nat} {x : Dbs} {i : Int} {w : World} (h : At cDbs w x [.slice a0 x.rels.length cap0, .slice a1 x.facts.length cap1]) :
    Calls Try.prog 42 #[.agg #[.slice a0 x.rels.length cap0, .slice a1 x.facts.length cap1], .int .i64 i] w fun e w' => (∃ a cap, e = .returned (.slice a (blockL x i).length cap) ∧ Own (cSlice cInt) w.heap.size w' (blockL x i) [.slice a (blockL x i).length cap]) ∧ Below w.heap.size w w' := by
  have H1 : Hid (∀ ww, Below w.heap.size w ww → Calls Try.prog 34 #[.agg #[.slice a0 x.rels.length cap0, .slice a1 x.facts.length cap1]] ww fun e w' => (∃ a cap, e = .returned (.slice a (blocksL x).length cap) ∧ Own (cSlice (cSlice cInt)) ww.heap.size w' (blocksL x) [.slice a (blocksL x).length cap]) ∧ Below ww.heap.size ww w') :=
    fun ww hb => implBlocks_c (At.below h hb (Nat.le_refl _))
  clear h
  rw [blockL_find]
  have hbl := blocksL_len x
  have Hin := Lib.hid (blocksL_small x).2
  generalize blocksL x = L at *
  obtain ⟨N, hN⟩ : ∃ N, L.length = N := ⟨_, rfl⟩
  have HN := Lib.hid hN
  rw [hN] at H1 hbl
  clear hN
  generalize x.rels.length = nr at *
  generalize x.facts.length = n at *
  generalize hR : (L.find? fun b => b.contains i).getD [] = R
  have HR := Lib.hid hR
  clear hR
  go_enter Try.func42, Try.ntmps42
  go_wp2_with fail
  refine (H1.out _ ?hb).mono ?_
  case hb => go_grown
  rintro e w2 ⟨⟨ba, bc, rfl, ho⟩, hb1⟩
  have hbw : Below w.heap.size w w2 := Below.trans (by go_grown) (hb1.mono (by simp; try omega))
  have ho2 := Own.mono (B' := w.heap.size) ho (by simp; try omega)
  have Ho := Lib.hid ho2
  clear ho ho2 hb1 H1
  go_wp2
  go_loopw [10] (fun kv wr => ∃ (k : Nat), k ≤ N ∧ kv = .int .i64 k ∧ Hid (∀ j (hj : j < L.length), j < k → L[j].contains i = false) ∧ Below w2.heap.size w2 wr) (fun kv _ => N - (intOf kv).toNat)
  case atStart => exact ⟨0, by omega, by go_num, fun j hj h => absurd h (by omega), Below.refl _ _⟩
  case round =>
    obtain ⟨k, hk, rfl, Hno, hbx⟩ := hrel
    have hb1 : Below w.heap.size w wr := hbw.trans (hbx.mono hbw.size)
    by_cases hlt : k < N
    · have hkl : k < L.length := by rw [HN.out]; exact hlt
      obtain ⟨b, off, ha, hc, rfl, c0, hown⟩ := own_elem (Own.below Ho.out hbx (Nat.le_refl _)) k hkl
      have Hc : Hid (Calls Try.prog 86 #[.slice ha L[k].length hc, .int .i64 i] wr fun e w' => e = .returned (.bool (L[k].contains i)) ∧ Below wr.heap.size wr w') := containsInt_c hown.at
      have Hown := Lib.hid hown
      cases hz : L[k].contains i with
      | true =>
        have HRk : Hid (R = L[k]) := by
          show R = L[k]
          rw [← HR.out]
          have : L.find? (fun b => b.contains i) = some L[k] := List.find?_eq_some_iff_getElem.2 ⟨hz, k, hkl, rfl, fun j hj => by rw [Hno.out j (by omega) hj]; rfl⟩
          rw [this]; rfl
        rw [hz] at Hc
        clear hz Hno hown
        generalize L[k] = bl at *
        go_wp2_with fail
        refine Hc.out.mono ?_
        rintro e w3 ⟨rfl, hb3⟩
        have ho3 := Own.below Hown.out hb3 (Nat.le_refl _)
        go_wp2
        go_ret
        exact ⟨⟨ha, hc, by rw [HRk.out]; rfl, by rw [HRk.out]; exact ho3⟩, hb1.trans (hb3.mono hb1.size)⟩
      | false =>
        have Hno2 : Hid (∀ j (hj : j < L.length), j < k + 1 → L[j].contains i = false) := fun j hj h => by
          rcases Nat.lt_or_ge j k with h2 | h2
          · exact Hno.out j hj h2
          · have : j = k := by omega
            subst this; exact hz
        rw [hz] at Hc
        clear hz Hno hown Hown
        generalize L[k] = bl at *
        go_wp2_with fail
        refine Hc.out.mono ?_
        rintro e w3 ⟨rfl, hb3⟩
        go_wp2
        go_roundw
        case rel => exact ⟨k + 1, by omega, by go_num, Hno2, hbx.trans (hb3.mono hbx.size)⟩
        case measure => simp [intOf]; omega
    · obtain rfl : k = N := by omega
      have hRn : R = [] := by
        rw [← HR.out]
        have : L.find? (fun b => b.contains i) = none := by
          rw [List.find?_eq_none]
          intro b hb
          obtain ⟨j, hj, rfl⟩ := List.getElem_of_mem hb
          rw [Hno.out j hj (by have := HN.out; omega)]; simp
        rw [this]; rfl
      have HRn := Lib.hid hRn
      clear hRn Hno HR
      have ho3 : ∀ W, Own (cSlice cInt) w.heap.size W [] [.slice none 0 0] := fun W => Own.nil _ _
      have Ho3 := Lib.hid ho3
      clear ho3
      go_wp2
      go_ret
      exact ⟨⟨none, 0, by rw [HRn.out]; rfl, by rw [HRn.out]; exact Ho3.out _⟩, hb1⟩

/-- The blocks' sizes. -/
def sizesL (d : Dbs) : List Int := (blocksL d).map fun b => (b.length : Int)
def szPart (L : List (List Int)) (k : Nat) : List Int := (L.take k).map fun b => (b.length : Int)
theorem szPart_succ (L : List (List Int)) (k : Nat) (hk : k < L.length) : szPart L (k + 1) = szPart L k ++ [(L[k].length : Int)] := by
  unfold szPart
  rw [List.take_succ_eq_append_getElem hk, List.map_append]; rfl
theorem szPart_len (L : List (List Int)) (k : Nat) : (szPart L k).length ≤ k := by
  unfold szPart
  simp
  omega
theorem szPart_inR (L : List (List Int)) (k : Nat) (h : ∀ b, b ∈ L → b.length ≤ 14) : ∀ x, x ∈ szPart L k → inR x := by
  intro x hx
  obtain ⟨b, hb, rfl⟩ := List.mem_map.1 hx
  have := h b (List.mem_of_mem_take hb)
  unfold inR
  omega
theorem blocksL_each (d : Dbs) : ∀ b, b ∈ blocksL d → b.length ≤ 14 := by
  intro b hb
  refine Nat.le_trans ?_ (blocksL_small d).1
  rw [List.length_flatten]
  exact le_sum (List.mem_map.2 ⟨b, hb, rfl⟩)
theorem sizesL_all (d : Dbs) : szPart (blocksL d) (blocksL d).length = sizesL d := by unfold szPart sizesL; rw [List.take_length]

set_option maxHeartbeats 3200000 in
theorem implBlockSizes_c {a0 a1 : Option Addr} {cap0 cap1 : Nat} {x : Dbs} {w : World} (h : At cDbs w x [.slice a0 x.rels.length cap0, .slice a1 x.facts.length cap1]) :
    Calls Try.prog 40 #[.agg #[.slice a0 x.rels.length cap0, .slice a1 x.facts.length cap1]] w fun e w' => (∃ a cap, e = .returned (.slice a (sizesL x).length cap) ∧ Own (cSlice cInt) w.heap.size w' (sizesL x) [.slice a (sizesL x).length cap]) ∧ Below w.heap.size w w' := by
  have H1 : Hid (∀ ww, Below w.heap.size w ww → Calls Try.prog 34 #[.agg #[.slice a0 x.rels.length cap0, .slice a1 x.facts.length cap1]] ww fun e w' => (∃ a cap, e = .returned (.slice a (blocksL x).length cap) ∧ Own (cSlice (cSlice cInt)) ww.heap.size w' (blocksL x) [.slice a (blocksL x).length cap]) ∧ Below ww.heap.size ww w') :=
    fun ww hb => implBlocks_c (At.below h hb (Nat.le_refl _))
  clear h
  rw [← sizesL_all]
  have Hin := Lib.hid (szPart_inR (blocksL x) (blocksL x).length (blocksL_each x))
  have hbl := blocksL_len x
  generalize blocksL x = L at *
  obtain ⟨N, hN⟩ : ∃ N, L.length = N := ⟨_, rfl⟩
  have HN := Lib.hid hN
  rw [hN] at H1 hbl Hin ⊢
  clear hN
  generalize x.rels.length = nr at *
  generalize x.facts.length = n at *
  obtain ⟨i0, hi, hz0, hz1, hz2⟩ := info_parts Try.infoI
  go_enter Try.func40, Try.ntmps40
  go_wp2_with fail
  refine (H1.out _ ?hb).mono ?_
  case hb => go_grown
  rintro e w2 ⟨⟨ba, bc, rfl, ho⟩, hb1⟩
  have hbw : Below w.heap.size w w2 := Below.trans (by go_grown) (hb1.mono (by simp; try omega))
  have hat := ho.at
  have HB : Hid (∀ W', Below w2.heap.size w2 W' → ∀ j (hj : j < L.length), _) := fun W' hb j hj => at_IntS (Cod.ok_below hat hb) j hj
  clear ho hat hb1 H1
  have hown0 : w2.ownsRow w2.heap.size 3 1 (.slice none 0 0) (szPart L 0).length ((szPart L 0).map iv) := World.ownsRow_nil _ _ _ _
  go_wp2
  go_loopw [3, 9] (fun ov kv wr => ∃ (k : Nat) (o : Value), o = ov ∧ k ≤ N ∧ kv = .int .i64 k ∧ wr.ownsRow w2.heap.size 3 1 o (szPart L k).length ((szPart L k).map iv) ∧ Below w2.heap.size w2 wr) (fun _ kv _ => N - (intOf kv).toNat)
  case atStart => exact ⟨0, _, rfl, by omega, by go_num, hown0, Below.refl _ _⟩
  case round =>
    clear hown0
    obtain ⟨k, o, rfl, hk, rfl, hown, hbx⟩ := hrel
    have hb1 : Below w.heap.size w wr := hbw.trans (hbx.mono hbw.size)
    by_cases hlt : k < N
    · have hkl : k < L.length := by rw [HN.out]; exact hlt
      obtain ⟨b, off, ha, hc, rfl, hbB, c0, hx⟩ := HB.out _ hbx k hkl
      have Hs := Lib.hid (szPart_succ L k hkl)
      have hlen := szPart_len L k
      clear hx
      generalize L[k].length = m at *
      generalize hcu : szPart L k = cur at *
      clear hcu
      have hownA : (wr.alloc (.cells #[.int .i64 (m : Int)] 3)).ownsRow w2.heap.size 3 1 o cur.length (cur.map iv) := ownsRow_below hown (by go_grown)
      have hbA : Below w2.heap.size w2 (wr.alloc (.cells #[.int .i64 (m : Int)] 3)) := hbx.trans ((by go_grown : Below wr.heap.size wr _).mono hbx.size)
      go_wp2_with (at_builtin; refine wpList_app rfl _ _ _ (by rfl) w2.heap.size 3 i0 (.int .i64 0) 1 8 Try.underlying23 hi hz0 hz1 hz2 rfl (by omega) o cur.length (cur.map iv) (by rfl) hownA _ _ _ [.int .i64 (m : Int)] (by rfl) (srcs_one wr _ _ rfl) ?c1 ?c2 ?c3 ?_)
      case c1 => unfold maxLen; omega
      case c2 => omega
      case c3 => exact hbA.size
      intro v1 w3 hown3 hg3 _
      have hown4 := own_push (w := w3) hown3
      have hb4 : Below w2.heap.size w2 w3 := Below.grownOwn hbA hg3 hownA (Nat.le_refl _)
      clear hown hown3 hg3 hownA hbA
      go_wp2
      go_roundw
      case rel => exact ⟨k + 1, _, rfl, by omega, by go_num, by rw [Hs.out]; exact hown4, hb4⟩
      case measure => simp [intOf]; omega
    · obtain rfl : k = N := by omega
      obtain ⟨oa, oc, rfl⟩ := own_form hown
      have ho := Own.mono (own_ints hown Hin.out) hbw.size
      clear hown
      go_wp2
      go_ret
      exact ⟨⟨_, _, rfl, ho⟩, hb1⟩

set_option maxHeartbeats 3200000 in
theorem specBlockSizes_c {a0 a1 : Option Addr} {cap0 cap1 : Nat} {x : Dbs} {w : World} (h : At cDbs w x [.slice a0 x.rels.length cap0, .slice a1 x.facts.length cap1]) :
    Calls Try.prog 39 #[.agg #[.slice a0 x.rels.length cap0, .slice a1 x.facts.length cap1]] w fun e w' => (∃ a cap, e = .returned (.slice a (sizesL x).length cap) ∧ Own (cSlice cInt) w.heap.size w' (sizesL x) [.slice a (sizesL x).length cap]) ∧ Below w.heap.size w w' := by
  have H1 : Hid (∀ ww, Below w.heap.size w ww → Calls Try.prog 33 #[.agg #[.slice a0 x.rels.length cap0, .slice a1 x.facts.length cap1]] ww fun e w' => (∃ a cap, e = .returned (.slice a (blocksL x).length cap) ∧ Own (cSlice (cSlice cInt)) ww.heap.size w' (blocksL x) [.slice a (blocksL x).length cap]) ∧ Below ww.heap.size ww w') :=
    fun ww hb => specBlocks_c (At.below h hb (Nat.le_refl _))
  clear h
  rw [← sizesL_all]
  have Hin := Lib.hid (szPart_inR (blocksL x) (blocksL x).length (blocksL_each x))
  have hbl := blocksL_len x
  generalize blocksL x = L at *
  obtain ⟨N, hN⟩ : ∃ N, L.length = N := ⟨_, rfl⟩
  have HN := Lib.hid hN
  rw [hN] at H1 hbl Hin ⊢
  clear hN
  generalize x.rels.length = nr at *
  generalize x.facts.length = n at *
  obtain ⟨i0, hi, hz0, hz1, hz2⟩ := info_parts Try.infoI
  obtain ⟨wx, hwx⟩ : ∃ wx, wx = w.alloc (Obj.cells #[.slice a0 nr cap0, .slice a1 n cap1] 47) := ⟨_, rfl⟩
  have hb0 : Below w.heap.size w wx := by rw [hwx]; go_grown
  have hws : wx.heap.size = w.heap.size + 1 := by rw [hwx]; simp
  have p0 : wx.cell? ⟨w.heap.size, 0, none⟩ = some (.slice a0 nr cap0) := by rw [hwx]; go_simp
  have p1 : wx.cell? ⟨w.heap.size, 1, none⟩ = some (.slice a1 n cap1) := by rw [hwx]; go_simp
  have hbe : Below wx.heap.size wx (wx.alloc (Obj.cells #[] 3)) := by go_grown
  have hown0 : (wx.alloc (Obj.cells #[] 3)).ownsRow wx.heap.size 3 1 (.slice (some ⟨w.heap.size + 1, 0, none⟩) 0 0) (szPart L 0).length ((szPart L 0).map iv) := by
    rw [← hws]
    exact row_empty wx 3 wx.heap.size (Nat.le_refl _)
  have hsy : (wx.alloc (Obj.cells #[] 3)).heap.size = w.heap.size + 2 := by simp; omega
  have q0 := cell_next p0 hbe
  have q1 := cell_next p1 hbe
  have Hwx := Lib.hid hwx
  clear hwx hws p0 p1
  obtain ⟨wy, hwy⟩ : ∃ wy, wy = wx.alloc (Obj.cells #[] 3) := ⟨_, rfl⟩
  rw [← hwy] at hbe hown0 hsy q0 q1
  have Hwy := Lib.hid hwy
  clear hwy
  go_enter Try.func39, Try.ntmps39
  go_wp2_with fail
  rw [← Hwx.out, ← Hwy.out]
  clear Hwx Hwy
  refine (H1.out _ (hb0.trans (hbe.mono hb0.size))).mono ?_
  rintro e w2 ⟨⟨ba, bc, rfl, ho⟩, hb1⟩
  have hbz : Below wx.heap.size wx w2 := hbe.trans (hb1.mono hbe.size)
  have hown1 := ownsRow_below hown0 hb1
  have hs1 := hb1.size
  have HB : Hid (∀ W' : World, (∀ k, wy.heap.size ≤ k → k < w2.heap.size → W'.heap[k]? = w2.heap[k]?) → w2.heap.size ≤ W'.heap.size → ∀ j (hj : j < L.length), ∃ b off ha hc, ba = some ⟨b, off, none⟩ ∧ W'.cell? ⟨b, off + j, none⟩ = some (.slice ha L[j].length hc)) := by
    intro W' hW hs j hj
    obtain ⟨F, hF, hFr⟩ := ho
    have h2 : Own (cSlice (cSlice cInt)) wy.heap.size W' L [.slice ba N bc] := ⟨F, (cSlice (cSlice cInt)).keepO hF (fun k hk => hW k (hFr k hk).1 (hFr k hk).2), fun k hk => ⟨(hFr k hk).1, by have := (hFr k hk).2; omega⟩⟩
    obtain ⟨b, off, ha, hc, e1, e2, _⟩ := own_elem h2 j hj
    exact ⟨b, off, ha, hc, e1, e2⟩
  have Hsy := Lib.hid hsy
  clear ho hb1 hown0 H1 hbe q0 q1
  go_wp2
  go_loopw [3, 5] (fun ov kv wr => ∃ (k : Nat) (o : Value), o = ov ∧ k ≤ N ∧ kv = .int .i64 k ∧ wr.ownsRow wx.heap.size 3 1 o (szPart L k).length ((szPart L k).map iv) ∧ Below wx.heap.size wx wr ∧ (∀ k, wy.heap.size ≤ k → k < w2.heap.size → wr.heap[k]? = w2.heap[k]?) ∧ (∀ g, o.ownBlock = some g → g < wy.heap.size ∨ w2.heap.size ≤ g) ∧ w2.heap.size ≤ wr.heap.size) (fun _ kv _ => N - (intOf kv).toNat)
  case atStart => exact ⟨0, _, rfl, by omega, by go_num, hown1, hbz, fun _ _ _ => rfl, fun g hg => by left; have : g = w.heap.size + 1 := (by simpa [Value.ownBlock] using hg.symm); omega, Nat.le_refl _⟩
  case round =>
    clear hown1 hbz
    obtain ⟨k, o, rfl, hk, rfl, hown, hbx, hsame, hblk, hsz⟩ := hrel
    have hb1 : Below w.heap.size w wr := hb0.trans (hbx.mono hb0.size)
    by_cases hlt : k < N
    · have hkl : k < L.length := by rw [HN.out]; exact hlt
      obtain ⟨b, off, ha, hc, rfl, c0⟩ := HB.out _ hsame hsz k hkl
      have Hs := Lib.hid (szPart_succ L k hkl)
      have hlen := szPart_len L k
      generalize L[k].length = m at *
      generalize hcu : szPart L k = cur at *
      clear hcu
      have hA : Below wr.heap.size wr (wr.alloc (.cells #[.int .i64 (m : Int)] 3)) := by go_grown
      have hownA : (wr.alloc (.cells #[.int .i64 (m : Int)] 3)).ownsRow wx.heap.size 3 1 o cur.length (cur.map iv) := ownsRow_below hown hA
      have hbA : Below wx.heap.size wx (wr.alloc (.cells #[.int .i64 (m : Int)] 3)) := hbx.trans (hA.mono hbx.size)
      have j1 : (k : Int) < (N : Int) := by omega
      have Hsame := Lib.hid hsame
      have Hblk := Lib.hid hblk
      clear hsame hblk
      go_wp2_with (at_builtin; refine wpList_app rfl _ _ _ (by rfl) wx.heap.size 3 i0 (.int .i64 0) 1 8 Try.underlying23 hi hz0 hz1 hz2 rfl (by omega) o cur.length (cur.map iv) (by rfl) hownA _ _ _ [.int .i64 (m : Int)] (by rfl) (srcs_one wr _ _ rfl) ?c1 ?c2 ?c3 ?_)
      case c1 => unfold maxLen; omega
      case c2 => omega
      case c3 => exact hbA.size
      intro v1 w3 hown3 hg3 hat3
      have hown4 := own_push (w := w3) hown3
      have hb4 : Below wx.heap.size wx w3 := Below.grownOwn hbA hg3 hownA (Nat.le_refl _)
      have hs3 := hg3.size
      have hsA : (wr.alloc (.cells #[.int .i64 (m : Int)] 3)).heap.size = wr.heap.size + 1 := by simp
      have hsame2 : ∀ k, wy.heap.size ≤ k → k < w2.heap.size → w3.heap[k]? = w2.heap[k]? := fun q h1 h2 =>
        (hg3.block q (by omega) (fun e => by have := Hblk.out q e.symm; omega)).trans ((hA.block q (by omega)).trans (Hsame.out q h1 h2))
      have hblk2 : ∀ g, v1.ownBlock = some g → g < wy.heap.size ∨ w2.heap.size ≤ g := fun g hg => by
        rcases hat3 with e | e
        · exact Hblk.out g (e ▸ hg)
        · rw [e] at hg
          right
          have : g = wr.heap.size + 1 := by simpa using hg.symm
          omega
      have hsz2 : w2.heap.size ≤ w3.heap.size := by omega
      have Hsame2 := Lib.hid hsame2
      have Hblk2 := Lib.hid hblk2
      clear hown hown3 hg3 hownA hbA hat3 hsame2 hblk2 hs3 hsA hA
      go_wp2
      go_roundw
      case rel => exact ⟨k + 1, _, rfl, by omega, by go_num, by rw [Hs.out]; exact hown4, hb4, Hsame2.out, Hblk2.out, hsz2⟩
      case measure => simp [intOf]; omega
    · obtain rfl : k = N := by omega
      obtain ⟨oa, oc, rfl⟩ := own_form hown
      have ho := Own.mono (own_ints hown Hin.out) hb0.size
      clear hown hsame hblk
      go_wp2
      go_ret
      exact ⟨⟨_, _, rfl, ho⟩, hb1⟩
end Go.Proofs.Ytjeenbjmhlbmfaa


/- Chapter 1: the program's functions (without the integers in decimal). -/
import Derived.Test.YtdieggjnnlldeaaDoorNumPure
import Derived.BigQuiet
import Derived.Deep.RegionHeld3
import Derived.Deep.AppendLies
import Derived.Test.YtdieggjnnlldeaaDoorBuild
namespace Go.Proofs.YtdieggjnnlldeaaDoor
open Go.RowKit
set_option linter.unusedVariables false
set_option maxRecDepth 100000

theorem isFixedWidth_any (n : Int) (w : World) :
    Calls Tryd.prog 24 #[.int .i64 n] w fun e w' => e = .returned (.bool (inB n 1 7)) ∧ w = w' := by
  unfold inB
  by_cases h : 1 ≤ n
  · go_enter Tryd.func24, Tryd.ntmps24
    go_wp2
    go_ret
    exact ⟨by simp; omega, rfl⟩
  · go_enter Tryd.func24, Tryd.ntmps24
    go_wp2
    go_ret
    exact ⟨by simp; omega, rfl⟩

theorem implEF_no (n wd : Int) (h : inB wd 1 7 = false ∨ n < 0) (w : World) :
    Calls Tryd.prog 11 #[.int .i64 n, .int .i64 wd] w fun e w' => e = .returned (.string (str [])) ∧ Below w.heap.size w w' := by
  by_cases hin : inB wd 1 7 = false
  · go_enter Tryd.func11, Tryd.ntmps11
    go_wp2_with (go_at_call 24; refine (isFixedWidth_any _ _).mono ?_; rintro e w' ⟨rfl, rfl⟩)
    go_ret
    exact ⟨rfl, Below.refl _ _⟩
  · have hn : n < 0 := h.resolve_left hin
    simp only [Bool.not_eq_false] at hin
    go_enter Tryd.func11, Tryd.ntmps11
    go_wp2_with (go_at_call 24; refine (isFixedWidth_any _ _).mono ?_; rintro e w' ⟨rfl, rfl⟩)
    go_ret
    exact ⟨rfl, Below.refl _ _⟩

set_option maxHeartbeats 400000 in
theorem implEF_yes (m : Nat) (wd : Nat) (hm : m ≤ 9223372036854775807) (h1 : 1 ≤ wd) (h7 : wd ≤ 7) (w : World) :
    Calls Tryd.prog 11 #[.int .i64 m, .int .i64 wd] w fun e w' => e = .returned (.string (str (encF m wd))) ∧ Below w.heap.size w w' := by
  have hin : inB wd 1 7 = true := by simp [inB]; omega
  have hp := two_pow_wd wd h1 h7
  have hpos : 0 < 256 ^ wd := Nat.pow_pos (by omega)
  by_cases hlt : m < 256 ^ wd
  · have hge : (m : Int) < wrap64 ((2 : Int) ^ (8 * wd)) := by rw [hp]; omega
    have henc : encF m wd = beB m wd := by rw [encF, if_pos (Nat.div_eq_of_lt hlt)]
    rw [henc]
    clear hp henc
    obtain ⟨i0, hi, hz0, hz1, hz2⟩ := info_parts Tryd.info5
    go_enter Tryd.func11, Tryd.ntmps11
    go_wp2_with (first | (go_at_call 24; refine (isFixedWidth_any _ _).mono ?_; rintro e w' ⟨rfl, rfl⟩) | (at_make; refine wpList_make_full _ rfl (.tmp 21) (.tmp 21) 22 rfl w.heap.size 5 i0 (.int .u8 0) 1 Tryd.underlying22 hi hz0 hz1 .i64 .i64 wd wd wd rfl rfl rfl rfl ?c1 ?c2 (Nat.le_refl _) ?_))
    case c1 => rw [hz2]; omega
    case c2 => unfold maxLen; omega
    intro w1 hown hgrow
    have e0 : (madeCells #[Value.int IntKind.u8 0] wd).toList = cellsEF m wd 0 := by rw [toList_madeCells_one]; simp [cellsEF, beB, byteV]
    rw [e0] at hown
    have hb0 : Below w.heap.size w w1 := (Below.refl _ _).grown hgrow (Nat.le_refl _) (by simp)
    clear e0 hgrow
    go_wp2
    go_loopw [6, 0] (fun i v wr => ∃ j q : Nat, j ≤ wd ∧ i = .int .i64 ((wd : Int) - 1 - j) ∧ v = .int .i64 q ∧ q ≤ m ∧ Hid (q = m / 256 ^ j) ∧ Below w.heap.size w wr ∧ wr.ownsRow w.heap.size 5 1 (.slice (some ⟨w.heap.size, 0, none⟩) wd wd) wd (cellsEF m wd j)) (fun i _ _ => (intOf i + 1).toNat)
    case atStart => exact ⟨0, m, by omega, by go_num, rfl, Nat.le_refl _, show m = m / 256 ^ 0 by simp, hb0, hown⟩
    case round =>
      clear hown hb0
      obtain ⟨j, q, hj, rfl, rfl, hq, Hq, hb, hown⟩ := hrel
      by_cases hlt : j < wd
      · have hlen : (cellsEF m wd j).length = wd := by simp [cellsEF, beB_length]; omega
        obtain ⟨u, hu⟩ : ∃ u, (cellsEF m wd j)[wd - 1 - j]? = some u := ⟨_, List.getElem?_eq_getElem (by omega)⟩
        have hcell : wr.cell? ⟨w.heap.size, wd - 1 - j, none⟩ = some u := (hown.cellAt (wd - 1 - j) (by omega)).trans hu
        have hfr := hown.frozenAt (wd - 1 - j)
        clear hu hlen
        go_wp2
        go_roundw
        case rel =>
          have hst := (hown.stored (wd - 1 - j) (.int .u8 ((q : Int) % 256))).1
          have hq' : (q : Int) = ((m / 256 ^ j : Nat) : Int) := by rw [← Hq.out]
          rw [hq', cellsEF_step m wd j hlt, ← hq'] at hst
          exact ⟨j + 1, q / 256, by omega, by go_num, by go_num, by omega, show q / 256 = m / 256 ^ (j + 1) by rw [Hq.out, Nat.pow_succ, Nat.div_div_eq_div_mul], hb.setCell (Nat.le_refl _) _, hst⟩
        case measure => simp [intOf]; omega
      · obtain rfl : j = wd := by omega
        have hc : cellsEF m j j = (beB m j).map byteV := by simp [cellsEF]
        rw [hc] at hown
        have hcv := run_conv_own (P := Tryd.prog) wr 22 9 5 Tryd.underlying22 Tryd.underlying5 Tryd.underlying9 _ _ _ _ hown
        clear hown hc
        go_wp2
        go_ret
        exact ⟨rfl, hb⟩
  · have hge : wrap64 ((2 : Int) ^ (8 * wd)) ≤ (m : Int) := by rw [hp]; omega
    have henc : encF m wd = [] := by rw [encF, if_neg (by have := Nat.div_pos (Nat.le_of_not_lt hlt) hpos; omega)]
    rw [henc]
    clear hp henc
    go_enter Tryd.func11, Tryd.ntmps11
    go_wp2_with (go_at_call 24; refine (isFixedWidth_any _ _).mono ?_; rintro e w' ⟨rfl, rfl⟩)
    go_ret
    exact ⟨rfl, Below.refl _ _⟩

set_option maxHeartbeats 400000 in
theorem implDF_yes (s : ByteArray) (wd : Nat) (hs : s.size ≤ maxLen) (h1 : 1 ≤ wd) (h7 : wd ≤ 7) (hw : wd ≤ s.size) (w : World) :
    Calls Tryd.prog 12 #[.string s, .int .i64 wd] w fun e w' => e = .returned (.tuple #[.int .i64 (decB (s.data.toList.take wd)), .bool true]) ∧ w = w' := by
  unfold maxLen at hs
  have hin : inB wd 1 7 = true := by simp [inB]; omega
  go_enter Tryd.func12, Tryd.ntmps12
  go_wp2_with (go_at_call 24; refine (isFixedWidth_any _ _).mono ?_; rintro e w' ⟨rfl, rfl⟩)
  go_loop [6, 18] (fun n i => ∃ k q : Nat, k ≤ wd ∧ i = .int .i64 k ∧ n = .int .i64 q ∧ Hid (q = decB (s.data.toList.take k))) (fun _ i => wd - (intOf i).toNat)
  case atStart => exact ⟨0, 0, by omega, rfl, rfl, show 0 = _ by simp [decB]⟩
  case round =>
    obtain ⟨k, q, hk, rfl, rfl, Hq⟩ := hrel
    by_cases hlt : k < wd
    · have hks : k < s.size := by omega
      have hby := s[k].toNat_lt
      have hq : q < 281474976710656 := by rw [Hq.out]; exact decB_take_lt s k (by omega)
      have hor := i64_join 8 (q * 256) s[k].toNat (by omega) (by omega) (by omega) (by omega)
      rw [Int.natCast_mul] at hor
      go_wp2
      go_round
      case rel => exact ⟨k + 1, q * 256 + s[k].toNat, by omega, by go_num, by go_num, show _ = _ by rw [take_snoc s k hks, decB_snoc, ← Hq.out]⟩
      case measure => simp [intOf]; omega
    · obtain rfl : k = wd := by omega
      go_wp2
      go_ret2
      exact ⟨by rw [← Hq.out]; rfl, rfl⟩

theorem implDF_no (s : ByteArray) (wd : Int) (hs : s.size ≤ maxLen) (h : inB wd 1 7 = false ∨ (s.size : Int) < wd) (w : World) :
    Calls Tryd.prog 12 #[.string s, .int .i64 wd] w fun e w' => e = .returned (.tuple #[.int .i64 0, .bool false]) ∧ w = w' := by
  by_cases hin : inB wd 1 7 = false
  · go_enter Tryd.func12, Tryd.ntmps12
    go_wp2_with (go_at_call 24; refine (isFixedWidth_any _ _).mono ?_; rintro e w' ⟨rfl, rfl⟩)
    go_ret2
    exact ⟨rfl, rfl⟩
  · have hn := h.resolve_left hin
    simp only [Bool.not_eq_false] at hin
    go_enter Tryd.func12, Tryd.ntmps12
    go_wp2_with (go_at_call 24; refine (isFixedWidth_any _ _).mono ?_; rintro e w' ⟨rfl, rfl⟩)
    go_ret2
    exact ⟨rfl, rfl⟩

set_option maxRecDepth 100000 in
set_option maxHeartbeats 800000 in
theorem implEV_yes (m : Nat) (hm : m ≤ 562949953421311) (w : World) :
    Calls Tryd.prog 9 #[.int .i64 m] w fun e w' => e = .returned (.string (str (vB m))) ∧ Below w.heap.size w w' := by
  have hge0 : (0 : Int) ≤ m := by omega
  have hle : (m : Int) ≤ 562949953421311 := by omega
  have h7 := vB_le7 m hm
  obtain ⟨i0, hi, hz0, hz1, hz2⟩ := info_parts Tryd.info5
  go_enter Tryd.func9, Tryd.ntmps9
  go_wp2
  go_loopw [3, 0] (fun o v wr => ∃ (d : List UInt8) (q : Nat), wr.ownsRow w.heap.size 5 1 o d.length (d.map byteV) ∧ v = .int .i64 q ∧ q ≤ m ∧ Hid (d ++ vB q = vB m) ∧ Below w.heap.size w wr) (fun _ v _ => (intOf v).toNat)
  case atStart => exact ⟨[], m, World.ownsRow_nil _ _ _ _, rfl, Nat.le_refl _, show _ = _ from rfl, Below.refl _ _⟩
  case round =>
    obtain ⟨d, q, hown, rfl, hq, Hq, hb⟩ := hrel
    have hl := congrArg List.length Hq.out
    rw [List.length_append] at hl
    have hdl : d.length ≤ 7 := by omega
    have hqm : (q : Int) / 128 ≤ 562949953421311 := by omega
    clear hl hm hge0 hle
    by_cases hge : q < 128
    · have hx : (q : Int) < 128 := by omega
      go_wp2_with (at_builtin; refine wpList_append_own _ rfl _ _ 22 rfl w.heap.size 5 i0 (.int .u8 0) 1 1 Tryd.underlying22 hi hz0 hz1 hz2 rfl (by decide) _ _ _ rfl (hown.alloc _) ⟨wr.heap.size, 0, none⟩ 1 1 [.int .u8 (q : Int)] rfl rfl ?c1 ?c2 ?c3 ?c4 ?c5 ?_)
      case c1 => exact one_at _ _ _
      case c2 => exact one_oneCell _ _
      case c3 => unfold maxLen; omega
      case c4 => omega
      case c5 => have := hb.size; simp; omega
      intro v' w1 hown' hgrow _
      have hown2 := own_snoc (UInt8.ofNat q) (by simp; omega) hown'
      have hcv := run_conv_own (P := Tryd.prog) w1 22 9 5 Tryd.underlying22 Tryd.underlying5 Tryd.underlying9 _ _ _ _ hown2
      have hb1 : Below w.heap.size w w1 := (hb.alloc hb.size _).grown hgrow (by have := hb.size; simp; omega) (fun k hk => (World.ownsRow.lt hown k hk).1)
      clear hown hown' hgrow hown2
      go_wp2
      go_ret
      exact ⟨by rw [← vB_end Hq hge]; rfl, hb1⟩
    · have hx : (128 : Int) ≤ (q : Int) := by omega
      go_wp2_with (at_builtin; refine wpList_append_own _ rfl _ _ 22 rfl w.heap.size 5 i0 (.int .u8 0) 1 1 Tryd.underlying22 hi hz0 hz1 hz2 rfl (by decide) _ _ _ rfl (hown.alloc _) ⟨wr.heap.size, 0, none⟩ 1 1 [.int .u8 ((q : Int) % 128 + 128)] rfl rfl ?c1 ?c2 ?c3 ?c4 ?c5 ?_)
      case c1 => exact one_at _ _ _
      case c2 => exact one_oneCell _ _
      case c3 => unfold maxLen; omega
      case c4 => omega
      case c5 => have := hb.size; simp; omega
      intro v' w1 hown' hgrow _
      have hown2 := own_snoc (UInt8.ofNat (128 + q % 128)) (by simp; omega) hown'
      have hb1 : Below w.heap.size w w1 := (hb.alloc hb.size _).grown hgrow (by have := hb.size; simp; omega) (fun k hk => (World.ownsRow.lt hown k hk).1)
      clear hown hown' hgrow
      go_wp2
      go_roundw
      case rel => exact ⟨d ++ [UInt8.ofNat (128 + q % 128)], q / 128, by simpa using hown2, by go_num, by omega, vB_step Hq hge, hb1⟩
      case measure => simp [intOf]; omega

theorem implEV_no (n : Int) (h : inB n 0 562949953421311 = false) (w : World) :
    Calls Tryd.prog 9 #[.int .i64 n] w fun e w' => e = .returned (.string (str [])) ∧ Below w.heap.size w w' := by
  have h' : n < 0 ∨ 562949953421311 < n := by simp [inB] at h; omega
  clear h
  by_cases hn : n < 0
  · go_enter Tryd.func9, Tryd.ntmps9
    go_wp2
    go_ret
    exact ⟨rfl, Below.refl _ _⟩
  · have hn2 : 562949953421311 < n := h'.resolve_left hn
    go_enter Tryd.func9, Tryd.ntmps9
    go_wp2
    go_ret
    exact ⟨rfl, Below.refl _ _⟩

theorem implEV (n : Int) (w : World) :
    Calls Tryd.prog 9 #[.int .i64 n] w fun e w' => e = .returned (.string (str (encV n))) ∧ Below w.heap.size w w' := by
  unfold encV
  cases h : inB n 0 562949953421311
  · simpa using implEV_no n h w
  · have h2 := h
    simp [inB] at h2
    obtain ⟨m, rfl⟩ := Int.eq_ofNat_of_zero_le h2.1
    simpa using implEV_yes m (by omega) w

theorem canonV (n : Int) (t : ByteArray) (ht : t.size ≤ maxLen) (w : World) :
    Calls Tryd.prog 23 #[.int .i64 n, .string t] w fun e w' => e = .returned (.tuple #[.int .i64 (canV n t.data.toList).1, .int .i64 (canV n t.data.toList).2]) ∧ Below w.heap.size w w' := by
  unfold maxLen at ht
  unfold canV
  by_cases h : encV n = t.data.toList
  · have hE : (!((str (encV n)).toList == t.toList)) = false := by rw [Lib.toList_data, Lib.toList_data, h]; simp [str]
    rw [if_pos h]
    clear h
    go_enter Tryd.func23, Tryd.ntmps23
    go_wp2_with fail
    refine (implEV _ _).mono ?_
    rintro e w1 ⟨rfl, hb⟩
    go_wp2
    go_ret2
    exact ⟨by simp, hb⟩
  · have hE : (!((str (encV n)).toList == t.toList)) = true := by rw [Lib.toList_data, Lib.toList_data]; simpa [str] using h
    rw [if_neg h]
    clear h
    go_enter Tryd.func23, Tryd.ntmps23
    go_wp2_with fail
    refine (implEV _ _).mono ?_
    rintro e w1 ⟨rfl, hb⟩
    go_wp2
    go_ret2
    exact ⟨rfl, hb⟩

set_option maxHeartbeats 800000 in
theorem implDV (s : ByteArray) (hs : s.size ≤ maxLen) (w : World) :
    Calls Tryd.prog 10 #[.string s] w fun e w' => e = .returned (.tuple #[.int .i64 (decV s.data.toList).1, .int .i64 (decV s.data.toList).2]) ∧ Below w.heap.size w w' := by
  unfold maxLen at hs
  obtain ⟨l, hl⟩ : ∃ l, l = s.data.toList := ⟨_, rfl⟩
  have hll : l.length = s.size := by rw [hl]; simp
  rw [← hl]
  have Hl := Lib.hid hl
  have Hll := Lib.hid hll
  clear hl hll
  go_enter Tryd.func10, Tryd.ntmps10
  go_wp2
  all_goals
    go_loop [4, 9] (fun n v => ∃ i q : Nat, i ≤ 7 ∧ i ≤ s.size ∧ v = .int .i64 i ∧ n = .int .i64 q ∧ Hid (q = numV (l.take i)) ∧ Hid (decVAux l (i + 1) (min 7 l.length - i) = decV l)) (fun _ v => 9 - (intOf v).toNat)
    case atStart => exact ⟨0, 0, by omega, by omega, rfl, rfl, show _ = _ from rfl, show _ = _ from rfl⟩
    case round =>
      obtain ⟨i, q, h7, hks, rfl, rfl, Hq, Hd⟩ := hrel
      by_cases hi : i < 7 ∧ i < s.size
      · have hi7 := hi.1
        have his := hi.2
        have hby := s[i].toNat_lt
        obtain ⟨q2, hq2⟩ : ∃ q2, q2 = numV (l.take (i + 1)) := ⟨_, rfl⟩
        have hor := implDV_or l i q s[i].toNat hi7 Hq.out (by have := Hll.out; omega)
        rw [show q + 128 ^ i * (s[i].toNat % 128) = q2 by rw [hq2, numV_take_succ s l Hl.out i his, ← Hq.out]] at hor
        have Hq2 := Lib.hid hq2
        clear hi hq2
        by_cases hb : s[i].toNat < 128
        · have hb' : ((s[i].toNat : Int) < 128) := by omega
          have Hb := Lib.hid hb
          clear hb
          have Hex : Hid ((s.extract 0 (i + 1)).size ≤ maxLen) := show _ ≤ _ by simp [maxLen]; omega
          go_wp2_with (go_at_call 23; refine (canonV _ _ Hex.out _).mono ?_; rintro e w1 ⟨rfl, hb1⟩)
          go_ret2
          exact ⟨by rw [Hq2.out, decV_at s l Hl.out i his hi7 Hb.out Hd.out]; rfl, hb1⟩
        · have hb' : (128 ≤ (s[i].toNat : Int)) := by omega
          have Hb := Lib.hid hb
          clear hb
          go_wp2
          go_round
          case rel => exact ⟨i + 1, q2, by omega, by omega, by go_num, rfl, Hq2, show _ = _ by
            obtain ⟨n, hn⟩ : ∃ n, min 7 l.length - i = n + 1 := ⟨min 7 l.length - i - 1, by have := Hll.out; omega⟩
            have H := Hd.out
            have hbl : 128 ≤ (l[i]'(by have := Hll.out; omega)).toNat := by have := Hb.out; have h2 := Hl.out; subst h2; exact Nat.le_of_not_lt this
            rw [hn, decVAux, okAt_big (by have := Hll.out; omega) hbl, if_neg (by simp)] at H
            rw [← H, show min 7 l.length - (i + 1) = n by omega]⟩
          case measure => simp [intOf]; omega
      · have hr : decV l = (0, 0) := by rw [← Hd.out, show min 7 l.length - i = 0 by have := Hll.out; omega]; rfl
        have Hr := Lib.hid hr
        have hge : 7 ≤ i ∨ s.size ≤ i := by omega
        clear hr hi
        go_wp2
        go_ret2
        exact ⟨by rw [Hr.out]; rfl, Below.refl _ _⟩

set_option maxHeartbeats 800000 in
theorem implEH (s : ByteArray) (hs : s.size ≤ 1048576) (w : World) :
    Calls Tryd.prog 16 #[.string s] w fun e w' => e = .returned (.string (str (hexE s.data.toList))) ∧ Below w.heap.size w w' := by
  go_enter Tryd.func16, Tryd.ntmps16
  go_wp2
  go_loopw [7] (fun v wr => ∃ k : Nat, k ≤ s.size ∧ v = .int .i64 k ∧ Lib.IsBuilder 50 5 w.heap.size w.heap.size (Lib.byteCells (hexE (s.data.toList.take k))) wr ∧ Below w.heap.size w wr) (fun v _ => s.size - (intOf v).toNat)
  case atStart => exact ⟨0, by omega, rfl, Lib.fresh_isBuilder _ _ w, (Below.refl _ _).alloc (Nat.le_refl _) _⟩
  case round =>
    obtain ⟨k, hk, rfl, hI, hb⟩ := hrel
    by_cases hlt : k < s.size
    · have hby := s[k].toNat_lt
      have hlen : (hexE (s.data.toList.take k)).length ≤ 2097152 := by rw [hexE_length]; simp; omega
      go_wp2_with fail
      refine (writeByte_any _ _ _ (hexD (s[k].toNat / 16)) _ ?_ _ hI ?_ ?_).mono ?_
      · rw [hexD_at _ (by omega)]
      · omega
      · exact hb.size
      rintro e w1 ⟨rfl, hI1, hb1⟩
      go_wp2_with fail
      have hs1 : w.heap.size ≤ w1.heap.size := Nat.le_trans hb.size hb1.size
      refine (writeByte_any _ _ _ (hexD (s[k].toNat % 16)) _ ?_ _ hI1 ?_ ?_).mono ?_
      · rw [hexD_at _ (by omega)]
      · rw [List.length_append, List.length_singleton]; omega
      · exact hs1
      rintro e w2 ⟨rfl, hI2, hb2⟩
      have hI3 : Lib.IsBuilder 50 5 w.heap.size w.heap.size (Lib.byteCells (hexE (s.data.toList.take (k + 1)))) w2 := by
        rw [take_snoc s k hlt, hexE_snoc, hex2]; simpa using hI2
      have HI3 := Lib.hid hI3
      clear hI hI1 hI2 hI3
      go_wp2
      go_roundw
      case rel => exact ⟨k + 1, by omega, by go_num, HI3.out, (hb.trans hb1).trans hb2⟩
      case measure => simp [intOf]; omega
    · obtain rfl : k = s.size := by omega
      rw [List.take_of_length_le (by simp)] at hI
      go_wp2_with fail
      refine (Tryd.Builder_String_any _ _ _ _ hI hb.size).mono ?_
      rintro e w1 ⟨rfl, hb1⟩
      clear hI
      go_wp2
      go_ret
      exact ⟨rfl, hb.trans hb1⟩

theorem indexByte_hex (b : UInt8) (w : World) :
    Calls Tryd.prog 27 #[.string { data := #[48, 49, 50, 51, 52, 53, 54, 55, 56, 57, 97, 98, 99, 100, 101, 102] }, .int .u8 b.toNat] w fun e w' => e = .returned (.int .i64 (fh b)) ∧ w = w' :=
  (Tryd.strings_IndexByte _ _ w).mono fun e w' ⟨h1, h2⟩ => ⟨by rw [h1]; simp [fh, hexTab], h2.symm⟩

set_option maxHeartbeats 1600000 in
theorem implDH (s : ByteArray) (hs : s.size ≤ 1048576) (w : World) :
    Calls Tryd.prog 15 #[.string s] w fun e w' => e = .returned (resH (decH s.data.toList)) ∧ Below w.heap.size w w' := by
  by_cases hodd : s.size % 2 = 1
  · have hE : ((s.size : Int) % 2 != 0) = true := by rw [bne_iff_ne]; omega
    have hr : decH s.data.toList = none := decH_odd (s.size / 2) _ (by simp; omega)
    rw [hr]
    clear hr hodd
    go_enter Tryd.func15, Tryd.ntmps15
    go_wp2
    go_ret2
    exact ⟨rfl, Below.refl _ _⟩
  · have hE : ((s.size : Int) % 2 != 0) = false := by rw [bne_eq_false_iff_eq]; omega
    have Hodd := Lib.hid hodd
    clear hodd
    go_enter Tryd.func15, Tryd.ntmps15
    go_wp2
    go_loopw [5] (fun v wr => ∃ (i : Nat) (acc : List UInt8), i ≤ s.size ∧ Hid (i % 2 = 0) ∧ acc.length ≤ i ∧ v = .int .i64 i ∧ Lib.IsBuilder 50 5 w.heap.size w.heap.size (Lib.byteCells acc) wr ∧ Hid (decH s.data.toList = restH s.data.toList acc i) ∧ Below w.heap.size w wr) (fun v _ => s.size - (intOf v).toNat)
    case atStart => exact ⟨0, [], by omega, show 0 % 2 = 0 from rfl, Nat.le_refl _, rfl, Lib.fresh_isBuilder _ _ w, show _ = _ by simp [restH], (Below.refl _ _).alloc (Nat.le_refl _) _⟩
    case round =>
      obtain ⟨i, acc, hil, Hi, hacc, rfl, hI, Hr, hb⟩ := hrel
      by_cases hlt : i < s.size
      · have hl2 : i + 1 < s.size := by have := Hi.out; have := Hodd.out; omega
        have c1 := Lib.hid (fun ww => indexByte_hex s[i] ww)
        have c2 := Lib.hid (fun ww => indexByte_hex s[i + 1] ww)
        rcases fh_cases s[i] with hx | ⟨x, hx16, hx⟩
        · have hbad : decH s.data.toList = none := by rw [Hr.out]; exact restH_bad s acc i hl2 (.inl hx)
          have Hbad := Lib.hid hbad
          rw [hx] at c1
          clear hx hbad
          go_wp2_with fail
          refine (c1.out _).mono ?_
          rintro e w1 ⟨rfl, rfl⟩
          go_wp2_with fail
          refine (c2.out _).mono ?_
          rintro e w1 ⟨rfl, rfl⟩
          go_wp2
          go_ret2
          exact ⟨by rw [Hbad.out]; rfl, hb⟩
        · rcases fh_cases s[i + 1] with hy | ⟨y, hy16, hy⟩
          · have hbad : decH s.data.toList = none := by rw [Hr.out]; exact restH_bad s acc i hl2 (.inr hy)
            have Hbad := Lib.hid hbad
            rw [hx] at c1
            rw [hy] at c2
            clear hx hy hbad
            go_wp2_with fail
            refine (c1.out _).mono ?_
            rintro e w1 ⟨rfl, rfl⟩
            go_wp2_with fail
            refine (c2.out _).mono ?_
            rintro e w1 ⟨rfl, rfl⟩
            go_wp2
            go_ret2
            exact ⟨by rw [Hbad.out]; rfl, hb⟩
          · have hgood : decH s.data.toList = _ := Hr.out.trans (restH_good s acc i hl2 x y hx hy)
            have Hgood := Lib.hid hgood
            have hor : bits BinOp.or IntKind.i64 ((x : Int) * 16) (y : Int) = 16 * (x : Int) + y := by
              have h := i64_join 4 (x * 16) y (by omega) (by omega) (by omega) (by omega)
              rw [Int.natCast_mul] at h
              exact h.trans (by omega)
            rw [hx] at c1
            rw [hy] at c2
            clear hx hy hgood
            go_wp2_with fail
            refine (c1.out _).mono ?_
            rintro e w1 ⟨rfl, rfl⟩
            go_wp2_with fail
            refine (c2.out _).mono ?_
            rintro e w1 ⟨rfl, rfl⟩
            go_wp2_with fail
            refine (writeByte_any _ _ _ (UInt8.ofNat (16 * x + y)) _ ?_ _ hI ?_ hb.size).mono ?_
            · simp; omega
            · omega
            rintro e w1 ⟨rfl, hI1, hb1⟩
            have HI1 := Lib.hid hI1
            clear hI hI1
            go_wp2
            go_roundw
            case rel => exact ⟨i + 2, acc ++ [UInt8.ofNat (16 * x + y)], by omega, show (i + 2) % 2 = 0 by have := Hi.out; omega, by simp; omega, by go_num, HI1.out, Hgood, hb.trans hb1⟩
            case measure => simp [intOf]; omega
      · have hend : decH s.data.toList = some acc := Hr.out.trans (restH_end s acc i (by omega))
        have Hend := Lib.hid hend
        clear hend
        go_wp2_with fail
        refine (Tryd.Builder_String_any _ _ _ _ hI hb.size).mono ?_
        rintro e w1 ⟨rfl, hb1⟩
        clear hI
        go_wp2
        go_ret2
        exact ⟨by rw [Hend.out]; rfl, hb.trans hb1⟩
end Go.Proofs.YtdieggjnnlldeaaDoor

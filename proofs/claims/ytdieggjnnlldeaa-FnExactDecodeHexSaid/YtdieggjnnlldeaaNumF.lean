/- Chapter 1: contracts of DecodeHex, in the model and in the program. -/
import Derived.Test.YtdieggjnnlldeaaNumE
namespace Go.Proofs.Ytdieggjnnlldeaa
open Go.RowKit
set_option linter.unusedVariables false
set_option maxRecDepth 100000

/-- The value of a hexadecimal digit, or -1. -/
def fh (b : UInt8) : Int := Lib.indexByte hexTab b
theorem fh_cases (b : UInt8) : fh b = -1 ∨ ∃ n : Nat, n < 16 ∧ fh b = n := by
  have : ∀ b : Fin 256, fh (UInt8.ofFin b) = -1 ∨ ∃ n : Fin 16, fh (UInt8.ofFin b) = (n.val : Int) := by decide +kernel
  rcases this b.toFin with h | ⟨n, h⟩
  · exact .inl h
  · exact .inr ⟨n.val, n.isLt, h⟩
theorem hexTab_drop (k : Nat) (hk : k < 16) : hexTab.drop k = hexD k :: hexTab.drop (k + 1) := by revert k; decide
theorem index_cons (a b : UInt8) (l : List UInt8) : Lib.indexByte (a :: l) b = if a == b then 0 else if Lib.indexByte l b == -1 then -1 else Lib.indexByte l b + 1 := rfl
def restIx (k : Nat) (b : UInt8) : Int := if Lib.indexByte (hexTab.drop k) b = -1 then -1 else k + Lib.indexByte (hexTab.drop k) b
theorem restIx_zero (b : UInt8) : restIx 0 b = fh b := by
  unfold restIx fh; simp; intro h; exact h.symm
theorem restIx_hit (k : Nat) (hk : k < 16) (b : UInt8) (h : hexD k = b) : restIx k b = k := by
  unfold restIx; rw [hexTab_drop k hk, index_cons]; simp [h]
theorem restIx_miss (k : Nat) (hk : k < 16) (b : UInt8) (h : ¬ hexD k = b) : restIx k b = restIx (k + 1) b := by
  unfold restIx; rw [hexTab_drop k hk, index_cons]
  have := Lib.indexByte_ge (hexTab.drop (k + 1)) b
  simp [h]
  split <;> simp_all <;> omega
theorem restIx_end (b : UInt8) : restIx 16 b = -1 := by unfold restIx; simp [hexTab, Lib.indexByte]

theorem fromHex_any (b : UInt8) (w : World) :
    Calls Try.prog 27 #[.int .u8 b.toNat] w fun e w' => e = .returned (.int .i64 (fh b)) ∧ w = w' := by
  have hbb := b.toNat_lt
  go_enter Try.func27, Try.ntmps27
  go_wp2
  go_loop [3] (fun v => ∃ k : Nat, k ≤ 16 ∧ v = .int .i64 k ∧ Hid (restIx k b = fh b)) (fun v => 17 - (intOf v).toNat)
  case atStart => exact ⟨0, by omega, rfl, show _ = _ from restIx_zero b⟩
  case round =>
    obtain ⟨k, hk, rfl, Hr⟩ := hrel
    by_cases hlt : k < 16
    · by_cases hb : hexD k = b
      · have hE : (((hexD k).toNat : Int) == (b.toNat : Int)) = true := by rw [hb]; simp
        have Hb := Lib.hid hb
        clear hb
        go_wp2_with (go_at_call 24; refine (l1Digit_any k hlt _).mono ?_; rintro e w' ⟨rfl, rfl⟩)
        go_ret
        exact ⟨by rw [← Hr.out, restIx_hit k hlt b Hb.out]; rfl, rfl⟩
      · have hne : (hexD k).toNat ≠ b.toNat := fun h => hb (UInt8.toNat.inj h)
        have hE : (((hexD k).toNat : Int) == (b.toNat : Int)) = false := by rw [beq_eq_false_iff_ne]; omega
        have Hb := Lib.hid hb
        clear hb hne
        go_wp2_with (go_at_call 24; refine (l1Digit_any k hlt _).mono ?_; rintro e w' ⟨rfl, rfl⟩)
        go_round
        case rel => exact ⟨k + 1, by omega, by go_num, show _ = _ by rw [← Hr.out, restIx_miss k hlt b Hb.out]⟩
        case measure => simp [intOf]; omega
    · obtain rfl : k = 16 := by omega
      go_wp2
      go_ret
      exact ⟨by rw [← Hr.out, restIx_end]; rfl, rfl⟩

/-- What DecodeHex answers. -/
def decH : List UInt8 → Option (List UInt8)
  | [] => some []
  | [_] => none
  | a :: b :: t => if fh a = -1 ∨ fh b = -1 then none else (decH t).map (UInt8.ofNat (16 * (fh a).toNat + (fh b).toNat) :: ·)
theorem decH_odd : ∀ (n : Nat) (l : List UInt8), l.length = 2 * n + 1 → decH l = none := by
  intro n
  induction n with
  | zero => intro l h; match l, h with | [_], _ => rfl
  | succ n ih =>
    intro l h
    match l, h with
    | a :: b :: t, h => rw [decH, ih t (by simp at h; omega)]; simp
/-- What stands behind the first i bytes, the bytes acc in hand. -/
def restH (l acc : List UInt8) (i : Nat) : Option (List UInt8) := (decH (l.drop i)).map (acc ++ ·)
theorem drop2 (s : ByteArray) (i : Nat) (h : i + 1 < s.size) : s.data.toList.drop i = s[i] :: s[i + 1] :: s.data.toList.drop (i + 2) := by
  rw [List.drop_eq_getElem_cons (by simp; omega), List.drop_eq_getElem_cons (by simp; omega)]; rfl
theorem restH_bad (s : ByteArray) (acc : List UInt8) (i : Nat) (h : i + 1 < s.size) (hb : fh s[i] = -1 ∨ fh s[i + 1] = -1) : restH s.data.toList acc i = none := by
  unfold restH; rw [drop2 s i h, decH, if_pos hb]; rfl
theorem restH_good (s : ByteArray) (acc : List UInt8) (i : Nat) (h : i + 1 < s.size) (x y : Nat) (hx : fh s[i] = x) (hy : fh s[i + 1] = y) : restH s.data.toList acc i = restH s.data.toList (acc ++ [UInt8.ofNat (16 * x + y)]) (i + 2) := by
  unfold restH; rw [drop2 s i h, decH, if_neg (by rw [hx, hy]; omega), hx, hy]
  simp [Option.map_map, Function.comp_def]
theorem restH_end (s : ByteArray) (acc : List UInt8) (i : Nat) (h : s.size ≤ i) : restH s.data.toList acc i = some acc := by
  unfold restH; rw [List.drop_of_length_le (by simpa using h)]; simp [decH]

def resH (r : Option (List UInt8)) : Value := .tuple #[.string (str (r.getD [])), .bool r.isSome]

set_option maxHeartbeats 1600000 in
theorem specDH (s : ByteArray) (hs : s.size ≤ 1048576) (w : World) :
    Calls Try.prog 19 #[.string s] w fun e w' => e = .returned (resH (decH s.data.toList)) ∧ Below w.heap.size w w' := by
  obtain ⟨i0, hi, hz0, hz1, hz2⟩ := info_parts Try.info5
  by_cases hodd : s.size % 2 = 1
  · have hE : ((s.size : Int) % 2 == 1) = true := by simp; omega
    have hr : decH s.data.toList = none := decH_odd (s.size / 2) _ (by simp; omega)
    rw [hr]
    clear hr hodd
    go_enter Try.func19, Try.ntmps19
    go_wp2
    go_ret2
    exact ⟨rfl, (Below.refl _ _).alloc (Nat.le_refl _) _⟩
  · have hE : ((s.size : Int) % 2 == 1) = false := by rw [beq_eq_false_iff_ne]; omega
    have Hodd := Lib.hid hodd
    clear hodd
    go_enter Try.func19, Try.ntmps19
    go_wp2
    go_loopw [4, 5] (fun o v wr => ∃ (i : Nat) (acc : List UInt8), i ≤ s.size ∧ Hid (i % 2 = 0) ∧ acc.length ≤ i ∧ v = .int .i64 i ∧ wr.ownsRow w.heap.size 5 1 o acc.length (acc.map byteV) ∧ Hid (decH s.data.toList = restH s.data.toList acc i) ∧ Below w.heap.size w wr) (fun _ v _ => s.size - (intOf v).toNat)
    case atStart => exact ⟨0, [], by omega, show 0 % 2 = 0 from rfl, Nat.le_refl _, rfl, World.ownsRow_lit w #[] 0 (Nat.le_refl _) (by unfold maxLen; omega) rfl, show _ = _ by simp [restH], (Below.refl _ _).alloc (Nat.le_refl _) _⟩
    case round =>
      obtain ⟨i, acc, hil, Hi, hacc, rfl, hown, Hr, hb⟩ := hrel
      by_cases hlt : i < s.size
      · have hl2 : i + 1 < s.size := by have := Hi.out; have := Hodd.out; omega
        have c1 := Lib.hid (fun ww => fromHex_any s[i] ww)
        have c2 := Lib.hid (fun ww => fromHex_any s[i + 1] ww)
        rcases fh_cases s[i] with hx | ⟨x, hx16, hx⟩
        · have hbad : decH s.data.toList = none := by rw [Hr.out]; exact restH_bad s acc i hl2 (.inl hx)
          have Hbad := Lib.hid hbad
          rw [hx] at c1
          clear hx hbad
          go_wp2_with fail
          refine (c1.out _).mono ?_
          rintro e w1 ⟨rfl, rfl⟩
          go_wp2_with fail
          refine (c2.out _).mono ?_
          rintro e w1 ⟨rfl, rfl⟩
          go_wp2
          go_ret2
          exact ⟨by rw [Hbad.out]; rfl, hb⟩
        · rcases fh_cases s[i + 1] with hy | ⟨y, hy16, hy⟩
          · have hbad : decH s.data.toList = none := by rw [Hr.out]; exact restH_bad s acc i hl2 (.inr hy)
            have Hbad := Lib.hid hbad
            rw [hx] at c1
            rw [hy] at c2
            clear hx hy hbad
            go_wp2_with fail
            refine (c1.out _).mono ?_
            rintro e w1 ⟨rfl, rfl⟩
            go_wp2_with fail
            refine (c2.out _).mono ?_
            rintro e w1 ⟨rfl, rfl⟩
            go_wp2
            go_ret2
            exact ⟨by rw [Hbad.out]; rfl, hb⟩
          · have hgood : decH s.data.toList = _ := Hr.out.trans (restH_good s acc i hl2 x y hx hy)
            have Hgood := Lib.hid hgood
            rw [hx] at c1
            rw [hy] at c2
            clear hx hy hgood
            go_wp2_with fail
            refine (c1.out _).mono ?_
            rintro e w1 ⟨rfl, rfl⟩
            go_wp2_with fail
            refine (c2.out _).mono ?_
            rintro e w1 ⟨rfl, rfl⟩
            go_wp2_with (at_builtin; refine wpList_append_own _ rfl _ _ 36 rfl w.heap.size 5 i0 (.int .u8 0) 1 1 Try.underlying36 hi hz0 hz1 hz2 rfl (by decide) _ _ _ rfl (hown.alloc _) ⟨wr.heap.size, 0, none⟩ 1 1 [.int .u8 (16 * (x : Int) + y)] rfl rfl ?c1 ?c2 ?c3 ?c4 ?c5 ?_)
            case c1 => exact one_at _ _ _
            case c2 => exact one_oneCell _ _
            case c3 => unfold maxLen; omega
            case c4 => omega
            case c5 => have := hb.size; simp; omega
            intro v' w1 hown' hgrow _
            have hown2 := own_snoc (UInt8.ofNat (16 * x + y)) (by simp; omega) hown'
            have hb1 : Below w.heap.size w w1 := (hb.alloc hb.size _).grown hgrow (by have := hb.size; simp; omega) (fun k hk => (World.ownsRow.lt hown k hk).1)
            clear hown hown' hgrow
            go_wp2
            go_roundw
            case rel => exact ⟨i + 2, acc ++ [UInt8.ofNat (16 * x + y)], by omega, show (i + 2) % 2 = 0 by have := Hi.out; omega, by simp; omega, by go_num, by simpa using hown2, Hgood, hb1⟩
            case measure => simp [intOf]; omega
      · have hend : decH s.data.toList = some acc := Hr.out.trans (restH_end s acc i (by omega))
        have Hend := Lib.hid hend
        have hcv := run_conv_own (P := Try.prog) wr 36 9 5 Try.underlying36 Try.underlying5 Try.underlying9 _ _ _ _ hown
        clear hown hend
        go_wp2
        go_ret2
        exact ⟨by rw [Hend.out]; rfl, hb⟩

theorem indexByte_hex (b : UInt8) (w : World) :
    Calls Try.prog 28 #[.string { data := #[48, 49, 50, 51, 52, 53, 54, 55, 56, 57, 97, 98, 99, 100, 101, 102] }, .int .u8 b.toNat] w fun e w' => e = .returned (.int .i64 (fh b)) ∧ w = w' :=
  (Try.strings_IndexByte _ _ w).mono fun e w' ⟨h1, h2⟩ => ⟨by rw [h1]; simp [fh, hexTab], h2.symm⟩

set_option maxHeartbeats 1600000 in
theorem implDH (s : ByteArray) (hs : s.size ≤ 1048576) (w : World) :
    Calls Try.prog 20 #[.string s] w fun e w' => e = .returned (resH (decH s.data.toList)) ∧ Below w.heap.size w w' := by
  by_cases hodd : s.size % 2 = 1
  · have hE : ((s.size : Int) % 2 != 0) = true := by rw [bne_iff_ne]; omega
    have hr : decH s.data.toList = none := decH_odd (s.size / 2) _ (by simp; omega)
    rw [hr]
    clear hr hodd
    go_enter Try.func20, Try.ntmps20
    go_wp2
    go_ret2
    exact ⟨rfl, Below.refl _ _⟩
  · have hE : ((s.size : Int) % 2 != 0) = false := by rw [bne_eq_false_iff_eq]; omega
    have Hodd := Lib.hid hodd
    clear hodd
    go_enter Try.func20, Try.ntmps20
    go_wp2
    go_loopw [5] (fun v wr => ∃ (i : Nat) (acc : List UInt8), i ≤ s.size ∧ Hid (i % 2 = 0) ∧ acc.length ≤ i ∧ v = .int .i64 i ∧ Lib.IsBuilder 42 5 w.heap.size w.heap.size (Lib.byteCells acc) wr ∧ Hid (decH s.data.toList = restH s.data.toList acc i) ∧ Below w.heap.size w wr) (fun v _ => s.size - (intOf v).toNat)
    case atStart => exact ⟨0, [], by omega, show 0 % 2 = 0 from rfl, Nat.le_refl _, rfl, Lib.fresh_isBuilder _ _ w, show _ = _ by simp [restH], (Below.refl _ _).alloc (Nat.le_refl _) _⟩
    case round =>
      obtain ⟨i, acc, hil, Hi, hacc, rfl, hI, Hr, hb⟩ := hrel
      by_cases hlt : i < s.size
      · have hl2 : i + 1 < s.size := by have := Hi.out; have := Hodd.out; omega
        have c1 := Lib.hid (fun ww => indexByte_hex s[i] ww)
        have c2 := Lib.hid (fun ww => indexByte_hex s[i + 1] ww)
        rcases fh_cases s[i] with hx | ⟨x, hx16, hx⟩
        · have hbad : decH s.data.toList = none := by rw [Hr.out]; exact restH_bad s acc i hl2 (.inl hx)
          have Hbad := Lib.hid hbad
          rw [hx] at c1
          clear hx hbad
          go_wp2_with fail
          refine (c1.out _).mono ?_
          rintro e w1 ⟨rfl, rfl⟩
          go_wp2_with fail
          refine (c2.out _).mono ?_
          rintro e w1 ⟨rfl, rfl⟩
          go_wp2
          go_ret2
          exact ⟨by rw [Hbad.out]; rfl, hb⟩
        · rcases fh_cases s[i + 1] with hy | ⟨y, hy16, hy⟩
          · have hbad : decH s.data.toList = none := by rw [Hr.out]; exact restH_bad s acc i hl2 (.inr hy)
            have Hbad := Lib.hid hbad
            rw [hx] at c1
            rw [hy] at c2
            clear hx hy hbad
            go_wp2_with fail
            refine (c1.out _).mono ?_
            rintro e w1 ⟨rfl, rfl⟩
            go_wp2_with fail
            refine (c2.out _).mono ?_
            rintro e w1 ⟨rfl, rfl⟩
            go_wp2
            go_ret2
            exact ⟨by rw [Hbad.out]; rfl, hb⟩
          · have hgood : decH s.data.toList = _ := Hr.out.trans (restH_good s acc i hl2 x y hx hy)
            have Hgood := Lib.hid hgood
            have hor : bits BinOp.or IntKind.i64 ((x : Int) * 16) (y : Int) = 16 * (x : Int) + y := by
              have h := i64_join 4 (x * 16) y (by omega) (by omega) (by omega) (by omega)
              rw [Int.natCast_mul] at h
              exact h.trans (by omega)
            rw [hx] at c1
            rw [hy] at c2
            clear hx hy hgood
            go_wp2_with fail
            refine (c1.out _).mono ?_
            rintro e w1 ⟨rfl, rfl⟩
            go_wp2_with fail
            refine (c2.out _).mono ?_
            rintro e w1 ⟨rfl, rfl⟩
            go_wp2_with fail
            refine (writeByte_any _ _ _ (UInt8.ofNat (16 * x + y)) _ ?_ _ hI ?_ hb.size).mono ?_
            · simp; omega
            · omega
            rintro e w1 ⟨rfl, hI1, hb1⟩
            have HI1 := Lib.hid hI1
            clear hI hI1
            go_wp2
            go_roundw
            case rel => exact ⟨i + 2, acc ++ [UInt8.ofNat (16 * x + y)], by omega, show (i + 2) % 2 = 0 by have := Hi.out; omega, by simp; omega, by go_num, HI1.out, Hgood, hb.trans hb1⟩
            case measure => simp [intOf]; omega
      · have hend : decH s.data.toList = some acc := Hr.out.trans (restH_end s acc i (by omega))
        have Hend := Lib.hid hend
        clear hend
        go_wp2_with fail
        refine (Try.Builder_String_any _ _ _ _ hI hb.size).mono ?_
        rintro e w1 ⟨rfl, hb1⟩
        clear hI
        go_wp2
        go_ret2
        exact ⟨by rw [Hend.out]; rfl, hb.trans hb1⟩
end Go.Proofs.Ytdieggjnnlldeaa

/- The model's draws: the cursor's start, a text, a number. -/
import Derived.Test.YtdieggjnnlldeaaDoorDraw1
import Derived.Test.YtdieggjnnlldeaaDoorNumPure
namespace Go.Proofs.YtdieggjnnlldeaaDoor
open Go.RowKit
set_option linter.unusedVariables false
set_option maxRecDepth 100000

/-- The code as it came in. -/
def CodeIn (a : Option Addr) (zs : List Int) (w : World) : Prop :=
  ∀ j (hj : j < zs.length), ∃ b off, a = some ⟨b, off, none⟩ ∧ b < w.heap.size ∧ w.cell? ⟨b, off + j, none⟩ = some (.int .u8 zs[j]) ∧ 0 ≤ zs[j] ∧ zs[j] ≤ 255
theorem CodeIn.at {a : Option Addr} {zs : List Int} {w w' : World} (h : CodeIn a zs w) (k : Below w.heap.size w w') {B : Nat} (hB : w.heap.size ≤ B) : CodeAt a zs B w' := by
  intro j hj
  obtain ⟨b, off, ha, hlt, hc, hr⟩ := h j hj
  exact ⟨b, off, ha, by omega, Nat.lt_of_lt_of_le hlt k.size, (k.cell (p := ⟨b, off + j, none⟩) hlt).trans hc, hr⟩
theorem CodeIn.keep {a : Option Addr} {zs : List Int} {w w' : World} (h : CodeIn a zs w) (k : Below w.heap.size w w') : CodeIn a zs w' := by
  intro j hj
  obtain ⟨b, off, ha, hlt, hc, hr⟩ := h j hj
  exact ⟨b, off, ha, Nat.lt_of_lt_of_le hlt k.size, (k.cell (p := ⟨b, off + j, none⟩) hlt).trans hc, hr⟩

theorem and30 (x : Int) : 0 ≤ bits BinOp.and IntKind.i64 x 1073741823 ∧ bits BinOp.and IntKind.i64 x 1073741823 ≤ 1073741823 := by
  have e : bits BinOp.and IntKind.i64 x 1073741823 = IntKind.i64.wrap ((BitVec.ofInt 64 x &&& BitVec.ofInt 64 1073741823).toNat : Int) := rfl
  have h255 : (BitVec.ofInt 64 1073741823).toNat = 1073741823 := by decide
  have hle : (BitVec.ofInt 64 x &&& BitVec.ofInt 64 1073741823).toNat ≤ 1073741823 := by
    rw [BitVec.toNat_and, h255]; exact Nat.and_le_right
  rw [e, IntWalk.i64_in _ (by omega)]
  omega
def hStep (h z : Int) : Int := bits BinOp.and IntKind.i64 (h * 131 + z + 7) 1073741823
def hash0 (zs : List Int) (k : Nat) : Int := (zs.take k).foldl hStep (10101 + zs.length)
theorem hash0_succ (zs : List Int) (k : Nat) (h : k < zs.length) : hash0 zs (k + 1) = hStep (hash0 zs k) zs[k] := by
  unfold hash0; rw [List.take_succ_eq_append_getElem h, List.foldl_append]; rfl

set_option maxHeartbeats 1600000 in
theorem l1New_any (a : Option Addr) (cap : Nat) (zs : List Int) (w : World) (hl : zs.length ≤ 1048576) (hz : CodeIn a zs w) :
    Calls Tryd.prog 20 #[.slice a zs.length cap] w fun e w' => e = .returned (.pointer (some ⟨w.heap.size, 0, none⟩)) ∧ CurAt w.heap.size a zs.length cap 0 (hash0 zs (min 4000 zs.length)) w' ∧ Below w.heap.size w w' ∧ w.heap.size < w'.heap.size := by
  have Hz := Lib.hid hz
  clear hz
  go_enter Tryd.func20, Tryd.ntmps20
  go_wp2
  go_loop [3, 4] (fun hv v => ∃ (k : Nat) (h : Int), k ≤ zs.length ∧ k ≤ 4000 ∧ v = .int .i64 k ∧ hv = .int .i64 h ∧ 0 ≤ h ∧ h ≤ 1073741823 ∧ Hid (h = hash0 zs k)) (fun _ v => 4001 - (intOf v).toNat)
  case atStart => exact ⟨0, 10101 + zs.length, by omega, by omega, rfl, rfl, by omega, by omega, show _ = _ by simp [hash0]⟩
  case round =>
    obtain ⟨k, h, hk, hk4, rfl, rfl, h0, h1, Hh⟩ := hrel
    by_cases hlt : k < zs.length
    · by_cases hlt4 : k < 4000
      · obtain ⟨b, off, rfl, _, hcell, hz0, hz1⟩ := Hz.out k hlt
        have hb := and30 (h * 131 + zs[k] + 7)
        have hs := hash0_succ zs k hlt
        generalize hg : bits BinOp.and IntKind.i64 (h * 131 + zs[k] + 7) 1073741823 = h2 at hb
        have Hs : Hid (h2 = hash0 zs (k + 1)) := show _ = _ by rw [hs, ← Hh.out]; exact hg.symm
        have hb0 := hb.1
        have hb1 := hb.2
        clear hs hb
        go_wp2
        go_round
        case rel => exact ⟨k + 1, h2, by omega, by omega, by go_num, rfl, hb0, hb1, Hs⟩
        case measure => simp [intOf]; omega
      · have hk' : (4000 : Int) ≤ k := by omega
        have hm : hash0 zs (min 4000 zs.length) = h := by rw [Hh.out]; congr 1; omega
        have Hm := Lib.hid hm
        clear hm
        go_wp2
        go_ret
        exact ⟨rfl, by rw [Hm.out]; exact heap_alloc_new w _, (Below.refl _ _).alloc (Nat.le_refl _) _, by simp⟩
    · have hm : hash0 zs (min 4000 zs.length) = h := by rw [Hh.out]; congr 1; omega
      have Hm := Lib.hid hm
      clear hm
      go_wp2
      go_ret
      exact ⟨rfl, by rw [Hm.out]; exact heap_alloc_new w _, (Below.refl _ _).alloc (Nat.le_refl _) _, by simp⟩

theorem OnlyB.alloc {B : Nat} {a w : World} (h : OnlyB B a w) (o : Obj) : OnlyB B a (w.alloc o) :=
  h.trans ⟨rfl, rfl, rfl, by simp, fun k hk _ => Below.heap_alloc _ _ _ hk⟩
theorem OnlyB.grown {B : Nat} {a w w' : World} {row : Option Nat} (h : OnlyB B a w) (hg : w.grownBy w' row) (hr : ∀ k, row = some k → a.heap.size ≤ k) : OnlyB B a w' :=
  ⟨hg.os.trans h.os, hg.tape.trans h.tape, hg.output.trans h.output, Nat.le_trans h.size hg.size, fun k hk hn => (hg.block k (Nat.lt_of_lt_of_le hk h.size) (fun e => by have := hr k e.symm; omega)).trans (h.block k hk hn)⟩
theorem ownsRow_only {B base : Nat} {w w' : World} {e : TypeId} {sz : Nat} {v : Value} {n : Nat} {xs : List Value} (hb : B < base) (h : w.ownsRow base e sz v n xs) (k : OnlyB B w w') : w'.ownsRow base e sz v n xs := by
  obtain ⟨h1, h2⟩ := h
  refine ⟨h1, ?_⟩
  rcases h2 with h2 | ⟨g, cap, cur, hv, hg, hh, r⟩
  · exact Or.inl h2
  · have hlt : g < w.heap.size := by
      rcases Nat.lt_or_ge g w.heap.size with h | h
      · exact h
      · rw [Array.getElem?_eq_none h] at hh; cases hh
    exact Or.inr ⟨g, cap, cur, hv, hg, by rw [k.block g hlt (by omega)]; exact hh, r⟩
theorem CurAt.of_block {B : Nat} {a : Option Addr} {len cap i : Nat} {h : Int} {w w' : World} (k : CurAt B a len cap i h w) (e : w'.heap[B]? = w.heap[B]?) : CurAt B a len cap i h w' := e.trans k

/-- One letter of a text, by the style. -/
def letter (style x : Int) : Int := if style = 1 then x % 2 else if style = 2 then 97 + x % 4 else x
theorem letter_range {style x : Int} (h0 : 0 ≤ x) (h1 : x ≤ 255) : 0 ≤ letter style x ∧ letter style x ≤ 255 := by
  unfold letter; split
  · omega
  · split <;> omega
/-- The letters of a text: k more. -/
def letters (zs : List Int) (style : Int) : Nat → Nat → Int → List UInt8 × Nat × Int
  | 0, i, h => ([], i, h)
  | k + 1, i, h =>
    let p := nextB zs i h
    let r := letters zs style k p.2.1 p.2.2
    (UInt8.ofNat (letter style p.1).toNat :: r.1, r.2)
def textD (zs : List Int) (most : Int) (i : Nat) (h : Int) : List UInt8 × Nat × Int :=
  let s := below zs 4 i h
  let n := below zs (most + 1) s.2.1 s.2.2
  letters zs s.1 n.1.toNat n.2.1 n.2.2
theorem letters_len (zs : List Int) (style : Int) : ∀ k i h, (letters zs style k i h).1.length = k := by
  intro k
  induction k with
  | zero => intro i h; rfl
  | succ k ih => intro i h; simp [letters, ih]

/-- What a text's draw leaves. -/
def DrawnT (B : Nat) (a : Option Addr) (zs : List Int) (cap : Nat) (r : List UInt8 × Nat × Int) (w : World) (e : Ending) (w' : World) : Prop :=
  e = .returned (.string (str r.1)) ∧ CurAt B a zs.length cap r.2.1 r.2.2 w' ∧ OnlyB B w w'

set_option maxHeartbeats 1600000 in
theorem l1Text_any (B : Nat) (a : Option Addr) (cap i : Nat) (h : Int) (zs : List Int) (most : Int) (w : World) (hi63 : zs.length ≤ 9223372036854775806) (hm0 : 0 ≤ most) (hm1 : most ≤ 1000) (hc : CurAt B a zs.length cap i h w) (hz : CodeAt a zs B w) (hB : B < w.heap.size) :
    Calls Tryd.prog 22 #[.pointer (some ⟨B, 0, none⟩), .int .i64 most] w (DrawnT B a zs cap (textD zs most i h) w) := by
  obtain ⟨i0, hi, hz0, hz1, hz2⟩ := info_parts Tryd.info5
  obtain ⟨⟨style, i1, h1⟩, e1⟩ : ∃ p, below zs 4 i h = p := ⟨_, rfl⟩
  obtain ⟨⟨n, i2, h2⟩, e2⟩ : ∃ p, below zs (most + 1) i1 h1 = p := ⟨_, rfl⟩
  have r1 := below_range zs 4 i h
  have r2 := below_range zs (most + 1) i1 h1
  have ht : textD zs most i h = letters zs style n.toNat i2 h2 := by unfold textD; simp only [e1, e2]
  rw [ht]
  simp only [e1, e2] at r1 r2
  have B1 := fun ww hcc hzz => l1Below_any B a cap i h zs 4 ww hi63 hcc hzz
  have B2 := fun ww hcc hzz => l1Below_any B a cap i1 h1 zs (most + 1) ww hi63 hcc hzz
  simp only [e1, e2] at B1 B2
  obtain ⟨m, rfl⟩ := Int.eq_ofNat_of_zero_le r2.1
  have hmm : m ≤ 1000 := by have := r2.2 (by omega); omega
  rw [Int.toNat_natCast]
  have hs0 := r1.1
  have Hc := Lib.hid hc
  have Hz := Lib.hid hz
  have HB1 := Lib.hid B1
  have HB2 := Lib.hid B2
  clear hc hz B1 B2 e1 e2 ht r1 r2
  obtain ⟨L, hL⟩ : ∃ L, letters zs style m i2 h2 = L := ⟨_, rfl⟩
  rw [hL]
  have HL := Lib.hid hL
  clear hL
  go_enter Tryd.func22, Tryd.ntmps22
  go_wp2_with fail
  have ho0 : OnlyB B w (w.alloc (.cells #[] 5)) := (OnlyB.refl B w).alloc _
  refine (HB1.out _ (Hc.out.of_block (Below.heap_alloc _ _ _ hB)) (Hz.out.keep ho0)).mono ?_
  rintro e w1 ⟨rfl, hc1, ho1⟩
  have Hc1 := Lib.hid hc1
  clear hc1
  have hown1 : w1.ownsRow w.heap.size 5 1 (.slice (some ⟨w.heap.size, 0, none⟩) 0 0) 0 (([] : List UInt8).map byteV) := ownsRow_only hB (World.ownsRow_lit w #[] 0 (Nat.le_refl _) (by unfold maxLen; omega) rfl) ho1
  have Ho1 := Lib.hid hown1
  clear hown1
  go_wp2_with fail
  refine (HB2.out w1 Hc1.out ((Hz.out.keep ho0).keep ho1)).mono ?_
  rintro e w2 ⟨rfl, hc2, ho2⟩
  have hoo := (ho0.trans ho1).trans ho2
  have Hoo := Lib.hid hoo
  have Ho2 := Lib.hid (ownsRow_only hB Ho1.out ho2)
  have Hc2 := Lib.hid hc2
  have hsz2 := hoo.size
  clear hc2 hoo ho2 ho1 ho0
  go_wp2
  go_loopw [5, 7] (fun o nv wr => ∃ (k j : Nat) (g : Int) (d : List UInt8), k ≤ m ∧ d.length + k = m ∧ nv = .int .i64 k ∧ wr.ownsRow w.heap.size 5 1 o d.length (d.map byteV) ∧ CurAt B a zs.length cap j g wr ∧ OnlyB B w wr ∧ Hid ((d ++ (letters zs style k j g).1, (letters zs style k j g).2) = L)) (fun _ nv _ => (intOf nv).toNat)
  case atStart => exact ⟨m, i2, h2, [], Nat.le_refl _, by simp, rfl, Ho2.out, Hc2.out, Hoo.out, show _ = _ by rw [← HL.out]; rfl⟩
  case round =>
    obtain ⟨k, j, g, d, hk, hdk, rfl, hown, hcr, hor, Hd⟩ := hrel
    have hszr := hor.size
    by_cases hk0 : k = 0
    · subst hk0
      have hcv := run_conv_own (P := Tryd.prog) wr 22 9 5 Tryd.underlying22 Tryd.underlying5 Tryd.underlying9 _ _ _ _ hown
      have Hcr := Lib.hid hcr
      clear hown hcr
      go_wp2
      go_ret
      exact ⟨by rw [← Hd.out]; simp [letters], by rw [← Hd.out]; exact Hcr.out, hor⟩
    · obtain ⟨k', rfl⟩ : ∃ k', k = k' + 1 := ⟨k - 1, by omega⟩
      obtain ⟨⟨x, j1, g1⟩, e3⟩ : ∃ p, nextB zs j g = p := ⟨_, rfl⟩
      have hB3 := l1Byte_any B a cap j g zs wr hi63 hcr (Hz.out.keep hor)
      have r3 := nextB_range zs j g
      simp only [e3] at hB3 r3
      have hx0 := r3.1
      have hx1 := r3.2
      have hstep : letters zs style (k' + 1) j g = (UInt8.ofNat (letter style x).toNat :: (letters zs style k' j1 g1).1, (letters zs style k' j1 g1).2) := by simp only [letters, e3]
      have hdn : (d ++ (letters zs style (k' + 1) j g).1, (letters zs style (k' + 1) j g).2) = L := Hd.out
      rw [hstep] at hdn
      have Hdn := Lib.hid hdn
      have H3 := Lib.hid hB3
      have Hown := Lib.hid hown
      have Hor := Lib.hid hor
      have hpos : (0 : Int) < (k' : Int) + 1 := by omega
      clear hB3 r3 hstep hdn hown hcr hor e3 Hd hk0
      go_wp2_with fail
      refine H3.out.mono ?_
      rintro e w3 ⟨rfl, hc3, ho3⟩
      have hown3 := ownsRow_only hB Hown.out ho3
      have Ho3 := Lib.hid (Hor.out.trans ho3)
      have hsz3 := Ho3.out.size
      have Hc3 := Lib.hid hc3
      clear ho3 hc3
      have hlr := letter_range (style := style) hx0 hx1
      have hlu : ∀ y : Int, y = letter style x → y = ((UInt8.ofNat (letter style x).toNat).toNat : Int) := by intro y hy; simp; omega
      have Hlr := Lib.hid hlr
      have Hlu := Lib.hid hlu
      clear hlr hlu
      by_cases hst : style = 1
      · subst hst
        have hst : (1 : Int) = 1 := rfl
        have hlet : letter 1 x = x % 2 := by unfold letter; rw [if_pos rfl]
        have Hlt := Lib.hid hlet
        clear hst hlet
        go_wp2_with (at_builtin; refine wpList_append_own _ rfl _ _ 22 rfl w.heap.size 5 i0 (.int .u8 0) 1 1 Tryd.underlying22 hi hz0 hz1 hz2 rfl (by decide) _ _ _ rfl (hown3.alloc _) ⟨w3.heap.size, 0, none⟩ 1 1 [.int .u8 (x % 2)] rfl rfl ?c1 ?c2 ?c3 ?c4 ?c5 ?_)
        case c1 => exact one_at _ _ _
        case c2 => exact one_oneCell _ _
        case c3 => unfold maxLen; omega
        case c4 => omega
        case c5 => simp; omega
        intro v' w4 hown' hgrow _
        have hown4 := own_snoc (UInt8.ofNat (letter 1 x).toNat) (Hlu.out _ Hlt.out.symm) hown'
        have Hown4 := Lib.hid hown4
        have Hor4 := Lib.hid ((Ho3.out.alloc (.cells #[.int .u8 (x % 2)] 5)).grown hgrow (fun k hk => (World.ownsRow.lt hown3 k hk).1))
        have Hc4 := Lib.hid (Hc3.out.of_block (w' := w4) ((hgrow.block B (by simp; omega) (fun e => by have := (World.ownsRow.lt hown3 B e.symm).1; omega)).trans (Below.heap_alloc _ _ _ (by omega))))
        clear hown' hown4 hgrow hown3
        go_wp2
        go_roundw
        case rel => exact ⟨k', j1, g1, d ++ [UInt8.ofNat (letter 1 x).toNat], by omega, by simp; omega, by go_num, by simpa using Hown4.out, Hc4.out, Hor4.out, show _ = _ by rw [← Hdn.out]; simp⟩
        case measure => simp [intOf]
      · by_cases hst2 : style = 2
        · subst hst2
          have hst : (1 : Int) = 1 := rfl
          have hlet : letter 2 x = 97 + x % 4 := by unfold letter; rw [if_neg (by omega), if_pos rfl]
          have Hlt := Lib.hid hlet
          clear hst hlet
          go_wp2_with (at_builtin; refine wpList_append_own _ rfl _ _ 22 rfl w.heap.size 5 i0 (.int .u8 0) 1 1 Tryd.underlying22 hi hz0 hz1 hz2 rfl (by decide) _ _ _ rfl (hown3.alloc _) ⟨w3.heap.size, 0, none⟩ 1 1 [.int .u8 (97 + x % 4)] rfl rfl ?c1 ?c2 ?c3 ?c4 ?c5 ?_)
          case c1 => exact one_at _ _ _
          case c2 => exact one_oneCell _ _
          case c3 => unfold maxLen; omega
          case c4 => omega
          case c5 => simp; omega
          intro v' w4 hown' hgrow _
          have hown4 := own_snoc (UInt8.ofNat (letter 2 x).toNat) (Hlu.out _ Hlt.out.symm) hown'
          have Hown4 := Lib.hid hown4
          have Hor4 := Lib.hid ((Ho3.out.alloc (.cells #[.int .u8 (97 + x % 4)] 5)).grown hgrow (fun k hk => (World.ownsRow.lt hown3 k hk).1))
          have Hc4 := Lib.hid (Hc3.out.of_block (w' := w4) ((hgrow.block B (by simp; omega) (fun e => by have := (World.ownsRow.lt hown3 B e.symm).1; omega)).trans (Below.heap_alloc _ _ _ (by omega))))
          clear hown' hown4 hgrow hown3
          go_wp2
          go_roundw
          case rel => exact ⟨k', j1, g1, d ++ [UInt8.ofNat (letter 2 x).toNat], by omega, by simp; omega, by go_num, by simpa using Hown4.out, Hc4.out, Hor4.out, show _ = _ by rw [← Hdn.out]; simp⟩
          case measure => simp [intOf]
        · have hE1 : (style == 1) = false := by rw [beq_eq_false_iff_ne]; exact hst
          have hE2 : (style == 2) = false := by rw [beq_eq_false_iff_ne]; exact hst2
          have hlet : letter style x = x := by unfold letter; rw [if_neg hst, if_neg hst2]
          have Hlt := Lib.hid hlet
          clear hst hst2 hlet
          go_wp2_with (at_builtin; refine wpList_append_own _ rfl _ _ 22 rfl w.heap.size 5 i0 (.int .u8 0) 1 1 Tryd.underlying22 hi hz0 hz1 hz2 rfl (by decide) _ _ _ rfl (hown3.alloc _) ⟨w3.heap.size, 0, none⟩ 1 1 [.int .u8 (x)] rfl rfl ?c1 ?c2 ?c3 ?c4 ?c5 ?_)
          case c1 => exact one_at _ _ _
          case c2 => exact one_oneCell _ _
          case c3 => unfold maxLen; omega
          case c4 => omega
          case c5 => simp; omega
          intro v' w4 hown' hgrow _
          have hown4 := own_snoc (UInt8.ofNat (letter style x).toNat) (Hlu.out _ Hlt.out.symm) hown'
          have Hown4 := Lib.hid hown4
          have Hor4 := Lib.hid ((Ho3.out.alloc (.cells #[.int .u8 (x)] 5)).grown hgrow (fun k hk => (World.ownsRow.lt hown3 k hk).1))
          have Hc4 := Lib.hid (Hc3.out.of_block (w' := w4) ((hgrow.block B (by simp; omega) (fun e => by have := (World.ownsRow.lt hown3 B e.symm).1; omega)).trans (Below.heap_alloc _ _ _ (by omega))))
          clear hown' hown4 hgrow hown3
          go_wp2
          go_roundw
          case rel => exact ⟨k', j1, g1, d ++ [UInt8.ofNat (letter style x).toNat], by omega, by simp; omega, by go_num, by simpa using Hown4.out, Hc4.out, Hor4.out, show _ = _ by rw [← Hdn.out]; simp⟩
          case measure => simp [intOf]
end Go.Proofs.YtdieggjnnlldeaaDoor

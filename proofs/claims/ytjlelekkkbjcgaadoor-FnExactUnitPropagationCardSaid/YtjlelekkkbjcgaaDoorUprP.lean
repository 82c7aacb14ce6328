/- Chapter 21: unit propagation as a plain function, and the number of ones in a word. -/
import Derived.Test.YtjlelekkkbjcgaaDoorCntM
import Derived.Test.YtjlelekkkbjcgaaDoorLit
open Go Go.Proofs Go.RowKit
namespace Go.Proofs.YtjlelekkkbjcgaaDoor.Ab
set_option linter.unusedSimpArgs false
set_option linter.unusedVariables false
set_option maxRecDepth 100000
/-- a number from its bytes -/
def ofB : List Nat → Nat
  | [] => 0
  | b :: l => 256 * ofB l + b
def pwm (c : Nat) : Nat → Nat
  | 0 => 0
  | k + 1 => 256 * pwm c k + c
theorem and_split (a b m n : Nat) (ha : a < 256) (hm : m < 256) : (256 * b + a) &&& (256 * n + m) = 256 * (b &&& n) + (a &&& m) := by
  have h3 : a &&& m < 256 := Nat.lt_of_le_of_lt Nat.and_le_left ha
  apply Nat.eq_of_testBit_eq
  intro j
  rw [Nat.testBit_and]
  have e : (256 : Nat) = 2 ^ 8 := rfl
  rw [e, Nat.testBit_two_pow_mul_add b (by omega : a < 2 ^ 8), Nat.testBit_two_pow_mul_add n (by omega : m < 2 ^ 8), Nat.testBit_two_pow_mul_add (b &&& n) (by omega : a &&& m < 2 ^ 8)]
  split <;> rw [Nat.testBit_and]
def pw1 (b : Nat) : Nat := (b / 2 &&& 85) + (b &&& 85)
def pw2 (b : Nat) : Nat := (b / 4 &&& 51) + (b &&& 51)
def pw3 (b : Nat) : Nat := (b / 16 + b) &&& 15
theorem lowA : ∀ b : _root_.Fin 256, ∀ y : _root_.Fin 2, (128 * y.val + b.val / 2) &&& 85 = b.val / 2 &&& 85 := by decide +kernel
theorem lowB : ∀ b : _root_.Fin 256, ∀ y : _root_.Fin 4, (64 * y.val + b.val / 4) &&& 51 = b.val / 4 &&& 51 := by decide +kernel
theorem pws1 : ∀ (l : List Nat), (∀ b, b ∈ l → b < 256) → (ofB l / 2 &&& pwm 85 l.length) + (ofB l &&& pwm 85 l.length) = ofB (l.map pw1)
  | [], _ => rfl
  | b :: l, h => by
    have hb := h b (by simp)
    have ih := pws1 l (fun c hc => h c (by simp [hc]))
    have e : (256 * ofB l + b) / 2 = 256 * (ofB l / 2) + (128 * (ofB l % 2) + b / 2) := by omega
    have h1 : (128 * (ofB l % 2) + b / 2) &&& 85 = b / 2 &&& 85 := lowA ⟨b, hb⟩ ⟨ofB l % 2, by omega⟩
    simp only [ofB, List.length_cons, pwm, List.map_cons, pw1]
    rw [e, and_split _ _ _ _ (by omega) (by omega), and_split _ _ _ _ hb (by omega), h1, ← ih]
    omega
theorem pws2 : ∀ (l : List Nat), (∀ b, b ∈ l → b < 256) → (ofB l / 4 &&& pwm 51 l.length) + (ofB l &&& pwm 51 l.length) = ofB (l.map pw2)
  | [], _ => rfl
  | b :: l, h => by
    have hb := h b (by simp)
    have ih := pws2 l (fun c hc => h c (by simp [hc]))
    have e : (256 * ofB l + b) / 4 = 256 * (ofB l / 4) + (64 * (ofB l % 4) + b / 4) := by omega
    have h1 : (64 * (ofB l % 4) + b / 4) &&& 51 = b / 4 &&& 51 := lowB ⟨b, hb⟩ ⟨ofB l % 4, by omega⟩
    simp only [ofB, List.length_cons, pwm, List.map_cons, pw2]
    rw [e, and_split _ _ _ _ (by omega) (by omega), and_split _ _ _ _ hb (by omega), h1, ← ih]
    omega
theorem lowC : ∀ b : _root_.Fin 69, ∀ y : _root_.Fin 5, b.val % 16 ≤ 4 → (16 * y.val + (b.val / 16 + b.val)) &&& 15 = (b.val / 16 + b.val) &&& 15 := by decide +kernel
def nib (b : Nat) : Prop := b ≤ 68 ∧ b % 16 ≤ 4
theorem pws3 : ∀ (l : List Nat), (∀ b, b ∈ l → nib b) → ((ofB l / 16 + ofB l) &&& pwm 15 l.length) = ofB (l.map pw3) ∧ ofB l % 16 ≤ 4
  | [], _ => ⟨rfl, by simp [ofB]⟩
  | b :: l, h => by
    have hb := h b (by simp)
    unfold nib at hb
    have ih := pws3 l (fun c hc => h c (by simp [hc]))
    have e : (256 * ofB l + b) / 16 + (256 * ofB l + b) = 256 * (ofB l / 16 + ofB l) + (16 * (ofB l % 16) + (b / 16 + b)) := by omega
    have h1 : (16 * (ofB l % 16) + (b / 16 + b)) &&& 15 = (b / 16 + b) &&& 15 := lowC ⟨b, by omega⟩ ⟨ofB l % 16, by omega⟩ hb.2
    simp only [ofB, List.length_cons, pwm, List.map_cons, pw3]
    rw [e, and_split _ _ _ _ (by omega) (by omega), h1, ← ih.1]
    omega
def pwp8 (b : Nat) : Nat := pw3 (pw2 (pw1 b))
def onz (n b : Nat) : Nat := (List.range n).countP fun i => b.testBit i
theorem byte_ok : ∀ b : _root_.Fin 256, pw1 b.val < 256 ∧ pw2 (pw1 b.val) ≤ 68 ∧ pw2 (pw1 b.val) % 16 ≤ 4 ∧ pw3 (pw2 (pw1 b.val)) = onz 8 b.val ∧ onz 8 b.val ≤ 8 := by decide +kernel
theorem onz_split (n b y : Nat) (hb : b < 256) : onz (8 + n) (256 * y + b) = onz 8 b + onz n y := by
  unfold onz
  rw [List.range_add, List.countP_append, List.countP_map]
  congr 1
  · apply List.countP_congr
    intro i hi
    rw [List.mem_range] at hi
    have e : (256 : Nat) = 2 ^ 8 := rfl
    rw [e, Nat.testBit_two_pow_mul_add y (by omega : b < 2 ^ 8), if_pos hi]
  · apply List.countP_congr
    intro i hi
    have e : (256 : Nat) = 2 ^ 8 := rfl
    simp only [Function.comp]
    rw [e, Nat.testBit_two_pow_mul_add y (by omega : b < 2 ^ 8), if_neg (by omega), Nat.add_sub_cancel_left]
theorem sum_cnt : ∀ (l : List Nat), (∀ b, b ∈ l → b < 256) → (l.map pwp8).sum = onz (8 * l.length) (ofB l)
  | [], _ => rfl
  | b :: l, h => by
    have hb := h b (by simp)
    have ih := sum_cnt l (fun c hc => h c (by simp [hc]))
    have h1 := byte_ok ⟨b, hb⟩
    simp only [List.map_cons, List.sum_cons, List.length_cons, ofB]
    rw [show 8 * (l.length + 1) = 8 + 8 * l.length by omega, onz_split _ _ _ hb, ← ih]
    unfold pwp8
    rw [h1.2.2.2.1]
def onesN (x : Nat) : Nat :=
  let a := (x / 2 &&& 6148914691236517205) + (x &&& 6148914691236517205)
  let b := (a / 4 &&& 3689348814741910323) + (a &&& 3689348814741910323)
  let c := (b / 16 + b) &&& 1085102592571150095
  let d := (c + c / 256) % 18446744073709551616
  let e := (d + d / 65536) % 18446744073709551616
  let f := (e + e / 4294967296) % 18446744073709551616
  f % 128
theorem tail8 (p0 p1 p2 p3 p4 p5 p6 p7 : Nat) (q0 : p0 ≤ 8) (q1 : p1 ≤ 8) (q2 : p2 ≤ 8) (q3 : p3 ≤ 8) (q4 : p4 ≤ 8) (q5 : p5 ≤ 8) (q6 : p6 ≤ 8) (q7 : p7 ≤ 8) :
    (let c := 256 * (256 * (256 * (256 * (256 * (256 * (256 * (256 * 0 + p7) + p6) + p5) + p4) + p3) + p2) + p1) + p0
     let d := (c + c / 256) % 18446744073709551616
     let e := (d + d / 65536) % 18446744073709551616
     let f := (e + e / 4294967296) % 18446744073709551616
     f % 128) = p0 + (p1 + (p2 + (p3 + (p4 + (p5 + (p6 + (p7 + 0))))))) := by
  simp only
  have dv : ∀ k y b : Nat, b < k → (k * y + b) / k = y := fun k y b h => by
    rw [Nat.mul_add_div (by omega), Nat.div_eq_of_lt h, Nat.add_zero]
  generalize h6 : 256 * (256 * 0 + p7) + p6 = u6
  generalize h5 : 256 * u6 + p5 = u5
  generalize h4 : 256 * u5 + p4 = u4
  generalize h3 : 256 * u4 + p3 = u3
  generalize h2 : 256 * u3 + p2 = u2
  generalize h1 : 256 * u2 + p1 = u1
  have b6 : u6 ≤ 2056 := by omega
  have b5 : u5 ≤ 526344 := by omega
  have b4 : u4 ≤ 134744072 := by omega
  have b3 : u3 ≤ 34494482440 := by omega
  have b2 : u2 ≤ 8830587504648 := by omega
  have b1 : u1 ≤ 2260630401189896 := by omega
  rw [dv 256 u1 p0 (by omega)]
  rw [Nat.mod_eq_of_lt (by omega : 256 * u1 + p0 + u1 < 18446744073709551616)]
  -- c + c / 256 in sixteen-bit parts
  have e1 : 256 * u1 + p0 + u1 = 65536 * (256 * u3 + p2 + u3) + (256 * (p1 + p2) + (p0 + p1)) := by omega
  rw [e1]
  rw [dv 65536 (256 * u3 + p2 + u3) (256 * (p1 + p2) + (p0 + p1)) (by omega)]
  rw [Nat.mod_eq_of_lt (by omega : 65536 * (256 * u3 + p2 + u3) + (256 * (p1 + p2) + (p0 + p1)) + (256 * u3 + p2 + u3) < 18446744073709551616)]
  have e2 : 65536 * (256 * u3 + p2 + u3) + (256 * (p1 + p2) + (p0 + p1)) + (256 * u3 + p2 + u3) = 4294967296 * (256 * u5 + p4 + u5 + 0 + (0 : Nat)) + (65536 * (256 * (p3 + p4) + (p2 + p3)) + (256 * (p1 + p2) + (p0 + p1))) + (256 * u3 + p2 + u3) := by omega
  have e3 : 256 * u3 + p2 + u3 = 65536 * (256 * u5 + p4 + u5) + (256 * (p3 + p4) + (p2 + p3)) := by omega
  have e4 : 256 * u5 + p4 + u5 = 65536 * (256 * p7 + p6 + p7) + (256 * (p5 + p6) + (p4 + p5)) := by omega
  generalize hz : 65536 * (256 * u3 + p2 + u3) + (256 * (p1 + p2) + (p0 + p1)) + (256 * u3 + p2 + u3) = z at *
  have e5 : z = 4294967296 * ((256 * u5 + p4 + u5) + (256 * p7 + p6 + p7)) + (65536 * ((256 * (p3 + p4) + (p2 + p3)) + (256 * (p5 + p6) + (p4 + p5))) + ((256 * (p1 + p2) + (p0 + p1)) + (256 * (p3 + p4) + (p2 + p3)))) := by omega
  rw [e5]
  rw [dv 4294967296 ((256 * u5 + p4 + u5) + (256 * p7 + p6 + p7)) _ (by omega)]
  clear hz e1 e2 e5
  generalize 256 * p7 + p6 + p7 = y at *
  generalize 256 * u5 + p4 + u5 = v at *
  omega
theorem ones_eq (x : Nat) (hx : x < 18446744073709551616) : onesN x = onz 64 x := by
  let l : List Nat := [x % 256, x / 256 % 256, x / 65536 % 256, x / 16777216 % 256, x / 4294967296 % 256, x / 1099511627776 % 256, x / 281474976710656 % 256, x / 72057594037927936 % 256]
  have hl : ∀ b, b ∈ l → b < 256 := by
    intro b hb
    simp only [l, List.mem_cons, List.not_mem_nil, or_false] at hb
    omega
  have ho : ofB l = x := by
    simp only [l, ofB]
    omega
  have hb := fun b h => byte_ok ⟨b, hl b h⟩
  have e1 := pws1 l hl
  have e2 := pws2 (l.map pw1) (by intro b h; obtain ⟨c, hc, rfl⟩ := List.mem_map.1 h; exact (hb c hc).1)
  have e3 := (pws3 ((l.map pw1).map pw2) (by intro b h; obtain ⟨d, hd, rfl⟩ := List.mem_map.1 h; obtain ⟨c, hc, rfl⟩ := List.mem_map.1 hd; exact ⟨(hb c hc).2.1, (hb c hc).2.2.1⟩)).1
  have e4 := sum_cnt l hl
  have e5 : l.length = 8 := rfl
  rw [List.length_map] at e2 e3
  rw [List.length_map] at e3
  rw [e5] at e1 e2 e3 e4
  rw [show pwm 85 8 = 6148914691236517205 by decide] at e1
  rw [show pwm 51 8 = 3689348814741910323 by decide] at e2
  rw [show pwm 15 8 = 1085102592571150095 by decide] at e3
  unfold onesN
  rw [ho] at e1
  simp only
  rw [e1, e2, e3]
  rw [ho] at e4
  rw [← e4]
  have q : ∀ b, b ∈ l → pwp8 b ≤ 8 := fun b h => by have := hb b h; unfold pwp8; rw [this.2.2.2.1]; exact this.2.2.2.2
  simp only [l, List.map_cons, List.map_nil, ofB, List.sum_cons, List.sum_nil]
  have q0 := q _ (show x % 256 ∈ l by simp [l])
  have q1 := q _ (show x / 256 % 256 ∈ l by simp [l])
  have q2 := q _ (show x / 65536 % 256 ∈ l by simp [l])
  have q3 := q _ (show x / 16777216 % 256 ∈ l by simp [l])
  have q4 := q _ (show x / 4294967296 % 256 ∈ l by simp [l])
  have q5 := q _ (show x / 1099511627776 % 256 ∈ l by simp [l])
  have q6 := q _ (show x / 281474976710656 % 256 ∈ l by simp [l])
  have q7 := q _ (show x / 72057594037927936 % 256 ∈ l by simp [l])
  unfold pwp8 at *
  generalize pw3 (pw2 (pw1 (x % 256))) = p0 at *
  generalize pw3 (pw2 (pw1 (x / 256 % 256))) = p1 at *
  generalize pw3 (pw2 (pw1 (x / 65536 % 256))) = p2 at *
  generalize pw3 (pw2 (pw1 (x / 16777216 % 256))) = p3 at *
  generalize pw3 (pw2 (pw1 (x / 4294967296 % 256))) = p4 at *
  generalize pw3 (pw2 (pw1 (x / 1099511627776 % 256))) = p5 at *
  generalize pw3 (pw2 (pw1 (x / 281474976710656 % 256))) = p6 at *
  generalize pw3 (pw2 (pw1 (x / 72057594037927936 % 256))) = p7 at *
  clear e1 e2 e3 e4 hb hl ho q
  exact tail8 p0 p1 p2 p3 p4 p5 p6 p7 q0 q1 q2 q3 q4 q5 q6 q7
/-- The word of a list of numbers has as many ones as the list has members. -/
theorem cnt_bits : ∀ (l : List Int), l.Nodup → in64 l → onz 64 (bitsI l) = l.length
  | [], _, _ => by decide +kernel
  | x :: l, hn, h => by
    obtain ⟨h1, h2⟩ := List.nodup_cons.1 hn
    have hl : in64 l := fun y hy => h y (List.mem_cons_of_mem _ hy)
    have ih := cnt_bits l h2 hl
    have hx := h x (by simp)
    unfold onz at *
    have e1 : (List.range 64).countP (fun i => (bitsI (x :: l)).testBit i) = (List.range 64).countP (fun i => decide (i = x.toNat) || (bitsI l).testBit i) := by
      apply List.countP_congr
      intro i _
      rw [bitsI_test _ h, bitsI_test _ hl, List.contains_cons]
      have : ((i : Int) == x) = decide (i = x.toNat) := by
        rw [Bool.eq_iff_iff]; simp only [beq_iff_eq, decide_eq_true_eq]; omega
      rw [this]
    have key : ∀ (r : List Nat) (p : Nat → Bool) (y : Nat), r.Nodup → p y = false → r.countP (fun i => decide (i = y) || p i) = r.countP p + (if y ∈ r then 1 else 0) := by
      intro r p y hr hp
      induction r with
      | nil => simp
      | cons z r ih2 =>
        obtain ⟨q1, q2⟩ := List.nodup_cons.1 hr
        rw [List.countP_cons, List.countP_cons, ih2 q2]
        by_cases e : z = y
        · subst e
          simp [hp, q1]
        · have e2 : ¬ y = z := fun h => e h.symm
          simp [e, e2]
          omega
    rw [e1, key _ _ _ List.nodup_range (by rw [bitsI_test _ hl]; rw [Int.toNat_of_nonneg hx.1]; simpa using h1), ih, if_pos (List.mem_range.2 (by omega))]
    rfl
theorem bits_nil_iff {l : List Int} (h : in64 l) : bitsI l = 0 ↔ l = [] := by
  constructor
  · intro e
    cases l with
    | nil => rfl
    | cons x l =>
      have h1 := bitsI_test _ h x.toNat
      have hx := h x (by simp)
      rw [e, Nat.zero_testBit, Int.toNat_of_nonneg hx.1] at h1
      simp at h1
  · rintro rfl; rfl
theorem ctz_one {x : Int} (h : 0 ≤ x ∧ x < 64) : ((Go.Lib.ctz 64 (bitsI [x]) : Nat) : Int) = x := by
  have h64 : in64 [x] := fun y hy => by rw [List.mem_singleton] at hy; subst hy; exact h
  have h1 := low_bits (x := bitsI [x]) (fun e => by have := (bits_nil_iff h64).1 e; cases this) (bitsI_lt _ h64)
  have h2 := h1.2.1
  rw [bitsI_test _ h64] at h2
  simpa using h2
/-- What is left of a clause when some literals are true. -/
def openL (out c : List Int) : List Int := c.filter fun x => !out.contains (-x)
def metC (out c : List Int) : Bool := c.any fun x => out.contains x
def forced (out : List Int) : List (List Int) → Option (List Int)
  | [] => none
  | c :: L => if metC out c = false ∧ (openL out c).length ≤ 1 then some (openL out c) else forced out L
def unitsF (L : List (List Int)) : Nat → List Int → List Int × Bool
  | 0, out => (out, false)
  | k + 1, out => match forced out L with
    | none => (out, false)
    | some [] => (out, true)
    | some (x :: _) => unitsF L k (out ++ [x])
def units (L : List (List Int)) (out : List Int) : List Int × Bool := unitsF L (L.length + 1) out
def unmet (L : List (List Int)) (out : List Int) : Nat := L.countP fun c => !metC out c
theorem forced_mem {out : List Int} : ∀ {L : List (List Int)} {o : List Int}, forced out L = some o → ∃ c, c ∈ L ∧ metC out c = false ∧ (openL out c).length ≤ 1 ∧ o = openL out c
  | [], o, h => by simp [forced] at h
  | c :: L, o, h => by
    unfold forced at h
    split at h
    · rename_i h1
      simp only [Option.some.injEq] at h
      exact ⟨c, by simp, h1.1, h1.2, h.symm⟩
    · obtain ⟨d, h1, h2⟩ := forced_mem h
      exact ⟨d, by simp [h1], h2⟩
theorem forced_one {out : List Int} {L : List (List Int)} {x : Int} {t : List Int} (h : forced out L = some (x :: t)) : t = [] ∧ ∃ c, c ∈ L ∧ metC out c = false ∧ x ∈ c := by
  obtain ⟨c, h1, h2, h3, h4⟩ := forced_mem h
  rw [← h4] at h3
  refine ⟨by cases t with | nil => rfl | cons y t => simp at h3, c, h1, h2, ?_⟩
  have : x ∈ openL out c := h4 ▸ (by simp)
  exact (List.mem_filter.1 this).1
theorem metC_grow {out c : List Int} (x : Int) (h : metC out c = true) : metC (out ++ [x]) c = true := by
  unfold metC at *
  rw [List.any_eq_true] at h ⊢
  obtain ⟨y, h1, h2⟩ := h
  exact ⟨y, h1, by simp at h2 ⊢; exact .inl h2⟩
theorem unmet_less {out : List Int} {L : List (List Int)} {x : Int} {c : List Int} (h1 : c ∈ L) (h2 : metC out c = false) (h3 : x ∈ c) : unmet L (out ++ [x]) < unmet L out := by
  unfold unmet
  induction L with
  | nil => simp at h1
  | cons d L ih =>
    rw [List.countP_cons, List.countP_cons]
    have hle : L.countP (fun c => !metC (out ++ [x]) c) ≤ L.countP (fun c => !metC out c) := by
      apply List.countP_mono_left
      intro e _ he
      cases hm : metC out e with
      | false => rfl
      | true => rw [metC_grow x hm] at he; simp at he
    rcases List.mem_cons.1 h1 with rfl | h1
    · have h4 : metC (out ++ [x]) c = true := by
        unfold metC
        exact List.any_eq_true.2 ⟨x, h3, by simp⟩
      rw [h2, h4]
      simp
      omega
    · have := ih h1
      cases hm : metC out d with
      | false => cases metC (out ++ [x]) d <;> simp <;> omega
      | true => rw [metC_grow x hm]; simp; exact this
/-- One step of the loop, with what is left of its measure. -/
theorem units_step {L : List (List Int)} {out : List Int} {k : Nat} (hk : unmet L out < k) {x : Int} {t : List Int} (h : forced out L = some (x :: t)) : ∃ k', k = k' + 1 ∧ unmet L (out ++ [x]) < k' ∧ unitsF L k out = unitsF L k' (out ++ [x]) := by
  obtain ⟨ht, c, h1, h2, h3⟩ := forced_one h
  have h4 := unmet_less (x := x) h1 h2 h3
  obtain ⟨k', rfl⟩ : ∃ k', k = k' + 1 := ⟨k - 1, by omega⟩
  exact ⟨k', rfl, by omega, by rw [unitsF, h]⟩
theorem units_none {L : List (List Int)} {out : List Int} {k : Nat} (hk : unmet L out < k) (h : forced out L = none) : unitsF L k out = (out, false) := by
  obtain ⟨k', rfl⟩ : ∃ k', k = k' + 1 := ⟨k - 1, by omega⟩
  rw [unitsF, h]
theorem units_zero {L : List (List Int)} {out : List Int} {k : Nat} (hk : unmet L out < k) (h : forced out L = some []) : unitsF L k out = (out, true) := by
  obtain ⟨k', rfl⟩ : ∃ k', k = k' + 1 := ⟨k - 1, by omega⟩
  rw [unitsF, h]
theorem unmet_start (L : List (List Int)) (out : List Int) : unmet L out < L.length + 1 := Nat.lt_succ_of_le List.countP_le_length
theorem forced_app {out : List Int} : ∀ {L L' : List (List Int)}, forced out L = none → forced out (L ++ L') = forced out L'
  | [], L', _ => rfl
  | c :: L, L', h => by
    unfold forced at h
    rw [List.cons_append, forced]
    split at h
    · cases h
    · rename_i h1
      rw [if_neg h1]
      exact forced_app h
/-- Of the bits: what is open of the first clause that forces. -/
def ffc (T F : Nat) : List Nat → Option Nat
  | [] => none
  | c :: CS => if c &&& T = 0 ∧ onz 64 (ndn c F) ≤ 1 then some (ndn c F) else ffc T F CS
theorem litN_inj {n x y : Int} (hn : n ≤ 14) (hx : litOk n x = true) (hy : litOk n y = true) (h : litN x = litN y) : x = y := by
  unfold litOk at hx hy
  simp only [Bool.and_eq_true, decide_eq_true_eq] at hx hy
  unfold litN foL at h
  split at h <;> split at h <;> (try split at h) <;> (try split at h) <;> omega
theorem litOk_neg {n x : Int} (h : litOk n x = true) : litOk n (-x) = true := by
  unfold litOk at *
  simp only [Bool.and_eq_true, decide_eq_true_eq] at *
  omega
def negP (l : List Int) : List Int := l.map fun x => -x
theorem negL_eq {n : Int} (hn : n ≤ 14) {l : List Int} (h : ∀ x, x ∈ l → litOk n x = true) : negL l = negP l := by
  unfold negL negP
  apply List.map_congr_left
  intro x hx
  have := h x hx
  unfold litOk at this
  simp only [Bool.and_eq_true, decide_eq_true_eq] at this
  unfold wrap64
  omega
theorem clauseFrom_neg (n : Int) : ∀ (l ps : List Int), clauseFrom n ps l = true → clauseFrom n (negP ps) (negP l) = true
  | [], ps, _ => rfl
  | x :: l, ps, h => by
    have fo : ∀ {y : Int}, foL (-y) = foL y ∨ y = 0 := fun {y} => by
      unfold foL
      split <;> split <;> omega
    unfold clauseFrom at h
    simp only [Bool.and_eq_true] at h
    have ih := clauseFrom_neg n l (ps ++ [x]) h.2.2
    have h0 : x ≠ 0 := by
      have := h.1
      unfold litOk at this
      simp only [Bool.and_eq_true, decide_eq_true_eq] at this
      exact this.1
    have hf : foL (-x) = foL x := fo.resolve_right h0
    show (litOk n (-x) && ((negP ps).all (fun y => decide (foL y ≠ foL (-x))) && clauseFrom n (negP ps ++ [-x]) (negP l))) = true
    rw [litOk_neg h.1, Bool.true_and, hf]
    have e : negP ps ++ [-x] = negP (ps ++ [x]) := by unfold negP; rw [List.map_append]; rfl
    rw [e, ih, Bool.and_true]
    have h3 := h.2.1
    rw [List.all_eq_true] at h3 ⊢
    intro y hy
    unfold negP at hy
    obtain ⟨z, hz, rfl⟩ := List.mem_map.1 hy
    have h4 := h3 z hz
    rcases fo (y := z) with e | e
    · rw [e]; exact h4
    · subst e
      exact h4
theorem clauseOk_neg {n : Int} {l : List Int} (h : clauseOk n l = true) : clauseOk n (negP l) = true := clauseFrom_neg n l [] h
theorem clauseFrom_nodup {n : Int} : ∀ (l ps : List Int), clauseFrom n ps l = true → l.Nodup ∧ ∀ x, x ∈ l → x ∉ ps
  | [], ps, _ => ⟨List.nodup_nil, fun x h => by simp at h⟩
  | x :: l, ps, h => by
    unfold clauseFrom at h
    simp only [Bool.and_eq_true, List.all_eq_true, decide_eq_true_eq] at h
    obtain ⟨h1, h2⟩ := clauseFrom_nodup l (ps ++ [x]) h.2.2
    refine ⟨List.nodup_cons.2 ⟨fun hx => h2 x hx (by simp), h1⟩, fun y hy hp => ?_⟩
    rcases List.mem_cons.1 hy with rfl | hy
    · exact h.2.1 y hp rfl
    · exact h2 y hy (by simp [hp])
theorem ffc_eq {n : Int} (hn : n ≤ 14) {out : List Int} (ho : ∀ x, x ∈ out → litOk n x = true) : ∀ {L : List (List Int)}, (∀ c, c ∈ L → clauseOk n c = true) →
    ffc (bitsI (out.map litN)) (bitsI ((negP out).map litN)) (setsL L) = (forced out L).map fun o => bitsI (o.map litN)
  | [], _ => rfl
  | c :: L, h => by
    have hc := h c (by simp)
    have hok := clause_ok hc
    have hnd := (clauseFrom_nodup c [] hc).1
    have ih := ffc_eq hn ho (L := L) (fun d hd => h d (by simp [hd]))
    have in64s : ∀ l : List Int, (∀ x, x ∈ l → litOk n x = true) → in64 (l.map litN) := fun l hl x hx => by
      obtain ⟨y, hy, rfl⟩ := List.mem_map.1 hx
      exact litN_in hn (hl y hy)
    have hnegok : ∀ x, x ∈ negP out → litOk n x = true := fun x hx => by
      obtain ⟨y, hy, rfl⟩ := List.mem_map.1 hx
      exact litOk_neg (ho y hy)
    have mem : ∀ (l : List Int), (∀ x, x ∈ l → litOk n x = true) → ∀ x, litOk n x = true → (l.map litN).contains (litN x) = l.contains x := fun l hl x hx => by
      rw [Bool.eq_iff_iff, List.contains_iff_mem, List.contains_iff_mem]
      constructor
      · intro h
        obtain ⟨y, hy, e⟩ := List.mem_map.1 h
        rw [← litN_inj hn (hl y hy) hx e]
        exact hy
      · exact fun h => List.mem_map.2 ⟨x, h, rfl⟩
    have a1 : (bitsI (c.map litN) &&& bitsI (out.map litN) = 0) ↔ metC out c = false := by
      have h1 := and_bits (b := bitsI (c.map litN)) (in64s out ho)
      have h2 : (out.map litN).any (fun x => (bitsI (c.map litN)).testBit x.toNat) = metC out c := by
        rw [Bool.eq_iff_iff, List.any_eq_true]
        unfold metC
        rw [List.any_eq_true]
        constructor
        · rintro ⟨x, hx, hb⟩
          obtain ⟨y, hy, rfl⟩ := List.mem_map.1 hx
          have hy0 := litN_in hn (ho y hy)
          rw [bitsI_test _ (in64s c hok), Int.toNat_of_nonneg hy0.1, mem c hok y (ho y hy)] at hb
          exact ⟨y, List.contains_iff_mem.1 hb, List.contains_iff_mem.2 hy⟩
        · rintro ⟨y, hy, hb⟩
          have hyo := List.contains_iff_mem.1 hb
          have hy0 := litN_in hn (ho y hyo)
          exact ⟨litN y, List.mem_map.2 ⟨y, hyo, rfl⟩, by rw [bitsI_test _ (in64s c hok), Int.toNat_of_nonneg hy0.1, mem c hok y (ho y hyo)]; exact List.contains_iff_mem.2 hy⟩
      rw [h2] at h1
      rw [← h1]
      simp
    have a2 : ndn (bitsI (c.map litN)) (bitsI ((negP out).map litN)) = bitsI ((openL out c).map litN) := by
      have hok2 : ∀ x, x ∈ openL out c → litOk n x = true := fun x hx => hok x (List.mem_filter.1 hx).1
      apply Nat.eq_of_testBit_eq
      intro i
      by_cases hi : i < 64
      · rw [ndn_test _ _ _ (bitsI_lt _ (in64s _ hnegok)) hi, bitsI_test _ (in64s c hok), bitsI_test _ (in64s _ hnegok), bitsI_test _ (in64s _ hok2)]
        rw [Bool.eq_iff_iff, Bool.and_eq_true, Bool.not_eq_true', List.contains_iff_mem, List.contains_iff_mem]
        constructor
        · rintro ⟨h1, h2⟩
          obtain ⟨x, hx, e⟩ := List.mem_map.1 h1
          refine List.mem_map.2 ⟨x, List.mem_filter.2 ⟨hx, ?_⟩, e⟩
          rw [← e, mem _ hnegok x (hok x hx)] at h2
          cases hm : out.contains (-x) with
          | false => rfl
          | true =>
            have : x ∈ negP out := List.mem_map.2 ⟨-x, List.contains_iff_mem.1 hm, by omega⟩
            rw [List.contains_iff_mem.2 this] at h2
            cases h2
        · intro h1
          obtain ⟨x, hx, e⟩ := List.mem_map.1 h1
          obtain ⟨h3, h4⟩ := List.mem_filter.1 hx
          refine ⟨List.mem_map.2 ⟨x, h3, e⟩, ?_⟩
          rw [← e, mem _ hnegok x (hok x h3)]
          cases hm : (negP out).contains x with
          | false => rfl
          | true =>
            obtain ⟨y, hy, e2⟩ := List.mem_map.1 (List.contains_iff_mem.1 hm)
            have : -x = y := by omega
            rw [this, List.contains_iff_mem.2 hy] at h4
            cases h4
      · have big : ∀ v, v < 18446744073709551616 → v.testBit i = false := fun v hv => Nat.testBit_lt_two_pow (Nat.lt_of_lt_of_le hv (Nat.pow_le_pow_right (n := 2) (i := 64) (by omega) (by omega)))
        rw [big _ (ndn_lt _ _ (bitsI_lt _ (in64s c hok))), big _ (bitsI_lt _ (in64s _ hok2))]
    have a3 : onz 64 (bitsI ((openL out c).map litN)) = (openL out c).length := by
      have hok2 : ∀ x, x ∈ openL out c → litOk n x = true := fun x hx => hok x (List.mem_filter.1 hx).1
      rw [cnt_bits _ ?_ (in64s _ hok2), List.length_map]
      have hnd2 : (openL out c).Nodup := hnd.filter _
      generalize openL out c = l at *
      clear a1 a2 ih
      induction l with
      | nil => exact List.nodup_nil
      | cons x l ih2 =>
        obtain ⟨q1, q2⟩ := List.nodup_cons.1 hnd2
        rw [List.map_cons, List.nodup_cons]
        refine ⟨fun hm => ?_, ih2 (fun y hy => hok2 y (by simp [hy])) q2⟩
        obtain ⟨y, hy, e⟩ := List.mem_map.1 hm
        rw [litN_inj hn (hok2 y (by simp [hy])) (hok2 x (by simp)) e] at hy
        exact q1 hy
    show (if bitsI (c.map litN) &&& bitsI (out.map litN) = 0 ∧ onz 64 (ndn (bitsI (c.map litN)) (bitsI ((negP out).map litN))) ≤ 1 then some (ndn (bitsI (c.map litN)) (bitsI ((negP out).map litN))) else ffc _ _ (setsL L)) = _
    rw [a2, a3, ih, forced]
    by_cases hh : metC out c = false ∧ (openL out c).length ≤ 1
    · rw [if_pos hh, if_pos ⟨a1.2 hh.1, hh.2⟩]
      rfl
    · rw [if_neg hh, if_neg (fun h => hh ⟨a1.1 h.1, h.2⟩)]
end Go.Proofs.YtjlelekkkbjcgaaDoor.Ab


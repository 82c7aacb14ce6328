/- UprOne: UprP UprI UprJ. -/
import Derived.Test.YtlhdagpimcafaaaDoorCntM
import Derived.Test.YtlhdagpimcafaaaDoorLit
import Derived.Test.YtlhdagpimcafaaaDoorElt
import Derived.Test.YtlhdagpimcafaaaDoorSelC
import Derived.Test.YtlhdagpimcafaaaDoorAbWr
/- Chapter 21: unit propagation as a plain function, and the number of ones in a word. -/
open Go Go.Proofs Go.RowKit
namespace Go.Proofs.YtlhdagpimcafaaaDoor.Ab
set_option linter.unusedSimpArgs false
set_option linter.unusedVariables false
set_option maxRecDepth 100000
/-- a number from its bytes -/
def ofB : List Nat → Nat
  | [] => 0
  | b :: l => 256 * ofB l + b
def pwm (c : Nat) : Nat → Nat
  | 0 => 0
  | k + 1 => 256 * pwm c k + c
theorem and_split (a b m n : Nat) (ha : a < 256) (hm : m < 256) : (256 * b + a) &&& (256 * n + m) = 256 * (b &&& n) + (a &&& m) := by
  have h3 : a &&& m < 256 := Nat.lt_of_le_of_lt Nat.and_le_left ha
  apply Nat.eq_of_testBit_eq
  intro j
  rw [Nat.testBit_and]
  have e : (256 : Nat) = 2 ^ 8 := rfl
  rw [e, Nat.testBit_two_pow_mul_add b (by omega : a < 2 ^ 8), Nat.testBit_two_pow_mul_add n (by omega : m < 2 ^ 8), Nat.testBit_two_pow_mul_add (b &&& n) (by omega : a &&& m < 2 ^ 8)]
  split <;> rw [Nat.testBit_and]
def pw1 (b : Nat) : Nat := (b / 2 &&& 85) + (b &&& 85)
def pw2 (b : Nat) : Nat := (b / 4 &&& 51) + (b &&& 51)
def pw3 (b : Nat) : Nat := (b / 16 + b) &&& 15
theorem lowA : ∀ b : _root_.Fin 256, ∀ y : _root_.Fin 2, (128 * y.val + b.val / 2) &&& 85 = b.val / 2 &&& 85 := by decide +kernel
theorem lowB : ∀ b : _root_.Fin 256, ∀ y : _root_.Fin 4, (64 * y.val + b.val / 4) &&& 51 = b.val / 4 &&& 51 := by decide +kernel
theorem pws1 : ∀ (l : List Nat), (∀ b, b ∈ l → b < 256) → (ofB l / 2 &&& pwm 85 l.length) + (ofB l &&& pwm 85 l.length) = ofB (l.map pw1)
  | [], _ => rfl
  | b :: l, h => by
    have hb := h b (by simp)
    have ih := pws1 l (fun c hc => h c (by simp [hc]))
    have e : (256 * ofB l + b) / 2 = 256 * (ofB l / 2) + (128 * (ofB l % 2) + b / 2) := by omega
    have h1 : (128 * (ofB l % 2) + b / 2) &&& 85 = b / 2 &&& 85 := lowA ⟨b, hb⟩ ⟨ofB l % 2, by omega⟩
    simp only [ofB, List.length_cons, pwm, List.map_cons, pw1]
    rw [e, and_split _ _ _ _ (by omega) (by omega), and_split _ _ _ _ hb (by omega), h1, ← ih]
    omega
theorem pws2 : ∀ (l : List Nat), (∀ b, b ∈ l → b < 256) → (ofB l / 4 &&& pwm 51 l.length) + (ofB l &&& pwm 51 l.length) = ofB (l.map pw2)
  | [], _ => rfl
  | b :: l, h => by
    have hb := h b (by simp)
    have ih := pws2 l (fun c hc => h c (by simp [hc]))
    have e : (256 * ofB l + b) / 4 = 256 * (ofB l / 4) + (64 * (ofB l % 4) + b / 4) := by omega
    have h1 : (64 * (ofB l % 4) + b / 4) &&& 51 = b / 4 &&& 51 := lowB ⟨b, hb⟩ ⟨ofB l % 4, by omega⟩
    simp only [ofB, List.length_cons, pwm, List.map_cons, pw2]
    rw [e, and_split _ _ _ _ (by omega) (by omega), and_split _ _ _ _ hb (by omega), h1, ← ih]
    omega
theorem lowC : ∀ b : _root_.Fin 69, ∀ y : _root_.Fin 5, b.val % 16 ≤ 4 → (16 * y.val + (b.val / 16 + b.val)) &&& 15 = (b.val / 16 + b.val) &&& 15 := by decide +kernel
def nib (b : Nat) : Prop := b ≤ 68 ∧ b % 16 ≤ 4
theorem pws3 : ∀ (l : List Nat), (∀ b, b ∈ l → nib b) → ((ofB l / 16 + ofB l) &&& pwm 15 l.length) = ofB (l.map pw3) ∧ ofB l % 16 ≤ 4
  | [], _ => ⟨rfl, by simp [ofB]⟩
  | b :: l, h => by
    have hb := h b (by simp)
    unfold nib at hb
    have ih := pws3 l (fun c hc => h c (by simp [hc]))
    have e : (256 * ofB l + b) / 16 + (256 * ofB l + b) = 256 * (ofB l / 16 + ofB l) + (16 * (ofB l % 16) + (b / 16 + b)) := by omega
    have h1 : (16 * (ofB l % 16) + (b / 16 + b)) &&& 15 = (b / 16 + b) &&& 15 := lowC ⟨b, by omega⟩ ⟨ofB l % 16, by omega⟩ hb.2
    simp only [ofB, List.length_cons, pwm, List.map_cons, pw3]
    rw [e, and_split _ _ _ _ (by omega) (by omega), h1, ← ih.1]
    omega
def pwp8 (b : Nat) : Nat := pw3 (pw2 (pw1 b))
def onz (n b : Nat) : Nat := (List.range n).countP fun i => b.testBit i
theorem byte_ok : ∀ b : _root_.Fin 256, pw1 b.val < 256 ∧ pw2 (pw1 b.val) ≤ 68 ∧ pw2 (pw1 b.val) % 16 ≤ 4 ∧ pw3 (pw2 (pw1 b.val)) = onz 8 b.val ∧ onz 8 b.val ≤ 8 := by decide +kernel
theorem onz_split (n b y : Nat) (hb : b < 256) : onz (8 + n) (256 * y + b) = onz 8 b + onz n y := by
  unfold onz
  rw [List.range_add, List.countP_append, List.countP_map]
  congr 1
  · apply List.countP_congr
    intro i hi
    rw [List.mem_range] at hi
    have e : (256 : Nat) = 2 ^ 8 := rfl
    rw [e, Nat.testBit_two_pow_mul_add y (by omega : b < 2 ^ 8), if_pos hi]
  · apply List.countP_congr
    intro i hi
    have e : (256 : Nat) = 2 ^ 8 := rfl
    simp only [Function.comp]
    rw [e, Nat.testBit_two_pow_mul_add y (by omega : b < 2 ^ 8), if_neg (by omega), Nat.add_sub_cancel_left]
theorem sum_cnt : ∀ (l : List Nat), (∀ b, b ∈ l → b < 256) → (l.map pwp8).sum = onz (8 * l.length) (ofB l)
  | [], _ => rfl
  | b :: l, h => by
    have hb := h b (by simp)
    have ih := sum_cnt l (fun c hc => h c (by simp [hc]))
    have h1 := byte_ok ⟨b, hb⟩
    simp only [List.map_cons, List.sum_cons, List.length_cons, ofB]
    rw [show 8 * (l.length + 1) = 8 + 8 * l.length by omega, onz_split _ _ _ hb, ← ih]
    unfold pwp8
    rw [h1.2.2.2.1]
def onesN (x : Nat) : Nat :=
  let a := (x / 2 &&& 6148914691236517205) + (x &&& 6148914691236517205)
  let b := (a / 4 &&& 3689348814741910323) + (a &&& 3689348814741910323)
  let c := (b / 16 + b) &&& 1085102592571150095
  let d := (c + c / 256) % 18446744073709551616
  let e := (d + d / 65536) % 18446744073709551616
  let f := (e + e / 4294967296) % 18446744073709551616
  f % 128
theorem tail8 (p0 p1 p2 p3 p4 p5 p6 p7 : Nat) (q0 : p0 ≤ 8) (q1 : p1 ≤ 8) (q2 : p2 ≤ 8) (q3 : p3 ≤ 8) (q4 : p4 ≤ 8) (q5 : p5 ≤ 8) (q6 : p6 ≤ 8) (q7 : p7 ≤ 8) :
    (let c := 256 * (256 * (256 * (256 * (256 * (256 * (256 * (256 * 0 + p7) + p6) + p5) + p4) + p3) + p2) + p1) + p0
     let d := (c + c / 256) % 18446744073709551616
     let e := (d + d / 65536) % 18446744073709551616
     let f := (e + e / 4294967296) % 18446744073709551616
     f % 128) = p0 + (p1 + (p2 + (p3 + (p4 + (p5 + (p6 + (p7 + 0))))))) := by
  simp only
  have dv : ∀ k y b : Nat, b < k → (k * y + b) / k = y := fun k y b h => by
    rw [Nat.mul_add_div (by omega), Nat.div_eq_of_lt h, Nat.add_zero]
  generalize h6 : 256 * (256 * 0 + p7) + p6 = u6
  generalize h5 : 256 * u6 + p5 = u5
  generalize h4 : 256 * u5 + p4 = u4
  generalize h3 : 256 * u4 + p3 = u3
  generalize h2 : 256 * u3 + p2 = u2
  generalize h1 : 256 * u2 + p1 = u1
  have b6 : u6 ≤ 2056 := by omega
  have b5 : u5 ≤ 526344 := by omega
  have b4 : u4 ≤ 134744072 := by omega
  have b3 : u3 ≤ 34494482440 := by omega
  have b2 : u2 ≤ 8830587504648 := by omega
  have b1 : u1 ≤ 2260630401189896 := by omega
  rw [dv 256 u1 p0 (by omega)]
  rw [Nat.mod_eq_of_lt (by omega : 256 * u1 + p0 + u1 < 18446744073709551616)]
  -- c + c / 256 in sixteen-bit parts
  have e1 : 256 * u1 + p0 + u1 = 65536 * (256 * u3 + p2 + u3) + (256 * (p1 + p2) + (p0 + p1)) := by omega
  rw [e1]
  rw [dv 65536 (256 * u3 + p2 + u3) (256 * (p1 + p2) + (p0 + p1)) (by omega)]
  rw [Nat.mod_eq_of_lt (by omega : 65536 * (256 * u3 + p2 + u3) + (256 * (p1 + p2) + (p0 + p1)) + (256 * u3 + p2 + u3) < 18446744073709551616)]
  have e2 : 65536 * (256 * u3 + p2 + u3) + (256 * (p1 + p2) + (p0 + p1)) + (256 * u3 + p2 + u3) = 4294967296 * (256 * u5 + p4 + u5 + 0 + (0 : Nat)) + (65536 * (256 * (p3 + p4) + (p2 + p3)) + (256 * (p1 + p2) + (p0 + p1))) + (256 * u3 + p2 + u3) := by omega
  have e3 : 256 * u3 + p2 + u3 = 65536 * (256 * u5 + p4 + u5) + (256 * (p3 + p4) + (p2 + p3)) := by omega
  have e4 : 256 * u5 + p4 + u5 = 65536 * (256 * p7 + p6 + p7) + (256 * (p5 + p6) + (p4 + p5)) := by omega
  generalize hz : 65536 * (256 * u3 + p2 + u3) + (256 * (p1 + p2) + (p0 + p1)) + (256 * u3 + p2 + u3) = z at *
  have e5 : z = 4294967296 * ((256 * u5 + p4 + u5) + (256 * p7 + p6 + p7)) + (65536 * ((256 * (p3 + p4) + (p2 + p3)) + (256 * (p5 + p6) + (p4 + p5))) + ((256 * (p1 + p2) + (p0 + p1)) + (256 * (p3 + p4) + (p2 + p3)))) := by omega
  rw [e5]
  rw [dv 4294967296 ((256 * u5 + p4 + u5) + (256 * p7 + p6 + p7)) _ (by omega)]
  clear hz e1 e2 e5
  generalize 256 * p7 + p6 + p7 = y at *
  generalize 256 * u5 + p4 + u5 = v at *
  omega
theorem ones_eq (x : Nat) (hx : x < 18446744073709551616) : onesN x = onz 64 x := by
  let l : List Nat := [x % 256, x / 256 % 256, x / 65536 % 256, x / 16777216 % 256, x / 4294967296 % 256, x / 1099511627776 % 256, x / 281474976710656 % 256, x / 72057594037927936 % 256]
  have hl : ∀ b, b ∈ l → b < 256 := by
    intro b hb
    simp only [l, List.mem_cons, List.not_mem_nil, or_false] at hb
    omega
  have ho : ofB l = x := by
    simp only [l, ofB]
    omega
  have hb := fun b h => byte_ok ⟨b, hl b h⟩
  have e1 := pws1 l hl
  have e2 := pws2 (l.map pw1) (by intro b h; obtain ⟨c, hc, rfl⟩ := List.mem_map.1 h; exact (hb c hc).1)
  have e3 := (pws3 ((l.map pw1).map pw2) (by intro b h; obtain ⟨d, hd, rfl⟩ := List.mem_map.1 h; obtain ⟨c, hc, rfl⟩ := List.mem_map.1 hd; exact ⟨(hb c hc).2.1, (hb c hc).2.2.1⟩)).1
  have e4 := sum_cnt l hl
  have e5 : l.length = 8 := rfl
  rw [List.length_map] at e2 e3
  rw [List.length_map] at e3
  rw [e5] at e1 e2 e3 e4
  rw [show pwm 85 8 = 6148914691236517205 by decide] at e1
  rw [show pwm 51 8 = 3689348814741910323 by decide] at e2
  rw [show pwm 15 8 = 1085102592571150095 by decide] at e3
  unfold onesN
  rw [ho] at e1
  simp only
  rw [e1, e2, e3]
  rw [ho] at e4
  rw [← e4]
  have q : ∀ b, b ∈ l → pwp8 b ≤ 8 := fun b h => by have := hb b h; unfold pwp8; rw [this.2.2.2.1]; exact this.2.2.2.2
  simp only [l, List.map_cons, List.map_nil, ofB, List.sum_cons, List.sum_nil]
  have q0 := q _ (show x % 256 ∈ l by simp [l])
  have q1 := q _ (show x / 256 % 256 ∈ l by simp [l])
  have q2 := q _ (show x / 65536 % 256 ∈ l by simp [l])
  have q3 := q _ (show x / 16777216 % 256 ∈ l by simp [l])
  have q4 := q _ (show x / 4294967296 % 256 ∈ l by simp [l])
  have q5 := q _ (show x / 1099511627776 % 256 ∈ l by simp [l])
  have q6 := q _ (show x / 281474976710656 % 256 ∈ l by simp [l])
  have q7 := q _ (show x / 72057594037927936 % 256 ∈ l by simp [l])
  unfold pwp8 at *
  generalize pw3 (pw2 (pw1 (x % 256))) = p0 at *
  generalize pw3 (pw2 (pw1 (x / 256 % 256))) = p1 at *
  generalize pw3 (pw2 (pw1 (x / 65536 % 256))) = p2 at *
  generalize pw3 (pw2 (pw1 (x / 16777216 % 256))) = p3 at *
  generalize pw3 (pw2 (pw1 (x / 4294967296 % 256))) = p4 at *
  generalize pw3 (pw2 (pw1 (x / 1099511627776 % 256))) = p5 at *
  generalize pw3 (pw2 (pw1 (x / 281474976710656 % 256))) = p6 at *
  generalize pw3 (pw2 (pw1 (x / 72057594037927936 % 256))) = p7 at *
  clear e1 e2 e3 e4 hb hl ho q
  exact tail8 p0 p1 p2 p3 p4 p5 p6 p7 q0 q1 q2 q3 q4 q5 q6 q7
/-- The word of a list of numbers has as many ones as the list has members. -/
theorem cnt_bits : ∀ (l : List Int), l.Nodup → in64 l → onz 64 (bitsI l) = l.length
  | [], _, _ => by decide +kernel
  | x :: l, hn, h => by
    obtain ⟨h1, h2⟩ := List.nodup_cons.1 hn
    have hl : in64 l := fun y hy => h y (List.mem_cons_of_mem _ hy)
    have ih := cnt_bits l h2 hl
    have hx := h x (by simp)
    unfold onz at *
    have e1 : (List.range 64).countP (fun i => (bitsI (x :: l)).testBit i) = (List.range 64).countP (fun i => decide (i = x.toNat) || (bitsI l).testBit i) := by
      apply List.countP_congr
      intro i _
      rw [bitsI_test _ h, bitsI_test _ hl, List.contains_cons]
      have : ((i : Int) == x) = decide (i = x.toNat) := by
        rw [Bool.eq_iff_iff]; simp only [beq_iff_eq, decide_eq_true_eq]; omega
      rw [this]
    have key : ∀ (r : List Nat) (p : Nat → Bool) (y : Nat), r.Nodup → p y = false → r.countP (fun i => decide (i = y) || p i) = r.countP p + (if y ∈ r then 1 else 0) := by
      intro r p y hr hp
      induction r with
      | nil => simp
      | cons z r ih2 =>
        obtain ⟨q1, q2⟩ := List.nodup_cons.1 hr
        rw [List.countP_cons, List.countP_cons, ih2 q2]
        by_cases e : z = y
        · subst e
          simp [hp, q1]
        · have e2 : ¬ y = z := fun h => e h.symm
          simp [e, e2]
          omega
    rw [e1, key _ _ _ List.nodup_range (by rw [bitsI_test _ hl]; rw [Int.toNat_of_nonneg hx.1]; simpa using h1), ih, if_pos (List.mem_range.2 (by omega))]
    rfl
theorem bits_nil_iff {l : List Int} (h : in64 l) : bitsI l = 0 ↔ l = [] := by
  constructor
  · intro e
    cases l with
    | nil => rfl
    | cons x l =>
      have h1 := bitsI_test _ h x.toNat
      have hx := h x (by simp)
      rw [e, Nat.zero_testBit, Int.toNat_of_nonneg hx.1] at h1
      simp at h1
  · rintro rfl; rfl
theorem ctz_one {x : Int} (h : 0 ≤ x ∧ x < 64) : ((Go.Lib.ctz 64 (bitsI [x]) : Nat) : Int) = x := by
  have h64 : in64 [x] := fun y hy => by rw [List.mem_singleton] at hy; subst hy; exact h
  have h1 := low_bits (x := bitsI [x]) (fun e => by have := (bits_nil_iff h64).1 e; cases this) (bitsI_lt _ h64)
  have h2 := h1.2.1
  rw [bitsI_test _ h64] at h2
  simpa using h2
/-- What is left of a clause when some literals are true. -/
def openL (out c : List Int) : List Int := c.filter fun x => !out.contains (-x)
def metC (out c : List Int) : Bool := c.any fun x => out.contains x
def forced (out : List Int) : List (List Int) → Option (List Int)
  | [] => none
  | c :: L => if metC out c = false ∧ (openL out c).length ≤ 1 then some (openL out c) else forced out L
def unitsF (L : List (List Int)) : Nat → List Int → List Int × Bool
  | 0, out => (out, false)
  | k + 1, out => match forced out L with
    | none => (out, false)
    | some [] => (out, true)
    | some (x :: _) => unitsF L k (out ++ [x])
def units (L : List (List Int)) (out : List Int) : List Int × Bool := unitsF L (L.length + 1) out
def unmet (L : List (List Int)) (out : List Int) : Nat := L.countP fun c => !metC out c
theorem forced_mem {out : List Int} : ∀ {L : List (List Int)} {o : List Int}, forced out L = some o → ∃ c, c ∈ L ∧ metC out c = false ∧ (openL out c).length ≤ 1 ∧ o = openL out c
  | [], o, h => by simp [forced] at h
  | c :: L, o, h => by
    unfold forced at h
    split at h
    · rename_i h1
      simp only [Option.some.injEq] at h
      exact ⟨c, by simp, h1.1, h1.2, h.symm⟩
    · obtain ⟨d, h1, h2⟩ := forced_mem h
      exact ⟨d, by simp [h1], h2⟩
theorem forced_one {out : List Int} {L : List (List Int)} {x : Int} {t : List Int} (h : forced out L = some (x :: t)) : t = [] ∧ ∃ c, c ∈ L ∧ metC out c = false ∧ x ∈ c := by
  obtain ⟨c, h1, h2, h3, h4⟩ := forced_mem h
  rw [← h4] at h3
  refine ⟨by cases t with | nil => rfl | cons y t => simp at h3, c, h1, h2, ?_⟩
  have : x ∈ openL out c := h4 ▸ (by simp)
  exact (List.mem_filter.1 this).1
theorem metC_grow {out c : List Int} (x : Int) (h : metC out c = true) : metC (out ++ [x]) c = true := by
  unfold metC at *
  rw [List.any_eq_true] at h ⊢
  obtain ⟨y, h1, h2⟩ := h
  exact ⟨y, h1, by simp at h2 ⊢; exact .inl h2⟩
theorem unmet_less {out : List Int} {L : List (List Int)} {x : Int} {c : List Int} (h1 : c ∈ L) (h2 : metC out c = false) (h3 : x ∈ c) : unmet L (out ++ [x]) < unmet L out := by
  unfold unmet
  induction L with
  | nil => simp at h1
  | cons d L ih =>
    rw [List.countP_cons, List.countP_cons]
    have hle : L.countP (fun c => !metC (out ++ [x]) c) ≤ L.countP (fun c => !metC out c) := by
      apply List.countP_mono_left
      intro e _ he
      cases hm : metC out e with
      | false => rfl
      | true => rw [metC_grow x hm] at he; simp at he
    rcases List.mem_cons.1 h1 with rfl | h1
    · have h4 : metC (out ++ [x]) c = true := by
        unfold metC
        exact List.any_eq_true.2 ⟨x, h3, by simp⟩
      rw [h2, h4]
      simp
      omega
    · have := ih h1
      cases hm : metC out d with
      | false => cases metC (out ++ [x]) d <;> simp <;> omega
      | true => rw [metC_grow x hm]; simp; exact this
/-- One step of the loop, with what is left of its measure. -/
theorem units_step {L : List (List Int)} {out : List Int} {k : Nat} (hk : unmet L out < k) {x : Int} {t : List Int} (h : forced out L = some (x :: t)) : ∃ k', k = k' + 1 ∧ unmet L (out ++ [x]) < k' ∧ unitsF L k out = unitsF L k' (out ++ [x]) := by
  obtain ⟨ht, c, h1, h2, h3⟩ := forced_one h
  have h4 := unmet_less (x := x) h1 h2 h3
  obtain ⟨k', rfl⟩ : ∃ k', k = k' + 1 := ⟨k - 1, by omega⟩
  exact ⟨k', rfl, by omega, by rw [unitsF, h]⟩
theorem units_none {L : List (List Int)} {out : List Int} {k : Nat} (hk : unmet L out < k) (h : forced out L = none) : unitsF L k out = (out, false) := by
  obtain ⟨k', rfl⟩ : ∃ k', k = k' + 1 := ⟨k - 1, by omega⟩
  rw [unitsF, h]
theorem units_zero {L : List (List Int)} {out : List Int} {k : Nat} (hk : unmet L out < k) (h : forced out L = some []) : unitsF L k out = (out, true) := by
  obtain ⟨k', rfl⟩ : ∃ k', k = k' + 1 := ⟨k - 1, by omega⟩
  rw [unitsF, h]
theorem unmet_start (L : List (List Int)) (out : List Int) : unmet L out < L.length + 1 := Nat.lt_succ_of_le List.countP_le_length
theorem forced_app {out : List Int} : ∀ {L L' : List (List Int)}, forced out L = none → forced out (L ++ L') = forced out L'
  | [], L', _ => rfl
  | c :: L, L', h => by
    unfold forced at h
    rw [List.cons_append, forced]
    split at h
    · cases h
    · rename_i h1
      rw [if_neg h1]
      exact forced_app h
/-- Of the bits: what is open of the first clause that forces. -/
def ffc (T F : Nat) : List Nat → Option Nat
  | [] => none
  | c :: CS => if c &&& T = 0 ∧ onz 64 (ndn c F) ≤ 1 then some (ndn c F) else ffc T F CS
theorem litN_inj {n x y : Int} (hn : n ≤ 14) (hx : litOk n x = true) (hy : litOk n y = true) (h : litN x = litN y) : x = y := by
  unfold litOk at hx hy
  simp only [Bool.and_eq_true, decide_eq_true_eq] at hx hy
  unfold litN foL at h
  split at h <;> split at h <;> (try split at h) <;> (try split at h) <;> omega
theorem litOk_neg {n x : Int} (h : litOk n x = true) : litOk n (-x) = true := by
  unfold litOk at *
  simp only [Bool.and_eq_true, decide_eq_true_eq] at *
  omega
def negP (l : List Int) : List Int := l.map fun x => -x
theorem negL_eq {n : Int} (hn : n ≤ 14) {l : List Int} (h : ∀ x, x ∈ l → litOk n x = true) : negL l = negP l := by
  unfold negL negP
  apply List.map_congr_left
  intro x hx
  have := h x hx
  unfold litOk at this
  simp only [Bool.and_eq_true, decide_eq_true_eq] at this
  unfold wrap64
  omega
theorem clauseFrom_neg (n : Int) : ∀ (l ps : List Int), clauseFrom n ps l = true → clauseFrom n (negP ps) (negP l) = true
  | [], ps, _ => rfl
  | x :: l, ps, h => by
    have fo : ∀ {y : Int}, foL (-y) = foL y ∨ y = 0 := fun {y} => by
      unfold foL
      split <;> split <;> omega
    unfold clauseFrom at h
    simp only [Bool.and_eq_true] at h
    have ih := clauseFrom_neg n l (ps ++ [x]) h.2.2
    have h0 : x ≠ 0 := by
      have := h.1
      unfold litOk at this
      simp only [Bool.and_eq_true, decide_eq_true_eq] at this
      exact this.1
    have hf : foL (-x) = foL x := fo.resolve_right h0
    show (litOk n (-x) && ((negP ps).all (fun y => decide (foL y ≠ foL (-x))) && clauseFrom n (negP ps ++ [-x]) (negP l))) = true
    rw [litOk_neg h.1, Bool.true_and, hf]
    have e : negP ps ++ [-x] = negP (ps ++ [x]) := by unfold negP; rw [List.map_append]; rfl
    rw [e, ih, Bool.and_true]
    have h3 := h.2.1
    rw [List.all_eq_true] at h3 ⊢
    intro y hy
    unfold negP at hy
    obtain ⟨z, hz, rfl⟩ := List.mem_map.1 hy
    have h4 := h3 z hz
    rcases fo (y := z) with e | e
    · rw [e]; exact h4
    · subst e
      exact h4
theorem clauseOk_neg {n : Int} {l : List Int} (h : clauseOk n l = true) : clauseOk n (negP l) = true := clauseFrom_neg n l [] h
theorem clauseFrom_nodup {n : Int} : ∀ (l ps : List Int), clauseFrom n ps l = true → l.Nodup ∧ ∀ x, x ∈ l → x ∉ ps
  | [], ps, _ => ⟨List.nodup_nil, fun x h => by simp at h⟩
  | x :: l, ps, h => by
    unfold clauseFrom at h
    simp only [Bool.and_eq_true, List.all_eq_true, decide_eq_true_eq] at h
    obtain ⟨h1, h2⟩ := clauseFrom_nodup l (ps ++ [x]) h.2.2
    refine ⟨List.nodup_cons.2 ⟨fun hx => h2 x hx (by simp), h1⟩, fun y hy hp => ?_⟩
    rcases List.mem_cons.1 hy with rfl | hy
    · exact h.2.1 y hp rfl
    · exact h2 y hy (by simp [hp])
theorem ffc_eq {n : Int} (hn : n ≤ 14) {out : List Int} (ho : ∀ x, x ∈ out → litOk n x = true) : ∀ {L : List (List Int)}, (∀ c, c ∈ L → clauseOk n c = true) →
    ffc (bitsI (out.map litN)) (bitsI ((negP out).map litN)) (setsL L) = (forced out L).map fun o => bitsI (o.map litN)
  | [], _ => rfl
  | c :: L, h => by
    have hc := h c (by simp)
    have hok := clause_ok hc
    have hnd := (clauseFrom_nodup c [] hc).1
    have ih := ffc_eq hn ho (L := L) (fun d hd => h d (by simp [hd]))
    have in64s : ∀ l : List Int, (∀ x, x ∈ l → litOk n x = true) → in64 (l.map litN) := fun l hl x hx => by
      obtain ⟨y, hy, rfl⟩ := List.mem_map.1 hx
      exact litN_in hn (hl y hy)
    have hnegok : ∀ x, x ∈ negP out → litOk n x = true := fun x hx => by
      obtain ⟨y, hy, rfl⟩ := List.mem_map.1 hx
      exact litOk_neg (ho y hy)
    have mem : ∀ (l : List Int), (∀ x, x ∈ l → litOk n x = true) → ∀ x, litOk n x = true → (l.map litN).contains (litN x) = l.contains x := fun l hl x hx => by
      rw [Bool.eq_iff_iff, List.contains_iff_mem, List.contains_iff_mem]
      constructor
      · intro h
        obtain ⟨y, hy, e⟩ := List.mem_map.1 h
        rw [← litN_inj hn (hl y hy) hx e]
        exact hy
      · exact fun h => List.mem_map.2 ⟨x, h, rfl⟩
    have a1 : (bitsI (c.map litN) &&& bitsI (out.map litN) = 0) ↔ metC out c = false := by
      have h1 := and_bits (b := bitsI (c.map litN)) (in64s out ho)
      have h2 : (out.map litN).any (fun x => (bitsI (c.map litN)).testBit x.toNat) = metC out c := by
        rw [Bool.eq_iff_iff, List.any_eq_true]
        unfold metC
        rw [List.any_eq_true]
        constructor
        · rintro ⟨x, hx, hb⟩
          obtain ⟨y, hy, rfl⟩ := List.mem_map.1 hx
          have hy0 := litN_in hn (ho y hy)
          rw [bitsI_test _ (in64s c hok), Int.toNat_of_nonneg hy0.1, mem c hok y (ho y hy)] at hb
          exact ⟨y, List.contains_iff_mem.1 hb, List.contains_iff_mem.2 hy⟩
        · rintro ⟨y, hy, hb⟩
          have hyo := List.contains_iff_mem.1 hb
          have hy0 := litN_in hn (ho y hyo)
          exact ⟨litN y, List.mem_map.2 ⟨y, hyo, rfl⟩, by rw [bitsI_test _ (in64s c hok), Int.toNat_of_nonneg hy0.1, mem c hok y (ho y hyo)]; exact List.contains_iff_mem.2 hy⟩
      rw [h2] at h1
      rw [← h1]
      simp
    have a2 : ndn (bitsI (c.map litN)) (bitsI ((negP out).map litN)) = bitsI ((openL out c).map litN) := by
      have hok2 : ∀ x, x ∈ openL out c → litOk n x = true := fun x hx => hok x (List.mem_filter.1 hx).1
      apply Nat.eq_of_testBit_eq
      intro i
      by_cases hi : i < 64
      · rw [ndn_test _ _ _ (bitsI_lt _ (in64s _ hnegok)) hi, bitsI_test _ (in64s c hok), bitsI_test _ (in64s _ hnegok), bitsI_test _ (in64s _ hok2)]
        rw [Bool.eq_iff_iff, Bool.and_eq_true, Bool.not_eq_true', List.contains_iff_mem, List.contains_iff_mem]
        constructor
        · rintro ⟨h1, h2⟩
          obtain ⟨x, hx, e⟩ := List.mem_map.1 h1
          refine List.mem_map.2 ⟨x, List.mem_filter.2 ⟨hx, ?_⟩, e⟩
          rw [← e, mem _ hnegok x (hok x hx)] at h2
          cases hm : out.contains (-x) with
          | false => rfl
          | true =>
            have : x ∈ negP out := List.mem_map.2 ⟨-x, List.contains_iff_mem.1 hm, by omega⟩
            rw [List.contains_iff_mem.2 this] at h2
            cases h2
        · intro h1
          obtain ⟨x, hx, e⟩ := List.mem_map.1 h1
          obtain ⟨h3, h4⟩ := List.mem_filter.1 hx
          refine ⟨List.mem_map.2 ⟨x, h3, e⟩, ?_⟩
          rw [← e, mem _ hnegok x (hok x h3)]
          cases hm : (negP out).contains x with
          | false => rfl
          | true =>
            obtain ⟨y, hy, e2⟩ := List.mem_map.1 (List.contains_iff_mem.1 hm)
            have : -x = y := by omega
            rw [this, List.contains_iff_mem.2 hy] at h4
            cases h4
      · have big : ∀ v, v < 18446744073709551616 → v.testBit i = false := fun v hv => Nat.testBit_lt_two_pow (Nat.lt_of_lt_of_le hv (Nat.pow_le_pow_right (n := 2) (i := 64) (by omega) (by omega)))
        rw [big _ (ndn_lt _ _ (bitsI_lt _ (in64s c hok))), big _ (bitsI_lt _ (in64s _ hok2))]
    have a3 : onz 64 (bitsI ((openL out c).map litN)) = (openL out c).length := by
      have hok2 : ∀ x, x ∈ openL out c → litOk n x = true := fun x hx => hok x (List.mem_filter.1 hx).1
      rw [cnt_bits _ ?_ (in64s _ hok2), List.length_map]
      have hnd2 : (openL out c).Nodup := hnd.filter _
      generalize openL out c = l at *
      clear a1 a2 ih
      induction l with
      | nil => exact List.nodup_nil
      | cons x l ih2 =>
        obtain ⟨q1, q2⟩ := List.nodup_cons.1 hnd2
        rw [List.map_cons, List.nodup_cons]
        refine ⟨fun hm => ?_, ih2 (fun y hy => hok2 y (by simp [hy])) q2⟩
        obtain ⟨y, hy, e⟩ := List.mem_map.1 hm
        rw [litN_inj hn (hok2 y (by simp [hy])) (hok2 x (by simp)) e] at hy
        exact q1 hy
    show (if bitsI (c.map litN) &&& bitsI (out.map litN) = 0 ∧ onz 64 (ndn (bitsI (c.map litN)) (bitsI ((negP out).map litN))) ≤ 1 then some (ndn (bitsI (c.map litN)) (bitsI ((negP out).map litN))) else ffc _ _ (setsL L)) = _
    rw [a2, a3, ih, forced]
    by_cases hh : metC out c = false ∧ (openL out c).length ≤ 1
    · rw [if_pos hh, if_pos ⟨a1.2 hh.1, hh.2⟩]
      rfl
    · rw [if_neg hh, if_neg (fun h => hh ⟨a1.1 h.1, h.2⟩)]
end Go.Proofs.YtlhdagpimcafaaaDoor.Ab

/- Chapter 21: unit propagation, in the program. -/
open Go Go.Proofs Go.RowKit
namespace Go.Proofs.YtlhdagpimcafaaaDoor.Ab
set_option linter.unusedSimpArgs false
set_option linter.unusedVariables false
set_option maxRecDepth 100000
theorem addU (a b : Nat) (h : a + b < 18446744073709551616) : IntKind.u64.wrap ((a : Int) + (b : Int)) = ((a + b : Nat) : Int) := by rw [wrapU _ (by omega) (by omega)]; omega
theorem bShrU (a p q : Nat) (hp : p < 64) (hq : 2 ^ p = q) : (a : Int).fdiv (2 ^ min p IntKind.u64.bits) = ((a / q : Nat) : Int) := by
  rw [bShr a p hp, Nat.shiftRight_eq_div_pow, hq]
theorem ones_a (x : Nat) (hx : x < 18446744073709551616) : AC Tryd.prog 72 [.d (.v (.int .u64 (x : Int)))] (.d (.v (.int .i64 (onz 64 x : Nat)))) := by
  have hf := ones_eq x hx
  rw [← hf]
  unfold onesN
  simp only
  have a1 : IntKind.u64.wrap ((BitVec.ofInt IntKind.u64.bits ((x / 2 : Nat) : Int) &&& BitVec.ofInt IntKind.u64.bits 6148914691236517205).toNat : Int) = (((x / 2) &&& 6148914691236517205 : Nat) : Int) := bAnd (x / 2) 6148914691236517205 (by omega) (by omega)
  have a2 : IntKind.u64.wrap ((BitVec.ofInt IntKind.u64.bits ((x : Nat) : Int) &&& BitVec.ofInt IntKind.u64.bits 6148914691236517205).toNat : Int) = ((x &&& 6148914691236517205 : Nat) : Int) := bAnd x 6148914691236517205 hx (by omega)
  have l1 : x / 2 &&& 6148914691236517205 ≤ 6148914691236517205 := Nat.and_le_right
  have l2 : x &&& 6148914691236517205 ≤ 6148914691236517205 := Nat.and_le_right
  have s1 := bShrU x 1 2 (by omega) rfl
  have d1 := addU (x / 2 &&& 6148914691236517205) (x &&& 6148914691236517205) (by omega)
  generalize hy : (x / 2 &&& 6148914691236517205) + (x &&& 6148914691236517205) = y at *
  have hy2 : y < 18446744073709551616 := by omega
  have a3 : IntKind.u64.wrap ((BitVec.ofInt IntKind.u64.bits ((y / 4 : Nat) : Int) &&& BitVec.ofInt IntKind.u64.bits 3689348814741910323).toNat : Int) = (((y / 4) &&& 3689348814741910323 : Nat) : Int) := bAnd (y / 4) 3689348814741910323 (by omega) (by omega)
  have a4 : IntKind.u64.wrap ((BitVec.ofInt IntKind.u64.bits ((y : Nat) : Int) &&& BitVec.ofInt IntKind.u64.bits 3689348814741910323).toNat : Int) = ((y &&& 3689348814741910323 : Nat) : Int) := bAnd y 3689348814741910323 hy2 (by omega)
  have l3 : y / 4 &&& 3689348814741910323 ≤ 3689348814741910323 := Nat.and_le_right
  have l4 : y &&& 3689348814741910323 ≤ 3689348814741910323 := Nat.and_le_right
  have s2 := bShrU y 2 4 (by omega) rfl
  have d2 := addU (y / 4 &&& 3689348814741910323) (y &&& 3689348814741910323) (by omega)
  generalize hz : (y / 4 &&& 3689348814741910323) + (y &&& 3689348814741910323) = z at *
  have hz2 : z ≤ 7378697629483820646 := by omega
  have s3 := bShrU z 4 16 (by omega) rfl
  have d3 := addU (z / 16) z (by omega)
  have a5 : IntKind.u64.wrap ((BitVec.ofInt IntKind.u64.bits ((z / 16 + z : Nat) : Int) &&& BitVec.ofInt IntKind.u64.bits 1085102592571150095).toNat : Int) = (((z / 16 + z) &&& 1085102592571150095 : Nat) : Int) := bAnd (z / 16 + z) 1085102592571150095 (by omega) (by omega)
  have l5 : (z / 16 + z) &&& 1085102592571150095 ≤ 1085102592571150095 := Nat.and_le_right
  generalize (z / 16 + z) &&& 1085102592571150095 = c at *
  have s4 := bShrU c 8 256 (by omega) rfl
  have d4 := addU c (c / 256) (by omega)
  have e4 : (c + c / 256) % 18446744073709551616 = c + c / 256 := Nat.mod_eq_of_lt (by omega)
  rw [e4]
  generalize hd : c + c / 256 = d at *
  have hd2 : d ≤ 1089341274690803767 := by omega
  have s5 := bShrU d 16 65536 (by omega) rfl
  have d5 := addU d (d / 65536) (by omega)
  have e5 : (d + d / 65536) % 18446744073709551616 = d + d / 65536 := Nat.mod_eq_of_lt (by omega)
  rw [e5]
  generalize he : d + d / 65536 = e at *
  have he2 : e ≤ 1089357896838204799 := by omega
  have s6 := bShrU e 32 4294967296 (by omega) rfl
  have d6 := addU e (e / 4294967296) (by omega)
  have e6 : (e + e / 4294967296) % 18446744073709551616 = e + e / 4294967296 := Nat.mod_eq_of_lt (by omega)
  rw [e6]
  generalize hg : e + e / 4294967296 = g at *
  have hg2 : g < 9223372036854775808 := by omega
  have w7 : IntKind.i64.wrap (g : Int) = (g : Int) := by rw [IntKind.wrap_i64]; omega
  have a7 : IntKind.i64.wrap ((BitVec.ofInt IntKind.i64.bits (g : Int) &&& BitVec.ofInt IntKind.i64.bits 127).toNat : Int) = ((g % 128 : Nat) : Int) := by
    rw [← show g &&& 127 = g % 128 from Nat.and_two_pow_sub_one_eq_mod g 7]
    exact bAndI g 127 hg2 (by omega)
  have hu : Tryd.prog.underlying 71 = some (.int .u64) := by kernel_rfl
  refine AC.intro Tryd.func72 rfl (by decide) (by simp [S.res, S.ress]) (by simp [S.os, S.oss]) (by simp [S.wfs, S.wf, dbS]) (by simp [Tryd.f72]) ?_; rw [Tryd.ntmps72]
  repeat (first | refine aq ?_ | refine ap (by rfl : apartB 0 _ _ = true) ?_ | refine ak ?_ | refine ab ?_ | refine al ?_ | ((first | refine ar ?_ | refine ad ty_mix (by kernel_rfl) ?_ | refine ac ?_ | refine ae ?_ | with_reducible refine Later.mk ?_); simp only [evD, evL, iteL, St.said, St.asked, evStep, evOp, evP, St.init, St.app, srcStep, kill, setMany, loadS, fieldS, buildS, toks, Fin, upd_app, Array.isEmpty, Nat.reduceLT, Nat.reduceAdd, Nat.reduceMul, Nat.reduceLeDiff, Nat.reduceSub, Nat.reduceEqDiff, reduceCtorEq, reduceIte, ↓Opt.is, ↓Opt.no, ↓Asks.yes, ↓Asks.no, tyL, encL, Int.reduceLT, Int.reduceToNat, s1, a1, a2, d1, s2, a3, a4, d2, s3, d3, a5, s4, d4, s5, d5, s6, d6, hu, w7, a7, asB]))
  refine Ab.ret ?_; simp only [evD, evL, iteL, St.said, St.asked, evStep, evOp, evP, St.init, St.app, srcStep, kill, setMany, loadS, fieldS, buildS, toks, Fin, upd_app, Array.isEmpty, Nat.reduceLT, Nat.reduceAdd, Nat.reduceMul, Nat.reduceLeDiff, Nat.reduceSub, Nat.reduceEqDiff, reduceCtorEq, reduceIte, ↓Opt.is, ↓Opt.no, ↓Asks.yes, ↓Asks.no, tyL, List.nodup_cons, encL, Tryd.f72]
theorem onesU_a (x : Nat) (hx : x < 18446744073709551616) : AC Tryd.prog 68 [.d (.v (.int .u64 (x : Int)))] (.d (.v (.int .i64 (onz 64 x : Nat)))) := by
  have hc := ones_a x hx
  refine AC.intro Tryd.func68 rfl (by decide) (by simp [S.res, S.ress]) (by simp [S.os, S.oss]) (by simp [S.wfs, S.wf, dbS]) (by simp [Tryd.f68]) ?_; rw [Tryd.ntmps68]
  repeat (first | refine aq ?_ | refine ap (by rfl : apartB 0 _ _ = true) ?_ | refine ak ?_ | refine ab ?_ | refine al ?_ | ((first | refine ar ?_ | refine ad ty_mix (by kernel_rfl) ?_ | refine ac ?_ | refine ae ?_ | with_reducible refine Later.mk ?_); simp only [evD, evL, iteL, St.said, St.asked, evStep, evOp, evP, St.init, St.app, srcStep, kill, setMany, loadS, fieldS, buildS, toks, Fin, upd_app, Array.isEmpty, Nat.reduceLT, Nat.reduceAdd, Nat.reduceMul, Nat.reduceLeDiff, Nat.reduceSub, Nat.reduceEqDiff, reduceCtorEq, reduceIte, ↓Opt.is, ↓Opt.no, ↓Asks.yes, ↓Asks.no, tyL, encL, asB]))
  refine ⟨_, hc, ?_⟩; (repeat (first | refine ap (by rfl : apartB 0 _ _ = true) ?_ | refine ap (by simp [osL, D.flat]) ?_)); repeat (first | refine aq ?_ | refine ap (by rfl : apartB 0 _ _ = true) ?_ | refine ak ?_ | refine ab ?_ | refine al ?_ | ((first | refine ar ?_ | refine ad ty_mix (by kernel_rfl) ?_ | refine ac ?_ | refine ae ?_ | with_reducible refine Later.mk ?_); simp only [evD, evL, iteL, St.said, St.asked, evStep, evOp, evP, St.init, St.app, srcStep, kill, setMany, loadS, fieldS, buildS, toks, Fin, upd_app, Array.isEmpty, Nat.reduceLT, Nat.reduceAdd, Nat.reduceMul, Nat.reduceLeDiff, Nat.reduceSub, Nat.reduceEqDiff, reduceCtorEq, reduceIte, ↓Opt.is, ↓Opt.no, ↓Asks.yes, ↓Asks.no, tyL, encL, asB]))
  refine Ab.ret ?_; simp only [evD, evL, iteL, St.said, St.asked, evStep, evOp, evP, St.init, St.app, srcStep, kill, setMany, loadS, fieldS, buildS, toks, Fin, upd_app, Array.isEmpty, Nat.reduceLT, Nat.reduceAdd, Nat.reduceMul, Nat.reduceLeDiff, Nat.reduceSub, Nat.reduceEqDiff, reduceCtorEq, reduceIte, ↓Opt.is, ↓Opt.no, ↓Asks.yes, ↓Asks.no, tyL, List.nodup_cons, encL, Tryd.f68]
theorem size_a (x : Nat) (hx : x < 18446744073709551616) : AC Tryd.prog 64 [.d (.v (.int .u64 (x : Int)))] (.d (.v (.int .i64 (onz 64 x : Nat)))) := by
  have hc := onesU_a x hx
  refine AC.intro Tryd.func64 rfl (by decide) (by simp [S.res, S.ress]) (by simp [S.os, S.oss]) (by simp [S.wfs, S.wf, dbS]) (by simp [Tryd.f64]) ?_; rw [Tryd.ntmps64]
  repeat (first | refine aq ?_ | refine ap (by rfl : apartB 0 _ _ = true) ?_ | refine ak ?_ | refine ab ?_ | refine al ?_ | ((first | refine ar ?_ | refine ad ty_mix (by kernel_rfl) ?_ | refine ac ?_ | refine ae ?_ | with_reducible refine Later.mk ?_); simp only [evD, evL, iteL, St.said, St.asked, evStep, evOp, evP, St.init, St.app, srcStep, kill, setMany, loadS, fieldS, buildS, toks, Fin, upd_app, Array.isEmpty, Nat.reduceLT, Nat.reduceAdd, Nat.reduceMul, Nat.reduceLeDiff, Nat.reduceSub, Nat.reduceEqDiff, reduceCtorEq, reduceIte, ↓Opt.is, ↓Opt.no, ↓Asks.yes, ↓Asks.no, tyL, encL, asB]))
  refine ⟨_, hc, ?_⟩; (repeat (first | refine ap (by rfl : apartB 0 _ _ = true) ?_ | refine ap (by simp [osL, D.flat]) ?_)); repeat (first | refine aq ?_ | refine ap (by rfl : apartB 0 _ _ = true) ?_ | refine ak ?_ | refine ab ?_ | refine al ?_ | ((first | refine ar ?_ | refine ad ty_mix (by kernel_rfl) ?_ | refine ac ?_ | refine ae ?_ | with_reducible refine Later.mk ?_); simp only [evD, evL, iteL, St.said, St.asked, evStep, evOp, evP, St.init, St.app, srcStep, kill, setMany, loadS, fieldS, buildS, toks, Fin, upd_app, Array.isEmpty, Nat.reduceLT, Nat.reduceAdd, Nat.reduceMul, Nat.reduceLeDiff, Nat.reduceSub, Nat.reduceEqDiff, reduceCtorEq, reduceIte, ↓Opt.is, ↓Opt.no, ↓Asks.yes, ↓Asks.no, tyL, encL, asB]))
  refine Ab.ret ?_; simp only [evD, evL, iteL, St.said, St.asked, evStep, evOp, evP, St.init, St.app, srcStep, kill, setMany, loadS, fieldS, buildS, toks, Fin, upd_app, Array.isEmpty, Nat.reduceLT, Nat.reduceAdd, Nat.reduceMul, Nat.reduceLeDiff, Nat.reduceSub, Nat.reduceEqDiff, reduceCtorEq, reduceIte, ↓Opt.is, ↓Opt.no, ↓Asks.yes, ↓Asks.no, tyL, List.nodup_cons, encL, Tryd.f64]
theorem litWith_a {n x : Int} (hn : n ≤ 14) (h : litOk n x = true) : AC Tryd.prog 60 [.d (.v (.int .i64 (litN x)))] (.d (.v (.int .i64 x))) := by
  unfold litOk at h
  simp only [Bool.and_eq_true, decide_eq_true_eq] at h
  have hp : AC Tryd.prog 65 [.d (.v (.int .i64 (litN x)))] (.d (.v (.int .i64 (litN x + 1)))) := by
    have hw : IntKind.i64.wrap (litN x + 1) = litN x + 1 := by
      unfold litN foL
      rw [IntKind.wrap_i64]
      split <;> (try split) <;> omega
    refine AC.intro Tryd.func65 rfl (by decide) (by simp [S.res, S.ress]) (by simp [S.os, S.oss]) (by simp [S.wfs, S.wf, dbS]) (by simp [Tryd.f65]) ?_; rw [Tryd.ntmps65]
    repeat (first | refine aq ?_ | refine ap (by rfl : apartB 0 _ _ = true) ?_ | refine ak ?_ | refine ab ?_ | refine al ?_ | ((first | refine ar ?_ | refine ad ty_mix (by kernel_rfl) ?_ | refine ac ?_ | refine ae ?_ | with_reducible refine Later.mk ?_); simp only [evD, evL, iteL, St.said, St.asked, evStep, evOp, evP, St.init, St.app, srcStep, kill, setMany, loadS, fieldS, buildS, toks, Fin, upd_app, Array.isEmpty, Nat.reduceLT, Nat.reduceAdd, Nat.reduceMul, Nat.reduceLeDiff, Nat.reduceSub, Nat.reduceEqDiff, reduceCtorEq, reduceIte, ↓Opt.is, ↓Opt.no, ↓Asks.yes, ↓Asks.no, tyL, encL, hw, asB]))
    refine Ab.ret ?_; simp only [evD, evL, iteL, St.said, St.asked, evStep, evOp, evP, St.init, St.app, srcStep, kill, setMany, loadS, fieldS, buildS, toks, Fin, upd_app, Array.isEmpty, Nat.reduceLT, Nat.reduceAdd, Nat.reduceMul, Nat.reduceLeDiff, Nat.reduceSub, Nat.reduceEqDiff, reduceCtorEq, reduceIte, ↓Opt.is, ↓Opt.no, ↓Asks.yes, ↓Asks.no, tyL, List.nodup_cons, encL, Tryd.f65]
  have hm : AC Tryd.prog 66 [.d (.v (.int .i64 (litN x - 14)))] (.d (.v (.int .i64 (-1 - (litN x - 14))))) := by
    have hw : IntKind.i64.wrap (-1 - (litN x - 14)) = -1 - (litN x - 14) := by
      unfold litN foL
      rw [IntKind.wrap_i64]
      split <;> (try split) <;> omega
    refine AC.intro Tryd.func66 rfl (by decide) (by simp [S.res, S.ress]) (by simp [S.os, S.oss]) (by simp [S.wfs, S.wf, dbS]) (by simp [Tryd.f66]) ?_; rw [Tryd.ntmps66]
    repeat (first | refine aq ?_ | refine ap (by rfl : apartB 0 _ _ = true) ?_ | refine ak ?_ | refine ab ?_ | refine al ?_ | ((first | refine ar ?_ | refine ad ty_mix (by kernel_rfl) ?_ | refine ac ?_ | refine ae ?_ | with_reducible refine Later.mk ?_); simp only [evD, evL, iteL, St.said, St.asked, evStep, evOp, evP, St.init, St.app, srcStep, kill, setMany, loadS, fieldS, buildS, toks, Fin, upd_app, Array.isEmpty, Nat.reduceLT, Nat.reduceAdd, Nat.reduceMul, Nat.reduceLeDiff, Nat.reduceSub, Nat.reduceEqDiff, reduceCtorEq, reduceIte, ↓Opt.is, ↓Opt.no, ↓Asks.yes, ↓Asks.no, tyL, encL, hw, asB]))
    refine Ab.ret ?_; simp only [evD, evL, iteL, St.said, St.asked, evStep, evOp, evP, St.init, St.app, srcStep, kill, setMany, loadS, fieldS, buildS, toks, Fin, upd_app, Array.isEmpty, Nat.reduceLT, Nat.reduceAdd, Nat.reduceMul, Nat.reduceLeDiff, Nat.reduceSub, Nat.reduceEqDiff, reduceCtorEq, reduceIte, ↓Opt.is, ↓Opt.no, ↓Asks.yes, ↓Asks.no, tyL, List.nodup_cons, encL, Tryd.f66]
  by_cases h0 : 0 < x
  · have e : litN x + 1 = x := by unfold litN foL; rw [if_pos h0, if_pos h0]; omega
    have hl : litN x < 14 := by omega
    rw [e] at hp
    refine AC.intro Tryd.func60 rfl (by decide) (by simp [S.res, S.ress]) (by simp [S.os, S.oss]) (by simp [S.wfs, S.wf, dbS]) (by simp [Tryd.f60]) ?_; rw [Tryd.ntmps60]
    repeat (first | refine aq ?_ | refine ap (by rfl : apartB 0 _ _ = true) ?_ | refine ak ?_ | refine ab ?_ | refine al ?_ | ((first | refine ar ?_ | refine ad ty_mix (by kernel_rfl) ?_ | refine ac ?_ | refine ae ?_ | with_reducible refine Later.mk ?_); simp only [evD, evL, iteL, St.said, St.asked, evStep, evOp, evP, St.init, St.app, srcStep, kill, setMany, loadS, fieldS, buildS, toks, Fin, upd_app, Array.isEmpty, Nat.reduceLT, Nat.reduceAdd, Nat.reduceMul, Nat.reduceLeDiff, Nat.reduceSub, Nat.reduceEqDiff, reduceCtorEq, reduceIte, ↓Opt.is, ↓Opt.no, ↓Asks.yes, ↓Asks.no, tyL, encL, hl, asB]))
    refine ⟨_, hp, ?_⟩; (repeat (first | refine ap (by rfl : apartB 0 _ _ = true) ?_ | refine ap (by simp [osL, D.flat]) ?_)); repeat (first | refine aq ?_ | refine ap (by rfl : apartB 0 _ _ = true) ?_ | refine ak ?_ | refine ab ?_ | refine al ?_ | ((first | refine ar ?_ | refine ad ty_mix (by kernel_rfl) ?_ | refine ac ?_ | refine ae ?_ | with_reducible refine Later.mk ?_); simp only [evD, evL, iteL, St.said, St.asked, evStep, evOp, evP, St.init, St.app, srcStep, kill, setMany, loadS, fieldS, buildS, toks, Fin, upd_app, Array.isEmpty, Nat.reduceLT, Nat.reduceAdd, Nat.reduceMul, Nat.reduceLeDiff, Nat.reduceSub, Nat.reduceEqDiff, reduceCtorEq, reduceIte, ↓Opt.is, ↓Opt.no, ↓Asks.yes, ↓Asks.no, tyL, encL, asB]))
    refine Ab.ret ?_; simp only [evD, evL, iteL, St.said, St.asked, evStep, evOp, evP, St.init, St.app, srcStep, kill, setMany, loadS, fieldS, buildS, toks, Fin, upd_app, Array.isEmpty, Nat.reduceLT, Nat.reduceAdd, Nat.reduceMul, Nat.reduceLeDiff, Nat.reduceSub, Nat.reduceEqDiff, reduceCtorEq, reduceIte, ↓Opt.is, ↓Opt.no, ↓Asks.yes, ↓Asks.no, tyL, List.nodup_cons, encL, Tryd.f60]
  · have e : -1 - (litN x - 14) = x := by unfold litN foL; rw [if_neg h0, if_neg h0]; omega
    have hl : ¬ litN x < 14 := by unfold litN foL; rw [if_neg h0, if_neg h0]; omega
    have hw : IntKind.i64.wrap (litN x - 14) = litN x - 14 := by
      unfold litN foL
      rw [IntKind.wrap_i64]
      split <;> (try split) <;> omega
    rw [e] at hm
    refine AC.intro Tryd.func60 rfl (by decide) (by simp [S.res, S.ress]) (by simp [S.os, S.oss]) (by simp [S.wfs, S.wf, dbS]) (by simp [Tryd.f60]) ?_; rw [Tryd.ntmps60]
    repeat (first | refine aq ?_ | refine ap (by rfl : apartB 0 _ _ = true) ?_ | refine ak ?_ | refine ab ?_ | refine al ?_ | ((first | refine ar ?_ | refine ad ty_mix (by kernel_rfl) ?_ | refine ac ?_ | refine ae ?_ | with_reducible refine Later.mk ?_); simp only [evD, evL, iteL, St.said, St.asked, evStep, evOp, evP, St.init, St.app, srcStep, kill, setMany, loadS, fieldS, buildS, toks, Fin, upd_app, Array.isEmpty, Nat.reduceLT, Nat.reduceAdd, Nat.reduceMul, Nat.reduceLeDiff, Nat.reduceSub, Nat.reduceEqDiff, reduceCtorEq, reduceIte, ↓Opt.is, ↓Opt.no, ↓Asks.yes, ↓Asks.no, tyL, encL, hl, hw, asB]))
    refine ⟨_, hm, ?_⟩; (repeat (first | refine ap (by rfl : apartB 0 _ _ = true) ?_ | refine ap (by simp [osL, D.flat]) ?_)); repeat (first | refine aq ?_ | refine ap (by rfl : apartB 0 _ _ = true) ?_ | refine ak ?_ | refine ab ?_ | refine al ?_ | ((first | refine ar ?_ | refine ad ty_mix (by kernel_rfl) ?_ | refine ac ?_ | refine ae ?_ | with_reducible refine Later.mk ?_); simp only [evD, evL, iteL, St.said, St.asked, evStep, evOp, evP, St.init, St.app, srcStep, kill, setMany, loadS, fieldS, buildS, toks, Fin, upd_app, Array.isEmpty, Nat.reduceLT, Nat.reduceAdd, Nat.reduceMul, Nat.reduceLeDiff, Nat.reduceSub, Nat.reduceEqDiff, reduceCtorEq, reduceIte, ↓Opt.is, ↓Opt.no, ↓Asks.yes, ↓Asks.no, tyL, encL, asB]))
    refine Ab.ret ?_; simp only [evD, evL, iteL, St.said, St.asked, evStep, evOp, evP, St.init, St.app, srcStep, kill, setMany, loadS, fieldS, buildS, toks, Fin, upd_app, Array.isEmpty, Nat.reduceLT, Nat.reduceAdd, Nat.reduceMul, Nat.reduceLeDiff, Nat.reduceSub, Nat.reduceEqDiff, reduceCtorEq, reduceIte, ↓Opt.is, ↓Opt.no, ↓Asks.yes, ↓Asks.no, tyL, List.nodup_cons, encL, Tryd.f60]
theorem ffc_at {T F : Nat} : ∀ {CS : List Nat} {i : Nat} (h : i < CS.length), (∀ j (hj : j < i), ¬ (CS[j]'(by omega) &&& T = 0 ∧ onz 64 (ndn (CS[j]'(by omega)) F) ≤ 1)) → (CS[i] &&& T = 0 ∧ onz 64 (ndn CS[i] F) ≤ 1) → ffc T F CS = some (ndn CS[i] F)
  | c :: CS, 0, h, _, hy => by unfold ffc; rw [if_pos (show c &&& T = 0 ∧ onz 64 (ndn c F) ≤ 1 from hy)]; rfl
  | c :: CS, i + 1, h, hn, hy => by
    unfold ffc
    rw [if_neg (show ¬ (c &&& T = 0 ∧ onz 64 (ndn c F) ≤ 1) from hn 0 (by omega))]
    exact ffc_at (CS := CS) (i := i) (by simpa using h) (fun j hj => hn (j + 1) (by omega)) hy
theorem ffc_no {T F : Nat} : ∀ {CS : List Nat}, (∀ j (hj : j < CS.length), ¬ (CS[j] &&& T = 0 ∧ onz 64 (ndn CS[j] F) ≤ 1)) → ffc T F CS = none
  | [], _ => rfl
  | c :: CS, hn => by
    unfold ffc
    rw [if_neg (show ¬ (c &&& T = 0 ∧ onz 64 (ndn c F) ≤ 1) from hn 0 (by simp))]
    exact ffc_no (CS := CS) (fun j hj => hn (j + 1) (by simpa using hj))
theorem firstForced_a {CS : List Nat} {T F : Nat} (hl : CS.length ≤ 2097152) (hc : ∀ c, c ∈ CS → c < 18446744073709551616) (hT : T < 18446744073709551616) (hF : F < 18446744073709551616) :
    AC Tryd.prog 59 [.d (.sl (CS.map encU)), .d (.v (.int .u64 (T : Int))), .d (.v (.int .u64 (F : Int)))] (.t [.d (.v (.int .u64 (((ffc T F CS).getD 0 : Nat) : Int))), .d (.v (.bool (ffc T F CS).isSome))]) := by
  refine AC.intro Tryd.func59 rfl (by decide) (by simp [S.res, S.ress]) (by simp [S.os, S.oss]) (by simp [S.wfs, S.wf, dbS]) (by simp [Tryd.f59]) ?_; rw [Tryd.ntmps59]
  repeat (first | refine aq ?_ | refine ap (by rfl : apartB 0 _ _ = true) ?_ | refine ak ?_ | refine ab ?_ | refine al ?_ | ((first | refine ar ?_ | refine ad ty_mix (by kernel_rfl) ?_ | refine ac ?_ | refine ae ?_ | with_reducible refine Later.mk ?_); simp only [evD, evL, iteL, St.said, St.asked, evStep, evOp, evP, St.init, St.app, srcStep, kill, setMany, loadS, fieldS, buildS, toks, Fin, upd_app, Array.isEmpty, Nat.reduceLT, Nat.reduceAdd, Nat.reduceMul, Nat.reduceLeDiff, Nat.reduceSub, Nat.reduceEqDiff, reduceCtorEq, reduceIte, ↓Opt.is, ↓Opt.no, ↓Asks.yes, ↓Asks.no, tyL, encL, asB]))
  refine Ab.loopI CS.length (fun i => ∀ j (hj : j < i) (hj2 : j < CS.length), ¬ (CS[j] &&& T = 0 ∧ onz 64 (ndn CS[j] F) ≤ 1)) (fun i => mkS 31 [(1, .d (.v (.int .u64 (T : Int)))), (2, .d (.v (.int .u64 (F : Int)))), (11, .d (.sl (CS.map encU))), (12, .d (.v (.int .i64 (CS.length : Int)))), (13, .d (.v (.int .i64 (i : Int))))] [] 100) (fun j hj => absurd hj (by omega)) ?_ ?_
  · ((first | refine Le.mk rfl ?_ ?_ | refine LeTo.mk rfl ?_ ?_) <;> simp only [evD, evL, iteL, St.said, St.asked, evStep, evOp, evP, St.init, St.app, srcStep, kill, setMany, loadS, fieldS, buildS, toks, Fin, upd_app, Array.isEmpty, Nat.reduceLT, Nat.reduceAdd, Nat.reduceMul, Nat.reduceLeDiff, Nat.reduceSub, Nat.reduceEqDiff, reduceCtorEq, reduceIte, ↓Opt.is, ↓Opt.no, ↓Asks.yes, ↓Asks.no, tyL, encL, leL, leD, ne_eq])
  intro i hi hA
  repeat (first | refine aq ?_ | refine ap (by rfl : apartB 0 _ _ = true) ?_ | refine ak ?_ | refine ab ?_ | refine al ?_ | ((first | refine ar ?_ | refine ad ty_mix (by kernel_rfl) ?_ | refine ac ?_ | refine ae ?_ | with_reducible refine Later.mk ?_); simp only [evD, evL, iteL, St.said, St.asked, evStep, evOp, evP, St.init, St.app, srcStep, kill, setMany, loadS, fieldS, buildS, toks, Fin, upd_app, Array.isEmpty, Nat.reduceLT, Nat.reduceAdd, Nat.reduceMul, Nat.reduceLeDiff, Nat.reduceSub, Nat.reduceEqDiff, reduceCtorEq, reduceIte, ↓Opt.is, ↓Opt.no, ↓Asks.yes, ↓Asks.no, tyL, encL, mkS, updl, asB]))
  refine ⟨fun h => ?_, fun h => ?_⟩
  · have h : i < CS.length := by simpa using h
    have hw := wrapN h (by omega)
    have hci := hc _ (List.getElem_mem h)
    have hg : (CS.map encU)[i]? = some [.v (.int .u64 ((CS[i] : Nat) : Int))] := by simp [h, encU]
    have hnd := bNdn CS[i] F hci hF
    have hix := intersects_a CS[i] T hci hT
    have hsz := size_a (ndn CS[i] F) (ndn_lt _ _ hci)
    have hle : ((onz 64 (ndn CS[i] F) : Nat) : Int) ≤ 1 ↔ onz 64 (ndn CS[i] F) ≤ 1 := by omega
    by_cases c1 : CS[i] &&& T = 0
    · rw [show decide (CS[i] &&& T ≠ 0) = false from decide_eq_false (fun h => h c1)] at hix
      by_cases c2 : onz 64 (ndn CS[i] F) ≤ 1
      · have c3 := hle.2 c2
        have hy := ffc_at h (fun j hj => hA j hj (by omega)) ⟨c1, c2⟩
        rw [hy]
        repeat (first | refine aq ?_ | refine ap (by rfl : apartB 0 _ _ = true) ?_ | refine ak ?_ | refine ab ?_ | refine al ?_ | ((first | refine ar ?_ | refine ad ty_mix (by kernel_rfl) ?_ | refine ac ?_ | refine ae ?_ | with_reducible refine Later.mk ?_); simp only [evD, evL, iteL, St.said, St.asked, evStep, evOp, evP, St.init, St.app, srcStep, kill, setMany, loadS, fieldS, buildS, toks, Fin, upd_app, Array.isEmpty, Nat.reduceLT, Nat.reduceAdd, Nat.reduceMul, Nat.reduceLeDiff, Nat.reduceSub, Nat.reduceEqDiff, reduceCtorEq, reduceIte, ↓Opt.is, ↓Opt.no, ↓Asks.yes, ↓Asks.no, tyL, encL, hg, hnd, asB]))
        refine ⟨_, hix, ?_⟩; (repeat (first | refine ap (by rfl : apartB 0 _ _ = true) ?_ | refine ap (by simp [osL, D.flat]) ?_)); repeat (first | refine aq ?_ | refine ap (by rfl : apartB 0 _ _ = true) ?_ | refine ak ?_ | refine ab ?_ | refine al ?_ | ((first | refine ar ?_ | refine ad ty_mix (by kernel_rfl) ?_ | refine ac ?_ | refine ae ?_ | with_reducible refine Later.mk ?_); simp only [evD, evL, iteL, St.said, St.asked, evStep, evOp, evP, St.init, St.app, srcStep, kill, setMany, loadS, fieldS, buildS, toks, Fin, upd_app, Array.isEmpty, Nat.reduceLT, Nat.reduceAdd, Nat.reduceMul, Nat.reduceLeDiff, Nat.reduceSub, Nat.reduceEqDiff, reduceCtorEq, reduceIte, ↓Opt.is, ↓Opt.no, ↓Asks.yes, ↓Asks.no, tyL, encL, asB]))
        refine ⟨_, hsz, ?_⟩; (repeat (first | refine ap (by rfl : apartB 0 _ _ = true) ?_ | refine ap (by simp [osL, D.flat]) ?_)); repeat (first | refine aq ?_ | refine ap (by rfl : apartB 0 _ _ = true) ?_ | refine ak ?_ | refine ab ?_ | refine al ?_ | ((first | refine ar ?_ | refine ad ty_mix (by kernel_rfl) ?_ | refine ac ?_ | refine ae ?_ | with_reducible refine Later.mk ?_); simp only [evD, evL, iteL, St.said, St.asked, evStep, evOp, evP, St.init, St.app, srcStep, kill, setMany, loadS, fieldS, buildS, toks, Fin, upd_app, Array.isEmpty, Nat.reduceLT, Nat.reduceAdd, Nat.reduceMul, Nat.reduceLeDiff, Nat.reduceSub, Nat.reduceEqDiff, reduceCtorEq, reduceIte, ↓Opt.is, ↓Opt.no, ↓Asks.yes, ↓Asks.no, tyL, encL, c3, asB]))
        refine Ab.ret ?_; simp only [evD, evL, iteL, St.said, St.asked, evStep, evOp, evP, St.init, St.app, srcStep, kill, setMany, loadS, fieldS, buildS, toks, Fin, upd_app, Array.isEmpty, Nat.reduceLT, Nat.reduceAdd, Nat.reduceMul, Nat.reduceLeDiff, Nat.reduceSub, Nat.reduceEqDiff, reduceCtorEq, reduceIte, ↓Opt.is, ↓Opt.no, ↓Asks.yes, ↓Asks.no, tyL, List.nodup_cons, encL, Tryd.f59, Option.getD_some, Option.isSome_some]
      · have c3 := fun h => c2 (hle.1 h)
        have c3 := eq_false c3
        repeat (first | refine aq ?_ | refine ap (by rfl : apartB 0 _ _ = true) ?_ | refine ak ?_ | refine ab ?_ | refine al ?_ | ((first | refine ar ?_ | refine ad ty_mix (by kernel_rfl) ?_ | refine ac ?_ | refine ae ?_ | with_reducible refine Later.mk ?_); simp only [evD, evL, iteL, St.said, St.asked, evStep, evOp, evP, St.init, St.app, srcStep, kill, setMany, loadS, fieldS, buildS, toks, Fin, upd_app, Array.isEmpty, Nat.reduceLT, Nat.reduceAdd, Nat.reduceMul, Nat.reduceLeDiff, Nat.reduceSub, Nat.reduceEqDiff, reduceCtorEq, reduceIte, ↓Opt.is, ↓Opt.no, ↓Asks.yes, ↓Asks.no, tyL, encL, hg, hnd, asB]))
        refine ⟨_, hix, ?_⟩; (repeat (first | refine ap (by rfl : apartB 0 _ _ = true) ?_ | refine ap (by simp [osL, D.flat]) ?_)); repeat (first | refine aq ?_ | refine ap (by rfl : apartB 0 _ _ = true) ?_ | refine ak ?_ | refine ab ?_ | refine al ?_ | ((first | refine ar ?_ | refine ad ty_mix (by kernel_rfl) ?_ | refine ac ?_ | refine ae ?_ | with_reducible refine Later.mk ?_); simp only [evD, evL, iteL, St.said, St.asked, evStep, evOp, evP, St.init, St.app, srcStep, kill, setMany, loadS, fieldS, buildS, toks, Fin, upd_app, Array.isEmpty, Nat.reduceLT, Nat.reduceAdd, Nat.reduceMul, Nat.reduceLeDiff, Nat.reduceSub, Nat.reduceEqDiff, reduceCtorEq, reduceIte, ↓Opt.is, ↓Opt.no, ↓Asks.yes, ↓Asks.no, tyL, encL, asB]))
        refine ⟨_, hsz, ?_⟩; (repeat (first | refine ap (by rfl : apartB 0 _ _ = true) ?_ | refine ap (by simp [osL, D.flat]) ?_)); repeat (first | refine aq ?_ | refine ap (by rfl : apartB 0 _ _ = true) ?_ | refine ak ?_ | refine ab ?_ | refine al ?_ | ((first | refine ar ?_ | refine ad ty_mix (by kernel_rfl) ?_ | refine ac ?_ | refine ae ?_ | with_reducible refine Later.mk ?_); simp only [evD, evL, iteL, St.said, St.asked, evStep, evOp, evP, St.init, St.app, srcStep, kill, setMany, loadS, fieldS, buildS, toks, Fin, upd_app, Array.isEmpty, Nat.reduceLT, Nat.reduceAdd, Nat.reduceMul, Nat.reduceLeDiff, Nat.reduceSub, Nat.reduceEqDiff, reduceCtorEq, reduceIte, ↓Opt.is, ↓Opt.no, ↓Asks.yes, ↓Asks.no, tyL, encL, c3, hw, asB]))
        refine ⟨h, fun j hj hj2 => ?_, ?_⟩
        · by_cases e : j = i
          · subst e; exact fun h => c2 h.2
          · exact hA j (by omega) hj2
        · ((first | refine Le.mk rfl ?_ ?_ | refine LeTo.mk rfl ?_ ?_) <;> simp only [evD, evL, iteL, St.said, St.asked, evStep, evOp, evP, St.init, St.app, srcStep, kill, setMany, loadS, fieldS, buildS, toks, Fin, upd_app, Array.isEmpty, Nat.reduceLT, Nat.reduceAdd, Nat.reduceMul, Nat.reduceLeDiff, Nat.reduceSub, Nat.reduceEqDiff, reduceCtorEq, reduceIte, ↓Opt.is, ↓Opt.no, ↓Asks.yes, ↓Asks.no, tyL, encL, leL, leD, ne_eq])
    · rw [show decide (CS[i] &&& T ≠ 0) = true from decide_eq_true c1] at hix
      repeat (first | refine aq ?_ | refine ap (by rfl : apartB 0 _ _ = true) ?_ | refine ak ?_ | refine ab ?_ | refine al ?_ | ((first | refine ar ?_ | refine ad ty_mix (by kernel_rfl) ?_ | refine ac ?_ | refine ae ?_ | with_reducible refine Later.mk ?_); simp only [evD, evL, iteL, St.said, St.asked, evStep, evOp, evP, St.init, St.app, srcStep, kill, setMany, loadS, fieldS, buildS, toks, Fin, upd_app, Array.isEmpty, Nat.reduceLT, Nat.reduceAdd, Nat.reduceMul, Nat.reduceLeDiff, Nat.reduceSub, Nat.reduceEqDiff, reduceCtorEq, reduceIte, ↓Opt.is, ↓Opt.no, ↓Asks.yes, ↓Asks.no, tyL, encL, hg, hnd, asB]))
      refine ⟨_, hix, ?_⟩; (repeat (first | refine ap (by rfl : apartB 0 _ _ = true) ?_ | refine ap (by simp [osL, D.flat]) ?_)); repeat (first | refine aq ?_ | refine ap (by rfl : apartB 0 _ _ = true) ?_ | refine ak ?_ | refine ab ?_ | refine al ?_ | ((first | refine ar ?_ | refine ad ty_mix (by kernel_rfl) ?_ | refine ac ?_ | refine ae ?_ | with_reducible refine Later.mk ?_); simp only [evD, evL, iteL, St.said, St.asked, evStep, evOp, evP, St.init, St.app, srcStep, kill, setMany, loadS, fieldS, buildS, toks, Fin, upd_app, Array.isEmpty, Nat.reduceLT, Nat.reduceAdd, Nat.reduceMul, Nat.reduceLeDiff, Nat.reduceSub, Nat.reduceEqDiff, reduceCtorEq, reduceIte, ↓Opt.is, ↓Opt.no, ↓Asks.yes, ↓Asks.no, tyL, encL, hw, asB]))
      refine ⟨h, fun j hj hj2 => ?_, ?_⟩
      · by_cases e : j = i
        · subst e; exact fun h => c1 h.1
        · exact hA j (by omega) hj2
      · ((first | refine Le.mk rfl ?_ ?_ | refine LeTo.mk rfl ?_ ?_) <;> simp only [evD, evL, iteL, St.said, St.asked, evStep, evOp, evP, St.init, St.app, srcStep, kill, setMany, loadS, fieldS, buildS, toks, Fin, upd_app, Array.isEmpty, Nat.reduceLT, Nat.reduceAdd, Nat.reduceMul, Nat.reduceLeDiff, Nat.reduceSub, Nat.reduceEqDiff, reduceCtorEq, reduceIte, ↓Opt.is, ↓Opt.no, ↓Asks.yes, ↓Asks.no, tyL, encL, leL, leD, ne_eq])
  · have h : i = CS.length := by have := of_decide_eq_false h; omega
    subst h
    rw [ffc_no (fun j hj => hA j hj hj)]
    repeat (first | refine aq ?_ | refine ap (by rfl : apartB 0 _ _ = true) ?_ | refine ak ?_ | refine ab ?_ | refine al ?_ | ((first | refine ar ?_ | refine ad ty_mix (by kernel_rfl) ?_ | refine ac ?_ | refine ae ?_ | with_reducible refine Later.mk ?_); simp only [evD, evL, iteL, St.said, St.asked, evStep, evOp, evP, St.init, St.app, srcStep, kill, setMany, loadS, fieldS, buildS, toks, Fin, upd_app, Array.isEmpty, Nat.reduceLT, Nat.reduceAdd, Nat.reduceMul, Nat.reduceLeDiff, Nat.reduceSub, Nat.reduceEqDiff, reduceCtorEq, reduceIte, ↓Opt.is, ↓Opt.no, ↓Asks.yes, ↓Asks.no, tyL, encL, asB]))
    refine Ab.ret ?_; simp only [evD, evL, iteL, St.said, St.asked, evStep, evOp, evP, St.init, St.app, srcStep, kill, setMany, loadS, fieldS, buildS, toks, Fin, upd_app, Array.isEmpty, Nat.reduceLT, Nat.reduceAdd, Nat.reduceMul, Nat.reduceLeDiff, Nat.reduceSub, Nat.reduceEqDiff, reduceCtorEq, reduceIte, ↓Opt.is, ↓Opt.no, ↓Asks.yes, ↓Asks.no, tyL, List.nodup_cons, encL, Tryd.f59, Option.getD_none, Option.isSome_none, natZ]
theorem inR_neg {n x : Int} (hn : n ≤ 14) (h : litOk n x = true) : inR x ∧ IntKind.i64.wrap (-x) = -x ∧ inR (-x) ∧ -2000000 ≤ x ∧ x ≤ 2000000 := by
  unfold litOk at h
  simp only [Bool.and_eq_true, decide_eq_true_eq] at h
  unfold inR
  rw [IntKind.wrap_i64]
  omega
theorem implNegate_a {l : List Int} (hl : l.length ≤ 1048576) {n : Int} (hn : n ≤ 14) (h : ∀ x, x ∈ l → litOk n x = true) : AC Tryd.prog 50 [.d (encIs l)] (.o 0 (encIs (negP l))) := by
  have hcv := convertAll_int_int (g := 62) caps_nil (fun x => -x) l hl (fun x hx => by
    have hw : IntKind.i64.wrap (0 - x) = -x := by rw [Int.zero_sub]; exact (inR_neg hn (h x hx)).2.1
    refine AC.intro Tryd.func62 rfl (by decide) (by simp [S.res, S.ress]) (by simp [S.os, S.oss]) (by simp [S.wfs, S.wf, dbS]) (by simp [Tryd.f62]) ?_; rw [Tryd.ntmps62]
    repeat (first | refine aq ?_ | refine ap (by rfl : apartB 0 _ _ = true) ?_ | refine ak ?_ | refine ab ?_ | refine al ?_ | ((first | refine ar ?_ | refine ad ty_mix (by kernel_rfl) ?_ | refine ac ?_ | refine ae ?_ | with_reducible refine Later.mk ?_); simp only [evD, evL, iteL, St.said, St.asked, evStep, evOp, evP, St.init, St.app, srcStep, kill, setMany, loadS, fieldS, buildS, toks, Fin, upd_app, Array.isEmpty, Nat.reduceLT, Nat.reduceAdd, Nat.reduceMul, Nat.reduceLeDiff, Nat.reduceSub, Nat.reduceEqDiff, reduceCtorEq, reduceIte, ↓Opt.is, ↓Opt.no, ↓Asks.yes, ↓Asks.no, tyL, encL, hw, asB]))
    refine Ab.ret ?_; simp only [evD, evL, iteL, St.said, St.asked, evStep, evOp, evP, St.init, St.app, srcStep, kill, setMany, loadS, fieldS, buildS, toks, Fin, upd_app, Array.isEmpty, Nat.reduceLT, Nat.reduceAdd, Nat.reduceMul, Nat.reduceLeDiff, Nat.reduceSub, Nat.reduceEqDiff, reduceCtorEq, reduceIte, ↓Opt.is, ↓Opt.no, ↓Asks.yes, ↓Asks.no, tyL, List.nodup_cons, encL, Tryd.f62])
  unfold negP
  refine AC.intro Tryd.func50 rfl (by decide) (by simp [S.res, S.ress]) (by simp [S.os, S.oss]) (by simp [S.wfs, S.wf, dbS]) (by simp [Tryd.f50]) ?_; rw [Tryd.ntmps50]
  repeat (first | refine aq ?_ | refine ap (by rfl : apartB 0 _ _ = true) ?_ | refine ak ?_ | refine ab ?_ | refine al ?_ | ((first | refine ar ?_ | refine ad ty_mix (by kernel_rfl) ?_ | refine ac ?_ | refine ae ?_ | with_reducible refine Later.mk ?_); simp only [evD, evL, iteL, St.said, St.asked, evStep, evOp, evP, St.init, St.app, srcStep, kill, setMany, loadS, fieldS, buildS, toks, Fin, upd_app, Array.isEmpty, Nat.reduceLT, Nat.reduceAdd, Nat.reduceMul, Nat.reduceLeDiff, Nat.reduceSub, Nat.reduceEqDiff, reduceCtorEq, reduceIte, ↓Opt.is, ↓Opt.no, ↓Asks.yes, ↓Asks.no, tyL, encL, asB]))
  refine ⟨_, hcv, ?_⟩; (repeat (first | refine ap (by rfl : apartB 0 _ _ = true) ?_ | refine ap (by simp [osL, D.flat]) ?_)); repeat (first | refine aq ?_ | refine ap (by rfl : apartB 0 _ _ = true) ?_ | refine ak ?_ | refine ab ?_ | refine al ?_ | ((first | refine ar ?_ | refine ad ty_mix (by kernel_rfl) ?_ | refine ac ?_ | refine ae ?_ | with_reducible refine Later.mk ?_); simp only [evD, evL, iteL, St.said, St.asked, evStep, evOp, evP, St.init, St.app, srcStep, kill, setMany, loadS, fieldS, buildS, toks, Fin, upd_app, Array.isEmpty, Nat.reduceLT, Nat.reduceAdd, Nat.reduceMul, Nat.reduceLeDiff, Nat.reduceSub, Nat.reduceEqDiff, reduceCtorEq, reduceIte, ↓Opt.is, ↓Opt.no, ↓Asks.yes, ↓Asks.no, tyL, encL, asB]))
  refine Ab.ret ?_; simp only [evD, evL, iteL, St.said, St.asked, evStep, evOp, evP, St.init, St.app, srcStep, kill, setMany, loadS, fieldS, buildS, toks, Fin, upd_app, Array.isEmpty, Nat.reduceLT, Nat.reduceAdd, Nat.reduceMul, Nat.reduceLeDiff, Nat.reduceSub, Nat.reduceEqDiff, reduceCtorEq, reduceIte, ↓Opt.is, ↓Opt.no, ↓Asks.yes, ↓Asks.no, tyL, List.nodup_cons, encL, Tryd.f50]
theorem copyInts_w (l : List Int) (hl : l.length ≤ 1048576) : AW Tryd.prog 41 [.d (encIs l)] [] (.g 5 (l.map encI)) [(5, .tip true 3 1 (l.map encI))] := by
  refine AW.ren (i := 48) (by decide) (by decide) ?_
  refine AW.intro 16 Tryd.func41 rfl (by decide) ⟨by simp [keysM], by simp [keysM], by simp [S.wfs, S.wf, updl, upd], by simp [wfM, wfB, wfI, S.wfs, S.wf, updl, upd], by simp [S.wf, S.wfs, updl, upd], by simp [wfM, wfB, wfI, S.wfs, S.wf, updl, upd]⟩ (by simp [keysM]) (by simp [Tryd.f41]) ?_; rw [Tryd.ntmps41]; simp only [St.initW, fM, keysM, updl, List.map_cons, List.map_nil]
  repeat (first | refine aq ?_ | refine ap (by rfl : apartB 0 _ _ = true) ?_ | refine ak ?_ | refine ab ?_ | refine al ?_ | ((first | refine ar ?_ | refine ad ty_mix (by kernel_rfl) ?_ | refine ac ?_ | refine ae ?_ | with_reducible refine Later.mk ?_); simp only [evD, evL, iteL, St.said, St.asked, evStep, evOp, evP, St.init, St.app, srcStep, kill, setMany, loadS, fieldS, buildS, toks, Fin, upd_app, Array.isEmpty, Nat.reduceLT, Nat.reduceAdd, Nat.reduceMul, Nat.reduceLeDiff, Nat.reduceSub, Nat.reduceEqDiff, reduceCtorEq, reduceIte, ↓Opt.is, ↓Opt.no, ↓Asks.yes, ↓Asks.no, tyL, encL, asB]))
  refine ⟨encIs_len l, true, fun _ => encIs_flat l, Later.mk ?_⟩
  simp only [evD, evL, iteL, St.said, St.asked, evStep, evOp, evP, St.init, St.app, srcStep, kill, setMany, loadS, fieldS, buildS, toks, Fin, upd_app, Array.isEmpty, Nat.reduceLT, Nat.reduceAdd, Nat.reduceMul, Nat.reduceLeDiff, Nat.reduceSub, Nat.reduceEqDiff, reduceCtorEq, reduceIte, ↓Opt.is, ↓Opt.no, ↓Asks.yes, ↓Asks.no, tyL, encL]
  refine ⟨by simp only [maxLen]; omega, by omega, ?_⟩
  repeat (first | refine aq ?_ | refine ap (by rfl : apartB 0 _ _ = true) ?_ | refine ak ?_ | refine ab ?_ | refine al ?_ | ((first | refine ar ?_ | refine ad ty_mix (by kernel_rfl) ?_ | refine ac ?_ | refine ae ?_ | with_reducible refine Later.mk ?_); simp only [evD, evL, iteL, St.said, St.asked, evStep, evOp, evP, St.init, St.app, srcStep, kill, setMany, loadS, fieldS, buildS, toks, Fin, upd_app, Array.isEmpty, Nat.reduceLT, Nat.reduceAdd, Nat.reduceMul, Nat.reduceLeDiff, Nat.reduceSub, Nat.reduceEqDiff, reduceCtorEq, reduceIte, ↓Opt.is, ↓Opt.no, ↓Asks.yes, ↓Asks.no, tyL, encL, asB]))
  refine Ab.ret ?_; simp only [evD, evL, iteL, St.said, St.asked, evStep, evOp, evP, St.init, St.app, srcStep, kill, setMany, loadS, fieldS, buildS, toks, Fin, upd_app, Array.isEmpty, Nat.reduceLT, Nat.reduceAdd, Nat.reduceMul, Nat.reduceLeDiff, Nat.reduceSub, Nat.reduceEqDiff, reduceCtorEq, reduceIte, ↓Opt.is, ↓Opt.no, ↓Asks.yes, ↓Asks.no, tyL, encL, leL, leD, ne_eq, frL, preM, postM, keysM, B.okM, List.mem_cons, List.not_mem_nil, or_false, false_or, true_or, or_true, EndsW, FinW, LeR, oneOf, fM, updl, allM, List.nodup_cons, Tryd.f41]
theorem propagate_a {n : Int} (hn : n ≤ 14) {L : List (List Int)} {l : List Int} (hL : L.length ≤ 2097152) (hl : l.length ≤ 1048576) (hok : ∀ c, c ∈ L → clauseOk n c = true) (hlo : clauseOk n l = true) :
    AC Tryd.prog 49 [.d (.sl ((setsL L).map encU)), .d (encIs l)] (.t [.o 0 (encIs (units L l).1), .d (.v (.bool (units L l).2))]) := by
  have hlit := clause_ok hlo
  have hneg := clause_ok (clauseOk_neg hlo)
  have hw1 := copyInts_w l hl
  have hc2 := literalSet_a hn hl hlo (fun x hx => (inR_neg hn (hlit x hx)).1)
  have hc3 := implNegate_a hl hn hlit
  have hc4 := literalSet_a hn (by unfold negP; rw [List.length_map]; exact hl) (clauseOk_neg hlo) (fun x hx => (inR_neg hn (hneg x hx)).1)
  have in64s : ∀ l : List Int, (∀ x, x ∈ l → litOk n x = true) → in64 (l.map litN) := fun l hl x hx => by
    obtain ⟨y, hy, rfl⟩ := List.mem_map.1 hx
    exact litN_in hn (hl y hy)
  have hsl : (setsL L).length ≤ 2097152 := by unfold setsL; rw [List.length_map]; exact hL
  have hsb : ∀ c, c ∈ setsL L → c < 18446744073709551616 := fun c hc => by
    unfold setsL at hc
    obtain ⟨d, hd, rfl⟩ := List.mem_map.1 hc
    exact bitsI_lt _ (in64s d (clause_ok (hok d hd)))
  have hu0 : unitsF L (L.length + 1) l = units L l := rfl
  generalize units L l = R at *
  refine AC.intro Tryd.func49 rfl (by decide) (by simp [S.res, S.ress]) (by simp [S.os, S.oss]) (by simp [S.wfs, S.wf, dbS]) (by simp [Tryd.f49]) ?_; rw [Tryd.ntmps49]
  refine Ab.weaken (Le.flag (by simp only [evD, evL, iteL, St.said, St.asked, evStep, evOp, evP, St.init, St.app, srcStep, kill, setMany, loadS, fieldS, buildS, toks, Fin, upd_app, Array.isEmpty, Nat.reduceLT, Nat.reduceAdd, Nat.reduceMul, Nat.reduceLeDiff, Nat.reduceSub, Nat.reduceEqDiff, reduceCtorEq, reduceIte, ↓Opt.is, ↓Opt.no, ↓Asks.yes, ↓Asks.no, tyL, encL])) ?_
  simp only [evD, evL, iteL, St.said, St.asked, evStep, evOp, evP, St.init, St.app, srcStep, kill, setMany, loadS, fieldS, buildS, toks, Fin, upd_app, Array.isEmpty, Nat.reduceLT, Nat.reduceAdd, Nat.reduceMul, Nat.reduceLeDiff, Nat.reduceSub, Nat.reduceEqDiff, reduceCtorEq, reduceIte, ↓Opt.is, ↓Opt.no, ↓Asks.yes, ↓Asks.no, tyL, encL]
  repeat (first | refine aq ?_ | refine ap (by rfl : apartB 0 _ _ = true) ?_ | refine ak ?_ | refine ab ?_ | refine al ?_ | ((first | refine ar ?_ | refine ad ty_mix (by kernel_rfl) ?_ | refine ac ?_ | refine ae ?_ | with_reducible refine Later.mk ?_); simp only [evD, evL, iteL, St.said, St.asked, evStep, evOp, evP, St.init, St.app, srcStep, kill, setMany, loadS, fieldS, buildS, toks, Fin, upd_app, Array.isEmpty, Nat.reduceLT, Nat.reduceAdd, Nat.reduceMul, Nat.reduceLeDiff, Nat.reduceSub, Nat.reduceEqDiff, reduceCtorEq, reduceIte, ↓Opt.is, ↓Opt.no, ↓Asks.yes, ↓Asks.no, tyL, encL, asB]))
  refine Kw.aw ⟨_, _, _, _, hw1, ?_⟩; simp only [evD, evL, iteL, St.said, St.asked, evStep, evOp, evP, St.init, St.app, srcStep, kill, setMany, loadS, fieldS, buildS, toks, Fin, upd_app, Array.isEmpty, Nat.reduceLT, Nat.reduceAdd, Nat.reduceMul, Nat.reduceLeDiff, Nat.reduceSub, Nat.reduceEqDiff, reduceCtorEq, reduceIte, ↓Opt.is, ↓Opt.no, ↓Asks.yes, ↓Asks.no, tyL, encL, leL, leD, ne_eq, frL, preM, postM, keysM, B.okM, List.mem_cons, List.not_mem_nil, or_false, false_or, true_or, or_true]; repeat (first | refine aq ?_ | refine ap (by rfl : apartB 0 _ _ = true) ?_ | refine ak ?_ | refine ab ?_ | refine al ?_ | ((first | refine ar ?_ | refine ad ty_mix (by kernel_rfl) ?_ | refine ac ?_ | refine ae ?_ | with_reducible refine Later.mk ?_); simp only [evD, evL, iteL, St.said, St.asked, evStep, evOp, evP, St.init, St.app, srcStep, kill, setMany, loadS, fieldS, buildS, toks, Fin, upd_app, Array.isEmpty, Nat.reduceLT, Nat.reduceAdd, Nat.reduceMul, Nat.reduceLeDiff, Nat.reduceSub, Nat.reduceEqDiff, reduceCtorEq, reduceIte, ↓Opt.is, ↓Opt.no, ↓Asks.yes, ↓Asks.no, tyL, encL, asB]))
  refine Kw.ac ?_; simp only [evD, evL, iteL, St.said, St.asked, evStep, evOp, evP, St.init, St.app, srcStep, kill, setMany, loadS, fieldS, buildS, toks, Fin, upd_app, Array.isEmpty, Nat.reduceLT, Nat.reduceAdd, Nat.reduceMul, Nat.reduceLeDiff, Nat.reduceSub, Nat.reduceEqDiff, reduceCtorEq, reduceIte, ↓Opt.is, ↓Opt.no, ↓Asks.yes, ↓Asks.no, tyL, encL]
  refine ⟨_, hc2, ?_⟩; (repeat (first | refine ap (by rfl : apartB 0 _ _ = true) ?_ | refine ap (by simp [osL, D.flat]) ?_)); repeat (first | refine aq ?_ | refine ap (by rfl : apartB 0 _ _ = true) ?_ | refine ak ?_ | refine ab ?_ | refine al ?_ | ((first | refine ar ?_ | refine ad ty_mix (by kernel_rfl) ?_ | refine ac ?_ | refine ae ?_ | with_reducible refine Later.mk ?_); simp only [evD, evL, iteL, St.said, St.asked, evStep, evOp, evP, St.init, St.app, srcStep, kill, setMany, loadS, fieldS, buildS, toks, Fin, upd_app, Array.isEmpty, Nat.reduceLT, Nat.reduceAdd, Nat.reduceMul, Nat.reduceLeDiff, Nat.reduceSub, Nat.reduceEqDiff, reduceCtorEq, reduceIte, ↓Opt.is, ↓Opt.no, ↓Asks.yes, ↓Asks.no, tyL, encL, asB]))
  refine Kw.ac ?_; simp only [evD, evL, iteL, St.said, St.asked, evStep, evOp, evP, St.init, St.app, srcStep, kill, setMany, loadS, fieldS, buildS, toks, Fin, upd_app, Array.isEmpty, Nat.reduceLT, Nat.reduceAdd, Nat.reduceMul, Nat.reduceLeDiff, Nat.reduceSub, Nat.reduceEqDiff, reduceCtorEq, reduceIte, ↓Opt.is, ↓Opt.no, ↓Asks.yes, ↓Asks.no, tyL, encL]
  refine ⟨_, hc3, ?_⟩; (repeat (first | refine ap (by rfl : apartB 0 _ _ = true) ?_ | refine ap (by simp [osL, D.flat]) ?_)); repeat (first | refine aq ?_ | refine ap (by rfl : apartB 0 _ _ = true) ?_ | refine ak ?_ | refine ab ?_ | refine al ?_ | ((first | refine ar ?_ | refine ad ty_mix (by kernel_rfl) ?_ | refine ac ?_ | refine ae ?_ | with_reducible refine Later.mk ?_); simp only [evD, evL, iteL, St.said, St.asked, evStep, evOp, evP, St.init, St.app, srcStep, kill, setMany, loadS, fieldS, buildS, toks, Fin, upd_app, Array.isEmpty, Nat.reduceLT, Nat.reduceAdd, Nat.reduceMul, Nat.reduceLeDiff, Nat.reduceSub, Nat.reduceEqDiff, reduceCtorEq, reduceIte, ↓Opt.is, ↓Opt.no, ↓Asks.yes, ↓Asks.no, tyL, encL, asB]))
  refine Kw.ac ?_; simp only [evD, evL, iteL, St.said, St.asked, evStep, evOp, evP, St.init, St.app, srcStep, kill, setMany, loadS, fieldS, buildS, toks, Fin, upd_app, Array.isEmpty, Nat.reduceLT, Nat.reduceAdd, Nat.reduceMul, Nat.reduceLeDiff, Nat.reduceSub, Nat.reduceEqDiff, reduceCtorEq, reduceIte, ↓Opt.is, ↓Opt.no, ↓Asks.yes, ↓Asks.no, tyL, encL]
  refine ⟨_, hc4, ?_⟩; (repeat (first | refine ap (by rfl : apartB 0 _ _ = true) ?_ | refine ap (by simp [osL, D.flat]) ?_)); repeat (first | refine aq ?_ | refine ap (by rfl : apartB 0 _ _ = true) ?_ | refine ak ?_ | refine ab ?_ | refine al ?_ | ((first | refine ar ?_ | refine ad ty_mix (by kernel_rfl) ?_ | refine ac ?_ | refine ae ?_ | with_reducible refine Later.mk ?_); simp only [evD, evL, iteL, St.said, St.asked, evStep, evOp, evP, St.init, St.app, srcStep, kill, setMany, loadS, fieldS, buildS, toks, Fin, upd_app, Array.isEmpty, Nat.reduceLT, Nat.reduceAdd, Nat.reduceMul, Nat.reduceLeDiff, Nat.reduceSub, Nat.reduceEqDiff, reduceCtorEq, reduceIte, ↓Opt.is, ↓Opt.no, ↓Asks.yes, ↓Asks.no, tyL, encL, asB]))
  have hbi : ∀ m : List Int, (∀ x, x ∈ m → litOk n x = true) → bitsI (m.map litN) < 18446744073709551616 := fun m hm => bitsI_lt _ (in64s m hm)
  refine Ab.loopG (l, L.length + 1) (fun p => p.2) (fun p => unitsF L p.2 p.1 = R ∧ unmet L p.1 < p.2 ∧ (∀ x, x ∈ p.1 → litOk n x = true) ∧ p.1.length + p.2 ≤ l.length + L.length + 1) (fun p => mkS 50 [(0, .d (.sl (List.map encU (setsL L)))), (6, .g 5 (List.map encI p.1)), (7, .d (.v (.int .u64 ↑(bitsI (List.map litN p.1))))), (8, .d (.v (.int .u64 ↑(bitsI (List.map litN (negP p.1))))))] [(5, .tip true 3 1 (List.map encI p.1)), (11, .dead)] 300) ⟨hu0, unmet_start L l, hlit, by simp only; omega⟩ ?_ ?_
  · ((first | refine Le.mk rfl ?_ ?_ | refine LeTo.mk rfl ?_ ?_) <;> simp only [evD, evL, iteL, St.said, St.asked, evStep, evOp, evP, St.init, St.app, srcStep, kill, setMany, loadS, fieldS, buildS, toks, Fin, upd_app, Array.isEmpty, Nat.reduceLT, Nat.reduceAdd, Nat.reduceMul, Nat.reduceLeDiff, Nat.reduceSub, Nat.reduceEqDiff, reduceCtorEq, reduceIte, ↓Opt.is, ↓Opt.no, ↓Asks.yes, ↓Asks.no, tyL, encL, leL, leD, ne_eq, frL, wfI])
  rintro ⟨out, k⟩ ⟨hu, hk, ho, hz⟩
  simp only at hu hk ho hz ⊢
  have hno : ∀ x, x ∈ negP out → litOk n x = true := fun x hx => by
    obtain ⟨y, hy, rfl⟩ := List.mem_map.1 hx
    exact litOk_neg (ho y hy)
  have hff := firstForced_a (CS := setsL L) hsl hsb (hbi out ho) (hbi _ hno)
  rw [ffc_eq hn ho hok] at hff
  rcases hfo : forced out L with _ | o
  · rw [hfo] at hff
    simp only [Option.map_none, Option.getD_none, Option.isSome_none] at hff
    have hR := units_none hk hfo
    rw [hu] at hR
    subst hR
    repeat (first | refine aq ?_ | refine ap (by rfl : apartB 0 _ _ = true) ?_ | refine ak ?_ | refine ab ?_ | refine al ?_ | ((first | refine ar ?_ | refine ad ty_mix (by kernel_rfl) ?_ | refine ac ?_ | refine ae ?_ | with_reducible refine Later.mk ?_); simp only [evD, evL, iteL, St.said, St.asked, evStep, evOp, evP, St.init, St.app, srcStep, kill, setMany, loadS, fieldS, buildS, toks, Fin, upd_app, Array.isEmpty, Nat.reduceLT, Nat.reduceAdd, Nat.reduceMul, Nat.reduceLeDiff, Nat.reduceSub, Nat.reduceEqDiff, reduceCtorEq, reduceIte, ↓Opt.is, ↓Opt.no, ↓Asks.yes, ↓Asks.no, tyL, encL, mkS, updl, asB]))
    refine Kw.ac ?_; simp only [evD, evL, iteL, St.said, St.asked, evStep, evOp, evP, St.init, St.app, srcStep, kill, setMany, loadS, fieldS, buildS, toks, Fin, upd_app, Array.isEmpty, Nat.reduceLT, Nat.reduceAdd, Nat.reduceMul, Nat.reduceLeDiff, Nat.reduceSub, Nat.reduceEqDiff, reduceCtorEq, reduceIte, ↓Opt.is, ↓Opt.no, ↓Asks.yes, ↓Asks.no, tyL, encL]
    refine ⟨_, hff, ?_⟩; (repeat (first | refine ap (by rfl : apartB 0 _ _ = true) ?_ | refine ap (by simp [osL, D.flat]) ?_)); repeat (first | refine aq ?_ | refine ap (by rfl : apartB 0 _ _ = true) ?_ | refine ak ?_ | refine ab ?_ | refine al ?_ | ((first | refine ar ?_ | refine ad ty_mix (by kernel_rfl) ?_ | refine ac ?_ | refine ae ?_ | with_reducible refine Later.mk ?_); simp only [evD, evL, iteL, St.said, St.asked, evStep, evOp, evP, St.init, St.app, srcStep, kill, setMany, loadS, fieldS, buildS, toks, Fin, upd_app, Array.isEmpty, Nat.reduceLT, Nat.reduceAdd, Nat.reduceMul, Nat.reduceLeDiff, Nat.reduceSub, Nat.reduceEqDiff, reduceCtorEq, reduceIte, ↓Opt.is, ↓Opt.no, ↓Asks.yes, ↓Asks.no, tyL, encL, asB]))
    refine Ab.ret ?_; simp only [evD, evL, iteL, St.said, St.asked, evStep, evOp, evP, St.init, St.app, srcStep, kill, setMany, loadS, fieldS, buildS, toks, Fin, upd_app, Array.isEmpty, Nat.reduceLT, Nat.reduceAdd, Nat.reduceMul, Nat.reduceLeDiff, Nat.reduceSub, Nat.reduceEqDiff, reduceCtorEq, reduceIte, ↓Opt.is, ↓Opt.no, ↓Asks.yes, ↓Asks.no, tyL, List.nodup_cons, encL, Tryd.f49]
    exact ⟨_, _, rfl⟩
  · rw [hfo] at hff
    simp only [Option.map_some, Option.getD_some, Option.isSome_some] at hff
    cases o with
    | nil =>
      have hR := units_zero hk hfo
      rw [hu] at hR
      subst hR
      have hb0 : (((bitsI [] : Nat) : Int) == 0) = true := rfl
      repeat (first | refine aq ?_ | refine ap (by rfl : apartB 0 _ _ = true) ?_ | refine ak ?_ | refine ab ?_ | refine al ?_ | ((first | refine ar ?_ | refine ad ty_mix (by kernel_rfl) ?_ | refine ac ?_ | refine ae ?_ | with_reducible refine Later.mk ?_); simp only [evD, evL, iteL, St.said, St.asked, evStep, evOp, evP, St.init, St.app, srcStep, kill, setMany, loadS, fieldS, buildS, toks, Fin, upd_app, Array.isEmpty, Nat.reduceLT, Nat.reduceAdd, Nat.reduceMul, Nat.reduceLeDiff, Nat.reduceSub, Nat.reduceEqDiff, reduceCtorEq, reduceIte, ↓Opt.is, ↓Opt.no, ↓Asks.yes, ↓Asks.no, tyL, encL, mkS, updl, asB]))
      refine Kw.ac ?_; simp only [evD, evL, iteL, St.said, St.asked, evStep, evOp, evP, St.init, St.app, srcStep, kill, setMany, loadS, fieldS, buildS, toks, Fin, upd_app, Array.isEmpty, Nat.reduceLT, Nat.reduceAdd, Nat.reduceMul, Nat.reduceLeDiff, Nat.reduceSub, Nat.reduceEqDiff, reduceCtorEq, reduceIte, ↓Opt.is, ↓Opt.no, ↓Asks.yes, ↓Asks.no, tyL, encL]
      refine ⟨_, hff, ?_⟩; (repeat (first | refine ap (by rfl : apartB 0 _ _ = true) ?_ | refine ap (by simp [osL, D.flat]) ?_)); repeat (first | refine aq ?_ | refine ap (by rfl : apartB 0 _ _ = true) ?_ | refine ak ?_ | refine ab ?_ | refine al ?_ | ((first | refine ar ?_ | refine ad ty_mix (by kernel_rfl) ?_ | refine ac ?_ | refine ae ?_ | with_reducible refine Later.mk ?_); simp only [evD, evL, iteL, St.said, St.asked, evStep, evOp, evP, St.init, St.app, srcStep, kill, setMany, loadS, fieldS, buildS, toks, Fin, upd_app, Array.isEmpty, Nat.reduceLT, Nat.reduceAdd, Nat.reduceMul, Nat.reduceLeDiff, Nat.reduceSub, Nat.reduceEqDiff, reduceCtorEq, reduceIte, ↓Opt.is, ↓Opt.no, ↓Asks.yes, ↓Asks.no, tyL, encL, hb0, asB]))
      refine Ab.ret ?_; simp only [evD, evL, iteL, St.said, St.asked, evStep, evOp, evP, St.init, St.app, srcStep, kill, setMany, loadS, fieldS, buildS, toks, Fin, upd_app, Array.isEmpty, Nat.reduceLT, Nat.reduceAdd, Nat.reduceMul, Nat.reduceLeDiff, Nat.reduceSub, Nat.reduceEqDiff, reduceCtorEq, reduceIte, ↓Opt.is, ↓Opt.no, ↓Asks.yes, ↓Asks.no, tyL, List.nodup_cons, encL, Tryd.f49]
      exact ⟨_, _, rfl⟩
    | cons x t =>
      obtain ⟨ht, c, hcm, hmet, hxc⟩ := forced_one hfo
      subst ht
      obtain ⟨k', rfl, hk', hu'⟩ := units_step hk hfo
      rw [hu'] at hu
      have hxo := clause_ok (hok c hcm) x hxc
      have hx64 := litN_in hn hxo
      have hy64 := litN_in hn (litOk_neg hxo)
      have h1 : in64 [litN x] := fun y hy => by rw [List.mem_singleton] at hy; subst hy; exact hx64
      have hb0 : (((bitsI [litN x] : Nat) : Int) == 0) = false := by
        rw [eq0N]
        exact decide_eq_false (fun h => by have := (bits_nil_iff (l := [litN x]) h1).1 h; cases this)
      have hfi := first_a (bitsI (List.map litN [x])) (bitsI_lt _ h1)
      rw [show ((Go.Lib.ctz 64 (bitsI (List.map litN [x])) : Nat) : Int) = litN x from ctz_one hx64] at hfi
      have hlw := litWith_a hn hxo
      obtain ⟨r1, r2, r3, r4, r5⟩ := inR_neg hn hxo
      have hw : IntKind.i64.wrap (0 - x) = -x := by rw [Int.zero_sub]; exact r2
      have hn1 := literalNumber_a r1 r4 r5
      have hn2 := literalNumber_a r3 (by omega) (by omega)
      have hb1 := bits_with_a (bitsI (List.map litN out)) (litN x).toNat (hbi out ho) (by omega)
      have hb2 := bits_with_a (bitsI (List.map litN (negP out))) (litN (-x)).toNat (hbi _ hno) (by omega)
      rw [Int.toNat_of_nonneg hx64.1] at hb1
      rw [Int.toNat_of_nonneg hy64.1] at hb2
      rw [← bitsI_snoc, show List.map litN out ++ [litN x] = List.map litN (out ++ [x]) by rw [List.map_append]; rfl] at hb1
      rw [← bitsI_snoc, show List.map litN (negP out) ++ [litN (-x)] = List.map litN (negP (out ++ [x])) by unfold negP; rw [List.map_append, List.map_append]; rfl] at hb2
      repeat (first | refine aq ?_ | refine ap (by rfl : apartB 0 _ _ = true) ?_ | refine ak ?_ | refine ab ?_ | refine al ?_ | ((first | refine ar ?_ | refine ad ty_mix (by kernel_rfl) ?_ | refine ac ?_ | refine ae ?_ | with_reducible refine Later.mk ?_); simp only [evD, evL, iteL, St.said, St.asked, evStep, evOp, evP, St.init, St.app, srcStep, kill, setMany, loadS, fieldS, buildS, toks, Fin, upd_app, Array.isEmpty, Nat.reduceLT, Nat.reduceAdd, Nat.reduceMul, Nat.reduceLeDiff, Nat.reduceSub, Nat.reduceEqDiff, reduceCtorEq, reduceIte, ↓Opt.is, ↓Opt.no, ↓Asks.yes, ↓Asks.no, tyL, encL, mkS, updl, asB]))
      refine Kw.ac ?_; simp only [evD, evL, iteL, St.said, St.asked, evStep, evOp, evP, St.init, St.app, srcStep, kill, setMany, loadS, fieldS, buildS, toks, Fin, upd_app, Array.isEmpty, Nat.reduceLT, Nat.reduceAdd, Nat.reduceMul, Nat.reduceLeDiff, Nat.reduceSub, Nat.reduceEqDiff, reduceCtorEq, reduceIte, ↓Opt.is, ↓Opt.no, ↓Asks.yes, ↓Asks.no, tyL, encL]
      refine ⟨_, hff, ?_⟩; (repeat (first | refine ap (by rfl : apartB 0 _ _ = true) ?_ | refine ap (by simp [osL, D.flat]) ?_)); repeat (first | refine aq ?_ | refine ap (by rfl : apartB 0 _ _ = true) ?_ | refine ak ?_ | refine ab ?_ | refine al ?_ | ((first | refine ar ?_ | refine ad ty_mix (by kernel_rfl) ?_ | refine ac ?_ | refine ae ?_ | with_reducible refine Later.mk ?_); simp only [evD, evL, iteL, St.said, St.asked, evStep, evOp, evP, St.init, St.app, srcStep, kill, setMany, loadS, fieldS, buildS, toks, Fin, upd_app, Array.isEmpty, Nat.reduceLT, Nat.reduceAdd, Nat.reduceMul, Nat.reduceLeDiff, Nat.reduceSub, Nat.reduceEqDiff, reduceCtorEq, reduceIte, ↓Opt.is, ↓Opt.no, ↓Asks.yes, ↓Asks.no, tyL, encL, hb0, asB]))
      refine Kw.ac ?_; simp only [evD, evL, iteL, St.said, St.asked, evStep, evOp, evP, St.init, St.app, srcStep, kill, setMany, loadS, fieldS, buildS, toks, Fin, upd_app, Array.isEmpty, Nat.reduceLT, Nat.reduceAdd, Nat.reduceMul, Nat.reduceLeDiff, Nat.reduceSub, Nat.reduceEqDiff, reduceCtorEq, reduceIte, ↓Opt.is, ↓Opt.no, ↓Asks.yes, ↓Asks.no, tyL, encL]
      refine ⟨_, hfi, ?_⟩; (repeat (first | refine ap (by rfl : apartB 0 _ _ = true) ?_ | refine ap (by simp [osL, D.flat]) ?_)); repeat (first | refine aq ?_ | refine ap (by rfl : apartB 0 _ _ = true) ?_ | refine ak ?_ | refine ab ?_ | refine al ?_ | ((first | refine ar ?_ | refine ad ty_mix (by kernel_rfl) ?_ | refine ac ?_ | refine ae ?_ | with_reducible refine Later.mk ?_); simp only [evD, evL, iteL, St.said, St.asked, evStep, evOp, evP, St.init, St.app, srcStep, kill, setMany, loadS, fieldS, buildS, toks, Fin, upd_app, Array.isEmpty, Nat.reduceLT, Nat.reduceAdd, Nat.reduceMul, Nat.reduceLeDiff, Nat.reduceSub, Nat.reduceEqDiff, reduceCtorEq, reduceIte, ↓Opt.is, ↓Opt.no, ↓Asks.yes, ↓Asks.no, tyL, encL, asB]))
      refine Kw.ac ?_; simp only [evD, evL, iteL, St.said, St.asked, evStep, evOp, evP, St.init, St.app, srcStep, kill, setMany, loadS, fieldS, buildS, toks, Fin, upd_app, Array.isEmpty, Nat.reduceLT, Nat.reduceAdd, Nat.reduceMul, Nat.reduceLeDiff, Nat.reduceSub, Nat.reduceEqDiff, reduceCtorEq, reduceIte, ↓Opt.is, ↓Opt.no, ↓Asks.yes, ↓Asks.no, tyL, encL]
      refine ⟨_, hlw, ?_⟩; (repeat (first | refine ap (by rfl : apartB 0 _ _ = true) ?_ | refine ap (by simp [osL, D.flat]) ?_)); repeat (first | refine aq ?_ | refine ap (by rfl : apartB 0 _ _ = true) ?_ | refine ak ?_ | refine ab ?_ | refine al ?_ | ((first | refine ar ?_ | refine ad ty_mix (by kernel_rfl) ?_ | refine ac ?_ | refine ae ?_ | with_reducible refine Later.mk ?_); simp only [evD, evL, iteL, St.said, St.asked, evStep, evOp, evP, St.init, St.app, srcStep, kill, setMany, loadS, fieldS, buildS, toks, Fin, upd_app, Array.isEmpty, Nat.reduceLT, Nat.reduceAdd, Nat.reduceMul, Nat.reduceLeDiff, Nat.reduceSub, Nat.reduceEqDiff, reduceCtorEq, reduceIte, ↓Opt.is, ↓Opt.no, ↓Asks.yes, ↓Asks.no, tyL, encL, asB]))
      refine ⟨by simp only [maxLen]; omega, by omega, ?_⟩
      repeat (first | refine aq ?_ | refine ap (by rfl : apartB 0 _ _ = true) ?_ | refine ak ?_ | refine ab ?_ | refine al ?_ | ((first | refine ar ?_ | refine ad ty_mix (by kernel_rfl) ?_ | refine ac ?_ | refine ae ?_ | with_reducible refine Later.mk ?_); simp only [evD, evL, iteL, St.said, St.asked, evStep, evOp, evP, St.init, St.app, srcStep, kill, setMany, loadS, fieldS, buildS, toks, Fin, upd_app, Array.isEmpty, Nat.reduceLT, Nat.reduceAdd, Nat.reduceMul, Nat.reduceLeDiff, Nat.reduceSub, Nat.reduceEqDiff, reduceCtorEq, reduceIte, ↓Opt.is, ↓Opt.no, ↓Asks.yes, ↓Asks.no, tyL, encL, asB]))
      refine Kw.ac ?_; simp only [evD, evL, iteL, St.said, St.asked, evStep, evOp, evP, St.init, St.app, srcStep, kill, setMany, loadS, fieldS, buildS, toks, Fin, upd_app, Array.isEmpty, Nat.reduceLT, Nat.reduceAdd, Nat.reduceMul, Nat.reduceLeDiff, Nat.reduceSub, Nat.reduceEqDiff, reduceCtorEq, reduceIte, ↓Opt.is, ↓Opt.no, ↓Asks.yes, ↓Asks.no, tyL, encL]
      refine ⟨_, hn1, ?_⟩; (repeat (first | refine ap (by rfl : apartB 0 _ _ = true) ?_ | refine ap (by simp [osL, D.flat]) ?_)); repeat (first | refine aq ?_ | refine ap (by rfl : apartB 0 _ _ = true) ?_ | refine ak ?_ | refine ab ?_ | refine al ?_ | ((first | refine ar ?_ | refine ad ty_mix (by kernel_rfl) ?_ | refine ac ?_ | refine ae ?_ | with_reducible refine Later.mk ?_); simp only [evD, evL, iteL, St.said, St.asked, evStep, evOp, evP, St.init, St.app, srcStep, kill, setMany, loadS, fieldS, buildS, toks, Fin, upd_app, Array.isEmpty, Nat.reduceLT, Nat.reduceAdd, Nat.reduceMul, Nat.reduceLeDiff, Nat.reduceSub, Nat.reduceEqDiff, reduceCtorEq, reduceIte, ↓Opt.is, ↓Opt.no, ↓Asks.yes, ↓Asks.no, tyL, encL, asB]))
      refine Kw.ac ?_; simp only [evD, evL, iteL, St.said, St.asked, evStep, evOp, evP, St.init, St.app, srcStep, kill, setMany, loadS, fieldS, buildS, toks, Fin, upd_app, Array.isEmpty, Nat.reduceLT, Nat.reduceAdd, Nat.reduceMul, Nat.reduceLeDiff, Nat.reduceSub, Nat.reduceEqDiff, reduceCtorEq, reduceIte, ↓Opt.is, ↓Opt.no, ↓Asks.yes, ↓Asks.no, tyL, encL]
      refine ⟨_, hb1, ?_⟩; (repeat (first | refine ap (by rfl : apartB 0 _ _ = true) ?_ | refine ap (by simp [osL, D.flat]) ?_)); repeat (first | refine aq ?_ | refine ap (by rfl : apartB 0 _ _ = true) ?_ | refine ak ?_ | refine ab ?_ | refine al ?_ | ((first | refine ar ?_ | refine ad ty_mix (by kernel_rfl) ?_ | refine ac ?_ | refine ae ?_ | with_reducible refine Later.mk ?_); simp only [evD, evL, iteL, St.said, St.asked, evStep, evOp, evP, St.init, St.app, srcStep, kill, setMany, loadS, fieldS, buildS, toks, Fin, upd_app, Array.isEmpty, Nat.reduceLT, Nat.reduceAdd, Nat.reduceMul, Nat.reduceLeDiff, Nat.reduceSub, Nat.reduceEqDiff, reduceCtorEq, reduceIte, ↓Opt.is, ↓Opt.no, ↓Asks.yes, ↓Asks.no, tyL, encL, hw, asB]))
      refine Kw.ac ?_; simp only [evD, evL, iteL, St.said, St.asked, evStep, evOp, evP, St.init, St.app, srcStep, kill, setMany, loadS, fieldS, buildS, toks, Fin, upd_app, Array.isEmpty, Nat.reduceLT, Nat.reduceAdd, Nat.reduceMul, Nat.reduceLeDiff, Nat.reduceSub, Nat.reduceEqDiff, reduceCtorEq, reduceIte, ↓Opt.is, ↓Opt.no, ↓Asks.yes, ↓Asks.no, tyL, encL]
      refine ⟨_, hn2, ?_⟩; (repeat (first | refine ap (by rfl : apartB 0 _ _ = true) ?_ | refine ap (by simp [osL, D.flat]) ?_)); repeat (first | refine aq ?_ | refine ap (by rfl : apartB 0 _ _ = true) ?_ | refine ak ?_ | refine ab ?_ | refine al ?_ | ((first | refine ar ?_ | refine ad ty_mix (by kernel_rfl) ?_ | refine ac ?_ | refine ae ?_ | with_reducible refine Later.mk ?_); simp only [evD, evL, iteL, St.said, St.asked, evStep, evOp, evP, St.init, St.app, srcStep, kill, setMany, loadS, fieldS, buildS, toks, Fin, upd_app, Array.isEmpty, Nat.reduceLT, Nat.reduceAdd, Nat.reduceMul, Nat.reduceLeDiff, Nat.reduceSub, Nat.reduceEqDiff, reduceCtorEq, reduceIte, ↓Opt.is, ↓Opt.no, ↓Asks.yes, ↓Asks.no, tyL, encL, asB]))
      refine Kw.ac ?_; simp only [evD, evL, iteL, St.said, St.asked, evStep, evOp, evP, St.init, St.app, srcStep, kill, setMany, loadS, fieldS, buildS, toks, Fin, upd_app, Array.isEmpty, Nat.reduceLT, Nat.reduceAdd, Nat.reduceMul, Nat.reduceLeDiff, Nat.reduceSub, Nat.reduceEqDiff, reduceCtorEq, reduceIte, ↓Opt.is, ↓Opt.no, ↓Asks.yes, ↓Asks.no, tyL, encL]
      refine ⟨_, hb2, ?_⟩; (repeat (first | refine ap (by rfl : apartB 0 _ _ = true) ?_ | refine ap (by simp [osL, D.flat]) ?_)); repeat (first | refine aq ?_ | refine ap (by rfl : apartB 0 _ _ = true) ?_ | refine ak ?_ | refine ab ?_ | refine al ?_ | ((first | refine ar ?_ | refine ad ty_mix (by kernel_rfl) ?_ | refine ac ?_ | refine ae ?_ | with_reducible refine Later.mk ?_); simp only [evD, evL, iteL, St.said, St.asked, evStep, evOp, evP, St.init, St.app, srcStep, kill, setMany, loadS, fieldS, buildS, toks, Fin, upd_app, Array.isEmpty, Nat.reduceLT, Nat.reduceAdd, Nat.reduceMul, Nat.reduceLeDiff, Nat.reduceSub, Nat.reduceEqDiff, reduceCtorEq, reduceIte, ↓Opt.is, ↓Opt.no, ↓Asks.yes, ↓Asks.no, tyL, encL, asB]))
      refine ⟨(out ++ [x], k'), by simp only; omega, ⟨hu, hk', fun y hy => ?_, by simp only [List.length_append, List.length_singleton]; omega⟩, ?_⟩
      · rcases List.mem_append.1 hy with hy | hy
        · exact ho y hy
        · rw [List.mem_singleton] at hy; subst hy; exact hxo
      · ((first | refine Le.mk rfl ?_ ?_ | refine LeTo.mk rfl ?_ ?_) <;> simp only [evD, evL, iteL, St.said, St.asked, evStep, evOp, evP, St.init, St.app, srcStep, kill, setMany, loadS, fieldS, buildS, toks, Fin, upd_app, Array.isEmpty, Nat.reduceLT, Nat.reduceAdd, Nat.reduceMul, Nat.reduceLeDiff, Nat.reduceSub, Nat.reduceEqDiff, reduceCtorEq, reduceIte, ↓Opt.is, ↓Opt.no, ↓Asks.yes, ↓Asks.no, tyL, encL, leL, leD, ne_eq, List.map_append, List.map_cons, List.map_nil, encI, frL, wfI])
end Go.Proofs.YtlhdagpimcafaaaDoor.Ab

/- Chapter 21: UnitPropagation, IsRUPClause and IsValidProof, in the program. -/
open Go Go.Proofs Go.RowKit
namespace Go.Proofs.YtlhdagpimcafaaaDoor.Ab
set_option linter.unusedSimpArgs false
set_option linter.unusedVariables false
set_option maxRecDepth 100000
def upOk (n : Int) (L : List (List Int)) (l : List Int) : Bool := clausesOk n L && clauseOk n l
def upL (n : Int) (L : List (List Int)) (l : List Int) : List Int := if upOk n L l = true then (units L l).1 else l
def upB (n : Int) (L : List (List Int)) (l : List Int) : Bool := upOk n L l && (units L l).2
def rupC (n : Int) (L : List (List Int)) (l : List Int) : Bool := upOk n L l && (units L (negP l)).2
def rupsL (L : List (List Int)) : List (List Int) → Bool
  | [] => true
  | c :: P => (units L (negP c)).2 && rupsL (L ++ [c]) P
def lastE (P : List (List Int)) : Bool := decide ((P.getD (P.length - 1) []).length = 0)
def prfV (n : Int) (L P : List (List Int)) : Bool := clausesOk n L && (!decide (P.length = 0) && (P.all (clauseOk n) && (rupsL L P && lastE P)))
theorem ok_bounds {n : Int} {L : List (List Int)} (h : clausesOk n L = true) : 0 ≤ n ∧ n ≤ 14 ∧ L.length ≤ 400 ∧ ∀ l, l ∈ L → clauseOk n l = true := by
  unfold clausesOk inB at h
  simp only [Bool.and_eq_true, decide_eq_true_eq, List.all_eq_true] at h
  exact ⟨h.1.1, h.1.2, h.2.1, h.2.2⟩
theorem isImplied_a {n : Int} (hn : n ≤ 14) {L : List (List Int)} {l : List Int} (hL : L.length ≤ 2097152) (hl : l.length ≤ 1048576) (hok : ∀ c, c ∈ L → clauseOk n c = true) (hlo : clauseOk n l = true) :
    AC Tryd.prog 37 [.d (.sl ((setsL L).map encU)), .d (encIs l)] (.d (.v (.bool (units L (negP l)).2))) := by
  have hc1 := implNegate_a hl hn (clause_ok hlo)
  have hc2 := propagate_a hn hL (l := negP l) (by unfold negP; rw [List.length_map]; exact hl) hok (clauseOk_neg hlo)
  refine AC.intro Tryd.func37 rfl (by decide) (by simp [S.res, S.ress]) (by simp [S.os, S.oss]) (by simp [S.wfs, S.wf, dbS]) (by simp [Tryd.f37]) ?_; rw [Tryd.ntmps37]
  repeat (first | refine aq ?_ | refine ap (by rfl : apartB 0 _ _ = true) ?_ | refine ak ?_ | refine ab ?_ | refine al ?_ | ((first | refine ar ?_ | refine ad ty_mix (by kernel_rfl) ?_ | refine ac ?_ | refine ae ?_ | with_reducible refine Later.mk ?_); simp only [evD, evL, iteL, St.said, St.asked, evStep, evOp, evP, St.init, St.app, srcStep, kill, setMany, loadS, fieldS, buildS, toks, Fin, upd_app, Array.isEmpty, Nat.reduceLT, Nat.reduceAdd, Nat.reduceMul, Nat.reduceLeDiff, Nat.reduceSub, Nat.reduceEqDiff, reduceCtorEq, reduceIte, ↓Opt.is, ↓Opt.no, ↓Asks.yes, ↓Asks.no, tyL, encL, asB]))
  refine ⟨_, hc1, ?_⟩; (repeat (first | refine ap (by rfl : apartB 0 _ _ = true) ?_ | refine ap (by simp [osL, D.flat]) ?_)); repeat (first | refine aq ?_ | refine ap (by rfl : apartB 0 _ _ = true) ?_ | refine ak ?_ | refine ab ?_ | refine al ?_ | ((first | refine ar ?_ | refine ad ty_mix (by kernel_rfl) ?_ | refine ac ?_ | refine ae ?_ | with_reducible refine Later.mk ?_); simp only [evD, evL, iteL, St.said, St.asked, evStep, evOp, evP, St.init, St.app, srcStep, kill, setMany, loadS, fieldS, buildS, toks, Fin, upd_app, Array.isEmpty, Nat.reduceLT, Nat.reduceAdd, Nat.reduceMul, Nat.reduceLeDiff, Nat.reduceSub, Nat.reduceEqDiff, reduceCtorEq, reduceIte, ↓Opt.is, ↓Opt.no, ↓Asks.yes, ↓Asks.no, tyL, encL, asB]))
  refine ⟨_, hc2, ?_⟩; (repeat (first | refine ap (by rfl : apartB 0 _ _ = true) ?_ | refine ap (by simp [osL, D.flat]) ?_)); repeat (first | refine aq ?_ | refine ap (by rfl : apartB 0 _ _ = true) ?_ | refine ak ?_ | refine ab ?_ | refine al ?_ | ((first | refine ar ?_ | refine ad ty_mix (by kernel_rfl) ?_ | refine ac ?_ | refine ae ?_ | with_reducible refine Later.mk ?_); simp only [evD, evL, iteL, St.said, St.asked, evStep, evOp, evP, St.init, St.app, srcStep, kill, setMany, loadS, fieldS, buildS, toks, Fin, upd_app, Array.isEmpty, Nat.reduceLT, Nat.reduceAdd, Nat.reduceMul, Nat.reduceLeDiff, Nat.reduceSub, Nat.reduceEqDiff, reduceCtorEq, reduceIte, ↓Opt.is, ↓Opt.no, ↓Asks.yes, ↓Asks.no, tyL, encL, asB]))
  refine Ab.ret ?_; simp only [evD, evL, iteL, St.said, St.asked, evStep, evOp, evP, St.init, St.app, srcStep, kill, setMany, loadS, fieldS, buildS, toks, Fin, upd_app, Array.isEmpty, Nat.reduceLT, Nat.reduceAdd, Nat.reduceMul, Nat.reduceLeDiff, Nat.reduceSub, Nat.reduceEqDiff, reduceCtorEq, reduceIte, ↓Opt.is, ↓Opt.no, ↓Asks.yes, ↓Asks.no, tyL, List.nodup_cons, encL, Tryd.f37]
end Go.Proofs.YtlhdagpimcafaaaDoor.Ab

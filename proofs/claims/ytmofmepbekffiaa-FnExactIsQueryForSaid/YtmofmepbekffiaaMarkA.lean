/- The laws' marks: numbers written into every place of a datum, and read again. The text of a mark, marks in a slice of numbers. -/
import Derived.Test.YtmofmepbekffiaaTyA
import Derived.Lib.ItoaLen
namespace Go.Proofs.Ytmofmepbekffiaa
open Go.RowKit
set_option linter.unusedVariables false
set_option maxRecDepth 100000

/-- From w to w' nothing has turned but in the blocks F, and what is new. -/
structure Only (F : List Nat) (w w' : World) : Prop where
  os : w'.os = w.os
  tape : w'.tape = w.tape
  output : w'.output = w.output
  size : w.heap.size ≤ w'.heap.size
  block : ∀ k, k < w.heap.size → k ∉ F → w'.heap[k]? = w.heap[k]?
theorem Only.refl (F : List Nat) (w : World) : Only F w w := ⟨rfl, rfl, rfl, Nat.le_refl _, fun _ _ _ => rfl⟩
theorem Only.trans {F G H : List Nat} {a b c : World} (h : Only F a b) (k : Only G b c) (hF : ∀ x, x ∈ F → x ∈ H) (hG : ∀ x, x ∈ G → x ∈ H) : Only H a c :=
  ⟨k.os.trans h.os, k.tape.trans h.tape, k.output.trans h.output, Nat.le_trans h.size k.size, fun i hi hn => (k.block i (Nat.lt_of_lt_of_le hi h.size) (fun x => hn (hG i x))).trans (h.block i hi (fun x => hn (hF i x)))⟩
theorem Only.of_below {F : List Nat} {w w' : World} (h : Below w.heap.size w w') : Only F w w' := ⟨h.os, h.tape, h.output, h.size, fun k hk _ => h.block k hk⟩
theorem Only.setCell {F : List Nat} {a w : World} (h : Only F a w) {p : Addr} (hp : p.block ∈ F) (u : Value) : Only F a (w.setCell p u) :=
  h.trans (G := [p.block]) (H := F) ⟨rfl, rfl, rfl, by simp [World.setCell], fun k hk hn => Below.heap_setCell _ _ _ _ (by simpa using hn)⟩ (fun _ h => h) (fun x hx => by simp at hx; exact hx ▸ hp)
theorem Only.below {F : List Nat} {w w' : World} {B : Nat} (h : Only F w w') (hF : ∀ k, k ∈ F → B ≤ k) (hB : B ≤ w.heap.size) : Below B w w' :=
  ⟨h.os, h.tape, h.output, h.size, fun k hk => h.block k (by omega) (fun hm => by have := hF k hm; omega)⟩
theorem Cod.keepOnly {α : Type} {c : Cod α} {F G : List Nat} {w w' : World} {x : α} {cs : List Value} (h : c.own F w x cs) (ho : Only G w w') (hs : ∀ k, k ∈ F → k < w.heap.size) (hd : ∀ k, k ∈ F → k ∉ G) : c.own F w' x cs :=
  c.keepO h (fun k hk => ho.block k (hs k hk) (hd k hk))

/-- A step that turns the blocks F alone, seen from what stands elsewhere. -/
theorem OwnIn.only {α : Type} {c : Cod α} {lo hi lo' hi' : Nat} {F : List Nat} {w w' : World} {x : α} {cs : List Value} (h : OwnIn c lo hi w x cs) (ho : Only F w w') (hF : ∀ k, k ∈ F → lo' ≤ k ∧ k < hi') (hs : hi ≤ w.heap.size) (hd : hi ≤ lo' ∨ hi' ≤ lo) : OwnIn c lo hi w' x cs := by
  obtain ⟨G, h1, h2⟩ := h
  exact ⟨G, c.keepO h1 (fun k hk => ho.block k (by have := (h2 k hk).2; omega) (fun hm => by have := h2 k hk; have := hF k hm; omega)), h2⟩
theorem cell_only {lo' hi' : Nat} {F : List Nat} {w w' : World} {p : Addr} {v : Value} (h : w.cell? p = some v) (ho : Only F w w') (hF : ∀ k, k ∈ F → lo' ≤ k ∧ k < hi') (hd : p.block < lo' ∨ hi' ≤ p.block) : w'.cell? p = some v :=
  (World.cell?_of_block (w := w) (ho.block p.block (World.block_lt_of_cell? w _ h) (fun hm => by have := hF _ hm; omega))).trans h
theorem OwnIn.at {α : Type} {c : Cod α} {lo hi : Nat} {w : World} {x : α} {cs : List Value} (h : OwnIn c lo hi w x cs) (hs : hi ≤ w.heap.size) : At c w x cs := by
  obtain ⟨G, h1, h2⟩ := h
  exact c.ofO h1 (fun k hk => by have := (h2 k hk).2; omega)
theorem OwnIn.next {α : Type} {c : Cod α} {lo hi : Nat} {w W w' : World} {x : α} {cs : List Value} (h : OwnIn c lo hi w x cs) (hs : hi ≤ w.heap.size) (hb : Below W.heap.size W w') (hW : W.heap = w.heap := by rfl) : OwnIn c lo hi w' x cs := by
  obtain ⟨G, h1, h2⟩ := h
  exact ⟨G, c.keepO h1 (fun k hk => by rw [← hW]; exact hb.block k (by rw [hW]; have := (h2 k hk).2; omega)), h2⟩
theorem decDigits_snoc' {u : Nat} (h : ¬ u < 10) : Lib.decDigits u = Lib.decDigits (u / 10) ++ [UInt8.ofNat (48 + u % 10)] := by
  rw [Lib.decDigits, dif_neg h]
/-- The digits of what is left, ahead of those in hand. -/
def mpre (q : Nat) (acc : List UInt8) : List UInt8 := if q = 0 then acc else Lib.decDigits q ++ acc
theorem mpre_step {q : Nat} (h : q ≠ 0) (acc : List UInt8) : mpre q acc = mpre (q / 10) (UInt8.ofNat (48 + q % 10) :: acc) := by
  unfold mpre
  rw [if_neg h]
  by_cases hq : q < 10
  · rw [if_pos (by omega), Lib.decDigits_one hq, Nat.mod_eq_of_lt hq]; rfl
  · rw [if_neg (by omega), decDigits_snoc' hq, List.append_assoc]; rfl
theorem mdig_le (u : Nat) (h : u < 18446744073709551616) : (Lib.decDigits u).length ≤ 20 := by rw [Lib.decDigits_length]; exact Lib.nDigits_le20 u h
theorem mpre_len {q m : Nat} {acc : List UInt8} (H : mpre q acc = Lib.decDigits m) (h : m < 18446744073709551616) : acc.length ≤ 20 := by
  have h1 := mdig_le m h
  rw [← H] at h1
  unfold mpre at h1
  split at h1
  · exact h1
  · rw [List.length_append] at h1; omega
/-- The text of mark m. -/
def mT (m : Nat) : ByteArray := str (109 :: Lib.decDigits m)
theorem mT_size (m : Nat) (h : m < 18446744073709551616) : (mT m).size ≤ 21 := by unfold mT; rw [str_size, List.length_cons]; have := mdig_le m h; omega
set_option maxHeartbeats 800000 in
theorem markText_c (m : Nat) (h0 : 0 < m) (hm : (m : Int) ≤ 4611686018427387904) (w : World) :
    Calls Try.prog 131 #[.int .i64 m] w fun e w' => e = .returned (.string (mT m)) ∧ Below w.heap.size w w' := by
  have hm2 : m < 18446744073709551616 := by omega
  have Hm2 := Lib.hid hm2
  have hle : decide ((m : Int) ≤ 0) = false := decide_eq_false (by omega)
  clear hm2
  go_enter Try.func131, Try.ntmps131
  go_wp2
  go_loopw [0, 3] (fun v o wr => ∃ (q : Nat) (acc : List UInt8), v = .int .i64 q ∧ o = .string (str acc) ∧ q ≤ m ∧ Hid (mpre q acc = Lib.decDigits m) ∧ Below w.heap.size w wr) (fun v _ _ => (intOf v).toNat)
  case atStart => exact ⟨m, [], rfl, rfl, Nat.le_refl _, show _ = _ by rw [mpre, if_neg (by omega), List.append_nil], Below.refl _ _⟩
  case round =>
    obtain ⟨q, acc, rfl, rfl, hq, Hq, hb⟩ := hrel
    by_cases hq0 : q = 0
    · have hE : decide ((0 : Int) < (q : Int)) = false := decide_eq_false (by omega)
      have hE2 : decide (0 < q) = false := decide_eq_false (by omega)
      have hacc : acc = Lib.decDigits m := by rw [← Hq.out, mpre, if_pos hq0]
      have hlen := mpre_len Hq.out Hm2.out
      have Hacc := Lib.hid hacc
      have hsz : (str [109]).size + (str acc).size < 100 := by simp only [str_size, List.length_singleton]; omega
      have hsz' : 1 + (str acc).size < 100 := by simp only [str_size]; omega
      clear hacc hq0
      go_wp2
      go_ret
      exact ⟨by unfold mT; rw [← Hacc.out, show 109 :: acc = [109] ++ acc from rfl, ← str_append]; rfl, hb⟩
    · have hE : decide ((0 : Int) < (q : Int)) = true := decide_eq_true (by omega)
      have hE2 : decide (0 < q) = true := decide_eq_true (by omega)
      have hlen := mpre_len Hq.out Hm2.out
      have hnext := mpre_step hq0 acc
      have Hn := Lib.hid hnext
      have H0 := Lib.hid hq0
      obtain ⟨u, hu⟩ : ∃ u, u = UInt8.ofNat (48 + q % 10) := ⟨_, rfl⟩
      rw [← hu] at Hn
      have hcv := fun ww => run_conv_byte (P := Try.prog) ww 149 9 5 Try.underlying149 Try.underlying5 Try.underlying9 (48 + (q : Int) % 10) u (by rw [hu]; simp; omega)
      have hd : 0 ≤ (q : Int) % 10 := by omega
      have hsz : (str [u]).size + (str acc).size < 100 := by simp only [str_size, List.length_singleton]; omega
      clear hnext hq0 hu
      go_wp2
      go_roundw
      case rel => exact ⟨q / 10, u :: acc, by go_num, by rw [str_append]; rfl, by omega, show _ = _ by rw [← Hn.out, Hq.out], hb.alloc hb.size _⟩
      case measure => simp [intOf]; have := H0.out; omega
end Go.Proofs.Ytmofmepbekffiaa


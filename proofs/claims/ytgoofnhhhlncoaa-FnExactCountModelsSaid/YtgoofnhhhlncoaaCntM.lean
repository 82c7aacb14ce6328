/- Chapter 22: CountModels. -/
import Derived.Test.YtgoofnhhhlncoaaClaA
import Derived.Test.YtgoofnhhhlncoaaCloOne
import Derived.Test.YtgoofnhhhlncoaaAbGenU
import Derived.Test.YtgoofnhhhlncoaaSat2
open Go Go.Proofs Go.RowKit
namespace Go.Proofs.Ytgoofnhhhlncoaa.Ab
set_option linter.unusedSimpArgs false
set_option linter.unusedVariables false
set_option maxRecDepth 100000
def encBs (l : List Bool) : D := .sl (l.map fun b => [.v (.bool b)])
/-- The model of n facts that a number's bits say. -/
def modelN (n k : Nat) : List Bool := (List.range n).map fun v => k.testBit v
theorem modelN_at {n k p : Nat} (h : p < n) : (modelN n k)[p]? = some (k.testBit p) := by simp [modelN, h]
theorem modelN_succ (n k : Nat) : modelN (n + 1) k = modelN n k ++ [k.testBit n] := by
  unfold modelN
  rw [List.range_succ, List.map_append]
  rfl
theorem modelN_len (n k : Nat) : (modelN n k).length = n := by simp [modelN]
def cntL (n : Int) (L : List (List Int)) : Int := if clausesOk n L = true then (((List.range (2 ^ n.toNat)).countP fun k => satC L (modelN n.toNat k) : Nat) : Int) else 0
/-- The number of a literal among the bits. -/
def litN (x : Int) : Int := if 0 < x then foL x else 14 + foL x
theorem litN_in {n x : Int} (hn : n ≤ 14) (h : litOk n x = true) : 0 ≤ litN x ∧ litN x < 64 := by
  have := foL_in h
  unfold litN
  split <;> omega
def trueB (n k : Nat) : Nat := k ||| (wo (2 ^ n - 1) k) * 2 ^ 14
theorem pow14 {n : Nat} (h : n ≤ 14) : 2 ^ n ≤ 16384 := Nat.pow_le_pow_right (n := 2) (j := 14) (by omega) h
theorem trueB_test {n k : Nat} (hn : n ≤ 14) (hk : k < 2 ^ n) (i : Nat) : (trueB n k).testBit i = (k.testBit i || (decide (14 ≤ i) && (decide (i - 14 < n) && !k.testBit (i - 14)))) := by
  have h1 := pow14 hn
  unfold trueB
  rw [Nat.testBit_or, Nat.testBit_mul_two_pow, wo_test (by omega) (by omega), Nat.testBit_two_pow_sub_one]
theorem and_bits {b : Nat} {l : List Int} (h : in64 l) : decide (b &&& bitsI l ≠ 0) = l.any fun x => b.testBit x.toNat := by
  rw [Bool.eq_iff_iff, decide_eq_true_eq, and_ne, List.any_eq_true]
  constructor
  · rintro ⟨i, h1, h2⟩
    rw [bitsI_test l h] at h2
    exact ⟨(i : Int), List.contains_iff_mem.1 h2, by simpa using h1⟩
  · rintro ⟨x, h1, h2⟩
    refine ⟨x.toNat, h2, ?_⟩
    rw [bitsI_test l h, List.contains_iff_mem, Int.toNat_of_nonneg (h x h1).1]
    exact h1
theorem lit_true {n k : Nat} (hn : n ≤ 14) (hk : k < 2 ^ n) {x : Int} (h : litOk (n : Int) x = true) : (trueB n k).testBit (litN x).toNat = litT (modelN n k) x := by
  rw [trueB_test hn hk]
  have hin := foL_in h
  unfold litOk at h
  simp only [Bool.and_eq_true, decide_eq_true_eq] at h
  have hb : ∀ i, n ≤ i → k.testBit i = false := fun i hi => Nat.testBit_lt_two_pow (Nat.lt_of_lt_of_le hk (Nat.pow_le_pow_right (n := 2) (by omega) hi))
  by_cases hx : 0 < x
  · obtain ⟨p, rfl⟩ : ∃ p : Nat, x = (p : Int) + 1 := ⟨(x - 1).toNat, by omega⟩
    have hp : p < n := by omega
    have e : (litN ((p : Int) + 1)).toNat = p := by unfold litN; rw [if_pos (by omega), foL_pos]; omega
    rw [e, litT_pos, modelN_at hp]
    have : ¬ 14 ≤ p := by omega
    simp [this]
  · obtain ⟨p, rfl⟩ : ∃ p : Nat, x = -(p : Int) - 1 := ⟨(-x - 1).toNat, by omega⟩
    have hp : p < n := by omega
    have e : (litN (-(p : Int) - 1)).toNat = 14 + p := by unfold litN; rw [if_neg (by omega), foL_neg]; omega
    rw [e, litT_neg, modelN_at hp, hb (14 + p) (by omega), Nat.add_sub_cancel_left]
    simp [hp]
theorem clause_ok {n : Int} {l : List Int} (h : clauseOk n l = true) : ∀ x, x ∈ l → litOk n x = true := by
  have gen : ∀ (l ps : List Int), clauseFrom n ps l = true → ∀ x, x ∈ l → litOk n x = true := by
    intro l
    induction l with
    | nil => intro ps _ x hx; cases hx
    | cons y l ih =>
      intro ps hp x hx
      simp only [clauseFrom, Bool.and_eq_true] at hp
      rcases List.mem_cons.1 hx with rfl | hx
      · exact hp.1
      · exact ih _ hp.2.2 x hx
  exact gen l [] h
theorem lits_in {n : Int} (hn : n ≤ 14) {l : List Int} (h : clauseOk n l = true) : in64 (l.map litN) := by
  intro x hx
  obtain ⟨y, hy, rfl⟩ := List.mem_map.1 hx
  exact litN_in hn (clause_ok h y hy)
theorem clause_true {n k : Nat} (hn : n ≤ 14) (hk : k < 2 ^ n) {l : List Int} (h : clauseOk (n : Int) l = true) : decide (trueB n k &&& bitsI (l.map litN) ≠ 0) = clauseT (modelN n k) l := by
  rw [and_bits (lits_in (by omega) h), List.any_map]
  unfold clauseT
  rw [Bool.eq_iff_iff, List.any_eq_true, List.any_eq_true]
  constructor
  · rintro ⟨x, h1, h2⟩
    exact ⟨x, h1, by rw [← lit_true hn hk (clause_ok h x h1)]; exact h2⟩
  · rintro ⟨x, h1, h2⟩
    exact ⟨x, h1, by rw [← lit_true hn hk (clause_ok h x h1)] at h2; exact h2⟩
theorem literalNumber_a {x : Int} (hx : inR x) (h : -2000000 ≤ x) (h2 : x ≤ 2000000) : AC Try.prog 217 [.d (.v (.int .i64 x))] (.d (.v (.int .i64 (litN x)))) := by
  have hc := factOf_a hx
  unfold litN
  by_cases h3 : 0 < x
  · have hg : x > 0 := h3
    rw [if_pos h3]
    refine AC.intro Try.func217 rfl (by decide) (by simp [S.res, S.ress]) (by simp [S.os, S.oss]) (by simp [S.wfs, S.wf, dbS]) (by simp [Try.f217]) ?_; rw [Try.ntmps217]
    repeat (first | refine aq ?_ | refine ap (by rfl : apartB 0 _ _ = true) ?_ | refine ak ?_ | refine ab ?_ | refine al ?_ | ((first | refine ar ?_ | refine ad ty_mix (by kernel_rfl) ?_ | refine ac ?_ | refine ae ?_ | with_reducible refine Later.mk ?_); simp only [evD, evL, iteL, St.said, St.asked, evStep, evOp, evP, St.init, St.app, srcStep, kill, setMany, loadS, fieldS, buildS, toks, Fin, upd_app, Array.isEmpty, Nat.reduceLT, Nat.reduceAdd, Nat.reduceMul, Nat.reduceLeDiff, Nat.reduceSub, Nat.reduceEqDiff, reduceCtorEq, reduceIte, ↓Opt.is, ↓Opt.no, ↓Asks.yes, ↓Asks.no, tyL, encL, hg, asB]))
    refine ⟨_, hc, ?_⟩; (repeat (first | refine ap (by rfl : apartB 0 _ _ = true) ?_ | refine ap (by simp [osL, D.flat]) ?_)); repeat (first | refine aq ?_ | refine ap (by rfl : apartB 0 _ _ = true) ?_ | refine ak ?_ | refine ab ?_ | refine al ?_ | ((first | refine ar ?_ | refine ad ty_mix (by kernel_rfl) ?_ | refine ac ?_ | refine ae ?_ | with_reducible refine Later.mk ?_); simp only [evD, evL, iteL, St.said, St.asked, evStep, evOp, evP, St.init, St.app, srcStep, kill, setMany, loadS, fieldS, buildS, toks, Fin, upd_app, Array.isEmpty, Nat.reduceLT, Nat.reduceAdd, Nat.reduceMul, Nat.reduceLeDiff, Nat.reduceSub, Nat.reduceEqDiff, reduceCtorEq, reduceIte, ↓Opt.is, ↓Opt.no, ↓Asks.yes, ↓Asks.no, tyL, encL, asB]))
    refine Ab.ret ?_; simp only [evD, evL, iteL, St.said, St.asked, evStep, evOp, evP, St.init, St.app, srcStep, kill, setMany, loadS, fieldS, buildS, toks, Fin, upd_app, Array.isEmpty, Nat.reduceLT, Nat.reduceAdd, Nat.reduceMul, Nat.reduceLeDiff, Nat.reduceSub, Nat.reduceEqDiff, reduceCtorEq, reduceIte, ↓Opt.is, ↓Opt.no, ↓Asks.yes, ↓Asks.no, tyL, List.nodup_cons, encL, Try.f217]
  · have hg : ¬ x > 0 := h3
    rw [if_neg h3]
    have hw : IntKind.i64.wrap (14 + foL x) = 14 + foL x := by
      rw [IntKind.wrap_i64]
      unfold foL
      split <;> omega
    refine AC.intro Try.func217 rfl (by decide) (by simp [S.res, S.ress]) (by simp [S.os, S.oss]) (by simp [S.wfs, S.wf, dbS]) (by simp [Try.f217]) ?_; rw [Try.ntmps217]
    repeat (first | refine aq ?_ | refine ap (by rfl : apartB 0 _ _ = true) ?_ | refine ak ?_ | refine ab ?_ | refine al ?_ | ((first | refine ar ?_ | refine ad ty_mix (by kernel_rfl) ?_ | refine ac ?_ | refine ae ?_ | with_reducible refine Later.mk ?_); simp only [evD, evL, iteL, St.said, St.asked, evStep, evOp, evP, St.init, St.app, srcStep, kill, setMany, loadS, fieldS, buildS, toks, Fin, upd_app, Array.isEmpty, Nat.reduceLT, Nat.reduceAdd, Nat.reduceMul, Nat.reduceLeDiff, Nat.reduceSub, Nat.reduceEqDiff, reduceCtorEq, reduceIte, ↓Opt.is, ↓Opt.no, ↓Asks.yes, ↓Asks.no, tyL, encL, hg, asB]))
    refine ⟨_, hc, ?_⟩; (repeat (first | refine ap (by rfl : apartB 0 _ _ = true) ?_ | refine ap (by simp [osL, D.flat]) ?_)); repeat (first | refine aq ?_ | refine ap (by rfl : apartB 0 _ _ = true) ?_ | refine ak ?_ | refine ab ?_ | refine al ?_ | ((first | refine ar ?_ | refine ad ty_mix (by kernel_rfl) ?_ | refine ac ?_ | refine ae ?_ | with_reducible refine Later.mk ?_); simp only [evD, evL, iteL, St.said, St.asked, evStep, evOp, evP, St.init, St.app, srcStep, kill, setMany, loadS, fieldS, buildS, toks, Fin, upd_app, Array.isEmpty, Nat.reduceLT, Nat.reduceAdd, Nat.reduceMul, Nat.reduceLeDiff, Nat.reduceSub, Nat.reduceEqDiff, reduceCtorEq, reduceIte, ↓Opt.is, ↓Opt.no, ↓Asks.yes, ↓Asks.no, tyL, encL, hw, asB]))
    refine Ab.ret ?_; simp only [evD, evL, iteL, St.said, St.asked, evStep, evOp, evP, St.init, St.app, srcStep, kill, setMany, loadS, fieldS, buildS, toks, Fin, upd_app, Array.isEmpty, Nat.reduceLT, Nat.reduceAdd, Nat.reduceMul, Nat.reduceLeDiff, Nat.reduceSub, Nat.reduceEqDiff, reduceCtorEq, reduceIte, ↓Opt.is, ↓Opt.no, ↓Asks.yes, ↓Asks.no, tyL, List.nodup_cons, encL, Try.f217]
theorem literalSet_a {n : Int} (hn : n ≤ 14) {l : List Int} (hl : l.length ≤ 1048576) (h : clauseOk n l = true) (hr : ∀ x, x ∈ l → inR x) : AC Try.prog 187 [.d (encIs l)] (.d (.v (.int .u64 (bitsI (l.map litN) : Nat)))) := by
  have hcv := convertAll_int_int caps_nil litN l hl (fun x hx => by
    have h1 := clause_ok h x hx
    unfold litOk at h1
    simp only [Bool.and_eq_true, decide_eq_true_eq] at h1
    exact literalNumber_a (hr x hx) (by omega) (by omega))
  have hb := bitSetOf_a (l.map litN) (by rw [List.length_map]; exact hl) (lits_in hn h)
  refine AC.intro Try.func187 rfl (by decide) (by simp [S.res, S.ress]) (by simp [S.os, S.oss]) (by simp [S.wfs, S.wf, dbS]) (by simp [Try.f187]) ?_; rw [Try.ntmps187]
  repeat (first | refine aq ?_ | refine ap (by rfl : apartB 0 _ _ = true) ?_ | refine ak ?_ | refine ab ?_ | refine al ?_ | ((first | refine ar ?_ | refine ad ty_mix (by kernel_rfl) ?_ | refine ac ?_ | refine ae ?_ | with_reducible refine Later.mk ?_); simp only [evD, evL, iteL, St.said, St.asked, evStep, evOp, evP, St.init, St.app, srcStep, kill, setMany, loadS, fieldS, buildS, toks, Fin, upd_app, Array.isEmpty, Nat.reduceLT, Nat.reduceAdd, Nat.reduceMul, Nat.reduceLeDiff, Nat.reduceSub, Nat.reduceEqDiff, reduceCtorEq, reduceIte, ↓Opt.is, ↓Opt.no, ↓Asks.yes, ↓Asks.no, tyL, encL, asB]))
  refine ⟨_, hcv, ?_⟩; (repeat (first | refine ap (by rfl : apartB 0 _ _ = true) ?_ | refine ap (by simp [osL, D.flat]) ?_)); repeat (first | refine aq ?_ | refine ap (by rfl : apartB 0 _ _ = true) ?_ | refine ak ?_ | refine ab ?_ | refine al ?_ | ((first | refine ar ?_ | refine ad ty_mix (by kernel_rfl) ?_ | refine ac ?_ | refine ae ?_ | with_reducible refine Later.mk ?_); simp only [evD, evL, iteL, St.said, St.asked, evStep, evOp, evP, St.init, St.app, srcStep, kill, setMany, loadS, fieldS, buildS, toks, Fin, upd_app, Array.isEmpty, Nat.reduceLT, Nat.reduceAdd, Nat.reduceMul, Nat.reduceLeDiff, Nat.reduceSub, Nat.reduceEqDiff, reduceCtorEq, reduceIte, ↓Opt.is, ↓Opt.no, ↓Asks.yes, ↓Asks.no, tyL, encL, asB]))
  refine ⟨_, hb, ?_⟩; (repeat (first | refine ap (by rfl : apartB 0 _ _ = true) ?_ | refine ap (by simp [osL, D.flat]) ?_)); repeat (first | refine aq ?_ | refine ap (by rfl : apartB 0 _ _ = true) ?_ | refine ak ?_ | refine ab ?_ | refine al ?_ | ((first | refine ar ?_ | refine ad ty_mix (by kernel_rfl) ?_ | refine ac ?_ | refine ae ?_ | with_reducible refine Later.mk ?_); simp only [evD, evL, iteL, St.said, St.asked, evStep, evOp, evP, St.init, St.app, srcStep, kill, setMany, loadS, fieldS, buildS, toks, Fin, upd_app, Array.isEmpty, Nat.reduceLT, Nat.reduceAdd, Nat.reduceMul, Nat.reduceLeDiff, Nat.reduceSub, Nat.reduceEqDiff, reduceCtorEq, reduceIte, ↓Opt.is, ↓Opt.no, ↓Asks.yes, ↓Asks.no, tyL, encL, asB]))
  refine Ab.ret ?_; simp only [evD, evL, iteL, St.said, St.asked, evStep, evOp, evP, St.init, St.app, srcStep, kill, setMany, loadS, fieldS, buildS, toks, Fin, upd_app, Array.isEmpty, Nat.reduceLT, Nat.reduceAdd, Nat.reduceMul, Nat.reduceLeDiff, Nat.reduceSub, Nat.reduceEqDiff, reduceCtorEq, reduceIte, ↓Opt.is, ↓Opt.no, ↓Asks.yes, ↓Asks.no, tyL, List.nodup_cons, encL, Try.f187]
def setsL (L : List (List Int)) : List Nat := L.map fun l => bitsI (l.map litN)
theorem literalSets_a {n : Int} (hn : n ≤ 14) {L : List (List Int)} (hL : L.length ≤ 1048576) (hb : ∀ b, b ∈ L → b.length ≤ 1048576) (hr : ∀ b, b ∈ L → ∀ x, x ∈ b → inR x) (h : ∀ l, l ∈ L → clauseOk n l = true) :
    AC Try.prog 139 [.d (encIss L)] (.o 0 (.sl ((setsL L).map encU))) := by
  have hcv := convertAll_Lint_bitSet caps_nil (fun l => bitsI (l.map litN)) L hL (fun l hl => literalSet_a hn (hb l hl) (h l hl) (hr l hl))
  unfold setsL
  refine AC.intro Try.func139 rfl (by decide) (by simp [S.res, S.ress]) (by simp [S.os, S.oss]) (by simp [S.wfs, S.wf, dbS]) (by simp [Try.f139]) ?_; rw [Try.ntmps139]
  repeat (first | refine aq ?_ | refine ap (by rfl : apartB 0 _ _ = true) ?_ | refine ak ?_ | refine ab ?_ | refine al ?_ | ((first | refine ar ?_ | refine ad ty_mix (by kernel_rfl) ?_ | refine ac ?_ | refine ae ?_ | with_reducible refine Later.mk ?_); simp only [evD, evL, iteL, St.said, St.asked, evStep, evOp, evP, St.init, St.app, srcStep, kill, setMany, loadS, fieldS, buildS, toks, Fin, upd_app, Array.isEmpty, Nat.reduceLT, Nat.reduceAdd, Nat.reduceMul, Nat.reduceLeDiff, Nat.reduceSub, Nat.reduceEqDiff, reduceCtorEq, reduceIte, ↓Opt.is, ↓Opt.no, ↓Asks.yes, ↓Asks.no, tyL, encL, asB]))
  refine ⟨_, hcv, ?_⟩; (repeat (first | refine ap (by rfl : apartB 0 _ _ = true) ?_ | refine ap (by simp [osL, D.flat]) ?_)); repeat (first | refine aq ?_ | refine ap (by rfl : apartB 0 _ _ = true) ?_ | refine ak ?_ | refine ab ?_ | refine al ?_ | ((first | refine ar ?_ | refine ad ty_mix (by kernel_rfl) ?_ | refine ac ?_ | refine ae ?_ | with_reducible refine Later.mk ?_); simp only [evD, evL, iteL, St.said, St.asked, evStep, evOp, evP, St.init, St.app, srcStep, kill, setMany, loadS, fieldS, buildS, toks, Fin, upd_app, Array.isEmpty, Nat.reduceLT, Nat.reduceAdd, Nat.reduceMul, Nat.reduceLeDiff, Nat.reduceSub, Nat.reduceEqDiff, reduceCtorEq, reduceIte, ↓Opt.is, ↓Opt.no, ↓Asks.yes, ↓Asks.no, tyL, encL, asB]))
  refine Ab.ret ?_; simp only [evD, evL, iteL, St.said, St.asked, evStep, evOp, evP, St.init, St.app, srcStep, kill, setMany, loadS, fieldS, buildS, toks, Fin, upd_app, Array.isEmpty, Nat.reduceLT, Nat.reduceAdd, Nat.reduceMul, Nat.reduceLeDiff, Nat.reduceSub, Nat.reduceEqDiff, reduceCtorEq, reduceIte, ↓Opt.is, ↓Opt.no, ↓Asks.yes, ↓Asks.no, tyL, List.nodup_cons, encL, Try.f139]
theorem shl1 {n : Nat} (hn : n ≤ 14) : IntKind.u64.wrap ((1 : Int) * 2 ^ min n IntKind.u64.bits) = ((2 ^ n : Nat) : Int) := bShl n (by omega)
theorem firstNumbers_a {n : Nat} (hn : n ≤ 14) : AC Try.prog 140 [.d (.v (.int .i64 (n : Int)))] (.d (.v (.int .u64 (2 ^ n - 1 : Nat)))) := by
  have h1 := pow14 hn
  have h2 : 0 < 2 ^ n := Nat.two_pow_pos n
  have h0 : ((n : Int) < 0) = False := eq_false (by omega)
  have e1 := shl1 hn
  have e2 : IntKind.u64.wrap (((2 ^ n : Nat) : Int) - 1) = ((2 ^ n - 1 : Nat) : Int) := by rw [IntKind.wrap_u64]; omega
  refine AC.intro Try.func140 rfl (by decide) (by simp [S.res, S.ress]) (by simp [S.os, S.oss]) (by simp [S.wfs, S.wf, dbS]) (by simp [Try.f140]) ?_; rw [Try.ntmps140]
  repeat (first | refine aq ?_ | refine ap (by rfl : apartB 0 _ _ = true) ?_ | refine ak ?_ | refine ab ?_ | refine al ?_ | ((first | refine ar ?_ | refine ad ty_mix (by kernel_rfl) ?_ | refine ac ?_ | refine ae ?_ | with_reducible refine Later.mk ?_); simp only [evD, evL, iteL, St.said, St.asked, evStep, evOp, evP, St.init, St.app, srcStep, kill, setMany, loadS, fieldS, buildS, toks, Fin, upd_app, Array.isEmpty, Nat.reduceLT, Nat.reduceAdd, Nat.reduceMul, Nat.reduceLeDiff, Nat.reduceSub, Nat.reduceEqDiff, reduceCtorEq, reduceIte, ↓Opt.is, ↓Opt.no, ↓Asks.yes, ↓Asks.no, tyL, encL, h0, e1, e2, asB]))
  refine Ab.ret ?_; simp only [evD, evL, iteL, St.said, St.asked, evStep, evOp, evP, St.init, St.app, srcStep, kill, setMany, loadS, fieldS, buildS, toks, Fin, upd_app, Array.isEmpty, Nat.reduceLT, Nat.reduceAdd, Nat.reduceMul, Nat.reduceLeDiff, Nat.reduceSub, Nat.reduceEqDiff, reduceCtorEq, reduceIte, ↓Opt.is, ↓Opt.no, ↓Asks.yes, ↓Asks.no, tyL, List.nodup_cons, encL, Try.f140]
theorem trueLiterals_a {n k : Nat} (hn : n ≤ 14) (hk : k < 2 ^ n) : AC Try.prog 142 [.d (.v (.int .i64 (n : Int))), .d (.v (.int .u64 (k : Int)))] (.d (.v (.int .u64 (trueB n k : Nat)))) := by
  have h1 := pow14 hn
  have hf := firstNumbers_a hn
  have hle := wo_le (2 ^ n - 1) k
  have e1 : IntKind.u64.wrap ((BitVec.ofInt IntKind.u64.bits ((2 ^ n - 1 : Nat) : Int) &&& ~~~ BitVec.ofInt IntKind.u64.bits (k : Int)).toNat : Int) = ((wo (2 ^ n - 1) k : Nat) : Int) := bNdn (2 ^ n - 1) k (by omega) (by omega)
  have e2 : IntKind.u64.wrap (((wo (2 ^ n - 1) k : Nat) : Int) * 2 ^ min 14 IntKind.u64.bits) = ((wo (2 ^ n - 1) k * 2 ^ 14 : Nat) : Int) := by
    show IntKind.u64.wrap (((wo (2 ^ n - 1) k : Nat) : Int) * 2 ^ 14) = _
    rw [IntKind.wrap_u64]
    omega
  have e3 := bOr k (wo (2 ^ n - 1) k * 2 ^ 14) (by omega) (by omega)
  unfold trueB
  generalize wo (2 ^ n - 1) k = X at *
  generalize 2 ^ n - 1 = Y at *
  have h14 : ((14 : Int) < 0) = False := by simp
  have h14b : (14 : Int).toNat = 14 := rfl
  refine AC.intro Try.func142 rfl (by decide) (by simp [S.res, S.ress]) (by simp [S.os, S.oss]) (by simp [S.wfs, S.wf, dbS]) (by simp [Try.f142]) ?_; rw [Try.ntmps142]
  repeat (first | refine aq ?_ | refine ap (by rfl : apartB 0 _ _ = true) ?_ | refine ak ?_ | refine ab ?_ | refine al ?_ | ((first | refine ar ?_ | refine ad ty_mix (by kernel_rfl) ?_ | refine ac ?_ | refine ae ?_ | with_reducible refine Later.mk ?_); simp only [evD, evL, iteL, St.said, St.asked, evStep, evOp, evP, St.init, St.app, srcStep, kill, setMany, loadS, fieldS, buildS, toks, Fin, upd_app, Array.isEmpty, Nat.reduceLT, Nat.reduceAdd, Nat.reduceMul, Nat.reduceLeDiff, Nat.reduceSub, Nat.reduceEqDiff, reduceCtorEq, reduceIte, ↓Opt.is, ↓Opt.no, ↓Asks.yes, ↓Asks.no, tyL, encL, asB]))
  refine ⟨_, hf, ?_⟩; (repeat (first | refine ap (by rfl : apartB 0 _ _ = true) ?_ | refine ap (by simp [osL, D.flat]) ?_)); repeat (first | refine aq ?_ | refine ap (by rfl : apartB 0 _ _ = true) ?_ | refine ak ?_ | refine ab ?_ | refine al ?_ | ((first | refine ar ?_ | refine ad ty_mix (by kernel_rfl) ?_ | refine ac ?_ | refine ae ?_ | with_reducible refine Later.mk ?_); simp only [evD, evL, iteL, St.said, St.asked, evStep, evOp, evP, St.init, St.app, srcStep, kill, setMany, loadS, fieldS, buildS, toks, Fin, upd_app, Array.isEmpty, Nat.reduceLT, Nat.reduceAdd, Nat.reduceMul, Nat.reduceLeDiff, Nat.reduceSub, Nat.reduceEqDiff, reduceCtorEq, reduceIte, ↓Opt.is, ↓Opt.no, ↓Asks.yes, ↓Asks.no, tyL, encL, e1, h14, h14b, e2, e3, asB]))
  refine Ab.ret ?_; simp only [evD, evL, iteL, St.said, St.asked, evStep, evOp, evP, St.init, St.app, srcStep, kill, setMany, loadS, fieldS, buildS, toks, Fin, upd_app, Array.isEmpty, Nat.reduceLT, Nat.reduceAdd, Nat.reduceMul, Nat.reduceLeDiff, Nat.reduceSub, Nat.reduceEqDiff, reduceCtorEq, reduceIte, ↓Opt.is, ↓Opt.no, ↓Asks.yes, ↓Asks.no, tyL, List.nodup_cons, encL, Try.f142]
theorem intersectsAll_a {b : Nat} {l : List Nat} (hb : b < 18446744073709551616) (hl : l.length ≤ 1048576) (h : ∀ x, x ∈ l → x < 18446744073709551616) : AC Try.prog 141 [.d (.v (.int .u64 (b : Int))), .d (.sl (l.map encU))] (.d (.v (.bool (l.all fun x => decide (b &&& x ≠ 0))))) := by
  refine AC.intro Try.func141 rfl (by decide) (by simp [S.res, S.ress]) (by simp [S.os, S.oss]) (by simp [S.wfs, S.wf, dbS]) (by simp [Try.f141]) ?_; rw [Try.ntmps141]
  repeat (first | refine aq ?_ | refine ap (by rfl : apartB 0 _ _ = true) ?_ | refine ak ?_ | refine ab ?_ | refine al ?_ | ((first | refine ar ?_ | refine ad ty_mix (by kernel_rfl) ?_ | refine ac ?_ | refine ae ?_ | with_reducible refine Later.mk ?_); simp only [evD, evL, iteL, St.said, St.asked, evStep, evOp, evP, St.init, St.app, srcStep, kill, setMany, loadS, fieldS, buildS, toks, Fin, upd_app, Array.isEmpty, Nat.reduceLT, Nat.reduceAdd, Nat.reduceMul, Nat.reduceLeDiff, Nat.reduceSub, Nat.reduceEqDiff, reduceCtorEq, reduceIte, ↓Opt.is, ↓Opt.no, ↓Asks.yes, ↓Asks.no, tyL, encL, asB]))
  refine Ab.loopI l.length (fun i => ((l.take i).all fun x => decide (b &&& x ≠ 0)) = true) (fun i => mkS 18 [(0, .d (.v (.int .u64 (b : Int)))), (7, .d (.sl (List.map encU l))), (8, .d (.v (.int .i64 (l.length : Int)))), (9, .d (.v (.int .i64 (i : Int))))] [] 100) rfl ?_ ?_
  · ((first | refine Le.mk rfl ?_ ?_ | refine LeTo.mk rfl ?_ ?_) <;> simp only [evD, evL, iteL, St.said, St.asked, evStep, evOp, evP, St.init, St.app, srcStep, kill, setMany, loadS, fieldS, buildS, toks, Fin, upd_app, Array.isEmpty, Nat.reduceLT, Nat.reduceAdd, Nat.reduceMul, Nat.reduceLeDiff, Nat.reduceSub, Nat.reduceEqDiff, reduceCtorEq, reduceIte, ↓Opt.is, ↓Opt.no, ↓Asks.yes, ↓Asks.no, tyL, encL, leL, leD, ne_eq])
  intro i hi hI
  repeat (first | refine aq ?_ | refine ap (by rfl : apartB 0 _ _ = true) ?_ | refine ak ?_ | refine ab ?_ | refine al ?_ | ((first | refine ar ?_ | refine ad ty_mix (by kernel_rfl) ?_ | refine ac ?_ | refine ae ?_ | with_reducible refine Later.mk ?_); simp only [evD, evL, iteL, St.said, St.asked, evStep, evOp, evP, St.init, St.app, srcStep, kill, setMany, loadS, fieldS, buildS, toks, Fin, upd_app, Array.isEmpty, Nat.reduceLT, Nat.reduceAdd, Nat.reduceMul, Nat.reduceLeDiff, Nat.reduceSub, Nat.reduceEqDiff, reduceCtorEq, reduceIte, ↓Opt.is, ↓Opt.no, ↓Asks.yes, ↓Asks.no, tyL, encL, mkS, updl, asB]))
  refine ⟨fun h2 => ?_, fun h2 => ?_⟩
  · have h2 : i < l.length := by simpa using h2
    have hw := wrapN h2 (by omega)
    have hc := intersects_a b l[i] hb (h _ (List.getElem_mem h2))
    have hs : ((l.take (i + 1)).all fun x => decide (b &&& x ≠ 0)) = decide (b &&& l[i] ≠ 0) := by
      rw [List.take_succ_eq_append_getElem h2, List.all_append, hI]
      simp
    rcases Bool.eq_false_or_eq_true (decide (b &&& l[i] ≠ 0)) with hd | hd <;> rw [hd] at hc hs
    · repeat (first | refine aq ?_ | refine ap (by rfl : apartB 0 _ _ = true) ?_ | refine ak ?_ | refine ab ?_ | refine al ?_ | ((first | refine ar ?_ | refine ad ty_mix (by kernel_rfl) ?_ | refine ac ?_ | refine ae ?_ | with_reducible refine Later.mk ?_); simp only [evD, evL, iteL, St.said, St.asked, evStep, evOp, evP, St.init, St.app, srcStep, kill, setMany, loadS, fieldS, buildS, toks, Fin, upd_app, Array.isEmpty, Nat.reduceLT, Nat.reduceAdd, Nat.reduceMul, Nat.reduceLeDiff, Nat.reduceSub, Nat.reduceEqDiff, reduceCtorEq, reduceIte, ↓Opt.is, ↓Opt.no, ↓Asks.yes, ↓Asks.no, tyL, encL, getU h2, asB]))
      refine ⟨_, hc, ?_⟩; (repeat (first | refine ap (by rfl : apartB 0 _ _ = true) ?_ | refine ap (by simp [osL, D.flat]) ?_)); repeat (first | refine aq ?_ | refine ap (by rfl : apartB 0 _ _ = true) ?_ | refine ak ?_ | refine ab ?_ | refine al ?_ | ((first | refine ar ?_ | refine ad ty_mix (by kernel_rfl) ?_ | refine ac ?_ | refine ae ?_ | with_reducible refine Later.mk ?_); simp only [evD, evL, iteL, St.said, St.asked, evStep, evOp, evP, St.init, St.app, srcStep, kill, setMany, loadS, fieldS, buildS, toks, Fin, upd_app, Array.isEmpty, Nat.reduceLT, Nat.reduceAdd, Nat.reduceMul, Nat.reduceLeDiff, Nat.reduceSub, Nat.reduceEqDiff, reduceCtorEq, reduceIte, ↓Opt.is, ↓Opt.no, ↓Asks.yes, ↓Asks.no, tyL, encL, hw, asB]))
      refine ⟨h2, hs, ?_⟩
      ((first | refine Le.mk rfl ?_ ?_ | refine LeTo.mk rfl ?_ ?_) <;> simp only [evD, evL, iteL, St.said, St.asked, evStep, evOp, evP, St.init, St.app, srcStep, kill, setMany, loadS, fieldS, buildS, toks, Fin, upd_app, Array.isEmpty, Nat.reduceLT, Nat.reduceAdd, Nat.reduceMul, Nat.reduceLeDiff, Nat.reduceSub, Nat.reduceEqDiff, reduceCtorEq, reduceIte, ↓Opt.is, ↓Opt.no, ↓Asks.yes, ↓Asks.no, tyL, encL, leL, leD, ne_eq])
    · have hr : (l.all fun x => decide (b &&& x ≠ 0)) = false := by
        rw [Bool.eq_false_iff]
        intro h3
        rw [List.all_eq_true] at h3
        rw [h3 _ (List.getElem_mem h2)] at hd
        cases hd
      repeat (first | refine aq ?_ | refine ap (by rfl : apartB 0 _ _ = true) ?_ | refine ak ?_ | refine ab ?_ | refine al ?_ | ((first | refine ar ?_ | refine ad ty_mix (by kernel_rfl) ?_ | refine ac ?_ | refine ae ?_ | with_reducible refine Later.mk ?_); simp only [evD, evL, iteL, St.said, St.asked, evStep, evOp, evP, St.init, St.app, srcStep, kill, setMany, loadS, fieldS, buildS, toks, Fin, upd_app, Array.isEmpty, Nat.reduceLT, Nat.reduceAdd, Nat.reduceMul, Nat.reduceLeDiff, Nat.reduceSub, Nat.reduceEqDiff, reduceCtorEq, reduceIte, ↓Opt.is, ↓Opt.no, ↓Asks.yes, ↓Asks.no, tyL, encL, getU h2, asB]))
      refine ⟨_, hc, ?_⟩; (repeat (first | refine ap (by rfl : apartB 0 _ _ = true) ?_ | refine ap (by simp [osL, D.flat]) ?_)); repeat (first | refine aq ?_ | refine ap (by rfl : apartB 0 _ _ = true) ?_ | refine ak ?_ | refine ab ?_ | refine al ?_ | ((first | refine ar ?_ | refine ad ty_mix (by kernel_rfl) ?_ | refine ac ?_ | refine ae ?_ | with_reducible refine Later.mk ?_); simp only [evD, evL, iteL, St.said, St.asked, evStep, evOp, evP, St.init, St.app, srcStep, kill, setMany, loadS, fieldS, buildS, toks, Fin, upd_app, Array.isEmpty, Nat.reduceLT, Nat.reduceAdd, Nat.reduceMul, Nat.reduceLeDiff, Nat.reduceSub, Nat.reduceEqDiff, reduceCtorEq, reduceIte, ↓Opt.is, ↓Opt.no, ↓Asks.yes, ↓Asks.no, tyL, encL, asB]))
      refine Ab.ret ?_; simp only [evD, evL, iteL, St.said, St.asked, evStep, evOp, evP, St.init, St.app, srcStep, kill, setMany, loadS, fieldS, buildS, toks, Fin, upd_app, Array.isEmpty, Nat.reduceLT, Nat.reduceAdd, Nat.reduceMul, Nat.reduceLeDiff, Nat.reduceSub, Nat.reduceEqDiff, reduceCtorEq, reduceIte, ↓Opt.is, ↓Opt.no, ↓Asks.yes, ↓Asks.no, tyL, List.nodup_cons, encL, Try.f141, hr]
  · have h2 : i = l.length := by have := of_decide_eq_false h2; omega
    subst h2
    rw [List.take_length] at hI
    repeat (first | refine aq ?_ | refine ap (by rfl : apartB 0 _ _ = true) ?_ | refine ak ?_ | refine ab ?_ | refine al ?_ | ((first | refine ar ?_ | refine ad ty_mix (by kernel_rfl) ?_ | refine ac ?_ | refine ae ?_ | with_reducible refine Later.mk ?_); simp only [evD, evL, iteL, St.said, St.asked, evStep, evOp, evP, St.init, St.app, srcStep, kill, setMany, loadS, fieldS, buildS, toks, Fin, upd_app, Array.isEmpty, Nat.reduceLT, Nat.reduceAdd, Nat.reduceMul, Nat.reduceLeDiff, Nat.reduceSub, Nat.reduceEqDiff, reduceCtorEq, reduceIte, ↓Opt.is, ↓Opt.no, ↓Asks.yes, ↓Asks.no, tyL, encL, asB]))
    refine Ab.ret ?_; simp only [evD, evL, iteL, St.said, St.asked, evStep, evOp, evP, St.init, St.app, srcStep, kill, setMany, loadS, fieldS, buildS, toks, Fin, upd_app, Array.isEmpty, Nat.reduceLT, Nat.reduceAdd, Nat.reduceMul, Nat.reduceLeDiff, Nat.reduceSub, Nat.reduceEqDiff, reduceCtorEq, reduceIte, ↓Opt.is, ↓Opt.no, ↓Asks.yes, ↓Asks.no, tyL, List.nodup_cons, encL, Try.f141, hI]
theorem sat_sets {n k : Nat} (hn : n ≤ 14) (hk : k < 2 ^ n) {L : List (List Int)} (h : ∀ l, l ∈ L → clauseOk (n : Int) l = true) : ((setsL L).all fun x => decide (trueB n k &&& x ≠ 0)) = satC L (modelN n k) := by
  unfold setsL satC
  rw [List.all_map]
  rw [Bool.eq_iff_iff, List.all_eq_true, List.all_eq_true]
  constructor
  · intro h1 l hl
    rw [← clause_true hn hk (h l hl)]
    exact h1 l hl
  · intro h1 l hl
    have := h1 l hl
    rw [← clause_true hn hk (h l hl)] at this
    exact this
theorem countP_step (p : Nat → Bool) (k : Nat) : (List.range (k + 1)).countP p = (List.range k).countP p + (if p k = true then 1 else 0) := by
  rw [List.range_succ, List.countP_append]
  congr 1
  simp [List.countP_cons]
theorem ok_parts {n : Int} {L : List (List Int)} (h : clausesOk n L = true) : ∃ m : Nat, n = (m : Int) ∧ m ≤ 14 ∧ ∀ l, l ∈ L → clauseOk n l = true := by
  unfold clausesOk inB at h
  simp only [Bool.and_eq_true, decide_eq_true_eq] at h
  exact ⟨n.toNat, by omega, by omega, fun l hl => List.all_eq_true.1 h.2.2 l hl⟩
theorem implCountModels_a (n : Int) (L : List (List Int)) (hL : L.length ≤ 1048576) (hb : ∀ b, b ∈ L → b.length ≤ 1048576) (hr : ∀ b, b ∈ L → ∀ x, x ∈ b → inR x) : AC Try.prog 65 [.d (.v (.int .i64 n)), .d (encIss L)] (.d (.v (.int .i64 (cntL n L)))) := by
  have h1 := implAreValidClauses_a n L hL hb hr
  unfold cntL
  rcases Bool.eq_false_or_eq_true (clausesOk n L) with hd | hd
  · obtain ⟨m, rfl, hm, hc⟩ := ok_parts hd
    have h2 := literalSets_a (n := (m : Int)) (by omega) hL hb hr hc
    have h3 := firstNumbers_a hm
    have hp := pow14 hm
    have hp0 : 0 < 2 ^ m := Nat.two_pow_pos m
    have hsl : (setsL L).length ≤ 1048576 := by unfold setsL; rw [List.length_map]; exact hL
    have hsx : ∀ x, x ∈ setsL L → x < 18446744073709551616 := fun x hx => by
      unfold setsL at hx
      obtain ⟨l, hl, rfl⟩ := List.mem_map.1 hx
      exact bitsI_lt _ (lits_in (by omega) (hc l hl))
    have hsat : ∀ k, k < 2 ^ m → ((setsL L).all fun x => decide (trueB m k &&& x ≠ 0)) = satC L (modelN m k) := fun k hk => sat_sets hm hk hc
    have htl : ∀ k, k < 2 ^ m → trueB m k < 18446744073709551616 := fun k hk => by
      unfold trueB
      have := wo_le (2 ^ m - 1) k
      exact or_lt _ _ (by omega) (by omega)
    rw [hd] at h1
    rw [if_pos hd, Int.toNat_natCast]
    generalize setsL L = Z at *
    have e1 : IntKind.u64.wrap (((2 ^ m - 1 : Nat) : Int) + 1) = ((2 ^ m : Nat) : Int) := by rw [IntKind.wrap_u64]; omega
    have htr : ∀ k : Nat, k < 2 ^ m → AC Try.prog 142 [.d (.v (.int .i64 (m : Int))), .d (.v (.int .u64 (k : Int)))] (.d (.v (.int .u64 (trueB m k : Nat)))) := fun k hk => trueLiterals_a hm hk
    generalize hNN : 2 ^ m = N at *
    refine AC.intro Try.func65 rfl (by decide) (by simp [S.res, S.ress]) (by simp [S.os, S.oss]) (by simp [S.wfs, S.wf, dbS]) (by simp [Try.f65]) ?_; rw [Try.ntmps65]
    repeat (first | refine aq ?_ | refine ap (by rfl : apartB 0 _ _ = true) ?_ | refine ak ?_ | refine ab ?_ | refine al ?_ | ((first | refine ar ?_ | refine ad ty_mix (by kernel_rfl) ?_ | refine ac ?_ | refine ae ?_ | with_reducible refine Later.mk ?_); simp only [evD, evL, iteL, St.said, St.asked, evStep, evOp, evP, St.init, St.app, srcStep, kill, setMany, loadS, fieldS, buildS, toks, Fin, upd_app, Array.isEmpty, Nat.reduceLT, Nat.reduceAdd, Nat.reduceMul, Nat.reduceLeDiff, Nat.reduceSub, Nat.reduceEqDiff, reduceCtorEq, reduceIte, ↓Opt.is, ↓Opt.no, ↓Asks.yes, ↓Asks.no, tyL, encL, asB]))
    refine ⟨_, h1, ?_⟩; (repeat (first | refine ap (by rfl : apartB 0 _ _ = true) ?_ | refine ap (by simp [osL, D.flat]) ?_)); repeat (first | refine aq ?_ | refine ap (by rfl : apartB 0 _ _ = true) ?_ | refine ak ?_ | refine ab ?_ | refine al ?_ | ((first | refine ar ?_ | refine ad ty_mix (by kernel_rfl) ?_ | refine ac ?_ | refine ae ?_ | with_reducible refine Later.mk ?_); simp only [evD, evL, iteL, St.said, St.asked, evStep, evOp, evP, St.init, St.app, srcStep, kill, setMany, loadS, fieldS, buildS, toks, Fin, upd_app, Array.isEmpty, Nat.reduceLT, Nat.reduceAdd, Nat.reduceMul, Nat.reduceLeDiff, Nat.reduceSub, Nat.reduceEqDiff, reduceCtorEq, reduceIte, ↓Opt.is, ↓Opt.no, ↓Asks.yes, ↓Asks.no, tyL, encL, asB]))
    refine ⟨_, h2, ?_⟩; (repeat (first | refine ap (by rfl : apartB 0 _ _ = true) ?_ | refine ap (by simp [osL, D.flat]) ?_)); repeat (first | refine aq ?_ | refine ap (by rfl : apartB 0 _ _ = true) ?_ | refine ak ?_ | refine ab ?_ | refine al ?_ | ((first | refine ar ?_ | refine ad ty_mix (by kernel_rfl) ?_ | refine ac ?_ | refine ae ?_ | with_reducible refine Later.mk ?_); simp only [evD, evL, iteL, St.said, St.asked, evStep, evOp, evP, St.init, St.app, srcStep, kill, setMany, loadS, fieldS, buildS, toks, Fin, upd_app, Array.isEmpty, Nat.reduceLT, Nat.reduceAdd, Nat.reduceMul, Nat.reduceLeDiff, Nat.reduceSub, Nat.reduceEqDiff, reduceCtorEq, reduceIte, ↓Opt.is, ↓Opt.no, ↓Asks.yes, ↓Asks.no, tyL, encL, asB]))
    refine ⟨_, h3, ?_⟩; (repeat (first | refine ap (by rfl : apartB 0 _ _ = true) ?_ | refine ap (by simp [osL, D.flat]) ?_)); repeat (first | refine aq ?_ | refine ap (by rfl : apartB 0 _ _ = true) ?_ | refine ak ?_ | refine ab ?_ | refine al ?_ | ((first | refine ar ?_ | refine ad ty_mix (by kernel_rfl) ?_ | refine ac ?_ | refine ae ?_ | with_reducible refine Later.mk ?_); simp only [evD, evL, iteL, St.said, St.asked, evStep, evOp, evP, St.init, St.app, srcStep, kill, setMany, loadS, fieldS, buildS, toks, Fin, upd_app, Array.isEmpty, Nat.reduceLT, Nat.reduceAdd, Nat.reduceMul, Nat.reduceLeDiff, Nat.reduceSub, Nat.reduceEqDiff, reduceCtorEq, reduceIte, ↓Opt.is, ↓Opt.no, ↓Asks.yes, ↓Asks.no, tyL, encL, e1, asB]))
    refine Ab.loopI N (fun _ => True) (fun k => mkS 29 [(0, .d (.v (.int .i64 (m : Int)))), (5, .d (.sl (List.map encU Z))), (6, .d (.v (.int .i64 ((List.range k).countP fun k => satC L (modelN m k) : Nat)))), (16, .d (.v (.int .u64 (N : Int)))), (17, .d (.v (.int .u64 (k : Int))))] [] 400) trivial ?_ ?_
    · ((first | refine Le.mk rfl ?_ ?_ | refine LeTo.mk rfl ?_ ?_) <;> simp only [evD, evL, iteL, St.said, St.asked, evStep, evOp, evP, St.init, St.app, srcStep, kill, setMany, loadS, fieldS, buildS, toks, Fin, upd_app, Array.isEmpty, Nat.reduceLT, Nat.reduceAdd, Nat.reduceMul, Nat.reduceLeDiff, Nat.reduceSub, Nat.reduceEqDiff, reduceCtorEq, reduceIte, ↓Opt.is, ↓Opt.no, ↓Asks.yes, ↓Asks.no, tyL, encL, leL, leD, ne_eq, List.range_zero, List.countP_nil])
    intro k hk _
    repeat (first | refine aq ?_ | refine ap (by rfl : apartB 0 _ _ = true) ?_ | refine ak ?_ | refine ab ?_ | refine al ?_ | ((first | refine ar ?_ | refine ad ty_mix (by kernel_rfl) ?_ | refine ac ?_ | refine ae ?_ | with_reducible refine Later.mk ?_); simp only [evD, evL, iteL, St.said, St.asked, evStep, evOp, evP, St.init, St.app, srcStep, kill, setMany, loadS, fieldS, buildS, toks, Fin, upd_app, Array.isEmpty, Nat.reduceLT, Nat.reduceAdd, Nat.reduceMul, Nat.reduceLeDiff, Nat.reduceSub, Nat.reduceEqDiff, reduceCtorEq, reduceIte, ↓Opt.is, ↓Opt.no, ↓Asks.yes, ↓Asks.no, tyL, encL, mkS, updl, asB]))
    refine ⟨fun h4 => ?_, fun h4 => ?_⟩
    · have h4 : k < N := by simpa using h4
      have hw : IntKind.u64.wrap ((k : Int) + 1) = ((k + 1 : Nat) : Int) := by rw [IntKind.wrap_u64]; omega
      have hc1 := htr k h4
      have hc2 := intersectsAll_a (htl k h4) hsl hsx
      rw [hsat k h4] at hc2
      have hs := countP_step (fun k => satC L (modelN m k)) k
      have hcl : (List.range k).countP (fun k => satC L (modelN m k)) ≤ k := Nat.le_trans List.countP_le_length (by rw [List.length_range]; exact Nat.le_refl _)
      generalize (List.range k).countP (fun k => satC L (modelN m k)) = C at *
      have hw2 : IntKind.i64.wrap ((C : Int) + 1) = ((C + 1 : Nat) : Int) := by rw [IntKind.wrap_i64]; omega
      rcases Bool.eq_false_or_eq_true (satC L (modelN m k)) with h5 | h5 <;> simp only [h5, if_true, Bool.false_eq_true, if_false, Nat.add_zero] at hc2 hs
      · repeat (first | refine aq ?_ | refine ap (by rfl : apartB 0 _ _ = true) ?_ | refine ak ?_ | refine ab ?_ | refine al ?_ | ((first | refine ar ?_ | refine ad ty_mix (by kernel_rfl) ?_ | refine ac ?_ | refine ae ?_ | with_reducible refine Later.mk ?_); simp only [evD, evL, iteL, St.said, St.asked, evStep, evOp, evP, St.init, St.app, srcStep, kill, setMany, loadS, fieldS, buildS, toks, Fin, upd_app, Array.isEmpty, Nat.reduceLT, Nat.reduceAdd, Nat.reduceMul, Nat.reduceLeDiff, Nat.reduceSub, Nat.reduceEqDiff, reduceCtorEq, reduceIte, ↓Opt.is, ↓Opt.no, ↓Asks.yes, ↓Asks.no, tyL, encL, asB]))
        refine ⟨_, hc1, ?_⟩; (repeat (first | refine ap (by rfl : apartB 0 _ _ = true) ?_ | refine ap (by simp [osL, D.flat]) ?_)); repeat (first | refine aq ?_ | refine ap (by rfl : apartB 0 _ _ = true) ?_ | refine ak ?_ | refine ab ?_ | refine al ?_ | ((first | refine ar ?_ | refine ad ty_mix (by kernel_rfl) ?_ | refine ac ?_ | refine ae ?_ | with_reducible refine Later.mk ?_); simp only [evD, evL, iteL, St.said, St.asked, evStep, evOp, evP, St.init, St.app, srcStep, kill, setMany, loadS, fieldS, buildS, toks, Fin, upd_app, Array.isEmpty, Nat.reduceLT, Nat.reduceAdd, Nat.reduceMul, Nat.reduceLeDiff, Nat.reduceSub, Nat.reduceEqDiff, reduceCtorEq, reduceIte, ↓Opt.is, ↓Opt.no, ↓Asks.yes, ↓Asks.no, tyL, encL, asB]))
        refine ⟨_, hc2, ?_⟩; (repeat (first | refine ap (by rfl : apartB 0 _ _ = true) ?_ | refine ap (by simp [osL, D.flat]) ?_)); repeat (first | refine aq ?_ | refine ap (by rfl : apartB 0 _ _ = true) ?_ | refine ak ?_ | refine ab ?_ | refine al ?_ | ((first | refine ar ?_ | refine ad ty_mix (by kernel_rfl) ?_ | refine ac ?_ | refine ae ?_ | with_reducible refine Later.mk ?_); simp only [evD, evL, iteL, St.said, St.asked, evStep, evOp, evP, St.init, St.app, srcStep, kill, setMany, loadS, fieldS, buildS, toks, Fin, upd_app, Array.isEmpty, Nat.reduceLT, Nat.reduceAdd, Nat.reduceMul, Nat.reduceLeDiff, Nat.reduceSub, Nat.reduceEqDiff, reduceCtorEq, reduceIte, ↓Opt.is, ↓Opt.no, ↓Asks.yes, ↓Asks.no, tyL, encL, hw2, hw, asB]))
        refine ⟨h4, ?_⟩
        ((first | refine Le.mk rfl ?_ ?_ | refine LeTo.mk rfl ?_ ?_) <;> simp only [evD, evL, iteL, St.said, St.asked, evStep, evOp, evP, St.init, St.app, srcStep, kill, setMany, loadS, fieldS, buildS, toks, Fin, upd_app, Array.isEmpty, Nat.reduceLT, Nat.reduceAdd, Nat.reduceMul, Nat.reduceLeDiff, Nat.reduceSub, Nat.reduceEqDiff, reduceCtorEq, reduceIte, ↓Opt.is, ↓Opt.no, ↓Asks.yes, ↓Asks.no, tyL, encL, leL, leD, ne_eq, hs])
      · repeat (first | refine aq ?_ | refine ap (by rfl : apartB 0 _ _ = true) ?_ | refine ak ?_ | refine ab ?_ | refine al ?_ | ((first | refine ar ?_ | refine ad ty_mix (by kernel_rfl) ?_ | refine ac ?_ | refine ae ?_ | with_reducible refine Later.mk ?_); simp only [evD, evL, iteL, St.said, St.asked, evStep, evOp, evP, St.init, St.app, srcStep, kill, setMany, loadS, fieldS, buildS, toks, Fin, upd_app, Array.isEmpty, Nat.reduceLT, Nat.reduceAdd, Nat.reduceMul, Nat.reduceLeDiff, Nat.reduceSub, Nat.reduceEqDiff, reduceCtorEq, reduceIte, ↓Opt.is, ↓Opt.no, ↓Asks.yes, ↓Asks.no, tyL, encL, asB]))
        refine ⟨_, hc1, ?_⟩; (repeat (first | refine ap (by rfl : apartB 0 _ _ = true) ?_ | refine ap (by simp [osL, D.flat]) ?_)); repeat (first | refine aq ?_ | refine ap (by rfl : apartB 0 _ _ = true) ?_ | refine ak ?_ | refine ab ?_ | refine al ?_ | ((first | refine ar ?_ | refine ad ty_mix (by kernel_rfl) ?_ | refine ac ?_ | refine ae ?_ | with_reducible refine Later.mk ?_); simp only [evD, evL, iteL, St.said, St.asked, evStep, evOp, evP, St.init, St.app, srcStep, kill, setMany, loadS, fieldS, buildS, toks, Fin, upd_app, Array.isEmpty, Nat.reduceLT, Nat.reduceAdd, Nat.reduceMul, Nat.reduceLeDiff, Nat.reduceSub, Nat.reduceEqDiff, reduceCtorEq, reduceIte, ↓Opt.is, ↓Opt.no, ↓Asks.yes, ↓Asks.no, tyL, encL, asB]))
        refine ⟨_, hc2, ?_⟩; (repeat (first | refine ap (by rfl : apartB 0 _ _ = true) ?_ | refine ap (by simp [osL, D.flat]) ?_)); repeat (first | refine aq ?_ | refine ap (by rfl : apartB 0 _ _ = true) ?_ | refine ak ?_ | refine ab ?_ | refine al ?_ | ((first | refine ar ?_ | refine ad ty_mix (by kernel_rfl) ?_ | refine ac ?_ | refine ae ?_ | with_reducible refine Later.mk ?_); simp only [evD, evL, iteL, St.said, St.asked, evStep, evOp, evP, St.init, St.app, srcStep, kill, setMany, loadS, fieldS, buildS, toks, Fin, upd_app, Array.isEmpty, Nat.reduceLT, Nat.reduceAdd, Nat.reduceMul, Nat.reduceLeDiff, Nat.reduceSub, Nat.reduceEqDiff, reduceCtorEq, reduceIte, ↓Opt.is, ↓Opt.no, ↓Asks.yes, ↓Asks.no, tyL, encL, hw, asB]))
        refine ⟨h4, ?_⟩
        ((first | refine Le.mk rfl ?_ ?_ | refine LeTo.mk rfl ?_ ?_) <;> simp only [evD, evL, iteL, St.said, St.asked, evStep, evOp, evP, St.init, St.app, srcStep, kill, setMany, loadS, fieldS, buildS, toks, Fin, upd_app, Array.isEmpty, Nat.reduceLT, Nat.reduceAdd, Nat.reduceMul, Nat.reduceLeDiff, Nat.reduceSub, Nat.reduceEqDiff, reduceCtorEq, reduceIte, ↓Opt.is, ↓Opt.no, ↓Asks.yes, ↓Asks.no, tyL, encL, leL, leD, ne_eq, hs])
    · have h4 : k = N := by have := of_decide_eq_false h4; omega
      subst h4
      repeat (first | refine aq ?_ | refine ap (by rfl : apartB 0 _ _ = true) ?_ | refine ak ?_ | refine ab ?_ | refine al ?_ | ((first | refine ar ?_ | refine ad ty_mix (by kernel_rfl) ?_ | refine ac ?_ | refine ae ?_ | with_reducible refine Later.mk ?_); simp only [evD, evL, iteL, St.said, St.asked, evStep, evOp, evP, St.init, St.app, srcStep, kill, setMany, loadS, fieldS, buildS, toks, Fin, upd_app, Array.isEmpty, Nat.reduceLT, Nat.reduceAdd, Nat.reduceMul, Nat.reduceLeDiff, Nat.reduceSub, Nat.reduceEqDiff, reduceCtorEq, reduceIte, ↓Opt.is, ↓Opt.no, ↓Asks.yes, ↓Asks.no, tyL, encL, asB]))
      refine Ab.ret ?_; simp only [evD, evL, iteL, St.said, St.asked, evStep, evOp, evP, St.init, St.app, srcStep, kill, setMany, loadS, fieldS, buildS, toks, Fin, upd_app, Array.isEmpty, Nat.reduceLT, Nat.reduceAdd, Nat.reduceMul, Nat.reduceLeDiff, Nat.reduceSub, Nat.reduceEqDiff, reduceCtorEq, reduceIte, ↓Opt.is, ↓Opt.no, ↓Asks.yes, ↓Asks.no, tyL, List.nodup_cons, encL, Try.f65]
  · rw [hd] at h1
    rw [if_neg (by rw [hd]; exact Bool.false_ne_true)]
    refine AC.intro Try.func65 rfl (by decide) (by simp [S.res, S.ress]) (by simp [S.os, S.oss]) (by simp [S.wfs, S.wf, dbS]) (by simp [Try.f65]) ?_; rw [Try.ntmps65]
    repeat (first | refine aq ?_ | refine ap (by rfl : apartB 0 _ _ = true) ?_ | refine ak ?_ | refine ab ?_ | refine al ?_ | ((first | refine ar ?_ | refine ad ty_mix (by kernel_rfl) ?_ | refine ac ?_ | refine ae ?_ | with_reducible refine Later.mk ?_); simp only [evD, evL, iteL, St.said, St.asked, evStep, evOp, evP, St.init, St.app, srcStep, kill, setMany, loadS, fieldS, buildS, toks, Fin, upd_app, Array.isEmpty, Nat.reduceLT, Nat.reduceAdd, Nat.reduceMul, Nat.reduceLeDiff, Nat.reduceSub, Nat.reduceEqDiff, reduceCtorEq, reduceIte, ↓Opt.is, ↓Opt.no, ↓Asks.yes, ↓Asks.no, tyL, encL, asB]))
    refine ⟨_, h1, ?_⟩; (repeat (first | refine ap (by rfl : apartB 0 _ _ = true) ?_ | refine ap (by simp [osL, D.flat]) ?_)); repeat (first | refine aq ?_ | refine ap (by rfl : apartB 0 _ _ = true) ?_ | refine ak ?_ | refine ab ?_ | refine al ?_ | ((first | refine ar ?_ | refine ad ty_mix (by kernel_rfl) ?_ | refine ac ?_ | refine ae ?_ | with_reducible refine Later.mk ?_); simp only [evD, evL, iteL, St.said, St.asked, evStep, evOp, evP, St.init, St.app, srcStep, kill, setMany, loadS, fieldS, buildS, toks, Fin, upd_app, Array.isEmpty, Nat.reduceLT, Nat.reduceAdd, Nat.reduceMul, Nat.reduceLeDiff, Nat.reduceSub, Nat.reduceEqDiff, reduceCtorEq, reduceIte, ↓Opt.is, ↓Opt.no, ↓Asks.yes, ↓Asks.no, tyL, encL, asB]))
    refine Ab.ret ?_; simp only [evD, evL, iteL, St.said, St.asked, evStep, evOp, evP, St.init, St.app, srcStep, kill, setMany, loadS, fieldS, buildS, toks, Fin, upd_app, Array.isEmpty, Nat.reduceLT, Nat.reduceAdd, Nat.reduceMul, Nat.reduceLeDiff, Nat.reduceSub, Nat.reduceEqDiff, reduceCtorEq, reduceIte, ↓Opt.is, ↓Opt.no, ↓Asks.yes, ↓Asks.no, tyL, List.nodup_cons, encL, Try.f65]
theorem bools_cut {l : List Bool} (hl : l.length ≤ maxLen) {w : World} {K : Nat → Nat → Prop} {ov : Nat → Value} {v : Value} (hK : ∀ b o, K b o → b < w.heap.size) (hr : RdS w (ghA K ov) (.d (encBs l)) v) :
    ∃ a cap, v = .slice a l.length cap ∧ At (cSlice cBool) w l [.slice a l.length cap] := by
  have h := (eSlice eBool).at1 (x := l) rfl ⟨hl, fun _ _ => trivial⟩ hK hr
  obtain ⟨a, cap, e, _⟩ := id h
  injection e with e
  subst e
  exact ⟨a, cap, rfl, h⟩
theorem intss_cut {l : List (List Int)} (g : (eSlice (eSlice eInt)).good l) {w : World} {K : Nat → Nat → Prop} {ov : Nat → Value} {v : Value} (hK : ∀ b o, K b o → b < w.heap.size) (hr : RdS w (ghA K ov) (.d (encIss l)) v) :
    ∃ a cap, v = .slice a l.length cap ∧ At (cSlice (cSlice cInt)) w l [.slice a l.length cap] := by
  have h := (eSlice (eSlice eInt)).at1 (x := l) rfl g hK hr
  obtain ⟨a, cap, e, _⟩ := id h
  injection e with e
  subst e
  exact ⟨a, cap, rfl, h⟩
theorem specSatisfiesClauses_a {L : List (List Int)} (g : (eSlice (eSlice eInt)).good L) {m : List Bool} (hm : m.length ≤ maxLen) : AC Try.prog 137 [.d (encIss L), .d (encBs m)] (.d (.v (.bool (satC L m)))) :=
  AC.plain Try.func137 rfl (by decide) rfl (fun w K cs ov hK hr => by
    simp only [RdSs] at hr
    obtain ⟨v0, _, rfl, q0, v1, _, rfl, q1, rfl⟩ := hr
    obtain ⟨a0, c0, rfl, h0⟩ := intss_cut g hK q0
    obtain ⟨a1, c1, rfl, h1⟩ := bools_cut hm hK q1
    exact specSatisfiesClauses_c h0 h1)
theorem bShrI (a p : Nat) (hp : p < 64) : (a : Int).fdiv (2 ^ min p IntKind.i64.bits) = ((a >>> p : Nat) : Int) := by
  show (a : Int).fdiv (2 ^ min p 64) = _
  rw [Nat.min_eq_left (by omega), Nat.shiftRight_eq_div_pow, pow_cast, Int.fdiv_eq_ediv_of_nonneg _ (Int.natCast_nonneg _)]
  rfl
theorem bAndI (a b : Nat) (ha : a < 9223372036854775808) (hb : b < 9223372036854775808) : IntKind.i64.wrap ((BitVec.ofInt IntKind.i64.bits (a : Int) &&& BitVec.ofInt IntKind.i64.bits (b : Int)).toNat : Int) = ((a &&& b : Nat) : Int) := by
  show IntKind.i64.wrap (((BitVec.ofInt 64 (a : Int) &&& BitVec.ofInt 64 (b : Int)).toNat : Nat) : Int) = _
  have hle : a &&& b ≤ a := Nat.and_le_left
  rw [BitVec.toNat_and, bvN a (by omega), bvN b (by omega), IntKind.wrap_i64]
  omega
theorem specCountModels_a (n : Int) (L : List (List Int)) (hL : L.length ≤ 1048576) (hb : ∀ b, b ∈ L → b.length ≤ 1048576) (hr : ∀ b, b ∈ L → ∀ x, x ∈ b → inR x) : AC Try.prog 64 [.d (.v (.int .i64 n)), .d (encIss L)] (.d (.v (.int .i64 (cntL n L)))) := by
  have h1 := specAreValidClauses_a n L hL hb hr
  have gL : (eSlice (eSlice eInt)).good L := ⟨by unfold maxLen; omega, fun b h => ⟨by have := hb b h; unfold maxLen; omega, hr b h⟩⟩
  unfold cntL
  rcases Bool.eq_false_or_eq_true (clausesOk n L) with hd | hd
  · obtain ⟨m, rfl, hm, hc⟩ := ok_parts hd
    have hp := pow14 hm
    have h0 : ((m : Int) < 0) = False := eq_false (by omega)
    have e1 : IntKind.i64.wrap ((1 : Int) * 2 ^ min m IntKind.i64.bits) = ((2 ^ m : Nat) : Int) := by
      show IntKind.i64.wrap ((1 : Int) * 2 ^ min m 64) = _
      rw [Nat.min_eq_left (by omega), Int.one_mul, pow_cast]
      generalize 2 ^ m = N at *
      rw [IntKind.wrap_i64]
      omega
    rw [hd] at h1
    rw [if_pos hd, Int.toNat_natCast]
    have hsa : ∀ k, AC Try.prog 137 [.d (encIss L), .d (encBs (modelN m k))] (.d (.v (.bool (satC L (modelN m k))))) := fun k => specSatisfiesClauses_a gL (by rw [modelN_len]; unfold maxLen; omega)
    generalize hNN : 2 ^ m = N at *
    refine AC.intro Try.func64 rfl (by decide) (by simp [S.res, S.ress]) (by simp [S.os, S.oss]) (by simp [S.wfs, S.wf, dbS]) (by simp [Try.f64]) ?_; rw [Try.ntmps64]
    repeat (first | refine aq ?_ | refine ap (by rfl : apartB 0 _ _ = true) ?_ | refine ak ?_ | refine ab ?_ | refine al ?_ | ((first | refine ar ?_ | refine ad ty_mix (by kernel_rfl) ?_ | refine ac ?_ | refine ae ?_ | with_reducible refine Later.mk ?_); simp only [evD, evL, iteL, St.said, St.asked, evStep, evOp, evP, St.init, St.app, srcStep, kill, setMany, loadS, fieldS, buildS, toks, Fin, upd_app, Array.isEmpty, Nat.reduceLT, Nat.reduceAdd, Nat.reduceMul, Nat.reduceLeDiff, Nat.reduceSub, Nat.reduceEqDiff, reduceCtorEq, reduceIte, ↓Opt.is, ↓Opt.no, ↓Asks.yes, ↓Asks.no, tyL, encL, asB]))
    refine ⟨_, h1, ?_⟩; (repeat (first | refine ap (by rfl : apartB 0 _ _ = true) ?_ | refine ap (by simp [osL, D.flat]) ?_)); repeat (first | refine aq ?_ | refine ap (by rfl : apartB 0 _ _ = true) ?_ | refine ak ?_ | refine ab ?_ | refine al ?_ | ((first | refine ar ?_ | refine ad ty_mix (by kernel_rfl) ?_ | refine ac ?_ | refine ae ?_ | with_reducible refine Later.mk ?_); simp only [evD, evL, iteL, St.said, St.asked, evStep, evOp, evP, St.init, St.app, srcStep, kill, setMany, loadS, fieldS, buildS, toks, Fin, upd_app, Array.isEmpty, Nat.reduceLT, Nat.reduceAdd, Nat.reduceMul, Nat.reduceLeDiff, Nat.reduceSub, Nat.reduceEqDiff, reduceCtorEq, reduceIte, ↓Opt.is, ↓Opt.no, ↓Asks.yes, ↓Asks.no, tyL, encL, asB]))
    refine Ab.loopI N (fun _ => True) (fun k => mkS 39 [(0, .d (.v (.int .i64 (m : Int)))), (1, .d (.sl (List.map encB L))), (5, .d (.v (.int .i64 ((List.range k).countP fun k => satC L (modelN m k) : Nat)))), (6, .d (.v (.int .i64 (k : Int))))] [] 400) trivial ?_ ?_
    · ((first | refine Le.mk rfl ?_ ?_ | refine LeTo.mk rfl ?_ ?_) <;> simp only [evD, evL, iteL, St.said, St.asked, evStep, evOp, evP, St.init, St.app, srcStep, kill, setMany, loadS, fieldS, buildS, toks, Fin, upd_app, Array.isEmpty, Nat.reduceLT, Nat.reduceAdd, Nat.reduceMul, Nat.reduceLeDiff, Nat.reduceSub, Nat.reduceEqDiff, reduceCtorEq, reduceIte, ↓Opt.is, ↓Opt.no, ↓Asks.yes, ↓Asks.no, tyL, encL, leL, leD, ne_eq, List.range_zero, List.countP_nil])
    intro k hk _
    repeat (first | refine aq ?_ | refine ap (by rfl : apartB 0 _ _ = true) ?_ | refine ak ?_ | refine ab ?_ | refine al ?_ | ((first | refine ar ?_ | refine ad ty_mix (by kernel_rfl) ?_ | refine ac ?_ | refine ae ?_ | with_reducible refine Later.mk ?_); simp only [evD, evL, iteL, St.said, St.asked, evStep, evOp, evP, St.init, St.app, srcStep, kill, setMany, loadS, fieldS, buildS, toks, Fin, upd_app, Array.isEmpty, Nat.reduceLT, Nat.reduceAdd, Nat.reduceMul, Nat.reduceLeDiff, Nat.reduceSub, Nat.reduceEqDiff, reduceCtorEq, reduceIte, ↓Opt.is, ↓Opt.no, ↓Asks.yes, ↓Asks.no, tyL, encL, mkS, updl, h0, e1, asB]))
    refine ⟨fun h4 => ?_, fun h4 => ?_⟩
    · have h4 : k < N := by simpa using h4
      have hw := wrapN h4 (by omega)
      have hs := countP_step (fun k => satC L (modelN m k)) k
      have hcl : (List.range k).countP (fun k => satC L (modelN m k)) ≤ k := Nat.le_trans List.countP_le_length (by rw [List.length_range]; exact Nat.le_refl _)
      generalize (List.range k).countP (fun k => satC L (modelN m k)) = C at *
      have hw2 : IntKind.i64.wrap ((C : Int) + 1) = ((C + 1 : Nat) : Int) := by rw [IntKind.wrap_i64]; omega
      repeat (first | refine aq ?_ | refine ap (by rfl : apartB 0 _ _ = true) ?_ | refine ak ?_ | refine ab ?_ | refine al ?_ | ((first | refine ar ?_ | refine ad ty_mix (by kernel_rfl) ?_ | refine ac ?_ | refine ae ?_ | with_reducible refine Later.mk ?_); simp only [evD, evL, iteL, St.said, St.asked, evStep, evOp, evP, St.init, St.app, srcStep, kill, setMany, loadS, fieldS, buildS, toks, Fin, upd_app, Array.isEmpty, Nat.reduceLT, Nat.reduceAdd, Nat.reduceMul, Nat.reduceLeDiff, Nat.reduceSub, Nat.reduceEqDiff, reduceCtorEq, reduceIte, ↓Opt.is, ↓Opt.no, ↓Asks.yes, ↓Asks.no, tyL, encL, asB]))
      refine Ab.loopI m (fun _ => True) (fun v => mkS 39 [(0, .d (.v (.int .i64 (m : Int)))), (1, .d (.sl (List.map encB L))), (5, .d (.v (.int .i64 (C : Nat)))), (6, .d (.v (.int .i64 (k : Int)))), (7, .g 464 ((modelN v k).map fun b => [.v (.bool b)])), (8, .d (.v (.int .i64 (v : Int))))] [(464, .tip true 4 1 ((modelN v k).map fun b => [.v (.bool b)]))] 600) trivial ?_ ?_
      · ((first | refine Le.mk rfl ?_ ?_ | refine LeTo.mk rfl ?_ ?_) <;> simp only [evD, evL, iteL, St.said, St.asked, evStep, evOp, evP, St.init, St.app, srcStep, kill, setMany, loadS, fieldS, buildS, toks, Fin, upd_app, Array.isEmpty, Nat.reduceLT, Nat.reduceAdd, Nat.reduceMul, Nat.reduceLeDiff, Nat.reduceSub, Nat.reduceEqDiff, reduceCtorEq, reduceIte, ↓Opt.is, ↓Opt.no, ↓Asks.yes, ↓Asks.no, tyL, encL, leL, leD, ne_eq, modelN, List.range_zero])
      intro v hv _
      repeat (first | refine aq ?_ | refine ap (by rfl : apartB 0 _ _ = true) ?_ | refine ak ?_ | refine ab ?_ | refine al ?_ | ((first | refine ar ?_ | refine ad ty_mix (by kernel_rfl) ?_ | refine ac ?_ | refine ae ?_ | with_reducible refine Later.mk ?_); simp only [evD, evL, iteL, St.said, St.asked, evStep, evOp, evP, St.init, St.app, srcStep, kill, setMany, loadS, fieldS, buildS, toks, Fin, upd_app, Array.isEmpty, Nat.reduceLT, Nat.reduceAdd, Nat.reduceMul, Nat.reduceLeDiff, Nat.reduceSub, Nat.reduceEqDiff, reduceCtorEq, reduceIte, ↓Opt.is, ↓Opt.no, ↓Asks.yes, ↓Asks.no, tyL, encL, mkS, updl, asB]))
      refine ⟨fun h6 => ?_, fun h6 => ?_⟩
      · have h6 : v < m := by simpa using h6
        have hw3 := wrapN h6 (by omega)
        have hv0 : ((v : Int) < 0) = False := eq_false (by omega)
        have e2 := bShrI k v (by omega)
        have e3 : IntKind.i64.wrap ((BitVec.ofInt IntKind.i64.bits ((k >>> v : Nat) : Int) &&& BitVec.ofInt IntKind.i64.bits 1).toNat : Int) = ((k >>> v &&& 1 : Nat) : Int) := bAndI (k >>> v) 1 (by have := Nat.shiftRight_le k v; omega) (by omega)
        have e4 := bTest k v
        have hsv := modelN_succ v k
        have hlv := modelN_len v k
        generalize modelN v k = M at *
        repeat (first | refine aq ?_ | refine ap (by rfl : apartB 0 _ _ = true) ?_ | refine ak ?_ | refine ab ?_ | refine al ?_ | ((first | refine ar ?_ | refine ad ty_mix (by kernel_rfl) ?_ | refine ac ?_ | refine ae ?_ | with_reducible refine Later.mk ?_); simp only [evD, evL, iteL, St.said, St.asked, evStep, evOp, evP, St.init, St.app, srcStep, kill, setMany, loadS, fieldS, buildS, toks, Fin, upd_app, Array.isEmpty, Nat.reduceLT, Nat.reduceAdd, Nat.reduceMul, Nat.reduceLeDiff, Nat.reduceSub, Nat.reduceEqDiff, reduceCtorEq, reduceIte, ↓Opt.is, ↓Opt.no, ↓Asks.yes, ↓Asks.no, tyL, encL, hv0, e2, e3, e4, asB]))
        refine ⟨by simp only [maxLen]; omega, by omega, ?_⟩
        repeat (first | refine aq ?_ | refine ap (by rfl : apartB 0 _ _ = true) ?_ | refine ak ?_ | refine ab ?_ | refine al ?_ | ((first | refine ar ?_ | refine ad ty_mix (by kernel_rfl) ?_ | refine ac ?_ | refine ae ?_ | with_reducible refine Later.mk ?_); simp only [evD, evL, iteL, St.said, St.asked, evStep, evOp, evP, St.init, St.app, srcStep, kill, setMany, loadS, fieldS, buildS, toks, Fin, upd_app, Array.isEmpty, Nat.reduceLT, Nat.reduceAdd, Nat.reduceMul, Nat.reduceLeDiff, Nat.reduceSub, Nat.reduceEqDiff, reduceCtorEq, reduceIte, ↓Opt.is, ↓Opt.no, ↓Asks.yes, ↓Asks.no, tyL, encL, hw3, asB]))
        refine ⟨h6, ?_⟩
        ((first | refine Le.mk rfl ?_ ?_ | refine LeTo.mk rfl ?_ ?_) <;> simp only [evD, evL, iteL, St.said, St.asked, evStep, evOp, evP, St.init, St.app, srcStep, kill, setMany, loadS, fieldS, buildS, toks, Fin, upd_app, Array.isEmpty, Nat.reduceLT, Nat.reduceAdd, Nat.reduceMul, Nat.reduceLeDiff, Nat.reduceSub, Nat.reduceEqDiff, reduceCtorEq, reduceIte, ↓Opt.is, ↓Opt.no, ↓Asks.yes, ↓Asks.no, tyL, encL, leL, leD, ne_eq, hsv, List.map_append])
      · have h6 : v = m := by have := of_decide_eq_false h6; omega
        subst h6
        have hc := hsa k
        rcases Bool.eq_false_or_eq_true (satC L (modelN v k)) with h5 | h5 <;> simp only [h5, if_true, Bool.false_eq_true, if_false, Nat.add_zero] at hc hs
        · repeat (first | refine aq ?_ | refine ap (by rfl : apartB 0 _ _ = true) ?_ | refine ak ?_ | refine ab ?_ | refine al ?_ | ((first | refine ar ?_ | refine ad ty_mix (by kernel_rfl) ?_ | refine ac ?_ | refine ae ?_ | with_reducible refine Later.mk ?_); simp only [evD, evL, iteL, St.said, St.asked, evStep, evOp, evP, St.init, St.app, srcStep, kill, setMany, loadS, fieldS, buildS, toks, Fin, upd_app, Array.isEmpty, Nat.reduceLT, Nat.reduceAdd, Nat.reduceMul, Nat.reduceLeDiff, Nat.reduceSub, Nat.reduceEqDiff, reduceCtorEq, reduceIte, ↓Opt.is, ↓Opt.no, ↓Asks.yes, ↓Asks.no, tyL, encL, asB]))
          refine ⟨_, hc, ?_⟩; (repeat (first | refine ap (by rfl : apartB 0 _ _ = true) ?_ | refine ap (by simp [osL, D.flat]) ?_)); repeat (first | refine aq ?_ | refine ap (by rfl : apartB 0 _ _ = true) ?_ | refine ak ?_ | refine ab ?_ | refine al ?_ | ((first | refine ar ?_ | refine ad ty_mix (by kernel_rfl) ?_ | refine ac ?_ | refine ae ?_ | with_reducible refine Later.mk ?_); simp only [evD, evL, iteL, St.said, St.asked, evStep, evOp, evP, St.init, St.app, srcStep, kill, setMany, loadS, fieldS, buildS, toks, Fin, upd_app, Array.isEmpty, Nat.reduceLT, Nat.reduceAdd, Nat.reduceMul, Nat.reduceLeDiff, Nat.reduceSub, Nat.reduceEqDiff, reduceCtorEq, reduceIte, ↓Opt.is, ↓Opt.no, ↓Asks.yes, ↓Asks.no, tyL, encL, hw2, hw, asB]))
          refine ⟨h4, ?_⟩
          ((first | refine Le.mk rfl ?_ ?_ | refine LeTo.mk rfl ?_ ?_) <;> simp only [evD, evL, iteL, St.said, St.asked, evStep, evOp, evP, St.init, St.app, srcStep, kill, setMany, loadS, fieldS, buildS, toks, Fin, upd_app, Array.isEmpty, Nat.reduceLT, Nat.reduceAdd, Nat.reduceMul, Nat.reduceLeDiff, Nat.reduceSub, Nat.reduceEqDiff, reduceCtorEq, reduceIte, ↓Opt.is, ↓Opt.no, ↓Asks.yes, ↓Asks.no, tyL, encL, leL, leD, ne_eq, hs])
        · repeat (first | refine aq ?_ | refine ap (by rfl : apartB 0 _ _ = true) ?_ | refine ak ?_ | refine ab ?_ | refine al ?_ | ((first | refine ar ?_ | refine ad ty_mix (by kernel_rfl) ?_ | refine ac ?_ | refine ae ?_ | with_reducible refine Later.mk ?_); simp only [evD, evL, iteL, St.said, St.asked, evStep, evOp, evP, St.init, St.app, srcStep, kill, setMany, loadS, fieldS, buildS, toks, Fin, upd_app, Array.isEmpty, Nat.reduceLT, Nat.reduceAdd, Nat.reduceMul, Nat.reduceLeDiff, Nat.reduceSub, Nat.reduceEqDiff, reduceCtorEq, reduceIte, ↓Opt.is, ↓Opt.no, ↓Asks.yes, ↓Asks.no, tyL, encL, asB]))
          refine ⟨_, hc, ?_⟩; (repeat (first | refine ap (by rfl : apartB 0 _ _ = true) ?_ | refine ap (by simp [osL, D.flat]) ?_)); repeat (first | refine aq ?_ | refine ap (by rfl : apartB 0 _ _ = true) ?_ | refine ak ?_ | refine ab ?_ | refine al ?_ | ((first | refine ar ?_ | refine ad ty_mix (by kernel_rfl) ?_ | refine ac ?_ | refine ae ?_ | with_reducible refine Later.mk ?_); simp only [evD, evL, iteL, St.said, St.asked, evStep, evOp, evP, St.init, St.app, srcStep, kill, setMany, loadS, fieldS, buildS, toks, Fin, upd_app, Array.isEmpty, Nat.reduceLT, Nat.reduceAdd, Nat.reduceMul, Nat.reduceLeDiff, Nat.reduceSub, Nat.reduceEqDiff, reduceCtorEq, reduceIte, ↓Opt.is, ↓Opt.no, ↓Asks.yes, ↓Asks.no, tyL, encL, hw, asB]))
          refine ⟨h4, ?_⟩
          ((first | refine Le.mk rfl ?_ ?_ | refine LeTo.mk rfl ?_ ?_) <;> simp only [evD, evL, iteL, St.said, St.asked, evStep, evOp, evP, St.init, St.app, srcStep, kill, setMany, loadS, fieldS, buildS, toks, Fin, upd_app, Array.isEmpty, Nat.reduceLT, Nat.reduceAdd, Nat.reduceMul, Nat.reduceLeDiff, Nat.reduceSub, Nat.reduceEqDiff, reduceCtorEq, reduceIte, ↓Opt.is, ↓Opt.no, ↓Asks.yes, ↓Asks.no, tyL, encL, leL, leD, ne_eq, hs])
    · have h4 : k = N := by have := of_decide_eq_false h4; omega
      subst h4
      repeat (first | refine aq ?_ | refine ap (by rfl : apartB 0 _ _ = true) ?_ | refine ak ?_ | refine ab ?_ | refine al ?_ | ((first | refine ar ?_ | refine ad ty_mix (by kernel_rfl) ?_ | refine ac ?_ | refine ae ?_ | with_reducible refine Later.mk ?_); simp only [evD, evL, iteL, St.said, St.asked, evStep, evOp, evP, St.init, St.app, srcStep, kill, setMany, loadS, fieldS, buildS, toks, Fin, upd_app, Array.isEmpty, Nat.reduceLT, Nat.reduceAdd, Nat.reduceMul, Nat.reduceLeDiff, Nat.reduceSub, Nat.reduceEqDiff, reduceCtorEq, reduceIte, ↓Opt.is, ↓Opt.no, ↓Asks.yes, ↓Asks.no, tyL, encL, asB]))
      refine Ab.ret ?_; simp only [evD, evL, iteL, St.said, St.asked, evStep, evOp, evP, St.init, St.app, srcStep, kill, setMany, loadS, fieldS, buildS, toks, Fin, upd_app, Array.isEmpty, Nat.reduceLT, Nat.reduceAdd, Nat.reduceMul, Nat.reduceLeDiff, Nat.reduceSub, Nat.reduceEqDiff, reduceCtorEq, reduceIte, ↓Opt.is, ↓Opt.no, ↓Asks.yes, ↓Asks.no, tyL, List.nodup_cons, encL, Try.f64]
  · rw [hd] at h1
    rw [if_neg (by rw [hd]; exact Bool.false_ne_true)]
    refine AC.intro Try.func64 rfl (by decide) (by simp [S.res, S.ress]) (by simp [S.os, S.oss]) (by simp [S.wfs, S.wf, dbS]) (by simp [Try.f64]) ?_; rw [Try.ntmps64]
    repeat (first | refine aq ?_ | refine ap (by rfl : apartB 0 _ _ = true) ?_ | refine ak ?_ | refine ab ?_ | refine al ?_ | ((first | refine ar ?_ | refine ad ty_mix (by kernel_rfl) ?_ | refine ac ?_ | refine ae ?_ | with_reducible refine Later.mk ?_); simp only [evD, evL, iteL, St.said, St.asked, evStep, evOp, evP, St.init, St.app, srcStep, kill, setMany, loadS, fieldS, buildS, toks, Fin, upd_app, Array.isEmpty, Nat.reduceLT, Nat.reduceAdd, Nat.reduceMul, Nat.reduceLeDiff, Nat.reduceSub, Nat.reduceEqDiff, reduceCtorEq, reduceIte, ↓Opt.is, ↓Opt.no, ↓Asks.yes, ↓Asks.no, tyL, encL, asB]))
    refine ⟨_, h1, ?_⟩; (repeat (first | refine ap (by rfl : apartB 0 _ _ = true) ?_ | refine ap (by simp [osL, D.flat]) ?_)); repeat (first | refine aq ?_ | refine ap (by rfl : apartB 0 _ _ = true) ?_ | refine ak ?_ | refine ab ?_ | refine al ?_ | ((first | refine ar ?_ | refine ad ty_mix (by kernel_rfl) ?_ | refine ac ?_ | refine ae ?_ | with_reducible refine Later.mk ?_); simp only [evD, evL, iteL, St.said, St.asked, evStep, evOp, evP, St.init, St.app, srcStep, kill, setMany, loadS, fieldS, buildS, toks, Fin, upd_app, Array.isEmpty, Nat.reduceLT, Nat.reduceAdd, Nat.reduceMul, Nat.reduceLeDiff, Nat.reduceSub, Nat.reduceEqDiff, reduceCtorEq, reduceIte, ↓Opt.is, ↓Opt.no, ↓Asks.yes, ↓Asks.no, tyL, encL, asB]))
    refine Ab.ret ?_; simp only [evD, evL, iteL, St.said, St.asked, evStep, evOp, evP, St.init, St.app, srcStep, kill, setMany, loadS, fieldS, buildS, toks, Fin, upd_app, Array.isEmpty, Nat.reduceLT, Nat.reduceAdd, Nat.reduceMul, Nat.reduceLeDiff, Nat.reduceSub, Nat.reduceEqDiff, reduceCtorEq, reduceIte, ↓Opt.is, ↓Opt.no, ↓Asks.yes, ↓Asks.no, tyL, List.nodup_cons, encL, Try.f64]
end Go.Proofs.Ytgoofnhhhlncoaa.Ab


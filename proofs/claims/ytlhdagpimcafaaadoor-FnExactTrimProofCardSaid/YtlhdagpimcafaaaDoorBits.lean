/- Sets of bits: the reckoning with 64 bits as one with numbers and their bits. -/
import Derived.Test.YtlhdagpimcafaaaDoorAbEnc
open Go Go.Proofs Go.RowKit
namespace Go.Proofs.YtlhdagpimcafaaaDoor.Ab
set_option linter.unusedSimpArgs false
set_option linter.unusedVariables false
set_option maxRecDepth 100000
theorem wrapU (x : Int) (h0 : 0 ≤ x) (h1 : x < 18446744073709551616) : IntKind.u64.wrap x = x := by
  show x % 18446744073709551616 = x
  omega
theorem bvN (a : Nat) (h : a < 18446744073709551616) : (BitVec.ofInt 64 (a : Int)).toNat = a := by
  rw [BitVec.toNat_ofInt]
  show ((a : Int) % 18446744073709551616).toNat = a
  omega
theorem and_lt (a b : Nat) (ha : a < 18446744073709551616) : a &&& b < 18446744073709551616 := Nat.lt_of_le_of_lt Nat.and_le_left ha
theorem or_lt (a b : Nat) (ha : a < 18446744073709551616) (hb : b < 18446744073709551616) : a ||| b < 18446744073709551616 := Nat.or_lt_two_pow (n := 64) ha hb
theorem bAnd (a b : Nat) (ha : a < 18446744073709551616) (hb : b < 18446744073709551616) : IntKind.u64.wrap ((BitVec.ofInt IntKind.u64.bits (a : Int) &&& BitVec.ofInt IntKind.u64.bits (b : Int)).toNat : Int) = ((a &&& b : Nat) : Int) := by
  show IntKind.u64.wrap (((BitVec.ofInt 64 (a : Int) &&& BitVec.ofInt 64 (b : Int)).toNat : Nat) : Int) = _
  rw [BitVec.toNat_and, bvN a ha, bvN b hb, wrapU _ (by omega) (by have := and_lt a b ha; omega)]
theorem bOr (a b : Nat) (ha : a < 18446744073709551616) (hb : b < 18446744073709551616) : IntKind.u64.wrap ((BitVec.ofInt IntKind.u64.bits (a : Int) ||| BitVec.ofInt IntKind.u64.bits (b : Int)).toNat : Int) = ((a ||| b : Nat) : Int) := by
  show IntKind.u64.wrap (((BitVec.ofInt 64 (a : Int) ||| BitVec.ofInt 64 (b : Int)).toNat : Nat) : Int) = _
  rw [BitVec.toNat_or, bvN a ha, bvN b hb, wrapU _ (by omega) (by have := or_lt a b ha hb; omega)]
/-- a without the bits of b. -/
def ndn (a b : Nat) : Nat := a &&& (18446744073709551615 - b)
theorem ndn_lt (a b : Nat) (ha : a < 18446744073709551616) : ndn a b < 18446744073709551616 := and_lt a _ ha
theorem bNdn (a b : Nat) (ha : a < 18446744073709551616) (hb : b < 18446744073709551616) : IntKind.u64.wrap ((BitVec.ofInt IntKind.u64.bits (a : Int) &&& ~~~ BitVec.ofInt IntKind.u64.bits (b : Int)).toNat : Int) = ((ndn a b : Nat) : Int) := by
  show IntKind.u64.wrap (((BitVec.ofInt 64 (a : Int) &&& ~~~ BitVec.ofInt 64 (b : Int)).toNat : Nat) : Int) = _
  rw [BitVec.toNat_and, BitVec.toNat_not, bvN a ha, bvN b hb]
  show IntKind.u64.wrap ((ndn a b : Nat) : Int) = _
  rw [wrapU _ (by omega) (by have := ndn_lt a b ha; omega)]
theorem ndn_test (a b p : Nat) (hb : b < 18446744073709551616) (hp : p < 64) : (ndn a b).testBit p = (a.testBit p && !b.testBit p) := by
  unfold ndn
  rw [Nat.testBit_and]
  congr 1
  have h : 18446744073709551615 - b = 2 ^ 64 - (b + 1) := by omega
  rw [h, Nat.testBit_two_pow_sub_succ (by exact hb)]
  simp [hp]
theorem pow_cast (p : Nat) : ((2 : Int) ^ p) = ((2 ^ p : Nat) : Int) := by rw [Int.natCast_pow]; rfl
theorem bShl (p : Nat) (hp : p < 64) : IntKind.u64.wrap ((1 : Int) * 2 ^ min p IntKind.u64.bits) = ((2 ^ p : Nat) : Int) := by
  show IntKind.u64.wrap ((1 : Int) * 2 ^ min p 64) = _
  rw [Nat.min_eq_left (by omega), Int.one_mul, pow_cast]
  have h : (2 : Nat) ^ p < 2 ^ 64 := Nat.pow_lt_pow_right (by omega) hp
  have h2 : (2 : Nat) ^ 64 = 18446744073709551616 := by decide
  exact wrapU _ (Int.natCast_nonneg _) (by omega)
theorem pow_lt (p : Nat) (hp : p < 64) : 2 ^ p < 18446744073709551616 := Nat.pow_lt_pow_right (n := 64) (by omega) hp
theorem bShr (a p : Nat) (hp : p < 64) : (a : Int).fdiv (2 ^ min p IntKind.u64.bits) = ((a >>> p : Nat) : Int) := by
  show (a : Int).fdiv (2 ^ min p 64) = _
  rw [Nat.min_eq_left (by omega), Nat.shiftRight_eq_div_pow, pow_cast, Int.fdiv_eq_ediv_of_nonneg _ (Int.natCast_nonneg _)]
  rfl
theorem shr_lt (a p : Nat) (ha : a < 18446744073709551616) : a >>> p < 18446744073709551616 := Nat.lt_of_le_of_lt (Nat.shiftRight_le _ _) ha
theorem bTest (a p : Nat) : ((((a >>> p &&& 1 : Nat) : Int)) == 1) = a.testBit p := by
  rw [Nat.testBit]
  have h : a >>> p &&& 1 = 1 &&& a >>> p := Nat.and_comm _ _
  rw [h]
  have h2 : 1 &&& a >>> p ≤ 1 := Nat.and_le_left
  generalize 1 &&& a >>> p = m at *
  match m, h2 with
  | 0, _ => rfl
  | 1, _ => rfl
theorem bits_has_a (b p : Nat) (hb : b < 18446744073709551616) (hp : p < 64) : AC Tryd.prog 57 [.d (.v (.int .u64 b)), .d (.v (.int .i64 p))] (.d (.v (.bool (b.testBit p)))) := by
  refine AC.intro Tryd.func57 rfl (by decide) (by simp [S.res, S.ress]) (by simp [S.os, S.oss]) (by simp [S.wfs, S.wf]) (by simp [Tryd.f57]) ?_; rw [Tryd.ntmps57]
  have h0 : ((p : Int) < 0) = False := by simp
  have e1 := bShr b p hp
  have e2 : IntKind.u64.wrap ((BitVec.ofInt IntKind.u64.bits ((b >>> p : Nat) : Int) &&& BitVec.ofInt IntKind.u64.bits 1).toNat : Int) = ((b >>> p &&& 1 : Nat) : Int) := bAnd (b >>> p) 1 (shr_lt b p hb) (by omega)
  repeat (first | refine aq ?_ | refine ap (by rfl : apartB 0 _ _ = true) ?_ | refine ak ?_ | refine ab ?_ | refine al ?_ | ((first | refine ar ?_ | refine ad ty_mix (by kernel_rfl) ?_ | refine ac ?_ | refine ae ?_ | with_reducible refine Later.mk ?_); simp only [evD, evL, iteL, St.said, St.asked, evStep, evOp, evP, St.init, St.app, srcStep, kill, setMany, loadS, fieldS, buildS, toks, Fin, upd_app, Array.isEmpty, Nat.reduceLT, Nat.reduceAdd, Nat.reduceMul, Nat.reduceLeDiff, Nat.reduceSub, Nat.reduceEqDiff, reduceCtorEq, reduceIte, ↓Opt.is, ↓Opt.no, ↓Asks.yes, ↓Asks.no, tyL, encL, h0, e1, e2, bTest, asB]))
  refine Ab.ret ?_
  simp only [evD, evL, iteL, St.said, St.asked, evStep, evOp, evP, St.init, St.app, srcStep, kill, setMany, loadS, fieldS, buildS, toks, Fin, upd_app, Array.isEmpty, Nat.reduceLT, Nat.reduceAdd, Nat.reduceMul, Nat.reduceLeDiff, Nat.reduceSub, Nat.reduceEqDiff, reduceCtorEq, reduceIte, ↓Opt.is, ↓Opt.no, ↓Asks.yes, ↓Asks.no, tyL, Tryd.f57]
theorem bits_with_a (b p : Nat) (hb : b < 18446744073709551616) (hp : p < 64) : AC Tryd.prog 58 [.d (.v (.int .u64 b)), .d (.v (.int .i64 p))] (.d (.v (.int .u64 ((b ||| 2 ^ p : Nat) : Int)))) := by
  refine AC.intro Tryd.func58 rfl (by decide) (by simp [S.res, S.ress]) (by simp [S.os, S.oss]) (by simp [S.wfs, S.wf]) (by simp [Tryd.f58]) ?_; rw [Tryd.ntmps58]
  have h0 : ((p : Int) < 0) = False := by simp
  have e1 := bShl p hp
  have e2 := bOr b (2 ^ p) hb (pow_lt p hp)
  repeat (first | refine aq ?_ | refine ap (by rfl : apartB 0 _ _ = true) ?_ | refine ak ?_ | refine ab ?_ | refine al ?_ | ((first | refine ar ?_ | refine ad ty_mix (by kernel_rfl) ?_ | refine ac ?_ | refine ae ?_ | with_reducible refine Later.mk ?_); simp only [evD, evL, iteL, St.said, St.asked, evStep, evOp, evP, St.init, St.app, srcStep, kill, setMany, loadS, fieldS, buildS, toks, Fin, upd_app, Array.isEmpty, Nat.reduceLT, Nat.reduceAdd, Nat.reduceMul, Nat.reduceLeDiff, Nat.reduceSub, Nat.reduceEqDiff, reduceCtorEq, reduceIte, ↓Opt.is, ↓Opt.no, ↓Asks.yes, ↓Asks.no, tyL, encL, h0, e1, e2, asB]))
  refine Ab.ret ?_
  simp only [evD, evL, iteL, St.said, St.asked, evStep, evOp, evP, St.init, St.app, srcStep, kill, setMany, loadS, fieldS, buildS, toks, Fin, upd_app, Array.isEmpty, Nat.reduceLT, Nat.reduceAdd, Nat.reduceMul, Nat.reduceLeDiff, Nat.reduceSub, Nat.reduceEqDiff, reduceCtorEq, reduceIte, ↓Opt.is, ↓Opt.no, ↓Asks.yes, ↓Asks.no, tyL, Tryd.f58]
end Go.Proofs.YtlhdagpimcafaaaDoor.Ab


/- Chapter 22: CountModels. -/
import Derived.Test.YtlhdagpimcafaaaDoorClaA
import Derived.Test.YtlhdagpimcafaaaDoorCloOne
import Derived.Test.YtlhdagpimcafaaaDoorAbGenU
import Derived.Test.YtlhdagpimcafaaaDoorSat2
open Go Go.Proofs Go.RowKit
namespace Go.Proofs.YtlhdagpimcafaaaDoor.Ab
set_option linter.unusedSimpArgs false
set_option linter.unusedVariables false
set_option maxRecDepth 100000
def encBs (l : List Bool) : D := .sl (l.map fun b => [.v (.bool b)])
/-- The model of n facts that a number's bits say. -/
def modelN (n k : Nat) : List Bool := (List.range n).map fun v => k.testBit v
theorem modelN_at {n k p : Nat} (h : p < n) : (modelN n k)[p]? = some (k.testBit p) := by simp [modelN, h]
theorem modelN_succ (n k : Nat) : modelN (n + 1) k = modelN n k ++ [k.testBit n] := by
  unfold modelN
  rw [List.range_succ, List.map_append]
  rfl
theorem modelN_len (n k : Nat) : (modelN n k).length = n := by simp [modelN]
def cntL (n : Int) (L : List (List Int)) : Int := if clausesOk n L = true then (((List.range (2 ^ n.toNat)).countP fun k => satC L (modelN n.toNat k) : Nat) : Int) else 0
/-- The number of a literal among the bits. -/
def litN (x : Int) : Int := if 0 < x then foL x else 14 + foL x
theorem litN_in {n x : Int} (hn : n ≤ 14) (h : litOk n x = true) : 0 ≤ litN x ∧ litN x < 64 := by
  have := foL_in h
  unfold litN
  split <;> omega
def trueB (n k : Nat) : Nat := k ||| (wo (2 ^ n - 1) k) * 2 ^ 14
theorem pow14 {n : Nat} (h : n ≤ 14) : 2 ^ n ≤ 16384 := Nat.pow_le_pow_right (n := 2) (j := 14) (by omega) h
theorem trueB_test {n k : Nat} (hn : n ≤ 14) (hk : k < 2 ^ n) (i : Nat) : (trueB n k).testBit i = (k.testBit i || (decide (14 ≤ i) && (decide (i - 14 < n) && !k.testBit (i - 14)))) := by
  have h1 := pow14 hn
  unfold trueB
  rw [Nat.testBit_or, Nat.testBit_mul_two_pow, wo_test (by omega) (by omega), Nat.testBit_two_pow_sub_one]
theorem and_bits {b : Nat} {l : List Int} (h : in64 l) : decide (b &&& bitsI l ≠ 0) = l.any fun x => b.testBit x.toNat := by
  rw [Bool.eq_iff_iff, decide_eq_true_eq, and_ne, List.any_eq_true]
  constructor
  · rintro ⟨i, h1, h2⟩
    rw [bitsI_test l h] at h2
    exact ⟨(i : Int), List.contains_iff_mem.1 h2, by simpa using h1⟩
  · rintro ⟨x, h1, h2⟩
    refine ⟨x.toNat, h2, ?_⟩
    rw [bitsI_test l h, List.contains_iff_mem, Int.toNat_of_nonneg (h x h1).1]
    exact h1
theorem lit_true {n k : Nat} (hn : n ≤ 14) (hk : k < 2 ^ n) {x : Int} (h : litOk (n : Int) x = true) : (trueB n k).testBit (litN x).toNat = litT (modelN n k) x := by
  rw [trueB_test hn hk]
  have hin := foL_in h
  unfold litOk at h
  simp only [Bool.and_eq_true, decide_eq_true_eq] at h
  have hb : ∀ i, n ≤ i → k.testBit i = false := fun i hi => Nat.testBit_lt_two_pow (Nat.lt_of_lt_of_le hk (Nat.pow_le_pow_right (n := 2) (by omega) hi))
  by_cases hx : 0 < x
  · obtain ⟨p, rfl⟩ : ∃ p : Nat, x = (p : Int) + 1 := ⟨(x - 1).toNat, by omega⟩
    have hp : p < n := by omega
    have e : (litN ((p : Int) + 1)).toNat = p := by unfold litN; rw [if_pos (by omega), foL_pos]; omega
    rw [e, litT_pos, modelN_at hp]
    have : ¬ 14 ≤ p := by omega
    simp [this]
  · obtain ⟨p, rfl⟩ : ∃ p : Nat, x = -(p : Int) - 1 := ⟨(-x - 1).toNat, by omega⟩
    have hp : p < n := by omega
    have e : (litN (-(p : Int) - 1)).toNat = 14 + p := by unfold litN; rw [if_neg (by omega), foL_neg]; omega
    rw [e, litT_neg, modelN_at hp, hb (14 + p) (by omega), Nat.add_sub_cancel_left]
    simp [hp]
theorem clause_ok {n : Int} {l : List Int} (h : clauseOk n l = true) : ∀ x, x ∈ l → litOk n x = true := by
  have gen : ∀ (l ps : List Int), clauseFrom n ps l = true → ∀ x, x ∈ l → litOk n x = true := by
    intro l
    induction l with
    | nil => intro ps _ x hx; cases hx
    | cons y l ih =>
      intro ps hp x hx
      simp only [clauseFrom, Bool.and_eq_true] at hp
      rcases List.mem_cons.1 hx with rfl | hx
      · exact hp.1
      · exact ih _ hp.2.2 x hx
  exact gen l [] h
theorem lits_in {n : Int} (hn : n ≤ 14) {l : List Int} (h : clauseOk n l = true) : in64 (l.map litN) := by
  intro x hx
  obtain ⟨y, hy, rfl⟩ := List.mem_map.1 hx
  exact litN_in hn (clause_ok h y hy)
theorem clause_true {n k : Nat} (hn : n ≤ 14) (hk : k < 2 ^ n) {l : List Int} (h : clauseOk (n : Int) l = true) : decide (trueB n k &&& bitsI (l.map litN) ≠ 0) = clauseT (modelN n k) l := by
  rw [and_bits (lits_in (by omega) h), List.any_map]
  unfold clauseT
  rw [Bool.eq_iff_iff, List.any_eq_true, List.any_eq_true]
  constructor
  · rintro ⟨x, h1, h2⟩
    exact ⟨x, h1, by rw [← lit_true hn hk (clause_ok h x h1)]; exact h2⟩
  · rintro ⟨x, h1, h2⟩
    exact ⟨x, h1, by rw [← lit_true hn hk (clause_ok h x h1)] at h2; exact h2⟩
theorem literalNumber_a {x : Int} (hx : inR x) (h : -2000000 ≤ x) (h2 : x ≤ 2000000) : AC Tryd.prog 53 [.d (.v (.int .i64 x))] (.d (.v (.int .i64 (litN x)))) := by
  have hc := factOf_a hx
  unfold litN
  by_cases h3 : 0 < x
  · have hg : x > 0 := h3
    rw [if_pos h3]
    refine AC.intro Tryd.func53 rfl (by decide) (by simp [S.res, S.ress]) (by simp [S.os, S.oss]) (by simp [S.wfs, S.wf, dbS]) (by simp [Tryd.f53]) ?_; rw [Tryd.ntmps53]
    repeat (first | refine aq ?_ | refine ap (by rfl : apartB 0 _ _ = true) ?_ | refine ak ?_ | refine ab ?_ | refine al ?_ | ((first | refine ar ?_ | refine ad ty_mix (by kernel_rfl) ?_ | refine ac ?_ | refine ae ?_ | with_reducible refine Later.mk ?_); simp only [evD, evL, iteL, St.said, St.asked, evStep, evOp, evP, St.init, St.app, srcStep, kill, setMany, loadS, fieldS, buildS, toks, Fin, upd_app, Array.isEmpty, Nat.reduceLT, Nat.reduceAdd, Nat.reduceMul, Nat.reduceLeDiff, Nat.reduceSub, Nat.reduceEqDiff, reduceCtorEq, reduceIte, ↓Opt.is, ↓Opt.no, ↓Asks.yes, ↓Asks.no, tyL, encL, hg, asB]))
    refine ⟨_, hc, ?_⟩; (repeat (first | refine ap (by rfl : apartB 0 _ _ = true) ?_ | refine ap (by simp [osL, D.flat]) ?_)); repeat (first | refine aq ?_ | refine ap (by rfl : apartB 0 _ _ = true) ?_ | refine ak ?_ | refine ab ?_ | refine al ?_ | ((first | refine ar ?_ | refine ad ty_mix (by kernel_rfl) ?_ | refine ac ?_ | refine ae ?_ | with_reducible refine Later.mk ?_); simp only [evD, evL, iteL, St.said, St.asked, evStep, evOp, evP, St.init, St.app, srcStep, kill, setMany, loadS, fieldS, buildS, toks, Fin, upd_app, Array.isEmpty, Nat.reduceLT, Nat.reduceAdd, Nat.reduceMul, Nat.reduceLeDiff, Nat.reduceSub, Nat.reduceEqDiff, reduceCtorEq, reduceIte, ↓Opt.is, ↓Opt.no, ↓Asks.yes, ↓Asks.no, tyL, encL, asB]))
    refine Ab.ret ?_; simp only [evD, evL, iteL, St.said, St.asked, evStep, evOp, evP, St.init, St.app, srcStep, kill, setMany, loadS, fieldS, buildS, toks, Fin, upd_app, Array.isEmpty, Nat.reduceLT, Nat.reduceAdd, Nat.reduceMul, Nat.reduceLeDiff, Nat.reduceSub, Nat.reduceEqDiff, reduceCtorEq, reduceIte, ↓Opt.is, ↓Opt.no, ↓Asks.yes, ↓Asks.no, tyL, List.nodup_cons, encL, Tryd.f53]
  · have hg : ¬ x > 0 := h3
    rw [if_neg h3]
    have hw : IntKind.i64.wrap (14 + foL x) = 14 + foL x := by
      rw [IntKind.wrap_i64]
      unfold foL
      split <;> omega
    refine AC.intro Tryd.func53 rfl (by decide) (by simp [S.res, S.ress]) (by simp [S.os, S.oss]) (by simp [S.wfs, S.wf, dbS]) (by simp [Tryd.f53]) ?_; rw [Tryd.ntmps53]
    repeat (first | refine aq ?_ | refine ap (by rfl : apartB 0 _ _ = true) ?_ | refine ak ?_ | refine ab ?_ | refine al ?_ | ((first | refine ar ?_ | refine ad ty_mix (by kernel_rfl) ?_ | refine ac ?_ | refine ae ?_ | with_reducible refine Later.mk ?_); simp only [evD, evL, iteL, St.said, St.asked, evStep, evOp, evP, St.init, St.app, srcStep, kill, setMany, loadS, fieldS, buildS, toks, Fin, upd_app, Array.isEmpty, Nat.reduceLT, Nat.reduceAdd, Nat.reduceMul, Nat.reduceLeDiff, Nat.reduceSub, Nat.reduceEqDiff, reduceCtorEq, reduceIte, ↓Opt.is, ↓Opt.no, ↓Asks.yes, ↓Asks.no, tyL, encL, hg, asB]))
    refine ⟨_, hc, ?_⟩; (repeat (first | refine ap (by rfl : apartB 0 _ _ = true) ?_ | refine ap (by simp [osL, D.flat]) ?_)); repeat (first | refine aq ?_ | refine ap (by rfl : apartB 0 _ _ = true) ?_ | refine ak ?_ | refine ab ?_ | refine al ?_ | ((first | refine ar ?_ | refine ad ty_mix (by kernel_rfl) ?_ | refine ac ?_ | refine ae ?_ | with_reducible refine Later.mk ?_); simp only [evD, evL, iteL, St.said, St.asked, evStep, evOp, evP, St.init, St.app, srcStep, kill, setMany, loadS, fieldS, buildS, toks, Fin, upd_app, Array.isEmpty, Nat.reduceLT, Nat.reduceAdd, Nat.reduceMul, Nat.reduceLeDiff, Nat.reduceSub, Nat.reduceEqDiff, reduceCtorEq, reduceIte, ↓Opt.is, ↓Opt.no, ↓Asks.yes, ↓Asks.no, tyL, encL, hw, asB]))
    refine Ab.ret ?_; simp only [evD, evL, iteL, St.said, St.asked, evStep, evOp, evP, St.init, St.app, srcStep, kill, setMany, loadS, fieldS, buildS, toks, Fin, upd_app, Array.isEmpty, Nat.reduceLT, Nat.reduceAdd, Nat.reduceMul, Nat.reduceLeDiff, Nat.reduceSub, Nat.reduceEqDiff, reduceCtorEq, reduceIte, ↓Opt.is, ↓Opt.no, ↓Asks.yes, ↓Asks.no, tyL, List.nodup_cons, encL, Tryd.f53]
theorem literalSet_a {n : Int} (hn : n ≤ 14) {l : List Int} (hl : l.length ≤ 1048576) (h : clauseOk n l = true) (hr : ∀ x, x ∈ l → inR x) : AC Tryd.prog 38 [.d (encIs l)] (.d (.v (.int .u64 (bitsI (l.map litN) : Nat)))) := by
  have hcv := convertAll_int_int caps_nil litN l hl (fun x hx => by
    have h1 := clause_ok h x hx
    unfold litOk at h1
    simp only [Bool.and_eq_true, decide_eq_true_eq] at h1
    exact literalNumber_a (hr x hx) (by omega) (by omega))
  have hb := bitSetOf_a (l.map litN) (by rw [List.length_map]; exact hl) (lits_in hn h)
  refine AC.intro Tryd.func38 rfl (by decide) (by simp [S.res, S.ress]) (by simp [S.os, S.oss]) (by simp [S.wfs, S.wf, dbS]) (by simp [Tryd.f38]) ?_; rw [Tryd.ntmps38]
  repeat (first | refine aq ?_ | refine ap (by rfl : apartB 0 _ _ = true) ?_ | refine ak ?_ | refine ab ?_ | refine al ?_ | ((first | refine ar ?_ | refine ad ty_mix (by kernel_rfl) ?_ | refine ac ?_ | refine ae ?_ | with_reducible refine Later.mk ?_); simp only [evD, evL, iteL, St.said, St.asked, evStep, evOp, evP, St.init, St.app, srcStep, kill, setMany, loadS, fieldS, buildS, toks, Fin, upd_app, Array.isEmpty, Nat.reduceLT, Nat.reduceAdd, Nat.reduceMul, Nat.reduceLeDiff, Nat.reduceSub, Nat.reduceEqDiff, reduceCtorEq, reduceIte, ↓Opt.is, ↓Opt.no, ↓Asks.yes, ↓Asks.no, tyL, encL, asB]))
  refine ⟨_, hcv, ?_⟩; (repeat (first | refine ap (by rfl : apartB 0 _ _ = true) ?_ | refine ap (by simp [osL, D.flat]) ?_)); repeat (first | refine aq ?_ | refine ap (by rfl : apartB 0 _ _ = true) ?_ | refine ak ?_ | refine ab ?_ | refine al ?_ | ((first | refine ar ?_ | refine ad ty_mix (by kernel_rfl) ?_ | refine ac ?_ | refine ae ?_ | with_reducible refine Later.mk ?_); simp only [evD, evL, iteL, St.said, St.asked, evStep, evOp, evP, St.init, St.app, srcStep, kill, setMany, loadS, fieldS, buildS, toks, Fin, upd_app, Array.isEmpty, Nat.reduceLT, Nat.reduceAdd, Nat.reduceMul, Nat.reduceLeDiff, Nat.reduceSub, Nat.reduceEqDiff, reduceCtorEq, reduceIte, ↓Opt.is, ↓Opt.no, ↓Asks.yes, ↓Asks.no, tyL, encL, asB]))
  refine ⟨_, hb, ?_⟩; (repeat (first | refine ap (by rfl : apartB 0 _ _ = true) ?_ | refine ap (by simp [osL, D.flat]) ?_)); repeat (first | refine aq ?_ | refine ap (by rfl : apartB 0 _ _ = true) ?_ | refine ak ?_ | refine ab ?_ | refine al ?_ | ((first | refine ar ?_ | refine ad ty_mix (by kernel_rfl) ?_ | refine ac ?_ | refine ae ?_ | with_reducible refine Later.mk ?_); simp only [evD, evL, iteL, St.said, St.asked, evStep, evOp, evP, St.init, St.app, srcStep, kill, setMany, loadS, fieldS, buildS, toks, Fin, upd_app, Array.isEmpty, Nat.reduceLT, Nat.reduceAdd, Nat.reduceMul, Nat.reduceLeDiff, Nat.reduceSub, Nat.reduceEqDiff, reduceCtorEq, reduceIte, ↓Opt.is, ↓Opt.no, ↓Asks.yes, ↓Asks.no, tyL, encL, asB]))
  refine Ab.ret ?_; simp only [evD, evL, iteL, St.said, St.asked, evStep, evOp, evP, St.init, St.app, srcStep, kill, setMany, loadS, fieldS, buildS, toks, Fin, upd_app, Array.isEmpty, Nat.reduceLT, Nat.reduceAdd, Nat.reduceMul, Nat.reduceLeDiff, Nat.reduceSub, Nat.reduceEqDiff, reduceCtorEq, reduceIte, ↓Opt.is, ↓Opt.no, ↓Asks.yes, ↓Asks.no, tyL, List.nodup_cons, encL, Tryd.f38]
def setsL (L : List (List Int)) : List Nat := L.map fun l => bitsI (l.map litN)
theorem literalSets_a {n : Int} (hn : n ≤ 14) {L : List (List Int)} (hL : L.length ≤ 1048576) (hb : ∀ b, b ∈ L → b.length ≤ 1048576) (hr : ∀ b, b ∈ L → ∀ x, x ∈ b → inR x) (h : ∀ l, l ∈ L → clauseOk n l = true) :
    AC Tryd.prog 36 [.d (encIss L)] (.o 0 (.sl ((setsL L).map encU))) := by
  have hcv := convertAll_Lint_bitSet caps_nil (fun l => bitsI (l.map litN)) L hL (fun l hl => literalSet_a hn (hb l hl) (h l hl) (hr l hl))
  unfold setsL
  refine AC.intro Tryd.func36 rfl (by decide) (by simp [S.res, S.ress]) (by simp [S.os, S.oss]) (by simp [S.wfs, S.wf, dbS]) (by simp [Tryd.f36]) ?_; rw [Tryd.ntmps36]
  repeat (first | refine aq ?_ | refine ap (by rfl : apartB 0 _ _ = true) ?_ | refine ak ?_ | refine ab ?_ | refine al ?_ | ((first | refine ar ?_ | refine ad ty_mix (by kernel_rfl) ?_ | refine ac ?_ | refine ae ?_ | with_reducible refine Later.mk ?_); simp only [evD, evL, iteL, St.said, St.asked, evStep, evOp, evP, St.init, St.app, srcStep, kill, setMany, loadS, fieldS, buildS, toks, Fin, upd_app, Array.isEmpty, Nat.reduceLT, Nat.reduceAdd, Nat.reduceMul, Nat.reduceLeDiff, Nat.reduceSub, Nat.reduceEqDiff, reduceCtorEq, reduceIte, ↓Opt.is, ↓Opt.no, ↓Asks.yes, ↓Asks.no, tyL, encL, asB]))
  refine ⟨_, hcv, ?_⟩; (repeat (first | refine ap (by rfl : apartB 0 _ _ = true) ?_ | refine ap (by simp [osL, D.flat]) ?_)); repeat (first | refine aq ?_ | refine ap (by rfl : apartB 0 _ _ = true) ?_ | refine ak ?_ | refine ab ?_ | refine al ?_ | ((first | refine ar ?_ | refine ad ty_mix (by kernel_rfl) ?_ | refine ac ?_ | refine ae ?_ | with_reducible refine Later.mk ?_); simp only [evD, evL, iteL, St.said, St.asked, evStep, evOp, evP, St.init, St.app, srcStep, kill, setMany, loadS, fieldS, buildS, toks, Fin, upd_app, Array.isEmpty, Nat.reduceLT, Nat.reduceAdd, Nat.reduceMul, Nat.reduceLeDiff, Nat.reduceSub, Nat.reduceEqDiff, reduceCtorEq, reduceIte, ↓Opt.is, ↓Opt.no, ↓Asks.yes, ↓Asks.no, tyL, encL, asB]))
  refine Ab.ret ?_; simp only [evD, evL, iteL, St.said, St.asked, evStep, evOp, evP, St.init, St.app, srcStep, kill, setMany, loadS, fieldS, buildS, toks, Fin, upd_app, Array.isEmpty, Nat.reduceLT, Nat.reduceAdd, Nat.reduceMul, Nat.reduceLeDiff, Nat.reduceSub, Nat.reduceEqDiff, reduceCtorEq, reduceIte, ↓Opt.is, ↓Opt.no, ↓Asks.yes, ↓Asks.no, tyL, List.nodup_cons, encL, Tryd.f36]
theorem shl1 {n : Nat} (hn : n ≤ 14) : IntKind.u64.wrap ((1 : Int) * 2 ^ min n IntKind.u64.bits) = ((2 ^ n : Nat) : Int) := bShl n (by omega)
theorem sat_sets {n k : Nat} (hn : n ≤ 14) (hk : k < 2 ^ n) {L : List (List Int)} (h : ∀ l, l ∈ L → clauseOk (n : Int) l = true) : ((setsL L).all fun x => decide (trueB n k &&& x ≠ 0)) = satC L (modelN n k) := by
  unfold setsL satC
  rw [List.all_map]
  rw [Bool.eq_iff_iff, List.all_eq_true, List.all_eq_true]
  constructor
  · intro h1 l hl
    rw [← clause_true hn hk (h l hl)]
    exact h1 l hl
  · intro h1 l hl
    have := h1 l hl
    rw [← clause_true hn hk (h l hl)] at this
    exact this
theorem countP_step (p : Nat → Bool) (k : Nat) : (List.range (k + 1)).countP p = (List.range k).countP p + (if p k = true then 1 else 0) := by
  rw [List.range_succ, List.countP_append]
  congr 1
  simp [List.countP_cons]
theorem ok_parts {n : Int} {L : List (List Int)} (h : clausesOk n L = true) : ∃ m : Nat, n = (m : Int) ∧ m ≤ 14 ∧ ∀ l, l ∈ L → clauseOk n l = true := by
  unfold clausesOk inB at h
  simp only [Bool.and_eq_true, decide_eq_true_eq] at h
  exact ⟨n.toNat, by omega, by omega, fun l hl => List.all_eq_true.1 h.2.2 l hl⟩
theorem bools_cut {l : List Bool} (hl : l.length ≤ maxLen) {w : World} {K : Nat → Nat → Prop} {ov : Nat → Value} {v : Value} (hK : ∀ b o, K b o → b < w.heap.size) (hr : RdS w (ghA K ov) (.d (encBs l)) v) :
    ∃ a cap, v = .slice a l.length cap ∧ At (cSlice cBool) w l [.slice a l.length cap] := by
  have h := (eSlice eBool).at1 (x := l) rfl ⟨hl, fun _ _ => trivial⟩ hK hr
  obtain ⟨a, cap, e, _⟩ := id h
  injection e with e
  subst e
  exact ⟨a, cap, rfl, h⟩
theorem intss_cut {l : List (List Int)} (g : (eSlice (eSlice eInt)).good l) {w : World} {K : Nat → Nat → Prop} {ov : Nat → Value} {v : Value} (hK : ∀ b o, K b o → b < w.heap.size) (hr : RdS w (ghA K ov) (.d (encIss l)) v) :
    ∃ a cap, v = .slice a l.length cap ∧ At (cSlice (cSlice cInt)) w l [.slice a l.length cap] := by
  have h := (eSlice (eSlice eInt)).at1 (x := l) rfl g hK hr
  obtain ⟨a, cap, e, _⟩ := id h
  injection e with e
  subst e
  exact ⟨a, cap, rfl, h⟩
theorem bShrI (a p : Nat) (hp : p < 64) : (a : Int).fdiv (2 ^ min p IntKind.i64.bits) = ((a >>> p : Nat) : Int) := by
  show (a : Int).fdiv (2 ^ min p 64) = _
  rw [Nat.min_eq_left (by omega), Nat.shiftRight_eq_div_pow, pow_cast, Int.fdiv_eq_ediv_of_nonneg _ (Int.natCast_nonneg _)]
  rfl
theorem bAndI (a b : Nat) (ha : a < 9223372036854775808) (hb : b < 9223372036854775808) : IntKind.i64.wrap ((BitVec.ofInt IntKind.i64.bits (a : Int) &&& BitVec.ofInt IntKind.i64.bits (b : Int)).toNat : Int) = ((a &&& b : Nat) : Int) := by
  show IntKind.i64.wrap (((BitVec.ofInt 64 (a : Int) &&& BitVec.ofInt 64 (b : Int)).toNat : Nat) : Int) = _
  have hle : a &&& b ≤ a := Nat.and_le_left
  rw [BitVec.toNat_and, bvN a (by omega), bvN b (by omega), IntKind.wrap_i64]
  omega
end Go.Proofs.YtlhdagpimcafaaaDoor.Ab

/- PrfTwo: PrfG PrfH PrfK. -/
import Derived.Test.YtpoackngngdhlaaDoorPrfOne
/- Chapter 28: the greedy repair. -/
open Go Go.Proofs Go.RowKit
namespace Go.Proofs.YtpoackngngdhlaaDoor.Ab
set_option linter.unusedSimpArgs false
set_option linter.unusedVariables false
set_option maxRecDepth 100000
def intsN (n : Nat) : List Int := (List.range n).map fun (i : Nat) => (i : Int)
/-- What is left when these have been taken. -/
def lfL (n : Nat) (l : List Edg) (out : List Int) : List Int := (intsN n).filter fun y => out.all fun v => !decide (y = v) && !edgeP l y v
def ufL (n : Nat) (l p : List Edg) (out : List Int) : List Int := (lfL n l out).filter fun y => (lfL n l out).all fun x => !isPr p x y
theorem lfL_snoc (n : Nat) (l : List Edg) (out : List Int) (x : Int) : lfL n l (out ++ [x]) = (lfL n l out).filter fun y => !decide (y = x) && !edgeP l y x := by
  unfold lfL
  rw [List.filter_filter]
  congr 1
  funext y
  rw [List.all_append, List.all_cons, List.all_nil, Bool.and_true, Bool.and_comm]
theorem lfL_lt {n : Nat} {l p : List Edg} {out : List Int} {x : Int} {t : List Int} (h : ufL n l p out = x :: t) : (lfL n l (out ++ [x])).length < (lfL n l out).length := by
  have hx : x ∈ lfL n l out := by
    have : x ∈ ufL n l p out := by rw [h]; simp
    exact (List.mem_filter.1 this).1
  rw [lfL_snoc]
  exact List.length_filter_lt_length_iff_exists.2 ⟨x, hx, by simp⟩
def grd (n : Nat) (l p : List Edg) (out : List Int) : List Int :=
  match h : ufL n l p out with
  | [] => out
  | x :: _ => grd n l p (out ++ [x])
termination_by (lfL n l out).length
decreasing_by exact lfL_lt h
theorem grd_nil {n : Nat} {l p : List Edg} {out : List Int} (h : ufL n l p out = []) : grd n l p out = out := by
  rw [grd]
  split
  · rfl
  · rename_i h2; rw [h] at h2; cases h2
theorem grd_cons {n : Nat} {l p : List Edg} {out t : List Int} {x : Int} (h : ufL n l p out = x :: t) : grd n l p out = grd n l p (out ++ [x]) := by
  rw [grd]
  split
  · rename_i h2; rw [h] at h2; cases h2
  · rename_i h2; rw [h] at h2; injection h2 with h2 h3; subst h2; rfl
theorem intsN_mem {n : Nat} {x : Int} : x ∈ intsN n ↔ 0 ≤ x ∧ x < (n : Int) := by
  unfold intsN
  rw [List.mem_map]
  constructor
  · rintro ⟨i, h1, rfl⟩
    rw [List.mem_range] at h1
    omega
  · rintro ⟨h1, h2⟩
    exact ⟨x.toNat, List.mem_range.2 (by omega), by omega⟩
theorem intsN_pw (n : Nat) : (intsN n).Pairwise (· < ·) := by
  unfold intsN
  rw [List.pairwise_map]
  exact (List.pairwise_lt_range (n := n)).imp (fun h => by omega)
theorem lfL_in {n : Nat} {l : List Edg} {out : List Int} {x : Int} (h : x ∈ lfL n l out) : 0 ≤ x ∧ x < (n : Int) := intsN_mem.1 (List.mem_filter.1 h).1
theorem lfL_pw (n : Nat) (l : List Edg) (out : List Int) : (lfL n l out).Pairwise (· < ·) := (intsN_pw n).filter _
theorem lfL_len (n : Nat) (l : List Edg) (out : List Int) : (lfL n l out).length ≤ n := by
  refine Nat.le_trans (List.length_filter_le _ _) ?_
  unfold intsN
  rw [List.length_map, List.length_range]
  exact Nat.le_refl _
theorem asc_pw : ∀ (l : List Int) (p : Option Int), l.Pairwise (· < ·) → (∀ q, p = some q → ∀ x, x ∈ l → q < x) → ascI p l = true
  | [], _, _, _ => rfl
  | y :: l, p, h, hp => by
    rw [List.pairwise_cons] at h
    rw [ascI, asc_pw l (some y) h.2 (fun q hq x hx => by injection hq with hq; rw [← hq]; exact h.1 x hx), Bool.and_true]
    cases p with
    | none => rfl
    | some q => have := hp q rfl y (by simp); simpa [okPI] using this
theorem lfL_set (n : Nat) (l : List Edg) (out : List Int) : setIx (n : Int) (lfL n l out) = true := by
  unfold setIx
  rw [asc_pw _ none (lfL_pw n l out) (fun q hq => by cases hq), Bool.and_true, List.all_eq_true]
  intro x hx
  have := lfL_in hx
  unfold inB
  rw [Bool.and_eq_true, decide_eq_true_eq, decide_eq_true_eq]
  omega
/-- Something is always undominated. -/
theorem ufL_ne {n : Nat} {l p : List Edg} {out : List Int} (hp : okP n p) (ha : allG p n = true) (h : lfL n l out ≠ []) : ufL n l p out ≠ [] := by
  intro hu
  have : allG p n = false := (allG_iff hp).2 ⟨fun x => (x : Int) ∈ lfL n l out, by
    obtain ⟨x, hx⟩ := List.exists_mem_of_ne_nil _ h
    have := lfL_in hx
    exact ⟨x.toNat, by show ((x.toNat : Nat) : Int) ∈ lfL n l out; rw [Int.toNat_of_nonneg this.1]; exact hx⟩, fun y hy => by
    have h1 := lfL_in hy
    refine ⟨by omega, ?_⟩
    apply Classical.byContradiction
    intro hno
    have : (y : Int) ∈ ufL n l p out := by
      refine List.mem_filter.2 ⟨hy, List.all_eq_true.2 fun x hx => ?_⟩
      have h2 := lfL_in hx
      obtain ⟨v, rfl⟩ : ∃ v : Nat, x = (v : Int) := ⟨x.toNat, by omega⟩
      cases hpr : isPr p (v : Int) (y : Int) with
      | false => rfl
      | true => exact absurd ⟨v, hx, hpr⟩ hno
    rw [hu] at this
    cases this⟩
  rw [ha] at this
  cases this
/-- The program's set of what is left. -/
def outP (G : List Nat) (n S : Nat) : List Int → Nat
  | [] => andNot (2 ^ n - 1) S
  | v :: l => andNot (outP G n S l) (G.getD v.toNat 0)
theorem outP_test (G : List Nat) (n S y : Nat) : ∀ l : List Int, (outP G n S l).testBit y = ((decide (y < n) && !S.testBit y) && l.all fun v => !(G.getD v.toNat 0).testBit y)
  | [] => by simp [outP, andNot_test, Nat.testBit_two_pow_sub_one]
  | v :: l => by
    rw [outP, andNot_test, outP_test G n S y l, List.all_cons]
    cases (decide (y < n) && !S.testBit y) <;> cases (l.all fun v => !(G.getD v.toNat 0).testBit y) <;> cases (G.getD v.toNat 0).testBit y <;> rfl
theorem out_eq {n : Nat} {l : List Edg} {out : List Int} (hn : n ≤ 14) (hok : okN n l) (hr : ∀ x, x ∈ out → 0 ≤ x ∧ x < (n : Int)) : outP (grf n l) n (bitsI out) (elemsN 64 (bitsI out)).reverse = bitsI (lfL n l out) := by
  have h64 : in64 out := fun x hx => by have := hr x hx; omega
  have h64b : in64 (lfL n l out) := fun x hx => by have := lfL_in hx; omega
  apply Nat.eq_of_testBit_eq
  intro y
  rw [outP_test, bitsI_test _ h64b, bitsI_test _ h64, Bool.eq_iff_iff, List.contains_iff_mem, List.all_reverse]
  unfold lfL
  rw [List.mem_filter, intsN_mem]
  simp only [Bool.and_eq_true, List.all_eq_true, decide_eq_true_eq, Bool.not_eq_true', decide_eq_false_iff_not]
  have he : ∀ v : Nat, (v : Int) ∈ out → y < n → y ≠ v → edgeP l (y : Int) (v : Int) = ((grf n l).getD v 0).testBit y := fun v hv hy hne => by
    have h1 := has_edge hok (v : Int) (y : Int)
    have h2 := hr _ hv
    have h4 : edgeP l (v : Int) (y : Int) = edgeP l (y : Int) (v : Int) := by unfold edgeP; rw [Int.min_comm, Int.max_comm]
    unfold hasPE at h1
    rw [decide_eq_false (show ¬ ((v : Int) = (y : Int)) by omega), Bool.not_false, Bool.true_and, decide_eq_true (by omega), decide_eq_true (by omega), decide_eq_true (by omega), decide_eq_true (by omega), Bool.and_self, Bool.true_and, Bool.true_and, Int.toNat_natCast, Int.toNat_natCast, h4] at h1
    rw [grf_test hok, ← h1]
  constructor
  · rintro ⟨⟨h1, h2⟩, h3⟩
    refine ⟨by omega, fun v hv => ?_⟩
    have h4 := hr v hv
    obtain ⟨u, rfl⟩ : ∃ u : Nat, v = (u : Int) := ⟨v.toNat, by omega⟩
    have hne : y ≠ u := by
      rintro rfl
      rw [List.contains_iff_mem.2 hv] at h2
      cases h2
    have h5 := h3 (u : Int) (elems_mem.2 ⟨u, by omega, by rw [bitsI_test _ h64]; exact List.contains_iff_mem.2 hv, rfl⟩)
    rw [Int.toNat_natCast] at h5
    exact ⟨by omega, by rw [he u hv h1 hne]; exact h5⟩
  · rintro ⟨h1, h2⟩
    refine ⟨⟨by omega, ?_⟩, fun v hv => ?_⟩
    · rw [Bool.eq_false_iff]
      intro hc
      exact (h2 _ (List.contains_iff_mem.1 hc)).1 rfl
    · obtain ⟨u, h3, h4, rfl⟩ := elems_mem.1 hv
      rw [bitsI_test _ h64] at h4
      have hv2 := List.contains_iff_mem.1 h4
      have h5 := h2 _ hv2
      rw [Int.toNat_natCast, ← he u hv2 (by omega) (by omega)]
      exact h5.2
end Go.Proofs.YtpoackngngdhlaaDoor.Ab

/- Chapter 28: the greedy repair, both sides. -/
open Go Go.Proofs Go.RowKit
namespace Go.Proofs.YtpoackngngdhlaaDoor.Ab
set_option linter.unusedSimpArgs false
set_option linter.unusedVariables false
set_option maxRecDepth 100000
theorem outP_snoc (G : List Nat) (n b : Nat) (l : List Int) {i : Nat} (h : i < l.length) : outP G n b (l.take (i + 1)).reverse = andNot (outP G n b (l.take i).reverse) (G.getD l[i].toNat 0) := by
  rw [List.take_succ_eq_append_getElem h, List.reverse_append]
  rfl
theorem outP_lt (G : List Nat) {n : Nat} (hn : n ≤ 14) (b : Nat) : ∀ l : List Int, outP G n b l < 18446744073709551616
  | [] => andNot_lt _ (by have := pow14p hn; omega)
  | v :: l => andNot_lt _ (outP_lt G hn b l)
theorem bitsI_nil : bitsI [] = 0 := rfl
theorem bits_snocN (o : List Int) (v : Nat) : bitsI (o ++ [(v : Int)]) = bitsI o ||| 2 ^ v := by
  rw [bitsI_snoc]
  rfl
theorem lf_all (m : Nat) (l : List Edg) : lfL m l [] = intsN m := by
  unfold lfL
  exact List.filter_eq_self.2 (fun x _ => rfl)
theorem lf_nil {m : Nat} {l : List Edg} (hm : m ≤ 14) (hok : okN m l) : bitsI (lfL m l []) = 2 ^ m - 1 := by
  rw [← out_eq hm hok (by simp), bitsI_nil, elems_zero]
  show andNot (2 ^ m - 1) 0 = 2 ^ m - 1
  apply Nat.eq_of_testBit_eq
  intro i
  rw [andNot_test, Nat.zero_testBit, Bool.not_false, Bool.and_true]
theorem intsN_zero : intsN 0 = [] := rfl
theorem intsN_len (n : Nat) : (intsN n).length = n := by unfold intsN; rw [List.length_map, List.length_range]
theorem intsN_snoc (n : Nat) : intsN (n + 1) = intsN n ++ [(n : Int)] := by unfold intsN; rw [List.range_succ, List.map_append]; rfl
theorem outside_a {n : Nat} {l : List Edg} {out : List Int} (hn : n ≤ 14) (hok : okN n l) (hr : ∀ x, x ∈ out → 0 ≤ x ∧ x < (n : Int)) : AC Tryd.prog 33 [.d (.sl ((grf n l).map encU)), .d (.v (.int .u64 (bitsI out : Int)))] (.d (.v (.int .u64 (bitsI (lfL n l out) : Int)))) := by
  have h64 : in64 out := fun x hx => by have := hr x hx; omega
  have hlt := bitsI_lt out h64
  have hgl := grf_len n l
  have hc1 := vertices_a (G := grf n l) (by omega)
  rw [hgl] at hc1
  have h14 := pow14p hn
  have e1 := bAn (a := 2 ^ n - 1) (b := bitsI out) (by omega) hlt
  have hc2 := elements_a (bitsI out) hlt
  have hel := fun x => elems_mem (n := 64) (b := bitsI out) (x := x)
  have hll := elems_len 64 (bitsI out)
  have hglt := fun i => grf_lt hok (by omega : n ≤ 64) i
  rw [← out_eq hn hok hr]
  have hbin : ∀ q : Nat, (bitsI out).testBit q = true → q < n := fun q hq => by
    rw [bitsI_test _ h64] at hq
    have := hr _ (List.contains_iff_mem.1 hq)
    omega
  generalize bitsI out = b at *
  generalize elemsN 64 b = E at *
  refine AC.intro Tryd.func33 rfl (by decide) (by simp [S.res, S.ress]) (by simp [S.os, S.oss]) (by simp [S.wfs, S.wf, dbS]) (by simp [Tryd.f33]) ?_; rw [Tryd.ntmps33]
  repeat (first | refine aq ?_ | refine ap (by rfl : apartB 0 _ _ = true) ?_ | refine ak ?_ | refine ab ?_ | refine al ?_ | ((first | refine ar ?_ | refine ad ty_mix (by kernel_rfl) ?_ | refine ac ?_ | refine ae ?_ | with_reducible refine Later.mk ?_); simp only [evD, evL, iteL, St.said, St.asked, evStep, evOp, evP, St.init, St.app, srcStep, kill, setMany, loadS, fieldS, buildS, toks, Fin, upd_app, Array.isEmpty, Nat.reduceLT, Nat.reduceAdd, Nat.reduceMul, Nat.reduceLeDiff, Nat.reduceSub, Nat.reduceEqDiff, reduceCtorEq, reduceIte, ↓Opt.is, ↓Opt.no, ↓Asks.yes, ↓Asks.no, tyL, encL, asB]))
  refine ⟨_, hc1, ?_⟩; (repeat (first | refine ap (by rfl : apartB 0 _ _ = true) ?_ | refine ap (by simp [osL, D.flat]) ?_)); repeat (first | refine aq ?_ | refine ap (by rfl : apartB 0 _ _ = true) ?_ | refine ak ?_ | refine ab ?_ | refine al ?_ | ((first | refine ar ?_ | refine ad ty_mix (by kernel_rfl) ?_ | refine ac ?_ | refine ae ?_ | with_reducible refine Later.mk ?_); simp only [evD, evL, iteL, St.said, St.asked, evStep, evOp, evP, St.init, St.app, srcStep, kill, setMany, loadS, fieldS, buildS, toks, Fin, upd_app, Array.isEmpty, Nat.reduceLT, Nat.reduceAdd, Nat.reduceMul, Nat.reduceLeDiff, Nat.reduceSub, Nat.reduceEqDiff, reduceCtorEq, reduceIte, ↓Opt.is, ↓Opt.no, ↓Asks.yes, ↓Asks.no, tyL, encL, e1, asB]))
  refine ⟨_, hc2, ?_⟩; (repeat (first | refine ap (by rfl : apartB 0 _ _ = true) ?_ | refine ap (by simp [osL, D.flat]) ?_)); repeat (first | refine aq ?_ | refine ap (by rfl : apartB 0 _ _ = true) ?_ | refine ak ?_ | refine ab ?_ | refine al ?_ | ((first | refine ar ?_ | refine ad ty_mix (by kernel_rfl) ?_ | refine ac ?_ | refine ae ?_ | with_reducible refine Later.mk ?_); simp only [evD, evL, iteL, St.said, St.asked, evStep, evOp, evP, St.init, St.app, srcStep, kill, setMany, loadS, fieldS, buildS, toks, Fin, upd_app, Array.isEmpty, Nat.reduceLT, Nat.reduceAdd, Nat.reduceMul, Nat.reduceLeDiff, Nat.reduceSub, Nat.reduceEqDiff, reduceCtorEq, reduceIte, ↓Opt.is, ↓Opt.no, ↓Asks.yes, ↓Asks.no, tyL, encL, asB]))
  generalize grf n l = G at *
  refine Ab.loopI E.length (fun _ => True) (fun i => mkS 27 [(0, .d (.sl (List.map encU G))), (5, .d (.v (.int .u64 (outP G n b (E.take i).reverse : Int)))), (13, .o 112 (.sl (List.map encI E))), (14, .d (.v (.int .i64 (E.length : Int)))), (15, .d (.v (.int .i64 (i : Int))))] [(112, .tok (.sl (List.map encI E)))] 160) trivial ?_ ?_
  · ((first | refine Le.mk rfl ?_ ?_ | refine LeTo.mk rfl ?_ ?_) <;> simp only [evD, evL, iteL, St.said, St.asked, evStep, evOp, evP, St.init, St.app, srcStep, kill, setMany, loadS, fieldS, buildS, toks, Fin, upd_app, Array.isEmpty, Nat.reduceLT, Nat.reduceAdd, Nat.reduceMul, Nat.reduceLeDiff, Nat.reduceSub, Nat.reduceEqDiff, reduceCtorEq, reduceIte, ↓Opt.is, ↓Opt.no, ↓Asks.yes, ↓Asks.no, tyL, encL, leL, leD, ne_eq, List.take_zero, List.reverse_nil, outP])
  intro i hi _
  repeat (first | refine aq ?_ | refine ap (by rfl : apartB 0 _ _ = true) ?_ | refine ak ?_ | refine ab ?_ | refine al ?_ | ((first | refine ar ?_ | refine ad ty_mix (by kernel_rfl) ?_ | refine ac ?_ | refine ae ?_ | with_reducible refine Later.mk ?_); simp only [evD, evL, iteL, St.said, St.asked, evStep, evOp, evP, St.init, St.app, srcStep, kill, setMany, loadS, fieldS, buildS, toks, Fin, upd_app, Array.isEmpty, Nat.reduceLT, Nat.reduceAdd, Nat.reduceMul, Nat.reduceLeDiff, Nat.reduceSub, Nat.reduceEqDiff, reduceCtorEq, reduceIte, ↓Opt.is, ↓Opt.no, ↓Asks.yes, ↓Asks.no, tyL, encL, mkS, updl, asB]))
  refine ⟨fun h => ?_, fun h => ?_⟩
  · have h : i < E.length := by simpa using h
    have hw := wrapN h (by omega)
    have hst := outP_snoc G n b E h
    have hult := outP_lt G hn b (E.take i).reverse
    obtain ⟨q, h1, h2, h3⟩ := (hel E[i]).1 (List.getElem_mem h)
    have hqn := hbin q h2
    generalize outP G n b (E.take i).reverse = U at *
    rw [h3, Int.toNat_natCast] at hst
    have e2 := bAn hult (hglt q)
    have hgq := getG (G := G) (i := q) (by omega)
    have z3 : ∀ x : Nat, (0 ≤ (x : Int)) = True := fun x => eq_true (by omega)
    have z1 : (q < G.length) = True := eq_true (by omega)
    repeat (first | refine aq ?_ | refine ap (by rfl : apartB 0 _ _ = true) ?_ | refine ak ?_ | refine ab ?_ | refine al ?_ | ((first | refine ar ?_ | refine ad ty_mix (by kernel_rfl) ?_ | refine ac ?_ | refine ae ?_ | with_reducible refine Later.mk ?_); simp only [evD, evL, iteL, St.said, St.asked, evStep, evOp, evP, St.init, St.app, srcStep, kill, setMany, loadS, fieldS, buildS, toks, Fin, upd_app, Array.isEmpty, Nat.reduceLT, Nat.reduceAdd, Nat.reduceMul, Nat.reduceLeDiff, Nat.reduceSub, Nat.reduceEqDiff, reduceCtorEq, reduceIte, ↓Opt.is, ↓Opt.no, ↓Asks.yes, ↓Asks.no, tyL, encL, getI h, h3, hgq, z1, z3, Int.toNat_natCast, if_true, List.length_map, e2, hw, asB]))
    refine ⟨h, ?_⟩
    ((first | refine Le.mk rfl ?_ ?_ | refine LeTo.mk rfl ?_ ?_) <;> simp only [evD, evL, iteL, St.said, St.asked, evStep, evOp, evP, St.init, St.app, srcStep, kill, setMany, loadS, fieldS, buildS, toks, Fin, upd_app, Array.isEmpty, Nat.reduceLT, Nat.reduceAdd, Nat.reduceMul, Nat.reduceLeDiff, Nat.reduceSub, Nat.reduceEqDiff, reduceCtorEq, reduceIte, ↓Opt.is, ↓Opt.no, ↓Asks.yes, ↓Asks.no, tyL, encL, leL, leD, ne_eq, hst])
  · have h : i = E.length := by have := of_decide_eq_false h; omega
    subst h
    repeat (first | refine aq ?_ | refine ap (by rfl : apartB 0 _ _ = true) ?_ | refine ak ?_ | refine ab ?_ | refine al ?_ | ((first | refine ar ?_ | refine ad ty_mix (by kernel_rfl) ?_ | refine ac ?_ | refine ae ?_ | with_reducible refine Later.mk ?_); simp only [evD, evL, iteL, St.said, St.asked, evStep, evOp, evP, St.init, St.app, srcStep, kill, setMany, loadS, fieldS, buildS, toks, Fin, upd_app, Array.isEmpty, Nat.reduceLT, Nat.reduceAdd, Nat.reduceMul, Nat.reduceLeDiff, Nat.reduceSub, Nat.reduceEqDiff, reduceCtorEq, reduceIte, ↓Opt.is, ↓Opt.no, ↓Asks.yes, ↓Asks.no, tyL, encL, asB]))
    refine Ab.ret ?_; simp only [evD, evL, iteL, St.said, St.asked, evStep, evOp, evP, St.init, St.app, srcStep, kill, setMany, loadS, fieldS, buildS, toks, Fin, upd_app, Array.isEmpty, Nat.reduceLT, Nat.reduceAdd, Nat.reduceMul, Nat.reduceLeDiff, Nat.reduceSub, Nat.reduceEqDiff, reduceCtorEq, reduceIte, ↓Opt.is, ↓Opt.no, ↓Asks.yes, ↓Asks.no, tyL, List.nodup_cons, encL, Tryd.f33, List.take_length]
theorem first_elem {b : Nat} (hb : b < 18446744073709551616) {x : Int} {t : List Int} (h : elemsN 64 b = x :: t) : ((Go.Lib.ctz 64 b : Nat) : Int) = x := by
  have h0 : b ≠ 0 := by rintro rfl; rw [elems_zero] at h; cases h
  have := elems_step h0 hb (Nat.le_refl 64)
  rw [h] at this
  injection this with h1 h2
  exact h1.symm
def grR (n : Int) (l p : List Edg) : List Int := if prfOk n l p = true then sortI (grd n.toNat l p []) else []
set_option maxHeartbeats 3200000 in
theorem implGreedyRepair_a {n : Int} {l p : List Edg} (gE : (eSlice eEdg).good l) (gP : (eSlice eEdg).good p) (hl : l.length ≤ 1048576) (hp : p.length ≤ 1048576) : AC Tryd.prog 13 [.d (.v (.int .i64 n)), .d (encEs l), .d (encEs p)] (.o 0 (encIs (grR n l p))) := by
  have hc := newPref_a (n := n) gE gP hl hp
  unfold grR
  rcases Bool.eq_false_or_eq_true (prfOk n l p) with hd | hd
  · obtain ⟨h1, h2, m, rfl, hm, hok, hoP⟩ := prf_ok hd
    rw [hd] at hc
    unfold prG at hc
    rw [h1, h2, Bool.and_self, if_pos rfl, Int.toNat_natCast] at hc
    rw [hd, if_pos rfl, Int.toNat_natCast]
    have hv := vertices_a (G := grf m l) (by rw [grf_len]; exact hm)
    rw [grf_len] at hv
    refine AC.intro Tryd.func13 rfl (by decide) (by simp [S.res, S.ress]) (by simp [S.os, S.oss]) (by simp [S.wfs, S.wf, dbS]) (by simp [Tryd.f13]) ?_; rw [Tryd.ntmps13]
    repeat (first | refine aq ?_ | refine ap (by rfl : apartB 0 _ _ = true) ?_ | refine ak ?_ | refine ab ?_ | refine al ?_ | ((first | refine ar ?_ | refine ad ty_mix (by kernel_rfl) ?_ | refine ac ?_ | refine ae ?_ | with_reducible refine Later.mk ?_); simp only [evD, evL, iteL, St.said, St.asked, evStep, evOp, evP, St.init, St.app, srcStep, kill, setMany, loadS, fieldS, buildS, toks, Fin, upd_app, Array.isEmpty, Nat.reduceLT, Nat.reduceAdd, Nat.reduceMul, Nat.reduceLeDiff, Nat.reduceSub, Nat.reduceEqDiff, reduceCtorEq, reduceIte, ↓Opt.is, ↓Opt.no, ↓Asks.yes, ↓Asks.no, tyL, encL, asB]))
    refine ⟨_, hc, ?_⟩; (repeat (first | refine ap (by rfl : apartB 0 _ _ = true) ?_ | refine ap (by simp [osL, D.flat]) ?_)); repeat (first | refine aq ?_ | refine ap (by rfl : apartB 0 _ _ = true) ?_ | refine ak ?_ | refine ab ?_ | refine al ?_ | ((first | refine ar ?_ | refine ad ty_mix (by kernel_rfl) ?_ | refine ac ?_ | refine ae ?_ | with_reducible refine Later.mk ?_); simp only [evD, evL, iteL, St.said, St.asked, evStep, evOp, evP, St.init, St.app, srcStep, kill, setMany, loadS, fieldS, buildS, toks, Fin, upd_app, Array.isEmpty, Nat.reduceLT, Nat.reduceAdd, Nat.reduceMul, Nat.reduceLeDiff, Nat.reduceSub, Nat.reduceEqDiff, reduceCtorEq, reduceIte, ↓Opt.is, ↓Opt.no, ↓Asks.yes, ↓Asks.no, tyL, encL, asB]))
    refine ⟨_, hv, ?_⟩; (repeat (first | refine ap (by rfl : apartB 0 _ _ = true) ?_ | refine ap (by simp [osL, D.flat]) ?_)); repeat (first | refine aq ?_ | refine ap (by rfl : apartB 0 _ _ = true) ?_ | refine ak ?_ | refine ab ?_ | refine al ?_ | ((first | refine ar ?_ | refine ad ty_mix (by kernel_rfl) ?_ | refine ac ?_ | refine ae ?_ | with_reducible refine Later.mk ?_); simp only [evD, evL, iteL, St.said, St.asked, evStep, evOp, evP, St.init, St.app, srcStep, kill, setMany, loadS, fieldS, buildS, toks, Fin, upd_app, Array.isEmpty, Nat.reduceLT, Nat.reduceAdd, Nat.reduceMul, Nat.reduceLeDiff, Nat.reduceSub, Nat.reduceEqDiff, reduceCtorEq, reduceIte, ↓Opt.is, ↓Opt.no, ↓Asks.yes, ↓Asks.no, tyL, encL, asB]))
    have hnil := lf_nil hm hok
    have hall : allG p m = true := by
      unfold prfOk at hd
      simp only [Bool.and_eq_true] at hd
      exact hd.2.2
    refine Ab.loopG ([] : List Int) (fun o => (lfL m l o).length) (fun o => (∀ x, x ∈ o → 0 ≤ x ∧ x < (m : Int)) ∧ o.Nodup ∧ grd m l p o = grd m l p []) (fun o => mkS 37 [(7, .p 128 0), (9, .d (.v (.int .u64 (bitsI o : Int)))), (10, .d (.v (.int .u64 (bitsI (lfL m l o) : Int))))] [(128, .box [.d (.sl (List.map encU (grf m l))), .d (.sl (List.map encU (wrs m p)))])] 288) ⟨by simp, by simp, rfl⟩ ?_ ?_
    · ((first | refine Le.mk rfl ?_ ?_ | refine LeTo.mk rfl ?_ ?_) <;> simp only [evD, evL, iteL, St.said, St.asked, evStep, evOp, evP, St.init, St.app, srcStep, kill, setMany, loadS, fieldS, buildS, toks, Fin, upd_app, Array.isEmpty, Nat.reduceLT, Nat.reduceAdd, Nat.reduceMul, Nat.reduceLeDiff, Nat.reduceSub, Nat.reduceEqDiff, reduceCtorEq, reduceIte, ↓Opt.is, ↓Opt.no, ↓Asks.yes, ↓Asks.no, tyL, encL, leL, leD, ne_eq, hnil, bitsI_nil])
    intro o ⟨hr, hnd, hg⟩
    have h64 : in64 o := fun x hx => by have := hr x hx; omega
    have h64l : in64 (lfL m l o) := fun x hx => by have := lfL_in hx; omega
    have hlt := bitsI_lt o h64
    have hltl := bitsI_lt _ h64l
    have hne := ne0N (bitsI (lfL m l o))
    have hgl := grf_len m l
    by_cases h0 : lfL m l o = []
    · have hu : ufL m l p o = [] := by unfold ufL; rw [h0]; rfl
      rw [grd_nil hu] at hg
      have hsr : sortI (grd m l p []) = elemsN 64 (bitsI o) := by
        rw [← hg]
        exact sort_elems (n := m) (l := []) (by omega) ⟨hnd, hr, rfl, rfl⟩
      rw [h0, bitsI_nil, decide_eq_false (by simp)] at hne
      rw [h0, bitsI_nil]
      have hc5 := elements_a (bitsI o) hlt
      rw [hsr]
      repeat (first | refine aq ?_ | refine ap (by rfl : apartB 0 _ _ = true) ?_ | refine ak ?_ | refine ab ?_ | refine al ?_ | ((first | refine ar ?_ | refine ad ty_mix (by kernel_rfl) ?_ | refine ac ?_ | refine ae ?_ | with_reducible refine Later.mk ?_); simp only [evD, evL, iteL, St.said, St.asked, evStep, evOp, evP, St.init, St.app, srcStep, kill, setMany, loadS, fieldS, buildS, toks, Fin, upd_app, Array.isEmpty, Nat.reduceLT, Nat.reduceAdd, Nat.reduceMul, Nat.reduceLeDiff, Nat.reduceSub, Nat.reduceEqDiff, reduceCtorEq, reduceIte, ↓Opt.is, ↓Opt.no, ↓Asks.yes, ↓Asks.no, tyL, encL, mkS, updl, hne, asB]))
      refine ⟨_, hc5, ?_⟩; (repeat (first | refine ap (by rfl : apartB 0 _ _ = true) ?_ | refine ap (by simp [osL, D.flat]) ?_)); repeat (first | refine aq ?_ | refine ap (by rfl : apartB 0 _ _ = true) ?_ | refine ak ?_ | refine ab ?_ | refine al ?_ | ((first | refine ar ?_ | refine ad ty_mix (by kernel_rfl) ?_ | refine ac ?_ | refine ae ?_ | with_reducible refine Later.mk ?_); simp only [evD, evL, iteL, St.said, St.asked, evStep, evOp, evP, St.init, St.app, srcStep, kill, setMany, loadS, fieldS, buildS, toks, Fin, upd_app, Array.isEmpty, Nat.reduceLT, Nat.reduceAdd, Nat.reduceMul, Nat.reduceLeDiff, Nat.reduceSub, Nat.reduceEqDiff, reduceCtorEq, reduceIte, ↓Opt.is, ↓Opt.no, ↓Asks.yes, ↓Asks.no, tyL, encL, asB]))
      refine Ab.ret ?_; simp only [evD, evL, iteL, St.said, St.asked, evStep, evOp, evP, St.init, St.app, srcStep, kill, setMany, loadS, fieldS, buildS, toks, Fin, upd_app, Array.isEmpty, Nat.reduceLT, Nat.reduceAdd, Nat.reduceMul, Nat.reduceLeDiff, Nat.reduceSub, Nat.reduceEqDiff, reduceCtorEq, reduceIte, ↓Opt.is, ↓Opt.no, ↓Asks.yes, ↓Asks.no, tyL, List.nodup_cons, encL, Tryd.f13]
    · obtain ⟨x, t, hu⟩ := List.exists_cons_of_ne_nil (ufL_ne hoP hall h0)
      have hxl : x ∈ lfL m l o := by
        have : x ∈ ufL m l p o := by rw [hu]; simp
        exact (List.mem_filter.1 this).1
      have hxr := lfL_in hxl
      obtain ⟨v, rfl⟩ : ∃ v : Nat, x = (v : Int) := ⟨x.toNat, by omega⟩
      have hb0 : bitsI (lfL m l o) ≠ 0 := fun e => by
        have := bitsI_test (lfL m l o) h64l v
        rw [e, Nat.zero_testBit, List.contains_iff_mem.2 hxl] at this
        cases this
      rw [decide_eq_true hb0] at hne
      have hue := undom_eq hoP hm (lfL_set m l o)
      have hue : elemsN 64 (undS (wrs m p) (bitsI (lfL m l o))) = (v : Int) :: t := hue.trans hu
      have hult : undS (wrs m p) (bitsI (lfL m l o)) < 18446744073709551616 := undP_lt _ hltl _
      have hfe := first_elem hult hue
      have hin : ∀ y, (bitsI (lfL m l o)).testBit y = true → y < m := fun y hy => by
        rw [bitsI_test _ h64l] at hy
        have := lfL_in (List.contains_iff_mem.1 hy)
        omega
      have hcu := undominated_a (n := m) (p := p) (by omega) hoP hltl hin (grf m l)
      have hcf := first_a _ hult
      rw [hfe] at hcf
      have hcw := bits_with_a (bitsI o) v hlt (by omega)
      rw [← bits_snocN] at hcw
      have hr2 : ∀ x, x ∈ o ++ [(v : Int)] → 0 ≤ x ∧ x < (m : Int) := fun x hx => by
        rcases List.mem_append.1 hx with hx | hx
        · exact hr x hx
        · rw [List.mem_singleton] at hx; omega
      have hnd2 : (o ++ [(v : Int)]).Nodup := by
        rw [List.nodup_append]
        refine ⟨hnd, by simp, fun a ha b hb => ?_⟩
        rw [List.mem_singleton] at hb
        rintro rfl
        have h9 := (List.mem_filter.1 hxl).2
        rw [List.all_eq_true] at h9
        have := h9 a ha
        rw [hb] at this
        simp at this
      have hco := outside_a (n := m) (l := l) (out := o ++ [(v : Int)]) hm hok hr2
      have hg2 : grd m l p (o ++ [(v : Int)]) = grd m l p [] := by rw [← grd_cons hu, hg]
      have hlt2 := lfL_lt hu
      generalize undS (wrs m p) (bitsI (lfL m l o)) = U at *
      repeat (first | refine aq ?_ | refine ap (by rfl : apartB 0 _ _ = true) ?_ | refine ak ?_ | refine ab ?_ | refine al ?_ | ((first | refine ar ?_ | refine ad ty_mix (by kernel_rfl) ?_ | refine ac ?_ | refine ae ?_ | with_reducible refine Later.mk ?_); simp only [evD, evL, iteL, St.said, St.asked, evStep, evOp, evP, St.init, St.app, srcStep, kill, setMany, loadS, fieldS, buildS, toks, Fin, upd_app, Array.isEmpty, Nat.reduceLT, Nat.reduceAdd, Nat.reduceMul, Nat.reduceLeDiff, Nat.reduceSub, Nat.reduceEqDiff, reduceCtorEq, reduceIte, ↓Opt.is, ↓Opt.no, ↓Asks.yes, ↓Asks.no, tyL, encL, mkS, updl, hne, asB]))
      refine ⟨_, hcu, ?_⟩; (repeat (first | refine ap (by rfl : apartB 0 _ _ = true) ?_ | refine ap (by simp [osL, D.flat]) ?_)); repeat (first | refine aq ?_ | refine ap (by rfl : apartB 0 _ _ = true) ?_ | refine ak ?_ | refine ab ?_ | refine al ?_ | ((first | refine ar ?_ | refine ad ty_mix (by kernel_rfl) ?_ | refine ac ?_ | refine ae ?_ | with_reducible refine Later.mk ?_); simp only [evD, evL, iteL, St.said, St.asked, evStep, evOp, evP, St.init, St.app, srcStep, kill, setMany, loadS, fieldS, buildS, toks, Fin, upd_app, Array.isEmpty, Nat.reduceLT, Nat.reduceAdd, Nat.reduceMul, Nat.reduceLeDiff, Nat.reduceSub, Nat.reduceEqDiff, reduceCtorEq, reduceIte, ↓Opt.is, ↓Opt.no, ↓Asks.yes, ↓Asks.no, tyL, encL, asB]))
      refine ⟨_, hcf, ?_⟩; (repeat (first | refine ap (by rfl : apartB 0 _ _ = true) ?_ | refine ap (by simp [osL, D.flat]) ?_)); repeat (first | refine aq ?_ | refine ap (by rfl : apartB 0 _ _ = true) ?_ | refine ak ?_ | refine ab ?_ | refine al ?_ | ((first | refine ar ?_ | refine ad ty_mix (by kernel_rfl) ?_ | refine ac ?_ | refine ae ?_ | with_reducible refine Later.mk ?_); simp only [evD, evL, iteL, St.said, St.asked, evStep, evOp, evP, St.init, St.app, srcStep, kill, setMany, loadS, fieldS, buildS, toks, Fin, upd_app, Array.isEmpty, Nat.reduceLT, Nat.reduceAdd, Nat.reduceMul, Nat.reduceLeDiff, Nat.reduceSub, Nat.reduceEqDiff, reduceCtorEq, reduceIte, ↓Opt.is, ↓Opt.no, ↓Asks.yes, ↓Asks.no, tyL, encL, asB]))
      refine ⟨_, hcw, ?_⟩; (repeat (first | refine ap (by rfl : apartB 0 _ _ = true) ?_ | refine ap (by simp [osL, D.flat]) ?_)); repeat (first | refine aq ?_ | refine ap (by rfl : apartB 0 _ _ = true) ?_ | refine ak ?_ | refine ab ?_ | refine al ?_ | ((first | refine ar ?_ | refine ad ty_mix (by kernel_rfl) ?_ | refine ac ?_ | refine ae ?_ | with_reducible refine Later.mk ?_); simp only [evD, evL, iteL, St.said, St.asked, evStep, evOp, evP, St.init, St.app, srcStep, kill, setMany, loadS, fieldS, buildS, toks, Fin, upd_app, Array.isEmpty, Nat.reduceLT, Nat.reduceAdd, Nat.reduceMul, Nat.reduceLeDiff, Nat.reduceSub, Nat.reduceEqDiff, reduceCtorEq, reduceIte, ↓Opt.is, ↓Opt.no, ↓Asks.yes, ↓Asks.no, tyL, encL, asB]))
      refine ⟨_, hco, ?_⟩; (repeat (first | refine ap (by rfl : apartB 0 _ _ = true) ?_ | refine ap (by simp [osL, D.flat]) ?_)); repeat (first | refine aq ?_ | refine ap (by rfl : apartB 0 _ _ = true) ?_ | refine ak ?_ | refine ab ?_ | refine al ?_ | ((first | refine ar ?_ | refine ad ty_mix (by kernel_rfl) ?_ | refine ac ?_ | refine ae ?_ | with_reducible refine Later.mk ?_); simp only [evD, evL, iteL, St.said, St.asked, evStep, evOp, evP, St.init, St.app, srcStep, kill, setMany, loadS, fieldS, buildS, toks, Fin, upd_app, Array.isEmpty, Nat.reduceLT, Nat.reduceAdd, Nat.reduceMul, Nat.reduceLeDiff, Nat.reduceSub, Nat.reduceEqDiff, reduceCtorEq, reduceIte, ↓Opt.is, ↓Opt.no, ↓Asks.yes, ↓Asks.no, tyL, encL, asB]))
      refine ⟨_, hlt2, ⟨hr2, hnd2, hg2⟩, ?_⟩
      ((first | refine Le.mk rfl ?_ ?_ | refine LeTo.mk rfl ?_ ?_) <;> simp only [evD, evL, iteL, St.said, St.asked, evStep, evOp, evP, St.init, St.app, srcStep, kill, setMany, loadS, fieldS, buildS, toks, Fin, upd_app, Array.isEmpty, Nat.reduceLT, Nat.reduceAdd, Nat.reduceMul, Nat.reduceLeDiff, Nat.reduceSub, Nat.reduceEqDiff, reduceCtorEq, reduceIte, ↓Opt.is, ↓Opt.no, ↓Asks.yes, ↓Asks.no, tyL, encL, leL, leD, ne_eq])
  · rw [hd] at hc
    rw [hd, if_neg (by simp)]
    generalize prG n l p = A at *
    refine AC.intro Tryd.func13 rfl (by decide) (by simp [S.res, S.ress]) (by simp [S.os, S.oss]) (by simp [S.wfs, S.wf, dbS]) (by simp [Tryd.f13]) ?_; rw [Tryd.ntmps13]
    repeat (first | refine aq ?_ | refine ap (by rfl : apartB 0 _ _ = true) ?_ | refine ak ?_ | refine ab ?_ | refine al ?_ | ((first | refine ar ?_ | refine ad ty_mix (by kernel_rfl) ?_ | refine ac ?_ | refine ae ?_ | with_reducible refine Later.mk ?_); simp only [evD, evL, iteL, St.said, St.asked, evStep, evOp, evP, St.init, St.app, srcStep, kill, setMany, loadS, fieldS, buildS, toks, Fin, upd_app, Array.isEmpty, Nat.reduceLT, Nat.reduceAdd, Nat.reduceMul, Nat.reduceLeDiff, Nat.reduceSub, Nat.reduceEqDiff, reduceCtorEq, reduceIte, ↓Opt.is, ↓Opt.no, ↓Asks.yes, ↓Asks.no, tyL, encL, asB]))
    refine ⟨_, hc, ?_⟩; (repeat (first | refine ap (by rfl : apartB 0 _ _ = true) ?_ | refine ap (by simp [osL, D.flat]) ?_)); repeat (first | refine aq ?_ | refine ap (by rfl : apartB 0 _ _ = true) ?_ | refine ak ?_ | refine ab ?_ | refine al ?_ | ((first | refine ar ?_ | refine ad ty_mix (by kernel_rfl) ?_ | refine ac ?_ | refine ae ?_ | with_reducible refine Later.mk ?_); simp only [evD, evL, iteL, St.said, St.asked, evStep, evOp, evP, St.init, St.app, srcStep, kill, setMany, loadS, fieldS, buildS, toks, Fin, upd_app, Array.isEmpty, Nat.reduceLT, Nat.reduceAdd, Nat.reduceMul, Nat.reduceLeDiff, Nat.reduceSub, Nat.reduceEqDiff, reduceCtorEq, reduceIte, ↓Opt.is, ↓Opt.no, ↓Asks.yes, ↓Asks.no, tyL, encL, asB]))
    refine Ab.ret ?_; simp only [evD, evL, iteL, St.said, St.asked, evStep, evOp, evP, St.init, St.app, srcStep, kill, setMany, loadS, fieldS, buildS, toks, Fin, upd_app, Array.isEmpty, Nat.reduceLT, Nat.reduceAdd, Nat.reduceMul, Nat.reduceLeDiff, Nat.reduceSub, Nat.reduceEqDiff, reduceCtorEq, reduceIte, ↓Opt.is, ↓Opt.no, ↓Asks.yes, ↓Asks.no, tyL, List.nodup_cons, encL, Tryd.f13]
theorem l28Rest_a {l : List Edg} {left : List Int} (gE : (eSlice eEdg).good l) (hl : l.length ≤ 1048576) (gI : (eSlice eInt).good left) (hs : left.length ≤ 1048576) (x : Int) : AC Tryd.prog 30 [.d (encEs l), .d (encIs left), .d (.v (.int .i64 x))] (.o 0 (encIs (left.filter fun y => !decide (y = x) && !edgeP l y x))) := by
  have hgI := gI.2
  refine AC.intro Tryd.func30 rfl (by decide) (by simp [S.res, S.ress]) (by simp [S.os, S.oss]) (by simp [S.wfs, S.wf, dbS]) (by simp [Tryd.f30]) ?_; rw [Tryd.ntmps30]
  repeat (first | refine aq ?_ | refine ap (by rfl : apartB 0 _ _ = true) ?_ | refine ak ?_ | refine ab ?_ | refine al ?_ | ((first | refine ar ?_ | refine ad ty_mix (by kernel_rfl) ?_ | refine ac ?_ | refine ae ?_ | with_reducible refine Later.mk ?_); simp only [evD, evL, iteL, St.said, St.asked, evStep, evOp, evP, St.init, St.app, srcStep, kill, setMany, loadS, fieldS, buildS, toks, Fin, upd_app, Array.isEmpty, Nat.reduceLT, Nat.reduceAdd, Nat.reduceMul, Nat.reduceLeDiff, Nat.reduceSub, Nat.reduceEqDiff, reduceCtorEq, reduceIte, ↓Opt.is, ↓Opt.no, ↓Asks.yes, ↓Asks.no, tyL, encL, asB]))
  refine Ab.loopI left.length (fun _ => True) (fun i => mkS 40 [(0, .d (.sl (List.map encE l))), (1, .d (.sl (List.map encI left))), (2, .d (.v (.int .i64 x))), (7, .g 16 (((left.take i).filter fun y => !decide (y = x) && !edgeP l y x).map encI)), (8, .d (.v (.int .i64 (i : Int))))] [(16, .tip true 3 1 (((left.take i).filter fun y => !decide (y = x) && !edgeP l y x).map encI))] 64) trivial ?_ ?_
  · ((first | refine Le.mk rfl ?_ ?_ | refine LeTo.mk rfl ?_ ?_) <;> simp only [evD, evL, iteL, St.said, St.asked, evStep, evOp, evP, St.init, St.app, srcStep, kill, setMany, loadS, fieldS, buildS, toks, Fin, upd_app, Array.isEmpty, Nat.reduceLT, Nat.reduceAdd, Nat.reduceMul, Nat.reduceLeDiff, Nat.reduceSub, Nat.reduceEqDiff, reduceCtorEq, reduceIte, ↓Opt.is, ↓Opt.no, ↓Asks.yes, ↓Asks.no, tyL, encL, leL, leD, ne_eq, List.take_zero, List.filter_nil])
  intro i hi _
  repeat (first | refine aq ?_ | refine ap (by rfl : apartB 0 _ _ = true) ?_ | refine ak ?_ | refine ab ?_ | refine al ?_ | ((first | refine ar ?_ | refine ad ty_mix (by kernel_rfl) ?_ | refine ac ?_ | refine ae ?_ | with_reducible refine Later.mk ?_); simp only [evD, evL, iteL, St.said, St.asked, evStep, evOp, evP, St.init, St.app, srcStep, kill, setMany, loadS, fieldS, buildS, toks, Fin, upd_app, Array.isEmpty, Nat.reduceLT, Nat.reduceAdd, Nat.reduceMul, Nat.reduceLeDiff, Nat.reduceSub, Nat.reduceEqDiff, reduceCtorEq, reduceIte, ↓Opt.is, ↓Opt.no, ↓Asks.yes, ↓Asks.no, tyL, encL, mkS, updl, asB]))
  refine ⟨fun h => ?_, fun h => ?_⟩
  · have h : i < left.length := by simpa using h
    have hw := wrapN h (by omega)
    have z3 : ∀ x : Nat, (0 ≤ (x : Int)) = True := fun x => eq_true (by omega)
    have hst : ((left.take (i + 1)).filter fun y => !decide (y = x) && !edgeP l y x) = ((left.take i).filter fun y => !decide (y = x) && !edgeP l y x) ++ (if (!decide (left[i] = x) && !edgeP l left[i] x) = true then [left[i]] else []) := by
      rw [List.take_succ_eq_append_getElem h, List.filter_append, List.filter_cons, List.filter_nil]
    have hfl : ((left.take i).filter fun y => !decide (y = x) && !edgeP l y x).length ≤ 1048576 := Nat.le_trans (List.length_filter_le _ _) (by rw [List.length_take]; omega)
    generalize ((left.take i).filter fun y => !decide (y = x) && !edgeP l y x) = A at *
    have hce := l28Edge_a gE left[i] x hl
    by_cases c1 : left[i] = x
    · have b1 : (left[i] != x) = false := by rw [c1]; exact bne_self_eq_false _
      rw [decide_eq_true c1, Bool.not_true, Bool.false_and, if_neg (by simp), List.append_nil] at hst
      repeat (first | refine aq ?_ | refine ap (by rfl : apartB 0 _ _ = true) ?_ | refine ak ?_ | refine ab ?_ | refine al ?_ | ((first | refine ar ?_ | refine ad ty_mix (by kernel_rfl) ?_ | refine ac ?_ | refine ae ?_ | with_reducible refine Later.mk ?_); simp only [evD, evL, iteL, St.said, St.asked, evStep, evOp, evP, St.init, St.app, srcStep, kill, setMany, loadS, fieldS, buildS, toks, Fin, upd_app, Array.isEmpty, Nat.reduceLT, Nat.reduceAdd, Nat.reduceMul, Nat.reduceLeDiff, Nat.reduceSub, Nat.reduceEqDiff, reduceCtorEq, reduceIte, ↓Opt.is, ↓Opt.no, ↓Asks.yes, ↓Asks.no, tyL, encL, getI h, z3, b1, hw, asB]))
      refine ⟨h, ?_⟩
      ((first | refine Le.mk rfl ?_ ?_ | refine LeTo.mk rfl ?_ ?_) <;> simp only [evD, evL, iteL, St.said, St.asked, evStep, evOp, evP, St.init, St.app, srcStep, kill, setMany, loadS, fieldS, buildS, toks, Fin, upd_app, Array.isEmpty, Nat.reduceLT, Nat.reduceAdd, Nat.reduceMul, Nat.reduceLeDiff, Nat.reduceSub, Nat.reduceEqDiff, reduceCtorEq, reduceIte, ↓Opt.is, ↓Opt.no, ↓Asks.yes, ↓Asks.no, tyL, encL, leL, leD, ne_eq, hst])
    · have b1 : (left[i] != x) = true := bne_iff_ne.2 c1
      rw [decide_eq_false c1, Bool.not_false, Bool.true_and] at hst
      rcases Bool.eq_false_or_eq_true (edgeP l left[i] x) with c2 | c2 <;> rw [c2] at hst hce
      · rw [if_neg (by simp), List.append_nil] at hst
        repeat (first | refine aq ?_ | refine ap (by rfl : apartB 0 _ _ = true) ?_ | refine ak ?_ | refine ab ?_ | refine al ?_ | ((first | refine ar ?_ | refine ad ty_mix (by kernel_rfl) ?_ | refine ac ?_ | refine ae ?_ | with_reducible refine Later.mk ?_); simp only [evD, evL, iteL, St.said, St.asked, evStep, evOp, evP, St.init, St.app, srcStep, kill, setMany, loadS, fieldS, buildS, toks, Fin, upd_app, Array.isEmpty, Nat.reduceLT, Nat.reduceAdd, Nat.reduceMul, Nat.reduceLeDiff, Nat.reduceSub, Nat.reduceEqDiff, reduceCtorEq, reduceIte, ↓Opt.is, ↓Opt.no, ↓Asks.yes, ↓Asks.no, tyL, encL, getI h, z3, b1, asB]))
        refine ⟨_, hce, ?_⟩; (repeat (first | refine ap (by rfl : apartB 0 _ _ = true) ?_ | refine ap (by simp [osL, D.flat]) ?_)); repeat (first | refine aq ?_ | refine ap (by rfl : apartB 0 _ _ = true) ?_ | refine ak ?_ | refine ab ?_ | refine al ?_ | ((first | refine ar ?_ | refine ad ty_mix (by kernel_rfl) ?_ | refine ac ?_ | refine ae ?_ | with_reducible refine Later.mk ?_); simp only [evD, evL, iteL, St.said, St.asked, evStep, evOp, evP, St.init, St.app, srcStep, kill, setMany, loadS, fieldS, buildS, toks, Fin, upd_app, Array.isEmpty, Nat.reduceLT, Nat.reduceAdd, Nat.reduceMul, Nat.reduceLeDiff, Nat.reduceSub, Nat.reduceEqDiff, reduceCtorEq, reduceIte, ↓Opt.is, ↓Opt.no, ↓Asks.yes, ↓Asks.no, tyL, encL, getI h, z3, b1, hw, asB]))
        refine ⟨h, ?_⟩
        ((first | refine Le.mk rfl ?_ ?_ | refine LeTo.mk rfl ?_ ?_) <;> simp only [evD, evL, iteL, St.said, St.asked, evStep, evOp, evP, St.init, St.app, srcStep, kill, setMany, loadS, fieldS, buildS, toks, Fin, upd_app, Array.isEmpty, Nat.reduceLT, Nat.reduceAdd, Nat.reduceMul, Nat.reduceLeDiff, Nat.reduceSub, Nat.reduceEqDiff, reduceCtorEq, reduceIte, ↓Opt.is, ↓Opt.no, ↓Asks.yes, ↓Asks.no, tyL, encL, leL, leD, ne_eq, hst])
      · rw [if_pos (by simp)] at hst
        repeat (first | refine aq ?_ | refine ap (by rfl : apartB 0 _ _ = true) ?_ | refine ak ?_ | refine ab ?_ | refine al ?_ | ((first | refine ar ?_ | refine ad ty_mix (by kernel_rfl) ?_ | refine ac ?_ | refine ae ?_ | with_reducible refine Later.mk ?_); simp only [evD, evL, iteL, St.said, St.asked, evStep, evOp, evP, St.init, St.app, srcStep, kill, setMany, loadS, fieldS, buildS, toks, Fin, upd_app, Array.isEmpty, Nat.reduceLT, Nat.reduceAdd, Nat.reduceMul, Nat.reduceLeDiff, Nat.reduceSub, Nat.reduceEqDiff, reduceCtorEq, reduceIte, ↓Opt.is, ↓Opt.no, ↓Asks.yes, ↓Asks.no, tyL, encL, getI h, z3, b1, asB]))
        refine ⟨_, hce, ?_⟩; (repeat (first | refine ap (by rfl : apartB 0 _ _ = true) ?_ | refine ap (by simp [osL, D.flat]) ?_)); repeat (first | refine aq ?_ | refine ap (by rfl : apartB 0 _ _ = true) ?_ | refine ak ?_ | refine ab ?_ | refine al ?_ | ((first | refine ar ?_ | refine ad ty_mix (by kernel_rfl) ?_ | refine ac ?_ | refine ae ?_ | with_reducible refine Later.mk ?_); simp only [evD, evL, iteL, St.said, St.asked, evStep, evOp, evP, St.init, St.app, srcStep, kill, setMany, loadS, fieldS, buildS, toks, Fin, upd_app, Array.isEmpty, Nat.reduceLT, Nat.reduceAdd, Nat.reduceMul, Nat.reduceLeDiff, Nat.reduceSub, Nat.reduceEqDiff, reduceCtorEq, reduceIte, ↓Opt.is, ↓Opt.no, ↓Asks.yes, ↓Asks.no, tyL, encL, getI h, z3, b1, hw, asB]))
        refine ⟨by simp only [maxLen]; omega, by omega, ?_⟩
        repeat (first | refine aq ?_ | refine ap (by rfl : apartB 0 _ _ = true) ?_ | refine ak ?_ | refine ab ?_ | refine al ?_ | ((first | refine ar ?_ | refine ad ty_mix (by kernel_rfl) ?_ | refine ac ?_ | refine ae ?_ | with_reducible refine Later.mk ?_); simp only [evD, evL, iteL, St.said, St.asked, evStep, evOp, evP, St.init, St.app, srcStep, kill, setMany, loadS, fieldS, buildS, toks, Fin, upd_app, Array.isEmpty, Nat.reduceLT, Nat.reduceAdd, Nat.reduceMul, Nat.reduceLeDiff, Nat.reduceSub, Nat.reduceEqDiff, reduceCtorEq, reduceIte, ↓Opt.is, ↓Opt.no, ↓Asks.yes, ↓Asks.no, tyL, encL, hw, asB]))
        refine ⟨h, ?_⟩
        ((first | refine Le.mk rfl ?_ ?_ | refine LeTo.mk rfl ?_ ?_) <;> simp only [evD, evL, iteL, St.said, St.asked, evStep, evOp, evP, St.init, St.app, srcStep, kill, setMany, loadS, fieldS, buildS, toks, Fin, upd_app, Array.isEmpty, Nat.reduceLT, Nat.reduceAdd, Nat.reduceMul, Nat.reduceLeDiff, Nat.reduceSub, Nat.reduceEqDiff, reduceCtorEq, reduceIte, ↓Opt.is, ↓Opt.no, ↓Asks.yes, ↓Asks.no, tyL, encL, leL, leD, ne_eq, hst, List.map_append, encI])
  · have h : i = left.length := by have := of_decide_eq_false h; omega
    subst h
    rw [List.take_length]
    repeat (first | refine aq ?_ | refine ap (by rfl : apartB 0 _ _ = true) ?_ | refine ak ?_ | refine ab ?_ | refine al ?_ | ((first | refine ar ?_ | refine ad ty_mix (by kernel_rfl) ?_ | refine ac ?_ | refine ae ?_ | with_reducible refine Later.mk ?_); simp only [evD, evL, iteL, St.said, St.asked, evStep, evOp, evP, St.init, St.app, srcStep, kill, setMany, loadS, fieldS, buildS, toks, Fin, upd_app, Array.isEmpty, Nat.reduceLT, Nat.reduceAdd, Nat.reduceMul, Nat.reduceLeDiff, Nat.reduceSub, Nat.reduceEqDiff, reduceCtorEq, reduceIte, ↓Opt.is, ↓Opt.no, ↓Asks.yes, ↓Asks.no, tyL, encL, asB]))
    refine Ab.ret ?_; simp only [evD, evL, iteL, St.said, St.asked, evStep, evOp, evP, St.init, St.app, srcStep, kill, setMany, loadS, fieldS, buildS, toks, Fin, upd_app, Array.isEmpty, Nat.reduceLT, Nat.reduceAdd, Nat.reduceMul, Nat.reduceLeDiff, Nat.reduceSub, Nat.reduceEqDiff, reduceCtorEq, reduceIte, ↓Opt.is, ↓Opt.no, ↓Asks.yes, ↓Asks.no, tyL, List.nodup_cons, encL, Tryd.f30]
    exact ⟨_, _, rfl⟩
theorem l28All_a {n : Nat} (hn : n ≤ 14) : AC Tryd.prog 28 [.d (.v (.int .i64 (n : Int)))] (.o 0 (encIs (intsN n))) := by
  refine AC.intro Tryd.func28 rfl (by decide) (by simp [S.res, S.ress]) (by simp [S.os, S.oss]) (by simp [S.wfs, S.wf, dbS]) (by simp [Tryd.f28]) ?_; rw [Tryd.ntmps28]
  repeat (first | refine aq ?_ | refine ap (by rfl : apartB 0 _ _ = true) ?_ | refine ak ?_ | refine ab ?_ | refine al ?_ | ((first | refine ar ?_ | refine ad ty_mix (by kernel_rfl) ?_ | refine ac ?_ | refine ae ?_ | with_reducible refine Later.mk ?_); simp only [evD, evL, iteL, St.said, St.asked, evStep, evOp, evP, St.init, St.app, srcStep, kill, setMany, loadS, fieldS, buildS, toks, Fin, upd_app, Array.isEmpty, Nat.reduceLT, Nat.reduceAdd, Nat.reduceMul, Nat.reduceLeDiff, Nat.reduceSub, Nat.reduceEqDiff, reduceCtorEq, reduceIte, ↓Opt.is, ↓Opt.no, ↓Asks.yes, ↓Asks.no, tyL, encL, asB]))
  refine Ab.loopI n (fun _ => True) (fun i => mkS 15 [(0, .d (.v (.int .i64 (n : Int)))), (3, .g 16 ((intsN i).map encI))] [(16, .tip true 3 1 ((intsN i).map encI))] 48) trivial ?_ ?_
  · ((first | refine Le.mk rfl ?_ ?_ | refine LeTo.mk rfl ?_ ?_) <;> simp only [evD, evL, iteL, St.said, St.asked, evStep, evOp, evP, St.init, St.app, srcStep, kill, setMany, loadS, fieldS, buildS, toks, Fin, upd_app, Array.isEmpty, Nat.reduceLT, Nat.reduceAdd, Nat.reduceMul, Nat.reduceLeDiff, Nat.reduceSub, Nat.reduceEqDiff, reduceCtorEq, reduceIte, ↓Opt.is, ↓Opt.no, ↓Asks.yes, ↓Asks.no, tyL, encL, leL, leD, ne_eq, intsN_zero])
  intro i hi _
  have hst := intsN_snoc i
  have hlen := intsN_len i
  generalize hL : intsN i = L at *
  subst hlen
  repeat (first | refine aq ?_ | refine ap (by rfl : apartB 0 _ _ = true) ?_ | refine ak ?_ | refine ab ?_ | refine al ?_ | ((first | refine ar ?_ | refine ad ty_mix (by kernel_rfl) ?_ | refine ac ?_ | refine ae ?_ | with_reducible refine Later.mk ?_); simp only [evD, evL, iteL, St.said, St.asked, evStep, evOp, evP, St.init, St.app, srcStep, kill, setMany, loadS, fieldS, buildS, toks, Fin, upd_app, Array.isEmpty, Nat.reduceLT, Nat.reduceAdd, Nat.reduceMul, Nat.reduceLeDiff, Nat.reduceSub, Nat.reduceEqDiff, reduceCtorEq, reduceIte, ↓Opt.is, ↓Opt.no, ↓Asks.yes, ↓Asks.no, tyL, encL, mkS, updl, List.length_map, asB]))
  refine ⟨fun h2 => ?_, fun h2 => ?_⟩
  · have h2 : L.length < n := by simpa using h2
    repeat (first | refine aq ?_ | refine ap (by rfl : apartB 0 _ _ = true) ?_ | refine ak ?_ | refine ab ?_ | refine al ?_ | ((first | refine ar ?_ | refine ad ty_mix (by kernel_rfl) ?_ | refine ac ?_ | refine ae ?_ | with_reducible refine Later.mk ?_); simp only [evD, evL, iteL, St.said, St.asked, evStep, evOp, evP, St.init, St.app, srcStep, kill, setMany, loadS, fieldS, buildS, toks, Fin, upd_app, Array.isEmpty, Nat.reduceLT, Nat.reduceAdd, Nat.reduceMul, Nat.reduceLeDiff, Nat.reduceSub, Nat.reduceEqDiff, reduceCtorEq, reduceIte, ↓Opt.is, ↓Opt.no, ↓Asks.yes, ↓Asks.no, tyL, encL, List.length_map, asB]))
    refine ⟨by simp only [maxLen]; omega, by omega, ?_⟩
    repeat (first | refine aq ?_ | refine ap (by rfl : apartB 0 _ _ = true) ?_ | refine ak ?_ | refine ab ?_ | refine al ?_ | ((first | refine ar ?_ | refine ad ty_mix (by kernel_rfl) ?_ | refine ac ?_ | refine ae ?_ | with_reducible refine Later.mk ?_); simp only [evD, evL, iteL, St.said, St.asked, evStep, evOp, evP, St.init, St.app, srcStep, kill, setMany, loadS, fieldS, buildS, toks, Fin, upd_app, Array.isEmpty, Nat.reduceLT, Nat.reduceAdd, Nat.reduceMul, Nat.reduceLeDiff, Nat.reduceSub, Nat.reduceEqDiff, reduceCtorEq, reduceIte, ↓Opt.is, ↓Opt.no, ↓Asks.yes, ↓Asks.no, tyL, encL, asB]))
    refine ⟨h2, ?_⟩
    ((first | refine Le.mk rfl ?_ ?_ | refine LeTo.mk rfl ?_ ?_) <;> simp only [evD, evL, iteL, St.said, St.asked, evStep, evOp, evP, St.init, St.app, srcStep, kill, setMany, loadS, fieldS, buildS, toks, Fin, upd_app, Array.isEmpty, Nat.reduceLT, Nat.reduceAdd, Nat.reduceMul, Nat.reduceLeDiff, Nat.reduceSub, Nat.reduceEqDiff, reduceCtorEq, reduceIte, ↓Opt.is, ↓Opt.no, ↓Asks.yes, ↓Asks.no, tyL, encL, leL, leD, ne_eq, hst, List.map_append, encI])
  · have h2 : L.length = n := by have := of_decide_eq_false h2; omega
    repeat (first | refine aq ?_ | refine ap (by rfl : apartB 0 _ _ = true) ?_ | refine ak ?_ | refine ab ?_ | refine al ?_ | ((first | refine ar ?_ | refine ad ty_mix (by kernel_rfl) ?_ | refine ac ?_ | refine ae ?_ | with_reducible refine Later.mk ?_); simp only [evD, evL, iteL, St.said, St.asked, evStep, evOp, evP, St.init, St.app, srcStep, kill, setMany, loadS, fieldS, buildS, toks, Fin, upd_app, Array.isEmpty, Nat.reduceLT, Nat.reduceAdd, Nat.reduceMul, Nat.reduceLeDiff, Nat.reduceSub, Nat.reduceEqDiff, reduceCtorEq, reduceIte, ↓Opt.is, ↓Opt.no, ↓Asks.yes, ↓Asks.no, tyL, encL, asB]))
    rw [← h2, hL]
    refine Ab.ret ?_; simp only [evD, evL, iteL, St.said, St.asked, evStep, evOp, evP, St.init, St.app, srcStep, kill, setMany, loadS, fieldS, buildS, toks, Fin, upd_app, Array.isEmpty, Nat.reduceLT, Nat.reduceAdd, Nat.reduceMul, Nat.reduceLeDiff, Nat.reduceSub, Nat.reduceEqDiff, reduceCtorEq, reduceIte, ↓Opt.is, ↓Opt.no, ↓Asks.yes, ↓Asks.no, tyL, List.nodup_cons, encL, Tryd.f28]
    exact ⟨_, _, rfl⟩
set_option maxHeartbeats 3200000 in
theorem specGreedyRepair_a {n : Int} {l p : List Edg} (gE : (eSlice eEdg).good l) (gP : (eSlice eEdg).good p) (hl : l.length ≤ 1048576) (hp : p.length ≤ 1048576) : AC Tryd.prog 12 [.d (.v (.int .i64 n)), .d (encEs l), .d (encEs p)] (.o 0 (encIs (grR n l p))) := by
  have hc := specIsValidPreference_a (n := n) gE gP hl hp
  unfold grR
  rcases Bool.eq_false_or_eq_true (prfOk n l p) with hd | hd
  · obtain ⟨h1, h2, m, rfl, hm, hok, hoP⟩ := prf_ok hd
    have hc2 := l28All_a hm
    rw [hd] at hc
    rw [hd, if_pos rfl, Int.toNat_natCast]
    refine AC.intro Tryd.func12 rfl (by decide) (by simp [S.res, S.ress]) (by simp [S.os, S.oss]) (by simp [S.wfs, S.wf, dbS]) (by simp [Tryd.f12]) ?_; rw [Tryd.ntmps12]
    repeat (first | refine aq ?_ | refine ap (by rfl : apartB 0 _ _ = true) ?_ | refine ak ?_ | refine ab ?_ | refine al ?_ | ((first | refine ar ?_ | refine ad ty_mix (by kernel_rfl) ?_ | refine ac ?_ | refine ae ?_ | with_reducible refine Later.mk ?_); simp only [evD, evL, iteL, St.said, St.asked, evStep, evOp, evP, St.init, St.app, srcStep, kill, setMany, loadS, fieldS, buildS, toks, Fin, upd_app, Array.isEmpty, Nat.reduceLT, Nat.reduceAdd, Nat.reduceMul, Nat.reduceLeDiff, Nat.reduceSub, Nat.reduceEqDiff, reduceCtorEq, reduceIte, ↓Opt.is, ↓Opt.no, ↓Asks.yes, ↓Asks.no, tyL, encL, asB]))
    refine ⟨_, hc, ?_⟩; (repeat (first | refine ap (by rfl : apartB 0 _ _ = true) ?_ | refine ap (by simp [osL, D.flat]) ?_)); repeat (first | refine aq ?_ | refine ap (by rfl : apartB 0 _ _ = true) ?_ | refine ak ?_ | refine ab ?_ | refine al ?_ | ((first | refine ar ?_ | refine ad ty_mix (by kernel_rfl) ?_ | refine ac ?_ | refine ae ?_ | with_reducible refine Later.mk ?_); simp only [evD, evL, iteL, St.said, St.asked, evStep, evOp, evP, St.init, St.app, srcStep, kill, setMany, loadS, fieldS, buildS, toks, Fin, upd_app, Array.isEmpty, Nat.reduceLT, Nat.reduceAdd, Nat.reduceMul, Nat.reduceLeDiff, Nat.reduceSub, Nat.reduceEqDiff, reduceCtorEq, reduceIte, ↓Opt.is, ↓Opt.no, ↓Asks.yes, ↓Asks.no, tyL, encL, asB]))
    refine ⟨_, hc2, ?_⟩; (repeat (first | refine ap (by rfl : apartB 0 _ _ = true) ?_ | refine ap (by simp [osL, D.flat]) ?_)); repeat (first | refine aq ?_ | refine ap (by rfl : apartB 0 _ _ = true) ?_ | refine ak ?_ | refine ab ?_ | refine al ?_ | ((first | refine ar ?_ | refine ad ty_mix (by kernel_rfl) ?_ | refine ac ?_ | refine ae ?_ | with_reducible refine Later.mk ?_); simp only [evD, evL, iteL, St.said, St.asked, evStep, evOp, evP, St.init, St.app, srcStep, kill, setMany, loadS, fieldS, buildS, toks, Fin, upd_app, Array.isEmpty, Nat.reduceLT, Nat.reduceAdd, Nat.reduceMul, Nat.reduceLeDiff, Nat.reduceSub, Nat.reduceEqDiff, reduceCtorEq, reduceIte, ↓Opt.is, ↓Opt.no, ↓Asks.yes, ↓Asks.no, tyL, encL, asB]))
    have hall : allG p m = true := by
      have hd4 := hd
      unfold prfOk at hd4
      simp only [Bool.and_eq_true] at hd4
      exact hd4.2.2
    refine Ab.loopG ([] : List Int) (fun o => (lfL m l o).length) (fun o => o.length + (lfL m l o).length ≤ m ∧ grd m l p o = grd m l p []) (fun o => mkS 41 [(0, .d (.v (.int .i64 (m : Int)))), (1, .d (.sl (List.map encE l))), (2, .d (.sl (List.map encE p))), (7, .g 16 (o.map encI)), (8, .d (.sl ((lfL m l o).map encI)))] [(16, .tip true 3 1 (o.map encI))] 176) ⟨by rw [lf_all, intsN_len]; simp, rfl⟩ ?_ ?_
    · ((first | refine Le.mk rfl ?_ ?_ | refine LeTo.mk rfl ?_ ?_) <;> simp only [evD, evL, iteL, St.said, St.asked, evStep, evOp, evP, St.init, St.app, srcStep, kill, setMany, loadS, fieldS, buildS, toks, Fin, upd_app, Array.isEmpty, Nat.reduceLT, Nat.reduceAdd, Nat.reduceMul, Nat.reduceLeDiff, Nat.reduceSub, Nat.reduceEqDiff, reduceCtorEq, reduceIte, ↓Opt.is, ↓Opt.no, ↓Asks.yes, ↓Asks.no, tyL, encL, leL, leD, ne_eq, lf_all])
    intro o ⟨hol, hg⟩
    by_cases h0 : lfL m l o = []
    · have hu : ufL m l p o = [] := by unfold ufL; rw [h0]; rfl
      rw [grd_nil hu] at hg
      have hso := l7Sorted_a o (by omega)
      rw [h0, ← hg]
      have hgt0 : decide (((0 : Nat) : Int) > 0) = false := rfl
      repeat (first | refine aq ?_ | refine ap (by rfl : apartB 0 _ _ = true) ?_ | refine ak ?_ | refine ab ?_ | refine al ?_ | ((first | refine ar ?_ | refine ad ty_mix (by kernel_rfl) ?_ | refine ac ?_ | refine ae ?_ | with_reducible refine Later.mk ?_); simp only [evD, evL, iteL, St.said, St.asked, evStep, evOp, evP, St.init, St.app, srcStep, kill, setMany, loadS, fieldS, buildS, toks, Fin, upd_app, Array.isEmpty, Nat.reduceLT, Nat.reduceAdd, Nat.reduceMul, Nat.reduceLeDiff, Nat.reduceSub, Nat.reduceEqDiff, reduceCtorEq, reduceIte, ↓Opt.is, ↓Opt.no, ↓Asks.yes, ↓Asks.no, tyL, encL, mkS, updl, hgt0, asB]))
      refine ⟨_, hso, ?_⟩; (repeat (first | refine ap (by rfl : apartB 0 _ _ = true) ?_ | refine ap (by simp [osL, D.flat]) ?_)); repeat (first | refine aq ?_ | refine ap (by rfl : apartB 0 _ _ = true) ?_ | refine ak ?_ | refine ab ?_ | refine al ?_ | ((first | refine ar ?_ | refine ad ty_mix (by kernel_rfl) ?_ | refine ac ?_ | refine ae ?_ | with_reducible refine Later.mk ?_); simp only [evD, evL, iteL, St.said, St.asked, evStep, evOp, evP, St.init, St.app, srcStep, kill, setMany, loadS, fieldS, buildS, toks, Fin, upd_app, Array.isEmpty, Nat.reduceLT, Nat.reduceAdd, Nat.reduceMul, Nat.reduceLeDiff, Nat.reduceSub, Nat.reduceEqDiff, reduceCtorEq, reduceIte, ↓Opt.is, ↓Opt.no, ↓Asks.yes, ↓Asks.no, tyL, encL, asB]))
      refine Ab.ret ?_; simp only [evD, evL, iteL, St.said, St.asked, evStep, evOp, evP, St.init, St.app, srcStep, kill, setMany, loadS, fieldS, buildS, toks, Fin, upd_app, Array.isEmpty, Nat.reduceLT, Nat.reduceAdd, Nat.reduceMul, Nat.reduceLeDiff, Nat.reduceSub, Nat.reduceEqDiff, reduceCtorEq, reduceIte, ↓Opt.is, ↓Opt.no, ↓Asks.yes, ↓Asks.no, tyL, List.nodup_cons, encL, Tryd.f12]
    · obtain ⟨x, t, hu⟩ := List.exists_cons_of_ne_nil (ufL_ne hoP hall h0)
      have hpos : 0 < (lfL m l o).length := List.length_pos_iff.2 h0
      have hlt2 := lfL_lt hu
      have hgI : (eSlice eInt).good (lfL m l o) := ⟨by simp only [maxLen]; omega, fun y hy => by have := lfL_in hy; constructor <;> omega⟩
      have hcu := specUndominatedFacts_a (n := (m : Int)) gE gP hgI hl hp (by omega)
      have hud : udL (m : Int) l p (lfL m l o) = x :: t := by
        unfold udL udOk
        rw [hd, lfL_set, Bool.and_self, if_pos rfl]
        exact hu
      rw [hud] at hcu
      have hcr := l28Rest_a (left := lfL m l o) gE hl hgI (by omega) x
      rw [← lfL_snoc] at hcr
      have hg2 : grd m l p (o ++ [x]) = grd m l p [] := by rw [← grd_cons hu, hg]
      have hgt : decide (((lfL m l o).length : Int) > 0) = true := decide_eq_true (by omega)
      have hol2 : (o ++ [x]).length + (lfL m l (o ++ [x])).length ≤ m := by rw [List.length_append, List.length_singleton]; omega
      generalize lfL m l o = L at *
      repeat (first | refine aq ?_ | refine ap (by rfl : apartB 0 _ _ = true) ?_ | refine ak ?_ | refine ab ?_ | refine al ?_ | ((first | refine ar ?_ | refine ad ty_mix (by kernel_rfl) ?_ | refine ac ?_ | refine ae ?_ | with_reducible refine Later.mk ?_); simp only [evD, evL, iteL, St.said, St.asked, evStep, evOp, evP, St.init, St.app, srcStep, kill, setMany, loadS, fieldS, buildS, toks, Fin, upd_app, Array.isEmpty, Nat.reduceLT, Nat.reduceAdd, Nat.reduceMul, Nat.reduceLeDiff, Nat.reduceSub, Nat.reduceEqDiff, reduceCtorEq, reduceIte, ↓Opt.is, ↓Opt.no, ↓Asks.yes, ↓Asks.no, tyL, encL, mkS, updl, hgt, List.length_map, asB]))
      have tn0 : Int.toNat 0 = 0 := rfl
      have z0 : ((0 : Int) ≤ 0) = True := by simp
      refine ⟨_, hcu, ?_⟩; (repeat (first | refine ap (by rfl : apartB 0 _ _ = true) ?_ | refine ap (by simp [osL, D.flat]) ?_)); repeat (first | refine aq ?_ | refine ap (by rfl : apartB 0 _ _ = true) ?_ | refine ak ?_ | refine ab ?_ | refine al ?_ | ((first | refine ar ?_ | refine ad ty_mix (by kernel_rfl) ?_ | refine ac ?_ | refine ae ?_ | with_reducible refine Later.mk ?_); simp only [evD, evL, iteL, St.said, St.asked, evStep, evOp, evP, St.init, St.app, srcStep, kill, setMany, loadS, fieldS, buildS, toks, Fin, upd_app, Array.isEmpty, Nat.reduceLT, Nat.reduceAdd, Nat.reduceMul, Nat.reduceLeDiff, Nat.reduceSub, Nat.reduceEqDiff, reduceCtorEq, reduceIte, ↓Opt.is, ↓Opt.no, ↓Asks.yes, ↓Asks.no, tyL, encL, tn0, z0, encI, asB]))
      refine ⟨by simp only [maxLen]; omega, by omega, ?_⟩
      repeat (first | refine aq ?_ | refine ap (by rfl : apartB 0 _ _ = true) ?_ | refine ak ?_ | refine ab ?_ | refine al ?_ | ((first | refine ar ?_ | refine ad ty_mix (by kernel_rfl) ?_ | refine ac ?_ | refine ae ?_ | with_reducible refine Later.mk ?_); simp only [evD, evL, iteL, St.said, St.asked, evStep, evOp, evP, St.init, St.app, srcStep, kill, setMany, loadS, fieldS, buildS, toks, Fin, upd_app, Array.isEmpty, Nat.reduceLT, Nat.reduceAdd, Nat.reduceMul, Nat.reduceLeDiff, Nat.reduceSub, Nat.reduceEqDiff, reduceCtorEq, reduceIte, ↓Opt.is, ↓Opt.no, ↓Asks.yes, ↓Asks.no, tyL, encL, tn0, z0, encI, asB]))
      refine ⟨_, hcr, ?_⟩; (repeat (first | refine ap (by rfl : apartB 0 _ _ = true) ?_ | refine ap (by simp [osL, D.flat]) ?_)); repeat (first | refine aq ?_ | refine ap (by rfl : apartB 0 _ _ = true) ?_ | refine ak ?_ | refine ab ?_ | refine al ?_ | ((first | refine ar ?_ | refine ad ty_mix (by kernel_rfl) ?_ | refine ac ?_ | refine ae ?_ | with_reducible refine Later.mk ?_); simp only [evD, evL, iteL, St.said, St.asked, evStep, evOp, evP, St.init, St.app, srcStep, kill, setMany, loadS, fieldS, buildS, toks, Fin, upd_app, Array.isEmpty, Nat.reduceLT, Nat.reduceAdd, Nat.reduceMul, Nat.reduceLeDiff, Nat.reduceSub, Nat.reduceEqDiff, reduceCtorEq, reduceIte, ↓Opt.is, ↓Opt.no, ↓Asks.yes, ↓Asks.no, tyL, encL, asB]))
      refine ⟨_, hlt2, ⟨hol2, hg2⟩, ?_⟩
      ((first | refine Le.mk rfl ?_ ?_ | refine LeTo.mk rfl ?_ ?_) <;> simp only [evD, evL, iteL, St.said, St.asked, evStep, evOp, evP, St.init, St.app, srcStep, kill, setMany, loadS, fieldS, buildS, toks, Fin, upd_app, Array.isEmpty, Nat.reduceLT, Nat.reduceAdd, Nat.reduceMul, Nat.reduceLeDiff, Nat.reduceSub, Nat.reduceEqDiff, reduceCtorEq, reduceIte, ↓Opt.is, ↓Opt.no, ↓Asks.yes, ↓Asks.no, tyL, encL, leL, leD, ne_eq, List.map_append, encI])
  · rw [hd] at hc
    rw [hd, if_neg (by simp)]
    refine AC.intro Tryd.func12 rfl (by decide) (by simp [S.res, S.ress]) (by simp [S.os, S.oss]) (by simp [S.wfs, S.wf, dbS]) (by simp [Tryd.f12]) ?_; rw [Tryd.ntmps12]
    repeat (first | refine aq ?_ | refine ap (by rfl : apartB 0 _ _ = true) ?_ | refine ak ?_ | refine ab ?_ | refine al ?_ | ((first | refine ar ?_ | refine ad ty_mix (by kernel_rfl) ?_ | refine ac ?_ | refine ae ?_ | with_reducible refine Later.mk ?_); simp only [evD, evL, iteL, St.said, St.asked, evStep, evOp, evP, St.init, St.app, srcStep, kill, setMany, loadS, fieldS, buildS, toks, Fin, upd_app, Array.isEmpty, Nat.reduceLT, Nat.reduceAdd, Nat.reduceMul, Nat.reduceLeDiff, Nat.reduceSub, Nat.reduceEqDiff, reduceCtorEq, reduceIte, ↓Opt.is, ↓Opt.no, ↓Asks.yes, ↓Asks.no, tyL, encL, asB]))
    refine ⟨_, hc, ?_⟩; (repeat (first | refine ap (by rfl : apartB 0 _ _ = true) ?_ | refine ap (by simp [osL, D.flat]) ?_)); repeat (first | refine aq ?_ | refine ap (by rfl : apartB 0 _ _ = true) ?_ | refine ak ?_ | refine ab ?_ | refine al ?_ | ((first | refine ar ?_ | refine ad ty_mix (by kernel_rfl) ?_ | refine ac ?_ | refine ae ?_ | with_reducible refine Later.mk ?_); simp only [evD, evL, iteL, St.said, St.asked, evStep, evOp, evP, St.init, St.app, srcStep, kill, setMany, loadS, fieldS, buildS, toks, Fin, upd_app, Array.isEmpty, Nat.reduceLT, Nat.reduceAdd, Nat.reduceMul, Nat.reduceLeDiff, Nat.reduceSub, Nat.reduceEqDiff, reduceCtorEq, reduceIte, ↓Opt.is, ↓Opt.no, ↓Asks.yes, ↓Asks.no, tyL, encL, asB]))
    refine Ab.ret ?_; simp only [evD, evL, iteL, St.said, St.asked, evStep, evOp, evP, St.init, St.app, srcStep, kill, setMany, loadS, fieldS, buildS, toks, Fin, upd_app, Array.isEmpty, Nat.reduceLT, Nat.reduceAdd, Nat.reduceMul, Nat.reduceLeDiff, Nat.reduceSub, Nat.reduceEqDiff, reduceCtorEq, reduceIte, ↓Opt.is, ↓Opt.no, ↓Asks.yes, ↓Asks.no, tyL, List.nodup_cons, encL, Tryd.f12]
    exact ⟨_, _, rfl⟩
end Go.Proofs.YtpoackngngdhlaaDoor.Ab

/- Chapter 28: the greedy repair's answer is small. -/
open Go Go.Proofs Go.RowKit
namespace Go.Proofs.YtpoackngngdhlaaDoor.Ab
theorem grd_in (m : Nat) (l p : List Edg) : ∀ (k : Nat) (o : List Int), (lfL m l o).length ≤ k → (∀ x, x ∈ o → 0 ≤ x ∧ x < (m : Int)) → o.length + (lfL m l o).length ≤ m → (∀ x, x ∈ grd m l p o → 0 ≤ x ∧ x < (m : Int)) ∧ (grd m l p o).length ≤ m := by
  intro k
  induction k with
  | zero =>
    intro o h1 h2 h3
    have h0 : lfL m l o = [] := List.eq_nil_of_length_eq_zero (by omega)
    have hu : ufL m l p o = [] := by unfold ufL; rw [h0]; rfl
    rw [grd_nil hu]
    exact ⟨h2, by omega⟩
  | succ k ih =>
    intro o h1 h2 h3
    cases hu : ufL m l p o with
    | nil => rw [grd_nil hu]; exact ⟨h2, by omega⟩
    | cons x t =>
      rw [grd_cons hu]
      have hlt := lfL_lt hu
      have hx : x ∈ lfL m l o := by
        have : x ∈ ufL m l p o := by rw [hu]; simp
        exact (List.mem_filter.1 this).1
      refine ih (o ++ [x]) (by omega) (fun y hy => ?_) (by rw [List.length_append, List.length_singleton]; omega)
      rcases List.mem_append.1 hy with hy | hy
      · exact h2 y hy
      · rw [List.mem_singleton] at hy
        rw [hy]
        exact lfL_in hx
theorem grR_in (n : Int) (l p : List Edg) : (∀ x, x ∈ grR n l p → 0 ≤ x ∧ x < 14) ∧ (grR n l p).length ≤ 14 := by
  unfold grR
  split
  · rename_i h
    obtain ⟨_, _, m, rfl, hm, _, _⟩ := prf_ok h
    rw [Int.toNat_natCast]
    have h1 := grd_in m l p _ [] (Nat.le_refl _) (by simp) (by have := lfL_len m l []; simp; omega)
    refine ⟨fun x hx => ?_, by rw [(sortI_perm _).length_eq]; omega⟩
    have := h1.1 x ((sortI_perm _).mem_iff.1 hx)
    omega
  · simp
theorem grR_good (n : Int) (l p : List Edg) : (eSlice eInt).good (grR n l p) := by
  have h := grR_in n l p
  exact ⟨by have := h.2; simp only [maxLen]; omega, fun x hx => by have := h.1 x hx; constructor <;> omega⟩
theorem grR_len (n : Int) (l p : List Edg) : (grR n l p).length ≤ 4611686018427000000 := by
  have := (grR_in n l p).2
  omega
end Go.Proofs.YtpoackngngdhlaaDoor.Ab


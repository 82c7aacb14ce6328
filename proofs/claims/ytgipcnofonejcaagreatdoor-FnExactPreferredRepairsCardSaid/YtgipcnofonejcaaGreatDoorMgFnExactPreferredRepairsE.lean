/- Texts behind FnExactPreferredRepairs, put together. -/
import Derived.Test.YtgipcnofonejcaaGreatDoorMgFnExactPreferredRepairsD
set_option linter.unusedSimpArgs false
set_option linter.unusedVariables false
set_option linter.unusedSectionVars false
set_option linter.constructorNameAsVariable false
set_option maxRecDepth 100000
open Nat (reduceLT reduceAdd reduceMul reduceLeDiff reduceSub reduceEqDiff)
namespace Go.Proofs.YtgipcnofonejcaaGreatDoor
section
/- GrfOne: GrfP GrfI GrfM. -/
/- Chapter 8: conflict graphs as sets of bits; what an extension adds: pure. -/
open Go Go.Proofs Go.RowKit
namespace Ab
def addB (G : List Nat) (v u : Nat) : List Nat := G.set v (G.getD v 0 ||| 2 ^ u)
def gr (G : List Nat) (e : Edg) : List Nat := addB (addB G e.a.toNat e.b.toNat) e.b.toNat e.a.toNat
def grf (n : Nat) (l : List Edg) : List Nat := l.foldl gr (List.replicate n 0)
def okN (n : Nat) (l : List Edg) : Prop := ∀ e, e ∈ l → 0 ≤ e.a ∧ e.a < e.b ∧ e.b < (n : Int)
theorem addB_len (G : List Nat) (v u : Nat) : (addB G v u).length = G.length := by unfold addB; rw [List.length_set]
theorem gr_len (G : List Nat) (e : Edg) : (gr G e).length = G.length := by unfold gr; rw [addB_len, addB_len]
theorem grf_snoc (n : Nat) (l : List Edg) (e : Edg) : grf n (l ++ [e]) = gr (grf n l) e := by
 unfold grf
 rw [List.foldl_append]
 rfl
theorem foldgr_len (l : List Edg) : ∀ G : List Nat, (l.foldl gr G).length = G.length := by
 induction l with
 | nil => intro G; rfl
 | cons e l ih => intro G; rw [List.foldl_cons, ih, gr_len]
theorem grf_len (n : Nat) (l : List Edg) : (grf n l).length = n := by
 unfold grf
 rw [foldgr_len, List.length_replicate]
theorem addB_test (G : List Nat) {v : Nat} (u x y : Nat) (hv : v < G.length) : ((addB G v u).getD x 0).testBit y = ((G.getD x 0).testBit y || (decide (x = v) && decide (y = u))) := by
 unfold addB
 by_cases hx : x = v
 · subst hx
   rw [List.getD_eq_getElem?_getD, List.getElem?_set_self hv, Option.getD_some, Nat.testBit_or, Nat.testBit_two_pow, decide_eq_true rfl, Bool.true_and]
   congr 1
   rw [Bool.eq_iff_iff, decide_eq_true_eq, decide_eq_true_eq]
   exact eq_comm
 · rw [List.getD_eq_getElem?_getD, List.getElem?_set_ne (fun e => hx e.symm), ← List.getD_eq_getElem?_getD, decide_eq_false hx]
   simp
def adjE (l : List Edg) (x y : Nat) : Bool := l.any fun e => (decide (e.a = (x : Int)) && decide (e.b = (y : Int))) || (decide (e.b = (x : Int)) && decide (e.a = (y : Int)))
theorem foldgr_test {n : Nat} : ∀ (l : List Edg) (G : List Nat), okN n l → G.length = n → ∀ x y, ((l.foldl gr G).getD x 0).testBit y = ((G.getD x 0).testBit y || adjE l x y)
 | [], G, _, _, x, y => by simp [adjE]
 | e :: l, G, h, hn, x, y => by
   obtain ⟨h1, h2, h3⟩ := h e (by simp)
   rw [List.foldl_cons, foldgr_test l (gr G e) (fun z hz => h z (List.mem_cons_of_mem _ hz)) (by rw [gr_len, hn])]
   unfold gr
   rw [addB_test _ _ _ _ (by rw [addB_len]; omega), addB_test _ _ _ _ (by omega)]
   unfold adjE
   rw [List.any_cons, Bool.or_assoc, Bool.or_assoc]
   congr 1
   rw [← Bool.or_assoc]
   congr 1
   rw [Bool.eq_iff_iff]
   simp only [Bool.or_eq_true, Bool.and_eq_true, decide_eq_true_eq]
   omega
theorem grf_test {n : Nat} {l : List Edg} (h : okN n l) (x y : Nat) : ((grf n l).getD x 0).testBit y = adjE l x y := by
 unfold grf
 rw [foldgr_test l _ h (by rw [List.length_replicate])]
 have : (List.replicate n 0).getD x 0 = 0 := by
   rw [List.getD_eq_getElem?_getD, List.getElem?_replicate]
   split <;> rfl
 rw [this, Nat.zero_testBit, Bool.false_or]
theorem adj_in {n : Nat} {l : List Edg} (h : okN n l) {x y : Nat} (ha : adjE l x y = true) : x < n ∧ y < n ∧ x ≠ y := by
 unfold adjE at ha
 rw [List.any_eq_true] at ha
 obtain ⟨e, he, h2⟩ := ha
 have := h e he
 simp only [Bool.or_eq_true, Bool.and_eq_true, decide_eq_true_eq] at h2
 omega
theorem grf_lt {n : Nat} {l : List Edg} (h : okN n l) (hn : n ≤ 64) (x : Nat) : (grf n l).getD x 0 < 18446744073709551616 := by
 apply Nat.lt_pow_two_of_testBit (n := 64)
 intro i hi
 rw [grf_test h, Bool.eq_false_iff]
 intro ha
 have := adj_in h ha
 omega
def extP (G : List Nat) (S : Nat) : Nat → Nat
 | 0 => S
 | i + 1 => if G.getD i 0 &&& extP G S i = 0 then extP G S i ||| 2 ^ i else extP G S i
theorem extP_lt {G : List Nat} {S : Nat} (hS : S < 18446744073709551616) : ∀ i, i ≤ 64 → extP G S i < 18446744073709551616
 | 0, _ => hS
 | i + 1, h => by
   have ih := extP_lt (G := G) hS i (by omega)
   rw [extP]
   split
   · exact or_lt _ _ ih (pow_lt i (by omega))
   · exact ih
def fitsL (l : List Edg) (s : List Int) (x : Int) : Bool := !s.contains x && indE l (s ++ [x])
def outL (l : List Edg) (s : List Int) : Nat → List Int
 | 0 => s
 | i + 1 => if fitsL l (outL l s i) (i : Int) = true then outL l s i ++ [(i : Int)] else outL l s i
theorem outL_len (l : List Edg) (s : List Int) : ∀ i, (outL l s i).length ≤ s.length + i
 | 0 => Nat.le_refl _
 | i + 1 => by
   have := outL_len l s i
   rw [outL]
   split
   · rw [List.length_append, List.length_singleton]; omega
   · omega
structure InS (n : Nat) (l : List Edg) (s : List Int) (S : Nat) : Prop where
 nd : s.Nodup
 rng : ∀ x, x ∈ s → 0 ≤ x ∧ x < (n : Int)
 ind : indE l s = true
 bit : S = bitsI s
theorem InS.in64 {n : Nat} {l : List Edg} {s : List Int} {S : Nat} (h : InS n l s S) (hn : n ≤ 64) : in64 s := fun x hx => by have := h.rng x hx; omega
theorem fits_free {n : Nat} {l : List Edg} {s : List Int} {S : Nat} (hl : okN n l) (hn : n ≤ 64) (h : InS n l s S) {i : Nat} (hi : i < n) : (fitsL l s (i : Int) = true ∨ s.contains (i : Int) = true) ↔ (grf n l).getD i 0 &&& S = 0 := by
 have hb : ∀ y : Nat, S.testBit y = s.contains (y : Int) := fun y => by rw [h.bit, bitsI_test s (h.in64 hn)]
 have hz : ((grf n l).getD i 0 &&& S = 0) ↔ ∀ y : Nat, adjE l i y = true → s.contains (y : Int) = false := by
   constructor
   · intro e y hy
     have e2 := congrArg (fun z => Nat.testBit z y) e
     simp only [Nat.testBit_and, Nat.zero_testBit, grf_test hl, hb, hy, Bool.true_and] at e2
     exact e2
   · intro e
     apply Nat.eq_of_testBit_eq
     intro y
     rw [Nat.testBit_and, Nat.zero_testBit, grf_test hl, hb]
     cases ha : adjE l i y with
     | false => rfl
     | true => rw [e y ha]; rfl
 have hind := h.ind
 unfold indE at hind
 rw [List.all_eq_true] at hind
 rw [hz]
 have key : (∀ y : Nat, adjE l i y = true → s.contains (y : Int) = false) ↔ (∀ e, e ∈ l → (e.a = (i : Int) → s.contains e.b = false) ∧ (e.b = (i : Int) → s.contains e.a = false)) := by
   constructor
   · intro hy e he
     have h0 := hl e he
     constructor
     · intro h1
       have := hy e.b.toNat (by
         unfold adjE
         rw [List.any_eq_true]
         refine ⟨e, he, ?_⟩
         simp only [Bool.or_eq_true, Bool.and_eq_true, decide_eq_true_eq]
         omega)
       rwa [Int.toNat_of_nonneg (by omega)] at this
     · intro h1
       have := hy e.a.toNat (by
         unfold adjE
         rw [List.any_eq_true]
         refine ⟨e, he, ?_⟩
         simp only [Bool.or_eq_true, Bool.and_eq_true, decide_eq_true_eq]
         omega)
       rwa [Int.toNat_of_nonneg (by omega)] at this
   · intro he y hy
     unfold adjE at hy
     rw [List.any_eq_true] at hy
     obtain ⟨e, hel, h1⟩ := hy
     simp only [Bool.or_eq_true, Bool.and_eq_true, decide_eq_true_eq] at h1
     rcases h1 with ⟨h1, h2⟩ | ⟨h1, h2⟩
     · rw [← h2]; exact (he e hel).1 h1
     · rw [← h2]; exact (he e hel).2 h1
 rw [key]
 constructor
 · rintro (h1 | h1) e he
   · unfold fitsL indE at h1
     simp only [Bool.and_eq_true, Bool.not_eq_true', List.all_eq_true] at h1
     have h2 := h1.2 e he
     have h0 := hl e he
     have e3 : ∀ x : Int, (s ++ [(i : Int)]).contains x = (s.contains x || decide (x = (i : Int))) := fun x => by
       rw [Bool.eq_iff_iff]
       simp only [List.contains_iff_mem, List.mem_append, List.mem_singleton, Bool.or_eq_true, decide_eq_true_eq]
     rw [e3, e3] at h2
     constructor
     · intro h4
       rw [decide_eq_true h4] at h2
       cases hc : s.contains e.b with
       | false => rfl
       | true => rw [hc] at h2; simp at h2
     · intro h4
       rw [decide_eq_true h4] at h2
       cases hc : s.contains e.a with
       | false => rfl
       | true => rw [hc] at h2; simp at h2
   · have h2 := hind e he
     constructor
     · intro h4
       rw [h4, h1] at h2
       simpa using h2
     · intro h4
       rw [h4, h1] at h2
       simpa using h2
 · intro he
   cases hc : s.contains (i : Int) with
   | true => exact .inr rfl
   | false =>
     left
     unfold fitsL indE
     rw [hc]
     simp only [Bool.not_false, Bool.true_and, List.all_eq_true]
     intro e hel
     have h2 := hind e hel
     have h3 := he e hel
     have h0 := hl e hel
     have e3 : ∀ x : Int, (s ++ [(i : Int)]).contains x = (s.contains x || decide (x = (i : Int))) := fun x => by
       rw [Bool.eq_iff_iff]
       simp only [List.contains_iff_mem, List.mem_append, List.mem_singleton, Bool.or_eq_true, decide_eq_true_eq]
     rw [e3, e3]
     by_cases ha : e.a = (i : Int)
     · rw [h3.1 ha, decide_eq_false (by omega : ¬ e.b = (i : Int))]
       simp
     · by_cases hb2 : e.b = (i : Int)
       · rw [h3.2 hb2, decide_eq_false ha]
         simp
       · rw [decide_eq_false ha, decide_eq_false hb2, Bool.or_false, Bool.or_false]
         exact h2
theorem or_self_bit {S i : Nat} (h : S.testBit i = true) : S ||| 2 ^ i = S := by
 apply Nat.eq_of_testBit_eq
 intro j
 rw [Nat.testBit_or, Nat.testBit_two_pow]
 by_cases e : i = j
 · subst e; rw [h]; rfl
 · rw [decide_eq_false e, Bool.or_false]
theorem ext_eq {n : Nat} {l : List Edg} {s : List Int} {S : Nat} (hl : okN n l) (hn : n ≤ 64) (h : InS n l s S) : ∀ i, i ≤ n → InS n l (outL l s i) (extP (grf n l) S i)
 | 0, _ => h
 | i + 1, hi => by
   have ih := ext_eq hl hn h i (by omega)
   have hf := fits_free hl hn ih (i := i) (by omega)
   rw [outL, extP]
   by_cases hc : (outL l s i).contains (i : Int) = true
   · have hfit : ¬ fitsL l (outL l s i) (i : Int) = true := by unfold fitsL; rw [hc]; simp
     rw [if_neg hfit, if_pos (hf.1 (.inr hc)), or_self_bit (by rw [ih.bit, bitsI_test _ (ih.in64 hn)]; exact hc)]
     exact ih
   · by_cases hfit : fitsL l (outL l s i) (i : Int) = true
     · rw [if_pos hfit, if_pos (hf.1 (.inl hfit))]
       refine ⟨?_, ?_, ?_, ?_⟩
       · rw [List.nodup_append]
         refine ⟨ih.nd, by simp, fun a ha b hb => ?_⟩
         rw [List.mem_singleton] at hb
         rintro rfl
         rw [hb] at ha
         exact hc (List.contains_iff_mem.2 ha)
       · intro x hx
         rcases List.mem_append.1 hx with hx | hx
         · exact ih.rng x hx
         · rw [List.mem_singleton] at hx; omega
       · unfold fitsL at hfit
         rw [Bool.and_eq_true] at hfit
         exact hfit.2
       · rw [bitsI_snoc, ← ih.bit]
         rfl
     · rw [if_neg hfit, if_neg (fun e => (hf.2 e).elim hfit hc)]
       exact ih
theorem elems_sorted (n b : Nat) : (elemsN n b).Pairwise (· < ·) := by
 unfold elemsN
 rw [List.pairwise_map]
 exact ((List.pairwise_lt_range (n := n)).filter _).imp (fun h => by omega)
theorem sort_elems {n : Nat} {l : List Edg} {s : List Int} {S : Nat} (hn : n ≤ 64) (h : InS n l s S) : sortI s = elemsN 64 S := by
 refine sortI_eq ?_ ((elems_sorted 64 S).imp (fun h => by omega))
 refine (List.perm_ext_iff_of_nodup ((elems_sorted 64 S).imp (fun h => by omega)) h.nd).2 (fun x => ?_)
 rw [elems_mem]
 constructor
 · rintro ⟨v, h1, h2, rfl⟩
   rw [h.bit, bitsI_test s (h.in64 hn)] at h2
   exact List.contains_iff_mem.1 h2
 · intro hx
   have h1 := h.rng x hx
   refine ⟨x.toNat, by omega, ?_, by omega⟩
   rw [h.bit, bitsI_test s (h.in64 hn), Int.toNat_of_nonneg h1.1]
   exact List.contains_iff_mem.2 hx
theorem outL_grow (l : List Edg) (s : List Int) : ∀ i, s.length ≤ (outL l s i).length
 | 0 => Nat.le_refl _
 | i + 1 => by
   have := outL_grow l s i
   rw [outL]
   split
   · rw [List.length_append]; omega
   · exact this
theorem outL_same (l : List Edg) (s : List Int) : ∀ i, (outL l s i).length = s.length ↔ ∀ x, x < i → fitsL l s (x : Int) = false
 | 0 => by simp [outL]
 | i + 1 => by
   have ih := outL_same l s i
   have hg := outL_grow l s i
   rw [outL]
   constructor
   · intro h x hx
     split at h
     · rw [List.length_append, List.length_singleton] at h; omega
     · rename_i hf
       have h2 := ih.1 h
       by_cases hxi : x < i
       · exact h2 x hxi
       · have e : x = i := by omega
         subst e
         have e2 : ∀ j, j ≤ x → outL l s j = s := by
           intro j
           induction j with
           | zero => intro _; rfl
           | succ j ihj =>
             intro hj
             rw [outL, ihj (by omega), if_neg]
             rw [h2 j (by omega)]
             simp
         rw [e2 x (Nat.le_refl _)] at hf
         simpa using hf
   · intro h
     have e2 : ∀ j, j ≤ i → outL l s j = s := by
       intro j
       induction j with
       | zero => intro _; rfl
       | succ j ihj =>
         intro hj
         rw [outL, ihj (by omega), if_neg]
         rw [h j (by omega)]
         simp
     rw [e2 i (Nat.le_refl _), if_neg]
     rw [h i (by omega)]
     simp
def exOk (n : Int) (l : List Edg) (s : List Int) : Bool := validE n l && (setIx n s && indE l s)
def exL (n : Int) (l : List Edg) (s : List Int) : List Int := if exOk n l s = true then elemsN 64 (extP (grf n.toNat l) (bitsI s) n.toNat) else []
theorem ascI_pw : ∀ (l : List Int) (p : Option Int), ascI p l = true → l.Pairwise (· < ·) ∧ ∀ q, p = some q → ∀ x, x ∈ l → q < x
 | [], _, _ => ⟨List.Pairwise.nil, fun _ _ x hx => by simp at hx⟩
 | y :: l, p, h => by
   simp only [ascI, Bool.and_eq_true] at h
   have ih := ascI_pw l (some y) h.2
   have h1 : ∀ q, p = some q → q < y := fun q hq => by
     have h0 := h.1
     subst hq
     simpa [okPI] using h0
   refine ⟨List.Pairwise.cons (fun x hx => ih.2 y rfl x hx) ih.1, fun q hq x hx => ?_⟩
   rcases List.mem_cons.1 hx with rfl | hx
   · exact h1 q hq
   · have := ih.2 y rfl x hx
     have := h1 q hq
     omega
theorem ex_facts {n : Int} {l : List Edg} {s : List Int} (h : exOk n l s = true) : validE n l = true ∧ setIx n s = true ∧ indE l s = true ∧ ∃ m : Nat, n = (m : Int) ∧ m ≤ 14 ∧ okN m l ∧ InS m l s (bitsI s) := by
 unfold exOk at h
 simp only [Bool.and_eq_true] at h
 obtain ⟨h1, h2, h3⟩ := h
 refine ⟨h1, h2, h3, n.toNat, ?_⟩
 have h4 := h1
 unfold validE inB at h4
 simp only [Bool.and_eq_true, decide_eq_true_eq, List.all_eq_true] at h4
 have h5 := h2
 unfold setIx at h5
 simp only [Bool.and_eq_true, List.all_eq_true] at h5
 have hr : ∀ x, x ∈ s → 0 ≤ x ∧ x < (n.toNat : Int) := fun x hx => by
   have := h5.1 x hx
   unfold inB at this
   simp only [Bool.and_eq_true, decide_eq_true_eq] at this
   omega
 have hpw := (ascI_pw s none h5.2).1
 have hok : okN n.toNat l := fun e he => by
   have := h4.2.1 e he
   unfold okE at this
   simp only [Bool.and_eq_true, decide_eq_true_eq] at this
   omega
 exact ⟨by omega, by omega, hok, ⟨hpw.imp (fun h => by omega), hr, h3, rfl⟩⟩
end Ab
/- Chapter 8: the program's conflict graph and its extension. -/
open Go Go.Proofs Go.RowKit
namespace Ab
theorem implAreValidEdges_a {l : List Edg} {n : Int} (g : (eSlice eEdg).good l) : AC Tryz.prog 76 [.d (.v (.int .i64 n)), .d (encEs l)] (.d (.v (.bool (validE n l)))) :=
 AC.plain Tryz.func76 rfl (by decide) rfl (fun w K cs ov hK hr => by
   simp only [RdSs] at hr
   obtain ⟨v0, _, rfl, q0, v1, _, rfl, q1, rfl⟩ := hr
   obtain rfl := q0.int
   obtain ⟨a, c, rfl, h⟩ := edgs_cut g hK q1
   exact implAreValidEdges_c h)
theorem specAreValidEdges_a {l : List Edg} {n : Int} (g : (eSlice eEdg).good l) : AC Tryz.prog 69 [.d (.v (.int .i64 n)), .d (encEs l)] (.d (.v (.bool (validE n l)))) :=
 AC.plain Tryz.func69 rfl (by decide) rfl (fun w K cs ov hK hr => by
   simp only [RdSs] at hr
   obtain ⟨v0, _, rfl, q0, v1, _, rfl, q1, rfl⟩ := hr
   obtain rfl := q0.int
   obtain ⟨a, c, rfl, h⟩ := edgs_cut g hK q1
   exact specAreValidEdges_c h)
theorem getG {G : List Nat} {i : Nat} (hi : i < G.length) : (G.map encU)[i]? = some [.v (.int .u64 ((G.getD i 0 : Nat) : Int))] := by
 rw [List.getD_eq_getElem?_getD, List.getElem?_eq_getElem hi, Option.getD_some]
 exact getU hi
theorem setG (G : List Nat) (v u : Nat) : (G.map encU).set v [.v (.int .u64 ((G.getD v 0 ||| 2 ^ u : Nat) : Int))] = (addB G v u).map encU := by
 unfold addB
 rw [List.map_set]
 rfl
theorem newGraph_a {n : Nat} {l : List Edg} (hn : n ≤ 64) (hl : l.length ≤ 1048576) (ho : okN n l) : AC Tryz.prog 77 [.d (.v (.int .i64 (n : Int))), .d (encEs l)] (.o 0 (.sl ((grf n l).map encU))) := by
 refine AC.intro Tryz.func77 rfl (by decide) (by simp [S.res, S.ress]) (by simp [S.os, S.oss]) (by simp [S.wfs, S.wf, dbS]) (by simp [Tryz.f77]) ?_; rw [Tryz.ntmps77]
 repeat (first | refine aq ?_ | refine ap (by rfl : apartB 0 _ _ = true) ?_ | refine ak ?_ | refine ab ?_ | refine al ?_ | ((first | refine ar ?_ | refine ad ty_mix (by kernel_rfl) ?_ | refine ac ?_ | refine ae ?_ | with_reducible refine Later.mk ?_); simp only [evD, evL, iteL, aX, St.said, St.asked, evStep, evOp, evP, St.init, St.app, srcStep, kill, setMany, loadS, fieldS, buildS, toks, Fin, upd_app, Array.isEmpty, reduceLT, reduceAdd, reduceMul, reduceLeDiff, reduceSub, reduceEqDiff, reduceCtorEq, reduceIte, ↓Opt.is, ↓Opt.no, ↓Asks.yes, ↓Asks.no, tyL, encL, asB]))
 refine ⟨by simp [D.flat], by omega, by simp only [maxLen]; omega, ?_⟩
 repeat (first | refine aq ?_ | refine ap (by rfl : apartB 0 _ _ = true) ?_ | refine ak ?_ | refine ab ?_ | refine al ?_ | ((first | refine ar ?_ | refine ad ty_mix (by kernel_rfl) ?_ | refine ac ?_ | refine ae ?_ | with_reducible refine Later.mk ?_); simp only [evD, evL, iteL, aX, St.said, St.asked, evStep, evOp, evP, St.init, St.app, srcStep, kill, setMany, loadS, fieldS, buildS, toks, Fin, upd_app, Array.isEmpty, reduceLT, reduceAdd, reduceMul, reduceLeDiff, reduceSub, reduceEqDiff, reduceCtorEq, reduceIte, ↓Opt.is, ↓Opt.no, ↓Asks.yes, ↓Asks.no, tyL, encL, asB]))
 refine Ab.loopI l.length (fun _ => True) (fun i => mkS 42 [(5, .m 32), (10, .d (.sl (List.map encE l))), (11, .d (.v (.int .i64 (l.length : Int)))), (12, .d (.v (.int .i64 (i : Int))))] [(32, .arr true 112 1 ((grf n (l.take i)).map encU))] 112) trivial ?_ ?_
 · ((first | refine Le.mk rfl ?_ ?_ | refine LeTo.mk rfl ?_ ?_) <;> simp only [evD, evL, iteL, aX, St.said, St.asked, evStep, evOp, evP, St.init, St.app, srcStep, kill, setMany, loadS, fieldS, buildS, toks, Fin, upd_app, Array.isEmpty, reduceLT, reduceAdd, reduceMul, reduceLeDiff, reduceSub, reduceEqDiff, reduceCtorEq, reduceIte, ↓Opt.is, ↓Opt.no, ↓Asks.yes, ↓Asks.no, tyL, encL, leL, leD, ne_eq, List.take_zero, grf, List.foldl_nil, List.map_replicate, encU])
 intro i hi _
 repeat (first | refine aq ?_ | refine ap (by rfl : apartB 0 _ _ = true) ?_ | refine ak ?_ | refine ab ?_ | refine al ?_ | ((first | refine ar ?_ | refine ad ty_mix (by kernel_rfl) ?_ | refine ac ?_ | refine ae ?_ | with_reducible refine Later.mk ?_); simp only [evD, evL, iteL, aX, St.said, St.asked, evStep, evOp, evP, St.init, St.app, srcStep, kill, setMany, loadS, fieldS, buildS, toks, Fin, upd_app, Array.isEmpty, reduceLT, reduceAdd, reduceMul, reduceLeDiff, reduceSub, reduceEqDiff, reduceCtorEq, reduceIte, ↓Opt.is, ↓Opt.no, ↓Asks.yes, ↓Asks.no, tyL, encL, mkS, updl, asB]))
 refine ⟨fun h2 => ?_, fun h2 => ?_⟩
 · have h2 : i < l.length := by simpa using h2
   have hw := wrapN h2 (by omega)
   have hoe := ho _ (List.getElem_mem h2)
   have hot : okN n (l.take i) := fun e he => ho e (List.mem_of_mem_take he)
   have hst : grf n (l.take (i + 1)) = gr (grf n (l.take i)) l[i] := by rw [List.take_succ_eq_append_getElem h2, grf_snoc]
   have hGl := grf_len n (l.take i)
   have hlt := fun x => grf_lt hot hn x
   obtain ⟨p, hp⟩ : ∃ p : Nat, l[i].a = (p : Int) := ⟨l[i].a.toNat, by omega⟩
   obtain ⟨q, hq⟩ : ∃ q : Nat, l[i].b = (q : Int) := ⟨l[i].b.toNat, by omega⟩
   have hpn : p < n := by omega
   have hqn : q < n := by omega
   unfold gr at hst
   rw [hp, hq, Int.toNat_natCast, Int.toNat_natCast] at hst
   generalize grf n (l.take i) = G at *
   have hga := getG (G := G) (i := p) (by omega)
   have hgb := getG (G := addB G p q) (i := q) (by rw [addB_len]; omega)
   have hl2 := addB_len G p q
   have hlt2 : (addB G p q).getD q 0 < 18446744073709551616 := by
     apply Nat.lt_pow_two_of_testBit (n := 64)
     intro y hy
     rw [addB_test G q q y (by omega), Nat.testBit_lt_two_pow (Nat.lt_of_lt_of_le (hlt q) (Nat.pow_le_pow_right (n := 2) (i := 64) (j := y) (by omega) hy))]
     simp
     omega
   have hc1 := bits_with_a (G.getD p 0) q (hlt p) (by omega)
   have hc2 := bits_with_a ((addB G p q).getD q 0) p hlt2 (by omega)
   have hs1 := setG G p q
   have hs2 := setG (addB G p q) q p
   have z1 : (p < G.length) = True := eq_true (by omega)
   have z2 : (q < (addB G p q).length) = True := eq_true (by omega)
   have z3 : ∀ x : Nat, (0 ≤ (x : Int)) = True := fun x => eq_true (by omega)
   repeat (first | refine aq ?_ | refine ap (by rfl : apartB 0 _ _ = true) ?_ | refine ak ?_ | refine ab ?_ | refine al ?_ | ((first | refine ar ?_ | refine ad ty_mix (by kernel_rfl) ?_ | refine ac ?_ | refine ae ?_ | with_reducible refine Later.mk ?_); simp only [evD, evL, iteL, aX, St.said, St.asked, evStep, evOp, evP, St.init, St.app, srcStep, kill, setMany, loadS, fieldS, buildS, toks, Fin, upd_app, Array.isEmpty, reduceLT, reduceAdd, reduceMul, reduceLeDiff, reduceSub, reduceEqDiff, reduceCtorEq, reduceIte, ↓Opt.is, ↓Opt.no, ↓Asks.yes, ↓Asks.no, tyL, encL, getE h2, encE, hp, hq, hga, z1, z3, List.length_map, Int.toNat_natCast, if_true, asB]))
   refine ⟨_, hc1, ?_⟩; (repeat (first | refine ap (by rfl : apartB 0 _ _ = true) ?_ | refine ap (by simp [osL, D.flat]) ?_)); repeat (first | refine aq ?_ | refine ap (by rfl : apartB 0 _ _ = true) ?_ | refine ak ?_ | refine ab ?_ | refine al ?_ | ((first | refine ar ?_ | refine ad ty_mix (by kernel_rfl) ?_ | refine ac ?_ | refine ae ?_ | with_reducible refine Later.mk ?_); simp only [evD, evL, iteL, aX, St.said, St.asked, evStep, evOp, evP, St.init, St.app, srcStep, kill, setMany, loadS, fieldS, buildS, toks, Fin, upd_app, Array.isEmpty, reduceLT, reduceAdd, reduceMul, reduceLeDiff, reduceSub, reduceEqDiff, reduceCtorEq, reduceIte, ↓Opt.is, ↓Opt.no, ↓Asks.yes, ↓Asks.no, tyL, encL, hga, z1, z3, List.length_map, Int.toNat_natCast, if_true, hs1, hgb, z2, asB]))
   refine ⟨_, hc2, ?_⟩; (repeat (first | refine ap (by rfl : apartB 0 _ _ = true) ?_ | refine ap (by simp [osL, D.flat]) ?_)); repeat (first | refine aq ?_ | refine ap (by rfl : apartB 0 _ _ = true) ?_ | refine ak ?_ | refine ab ?_ | refine al ?_ | ((first | refine ar ?_ | refine ad ty_mix (by kernel_rfl) ?_ | refine ac ?_ | refine ae ?_ | with_reducible refine Later.mk ?_); simp only [evD, evL, iteL, aX, St.said, St.asked, evStep, evOp, evP, St.init, St.app, srcStep, kill, setMany, loadS, fieldS, buildS, toks, Fin, upd_app, Array.isEmpty, reduceLT, reduceAdd, reduceMul, reduceLeDiff, reduceSub, reduceEqDiff, reduceCtorEq, reduceIte, ↓Opt.is, ↓Opt.no, ↓Asks.yes, ↓Asks.no, tyL, encL, hga, z1, z3, List.length_map, Int.toNat_natCast, if_true, hs1, hgb, z2, hs2, hw, asB]))
   refine ⟨h2, ?_⟩
   ((first | refine Le.mk rfl ?_ ?_ | refine LeTo.mk rfl ?_ ?_) <;> simp only [evD, evL, iteL, aX, St.said, St.asked, evStep, evOp, evP, St.init, St.app, srcStep, kill, setMany, loadS, fieldS, buildS, toks, Fin, upd_app, Array.isEmpty, reduceLT, reduceAdd, reduceMul, reduceLeDiff, reduceSub, reduceEqDiff, reduceCtorEq, reduceIte, ↓Opt.is, ↓Opt.no, ↓Asks.yes, ↓Asks.no, tyL, encL, leL, leD, ne_eq, hst])
 · have h2 : i = l.length := by have := of_decide_eq_false h2; omega
   subst h2
   repeat (first | refine aq ?_ | refine ap (by rfl : apartB 0 _ _ = true) ?_ | refine ak ?_ | refine ab ?_ | refine al ?_ | ((first | refine ar ?_ | refine ad ty_mix (by kernel_rfl) ?_ | refine ac ?_ | refine ae ?_ | with_reducible refine Later.mk ?_); simp only [evD, evL, iteL, aX, St.said, St.asked, evStep, evOp, evP, St.init, St.app, srcStep, kill, setMany, loadS, fieldS, buildS, toks, Fin, upd_app, Array.isEmpty, reduceLT, reduceAdd, reduceMul, reduceLeDiff, reduceSub, reduceEqDiff, reduceCtorEq, reduceIte, ↓Opt.is, ↓Opt.no, ↓Asks.yes, ↓Asks.no, tyL, encL, asB]))
   refine Ab.ret ?_; simp only [evD, evL, iteL, aX, St.said, St.asked, evStep, evOp, evP, St.init, St.app, srcStep, kill, setMany, loadS, fieldS, buildS, toks, Fin, upd_app, Array.isEmpty, reduceLT, reduceAdd, reduceMul, reduceLeDiff, reduceSub, reduceEqDiff, reduceCtorEq, reduceIte, ↓Opt.is, ↓Opt.no, ↓Asks.yes, ↓Asks.no, tyL, List.nodup_cons, encL, Tryz.f77, List.take_length]
   exact ⟨_, _, _, rfl, rfl⟩
theorem isFree_a {G : List Nat} {i b : Nat} (hi : i < G.length) (hG : G.getD i 0 < 18446744073709551616) (hS : b < 18446744073709551616) : AC Tryz.prog 81 [.d (.sl (G.map encU)), .d (.v (.int .i64 (i : Int))), .d (.v (.int .u64 (b : Int)))] (.d (.v (.bool (decide (G.getD i 0 &&& b = 0))))) := by
 have hc := intersects_a (G.getD i 0) b hG hS
 have hg : (G.map encU)[i]? = some [.v (.int .u64 ((G.getD i 0 : Nat) : Int))] := by
   rw [List.getD_eq_getElem?_getD, List.getElem?_eq_getElem hi, Option.getD_some]
   exact getU hi
 have e : decide (G.getD i 0 &&& b = 0) = !decide (G.getD i 0 &&& b ≠ 0) := by simp
 rw [e]
 refine AC.intro Tryz.func81 rfl (by decide) (by simp [S.res, S.ress]) (by simp [S.os, S.oss]) (by simp [S.wfs, S.wf, dbS]) (by simp [Tryz.f81]) ?_; rw [Tryz.ntmps81]
 repeat (first | refine aq ?_ | refine ap (by rfl : apartB 0 _ _ = true) ?_ | refine ak ?_ | refine ab ?_ | refine al ?_ | ((first | refine ar ?_ | refine ad ty_mix (by kernel_rfl) ?_ | refine ac ?_ | refine ae ?_ | with_reducible refine Later.mk ?_); simp only [evD, evL, iteL, aX, St.said, St.asked, evStep, evOp, evP, St.init, St.app, srcStep, kill, setMany, loadS, fieldS, buildS, toks, Fin, upd_app, Array.isEmpty, reduceLT, reduceAdd, reduceMul, reduceLeDiff, reduceSub, reduceEqDiff, reduceCtorEq, reduceIte, ↓Opt.is, ↓Opt.no, ↓Asks.yes, ↓Asks.no, tyL, encL, hg, asB]))
 refine ⟨_, hc, ?_⟩; (repeat (first | refine ap (by rfl : apartB 0 _ _ = true) ?_ | refine ap (by simp [osL, D.flat]) ?_)); repeat (first | refine aq ?_ | refine ap (by rfl : apartB 0 _ _ = true) ?_ | refine ak ?_ | refine ab ?_ | refine al ?_ | ((first | refine ar ?_ | refine ad ty_mix (by kernel_rfl) ?_ | refine ac ?_ | refine ae ?_ | with_reducible refine Later.mk ?_); simp only [evD, evL, iteL, aX, St.said, St.asked, evStep, evOp, evP, St.init, St.app, srcStep, kill, setMany, loadS, fieldS, buildS, toks, Fin, upd_app, Array.isEmpty, reduceLT, reduceAdd, reduceMul, reduceLeDiff, reduceSub, reduceEqDiff, reduceCtorEq, reduceIte, ↓Opt.is, ↓Opt.no, ↓Asks.yes, ↓Asks.no, tyL, encL, asB]))
 refine Ab.ret ?_; simp only [evD, evL, iteL, aX, St.said, St.asked, evStep, evOp, evP, St.init, St.app, srcStep, kill, setMany, loadS, fieldS, buildS, toks, Fin, upd_app, Array.isEmpty, reduceLT, reduceAdd, reduceMul, reduceLeDiff, reduceSub, reduceEqDiff, reduceCtorEq, reduceIte, ↓Opt.is, ↓Opt.no, ↓Asks.yes, ↓Asks.no, tyL, List.nodup_cons, encL, Tryz.f81]
theorem extend_a {G : List Nat} {b : Nat} (hl : G.length ≤ 64) (hG : ∀ i, G.getD i 0 < 18446744073709551616) (hS : b < 18446744073709551616) : AC Tryz.prog 79 [.d (.sl (G.map encU)), .d (.v (.int .u64 (b : Int)))] (.d (.v (.int .u64 (extP G b G.length : Int)))) := by
 refine AC.intro Tryz.func79 rfl (by decide) (by simp [S.res, S.ress]) (by simp [S.os, S.oss]) (by simp [S.wfs, S.wf, dbS]) (by simp [Tryz.f79]) ?_; rw [Tryz.ntmps79]
 repeat (first | refine aq ?_ | refine ap (by rfl : apartB 0 _ _ = true) ?_ | refine ak ?_ | refine ab ?_ | refine al ?_ | ((first | refine ar ?_ | refine ad ty_mix (by kernel_rfl) ?_ | refine ac ?_ | refine ae ?_ | with_reducible refine Later.mk ?_); simp only [evD, evL, iteL, aX, St.said, St.asked, evStep, evOp, evP, St.init, St.app, srcStep, kill, setMany, loadS, fieldS, buildS, toks, Fin, upd_app, Array.isEmpty, reduceLT, reduceAdd, reduceMul, reduceLeDiff, reduceSub, reduceEqDiff, reduceCtorEq, reduceIte, ↓Opt.is, ↓Opt.no, ↓Asks.yes, ↓Asks.no, tyL, encL, asB]))
 refine Ab.loopI G.length (fun _ => True) (fun i => mkS 20 [(0, .d (.sl (List.map encU G))), (1, .d (.v (.int .u64 (extP G b i : Int)))), (7, .d (.v (.int .i64 (G.length : Int)))), (8, .d (.v (.int .i64 (i : Int))))] [] 64) trivial ?_ ?_
 · ((first | refine Le.mk rfl ?_ ?_ | refine LeTo.mk rfl ?_ ?_) <;> simp only [evD, evL, iteL, aX, St.said, St.asked, evStep, evOp, evP, St.init, St.app, srcStep, kill, setMany, loadS, fieldS, buildS, toks, Fin, upd_app, Array.isEmpty, reduceLT, reduceAdd, reduceMul, reduceLeDiff, reduceSub, reduceEqDiff, reduceCtorEq, reduceIte, ↓Opt.is, ↓Opt.no, ↓Asks.yes, ↓Asks.no, tyL, encL, leL, leD, ne_eq, extP])
 intro i hi _
 repeat (first | refine aq ?_ | refine ap (by rfl : apartB 0 _ _ = true) ?_ | refine ak ?_ | refine ab ?_ | refine al ?_ | ((first | refine ar ?_ | refine ad ty_mix (by kernel_rfl) ?_ | refine ac ?_ | refine ae ?_ | with_reducible refine Later.mk ?_); simp only [evD, evL, iteL, aX, St.said, St.asked, evStep, evOp, evP, St.init, St.app, srcStep, kill, setMany, loadS, fieldS, buildS, toks, Fin, upd_app, Array.isEmpty, reduceLT, reduceAdd, reduceMul, reduceLeDiff, reduceSub, reduceEqDiff, reduceCtorEq, reduceIte, ↓Opt.is, ↓Opt.no, ↓Asks.yes, ↓Asks.no, tyL, encL, mkS, updl, asB]))
 refine ⟨fun h2 => ?_, fun h2 => ?_⟩
 · have h2 : i < G.length := by simpa using h2
   have hw := wrapN h2 (by omega)
   have hlt := extP_lt (G := G) hS i (by omega)
   have hst : extP G b (i + 1) = if G.getD i 0 &&& extP G b i = 0 then extP G b i ||| 2 ^ i else extP G b i := rfl
   generalize extP G b i = E at *
   have hc := isFree_a h2 (hG i) hlt
   have hc2 := bits_with_a E i hlt (by omega)
   repeat (first | refine aq ?_ | refine ap (by rfl : apartB 0 _ _ = true) ?_ | refine ak ?_ | refine ab ?_ | refine al ?_ | ((first | refine ar ?_ | refine ad ty_mix (by kernel_rfl) ?_ | refine ac ?_ | refine ae ?_ | with_reducible refine Later.mk ?_); simp only [evD, evL, iteL, aX, St.said, St.asked, evStep, evOp, evP, St.init, St.app, srcStep, kill, setMany, loadS, fieldS, buildS, toks, Fin, upd_app, Array.isEmpty, reduceLT, reduceAdd, reduceMul, reduceLeDiff, reduceSub, reduceEqDiff, reduceCtorEq, reduceIte, ↓Opt.is, ↓Opt.no, ↓Asks.yes, ↓Asks.no, tyL, encL, asB]))
   refine ⟨_, hc, ?_⟩; (repeat (first | refine ap (by rfl : apartB 0 _ _ = true) ?_ | refine ap (by simp [osL, D.flat]) ?_)); repeat (first | refine aq ?_ | refine ap (by rfl : apartB 0 _ _ = true) ?_ | refine ak ?_ | refine ab ?_ | refine al ?_ | ((first | refine ar ?_ | refine ad ty_mix (by kernel_rfl) ?_ | refine ac ?_ | refine ae ?_ | with_reducible refine Later.mk ?_); simp only [evD, evL, iteL, aX, St.said, St.asked, evStep, evOp, evP, St.init, St.app, srcStep, kill, setMany, loadS, fieldS, buildS, toks, Fin, upd_app, Array.isEmpty, reduceLT, reduceAdd, reduceMul, reduceLeDiff, reduceSub, reduceEqDiff, reduceCtorEq, reduceIte, ↓Opt.is, ↓Opt.no, ↓Asks.yes, ↓Asks.no, tyL, encL, asB]))
   refine ⟨fun h3 => ?_, fun h3 => ?_⟩
   · rw [if_pos (of_decide_eq_true h3)] at hst
     repeat (first | refine aq ?_ | refine ap (by rfl : apartB 0 _ _ = true) ?_ | refine ak ?_ | refine ab ?_ | refine al ?_ | ((first | refine ar ?_ | refine ad ty_mix (by kernel_rfl) ?_ | refine ac ?_ | refine ae ?_ | with_reducible refine Later.mk ?_); simp only [evD, evL, iteL, aX, St.said, St.asked, evStep, evOp, evP, St.init, St.app, srcStep, kill, setMany, loadS, fieldS, buildS, toks, Fin, upd_app, Array.isEmpty, reduceLT, reduceAdd, reduceMul, reduceLeDiff, reduceSub, reduceEqDiff, reduceCtorEq, reduceIte, ↓Opt.is, ↓Opt.no, ↓Asks.yes, ↓Asks.no, tyL, encL, asB]))
     refine ⟨_, hc2, ?_⟩; (repeat (first | refine ap (by rfl : apartB 0 _ _ = true) ?_ | refine ap (by simp [osL, D.flat]) ?_)); repeat (first | refine aq ?_ | refine ap (by rfl : apartB 0 _ _ = true) ?_ | refine ak ?_ | refine ab ?_ | refine al ?_ | ((first | refine ar ?_ | refine ad ty_mix (by kernel_rfl) ?_ | refine ac ?_ | refine ae ?_ | with_reducible refine Later.mk ?_); simp only [evD, evL, iteL, aX, St.said, St.asked, evStep, evOp, evP, St.init, St.app, srcStep, kill, setMany, loadS, fieldS, buildS, toks, Fin, upd_app, Array.isEmpty, reduceLT, reduceAdd, reduceMul, reduceLeDiff, reduceSub, reduceEqDiff, reduceCtorEq, reduceIte, ↓Opt.is, ↓Opt.no, ↓Asks.yes, ↓Asks.no, tyL, encL, hw, asB]))
     refine ⟨h2, ?_⟩
     ((first | refine Le.mk rfl ?_ ?_ | refine LeTo.mk rfl ?_ ?_) <;> simp only [evD, evL, iteL, aX, St.said, St.asked, evStep, evOp, evP, St.init, St.app, srcStep, kill, setMany, loadS, fieldS, buildS, toks, Fin, upd_app, Array.isEmpty, reduceLT, reduceAdd, reduceMul, reduceLeDiff, reduceSub, reduceEqDiff, reduceCtorEq, reduceIte, ↓Opt.is, ↓Opt.no, ↓Asks.yes, ↓Asks.no, tyL, encL, leL, leD, ne_eq, hst])
   · rw [if_neg (of_decide_eq_false h3)] at hst
     repeat (first | refine aq ?_ | refine ap (by rfl : apartB 0 _ _ = true) ?_ | refine ak ?_ | refine ab ?_ | refine al ?_ | ((first | refine ar ?_ | refine ad ty_mix (by kernel_rfl) ?_ | refine ac ?_ | refine ae ?_ | with_reducible refine Later.mk ?_); simp only [evD, evL, iteL, aX, St.said, St.asked, evStep, evOp, evP, St.init, St.app, srcStep, kill, setMany, loadS, fieldS, buildS, toks, Fin, upd_app, Array.isEmpty, reduceLT, reduceAdd, reduceMul, reduceLeDiff, reduceSub, reduceEqDiff, reduceCtorEq, reduceIte, ↓Opt.is, ↓Opt.no, ↓Asks.yes, ↓Asks.no, tyL, encL, hw, asB]))
     refine ⟨h2, ?_⟩
     ((first | refine Le.mk rfl ?_ ?_ | refine LeTo.mk rfl ?_ ?_) <;> simp only [evD, evL, iteL, aX, St.said, St.asked, evStep, evOp, evP, St.init, St.app, srcStep, kill, setMany, loadS, fieldS, buildS, toks, Fin, upd_app, Array.isEmpty, reduceLT, reduceAdd, reduceMul, reduceLeDiff, reduceSub, reduceEqDiff, reduceCtorEq, reduceIte, ↓Opt.is, ↓Opt.no, ↓Asks.yes, ↓Asks.no, tyL, encL, leL, leD, ne_eq, hst])
 · have h2 : i = G.length := by have := of_decide_eq_false h2; omega
   subst h2
   repeat (first | refine aq ?_ | refine ap (by rfl : apartB 0 _ _ = true) ?_ | refine ak ?_ | refine ab ?_ | refine al ?_ | ((first | refine ar ?_ | refine ad ty_mix (by kernel_rfl) ?_ | refine ac ?_ | refine ae ?_ | with_reducible refine Later.mk ?_); simp only [evD, evL, iteL, aX, St.said, St.asked, evStep, evOp, evP, St.init, St.app, srcStep, kill, setMany, loadS, fieldS, buildS, toks, Fin, upd_app, Array.isEmpty, reduceLT, reduceAdd, reduceMul, reduceLeDiff, reduceSub, reduceEqDiff, reduceCtorEq, reduceIte, ↓Opt.is, ↓Opt.no, ↓Asks.yes, ↓Asks.no, tyL, encL, asB]))
   refine Ab.ret ?_; simp only [evD, evL, iteL, aX, St.said, St.asked, evStep, evOp, evP, St.init, St.app, srcStep, kill, setMany, loadS, fieldS, buildS, toks, Fin, upd_app, Array.isEmpty, reduceLT, reduceAdd, reduceMul, reduceLeDiff, reduceSub, reduceEqDiff, reduceCtorEq, reduceIte, ↓Opt.is, ↓Opt.no, ↓Asks.yes, ↓Asks.no, tyL, List.nodup_cons, encL, Tryz.f79]
theorem implExtendToMaximal_a {n : Int} {l : List Edg} {s : List Int} (gE : (eSlice eEdg).good l) (gI : (eSlice eInt).good s) (hl : l.length ≤ 1048576) (hsl : s.length ≤ 1048576) : AC Tryz.prog 120 [.d (.v (.int .i64 n)), .d (encEs l), .d (encIs s)] (.t [.o 0 (encIs (exL n l s)), .d (.v (.bool (exOk n l s)))]) := by
 have hc1 := implAreValidEdges_a (n := n) gE
 have hc2 := areIndices_a gI n
 have hc3 := implIsIndependent_a gE gI
 unfold exL
 rcases Bool.eq_false_or_eq_true (exOk n l s) with hd | hd
 · obtain ⟨h1, h2, h3, m, rfl, hm, hok, hin⟩ := ex_facts hd
   rw [hd, if_pos rfl, Int.toNat_natCast]
   rw [h1] at hc1
   rw [h2] at hc2
   rw [h3] at hc3
   have hc4 := newGraph_a (n := m) (l := l) (by omega) hl hok
   have hc5 := bitSetOf_a s hsl (hin.in64 (by omega))
   have hlen := grf_len m l
   have hc6 := extend_a (G := grf m l) (b := bitsI s) (by omega) (fun i => grf_lt hok (by omega) i) (bitsI_lt s (hin.in64 (by omega)))
   have hc7 := elements_a (extP (grf m l) (bitsI s) m) (extP_lt (bitsI_lt s (hin.in64 (by omega))) m (by omega))
   rw [hlen] at hc6
   refine AC.intro Tryz.func120 rfl (by decide) (by simp [S.res, S.ress]) (by simp [S.os, S.oss]) (by simp [S.wfs, S.wf, dbS]) (by simp [Tryz.f120]) ?_; rw [Tryz.ntmps120]
   repeat (first | refine aq ?_ | refine ap (by rfl : apartB 0 _ _ = true) ?_ | refine ak ?_ | refine ab ?_ | refine al ?_ | ((first | refine ar ?_ | refine ad ty_mix (by kernel_rfl) ?_ | refine ac ?_ | refine ae ?_ | with_reducible refine Later.mk ?_); simp only [evD, evL, iteL, aX, St.said, St.asked, evStep, evOp, evP, St.init, St.app, srcStep, kill, setMany, loadS, fieldS, buildS, toks, Fin, upd_app, Array.isEmpty, reduceLT, reduceAdd, reduceMul, reduceLeDiff, reduceSub, reduceEqDiff, reduceCtorEq, reduceIte, ↓Opt.is, ↓Opt.no, ↓Asks.yes, ↓Asks.no, tyL, encL, asB]))
   refine ⟨_, hc1, ?_⟩; (repeat (first | refine ap (by rfl : apartB 0 _ _ = true) ?_ | refine ap (by simp [osL, D.flat]) ?_)); repeat (first | refine aq ?_ | refine ap (by rfl : apartB 0 _ _ = true) ?_ | refine ak ?_ | refine ab ?_ | refine al ?_ | ((first | refine ar ?_ | refine ad ty_mix (by kernel_rfl) ?_ | refine ac ?_ | refine ae ?_ | with_reducible refine Later.mk ?_); simp only [evD, evL, iteL, aX, St.said, St.asked, evStep, evOp, evP, St.init, St.app, srcStep, kill, setMany, loadS, fieldS, buildS, toks, Fin, upd_app, Array.isEmpty, reduceLT, reduceAdd, reduceMul, reduceLeDiff, reduceSub, reduceEqDiff, reduceCtorEq, reduceIte, ↓Opt.is, ↓Opt.no, ↓Asks.yes, ↓Asks.no, tyL, encL, asB]))
   refine ⟨_, hc2, ?_⟩; (repeat (first | refine ap (by rfl : apartB 0 _ _ = true) ?_ | refine ap (by simp [osL, D.flat]) ?_)); repeat (first | refine aq ?_ | refine ap (by rfl : apartB 0 _ _ = true) ?_ | refine ak ?_ | refine ab ?_ | refine al ?_ | ((first | refine ar ?_ | refine ad ty_mix (by kernel_rfl) ?_ | refine ac ?_ | refine ae ?_ | with_reducible refine Later.mk ?_); simp only [evD, evL, iteL, aX, St.said, St.asked, evStep, evOp, evP, St.init, St.app, srcStep, kill, setMany, loadS, fieldS, buildS, toks, Fin, upd_app, Array.isEmpty, reduceLT, reduceAdd, reduceMul, reduceLeDiff, reduceSub, reduceEqDiff, reduceCtorEq, reduceIte, ↓Opt.is, ↓Opt.no, ↓Asks.yes, ↓Asks.no, tyL, encL, asB]))
   refine ⟨_, hc3, ?_⟩; (repeat (first | refine ap (by rfl : apartB 0 _ _ = true) ?_ | refine ap (by simp [osL, D.flat]) ?_)); repeat (first | refine aq ?_ | refine ap (by rfl : apartB 0 _ _ = true) ?_ | refine ak ?_ | refine ab ?_ | refine al ?_ | ((first | refine ar ?_ | refine ad ty_mix (by kernel_rfl) ?_ | refine ac ?_ | refine ae ?_ | with_reducible refine Later.mk ?_); simp only [evD, evL, iteL, aX, St.said, St.asked, evStep, evOp, evP, St.init, St.app, srcStep, kill, setMany, loadS, fieldS, buildS, toks, Fin, upd_app, Array.isEmpty, reduceLT, reduceAdd, reduceMul, reduceLeDiff, reduceSub, reduceEqDiff, reduceCtorEq, reduceIte, ↓Opt.is, ↓Opt.no, ↓Asks.yes, ↓Asks.no, tyL, encL, asB]))
   refine ⟨_, hc4, ?_⟩; (repeat (first | refine ap (by rfl : apartB 0 _ _ = true) ?_ | refine ap (by simp [osL, D.flat]) ?_)); repeat (first | refine aq ?_ | refine ap (by rfl : apartB 0 _ _ = true) ?_ | refine ak ?_ | refine ab ?_ | refine al ?_ | ((first | refine ar ?_ | refine ad ty_mix (by kernel_rfl) ?_ | refine ac ?_ | refine ae ?_ | with_reducible refine Later.mk ?_); simp only [evD, evL, iteL, aX, St.said, St.asked, evStep, evOp, evP, St.init, St.app, srcStep, kill, setMany, loadS, fieldS, buildS, toks, Fin, upd_app, Array.isEmpty, reduceLT, reduceAdd, reduceMul, reduceLeDiff, reduceSub, reduceEqDiff, reduceCtorEq, reduceIte, ↓Opt.is, ↓Opt.no, ↓Asks.yes, ↓Asks.no, tyL, encL, asB]))
   refine ⟨_, hc5, ?_⟩; (repeat (first | refine ap (by rfl : apartB 0 _ _ = true) ?_ | refine ap (by simp [osL, D.flat]) ?_)); repeat (first | refine aq ?_ | refine ap (by rfl : apartB 0 _ _ = true) ?_ | refine ak ?_ | refine ab ?_ | refine al ?_ | ((first | refine ar ?_ | refine ad ty_mix (by kernel_rfl) ?_ | refine ac ?_ | refine ae ?_ | with_reducible refine Later.mk ?_); simp only [evD, evL, iteL, aX, St.said, St.asked, evStep, evOp, evP, St.init, St.app, srcStep, kill, setMany, loadS, fieldS, buildS, toks, Fin, upd_app, Array.isEmpty, reduceLT, reduceAdd, reduceMul, reduceLeDiff, reduceSub, reduceEqDiff, reduceCtorEq, reduceIte, ↓Opt.is, ↓Opt.no, ↓Asks.yes, ↓Asks.no, tyL, encL, asB]))
   refine ⟨_, hc6, ?_⟩; (repeat (first | refine ap (by rfl : apartB 0 _ _ = true) ?_ | refine ap (by simp [osL, D.flat]) ?_)); repeat (first | refine aq ?_ | refine ap (by rfl : apartB 0 _ _ = true) ?_ | refine ak ?_ | refine ab ?_ | refine al ?_ | ((first | refine ar ?_ | refine ad ty_mix (by kernel_rfl) ?_ | refine ac ?_ | refine ae ?_ | with_reducible refine Later.mk ?_); simp only [evD, evL, iteL, aX, St.said, St.asked, evStep, evOp, evP, St.init, St.app, srcStep, kill, setMany, loadS, fieldS, buildS, toks, Fin, upd_app, Array.isEmpty, reduceLT, reduceAdd, reduceMul, reduceLeDiff, reduceSub, reduceEqDiff, reduceCtorEq, reduceIte, ↓Opt.is, ↓Opt.no, ↓Asks.yes, ↓Asks.no, tyL, encL, asB]))
   refine ⟨_, hc7, ?_⟩; (repeat (first | refine ap (by rfl : apartB 0 _ _ = true) ?_ | refine ap (by simp [osL, D.flat]) ?_)); repeat (first | refine aq ?_ | refine ap (by rfl : apartB 0 _ _ = true) ?_ | refine ak ?_ | refine ab ?_ | refine al ?_ | ((first | refine ar ?_ | refine ad ty_mix (by kernel_rfl) ?_ | refine ac ?_ | refine ae ?_ | with_reducible refine Later.mk ?_); simp only [evD, evL, iteL, aX, St.said, St.asked, evStep, evOp, evP, St.init, St.app, srcStep, kill, setMany, loadS, fieldS, buildS, toks, Fin, upd_app, Array.isEmpty, reduceLT, reduceAdd, reduceMul, reduceLeDiff, reduceSub, reduceEqDiff, reduceCtorEq, reduceIte, ↓Opt.is, ↓Opt.no, ↓Asks.yes, ↓Asks.no, tyL, encL, asB]))
   refine Ab.ret ?_; simp only [evD, evL, iteL, aX, St.said, St.asked, evStep, evOp, evP, St.init, St.app, srcStep, kill, setMany, loadS, fieldS, buildS, toks, Fin, upd_app, Array.isEmpty, reduceLT, reduceAdd, reduceMul, reduceLeDiff, reduceSub, reduceEqDiff, reduceCtorEq, reduceIte, ↓Opt.is, ↓Opt.no, ↓Asks.yes, ↓Asks.no, tyL, List.nodup_cons, encL, Tryz.f120]
 · rw [hd, if_neg (by simp)]
   have hd2 := hd
   unfold exOk at hd2
   rcases Bool.eq_false_or_eq_true (validE n l) with a1 | a1 <;> rw [a1] at hc1 hd2
   · rcases Bool.eq_false_or_eq_true (setIx n s) with a2 | a2 <;> rw [a2] at hc2 hd2
     · rw [Bool.true_and, Bool.true_and] at hd2
       rw [hd2] at hc3
       refine AC.intro Tryz.func120 rfl (by decide) (by simp [S.res, S.ress]) (by simp [S.os, S.oss]) (by simp [S.wfs, S.wf, dbS]) (by simp [Tryz.f120]) ?_; rw [Tryz.ntmps120]
       repeat (first | refine aq ?_ | refine ap (by rfl : apartB 0 _ _ = true) ?_ | refine ak ?_ | refine ab ?_ | refine al ?_ | ((first | refine ar ?_ | refine ad ty_mix (by kernel_rfl) ?_ | refine ac ?_ | refine ae ?_ | with_reducible refine Later.mk ?_); simp only [evD, evL, iteL, aX, St.said, St.asked, evStep, evOp, evP, St.init, St.app, srcStep, kill, setMany, loadS, fieldS, buildS, toks, Fin, upd_app, Array.isEmpty, reduceLT, reduceAdd, reduceMul, reduceLeDiff, reduceSub, reduceEqDiff, reduceCtorEq, reduceIte, ↓Opt.is, ↓Opt.no, ↓Asks.yes, ↓Asks.no, tyL, encL, asB]))
       refine ⟨_, hc1, ?_⟩; (repeat (first | refine ap (by rfl : apartB 0 _ _ = true) ?_ | refine ap (by simp [osL, D.flat]) ?_)); repeat (first | refine aq ?_ | refine ap (by rfl : apartB 0 _ _ = true) ?_ | refine ak ?_ | refine ab ?_ | refine al ?_ | ((first | refine ar ?_ | refine ad ty_mix (by kernel_rfl) ?_ | refine ac ?_ | refine ae ?_ | with_reducible refine Later.mk ?_); simp only [evD, evL, iteL, aX, St.said, St.asked, evStep, evOp, evP, St.init, St.app, srcStep, kill, setMany, loadS, fieldS, buildS, toks, Fin, upd_app, Array.isEmpty, reduceLT, reduceAdd, reduceMul, reduceLeDiff, reduceSub, reduceEqDiff, reduceCtorEq, reduceIte, ↓Opt.is, ↓Opt.no, ↓Asks.yes, ↓Asks.no, tyL, encL, asB]))
       refine ⟨_, hc2, ?_⟩; (repeat (first | refine ap (by rfl : apartB 0 _ _ = true) ?_ | refine ap (by simp [osL, D.flat]) ?_)); repeat (first | refine aq ?_ | refine ap (by rfl : apartB 0 _ _ = true) ?_ | refine ak ?_ | refine ab ?_ | refine al ?_ | ((first | refine ar ?_ | refine ad ty_mix (by kernel_rfl) ?_ | refine ac ?_ | refine ae ?_ | with_reducible refine Later.mk ?_); simp only [evD, evL, iteL, aX, St.said, St.asked, evStep, evOp, evP, St.init, St.app, srcStep, kill, setMany, loadS, fieldS, buildS, toks, Fin, upd_app, Array.isEmpty, reduceLT, reduceAdd, reduceMul, reduceLeDiff, reduceSub, reduceEqDiff, reduceCtorEq, reduceIte, ↓Opt.is, ↓Opt.no, ↓Asks.yes, ↓Asks.no, tyL, encL, asB]))
       refine ⟨_, hc3, ?_⟩; (repeat (first | refine ap (by rfl : apartB 0 _ _ = true) ?_ | refine ap (by simp [osL, D.flat]) ?_)); repeat (first | refine aq ?_ | refine ap (by rfl : apartB 0 _ _ = true) ?_ | refine ak ?_ | refine ab ?_ | refine al ?_ | ((first | refine ar ?_ | refine ad ty_mix (by kernel_rfl) ?_ | refine ac ?_ | refine ae ?_ | with_reducible refine Later.mk ?_); simp only [evD, evL, iteL, aX, St.said, St.asked, evStep, evOp, evP, St.init, St.app, srcStep, kill, setMany, loadS, fieldS, buildS, toks, Fin, upd_app, Array.isEmpty, reduceLT, reduceAdd, reduceMul, reduceLeDiff, reduceSub, reduceEqDiff, reduceCtorEq, reduceIte, ↓Opt.is, ↓Opt.no, ↓Asks.yes, ↓Asks.no, tyL, encL, asB]))
       refine Ab.ret ?_; simp only [evD, evL, iteL, aX, St.said, St.asked, evStep, evOp, evP, St.init, St.app, srcStep, kill, setMany, loadS, fieldS, buildS, toks, Fin, upd_app, Array.isEmpty, reduceLT, reduceAdd, reduceMul, reduceLeDiff, reduceSub, reduceEqDiff, reduceCtorEq, reduceIte, ↓Opt.is, ↓Opt.no, ↓Asks.yes, ↓Asks.no, tyL, List.nodup_cons, encL, Tryz.f120]
     · refine AC.intro Tryz.func120 rfl (by decide) (by simp [S.res, S.ress]) (by simp [S.os, S.oss]) (by simp [S.wfs, S.wf, dbS]) (by simp [Tryz.f120]) ?_; rw [Tryz.ntmps120]
       repeat (first | refine aq ?_ | refine ap (by rfl : apartB 0 _ _ = true) ?_ | refine ak ?_ | refine ab ?_ | refine al ?_ | ((first | refine ar ?_ | refine ad ty_mix (by kernel_rfl) ?_ | refine ac ?_ | refine ae ?_ | with_reducible refine Later.mk ?_); simp only [evD, evL, iteL, aX, St.said, St.asked, evStep, evOp, evP, St.init, St.app, srcStep, kill, setMany, loadS, fieldS, buildS, toks, Fin, upd_app, Array.isEmpty, reduceLT, reduceAdd, reduceMul, reduceLeDiff, reduceSub, reduceEqDiff, reduceCtorEq, reduceIte, ↓Opt.is, ↓Opt.no, ↓Asks.yes, ↓Asks.no, tyL, encL, asB]))
       refine ⟨_, hc1, ?_⟩; (repeat (first | refine ap (by rfl : apartB 0 _ _ = true) ?_ | refine ap (by simp [osL, D.flat]) ?_)); repeat (first | refine aq ?_ | refine ap (by rfl : apartB 0 _ _ = true) ?_ | refine ak ?_ | refine ab ?_ | refine al ?_ | ((first | refine ar ?_ | refine ad ty_mix (by kernel_rfl) ?_ | refine ac ?_ | refine ae ?_ | with_reducible refine Later.mk ?_); simp only [evD, evL, iteL, aX, St.said, St.asked, evStep, evOp, evP, St.init, St.app, srcStep, kill, setMany, loadS, fieldS, buildS, toks, Fin, upd_app, Array.isEmpty, reduceLT, reduceAdd, reduceMul, reduceLeDiff, reduceSub, reduceEqDiff, reduceCtorEq, reduceIte, ↓Opt.is, ↓Opt.no, ↓Asks.yes, ↓Asks.no, tyL, encL, asB]))
       refine ⟨_, hc2, ?_⟩; (repeat (first | refine ap (by rfl : apartB 0 _ _ = true) ?_ | refine ap (by simp [osL, D.flat]) ?_)); repeat (first | refine aq ?_ | refine ap (by rfl : apartB 0 _ _ = true) ?_ | refine ak ?_ | refine ab ?_ | refine al ?_ | ((first | refine ar ?_ | refine ad ty_mix (by kernel_rfl) ?_ | refine ac ?_ | refine ae ?_ | with_reducible refine Later.mk ?_); simp only [evD, evL, iteL, aX, St.said, St.asked, evStep, evOp, evP, St.init, St.app, srcStep, kill, setMany, loadS, fieldS, buildS, toks, Fin, upd_app, Array.isEmpty, reduceLT, reduceAdd, reduceMul, reduceLeDiff, reduceSub, reduceEqDiff, reduceCtorEq, reduceIte, ↓Opt.is, ↓Opt.no, ↓Asks.yes, ↓Asks.no, tyL, encL, asB]))
       refine Ab.ret ?_; simp only [evD, evL, iteL, aX, St.said, St.asked, evStep, evOp, evP, St.init, St.app, srcStep, kill, setMany, loadS, fieldS, buildS, toks, Fin, upd_app, Array.isEmpty, reduceLT, reduceAdd, reduceMul, reduceLeDiff, reduceSub, reduceEqDiff, reduceCtorEq, reduceIte, ↓Opt.is, ↓Opt.no, ↓Asks.yes, ↓Asks.no, tyL, List.nodup_cons, encL, Tryz.f120]
   · refine AC.intro Tryz.func120 rfl (by decide) (by simp [S.res, S.ress]) (by simp [S.os, S.oss]) (by simp [S.wfs, S.wf, dbS]) (by simp [Tryz.f120]) ?_; rw [Tryz.ntmps120]
     repeat (first | refine aq ?_ | refine ap (by rfl : apartB 0 _ _ = true) ?_ | refine ak ?_ | refine ab ?_ | refine al ?_ | ((first | refine ar ?_ | refine ad ty_mix (by kernel_rfl) ?_ | refine ac ?_ | refine ae ?_ | with_reducible refine Later.mk ?_); simp only [evD, evL, iteL, aX, St.said, St.asked, evStep, evOp, evP, St.init, St.app, srcStep, kill, setMany, loadS, fieldS, buildS, toks, Fin, upd_app, Array.isEmpty, reduceLT, reduceAdd, reduceMul, reduceLeDiff, reduceSub, reduceEqDiff, reduceCtorEq, reduceIte, ↓Opt.is, ↓Opt.no, ↓Asks.yes, ↓Asks.no, tyL, encL, asB]))
     refine ⟨_, hc1, ?_⟩; (repeat (first | refine ap (by rfl : apartB 0 _ _ = true) ?_ | refine ap (by simp [osL, D.flat]) ?_)); repeat (first | refine aq ?_ | refine ap (by rfl : apartB 0 _ _ = true) ?_ | refine ak ?_ | refine ab ?_ | refine al ?_ | ((first | refine ar ?_ | refine ad ty_mix (by kernel_rfl) ?_ | refine ac ?_ | refine ae ?_ | with_reducible refine Later.mk ?_); simp only [evD, evL, iteL, aX, St.said, St.asked, evStep, evOp, evP, St.init, St.app, srcStep, kill, setMany, loadS, fieldS, buildS, toks, Fin, upd_app, Array.isEmpty, reduceLT, reduceAdd, reduceMul, reduceLeDiff, reduceSub, reduceEqDiff, reduceCtorEq, reduceIte, ↓Opt.is, ↓Opt.no, ↓Asks.yes, ↓Asks.no, tyL, encL, asB]))
     refine Ab.ret ?_; simp only [evD, evL, iteL, aX, St.said, St.asked, evStep, evOp, evP, St.init, St.app, srcStep, kill, setMany, loadS, fieldS, buildS, toks, Fin, upd_app, Array.isEmpty, reduceLT, reduceAdd, reduceMul, reduceLeDiff, reduceSub, reduceEqDiff, reduceCtorEq, reduceIte, ↓Opt.is, ↓Opt.no, ↓Asks.yes, ↓Asks.no, tyL, List.nodup_cons, encL, Tryz.f120]
end Ab
/- Chapter 8: the model's extension of a set. -/
open Go Go.Proofs Go.RowKit
namespace Ab
theorem l8Set_a {n : Int} {s : List Int} (g : (eSlice eInt).good s) (hl : s.length ≤ 1048576) (hn : IntKind.i64.wrap (n - 1) = n - 1) : AC Tryz.prog 116 [.d (.v (.int .i64 n)), .d (encIs s)] (.d (.v (.bool (setIx n s)))) := by
 refine AC.intro Tryz.func116 rfl (by decide) (by simp [S.res, S.ress]) (by simp [S.os, S.oss]) (by simp [S.wfs, S.wf, dbS]) (by simp [Tryz.f116]) ?_; rw [Tryz.ntmps116]
 repeat (first | refine aq ?_ | refine ap (by rfl : apartB 0 _ _ = true) ?_ | refine ak ?_ | refine ab ?_ | refine al ?_ | ((first | refine ar ?_ | refine ad ty_mix (by kernel_rfl) ?_ | refine ac ?_ | refine ae ?_ | with_reducible refine Later.mk ?_); simp only [evD, evL, iteL, aX, St.said, St.asked, evStep, evOp, evP, St.init, St.app, srcStep, kill, setMany, loadS, fieldS, buildS, toks, Fin, upd_app, Array.isEmpty, reduceLT, reduceAdd, reduceMul, reduceLeDiff, reduceSub, reduceEqDiff, reduceCtorEq, reduceIte, ↓Opt.is, ↓Opt.no, ↓Asks.yes, ↓Asks.no, tyL, encL, asB]))
 refine Ab.loopI s.length (fun i => ((s.take i).all fun x => inB x 0 (n - 1)) = true ∧ ascI none s = ascI (prevG s i) (s.drop i)) (fun i => mkS 36 [(0, .d (.v (.int .i64 n))), (1, .d (.sl (List.map encI s))), (5, .d (.v (.int .i64 (i : Int))))] [] 32) ⟨rfl, rfl⟩ ?_ ?_
 · ((first | refine Le.mk rfl ?_ ?_ | refine LeTo.mk rfl ?_ ?_) <;> simp only [evD, evL, iteL, aX, St.said, St.asked, evStep, evOp, evP, St.init, St.app, srcStep, kill, setMany, loadS, fieldS, buildS, toks, Fin, upd_app, Array.isEmpty, reduceLT, reduceAdd, reduceMul, reduceLeDiff, reduceSub, reduceEqDiff, reduceCtorEq, reduceIte, ↓Opt.is, ↓Opt.no, ↓Asks.yes, ↓Asks.no, tyL, encL, leL, leD, ne_eq])
 rintro i hi ⟨hA, hB⟩
 repeat (first | refine aq ?_ | refine ap (by rfl : apartB 0 _ _ = true) ?_ | refine ak ?_ | refine ab ?_ | refine al ?_ | ((first | refine ar ?_ | refine ad ty_mix (by kernel_rfl) ?_ | refine ac ?_ | refine ae ?_ | with_reducible refine Later.mk ?_); simp only [evD, evL, iteL, aX, St.said, St.asked, evStep, evOp, evP, St.init, St.app, srcStep, kill, setMany, loadS, fieldS, buildS, toks, Fin, upd_app, Array.isEmpty, reduceLT, reduceAdd, reduceMul, reduceLeDiff, reduceSub, reduceEqDiff, reduceCtorEq, reduceIte, ↓Opt.is, ↓Opt.no, ↓Asks.yes, ↓Asks.no, tyL, encL, mkS, updl, asB]))
 refine ⟨fun h2 => ?_, fun h2 => ?_⟩
 · have h2 : i < s.length := by simpa using h2
   have hw := wrapN h2 (by omega)
   have hc := in_b s[i] 0 (n - 1)
   have z3 : ∀ x : Nat, (0 ≤ (x : Int)) = True := fun x => eq_true (by omega)
   rw [ascI_step s i h2] at hB
   have hA2 : ((s.take (i + 1)).all fun x => inB x 0 (n - 1)) = inB s[i] 0 (n - 1) := by rw [List.take_succ_eq_append_getElem h2, List.all_append, hA]; simp
   rcases Bool.eq_false_or_eq_true (inB s[i] 0 (n - 1)) with a1 | a1 <;> rw [a1] at hc hA2
   · by_cases hi0 : i = 0
     · subst hi0
       have hB2 : ascI none s = ascI (prevG s (0 + 1)) (s.drop (0 + 1)) := hB
       have hgt : decide (((0 : Nat) : Int) > 0) = false := rfl
       repeat (first | refine aq ?_ | refine ap (by rfl : apartB 0 _ _ = true) ?_ | refine ak ?_ | refine ab ?_ | refine al ?_ | ((first | refine ar ?_ | refine ad ty_mix (by kernel_rfl) ?_ | refine ac ?_ | refine ae ?_ | with_reducible refine Later.mk ?_); simp only [evD, evL, iteL, aX, St.said, St.asked, evStep, evOp, evP, St.init, St.app, srcStep, kill, setMany, loadS, fieldS, buildS, toks, Fin, upd_app, Array.isEmpty, reduceLT, reduceAdd, reduceMul, reduceLeDiff, reduceSub, reduceEqDiff, reduceCtorEq, reduceIte, ↓Opt.is, ↓Opt.no, ↓Asks.yes, ↓Asks.no, tyL, encL, getI h2, hn, z3, asB]))
       refine ⟨_, hc, ?_⟩; (repeat (first | refine ap (by rfl : apartB 0 _ _ = true) ?_ | refine ap (by simp [osL, D.flat]) ?_)); repeat (first | refine aq ?_ | refine ap (by rfl : apartB 0 _ _ = true) ?_ | refine ak ?_ | refine ab ?_ | refine al ?_ | ((first | refine ar ?_ | refine ad ty_mix (by kernel_rfl) ?_ | refine ac ?_ | refine ae ?_ | with_reducible refine Later.mk ?_); simp only [evD, evL, iteL, aX, St.said, St.asked, evStep, evOp, evP, St.init, St.app, srcStep, kill, setMany, loadS, fieldS, buildS, toks, Fin, upd_app, Array.isEmpty, reduceLT, reduceAdd, reduceMul, reduceLeDiff, reduceSub, reduceEqDiff, reduceCtorEq, reduceIte, ↓Opt.is, ↓Opt.no, ↓Asks.yes, ↓Asks.no, tyL, encL, hw, hgt, asB]))
       refine ⟨h2, ⟨hA2, hB2⟩, ?_⟩
       ((first | refine Le.mk rfl ?_ ?_ | refine LeTo.mk rfl ?_ ?_) <;> simp only [evD, evL, iteL, aX, St.said, St.asked, evStep, evOp, evP, St.init, St.app, srcStep, kill, setMany, loadS, fieldS, buildS, toks, Fin, upd_app, Array.isEmpty, reduceLT, reduceAdd, reduceMul, reduceLeDiff, reduceSub, reduceEqDiff, reduceCtorEq, reduceIte, ↓Opt.is, ↓Opt.no, ↓Asks.yes, ↓Asks.no, tyL, encL, leL, leD, ne_eq])
     · obtain ⟨j, rfl⟩ : ∃ j, i = j + 1 := ⟨i - 1, by omega⟩
       have hg2 : (List.map encI s)[j]? = some [.v (.int .i64 s[j])] := getI (by omega)
       have hwj : IntKind.i64.wrap (((j + 1 : Nat) : Int) - 1) = (j : Int) := by rw [IntKind.wrap_i64]; omega
       have hgt : decide (((j + 1 : Nat) : Int) > 0) = true := decide_eq_true (by omega)
       rw [okPI_succ s j (by omega)] at hB
       by_cases hs : s[j + 1] ≤ s[j]
       · have hr : setIx n s = false := by
           unfold setIx
           rw [hB, decide_eq_false (by omega), Bool.false_and, Bool.and_false]
         have hs2 : decide (s[j + 1] ≤ s[j]) = true := decide_eq_true hs
         repeat (first | refine aq ?_ | refine ap (by rfl : apartB 0 _ _ = true) ?_ | refine ak ?_ | refine ab ?_ | refine al ?_ | ((first | refine ar ?_ | refine ad ty_mix (by kernel_rfl) ?_ | refine ac ?_ | refine ae ?_ | with_reducible refine Later.mk ?_); simp only [evD, evL, iteL, aX, St.said, St.asked, evStep, evOp, evP, St.init, St.app, srcStep, kill, setMany, loadS, fieldS, buildS, toks, Fin, upd_app, Array.isEmpty, reduceLT, reduceAdd, reduceMul, reduceLeDiff, reduceSub, reduceEqDiff, reduceCtorEq, reduceIte, ↓Opt.is, ↓Opt.no, ↓Asks.yes, ↓Asks.no, tyL, encL, getI h2, hn, z3, asB]))
         refine ⟨_, hc, ?_⟩; (repeat (first | refine ap (by rfl : apartB 0 _ _ = true) ?_ | refine ap (by simp [osL, D.flat]) ?_)); repeat (first | refine aq ?_ | refine ap (by rfl : apartB 0 _ _ = true) ?_ | refine ak ?_ | refine ab ?_ | refine al ?_ | ((first | refine ar ?_ | refine ad ty_mix (by kernel_rfl) ?_ | refine ac ?_ | refine ae ?_ | with_reducible refine Later.mk ?_); simp only [evD, evL, iteL, aX, St.said, St.asked, evStep, evOp, evP, St.init, St.app, srcStep, kill, setMany, loadS, fieldS, buildS, toks, Fin, upd_app, Array.isEmpty, reduceLT, reduceAdd, reduceMul, reduceLeDiff, reduceSub, reduceEqDiff, reduceCtorEq, reduceIte, ↓Opt.is, ↓Opt.no, ↓Asks.yes, ↓Asks.no, tyL, encL, hgt, hwj, hg2, getI h2, z3, hs2, asB]))
         refine Ab.ret ?_; simp only [evD, evL, iteL, aX, St.said, St.asked, evStep, evOp, evP, St.init, St.app, srcStep, kill, setMany, loadS, fieldS, buildS, toks, Fin, upd_app, Array.isEmpty, reduceLT, reduceAdd, reduceMul, reduceLeDiff, reduceSub, reduceEqDiff, reduceCtorEq, reduceIte, ↓Opt.is, ↓Opt.no, ↓Asks.yes, ↓Asks.no, tyL, List.nodup_cons, encL, Tryz.f116, hr]
       · rw [decide_eq_true (by omega), Bool.true_and] at hB
         have hs2 : decide (s[j + 1] ≤ s[j]) = false := decide_eq_false hs
         repeat (first | refine aq ?_ | refine ap (by rfl : apartB 0 _ _ = true) ?_ | refine ak ?_ | refine ab ?_ | refine al ?_ | ((first | refine ar ?_ | refine ad ty_mix (by kernel_rfl) ?_ | refine ac ?_ | refine ae ?_ | with_reducible refine Later.mk ?_); simp only [evD, evL, iteL, aX, St.said, St.asked, evStep, evOp, evP, St.init, St.app, srcStep, kill, setMany, loadS, fieldS, buildS, toks, Fin, upd_app, Array.isEmpty, reduceLT, reduceAdd, reduceMul, reduceLeDiff, reduceSub, reduceEqDiff, reduceCtorEq, reduceIte, ↓Opt.is, ↓Opt.no, ↓Asks.yes, ↓Asks.no, tyL, encL, getI h2, hn, z3, asB]))
         refine ⟨_, hc, ?_⟩; (repeat (first | refine ap (by rfl : apartB 0 _ _ = true) ?_ | refine ap (by simp [osL, D.flat]) ?_)); repeat (first | refine aq ?_ | refine ap (by rfl : apartB 0 _ _ = true) ?_ | refine ak ?_ | refine ab ?_ | refine al ?_ | ((first | refine ar ?_ | refine ad ty_mix (by kernel_rfl) ?_ | refine ac ?_ | refine ae ?_ | with_reducible refine Later.mk ?_); simp only [evD, evL, iteL, aX, St.said, St.asked, evStep, evOp, evP, St.init, St.app, srcStep, kill, setMany, loadS, fieldS, buildS, toks, Fin, upd_app, Array.isEmpty, reduceLT, reduceAdd, reduceMul, reduceLeDiff, reduceSub, reduceEqDiff, reduceCtorEq, reduceIte, ↓Opt.is, ↓Opt.no, ↓Asks.yes, ↓Asks.no, tyL, encL, hgt, hwj, hg2, getI h2, z3, hs2, hw, asB]))
         refine ⟨h2, ⟨hA2, hB⟩, ?_⟩
         ((first | refine Le.mk rfl ?_ ?_ | refine LeTo.mk rfl ?_ ?_) <;> simp only [evD, evL, iteL, aX, St.said, St.asked, evStep, evOp, evP, St.init, St.app, srcStep, kill, setMany, loadS, fieldS, buildS, toks, Fin, upd_app, Array.isEmpty, reduceLT, reduceAdd, reduceMul, reduceLeDiff, reduceSub, reduceEqDiff, reduceCtorEq, reduceIte, ↓Opt.is, ↓Opt.no, ↓Asks.yes, ↓Asks.no, tyL, encL, leL, leD, ne_eq])
   · have hr : setIx n s = false := by
       unfold setIx
       rw [Bool.and_eq_false_iff]
       left
       rw [Bool.eq_false_iff]
       intro h3
       rw [List.all_eq_true] at h3
       rw [h3 _ (List.getElem_mem h2)] at a1
       cases a1
     repeat (first | refine aq ?_ | refine ap (by rfl : apartB 0 _ _ = true) ?_ | refine ak ?_ | refine ab ?_ | refine al ?_ | ((first | refine ar ?_ | refine ad ty_mix (by kernel_rfl) ?_ | refine ac ?_ | refine ae ?_ | with_reducible refine Later.mk ?_); simp only [evD, evL, iteL, aX, St.said, St.asked, evStep, evOp, evP, St.init, St.app, srcStep, kill, setMany, loadS, fieldS, buildS, toks, Fin, upd_app, Array.isEmpty, reduceLT, reduceAdd, reduceMul, reduceLeDiff, reduceSub, reduceEqDiff, reduceCtorEq, reduceIte, ↓Opt.is, ↓Opt.no, ↓Asks.yes, ↓Asks.no, tyL, encL, getI h2, hn, z3, asB]))
     refine ⟨_, hc, ?_⟩; (repeat (first | refine ap (by rfl : apartB 0 _ _ = true) ?_ | refine ap (by simp [osL, D.flat]) ?_)); repeat (first | refine aq ?_ | refine ap (by rfl : apartB 0 _ _ = true) ?_ | refine ak ?_ | refine ab ?_ | refine al ?_ | ((first | refine ar ?_ | refine ad ty_mix (by kernel_rfl) ?_ | refine ac ?_ | refine ae ?_ | with_reducible refine Later.mk ?_); simp only [evD, evL, iteL, aX, St.said, St.asked, evStep, evOp, evP, St.init, St.app, srcStep, kill, setMany, loadS, fieldS, buildS, toks, Fin, upd_app, Array.isEmpty, reduceLT, reduceAdd, reduceMul, reduceLeDiff, reduceSub, reduceEqDiff, reduceCtorEq, reduceIte, ↓Opt.is, ↓Opt.no, ↓Asks.yes, ↓Asks.no, tyL, encL, asB]))
     refine Ab.ret ?_; simp only [evD, evL, iteL, aX, St.said, St.asked, evStep, evOp, evP, St.init, St.app, srcStep, kill, setMany, loadS, fieldS, buildS, toks, Fin, upd_app, Array.isEmpty, reduceLT, reduceAdd, reduceMul, reduceLeDiff, reduceSub, reduceEqDiff, reduceCtorEq, reduceIte, ↓Opt.is, ↓Opt.no, ↓Asks.yes, ↓Asks.no, tyL, List.nodup_cons, encL, Tryz.f116, hr]
 · have h2 : i = s.length := by have := of_decide_eq_false h2; omega
   subst h2
   rw [List.take_length] at hA
   rw [List.drop_length] at hB
   have hr : setIx n s = true := by
     unfold setIx
     rw [hA, hB]
     rfl
   repeat (first | refine aq ?_ | refine ap (by rfl : apartB 0 _ _ = true) ?_ | refine ak ?_ | refine ab ?_ | refine al ?_ | ((first | refine ar ?_ | refine ad ty_mix (by kernel_rfl) ?_ | refine ac ?_ | refine ae ?_ | with_reducible refine Later.mk ?_); simp only [evD, evL, iteL, aX, St.said, St.asked, evStep, evOp, evP, St.init, St.app, srcStep, kill, setMany, loadS, fieldS, buildS, toks, Fin, upd_app, Array.isEmpty, reduceLT, reduceAdd, reduceMul, reduceLeDiff, reduceSub, reduceEqDiff, reduceCtorEq, reduceIte, ↓Opt.is, ↓Opt.no, ↓Asks.yes, ↓Asks.no, tyL, encL, asB]))
   refine Ab.ret ?_; simp only [evD, evL, iteL, aX, St.said, St.asked, evStep, evOp, evP, St.init, St.app, srcStep, kill, setMany, loadS, fieldS, buildS, toks, Fin, upd_app, Array.isEmpty, reduceLT, reduceAdd, reduceMul, reduceLeDiff, reduceSub, reduceEqDiff, reduceCtorEq, reduceIte, ↓Opt.is, ↓Opt.no, ↓Asks.yes, ↓Asks.no, tyL, List.nodup_cons, encL, Tryz.f116, hr]
theorem l8Fits_a {l : List Edg} {s : List Int} {x : Int} (gE : (eSlice eEdg).good l) (gI : (eSlice eInt).good s) (hx : inR x) (hl : s.length ≤ 1048576) : AC Tryz.prog 101 [.d (encEs l), .d (encIs s), .d (.v (.int .i64 x))] (.d (.v (.bool (fitsL l s x)))) := by
 have gI2 : (eSlice eInt).good (s ++ [x]) := ⟨by rw [List.length_append, List.length_singleton]; simp only [maxLen]; omega, fun b hb => (List.mem_append.1 hb).elim (gI.2 b) (fun h => by rw [List.mem_singleton] at h; subst h; exact hx)⟩
 have hc1 := l7Has_a (x := x) gI
 have hc2 := specIsIndependent_a gE gI2
 unfold encIs at hc2
 rw [List.map_append] at hc2
 unfold fitsL
 rcases Bool.eq_false_or_eq_true (s.contains x) with a1 | a1 <;> rw [a1] at hc1 ⊢
 · refine AC.intro Tryz.func101 rfl (by decide) (by simp [S.res, S.ress]) (by simp [S.os, S.oss]) (by simp [S.wfs, S.wf, dbS]) (by simp [Tryz.f101]) ?_; rw [Tryz.ntmps101]
   repeat (first | refine aq ?_ | refine ap (by rfl : apartB 0 _ _ = true) ?_ | refine ak ?_ | refine ab ?_ | refine al ?_ | ((first | refine ar ?_ | refine ad ty_mix (by kernel_rfl) ?_ | refine ac ?_ | refine ae ?_ | with_reducible refine Later.mk ?_); simp only [evD, evL, iteL, aX, St.said, St.asked, evStep, evOp, evP, St.init, St.app, srcStep, kill, setMany, loadS, fieldS, buildS, toks, Fin, upd_app, Array.isEmpty, reduceLT, reduceAdd, reduceMul, reduceLeDiff, reduceSub, reduceEqDiff, reduceCtorEq, reduceIte, ↓Opt.is, ↓Opt.no, ↓Asks.yes, ↓Asks.no, tyL, encL, asB]))
   refine ⟨_, hc1, ?_⟩; (repeat (first | refine ap (by rfl : apartB 0 _ _ = true) ?_ | refine ap (by simp [osL, D.flat]) ?_)); repeat (first | refine aq ?_ | refine ap (by rfl : apartB 0 _ _ = true) ?_ | refine ak ?_ | refine ab ?_ | refine al ?_ | ((first | refine ar ?_ | refine ad ty_mix (by kernel_rfl) ?_ | refine ac ?_ | refine ae ?_ | with_reducible refine Later.mk ?_); simp only [evD, evL, iteL, aX, St.said, St.asked, evStep, evOp, evP, St.init, St.app, srcStep, kill, setMany, loadS, fieldS, buildS, toks, Fin, upd_app, Array.isEmpty, reduceLT, reduceAdd, reduceMul, reduceLeDiff, reduceSub, reduceEqDiff, reduceCtorEq, reduceIte, ↓Opt.is, ↓Opt.no, ↓Asks.yes, ↓Asks.no, tyL, encL, asB]))
   refine Ab.ret ?_; simp only [evD, evL, iteL, aX, St.said, St.asked, evStep, evOp, evP, St.init, St.app, srcStep, kill, setMany, loadS, fieldS, buildS, toks, Fin, upd_app, Array.isEmpty, reduceLT, reduceAdd, reduceMul, reduceLeDiff, reduceSub, reduceEqDiff, reduceCtorEq, reduceIte, ↓Opt.is, ↓Opt.no, ↓Asks.yes, ↓Asks.no, tyL, List.nodup_cons, encL, Tryz.f101]
 · refine AC.intro Tryz.func101 rfl (by decide) (by simp [S.res, S.ress]) (by simp [S.os, S.oss]) (by simp [S.wfs, S.wf, dbS]) (by simp [Tryz.f101]) ?_; rw [Tryz.ntmps101]
   repeat (first | refine aq ?_ | refine ap (by rfl : apartB 0 _ _ = true) ?_ | refine ak ?_ | refine ab ?_ | refine al ?_ | ((first | refine ar ?_ | refine ad ty_mix (by kernel_rfl) ?_ | refine ac ?_ | refine ae ?_ | with_reducible refine Later.mk ?_); simp only [evD, evL, iteL, aX, St.said, St.asked, evStep, evOp, evP, St.init, St.app, srcStep, kill, setMany, loadS, fieldS, buildS, toks, Fin, upd_app, Array.isEmpty, reduceLT, reduceAdd, reduceMul, reduceLeDiff, reduceSub, reduceEqDiff, reduceCtorEq, reduceIte, ↓Opt.is, ↓Opt.no, ↓Asks.yes, ↓Asks.no, tyL, encL, asB]))
   refine ⟨_, hc1, ?_⟩; (repeat (first | refine ap (by rfl : apartB 0 _ _ = true) ?_ | refine ap (by simp [osL, D.flat]) ?_)); repeat (first | refine aq ?_ | refine ap (by rfl : apartB 0 _ _ = true) ?_ | refine ak ?_ | refine ab ?_ | refine al ?_ | ((first | refine ar ?_ | refine ad ty_mix (by kernel_rfl) ?_ | refine ac ?_ | refine ae ?_ | with_reducible refine Later.mk ?_); simp only [evD, evL, iteL, aX, St.said, St.asked, evStep, evOp, evP, St.init, St.app, srcStep, kill, setMany, loadS, fieldS, buildS, toks, Fin, upd_app, Array.isEmpty, reduceLT, reduceAdd, reduceMul, reduceLeDiff, reduceSub, reduceEqDiff, reduceCtorEq, reduceIte, ↓Opt.is, ↓Opt.no, ↓Asks.yes, ↓Asks.no, tyL, encL, asB]))
   refine ⟨fun e he => by obtain ⟨y, _, rfl⟩ := List.mem_map.1 he; rfl, true, (fun _ e he y hy => by obtain ⟨z, _, rfl⟩ := List.mem_map.1 he; simp only [encI, List.mem_singleton] at hy; subst hy; simp only [D.flat]), Later.mk ?_⟩
   simp only [evD, evL, iteL, aX, St.said, St.asked, evStep, evOp, evP, St.init, St.app, srcStep, kill, setMany, loadS, fieldS, buildS, toks, Fin, upd_app, Array.isEmpty, reduceLT, reduceAdd, reduceMul, reduceLeDiff, reduceSub, reduceEqDiff, reduceCtorEq, reduceIte, ↓Opt.is, ↓Opt.no, ↓Asks.yes, ↓Asks.no, tyL, encL]
   refine ⟨by simp only [maxLen]; omega, by omega, by simp only [maxLen]; omega, by omega, _, hc2, ?_⟩
   simp only [evD, evL, iteL, aX, St.said, St.asked, evStep, evOp, evP, St.init, St.app, srcStep, kill, setMany, loadS, fieldS, buildS, toks, Fin, upd_app, Array.isEmpty, reduceLT, reduceAdd, reduceMul, reduceLeDiff, reduceSub, reduceEqDiff, reduceCtorEq, reduceIte, ↓Opt.is, ↓Opt.no, ↓Asks.yes, ↓Asks.no, tyL, encL, osL]
   repeat (first | refine aq ?_ | refine ap (by rfl : apartB 0 _ _ = true) ?_ | refine ak ?_ | refine ab ?_ | refine al ?_ | ((first | refine ar ?_ | refine ad ty_mix (by kernel_rfl) ?_ | refine ac ?_ | refine ae ?_ | with_reducible refine Later.mk ?_); simp only [evD, evL, iteL, aX, St.said, St.asked, evStep, evOp, evP, St.init, St.app, srcStep, kill, setMany, loadS, fieldS, buildS, toks, Fin, upd_app, Array.isEmpty, reduceLT, reduceAdd, reduceMul, reduceLeDiff, reduceSub, reduceEqDiff, reduceCtorEq, reduceIte, ↓Opt.is, ↓Opt.no, ↓Asks.yes, ↓Asks.no, tyL, encL, asB]))
   refine Ab.ret ?_; simp only [evD, evL, iteL, aX, St.said, St.asked, evStep, evOp, evP, St.init, St.app, srcStep, kill, setMany, loadS, fieldS, buildS, toks, Fin, upd_app, Array.isEmpty, reduceLT, reduceAdd, reduceMul, reduceLeDiff, reduceSub, reduceEqDiff, reduceCtorEq, reduceIte, ↓Opt.is, ↓Opt.no, ↓Asks.yes, ↓Asks.no, tyL, List.nodup_cons, encL, Tryz.f101]
def maxI (n : Int) (l : List Edg) (s : List Int) : Bool := exOk n l s && decide ((exL n l s).length = s.length)
theorem implIsMaximalIndependent_a {n : Int} {l : List Edg} {s : List Int} (gE : (eSlice eEdg).good l) (gI : (eSlice eInt).good s) (hl : l.length ≤ 1048576) (hsl : s.length ≤ 1048576) : AC Tryz.prog 98 [.d (.v (.int .i64 n)), .d (encEs l), .d (encIs s)] (.d (.v (.bool (maxI n l s)))) := by
 have hc := implExtendToMaximal_a (n := n) gE gI hl hsl
 have he := eqN (exL n l s).length s.length
 unfold maxI
 rcases Bool.eq_false_or_eq_true (exOk n l s) with hd | hd <;> rw [hd] at hc ⊢
 · rw [Bool.true_and, ← he]
   refine AC.intro Tryz.func98 rfl (by decide) (by simp [S.res, S.ress]) (by simp [S.os, S.oss]) (by simp [S.wfs, S.wf, dbS]) (by simp [Tryz.f98]) ?_; rw [Tryz.ntmps98]
   repeat (first | refine aq ?_ | refine ap (by rfl : apartB 0 _ _ = true) ?_ | refine ak ?_ | refine ab ?_ | refine al ?_ | ((first | refine ar ?_ | refine ad ty_mix (by kernel_rfl) ?_ | refine ac ?_ | refine ae ?_ | with_reducible refine Later.mk ?_); simp only [evD, evL, iteL, aX, St.said, St.asked, evStep, evOp, evP, St.init, St.app, srcStep, kill, setMany, loadS, fieldS, buildS, toks, Fin, upd_app, Array.isEmpty, reduceLT, reduceAdd, reduceMul, reduceLeDiff, reduceSub, reduceEqDiff, reduceCtorEq, reduceIte, ↓Opt.is, ↓Opt.no, ↓Asks.yes, ↓Asks.no, tyL, encL, asB]))
   refine ⟨_, hc, ?_⟩; (repeat (first | refine ap (by rfl : apartB 0 _ _ = true) ?_ | refine ap (by simp [osL, D.flat]) ?_)); repeat (first | refine aq ?_ | refine ap (by rfl : apartB 0 _ _ = true) ?_ | refine ak ?_ | refine ab ?_ | refine al ?_ | ((first | refine ar ?_ | refine ad ty_mix (by kernel_rfl) ?_ | refine ac ?_ | refine ae ?_ | with_reducible refine Later.mk ?_); simp only [evD, evL, iteL, aX, St.said, St.asked, evStep, evOp, evP, St.init, St.app, srcStep, kill, setMany, loadS, fieldS, buildS, toks, Fin, upd_app, Array.isEmpty, reduceLT, reduceAdd, reduceMul, reduceLeDiff, reduceSub, reduceEqDiff, reduceCtorEq, reduceIte, ↓Opt.is, ↓Opt.no, ↓Asks.yes, ↓Asks.no, tyL, encL, List.length_map, asB]))
   refine Ab.ret ?_; simp only [evD, evL, iteL, aX, St.said, St.asked, evStep, evOp, evP, St.init, St.app, srcStep, kill, setMany, loadS, fieldS, buildS, toks, Fin, upd_app, Array.isEmpty, reduceLT, reduceAdd, reduceMul, reduceLeDiff, reduceSub, reduceEqDiff, reduceCtorEq, reduceIte, ↓Opt.is, ↓Opt.no, ↓Asks.yes, ↓Asks.no, tyL, List.nodup_cons, encL, Tryz.f98]
 · rw [Bool.false_and]
   refine AC.intro Tryz.func98 rfl (by decide) (by simp [S.res, S.ress]) (by simp [S.os, S.oss]) (by simp [S.wfs, S.wf, dbS]) (by simp [Tryz.f98]) ?_; rw [Tryz.ntmps98]
   repeat (first | refine aq ?_ | refine ap (by rfl : apartB 0 _ _ = true) ?_ | refine ak ?_ | refine ab ?_ | refine al ?_ | ((first | refine ar ?_ | refine ad ty_mix (by kernel_rfl) ?_ | refine ac ?_ | refine ae ?_ | with_reducible refine Later.mk ?_); simp only [evD, evL, iteL, aX, St.said, St.asked, evStep, evOp, evP, St.init, St.app, srcStep, kill, setMany, loadS, fieldS, buildS, toks, Fin, upd_app, Array.isEmpty, reduceLT, reduceAdd, reduceMul, reduceLeDiff, reduceSub, reduceEqDiff, reduceCtorEq, reduceIte, ↓Opt.is, ↓Opt.no, ↓Asks.yes, ↓Asks.no, tyL, encL, asB]))
   refine ⟨_, hc, ?_⟩; (repeat (first | refine ap (by rfl : apartB 0 _ _ = true) ?_ | refine ap (by simp [osL, D.flat]) ?_)); repeat (first | refine aq ?_ | refine ap (by rfl : apartB 0 _ _ = true) ?_ | refine ak ?_ | refine ab ?_ | refine al ?_ | ((first | refine ar ?_ | refine ad ty_mix (by kernel_rfl) ?_ | refine ac ?_ | refine ae ?_ | with_reducible refine Later.mk ?_); simp only [evD, evL, iteL, aX, St.said, St.asked, evStep, evOp, evP, St.init, St.app, srcStep, kill, setMany, loadS, fieldS, buildS, toks, Fin, upd_app, Array.isEmpty, reduceLT, reduceAdd, reduceMul, reduceLeDiff, reduceSub, reduceEqDiff, reduceCtorEq, reduceIte, ↓Opt.is, ↓Opt.no, ↓Asks.yes, ↓Asks.no, tyL, encL, asB]))
   refine Ab.ret ?_; simp only [evD, evL, iteL, aX, St.said, St.asked, evStep, evOp, evP, St.init, St.app, srcStep, kill, setMany, loadS, fieldS, buildS, toks, Fin, upd_app, Array.isEmpty, reduceLT, reduceAdd, reduceMul, reduceLeDiff, reduceSub, reduceEqDiff, reduceCtorEq, reduceIte, ↓Opt.is, ↓Opt.no, ↓Asks.yes, ↓Asks.no, tyL, List.nodup_cons, encL, Tryz.f98]
theorem maxI_fits {m : Nat} {l : List Edg} {s : List Int} (hd : exOk (m : Int) l s = true) : maxI (m : Int) l s = true ↔ ∀ x, x < m → fitsL l s (x : Int) = false := by
 obtain ⟨h1, h2, h3, m', hmm, hm, hok, hin⟩ := ex_facts hd
 have : m' = m := by omega
 subst this
 unfold maxI exL
 rw [hd, if_pos rfl, Bool.true_and, decide_eq_true_eq, Int.toNat_natCast, ← sort_elems (by omega) (ext_eq hok (by omega) hin m' (Nat.le_refl _)), (sortI_perm _).length_eq]
 exact outL_same l s m'
theorem specIsMaximalIndependent_a {n : Int} {l : List Edg} {s : List Int} (gE : (eSlice eEdg).good l) (gI : (eSlice eInt).good s) (hle : l.length ≤ 1048576) (hl : s.length ≤ 1048576) : AC Tryz.prog 91 [.d (.v (.int .i64 n)), .d (encEs l), .d (encIs s)] (.d (.v (.bool (maxI n l s)))) := by
 have hc1 := specAreValidEdges_a (n := n) gE
 have hc3 := specIsIndependent_a gE gI
 rcases Bool.eq_false_or_eq_true (exOk n l s) with hd | hd
 · obtain ⟨h1, h2, h3, m, rfl, hm, hok, hin⟩ := ex_facts hd
   have hf := maxI_fits hd
   have hc2 := l8Set_a (n := (m : Int)) gI hl (by rw [IntKind.wrap_i64]; omega)
   rw [h1] at hc1
   rw [h2] at hc2
   rw [h3] at hc3
   generalize maxI (m : Int) l s = R at *
   refine AC.intro Tryz.func91 rfl (by decide) (by simp [S.res, S.ress]) (by simp [S.os, S.oss]) (by simp [S.wfs, S.wf, dbS]) (by simp [Tryz.f91]) ?_; rw [Tryz.ntmps91]
   repeat (first | refine aq ?_ | refine ap (by rfl : apartB 0 _ _ = true) ?_ | refine ak ?_ | refine ab ?_ | refine al ?_ | ((first | refine ar ?_ | refine ad ty_mix (by kernel_rfl) ?_ | refine ac ?_ | refine ae ?_ | with_reducible refine Later.mk ?_); simp only [evD, evL, iteL, aX, St.said, St.asked, evStep, evOp, evP, St.init, St.app, srcStep, kill, setMany, loadS, fieldS, buildS, toks, Fin, upd_app, Array.isEmpty, reduceLT, reduceAdd, reduceMul, reduceLeDiff, reduceSub, reduceEqDiff, reduceCtorEq, reduceIte, ↓Opt.is, ↓Opt.no, ↓Asks.yes, ↓Asks.no, tyL, encL, asB]))
   refine ⟨_, hc1, ?_⟩; (repeat (first | refine ap (by rfl : apartB 0 _ _ = true) ?_ | refine ap (by simp [osL, D.flat]) ?_)); repeat (first | refine aq ?_ | refine ap (by rfl : apartB 0 _ _ = true) ?_ | refine ak ?_ | refine ab ?_ | refine al ?_ | ((first | refine ar ?_ | refine ad ty_mix (by kernel_rfl) ?_ | refine ac ?_ | refine ae ?_ | with_reducible refine Later.mk ?_); simp only [evD, evL, iteL, aX, St.said, St.asked, evStep, evOp, evP, St.init, St.app, srcStep, kill, setMany, loadS, fieldS, buildS, toks, Fin, upd_app, Array.isEmpty, reduceLT, reduceAdd, reduceMul, reduceLeDiff, reduceSub, reduceEqDiff, reduceCtorEq, reduceIte, ↓Opt.is, ↓Opt.no, ↓Asks.yes, ↓Asks.no, tyL, encL, asB]))
   refine ⟨_, hc2, ?_⟩; (repeat (first | refine ap (by rfl : apartB 0 _ _ = true) ?_ | refine ap (by simp [osL, D.flat]) ?_)); repeat (first | refine aq ?_ | refine ap (by rfl : apartB 0 _ _ = true) ?_ | refine ak ?_ | refine ab ?_ | refine al ?_ | ((first | refine ar ?_ | refine ad ty_mix (by kernel_rfl) ?_ | refine ac ?_ | refine ae ?_ | with_reducible refine Later.mk ?_); simp only [evD, evL, iteL, aX, St.said, St.asked, evStep, evOp, evP, St.init, St.app, srcStep, kill, setMany, loadS, fieldS, buildS, toks, Fin, upd_app, Array.isEmpty, reduceLT, reduceAdd, reduceMul, reduceLeDiff, reduceSub, reduceEqDiff, reduceCtorEq, reduceIte, ↓Opt.is, ↓Opt.no, ↓Asks.yes, ↓Asks.no, tyL, encL, asB]))
   refine ⟨_, hc3, ?_⟩; (repeat (first | refine ap (by rfl : apartB 0 _ _ = true) ?_ | refine ap (by simp [osL, D.flat]) ?_)); repeat (first | refine aq ?_ | refine ap (by rfl : apartB 0 _ _ = true) ?_ | refine ak ?_ | refine ab ?_ | refine al ?_ | ((first | refine ar ?_ | refine ad ty_mix (by kernel_rfl) ?_ | refine ac ?_ | refine ae ?_ | with_reducible refine Later.mk ?_); simp only [evD, evL, iteL, aX, St.said, St.asked, evStep, evOp, evP, St.init, St.app, srcStep, kill, setMany, loadS, fieldS, buildS, toks, Fin, upd_app, Array.isEmpty, reduceLT, reduceAdd, reduceMul, reduceLeDiff, reduceSub, reduceEqDiff, reduceCtorEq, reduceIte, ↓Opt.is, ↓Opt.no, ↓Asks.yes, ↓Asks.no, tyL, encL, asB]))
   refine Ab.loopI m (fun i => ∀ x, x < i → fitsL l s (x : Int) = false) (fun i => mkS 33 [(0, .d (.v (.int .i64 (m : Int)))), (1, .d (.sl (List.map encE l))), (2, .d (.sl (List.map encI s))), (7, .d (.v (.int .i64 (i : Int))))] [] 288) (fun x hx => by omega) ?_ ?_
   · ((first | refine Le.mk rfl ?_ ?_ | refine LeTo.mk rfl ?_ ?_) <;> simp only [evD, evL, iteL, aX, St.said, St.asked, evStep, evOp, evP, St.init, St.app, srcStep, kill, setMany, loadS, fieldS, buildS, toks, Fin, upd_app, Array.isEmpty, reduceLT, reduceAdd, reduceMul, reduceLeDiff, reduceSub, reduceEqDiff, reduceCtorEq, reduceIte, ↓Opt.is, ↓Opt.no, ↓Asks.yes, ↓Asks.no, tyL, encL, leL, leD, ne_eq])
   intro i hi hI
   repeat (first | refine aq ?_ | refine ap (by rfl : apartB 0 _ _ = true) ?_ | refine ak ?_ | refine ab ?_ | refine al ?_ | ((first | refine ar ?_ | refine ad ty_mix (by kernel_rfl) ?_ | refine ac ?_ | refine ae ?_ | with_reducible refine Later.mk ?_); simp only [evD, evL, iteL, aX, St.said, St.asked, evStep, evOp, evP, St.init, St.app, srcStep, kill, setMany, loadS, fieldS, buildS, toks, Fin, upd_app, Array.isEmpty, reduceLT, reduceAdd, reduceMul, reduceLeDiff, reduceSub, reduceEqDiff, reduceCtorEq, reduceIte, ↓Opt.is, ↓Opt.no, ↓Asks.yes, ↓Asks.no, tyL, encL, mkS, updl, asB]))
   refine ⟨fun h4 => ?_, fun h4 => ?_⟩
   · have h4 : i < m := by simpa using h4
     have hw := wrapN h4 (by omega)
     have hc4 := l8Fits_a (l := l) (s := s) (x := (i : Int)) gE gI ⟨by omega, by omega⟩ hl
     rcases Bool.eq_false_or_eq_true (fitsL l s (i : Int)) with a1 | a1 <;> rw [a1] at hc4
     · have hr : R = false := by
         rw [Bool.eq_false_iff]
         intro h5
         rw [hf.1 h5 i h4] at a1
         cases a1
       repeat (first | refine aq ?_ | refine ap (by rfl : apartB 0 _ _ = true) ?_ | refine ak ?_ | refine ab ?_ | refine al ?_ | ((first | refine ar ?_ | refine ad ty_mix (by kernel_rfl) ?_ | refine ac ?_ | refine ae ?_ | with_reducible refine Later.mk ?_); simp only [evD, evL, iteL, aX, St.said, St.asked, evStep, evOp, evP, St.init, St.app, srcStep, kill, setMany, loadS, fieldS, buildS, toks, Fin, upd_app, Array.isEmpty, reduceLT, reduceAdd, reduceMul, reduceLeDiff, reduceSub, reduceEqDiff, reduceCtorEq, reduceIte, ↓Opt.is, ↓Opt.no, ↓Asks.yes, ↓Asks.no, tyL, encL, asB]))
       refine ⟨_, hc4, ?_⟩; (repeat (first | refine ap (by rfl : apartB 0 _ _ = true) ?_ | refine ap (by simp [osL, D.flat]) ?_)); repeat (first | refine aq ?_ | refine ap (by rfl : apartB 0 _ _ = true) ?_ | refine ak ?_ | refine ab ?_ | refine al ?_ | ((first | refine ar ?_ | refine ad ty_mix (by kernel_rfl) ?_ | refine ac ?_ | refine ae ?_ | with_reducible refine Later.mk ?_); simp only [evD, evL, iteL, aX, St.said, St.asked, evStep, evOp, evP, St.init, St.app, srcStep, kill, setMany, loadS, fieldS, buildS, toks, Fin, upd_app, Array.isEmpty, reduceLT, reduceAdd, reduceMul, reduceLeDiff, reduceSub, reduceEqDiff, reduceCtorEq, reduceIte, ↓Opt.is, ↓Opt.no, ↓Asks.yes, ↓Asks.no, tyL, encL, asB]))
       refine Ab.ret ?_; simp only [evD, evL, iteL, aX, St.said, St.asked, evStep, evOp, evP, St.init, St.app, srcStep, kill, setMany, loadS, fieldS, buildS, toks, Fin, upd_app, Array.isEmpty, reduceLT, reduceAdd, reduceMul, reduceLeDiff, reduceSub, reduceEqDiff, reduceCtorEq, reduceIte, ↓Opt.is, ↓Opt.no, ↓Asks.yes, ↓Asks.no, tyL, List.nodup_cons, encL, Tryz.f91, hr]
     · repeat (first | refine aq ?_ | refine ap (by rfl : apartB 0 _ _ = true) ?_ | refine ak ?_ | refine ab ?_ | refine al ?_ | ((first | refine ar ?_ | refine ad ty_mix (by kernel_rfl) ?_ | refine ac ?_ | refine ae ?_ | with_reducible refine Later.mk ?_); simp only [evD, evL, iteL, aX, St.said, St.asked, evStep, evOp, evP, St.init, St.app, srcStep, kill, setMany, loadS, fieldS, buildS, toks, Fin, upd_app, Array.isEmpty, reduceLT, reduceAdd, reduceMul, reduceLeDiff, reduceSub, reduceEqDiff, reduceCtorEq, reduceIte, ↓Opt.is, ↓Opt.no, ↓Asks.yes, ↓Asks.no, tyL, encL, asB]))
       refine ⟨_, hc4, ?_⟩; (repeat (first | refine ap (by rfl : apartB 0 _ _ = true) ?_ | refine ap (by simp [osL, D.flat]) ?_)); repeat (first | refine aq ?_ | refine ap (by rfl : apartB 0 _ _ = true) ?_ | refine ak ?_ | refine ab ?_ | refine al ?_ | ((first | refine ar ?_ | refine ad ty_mix (by kernel_rfl) ?_ | refine ac ?_ | refine ae ?_ | with_reducible refine Later.mk ?_); simp only [evD, evL, iteL, aX, St.said, St.asked, evStep, evOp, evP, St.init, St.app, srcStep, kill, setMany, loadS, fieldS, buildS, toks, Fin, upd_app, Array.isEmpty, reduceLT, reduceAdd, reduceMul, reduceLeDiff, reduceSub, reduceEqDiff, reduceCtorEq, reduceIte, ↓Opt.is, ↓Opt.no, ↓Asks.yes, ↓Asks.no, tyL, encL, hw, asB]))
       refine ⟨h4, fun x hx => ?_, ?_⟩
       · by_cases e : x = i
         · subst e; exact a1
         · exact hI x (by omega)
       · ((first | refine Le.mk rfl ?_ ?_ | refine LeTo.mk rfl ?_ ?_) <;> simp only [evD, evL, iteL, aX, St.said, St.asked, evStep, evOp, evP, St.init, St.app, srcStep, kill, setMany, loadS, fieldS, buildS, toks, Fin, upd_app, Array.isEmpty, reduceLT, reduceAdd, reduceMul, reduceLeDiff, reduceSub, reduceEqDiff, reduceCtorEq, reduceIte, ↓Opt.is, ↓Opt.no, ↓Asks.yes, ↓Asks.no, tyL, encL, leL, leD, ne_eq])
   · have h4 : i = m := by have := of_decide_eq_false h4; omega
     subst h4
     have hr : R = true := hf.2 hI
     repeat (first | refine aq ?_ | refine ap (by rfl : apartB 0 _ _ = true) ?_ | refine ak ?_ | refine ab ?_ | refine al ?_ | ((first | refine ar ?_ | refine ad ty_mix (by kernel_rfl) ?_ | refine ac ?_ | refine ae ?_ | with_reducible refine Later.mk ?_); simp only [evD, evL, iteL, aX, St.said, St.asked, evStep, evOp, evP, St.init, St.app, srcStep, kill, setMany, loadS, fieldS, buildS, toks, Fin, upd_app, Array.isEmpty, reduceLT, reduceAdd, reduceMul, reduceLeDiff, reduceSub, reduceEqDiff, reduceCtorEq, reduceIte, ↓Opt.is, ↓Opt.no, ↓Asks.yes, ↓Asks.no, tyL, encL, asB]))
     refine Ab.ret ?_; simp only [evD, evL, iteL, aX, St.said, St.asked, evStep, evOp, evP, St.init, St.app, srcStep, kill, setMany, loadS, fieldS, buildS, toks, Fin, upd_app, Array.isEmpty, reduceLT, reduceAdd, reduceMul, reduceLeDiff, reduceSub, reduceEqDiff, reduceCtorEq, reduceIte, ↓Opt.is, ↓Opt.no, ↓Asks.yes, ↓Asks.no, tyL, List.nodup_cons, encL, Tryz.f91, hr]
 · have hr : maxI n l s = false := by unfold maxI; rw [hd]; rfl
   rw [hr]
   have hd2 := hd
   unfold exOk at hd2
   rcases Bool.eq_false_or_eq_true (validE n l) with a1 | a1 <;> rw [a1] at hc1 hd2
   · have hn : 0 ≤ n ∧ n ≤ 14 := by
       unfold validE inB at a1
       simp only [Bool.and_eq_true, decide_eq_true_eq] at a1
       omega
     have hc2 := l8Set_a (n := n) gI hl (by rw [IntKind.wrap_i64]; omega)
     rcases Bool.eq_false_or_eq_true (setIx n s) with a2 | a2 <;> rw [a2] at hc2 hd2
     · rw [Bool.true_and, Bool.true_and] at hd2
       rw [hd2] at hc3
       refine AC.intro Tryz.func91 rfl (by decide) (by simp [S.res, S.ress]) (by simp [S.os, S.oss]) (by simp [S.wfs, S.wf, dbS]) (by simp [Tryz.f91]) ?_; rw [Tryz.ntmps91]
       repeat (first | refine aq ?_ | refine ap (by rfl : apartB 0 _ _ = true) ?_ | refine ak ?_ | refine ab ?_ | refine al ?_ | ((first | refine ar ?_ | refine ad ty_mix (by kernel_rfl) ?_ | refine ac ?_ | refine ae ?_ | with_reducible refine Later.mk ?_); simp only [evD, evL, iteL, aX, St.said, St.asked, evStep, evOp, evP, St.init, St.app, srcStep, kill, setMany, loadS, fieldS, buildS, toks, Fin, upd_app, Array.isEmpty, reduceLT, reduceAdd, reduceMul, reduceLeDiff, reduceSub, reduceEqDiff, reduceCtorEq, reduceIte, ↓Opt.is, ↓Opt.no, ↓Asks.yes, ↓Asks.no, tyL, encL, asB]))
       refine ⟨_, hc1, ?_⟩; (repeat (first | refine ap (by rfl : apartB 0 _ _ = true) ?_ | refine ap (by simp [osL, D.flat]) ?_)); repeat (first | refine aq ?_ | refine ap (by rfl : apartB 0 _ _ = true) ?_ | refine ak ?_ | refine ab ?_ | refine al ?_ | ((first | refine ar ?_ | refine ad ty_mix (by kernel_rfl) ?_ | refine ac ?_ | refine ae ?_ | with_reducible refine Later.mk ?_); simp only [evD, evL, iteL, aX, St.said, St.asked, evStep, evOp, evP, St.init, St.app, srcStep, kill, setMany, loadS, fieldS, buildS, toks, Fin, upd_app, Array.isEmpty, reduceLT, reduceAdd, reduceMul, reduceLeDiff, reduceSub, reduceEqDiff, reduceCtorEq, reduceIte, ↓Opt.is, ↓Opt.no, ↓Asks.yes, ↓Asks.no, tyL, encL, asB]))
       refine ⟨_, hc2, ?_⟩; (repeat (first | refine ap (by rfl : apartB 0 _ _ = true) ?_ | refine ap (by simp [osL, D.flat]) ?_)); repeat (first | refine aq ?_ | refine ap (by rfl : apartB 0 _ _ = true) ?_ | refine ak ?_ | refine ab ?_ | refine al ?_ | ((first | refine ar ?_ | refine ad ty_mix (by kernel_rfl) ?_ | refine ac ?_ | refine ae ?_ | with_reducible refine Later.mk ?_); simp only [evD, evL, iteL, aX, St.said, St.asked, evStep, evOp, evP, St.init, St.app, srcStep, kill, setMany, loadS, fieldS, buildS, toks, Fin, upd_app, Array.isEmpty, reduceLT, reduceAdd, reduceMul, reduceLeDiff, reduceSub, reduceEqDiff, reduceCtorEq, reduceIte, ↓Opt.is, ↓Opt.no, ↓Asks.yes, ↓Asks.no, tyL, encL, asB]))
       refine ⟨_, hc3, ?_⟩; (repeat (first | refine ap (by rfl : apartB 0 _ _ = true) ?_ | refine ap (by simp [osL, D.flat]) ?_)); repeat (first | refine aq ?_ | refine ap (by rfl : apartB 0 _ _ = true) ?_ | refine ak ?_ | refine ab ?_ | refine al ?_ | ((first | refine ar ?_ | refine ad ty_mix (by kernel_rfl) ?_ | refine ac ?_ | refine ae ?_ | with_reducible refine Later.mk ?_); simp only [evD, evL, iteL, aX, St.said, St.asked, evStep, evOp, evP, St.init, St.app, srcStep, kill, setMany, loadS, fieldS, buildS, toks, Fin, upd_app, Array.isEmpty, reduceLT, reduceAdd, reduceMul, reduceLeDiff, reduceSub, reduceEqDiff, reduceCtorEq, reduceIte, ↓Opt.is, ↓Opt.no, ↓Asks.yes, ↓Asks.no, tyL, encL, asB]))
       refine Ab.ret ?_; simp only [evD, evL, iteL, aX, St.said, St.asked, evStep, evOp, evP, St.init, St.app, srcStep, kill, setMany, loadS, fieldS, buildS, toks, Fin, upd_app, Array.isEmpty, reduceLT, reduceAdd, reduceMul, reduceLeDiff, reduceSub, reduceEqDiff, reduceCtorEq, reduceIte, ↓Opt.is, ↓Opt.no, ↓Asks.yes, ↓Asks.no, tyL, List.nodup_cons, encL, Tryz.f91]
     · refine AC.intro Tryz.func91 rfl (by decide) (by simp [S.res, S.ress]) (by simp [S.os, S.oss]) (by simp [S.wfs, S.wf, dbS]) (by simp [Tryz.f91]) ?_; rw [Tryz.ntmps91]
       repeat (first | refine aq ?_ | refine ap (by rfl : apartB 0 _ _ = true) ?_ | refine ak ?_ | refine ab ?_ | refine al ?_ | ((first | refine ar ?_ | refine ad ty_mix (by kernel_rfl) ?_ | refine ac ?_ | refine ae ?_ | with_reducible refine Later.mk ?_); simp only [evD, evL, iteL, aX, St.said, St.asked, evStep, evOp, evP, St.init, St.app, srcStep, kill, setMany, loadS, fieldS, buildS, toks, Fin, upd_app, Array.isEmpty, reduceLT, reduceAdd, reduceMul, reduceLeDiff, reduceSub, reduceEqDiff, reduceCtorEq, reduceIte, ↓Opt.is, ↓Opt.no, ↓Asks.yes, ↓Asks.no, tyL, encL, asB]))
       refine ⟨_, hc1, ?_⟩; (repeat (first | refine ap (by rfl : apartB 0 _ _ = true) ?_ | refine ap (by simp [osL, D.flat]) ?_)); repeat (first | refine aq ?_ | refine ap (by rfl : apartB 0 _ _ = true) ?_ | refine ak ?_ | refine ab ?_ | refine al ?_ | ((first | refine ar ?_ | refine ad ty_mix (by kernel_rfl) ?_ | refine ac ?_ | refine ae ?_ | with_reducible refine Later.mk ?_); simp only [evD, evL, iteL, aX, St.said, St.asked, evStep, evOp, evP, St.init, St.app, srcStep, kill, setMany, loadS, fieldS, buildS, toks, Fin, upd_app, Array.isEmpty, reduceLT, reduceAdd, reduceMul, reduceLeDiff, reduceSub, reduceEqDiff, reduceCtorEq, reduceIte, ↓Opt.is, ↓Opt.no, ↓Asks.yes, ↓Asks.no, tyL, encL, asB]))
       refine ⟨_, hc2, ?_⟩; (repeat (first | refine ap (by rfl : apartB 0 _ _ = true) ?_ | refine ap (by simp [osL, D.flat]) ?_)); repeat (first | refine aq ?_ | refine ap (by rfl : apartB 0 _ _ = true) ?_ | refine ak ?_ | refine ab ?_ | refine al ?_ | ((first | refine ar ?_ | refine ad ty_mix (by kernel_rfl) ?_ | refine ac ?_ | refine ae ?_ | with_reducible refine Later.mk ?_); simp only [evD, evL, iteL, aX, St.said, St.asked, evStep, evOp, evP, St.init, St.app, srcStep, kill, setMany, loadS, fieldS, buildS, toks, Fin, upd_app, Array.isEmpty, reduceLT, reduceAdd, reduceMul, reduceLeDiff, reduceSub, reduceEqDiff, reduceCtorEq, reduceIte, ↓Opt.is, ↓Opt.no, ↓Asks.yes, ↓Asks.no, tyL, encL, asB]))
       refine Ab.ret ?_; simp only [evD, evL, iteL, aX, St.said, St.asked, evStep, evOp, evP, St.init, St.app, srcStep, kill, setMany, loadS, fieldS, buildS, toks, Fin, upd_app, Array.isEmpty, reduceLT, reduceAdd, reduceMul, reduceLeDiff, reduceSub, reduceEqDiff, reduceCtorEq, reduceIte, ↓Opt.is, ↓Opt.no, ↓Asks.yes, ↓Asks.no, tyL, List.nodup_cons, encL, Tryz.f91]
   · refine AC.intro Tryz.func91 rfl (by decide) (by simp [S.res, S.ress]) (by simp [S.os, S.oss]) (by simp [S.wfs, S.wf, dbS]) (by simp [Tryz.f91]) ?_; rw [Tryz.ntmps91]
     repeat (first | refine aq ?_ | refine ap (by rfl : apartB 0 _ _ = true) ?_ | refine ak ?_ | refine ab ?_ | refine al ?_ | ((first | refine ar ?_ | refine ad ty_mix (by kernel_rfl) ?_ | refine ac ?_ | refine ae ?_ | with_reducible refine Later.mk ?_); simp only [evD, evL, iteL, aX, St.said, St.asked, evStep, evOp, evP, St.init, St.app, srcStep, kill, setMany, loadS, fieldS, buildS, toks, Fin, upd_app, Array.isEmpty, reduceLT, reduceAdd, reduceMul, reduceLeDiff, reduceSub, reduceEqDiff, reduceCtorEq, reduceIte, ↓Opt.is, ↓Opt.no, ↓Asks.yes, ↓Asks.no, tyL, encL, asB]))
     refine ⟨_, hc1, ?_⟩; (repeat (first | refine ap (by rfl : apartB 0 _ _ = true) ?_ | refine ap (by simp [osL, D.flat]) ?_)); repeat (first | refine aq ?_ | refine ap (by rfl : apartB 0 _ _ = true) ?_ | refine ak ?_ | refine ab ?_ | refine al ?_ | ((first | refine ar ?_ | refine ad ty_mix (by kernel_rfl) ?_ | refine ac ?_ | refine ae ?_ | with_reducible refine Later.mk ?_); simp only [evD, evL, iteL, aX, St.said, St.asked, evStep, evOp, evP, St.init, St.app, srcStep, kill, setMany, loadS, fieldS, buildS, toks, Fin, upd_app, Array.isEmpty, reduceLT, reduceAdd, reduceMul, reduceLeDiff, reduceSub, reduceEqDiff, reduceCtorEq, reduceIte, ↓Opt.is, ↓Opt.no, ↓Asks.yes, ↓Asks.no, tyL, encL, asB]))
     refine Ab.ret ?_; simp only [evD, evL, iteL, aX, St.said, St.asked, evStep, evOp, evP, St.init, St.app, srcStep, kill, setMany, loadS, fieldS, buildS, toks, Fin, upd_app, Array.isEmpty, reduceLT, reduceAdd, reduceMul, reduceLeDiff, reduceSub, reduceEqDiff, reduceCtorEq, reduceIte, ↓Opt.is, ↓Opt.no, ↓Asks.yes, ↓Asks.no, tyL, List.nodup_cons, encL, Tryz.f91]
end Ab
end

section
/- A contract's answer under another number. -/
namespace Ab
open Go.RowKit
theorem AW.ren {P : Program} {f : FuncId} {args : List S} {i j n : Nat} {d : Bool} {e : TypeId} {es : List (List D)} (hj : j ≠ 9) (hi : i ≠ 9) (h : AW P f args [] (.g i es) [(i, .tip d e n es)]) : AW P f args [] (.g j es) [(j, .tip d e n es)] := by
 obtain ⟨h1, h2, h3⟩ := h
 refine ⟨h1, ⟨by simp [keysM], by simp [keysM], h2.w1, by simp [wfM], by simp [S.wf, updl, upd], by simp [wfM, wfB]⟩, fun w0 w G cs hI hr => ?_⟩
 refine Calls.mono (h3 w0 w G cs hI hr) ?_
 rintro x w' ⟨c, G', rfl, hc, hM⟩
 let G2 : Gh := { G' with F := upd G'.F j (G'.F i), tv := upd G'.tv j (G'.tv i), tl := upd G'.tl j (G'.tl i), bx := upd G'.bx j (G'.bx i), ov := upd G'.ov j (G'.ov i) }
 have hmi := hM.mem i
 have e1 : fM (keysM ([] : List (Nat × B))) [(i, B.tip d e n es)] i = .tip d e n es := by simp [fM, updl, upd, hi]
 have e9 : ∀ k x, fM (keysM ([] : List (Nat × B))) [(k, x)] 9 = .frm [] := fun k x => by simp [fM, upd, keysM]
 have e2 : fM (keysM ([] : List (Nat × B))) [(j, B.tip d e n es)] j = .tip d e n es := by simp [fM, updl, upd, hj]
 have e3 : ∀ k x id, id ≠ 9 → id ≠ k → fM (keysM ([] : List (Nat × B))) [(k, x)] id = .none := fun k x id a b => by simp [fM, updl, upd, a, b]
 refine ⟨c, G2, rfl, ?_, ⟨hM.below, hM.kold, hM.kin, fun id => ?_, fun a b hab hla hlb => ?_⟩⟩
 · simp only [RdS] at hc ⊢
   simp only [G2, upd_same]
   exact hc
 · by_cases h9 : id = 9
   · subst h9
     have := hM.mem 9
     rw [e9] at this ⊢
     simp only [InvB] at this ⊢
     have hne : (9 : Nat) ≠ j := fun e => hj e.symm
     simp only [G2, upd_ne _ _ _ hne]
     exact ⟨this.1, this.2.1, this.2.2.1, this.2.2.2.1, fun i hi => by simp at hi⟩
   · by_cases hij : id = j
     · subst hij
       rw [e1] at hmi
       rw [e2]
       simp only [InvB] at hmi ⊢
       simp only [G2, upd_same]
       exact hmi
     · rw [e3 _ _ _ h9 hij]
       trivial
 · have hk : ∀ z, (fM (keysM ([] : List (Nat × B))) [(j, B.tip d e n es)] z).live → z = 9 ∨ z = j := fun z hz => by
     by_cases h9 : z = 9
     · exact .inl h9
     · by_cases hij : z = j
       · exact .inr hij
       · rw [e3 _ _ _ h9 hij] at hz; exact hz.elim
   have hne : (9 : Nat) ≠ j := fun e => hj e.symm
   have hl9 : (fM (keysM ([] : List (Nat × B))) [(i, B.tip d e n es)] 9).live := by rw [e9]; trivial
   have hli : (fM (keysM ([] : List (Nat × B))) [(i, B.tip d e n es)] i).live := by rw [e1]; trivial
   have key1 := hM.disj 9 i (fun e => hi e.symm) hl9 hli
   have key2 := hM.disj i 9 hi hli hl9
   intro k hk1 hk2
   rcases hk a hla with rfl | rfl
   · rcases hk b hlb with rfl | rfl
     · exact hab rfl
     · simp only [G2, upd_same, upd_ne _ _ _ hne] at hk1 hk2
       exact key1 k hk1 hk2
   · rcases hk b hlb with rfl | rfl
     · simp only [G2, upd_same, upd_ne _ _ _ hne] at hk1 hk2
       exact key2 k hk1 hk2
     · exact hab rfl
end Ab
end

section
/- MxsOne: MxsI MxsP MxsM MxsN MxsL. -/
/- Chapter 8: all maximal independent sets, in the program. -/
open Go Go.Proofs Go.RowKit
namespace Ab
def walkB (G : List Nat) (n : Nat) : Nat → Nat → List Nat
 | 0, b => if extP G b n = b then [b] else []
 | d + 1, b => (if G.getD (n - (d + 1)) 0 &&& b = 0 then walkB G n d (b ||| 2 ^ (n - (d + 1))) else []) ++ (if G.getD (n - (d + 1)) 0 ≠ 0 then walkB G n d b else [])
theorem walkB_len (G : List Nat) (n : Nat) : ∀ d b, (walkB G n d b).length ≤ 2 ^ d
 | 0, b => by rw [walkB]; split <;> simp
 | d + 1, b => by
   have h1 := walkB_len G n d (b ||| 2 ^ (n - (d + 1)))
   have h2 := walkB_len G n d b
   have h3 : ([] : List Nat).length ≤ 2 ^ d := Nat.zero_le _
   rw [walkB, List.length_append, Nat.pow_succ]
   split <;> split <;> omega
theorem zFun : zeroCells? Tryz.prog 110 = some [.d (.v .nilFunc)] := by kernel_rfl
def encW (l : List Nat) : List (List D) := l.map fun b => encB (elemsN 64 b)
def miL (n : Int) (l : List Edg) : List (List Int) := if validE n l = true then (walkB (grf n.toNat l) n.toNat n.toNat 0).map (elemsN 64) else []
theorem miE_ok {n : Int} {l : List Edg} (h : validE n l = true) : ∃ m : Nat, n = (m : Int) ∧ m ≤ 14 ∧ okN m l := by
 have h4 := h
 unfold validE inB at h4
 simp only [Bool.and_eq_true, decide_eq_true_eq, List.all_eq_true] at h4
 refine ⟨n.toNat, by omega, by omega, fun e he => ?_⟩
 have := h4.2.1 e he
 unfold okE at this
 simp only [Bool.and_eq_true, decide_eq_true_eq] at this
 omega
theorem sFun : sizeIn Tryz.prog 110 = some 1 := by kernel_rfl
theorem kFun : kindOf Tryz.prog 110 = some none := by kernel_rfl
def decF (n : Nat) (G : List Nat) : S := .f (.func 78) [] [.e [.v (.int .i64 (n : Int))] 0, .e [.sl (G.map encU)] 0, .p 176 0, .p 192 0]
def decM (n : Nat) (G : List Nat) (es : List (List D)) : List (Nat × B) := [(176, .box [.g 5 es]), (5, .tip true 55 1 es), (192, .box [decF n G])]
theorem decide_w {n : Nat} {G : List Nat} (hn : n ≤ 14) (hl : G.length = n) (hG : ∀ i, G.getD i 0 < 18446744073709551616) : ∀ (d x b : Nat) (es : List (List D)), x + d = n → b < 18446744073709551616 → es.length + 2 ^ d ≤ 32768 →
   AW Tryz.prog 78 [.d (.v (.int .i64 (x : Int))), .d (.v (.int .u64 (b : Int))), .e [.v (.int .i64 (n : Int))] 0, .e [.sl (G.map encU)] 0, .p 176 0, .p 192 0] (decM n G es) (.t []) (decM n G (es ++ encW (walkB G n d b)))
 | 0, x, b, es, hx, hb, hz => by
   have hx : x = n := by omega
   subst hx
   have he := extend_a (G := G) (b := b) (by omega) hG hb
   rw [hl] at he
   have hc := elements_a b hb
   have hbe : ((x : Int) == (x : Int)) = true := beq_self_eq_true _
   have hq := eqNn (extP G b x) b
   unfold decM decF walkB
   by_cases h : extP G b x = b
   · rw [if_pos h]
     rw [h] at hq he
     rw [decide_eq_true rfl] at hq
     refine AW.intro 256 Tryz.func78 rfl (by decide) ⟨by simp [keysM], by simp [keysM], by simp [S.wfs, S.wf, updl, upd], by simp [wfM, wfB, wfI, S.wfs, S.wf, updl, upd], by simp [S.wf, S.wfs, updl, upd], by simp [wfM, wfB, wfI, S.wfs, S.wf, updl, upd]⟩ (by simp [keysM]) (by simp [Tryz.f78]) ?_; rw [Tryz.ntmps78]; simp only [St.initW, fM, keysM, updl, List.map_cons, List.map_nil]
     repeat (first | refine aq ?_ | refine ap (by rfl : apartB 0 _ _ = true) ?_ | refine ak ?_ | refine ab ?_ | refine al ?_ | ((first | refine ar ?_ | refine ad ty_mix (by kernel_rfl) ?_ | refine ac ?_ | refine ae ?_ | with_reducible refine Later.mk ?_); simp only [evD, evL, iteL, aX, St.said, St.asked, evStep, evOp, evP, St.init, St.app, srcStep, kill, setMany, loadS, fieldS, buildS, toks, Fin, upd_app, Array.isEmpty, reduceLT, reduceAdd, reduceMul, reduceLeDiff, reduceSub, reduceEqDiff, reduceCtorEq, reduceIte, ↓Opt.is, ↓Opt.no, ↓Asks.yes, ↓Asks.no, tyL, encL, hbe, asB]))
     refine Kw.ac ?_; simp only [evD, evL, iteL, aX, St.said, St.asked, evStep, evOp, evP, St.init, St.app, srcStep, kill, setMany, loadS, fieldS, buildS, toks, Fin, upd_app, Array.isEmpty, reduceLT, reduceAdd, reduceMul, reduceLeDiff, reduceSub, reduceEqDiff, reduceCtorEq, reduceIte, ↓Opt.is, ↓Opt.no, ↓Asks.yes, ↓Asks.no, tyL, encL]
     refine ⟨_, he, ?_⟩; (repeat (first | refine ap (by rfl : apartB 0 _ _ = true) ?_ | refine ap (by simp [osL, D.flat]) ?_)); repeat (first | refine aq ?_ | refine ap (by rfl : apartB 0 _ _ = true) ?_ | refine ak ?_ | refine ab ?_ | refine al ?_ | ((first | refine ar ?_ | refine ad ty_mix (by kernel_rfl) ?_ | refine ac ?_ | refine ae ?_ | with_reducible refine Later.mk ?_); simp only [evD, evL, iteL, aX, St.said, St.asked, evStep, evOp, evP, St.init, St.app, srcStep, kill, setMany, loadS, fieldS, buildS, toks, Fin, upd_app, Array.isEmpty, reduceLT, reduceAdd, reduceMul, reduceLeDiff, reduceSub, reduceEqDiff, reduceCtorEq, reduceIte, ↓Opt.is, ↓Opt.no, ↓Asks.yes, ↓Asks.no, tyL, encL, hq, asB]))
     refine Kw.ac ?_; simp only [evD, evL, iteL, aX, St.said, St.asked, evStep, evOp, evP, St.init, St.app, srcStep, kill, setMany, loadS, fieldS, buildS, toks, Fin, upd_app, Array.isEmpty, reduceLT, reduceAdd, reduceMul, reduceLeDiff, reduceSub, reduceEqDiff, reduceCtorEq, reduceIte, ↓Opt.is, ↓Opt.no, ↓Asks.yes, ↓Asks.no, tyL, encL]
     refine ⟨_, hc, ?_⟩; (repeat (first | refine ap (by rfl : apartB 0 _ _ = true) ?_ | refine ap (by simp [osL, D.flat]) ?_)); repeat (first | refine aq ?_ | refine ap (by rfl : apartB 0 _ _ = true) ?_ | refine ak ?_ | refine ab ?_ | refine al ?_ | ((first | refine ar ?_ | refine ad ty_mix (by kernel_rfl) ?_ | refine ac ?_ | refine ae ?_ | with_reducible refine Later.mk ?_); simp only [evD, evL, iteL, aX, St.said, St.asked, evStep, evOp, evP, St.init, St.app, srcStep, kill, setMany, loadS, fieldS, buildS, toks, Fin, upd_app, Array.isEmpty, reduceLT, reduceAdd, reduceMul, reduceLeDiff, reduceSub, reduceEqDiff, reduceCtorEq, reduceIte, ↓Opt.is, ↓Opt.no, ↓Asks.yes, ↓Asks.no, tyL, encL, asB]))
     refine ⟨⟨_, rfl, rfl⟩, by simp, by simp only [maxLen]; omega, by omega, by rfl, ?_⟩
     repeat (first | refine aq ?_ | refine ap (by rfl : apartB 0 _ _ = true) ?_ | refine ak ?_ | refine ab ?_ | refine al ?_ | ((first | refine ar ?_ | refine ad ty_mix (by kernel_rfl) ?_ | refine ac ?_ | refine ae ?_ | with_reducible refine Later.mk ?_); simp only [evD, evL, iteL, aX, St.said, St.asked, evStep, evOp, evP, St.init, St.app, srcStep, kill, setMany, loadS, fieldS, buildS, toks, Fin, upd_app, Array.isEmpty, reduceLT, reduceAdd, reduceMul, reduceLeDiff, reduceSub, reduceEqDiff, reduceCtorEq, reduceIte, ↓Opt.is, ↓Opt.no, ↓Asks.yes, ↓Asks.no, tyL, encL, asB]))
     refine Ab.ret ?_; simp only [evD, evL, iteL, aX, St.said, St.asked, evStep, evOp, evP, St.init, St.app, srcStep, kill, setMany, loadS, fieldS, buildS, toks, Fin, upd_app, Array.isEmpty, reduceLT, reduceAdd, reduceMul, reduceLeDiff, reduceSub, reduceEqDiff, reduceCtorEq, reduceIte, ↓Opt.is, ↓Opt.no, ↓Asks.yes, ↓Asks.no, tyL, encL, leL, leD, ne_eq, frL, preM, postM, keysM, B.okM, List.mem_cons, List.not_mem_nil, or_false, false_or, true_or, or_true, EndsW, FinW, LeR, oneOf, fM, updl, allM, List.nodup_cons, Tryz.f78, encW, List.map_cons, List.map_nil]
   · rw [if_neg h]
     rw [decide_eq_false h] at hq
     refine AW.intro 256 Tryz.func78 rfl (by decide) ⟨by simp [keysM], by simp [keysM], by simp [S.wfs, S.wf, updl, upd], by simp [wfM, wfB, wfI, S.wfs, S.wf, updl, upd], by simp [S.wf, S.wfs, updl, upd], by simp [wfM, wfB, wfI, S.wfs, S.wf, updl, upd]⟩ (by simp [keysM]) (by simp [Tryz.f78]) ?_; rw [Tryz.ntmps78]; simp only [St.initW, fM, keysM, updl, List.map_cons, List.map_nil]
     repeat (first | refine aq ?_ | refine ap (by rfl : apartB 0 _ _ = true) ?_ | refine ak ?_ | refine ab ?_ | refine al ?_ | ((first | refine ar ?_ | refine ad ty_mix (by kernel_rfl) ?_ | refine ac ?_ | refine ae ?_ | with_reducible refine Later.mk ?_); simp only [evD, evL, iteL, aX, St.said, St.asked, evStep, evOp, evP, St.init, St.app, srcStep, kill, setMany, loadS, fieldS, buildS, toks, Fin, upd_app, Array.isEmpty, reduceLT, reduceAdd, reduceMul, reduceLeDiff, reduceSub, reduceEqDiff, reduceCtorEq, reduceIte, ↓Opt.is, ↓Opt.no, ↓Asks.yes, ↓Asks.no, tyL, encL, hbe, asB]))
     refine Kw.ac ?_; simp only [evD, evL, iteL, aX, St.said, St.asked, evStep, evOp, evP, St.init, St.app, srcStep, kill, setMany, loadS, fieldS, buildS, toks, Fin, upd_app, Array.isEmpty, reduceLT, reduceAdd, reduceMul, reduceLeDiff, reduceSub, reduceEqDiff, reduceCtorEq, reduceIte, ↓Opt.is, ↓Opt.no, ↓Asks.yes, ↓Asks.no, tyL, encL]
     refine ⟨_, he, ?_⟩; (repeat (first | refine ap (by rfl : apartB 0 _ _ = true) ?_ | refine ap (by simp [osL, D.flat]) ?_)); repeat (first | refine aq ?_ | refine ap (by rfl : apartB 0 _ _ = true) ?_ | refine ak ?_ | refine ab ?_ | refine al ?_ | ((first | refine ar ?_ | refine ad ty_mix (by kernel_rfl) ?_ | refine ac ?_ | refine ae ?_ | with_reducible refine Later.mk ?_); simp only [evD, evL, iteL, aX, St.said, St.asked, evStep, evOp, evP, St.init, St.app, srcStep, kill, setMany, loadS, fieldS, buildS, toks, Fin, upd_app, Array.isEmpty, reduceLT, reduceAdd, reduceMul, reduceLeDiff, reduceSub, reduceEqDiff, reduceCtorEq, reduceIte, ↓Opt.is, ↓Opt.no, ↓Asks.yes, ↓Asks.no, tyL, encL, hq, asB]))
     refine Ab.ret ?_; simp only [evD, evL, iteL, aX, St.said, St.asked, evStep, evOp, evP, St.init, St.app, srcStep, kill, setMany, loadS, fieldS, buildS, toks, Fin, upd_app, Array.isEmpty, reduceLT, reduceAdd, reduceMul, reduceLeDiff, reduceSub, reduceEqDiff, reduceCtorEq, reduceIte, ↓Opt.is, ↓Opt.no, ↓Asks.yes, ↓Asks.no, tyL, encL, leL, leD, ne_eq, frL, preM, postM, keysM, B.okM, List.mem_cons, List.not_mem_nil, or_false, false_or, true_or, or_true, EndsW, FinW, LeR, oneOf, fM, updl, allM, List.nodup_cons, Tryz.f78, encW, List.map_nil, List.append_nil]
 | d + 1, x, b, es, hx, hb, hz => by
   have hxe : n - (d + 1) = x := by omega
   have hxn : x < G.length := by omega
   have hp2 : 2 ^ (d + 1) = 2 ^ d * 2 := Nat.pow_succ 2 d
   have hwn : IntKind.i64.wrap ((x : Int) + 1) = ((x + 1 : Nat) : Int) := by rw [IntKind.wrap_i64]; omega
   have hf := isFree_a (G := G) (i := x) (b := b) hxn (hG x) hb
   have hwi := bits_with_a b x hb (by omega)
   have hbe : ((x : Int) == (n : Int)) = false := beq_eq_false_iff_ne.2 (by omega)
   have hgx := getG hxn
   have hne := ne0N (G.getD x 0)
   have z1 : (x < G.length) = True := eq_true hxn
   have z3 : ∀ x : Nat, (0 ≤ (x : Int)) = True := fun x => eq_true (by omega)
   have hl1 := walkB_len G n d (b ||| 2 ^ x)
   have hw1 := decide_w hn hl hG d (x + 1) (b ||| 2 ^ x) es (by omega) (or_lt _ _ hb (pow_lt x (by omega))) (by omega)
   rw [walkB, hxe]
   by_cases c1 : G.getD x 0 &&& b = 0
   · rw [if_pos c1]
     rw [decide_eq_true c1] at hf
     have hel : (encW (walkB G n d (b ||| 2 ^ x))).length ≤ 2 ^ d := by unfold encW; rw [List.length_map]; exact hl1
     have hw2 := decide_w hn hl hG d (x + 1) b (es ++ encW (walkB G n d (b ||| 2 ^ x))) (by omega) hb (by rw [List.length_append]; omega)
     unfold decM decF at *
     by_cases c2 : G.getD x 0 ≠ 0
     · rw [decide_eq_true c2] at hne
       rw [if_pos c2]
       refine AW.intro 256 Tryz.func78 rfl (by decide) ⟨by simp [keysM], by simp [keysM], by simp [S.wfs, S.wf, updl, upd], by simp [wfM, wfB, wfI, S.wfs, S.wf, updl, upd], by simp [S.wf, S.wfs, updl, upd], by simp [wfM, wfB, wfI, S.wfs, S.wf, updl, upd]⟩ (by simp [keysM]) (by simp [Tryz.f78]) ?_; rw [Tryz.ntmps78]; simp only [St.initW, fM, keysM, updl, List.map_cons, List.map_nil]
       repeat (first | refine aq ?_ | refine ap (by rfl : apartB 0 _ _ = true) ?_ | refine ak ?_ | refine ab ?_ | refine al ?_ | ((first | refine ar ?_ | refine ad ty_mix (by kernel_rfl) ?_ | refine ac ?_ | refine ae ?_ | with_reducible refine Later.mk ?_); simp only [evD, evL, iteL, aX, St.said, St.asked, evStep, evOp, evP, St.init, St.app, srcStep, kill, setMany, loadS, fieldS, buildS, toks, Fin, upd_app, Array.isEmpty, reduceLT, reduceAdd, reduceMul, reduceLeDiff, reduceSub, reduceEqDiff, reduceCtorEq, reduceIte, ↓Opt.is, ↓Opt.no, ↓Asks.yes, ↓Asks.no, tyL, encL, hbe, asB]))
       refine Kw.ac ?_; simp only [evD, evL, iteL, aX, St.said, St.asked, evStep, evOp, evP, St.init, St.app, srcStep, kill, setMany, loadS, fieldS, buildS, toks, Fin, upd_app, Array.isEmpty, reduceLT, reduceAdd, reduceMul, reduceLeDiff, reduceSub, reduceEqDiff, reduceCtorEq, reduceIte, ↓Opt.is, ↓Opt.no, ↓Asks.yes, ↓Asks.no, tyL, encL]
       refine ⟨_, hf, ?_⟩; (repeat (first | refine ap (by rfl : apartB 0 _ _ = true) ?_ | refine ap (by simp [osL, D.flat]) ?_)); repeat (first | refine aq ?_ | refine ap (by rfl : apartB 0 _ _ = true) ?_ | refine ak ?_ | refine ab ?_ | refine al ?_ | ((first | refine ar ?_ | refine ad ty_mix (by kernel_rfl) ?_ | refine ac ?_ | refine ae ?_ | with_reducible refine Later.mk ?_); simp only [evD, evL, iteL, aX, St.said, St.asked, evStep, evOp, evP, St.init, St.app, srcStep, kill, setMany, loadS, fieldS, buildS, toks, Fin, upd_app, Array.isEmpty, reduceLT, reduceAdd, reduceMul, reduceLeDiff, reduceSub, reduceEqDiff, reduceCtorEq, reduceIte, ↓Opt.is, ↓Opt.no, ↓Asks.yes, ↓Asks.no, tyL, encL, kFun, asB]))
       refine Kw.ac ?_; simp only [evD, evL, iteL, aX, St.said, St.asked, evStep, evOp, evP, St.init, St.app, srcStep, kill, setMany, loadS, fieldS, buildS, toks, Fin, upd_app, Array.isEmpty, reduceLT, reduceAdd, reduceMul, reduceLeDiff, reduceSub, reduceEqDiff, reduceCtorEq, reduceIte, ↓Opt.is, ↓Opt.no, ↓Asks.yes, ↓Asks.no, tyL, encL]
       refine ⟨_, hwi, ?_⟩; (repeat (first | refine ap (by rfl : apartB 0 _ _ = true) ?_ | refine ap (by simp [osL, D.flat]) ?_)); repeat (first | refine aq ?_ | refine ap (by rfl : apartB 0 _ _ = true) ?_ | refine ak ?_ | refine ab ?_ | refine al ?_ | ((first | refine ar ?_ | refine ad ty_mix (by kernel_rfl) ?_ | refine ac ?_ | refine ae ?_ | with_reducible refine Later.mk ?_); simp only [evD, evL, iteL, aX, St.said, St.asked, evStep, evOp, evP, St.init, St.app, srcStep, kill, setMany, loadS, fieldS, buildS, toks, Fin, upd_app, Array.isEmpty, reduceLT, reduceAdd, reduceMul, reduceLeDiff, reduceSub, reduceEqDiff, reduceCtorEq, reduceIte, ↓Opt.is, ↓Opt.no, ↓Asks.yes, ↓Asks.no, tyL, encL, hwn, kFun, asB]))
       refine Kw.aw ⟨_, _, _, _, hw1, ?_⟩; simp only [evD, evL, iteL, aX, St.said, St.asked, evStep, evOp, evP, St.init, St.app, srcStep, kill, setMany, loadS, fieldS, buildS, toks, Fin, upd_app, Array.isEmpty, reduceLT, reduceAdd, reduceMul, reduceLeDiff, reduceSub, reduceEqDiff, reduceCtorEq, reduceIte, ↓Opt.is, ↓Opt.no, ↓Asks.yes, ↓Asks.no, tyL, encL, leL, leD, ne_eq, frL, preM, postM, keysM, B.okM, List.mem_cons, List.not_mem_nil, or_false, false_or, true_or, or_true, hgx, z1, z3, Int.toNat_natCast, if_true, List.length_map, hne, hwn, kFun]; repeat (first | refine aq ?_ | refine ap (by rfl : apartB 0 _ _ = true) ?_ | refine ak ?_ | refine ab ?_ | refine al ?_ | ((first | refine ar ?_ | refine ad ty_mix (by kernel_rfl) ?_ | refine ac ?_ | refine ae ?_ | with_reducible refine Later.mk ?_); simp only [evD, evL, iteL, aX, St.said, St.asked, evStep, evOp, evP, St.init, St.app, srcStep, kill, setMany, loadS, fieldS, buildS, toks, Fin, upd_app, Array.isEmpty, reduceLT, reduceAdd, reduceMul, reduceLeDiff, reduceSub, reduceEqDiff, reduceCtorEq, reduceIte, ↓Opt.is, ↓Opt.no, ↓Asks.yes, ↓Asks.no, tyL, encL, hgx, z1, z3, Int.toNat_natCast, if_true, List.length_map, hne, hwn, kFun, asB]))
       refine Kw.aw ⟨_, _, _, _, hw2, ?_⟩; simp only [evD, evL, iteL, aX, St.said, St.asked, evStep, evOp, evP, St.init, St.app, srcStep, kill, setMany, loadS, fieldS, buildS, toks, Fin, upd_app, Array.isEmpty, reduceLT, reduceAdd, reduceMul, reduceLeDiff, reduceSub, reduceEqDiff, reduceCtorEq, reduceIte, ↓Opt.is, ↓Opt.no, ↓Asks.yes, ↓Asks.no, tyL, encL, leL, leD, ne_eq, frL, preM, postM, keysM, B.okM, List.mem_cons, List.not_mem_nil, or_false, false_or, true_or, or_true]; repeat (first | refine aq ?_ | refine ap (by rfl : apartB 0 _ _ = true) ?_ | refine ak ?_ | refine ab ?_ | refine al ?_ | ((first | refine ar ?_ | refine ad ty_mix (by kernel_rfl) ?_ | refine ac ?_ | refine ae ?_ | with_reducible refine Later.mk ?_); simp only [evD, evL, iteL, aX, St.said, St.asked, evStep, evOp, evP, St.init, St.app, srcStep, kill, setMany, loadS, fieldS, buildS, toks, Fin, upd_app, Array.isEmpty, reduceLT, reduceAdd, reduceMul, reduceLeDiff, reduceSub, reduceEqDiff, reduceCtorEq, reduceIte, ↓Opt.is, ↓Opt.no, ↓Asks.yes, ↓Asks.no, tyL, encL, asB]))
       simp only [evD, evL, iteL, aX, St.said, St.asked, evStep, evOp, evP, St.init, St.app, srcStep, kill, setMany, loadS, fieldS, buildS, toks, Fin, upd_app, Array.isEmpty, reduceLT, reduceAdd, reduceMul, reduceLeDiff, reduceSub, reduceEqDiff, reduceCtorEq, reduceIte, ↓Opt.is, ↓Opt.no, ↓Asks.yes, ↓Asks.no, tyL, encL, leL, leD, ne_eq, frL, preM, postM, keysM, B.okM, List.mem_cons, List.not_mem_nil, or_false, false_or, true_or, or_true, EndsW, FinW, LeR, oneOf, fM, updl, allM, List.nodup_cons, Tryz.f78, encW, List.map_append, List.append_assoc]
     · rw [decide_eq_false c2] at hne
       rw [if_neg c2, List.append_nil]
       refine AW.intro 256 Tryz.func78 rfl (by decide) ⟨by simp [keysM], by simp [keysM], by simp [S.wfs, S.wf, updl, upd], by simp [wfM, wfB, wfI, S.wfs, S.wf, updl, upd], by simp [S.wf, S.wfs, updl, upd], by simp [wfM, wfB, wfI, S.wfs, S.wf, updl, upd]⟩ (by simp [keysM]) (by simp [Tryz.f78]) ?_; rw [Tryz.ntmps78]; simp only [St.initW, fM, keysM, updl, List.map_cons, List.map_nil]
       repeat (first | refine aq ?_ | refine ap (by rfl : apartB 0 _ _ = true) ?_ | refine ak ?_ | refine ab ?_ | refine al ?_ | ((first | refine ar ?_ | refine ad ty_mix (by kernel_rfl) ?_ | refine ac ?_ | refine ae ?_ | with_reducible refine Later.mk ?_); simp only [evD, evL, iteL, aX, St.said, St.asked, evStep, evOp, evP, St.init, St.app, srcStep, kill, setMany, loadS, fieldS, buildS, toks, Fin, upd_app, Array.isEmpty, reduceLT, reduceAdd, reduceMul, reduceLeDiff, reduceSub, reduceEqDiff, reduceCtorEq, reduceIte, ↓Opt.is, ↓Opt.no, ↓Asks.yes, ↓Asks.no, tyL, encL, hbe, asB]))
       refine Kw.ac ?_; simp only [evD, evL, iteL, aX, St.said, St.asked, evStep, evOp, evP, St.init, St.app, srcStep, kill, setMany, loadS, fieldS, buildS, toks, Fin, upd_app, Array.isEmpty, reduceLT, reduceAdd, reduceMul, reduceLeDiff, reduceSub, reduceEqDiff, reduceCtorEq, reduceIte, ↓Opt.is, ↓Opt.no, ↓Asks.yes, ↓Asks.no, tyL, encL]
       refine ⟨_, hf, ?_⟩; (repeat (first | refine ap (by rfl : apartB 0 _ _ = true) ?_ | refine ap (by simp [osL, D.flat]) ?_)); repeat (first | refine aq ?_ | refine ap (by rfl : apartB 0 _ _ = true) ?_ | refine ak ?_ | refine ab ?_ | refine al ?_ | ((first | refine ar ?_ | refine ad ty_mix (by kernel_rfl) ?_ | refine ac ?_ | refine ae ?_ | with_reducible refine Later.mk ?_); simp only [evD, evL, iteL, aX, St.said, St.asked, evStep, evOp, evP, St.init, St.app, srcStep, kill, setMany, loadS, fieldS, buildS, toks, Fin, upd_app, Array.isEmpty, reduceLT, reduceAdd, reduceMul, reduceLeDiff, reduceSub, reduceEqDiff, reduceCtorEq, reduceIte, ↓Opt.is, ↓Opt.no, ↓Asks.yes, ↓Asks.no, tyL, encL, kFun, asB]))
       refine Kw.ac ?_; simp only [evD, evL, iteL, aX, St.said, St.asked, evStep, evOp, evP, St.init, St.app, srcStep, kill, setMany, loadS, fieldS, buildS, toks, Fin, upd_app, Array.isEmpty, reduceLT, reduceAdd, reduceMul, reduceLeDiff, reduceSub, reduceEqDiff, reduceCtorEq, reduceIte, ↓Opt.is, ↓Opt.no, ↓Asks.yes, ↓Asks.no, tyL, encL]
       refine ⟨_, hwi, ?_⟩; (repeat (first | refine ap (by rfl : apartB 0 _ _ = true) ?_ | refine ap (by simp [osL, D.flat]) ?_)); repeat (first | refine aq ?_ | refine ap (by rfl : apartB 0 _ _ = true) ?_ | refine ak ?_ | refine ab ?_ | refine al ?_ | ((first | refine ar ?_ | refine ad ty_mix (by kernel_rfl) ?_ | refine ac ?_ | refine ae ?_ | with_reducible refine Later.mk ?_); simp only [evD, evL, iteL, aX, St.said, St.asked, evStep, evOp, evP, St.init, St.app, srcStep, kill, setMany, loadS, fieldS, buildS, toks, Fin, upd_app, Array.isEmpty, reduceLT, reduceAdd, reduceMul, reduceLeDiff, reduceSub, reduceEqDiff, reduceCtorEq, reduceIte, ↓Opt.is, ↓Opt.no, ↓Asks.yes, ↓Asks.no, tyL, encL, hwn, kFun, asB]))
       refine Kw.aw ⟨_, _, _, _, hw1, ?_⟩; simp only [evD, evL, iteL, aX, St.said, St.asked, evStep, evOp, evP, St.init, St.app, srcStep, kill, setMany, loadS, fieldS, buildS, toks, Fin, upd_app, Array.isEmpty, reduceLT, reduceAdd, reduceMul, reduceLeDiff, reduceSub, reduceEqDiff, reduceCtorEq, reduceIte, ↓Opt.is, ↓Opt.no, ↓Asks.yes, ↓Asks.no, tyL, encL, leL, leD, ne_eq, frL, preM, postM, keysM, B.okM, List.mem_cons, List.not_mem_nil, or_false, false_or, true_or, or_true, hgx, z1, z3, Int.toNat_natCast, if_true, List.length_map, hne, hwn, kFun]; repeat (first | refine aq ?_ | refine ap (by rfl : apartB 0 _ _ = true) ?_ | refine ak ?_ | refine ab ?_ | refine al ?_ | ((first | refine ar ?_ | refine ad ty_mix (by kernel_rfl) ?_ | refine ac ?_ | refine ae ?_ | with_reducible refine Later.mk ?_); simp only [evD, evL, iteL, aX, St.said, St.asked, evStep, evOp, evP, St.init, St.app, srcStep, kill, setMany, loadS, fieldS, buildS, toks, Fin, upd_app, Array.isEmpty, reduceLT, reduceAdd, reduceMul, reduceLeDiff, reduceSub, reduceEqDiff, reduceCtorEq, reduceIte, ↓Opt.is, ↓Opt.no, ↓Asks.yes, ↓Asks.no, tyL, encL, hgx, z1, z3, Int.toNat_natCast, if_true, List.length_map, hne, hwn, kFun, asB]))
       simp only [evD, evL, iteL, aX, St.said, St.asked, evStep, evOp, evP, St.init, St.app, srcStep, kill, setMany, loadS, fieldS, buildS, toks, Fin, upd_app, Array.isEmpty, reduceLT, reduceAdd, reduceMul, reduceLeDiff, reduceSub, reduceEqDiff, reduceCtorEq, reduceIte, ↓Opt.is, ↓Opt.no, ↓Asks.yes, ↓Asks.no, tyL, encL, leL, leD, ne_eq, frL, preM, postM, keysM, B.okM, List.mem_cons, List.not_mem_nil, or_false, false_or, true_or, or_true, EndsW, FinW, LeR, oneOf, fM, updl, allM, List.nodup_cons, Tryz.f78]
   · rw [if_neg c1, List.nil_append]
     have c2 : G.getD x 0 ≠ 0 := fun e => c1 (by rw [e, Nat.zero_and])
     rw [decide_eq_true c2] at hne
     rw [decide_eq_false c1] at hf
     have hw2 := decide_w hn hl hG d (x + 1) b es (by omega) hb (by omega)
     unfold decM decF at *
     rw [if_pos c2]
     refine AW.intro 256 Tryz.func78 rfl (by decide) ⟨by simp [keysM], by simp [keysM], by simp [S.wfs, S.wf, updl, upd], by simp [wfM, wfB, wfI, S.wfs, S.wf, updl, upd], by simp [S.wf, S.wfs, updl, upd], by simp [wfM, wfB, wfI, S.wfs, S.wf, updl, upd]⟩ (by simp [keysM]) (by simp [Tryz.f78]) ?_; rw [Tryz.ntmps78]; simp only [St.initW, fM, keysM, updl, List.map_cons, List.map_nil]
     repeat (first | refine aq ?_ | refine ap (by rfl : apartB 0 _ _ = true) ?_ | refine ak ?_ | refine ab ?_ | refine al ?_ | ((first | refine ar ?_ | refine ad ty_mix (by kernel_rfl) ?_ | refine ac ?_ | refine ae ?_ | with_reducible refine Later.mk ?_); simp only [evD, evL, iteL, aX, St.said, St.asked, evStep, evOp, evP, St.init, St.app, srcStep, kill, setMany, loadS, fieldS, buildS, toks, Fin, upd_app, Array.isEmpty, reduceLT, reduceAdd, reduceMul, reduceLeDiff, reduceSub, reduceEqDiff, reduceCtorEq, reduceIte, ↓Opt.is, ↓Opt.no, ↓Asks.yes, ↓Asks.no, tyL, encL, hbe, asB]))
     refine Kw.ac ?_; simp only [evD, evL, iteL, aX, St.said, St.asked, evStep, evOp, evP, St.init, St.app, srcStep, kill, setMany, loadS, fieldS, buildS, toks, Fin, upd_app, Array.isEmpty, reduceLT, reduceAdd, reduceMul, reduceLeDiff, reduceSub, reduceEqDiff, reduceCtorEq, reduceIte, ↓Opt.is, ↓Opt.no, ↓Asks.yes, ↓Asks.no, tyL, encL]
     refine ⟨_, hf, ?_⟩; (repeat (first | refine ap (by rfl : apartB 0 _ _ = true) ?_ | refine ap (by simp [osL, D.flat]) ?_)); repeat (first | refine aq ?_ | refine ap (by rfl : apartB 0 _ _ = true) ?_ | refine ak ?_ | refine ab ?_ | refine al ?_ | ((first | refine ar ?_ | refine ad ty_mix (by kernel_rfl) ?_ | refine ac ?_ | refine ae ?_ | with_reducible refine Later.mk ?_); simp only [evD, evL, iteL, aX, St.said, St.asked, evStep, evOp, evP, St.init, St.app, srcStep, kill, setMany, loadS, fieldS, buildS, toks, Fin, upd_app, Array.isEmpty, reduceLT, reduceAdd, reduceMul, reduceLeDiff, reduceSub, reduceEqDiff, reduceCtorEq, reduceIte, ↓Opt.is, ↓Opt.no, ↓Asks.yes, ↓Asks.no, tyL, encL, hgx, z1, z3, Int.toNat_natCast, if_true, List.length_map, hne, hwn, kFun, asB]))
     refine Kw.aw ⟨_, _, _, _, hw2, ?_⟩; simp only [evD, evL, iteL, aX, St.said, St.asked, evStep, evOp, evP, St.init, St.app, srcStep, kill, setMany, loadS, fieldS, buildS, toks, Fin, upd_app, Array.isEmpty, reduceLT, reduceAdd, reduceMul, reduceLeDiff, reduceSub, reduceEqDiff, reduceCtorEq, reduceIte, ↓Opt.is, ↓Opt.no, ↓Asks.yes, ↓Asks.no, tyL, encL, leL, leD, ne_eq, frL, preM, postM, keysM, B.okM, List.mem_cons, List.not_mem_nil, or_false, false_or, true_or, or_true]; repeat (first | refine aq ?_ | refine ap (by rfl : apartB 0 _ _ = true) ?_ | refine ak ?_ | refine ab ?_ | refine al ?_ | ((first | refine ar ?_ | refine ad ty_mix (by kernel_rfl) ?_ | refine ac ?_ | refine ae ?_ | with_reducible refine Later.mk ?_); simp only [evD, evL, iteL, aX, St.said, St.asked, evStep, evOp, evP, St.init, St.app, srcStep, kill, setMany, loadS, fieldS, buildS, toks, Fin, upd_app, Array.isEmpty, reduceLT, reduceAdd, reduceMul, reduceLeDiff, reduceSub, reduceEqDiff, reduceCtorEq, reduceIte, ↓Opt.is, ↓Opt.no, ↓Asks.yes, ↓Asks.no, tyL, encL, asB]))
     simp only [evD, evL, iteL, aX, St.said, St.asked, evStep, evOp, evP, St.init, St.app, srcStep, kill, setMany, loadS, fieldS, buildS, toks, Fin, upd_app, Array.isEmpty, reduceLT, reduceAdd, reduceMul, reduceLeDiff, reduceSub, reduceEqDiff, reduceCtorEq, reduceIte, ↓Opt.is, ↓Opt.no, ↓Asks.yes, ↓Asks.no, tyL, encL, leL, leD, ne_eq, frL, preM, postM, keysM, B.okM, List.mem_cons, List.not_mem_nil, or_false, false_or, true_or, or_true, EndsW, FinW, LeR, oneOf, fM, updl, allM, List.nodup_cons, Tryz.f78]
theorem implMaximalIndependentSets_a {n : Int} {l : List Edg} (gE : (eSlice eEdg).good l) (hl : l.length ≤ 1048576) : AC Tryz.prog 54 [.d (.v (.int .i64 n)), .d (encEs l)] (.o 0 (encIss (miL n l))) := by
 have hc1 := implAreValidEdges_a (n := n) gE
 unfold miL
 rcases Bool.eq_false_or_eq_true (validE n l) with hd | hd
 · obtain ⟨m, rfl, hm, hok⟩ := miE_ok hd
   rw [hd] at hc1 ⊢
   have hc2 := newGraph_a (n := m) (l := l) (by omega) hl hok
   rw [if_pos rfl, Int.toNat_natCast]
   refine AC.intro Tryz.func54 rfl (by decide) (by simp [S.res, S.ress]) (by simp [S.os, S.oss]) (by simp [S.wfs, S.wf, dbS]) (by simp [Tryz.f54]) ?_; rw [Tryz.ntmps54]
   repeat (first | refine aq ?_ | refine ap (by rfl : apartB 0 _ _ = true) ?_ | refine ak ?_ | refine ab ?_ | refine al ?_ | ((first | refine ar ?_ | refine ad ty_mix (by kernel_rfl) ?_ | refine ac ?_ | refine ae ?_ | with_reducible refine Later.mk ?_); simp only [evD, evL, iteL, aX, St.said, St.asked, evStep, evOp, evP, St.init, St.app, srcStep, kill, setMany, loadS, fieldS, buildS, toks, Fin, upd_app, Array.isEmpty, reduceLT, reduceAdd, reduceMul, reduceLeDiff, reduceSub, reduceEqDiff, reduceCtorEq, reduceIte, ↓Opt.is, ↓Opt.no, ↓Asks.yes, ↓Asks.no, tyL, encL, asB]))
   refine ⟨_, hc1, ?_⟩; (repeat (first | refine ap (by rfl : apartB 0 _ _ = true) ?_ | refine ap (by simp [osL, D.flat]) ?_)); repeat (first | refine aq ?_ | refine ap (by rfl : apartB 0 _ _ = true) ?_ | refine ak ?_ | refine ab ?_ | refine al ?_ | ((first | refine ar ?_ | refine ad ty_mix (by kernel_rfl) ?_ | refine ac ?_ | refine ae ?_ | with_reducible refine Later.mk ?_); simp only [evD, evL, iteL, aX, St.said, St.asked, evStep, evOp, evP, St.init, St.app, srcStep, kill, setMany, loadS, fieldS, buildS, toks, Fin, upd_app, Array.isEmpty, reduceLT, reduceAdd, reduceMul, reduceLeDiff, reduceSub, reduceEqDiff, reduceCtorEq, reduceIte, ↓Opt.is, ↓Opt.no, ↓Asks.yes, ↓Asks.no, tyL, encL, asB]))
   refine ⟨_, hc2, ?_⟩
   (repeat (first | refine ap (by rfl : apartB 0 _ _ = true) ?_ | refine ap (by simp [osL, D.flat]) ?_))
   with_reducible refine Later.mk ?_
   simp only [evD, evL, iteL, aX, St.said, St.asked, evStep, evOp, evP, St.init, St.app, srcStep, kill, setMany, loadS, fieldS, buildS, toks, Fin, upd_app, Array.isEmpty, reduceLT, reduceAdd, reduceMul, reduceLeDiff, reduceSub, reduceEqDiff, reduceCtorEq, reduceIte, ↓Opt.is, ↓Opt.no, ↓Asks.yes, ↓Asks.no, tyL, encL]
   refine Ab.weaken (show Le _ (mkS 19 [(2, .p 0 0), (5, .p 144 0)] [(0, .box [.d (.v (.int .i64 (m : Int)))]), (144, .box [.d (.sl (List.map encU (grf m l)))])] 176) by ((first | refine Le.mk rfl ?_ ?_ | refine LeTo.mk rfl ?_ ?_) <;> simp only [evD, evL, iteL, aX, St.said, St.asked, evStep, evOp, evP, St.init, St.app, srcStep, kill, setMany, loadS, fieldS, buildS, toks, Fin, upd_app, Array.isEmpty, reduceLT, reduceAdd, reduceMul, reduceLeDiff, reduceSub, reduceEqDiff, reduceCtorEq, reduceIte, ↓Opt.is, ↓Opt.no, ↓Asks.yes, ↓Asks.no, tyL, encL, leL, leD, ne_eq])) ?_
   refine Ab.weaken (Le.freeze (id := 0) (t := 2) (ds := [.v (.int .i64 (m : Int))]) (by simp only [evD, evL, iteL, aX, St.said, St.asked, evStep, evOp, evP, St.init, St.app, srcStep, kill, setMany, loadS, fieldS, buildS, toks, Fin, upd_app, Array.isEmpty, reduceLT, reduceAdd, reduceMul, reduceLeDiff, reduceSub, reduceEqDiff, reduceCtorEq, reduceIte, ↓Opt.is, ↓Opt.no, ↓Asks.yes, ↓Asks.no, tyL, encL, mkS, updl]) (by simp only [evD, evL, iteL, aX, St.said, St.asked, evStep, evOp, evP, St.init, St.app, srcStep, kill, setMany, loadS, fieldS, buildS, toks, Fin, upd_app, Array.isEmpty, reduceLT, reduceAdd, reduceMul, reduceLeDiff, reduceSub, reduceEqDiff, reduceCtorEq, reduceIte, ↓Opt.is, ↓Opt.no, ↓Asks.yes, ↓Asks.no, tyL, encL, mkS, updl])) ?_
   refine Ab.weaken (Le.freeze (id := 144) (t := 5) (ds := [.sl (List.map encU (grf m l))]) (by simp only [evD, evL, iteL, aX, St.said, St.asked, evStep, evOp, evP, St.init, St.app, srcStep, kill, setMany, loadS, fieldS, buildS, toks, Fin, upd_app, Array.isEmpty, reduceLT, reduceAdd, reduceMul, reduceLeDiff, reduceSub, reduceEqDiff, reduceCtorEq, reduceIte, ↓Opt.is, ↓Opt.no, ↓Asks.yes, ↓Asks.no, tyL, encL, mkS, updl]) (by simp only [evD, evL, iteL, aX, St.said, St.asked, evStep, evOp, evP, St.init, St.app, srcStep, kill, setMany, loadS, fieldS, buildS, toks, Fin, upd_app, Array.isEmpty, reduceLT, reduceAdd, reduceMul, reduceLeDiff, reduceSub, reduceEqDiff, reduceCtorEq, reduceIte, ↓Opt.is, ↓Opt.no, ↓Asks.yes, ↓Asks.no, tyL, encL, mkS, updl])) ?_
   refine Ab.weaken (Le.flag (by simp only [evD, evL, iteL, aX, St.said, St.asked, evStep, evOp, evP, St.init, St.app, srcStep, kill, setMany, loadS, fieldS, buildS, toks, Fin, upd_app, Array.isEmpty, reduceLT, reduceAdd, reduceMul, reduceLeDiff, reduceSub, reduceEqDiff, reduceCtorEq, reduceIte, ↓Opt.is, ↓Opt.no, ↓Asks.yes, ↓Asks.no, tyL, encL, mkS, updl])) ?_
   simp only [evD, evL, iteL, aX, St.said, St.asked, evStep, evOp, evP, St.init, St.app, srcStep, kill, setMany, loadS, fieldS, buildS, toks, Fin, upd_app, Array.isEmpty, reduceLT, reduceAdd, reduceMul, reduceLeDiff, reduceSub, reduceEqDiff, reduceCtorEq, reduceIte, ↓Opt.is, ↓Opt.no, ↓Asks.yes, ↓Asks.no, tyL, encL, mkS, updl]
   refine Ab.seq (Ab.region' ?_)
   simp only [evD, evL, iteL, aX, St.said, St.asked, evStep, evOp, evP, St.init, St.app, srcStep, kill, setMany, loadS, fieldS, buildS, toks, Fin, upd_app, Array.isEmpty, reduceLT, reduceAdd, reduceMul, reduceLeDiff, reduceSub, reduceEqDiff, reduceCtorEq, reduceIte, ↓Opt.is, ↓Opt.no, ↓Asks.yes, ↓Asks.no, tyL, encL]
   refine Ab.weaken (Le.adoptB (b := 176) (id := 5) (k := 0) (n := 1) 55 (by omega) (by simp only [evD, evL, iteL, aX, St.said, St.asked, evStep, evOp, evP, St.init, St.app, srcStep, kill, setMany, loadS, fieldS, buildS, toks, Fin, upd_app, Array.isEmpty, reduceLT, reduceAdd, reduceMul, reduceLeDiff, reduceSub, reduceEqDiff, reduceCtorEq, reduceIte, ↓Opt.is, ↓Opt.no, ↓Asks.yes, ↓Asks.no, tyL, encL]) (by simp only [evD, evL, iteL, aX, St.said, St.asked, evStep, evOp, evP, St.init, St.app, srcStep, kill, setMany, loadS, fieldS, buildS, toks, Fin, upd_app, Array.isEmpty, reduceLT, reduceAdd, reduceMul, reduceLeDiff, reduceSub, reduceEqDiff, reduceCtorEq, reduceIte, ↓Opt.is, ↓Opt.no, ↓Asks.yes, ↓Asks.no, tyL, encL]; rfl) (by simp only [evD, evL, iteL, aX, St.said, St.asked, evStep, evOp, evP, St.init, St.app, srcStep, kill, setMany, loadS, fieldS, buildS, toks, Fin, upd_app, Array.isEmpty, reduceLT, reduceAdd, reduceMul, reduceLeDiff, reduceSub, reduceEqDiff, reduceCtorEq, reduceIte, ↓Opt.is, ↓Opt.no, ↓Asks.yes, ↓Asks.no, tyL, encL])) ?_
   simp only [evD, evL, iteL, aX, St.said, St.asked, evStep, evOp, evP, St.init, St.app, srcStep, kill, setMany, loadS, fieldS, buildS, toks, Fin, upd_app, Array.isEmpty, reduceLT, reduceAdd, reduceMul, reduceLeDiff, reduceSub, reduceEqDiff, reduceCtorEq, reduceIte, ↓Opt.is, ↓Opt.no, ↓Asks.yes, ↓Asks.no, tyL, encL, List.set_cons_zero]
   have h14 : 2 ^ m ≤ 16384 := Nat.pow_le_pow_right (by omega) hm
   have hw := decide_w (n := m) (G := grf m l) hm (grf_len m l) (fun i => grf_lt hok (by omega) i) m 0 0 [] (by omega) (by omega) (by simp only [List.length_nil]; omega)
   unfold decM decF at hw
   repeat (first | refine aq ?_ | refine ap (by rfl : apartB 0 _ _ = true) ?_ | refine ak ?_ | refine ab ?_ | refine al ?_ | ((first | refine ar ?_ | refine ad ty_mix (by kernel_rfl) ?_ | refine ac ?_ | refine ae ?_ | with_reducible refine Later.mk ?_); simp only [evD, evL, iteL, aX, St.said, St.asked, evStep, evOp, evP, St.init, St.app, srcStep, kill, setMany, loadS, fieldS, buildS, toks, Fin, upd_app, Array.isEmpty, reduceLT, reduceAdd, reduceMul, reduceLeDiff, reduceSub, reduceEqDiff, reduceCtorEq, reduceIte, ↓Opt.is, ↓Opt.no, ↓Asks.yes, ↓Asks.no, tyL, encL, zFun, sFun, kFun, asB]))
   refine Kw.aw ⟨_, _, _, _, hw, ?_⟩; simp only [evD, evL, iteL, aX, St.said, St.asked, evStep, evOp, evP, St.init, St.app, srcStep, kill, setMany, loadS, fieldS, buildS, toks, Fin, upd_app, Array.isEmpty, reduceLT, reduceAdd, reduceMul, reduceLeDiff, reduceSub, reduceEqDiff, reduceCtorEq, reduceIte, ↓Opt.is, ↓Opt.no, ↓Asks.yes, ↓Asks.no, tyL, encL, leL, leD, ne_eq, frL, preM, postM, keysM, B.okM, List.mem_cons, List.not_mem_nil, or_false, false_or, true_or, or_true, List.nil_append]; repeat (first | refine aq ?_ | refine ap (by rfl : apartB 0 _ _ = true) ?_ | refine ak ?_ | refine ab ?_ | refine al ?_ | ((first | refine ar ?_ | refine ad ty_mix (by kernel_rfl) ?_ | refine ac ?_ | refine ae ?_ | with_reducible refine Later.mk ?_); simp only [evD, evL, iteL, aX, St.said, St.asked, evStep, evOp, evP, St.init, St.app, srcStep, kill, setMany, loadS, fieldS, buildS, toks, Fin, upd_app, Array.isEmpty, reduceLT, reduceAdd, reduceMul, reduceLeDiff, reduceSub, reduceEqDiff, reduceCtorEq, reduceIte, ↓Opt.is, ↓Opt.no, ↓Asks.yes, ↓Asks.no, tyL, encL, List.nil_append, asB]))
   refine Ab.ret ?_; simp only [evD, evL, iteL, aX, St.said, St.asked, evStep, evOp, evP, St.init, St.app, srcStep, kill, setMany, loadS, fieldS, buildS, toks, Fin, upd_app, Array.isEmpty, reduceLT, reduceAdd, reduceMul, reduceLeDiff, reduceSub, reduceEqDiff, reduceCtorEq, reduceIte, ↓Opt.is, ↓Opt.no, ↓Asks.yes, ↓Asks.no, tyL, List.nodup_cons, encL, Tryz.f54, encW, List.map_map]
   exact ⟨⟨_, _, rfl⟩, rfl⟩
 · rw [hd] at hc1 ⊢
   rw [if_neg (by simp)]
   refine AC.intro Tryz.func54 rfl (by decide) (by simp [S.res, S.ress]) (by simp [S.os, S.oss]) (by simp [S.wfs, S.wf, dbS]) (by simp [Tryz.f54]) ?_; rw [Tryz.ntmps54]
   repeat (first | refine aq ?_ | refine ap (by rfl : apartB 0 _ _ = true) ?_ | refine ak ?_ | refine ab ?_ | refine al ?_ | ((first | refine ar ?_ | refine ad ty_mix (by kernel_rfl) ?_ | refine ac ?_ | refine ae ?_ | with_reducible refine Later.mk ?_); simp only [evD, evL, iteL, aX, St.said, St.asked, evStep, evOp, evP, St.init, St.app, srcStep, kill, setMany, loadS, fieldS, buildS, toks, Fin, upd_app, Array.isEmpty, reduceLT, reduceAdd, reduceMul, reduceLeDiff, reduceSub, reduceEqDiff, reduceCtorEq, reduceIte, ↓Opt.is, ↓Opt.no, ↓Asks.yes, ↓Asks.no, tyL, encL, asB]))
   refine ⟨_, hc1, ?_⟩; (repeat (first | refine ap (by rfl : apartB 0 _ _ = true) ?_ | refine ap (by simp [osL, D.flat]) ?_)); repeat (first | refine aq ?_ | refine ap (by rfl : apartB 0 _ _ = true) ?_ | refine ak ?_ | refine ab ?_ | refine al ?_ | ((first | refine ar ?_ | refine ad ty_mix (by kernel_rfl) ?_ | refine ac ?_ | refine ae ?_ | with_reducible refine Later.mk ?_); simp only [evD, evL, iteL, aX, St.said, St.asked, evStep, evOp, evP, St.init, St.app, srcStep, kill, setMany, loadS, fieldS, buildS, toks, Fin, upd_app, Array.isEmpty, reduceLT, reduceAdd, reduceMul, reduceLeDiff, reduceSub, reduceEqDiff, reduceCtorEq, reduceIte, ↓Opt.is, ↓Opt.no, ↓Asks.yes, ↓Asks.no, tyL, encL, asB]))
   refine Ab.ret ?_; simp only [evD, evL, iteL, aX, St.said, St.asked, evStep, evOp, evP, St.init, St.app, srcStep, kill, setMany, loadS, fieldS, buildS, toks, Fin, upd_app, Array.isEmpty, reduceLT, reduceAdd, reduceMul, reduceLeDiff, reduceSub, reduceEqDiff, reduceCtorEq, reduceIte, ↓Opt.is, ↓Opt.no, ↓Asks.yes, ↓Asks.no, tyL, List.nodup_cons, encL, Tryz.f54]
end Ab
/- Chapter 8: all maximal independent sets: the model's walk and the program's: pure. -/
open Go Go.Proofs Go.RowKit
namespace Ab
def metL (l : List Edg) (x : Int) : Bool := l.any fun e => decide (e.a = x) || decide (e.b = x)
def walkS (n : Nat) (l : List Edg) : Nat → List Int → List (List Int)
 | 0, s => if maxI (n : Int) l s = true then [s] else []
 | d + 1, s => (if fitsL l s ((n - (d + 1) : Nat) : Int) = true then walkS n l d (s ++ [((n - (d + 1) : Nat) : Int)]) else []) ++ (if metL l ((n - (d + 1) : Nat) : Int) = true then walkS n l d s else [])
theorem pw_ascI : ∀ (l : List Int) (p : Option Int), l.Pairwise (· < ·) → (∀ q, p = some q → ∀ x, x ∈ l → q < x) → ascI p l = true
 | [], _, _, _ => rfl
 | y :: l, p, h, hp => by
   rw [List.pairwise_cons] at h
   rw [ascI, pw_ascI l (some y) h.2 (fun q hq x hx => by injection hq with hq; rw [← hq]; exact h.1 x hx), Bool.and_true]
   cases p with
   | none => rfl
   | some q => have := hp q rfl y (by simp); simpa [okPI] using this
theorem outL_id (l : List Edg) (s : List Int) : ∀ i : Nat, (∀ x : Nat, x < i → fitsL l s (x : Int) = false) → outL l s i = s
 | 0, _ => rfl
 | i + 1, h => by
   rw [outL, outL_id l s i (fun x hx => h x (by omega)), if_neg]
   rw [h i (by omega)]
   simp
theorem met_eq {n : Nat} {l : List Edg} (hok : okN n l) (x : Nat) : metL l (x : Int) = true ↔ (grf n l).getD x 0 ≠ 0 := by
 unfold metL
 rw [List.any_eq_true]
 constructor
 · rintro ⟨e, he, h⟩ h0
   have h1 := hok e he
   simp only [Bool.or_eq_true, decide_eq_true_eq] at h
   rcases h with h | h
   · have h2 := grf_test hok x e.b.toNat
     rw [h0, Nat.zero_testBit] at h2
     have h3 : adjE l x e.b.toNat = true := by
       unfold adjE
       rw [List.any_eq_true]
       refine ⟨e, he, ?_⟩
       simp only [Bool.or_eq_true, Bool.and_eq_true, decide_eq_true_eq]
       omega
     rw [h3] at h2
     exact absurd h2 (by simp)
   · have h2 := grf_test hok x e.a.toNat
     rw [h0, Nat.zero_testBit] at h2
     have h3 : adjE l x e.a.toNat = true := by
       unfold adjE
       rw [List.any_eq_true]
       refine ⟨e, he, ?_⟩
       simp only [Bool.or_eq_true, Bool.and_eq_true, decide_eq_true_eq]
       omega
     rw [h3] at h2
     exact absurd h2 (by simp)
 · intro h
   apply Classical.byContradiction
   intro hno
   apply h
   apply Nat.eq_of_testBit_eq
   intro y
   rw [grf_test hok, Nat.zero_testBit, Bool.eq_false_iff]
   intro ha
   unfold adjE at ha
   rw [List.any_eq_true] at ha
   obtain ⟨e, he, h2⟩ := ha
   apply hno
   refine ⟨e, he, ?_⟩
   simp only [Bool.or_eq_true, Bool.and_eq_true, decide_eq_true_eq] at h2 ⊢
   omega
theorem ex_ok {n : Nat} {l : List Edg} {s : List Int} (hv : validE (n : Int) l = true) (hin : InS n l s (bitsI s)) (hp : s.Pairwise (· < ·)) : exOk (n : Int) l s = true := by
 unfold exOk setIx
 rw [hv, hin.ind, pw_ascI s none hp (fun q hq => by cases hq), Bool.and_true, Bool.and_true, Bool.true_and, List.all_eq_true]
 intro x hx
 have := hin.rng x hx
 unfold inB
 rw [Bool.and_eq_true, decide_eq_true_eq, decide_eq_true_eq]
 omega
theorem elems_bits {n : Nat} {l : List Edg} {s : List Int} (hn : n ≤ 14) (hin : InS n l s (bitsI s)) (hp : s.Pairwise (· < ·)) : elemsN 64 (bitsI s) = s := by
 rw [← sort_elems (by omega) hin]
 exact sortI_eq (List.Perm.refl s) (hp.imp fun h => by omega)
theorem max_ext {n : Nat} {l : List Edg} {s : List Int} (hn : n ≤ 14) (hok : okN n l) (hv : validE (n : Int) l = true) (hin : InS n l s (bitsI s)) (hp : s.Pairwise (· < ·)) : maxI (n : Int) l s = true ↔ extP (grf n l) (bitsI s) n = bitsI s := by
 rw [maxI_fits (ex_ok hv hin hp)]
 have he := ext_eq hok (by omega) hin n (Nat.le_refl _)
 constructor
 · intro h
   rw [he.bit, outL_id l s n h]
 · intro h
   have h1 := sort_elems (by omega) he
   have h2 := sort_elems (by omega) hin
   rw [h, ← h2] at h1
   refine (outL_same l s n).1 ?_
   rw [← (sortI_perm (outL l s n)).length_eq, ← (sortI_perm s).length_eq, h1]
theorem InS.put {n : Nat} {l : List Edg} {s : List Int} (hin : InS n l s (bitsI s)) {x : Nat} (hx : x < n) (hlt : ∀ y, y ∈ s → y < (x : Int)) (hf : fitsL l s (x : Int) = true) : InS n l (s ++ [(x : Int)]) (bitsI (s ++ [(x : Int)])) := by
 refine ⟨?_, ?_, ?_, rfl⟩
 · rw [List.nodup_append]
   refine ⟨hin.nd, by simp, fun a ha b hb => ?_⟩
   rw [List.mem_singleton] at hb
   have := hlt a ha
   omega
 · intro y hy
   rcases List.mem_append.1 hy with hy | hy
   · exact hin.rng y hy
   · rw [List.mem_singleton] at hy; omega
 · unfold fitsL at hf
   rw [Bool.and_eq_true] at hf
   exact hf.2
theorem walk_eq {n : Nat} {l : List Edg} (hn : n ≤ 14) (hok : okN n l) (hv : validE (n : Int) l = true) : ∀ (d x : Nat) (s : List Int), x + d = n → InS n l s (bitsI s) → (∀ y, y ∈ s → y < (x : Int)) → s.Pairwise (· < ·) → walkS n l d s = (walkB (grf n l) n d (bitsI s)).map (elemsN 64)
 | 0, x, s, hx, hin, hlt, hp => by
   have h := max_ext hn hok hv hin hp
   rw [walkS, walkB]
   by_cases hm : maxI (n : Int) l s = true
   · rw [if_pos hm, if_pos (h.1 hm), List.map_cons, List.map_nil, elems_bits hn hin hp]
   · rw [if_neg hm, if_neg (fun e => hm (h.2 e)), List.map_nil]
 | d + 1, x, s, hx, hin, hlt, hp => by
   have hxe : n - (d + 1) = x := by omega
   have hnc : s.contains (x : Int) = false := by
     rw [Bool.eq_false_iff]
     intro h
     have := hlt _ (List.contains_iff_mem.1 h)
     omega
   have hf := fits_free hok (by omega) hin (i := x) (by omega)
   rw [hnc] at hf
   have hf : fitsL l s (x : Int) = true ↔ (grf n l).getD x 0 &&& bitsI s = 0 := ⟨fun h => hf.1 (.inl h), fun h => (hf.2 h).elim id (fun h => by cases h)⟩
   have hme := met_eq hok x
   have ih2 := walk_eq hn hok hv d (x + 1) s (by omega) hin (fun y hy => by have := hlt y hy; omega) hp
   rw [walkS, walkB, hxe, List.map_append]
   congr 1
   · by_cases h1 : fitsL l s (x : Int) = true
     · rw [if_pos h1, if_pos (hf.1 h1)]
       have ih1 := walk_eq hn hok hv d (x + 1) (s ++ [(x : Int)]) (by omega) (hin.put (by omega) hlt h1) (fun y hy => by
         rcases List.mem_append.1 hy with hy | hy
         · have := hlt y hy; omega
         · rw [List.mem_singleton] at hy; omega) (by
         rw [List.pairwise_append]
         exact ⟨hp, by simp, fun a ha b hb => by rw [List.mem_singleton] at hb; rw [hb]; exact hlt a ha⟩)
       rw [ih1, bitsI_snoc]
       rfl
     · rw [if_neg h1, if_neg (fun e => h1 (hf.2 e)), List.map_nil]
   · by_cases h1 : metL l (x : Int) = true
     · rw [if_pos h1, if_pos (hme.1 h1), ih2]
     · rw [if_neg h1, if_neg (fun e => h1 (hme.2 e)), List.map_nil]
theorem walk_top {n : Nat} {l : List Edg} (hn : n ≤ 14) (hok : okN n l) (hv : validE (n : Int) l = true) : walkS n l n [] = (walkB (grf n l) n n 0).map (elemsN 64) := by
 have hind : indE l [] = true := by
   unfold indE
   rw [List.all_eq_true]
   intro e he
   simp
 exact walk_eq hn hok hv n 0 [] (by omega) ⟨by simp, by simp, hind, rfl⟩ (by simp) (by simp)
end Ab
/- Chapter 8: all maximal independent sets, in the model. -/
open Go Go.Proofs Go.RowKit
namespace Ab
theorem encB_len (L : List (List Int)) : ∀ e, e ∈ L.map encB → e.length = 1 := by
 intro e he
 obtain ⟨y, _, rfl⟩ := List.mem_map.1 he
 rfl
theorem walkS_len (n : Nat) (l : List Edg) : ∀ d s, (walkS n l d s).length ≤ 2 ^ d
 | 0, s => by rw [walkS]; split <;> simp
 | d + 1, s => by
   have h1 := walkS_len n l d (s ++ [((n - (d + 1) : Nat) : Int)])
   have h2 := walkS_len n l d s
   have h3 : ([] : List (List Int)).length ≤ 2 ^ d := Nat.zero_le _
   rw [walkS, List.length_append, Nat.pow_succ]
   split <;> split <;> omega
theorem any_sn {α : Type} (l : List α) (f : α → Bool) {i : Nat} (h : i < l.length) : (l.take (i + 1)).any f = ((l.take i).any f || f l[i]) := by
 rw [List.take_succ_eq_append_getElem h, List.any_append, List.any_cons, List.any_nil, Bool.or_false]
set_option maxHeartbeats 3200000 in
theorem l8Walk_w {n : Nat} {l : List Edg} (gE : (eSlice eEdg).good l) (hle : l.length ≤ 1048576) (hn : n ≤ 14) : ∀ (d x : Nat) (s : List Int), x + d = n → (eSlice eInt).good s → s.length ≤ x →
   AW Tryz.prog 70 [.d (.v (.int .i64 (n : Int))), .d (encEs l), .d (encIs s), .d (.v (.int .i64 (x : Int)))] [] (.g 5 ((walkS n l d s).map encB)) [(5, .tip false 55 1 ((walkS n l d s).map encB))]
 | 0, x, s, hx, gI, hs => by
   have hx : x = n := by omega
   subst hx
   have hc := specIsMaximalIndependent_a (n := (x : Int)) gE gI hle (by omega)
   have hbe : ((x : Int) == (x : Int)) = true := beq_self_eq_true _
   rw [walkS]
   by_cases hm : maxI (x : Int) l s = true
   · rw [if_pos hm]
     rw [hm] at hc
     refine AW.ren (i := 192) (by decide) (by decide) ?_
     refine AW.intro 16 Tryz.func70 rfl (by decide) ⟨by simp [keysM], by simp [keysM], by simp [S.wfs, S.wf, updl, upd], by simp [wfM, wfB, wfI, S.wfs, S.wf, updl, upd], by simp [S.wf, S.wfs, updl, upd], by simp [wfM, wfB, wfI, S.wfs, S.wf, updl, upd]⟩ (by simp [keysM]) (by simp [Tryz.f70]) ?_; rw [Tryz.ntmps70]; simp only [St.initW, fM, keysM, updl, List.map_cons, List.map_nil]
     repeat (first | refine aq ?_ | refine ap (by rfl : apartB 0 _ _ = true) ?_ | refine ak ?_ | refine ab ?_ | refine al ?_ | ((first | refine ar ?_ | refine ad ty_mix (by kernel_rfl) ?_ | refine ac ?_ | refine ae ?_ | with_reducible refine Later.mk ?_); simp only [evD, evL, iteL, aX, St.said, St.asked, evStep, evOp, evP, St.init, St.app, srcStep, kill, setMany, loadS, fieldS, buildS, toks, Fin, upd_app, Array.isEmpty, reduceLT, reduceAdd, reduceMul, reduceLeDiff, reduceSub, reduceEqDiff, reduceCtorEq, reduceIte, ↓Opt.is, ↓Opt.no, ↓Asks.yes, ↓Asks.no, tyL, encL, hbe, asB]))
     refine Kw.ac ?_; simp only [evD, evL, iteL, aX, St.said, St.asked, evStep, evOp, evP, St.init, St.app, srcStep, kill, setMany, loadS, fieldS, buildS, toks, Fin, upd_app, Array.isEmpty, reduceLT, reduceAdd, reduceMul, reduceLeDiff, reduceSub, reduceEqDiff, reduceCtorEq, reduceIte, ↓Opt.is, ↓Opt.no, ↓Asks.yes, ↓Asks.no, tyL, encL]
     refine ⟨_, hc, ?_⟩; (repeat (first | refine ap (by rfl : apartB 0 _ _ = true) ?_ | refine ap (by simp [osL, D.flat]) ?_)); repeat (first | refine aq ?_ | refine ap (by rfl : apartB 0 _ _ = true) ?_ | refine ak ?_ | refine ab ?_ | refine al ?_ | ((first | refine ar ?_ | refine ad ty_mix (by kernel_rfl) ?_ | refine ac ?_ | refine ae ?_ | with_reducible refine Later.mk ?_); simp only [evD, evL, iteL, aX, St.said, St.asked, evStep, evOp, evP, St.init, St.app, srcStep, kill, setMany, loadS, fieldS, buildS, toks, Fin, upd_app, Array.isEmpty, reduceLT, reduceAdd, reduceMul, reduceLeDiff, reduceSub, reduceEqDiff, reduceCtorEq, reduceIte, ↓Opt.is, ↓Opt.no, ↓Asks.yes, ↓Asks.no, tyL, encL, asB]))
     refine ⟨fun e he => by obtain ⟨y, _, rfl⟩ := List.mem_map.1 he; rfl, true, (fun _ e he y hy => by obtain ⟨z, _, rfl⟩ := List.mem_map.1 he; simp only [encI, List.mem_singleton] at hy; subst hy; simp only [D.flat]), Later.mk ?_⟩
     simp only [evD, evL, iteL, aX, St.said, St.asked, evStep, evOp, evP, St.init, St.app, srcStep, kill, setMany, loadS, fieldS, buildS, toks, Fin, upd_app, Array.isEmpty, reduceLT, reduceAdd, reduceMul, reduceLeDiff, reduceSub, reduceEqDiff, reduceCtorEq, reduceIte, ↓Opt.is, ↓Opt.no, ↓Asks.yes, ↓Asks.no, tyL, encL]
     refine ⟨by simp only [maxLen]; omega, by omega, ?_⟩
     repeat (first | refine aq ?_ | refine ap (by rfl : apartB 0 _ _ = true) ?_ | refine ak ?_ | refine ab ?_ | refine al ?_ | ((first | refine ar ?_ | refine ad ty_mix (by kernel_rfl) ?_ | refine ac ?_ | refine ae ?_ | with_reducible refine Later.mk ?_); simp only [evD, evL, iteL, aX, St.said, St.asked, evStep, evOp, evP, St.init, St.app, srcStep, kill, setMany, loadS, fieldS, buildS, toks, Fin, upd_app, Array.isEmpty, reduceLT, reduceAdd, reduceMul, reduceLeDiff, reduceSub, reduceEqDiff, reduceCtorEq, reduceIte, ↓Opt.is, ↓Opt.no, ↓Asks.yes, ↓Asks.no, tyL, encL, asB]))
     refine ⟨⟨_, _, _, _, rfl, rfl⟩, by simp, ?_⟩
     refine Ab.ret ?_; simp only [evD, evL, iteL, aX, St.said, St.asked, evStep, evOp, evP, St.init, St.app, srcStep, kill, setMany, loadS, fieldS, buildS, toks, Fin, upd_app, Array.isEmpty, reduceLT, reduceAdd, reduceMul, reduceLeDiff, reduceSub, reduceEqDiff, reduceCtorEq, reduceIte, ↓Opt.is, ↓Opt.no, ↓Asks.yes, ↓Asks.no, tyL, encL, leL, leD, ne_eq, frL, preM, postM, keysM, B.okM, List.mem_cons, List.not_mem_nil, or_false, false_or, true_or, or_true, EndsW, FinW, LeR, oneOf, fM, updl, allM, List.nodup_cons, Tryz.f70]
   · rw [if_neg hm]
     have hm2 : maxI (x : Int) l s = false := by simpa using hm
     rw [hm2] at hc
     refine AW.ren (i := 144) (by decide) (by decide) ?_
     refine AW.intro 16 Tryz.func70 rfl (by decide) ⟨by simp [keysM], by simp [keysM], by simp [S.wfs, S.wf, updl, upd], by simp [wfM, wfB, wfI, S.wfs, S.wf, updl, upd], by simp [S.wf, S.wfs, updl, upd], by simp [wfM, wfB, wfI, S.wfs, S.wf, updl, upd]⟩ (by simp [keysM]) (by simp [Tryz.f70]) ?_; rw [Tryz.ntmps70]; simp only [St.initW, fM, keysM, updl, List.map_cons, List.map_nil]
     repeat (first | refine aq ?_ | refine ap (by rfl : apartB 0 _ _ = true) ?_ | refine ak ?_ | refine ab ?_ | refine al ?_ | ((first | refine ar ?_ | refine ad ty_mix (by kernel_rfl) ?_ | refine ac ?_ | refine ae ?_ | with_reducible refine Later.mk ?_); simp only [evD, evL, iteL, aX, St.said, St.asked, evStep, evOp, evP, St.init, St.app, srcStep, kill, setMany, loadS, fieldS, buildS, toks, Fin, upd_app, Array.isEmpty, reduceLT, reduceAdd, reduceMul, reduceLeDiff, reduceSub, reduceEqDiff, reduceCtorEq, reduceIte, ↓Opt.is, ↓Opt.no, ↓Asks.yes, ↓Asks.no, tyL, encL, hbe, asB]))
     refine Kw.ac ?_; simp only [evD, evL, iteL, aX, St.said, St.asked, evStep, evOp, evP, St.init, St.app, srcStep, kill, setMany, loadS, fieldS, buildS, toks, Fin, upd_app, Array.isEmpty, reduceLT, reduceAdd, reduceMul, reduceLeDiff, reduceSub, reduceEqDiff, reduceCtorEq, reduceIte, ↓Opt.is, ↓Opt.no, ↓Asks.yes, ↓Asks.no, tyL, encL]
     refine ⟨_, hc, ?_⟩; (repeat (first | refine ap (by rfl : apartB 0 _ _ = true) ?_ | refine ap (by simp [osL, D.flat]) ?_)); repeat (first | refine aq ?_ | refine ap (by rfl : apartB 0 _ _ = true) ?_ | refine ak ?_ | refine ab ?_ | refine al ?_ | ((first | refine ar ?_ | refine ad ty_mix (by kernel_rfl) ?_ | refine ac ?_ | refine ae ?_ | with_reducible refine Later.mk ?_); simp only [evD, evL, iteL, aX, St.said, St.asked, evStep, evOp, evP, St.init, St.app, srcStep, kill, setMany, loadS, fieldS, buildS, toks, Fin, upd_app, Array.isEmpty, reduceLT, reduceAdd, reduceMul, reduceLeDiff, reduceSub, reduceEqDiff, reduceCtorEq, reduceIte, ↓Opt.is, ↓Opt.no, ↓Asks.yes, ↓Asks.no, tyL, encL, asB]))
     refine Ab.ret ?_; simp only [evD, evL, iteL, aX, St.said, St.asked, evStep, evOp, evP, St.init, St.app, srcStep, kill, setMany, loadS, fieldS, buildS, toks, Fin, upd_app, Array.isEmpty, reduceLT, reduceAdd, reduceMul, reduceLeDiff, reduceSub, reduceEqDiff, reduceCtorEq, reduceIte, ↓Opt.is, ↓Opt.no, ↓Asks.yes, ↓Asks.no, tyL, encL, leL, leD, ne_eq, frL, preM, postM, keysM, B.okM, List.mem_cons, List.not_mem_nil, or_false, false_or, true_or, or_true, EndsW, FinW, LeR, oneOf, fM, updl, allM, List.nodup_cons, Tryz.f70]
 | d + 1, x, s, hx, gI, hs => by
   have hxe : n - (d + 1) = x := by omega
   have hwn : IntKind.i64.wrap ((x : Int) + 1) = ((x + 1 : Nat) : Int) := by rw [IntKind.wrap_i64]; omega
   have hbe : ((x : Int) == (n : Int)) = false := beq_eq_false_iff_ne.2 (by omega)
   have hf := l8Fits_a (x := (x : Int)) gE gI (by constructor <;> omega) (by omega)
   have gI2 : (eSlice eInt).good (s ++ [(x : Int)]) := ⟨by rw [List.length_append, List.length_singleton]; simp only [maxLen]; omega, fun b hb => (List.mem_append.1 hb).elim (gI.2 b) (fun h => by rw [List.mem_singleton] at h; subst h; constructor <;> omega)⟩
   have hw1 := l8Walk_w gE hle hn d (x + 1) (s ++ [(x : Int)]) (by omega) gI2 (by rw [List.length_append, List.length_singleton]; omega)
   have hw2 := l8Walk_w gE hle hn d (x + 1) s (by omega) gI (by omega)
   unfold encIs at hw1
   rw [List.map_append, show List.map encI [(x : Int)] = [[D.v (.int .i64 (x : Int))]] from rfl] at hw1
   have hl1 := walkS_len n l d (s ++ [(x : Int)])
   have hl2 := walkS_len n l d s
   have hp14 : 2 ^ d ≤ 16384 := Nat.pow_le_pow_right (n := 2) (by omega) (show d ≤ 14 by omega)
   rw [walkS, hxe]
   by_cases c1 : fitsL l s (x : Int) = true
   · rw [if_pos c1]
     rw [c1] at hf
     generalize walkS n l d (s ++ [(x : Int)]) = W1 at *
     generalize walkS n l d s = W2 at *
     refine AW.intro 16 Tryz.func70 rfl (by decide) ⟨by simp [keysM], by simp [keysM], by simp [S.wfs, S.wf, updl, upd], by simp [wfM, wfB, wfI, S.wfs, S.wf, updl, upd], by simp [S.wf, S.wfs, updl, upd], by simp [wfM, wfB, wfI, S.wfs, S.wf, updl, upd]⟩ (by simp [keysM]) (by simp [Tryz.f70]) ?_; rw [Tryz.ntmps70]; simp only [St.initW, fM, keysM, updl, List.map_cons, List.map_nil]
     repeat (first | refine aq ?_ | refine ap (by rfl : apartB 0 _ _ = true) ?_ | refine ak ?_ | refine ab ?_ | refine al ?_ | ((first | refine ar ?_ | refine ad ty_mix (by kernel_rfl) ?_ | refine ac ?_ | refine ae ?_ | with_reducible refine Later.mk ?_); simp only [evD, evL, iteL, aX, St.said, St.asked, evStep, evOp, evP, St.init, St.app, srcStep, kill, setMany, loadS, fieldS, buildS, toks, Fin, upd_app, Array.isEmpty, reduceLT, reduceAdd, reduceMul, reduceLeDiff, reduceSub, reduceEqDiff, reduceCtorEq, reduceIte, ↓Opt.is, ↓Opt.no, ↓Asks.yes, ↓Asks.no, tyL, encL, hbe, asB]))
     refine Kw.ac ?_; simp only [evD, evL, iteL, aX, St.said, St.asked, evStep, evOp, evP, St.init, St.app, srcStep, kill, setMany, loadS, fieldS, buildS, toks, Fin, upd_app, Array.isEmpty, reduceLT, reduceAdd, reduceMul, reduceLeDiff, reduceSub, reduceEqDiff, reduceCtorEq, reduceIte, ↓Opt.is, ↓Opt.no, ↓Asks.yes, ↓Asks.no, tyL, encL]
     refine ⟨_, hf, ?_⟩; (repeat (first | refine ap (by rfl : apartB 0 _ _ = true) ?_ | refine ap (by simp [osL, D.flat]) ?_)); repeat (first | refine aq ?_ | refine ap (by rfl : apartB 0 _ _ = true) ?_ | refine ak ?_ | refine ab ?_ | refine al ?_ | ((first | refine ar ?_ | refine ad ty_mix (by kernel_rfl) ?_ | refine ac ?_ | refine ae ?_ | with_reducible refine Later.mk ?_); simp only [evD, evL, iteL, aX, St.said, St.asked, evStep, evOp, evP, St.init, St.app, srcStep, kill, setMany, loadS, fieldS, buildS, toks, Fin, upd_app, Array.isEmpty, reduceLT, reduceAdd, reduceMul, reduceLeDiff, reduceSub, reduceEqDiff, reduceCtorEq, reduceIte, ↓Opt.is, ↓Opt.no, ↓Asks.yes, ↓Asks.no, tyL, encL, asB]))
     refine ⟨fun e he => by obtain ⟨y, _, rfl⟩ := List.mem_map.1 he; rfl, true, (fun _ e he y hy => by obtain ⟨z, _, rfl⟩ := List.mem_map.1 he; simp only [encI, List.mem_singleton] at hy; subst hy; simp only [D.flat]), Later.mk ?_⟩
     simp only [evD, evL, iteL, aX, St.said, St.asked, evStep, evOp, evP, St.init, St.app, srcStep, kill, setMany, loadS, fieldS, buildS, toks, Fin, upd_app, Array.isEmpty, reduceLT, reduceAdd, reduceMul, reduceLeDiff, reduceSub, reduceEqDiff, reduceCtorEq, reduceIte, ↓Opt.is, ↓Opt.no, ↓Asks.yes, ↓Asks.no, tyL, encL]
     refine ⟨by simp only [maxLen]; omega, by omega, ?_⟩
     refine ⟨by simp only [maxLen]; omega, by omega, ?_⟩
     have hw3 := hw2.ren (j := 6) (by decide) (by decide)
     refine Kw.aw ⟨_, _, _, _, hw1, ?_⟩; simp only [evD, evL, iteL, aX, St.said, St.asked, evStep, evOp, evP, St.init, St.app, srcStep, kill, setMany, loadS, fieldS, buildS, toks, Fin, upd_app, Array.isEmpty, reduceLT, reduceAdd, reduceMul, reduceLeDiff, reduceSub, reduceEqDiff, reduceCtorEq, reduceIte, ↓Opt.is, ↓Opt.no, ↓Asks.yes, ↓Asks.no, tyL, encL, leL, leD, ne_eq, frL, preM, postM, keysM, B.okM, List.mem_cons, List.not_mem_nil, or_false, false_or, true_or, or_true, hwn]; repeat (first | refine aq ?_ | refine ap (by rfl : apartB 0 _ _ = true) ?_ | refine ak ?_ | refine ab ?_ | refine al ?_ | ((first | refine ar ?_ | refine ad ty_mix (by kernel_rfl) ?_ | refine ac ?_ | refine ae ?_ | with_reducible refine Later.mk ?_); simp only [evD, evL, iteL, aX, St.said, St.asked, evStep, evOp, evP, St.init, St.app, srcStep, kill, setMany, loadS, fieldS, buildS, toks, Fin, upd_app, Array.isEmpty, reduceLT, reduceAdd, reduceMul, reduceLeDiff, reduceSub, reduceEqDiff, reduceCtorEq, reduceIte, ↓Opt.is, ↓Opt.no, ↓Asks.yes, ↓Asks.no, tyL, encL, hwn, asB]))
     refine Ab.loopI l.length (fun _ => True) (fun i => mkS 75 [(0, .d (.v (.int .i64 (n : Int)))), (1, .d (.sl (List.map encE l))), (2, .d (.sl (List.map encI s))), (3, .d (.v (.int .i64 (x : Int)))), (9, .g 5 (W1.map encB)), (10, .d (.v (.bool ((l.take i).any fun e => decide (e.a = (x : Int)) || decide (e.b = (x : Int)))))), (11, .d (.v (.int .i64 (i : Int))))] [(5, .tip false 55 1 (W1.map encB)), (9, .frm []), (11, .dead)] 900) trivial ?_ ?_
     · ((first | refine Le.mk rfl ?_ ?_ | refine LeTo.mk rfl ?_ ?_) <;> simp only [evD, evL, iteL, aX, St.said, St.asked, evStep, evOp, evP, St.init, St.app, srcStep, kill, setMany, loadS, fieldS, buildS, toks, Fin, upd_app, Array.isEmpty, reduceLT, reduceAdd, reduceMul, reduceLeDiff, reduceSub, reduceEqDiff, reduceCtorEq, reduceIte, ↓Opt.is, ↓Opt.no, ↓Asks.yes, ↓Asks.no, tyL, encL, leL, leD, ne_eq, List.take_zero, List.any_nil, frL, wfI])
     intro i hi _
     repeat (first | refine aq ?_ | refine ap (by rfl : apartB 0 _ _ = true) ?_ | refine ak ?_ | refine ab ?_ | refine al ?_ | ((first | refine ar ?_ | refine ad ty_mix (by kernel_rfl) ?_ | refine ac ?_ | refine ae ?_ | with_reducible refine Later.mk ?_); simp only [evD, evL, iteL, aX, St.said, St.asked, evStep, evOp, evP, St.init, St.app, srcStep, kill, setMany, loadS, fieldS, buildS, toks, Fin, upd_app, Array.isEmpty, reduceLT, reduceAdd, reduceMul, reduceLeDiff, reduceSub, reduceEqDiff, reduceCtorEq, reduceIte, ↓Opt.is, ↓Opt.no, ↓Asks.yes, ↓Asks.no, tyL, encL, mkS, updl, asB]))
     refine ⟨fun h => ?_, fun h => ?_⟩
     · have h : i < l.length := by simpa using h
       have hw := wrapN h (by omega)
       have z3 : ∀ x : Nat, (0 ≤ (x : Int)) = True := fun x => eq_true (by omega)
       have hst := any_sn l (fun e => decide (e.a = (x : Int)) || decide (e.b = (x : Int))) h
       rcases Bool.eq_false_or_eq_true ((l.take i).any fun e => decide (e.a = (x : Int)) || decide (e.b = (x : Int))) with m1 | m1 <;> rw [m1] at hst ⊢
       · rw [Bool.true_or] at hst
         repeat (first | refine aq ?_ | refine ap (by rfl : apartB 0 _ _ = true) ?_ | refine ak ?_ | refine ab ?_ | refine al ?_ | ((first | refine ar ?_ | refine ad ty_mix (by kernel_rfl) ?_ | refine ac ?_ | refine ae ?_ | with_reducible refine Later.mk ?_); simp only [evD, evL, iteL, aX, St.said, St.asked, evStep, evOp, evP, St.init, St.app, srcStep, kill, setMany, loadS, fieldS, buildS, toks, Fin, upd_app, Array.isEmpty, reduceLT, reduceAdd, reduceMul, reduceLeDiff, reduceSub, reduceEqDiff, reduceCtorEq, reduceIte, ↓Opt.is, ↓Opt.no, ↓Asks.yes, ↓Asks.no, tyL, encL, getE h, encE, z3, hw, asB]))
         refine ⟨h, ?_⟩
         ((first | refine Le.mk rfl ?_ ?_ | refine LeTo.mk rfl ?_ ?_) <;> simp only [evD, evL, iteL, aX, St.said, St.asked, evStep, evOp, evP, St.init, St.app, srcStep, kill, setMany, loadS, fieldS, buildS, toks, Fin, upd_app, Array.isEmpty, reduceLT, reduceAdd, reduceMul, reduceLeDiff, reduceSub, reduceEqDiff, reduceCtorEq, reduceIte, ↓Opt.is, ↓Opt.no, ↓Asks.yes, ↓Asks.no, tyL, encL, leL, leD, ne_eq, hst, frL, wfI])
       · rw [Bool.false_or] at hst
         by_cases m2 : l[i].a = (x : Int)
         · have b2 : (l[i].a == (x : Int)) = true := beq_iff_eq.2 m2
           rw [decide_eq_true m2, Bool.true_or] at hst
           repeat (first | refine aq ?_ | refine ap (by rfl : apartB 0 _ _ = true) ?_ | refine ak ?_ | refine ab ?_ | refine al ?_ | ((first | refine ar ?_ | refine ad ty_mix (by kernel_rfl) ?_ | refine ac ?_ | refine ae ?_ | with_reducible refine Later.mk ?_); simp only [evD, evL, iteL, aX, St.said, St.asked, evStep, evOp, evP, St.init, St.app, srcStep, kill, setMany, loadS, fieldS, buildS, toks, Fin, upd_app, Array.isEmpty, reduceLT, reduceAdd, reduceMul, reduceLeDiff, reduceSub, reduceEqDiff, reduceCtorEq, reduceIte, ↓Opt.is, ↓Opt.no, ↓Asks.yes, ↓Asks.no, tyL, encL, getE h, encE, z3, b2, hw, asB]))
           refine ⟨h, ?_⟩
           ((first | refine Le.mk rfl ?_ ?_ | refine LeTo.mk rfl ?_ ?_) <;> simp only [evD, evL, iteL, aX, St.said, St.asked, evStep, evOp, evP, St.init, St.app, srcStep, kill, setMany, loadS, fieldS, buildS, toks, Fin, upd_app, Array.isEmpty, reduceLT, reduceAdd, reduceMul, reduceLeDiff, reduceSub, reduceEqDiff, reduceCtorEq, reduceIte, ↓Opt.is, ↓Opt.no, ↓Asks.yes, ↓Asks.no, tyL, encL, leL, leD, ne_eq, hst, frL, wfI])
         · have b2 : (l[i].a == (x : Int)) = false := beq_eq_false_iff_ne.2 m2
           rw [decide_eq_false m2, Bool.false_or] at hst
           have b3 : (l[i].b == (x : Int)) = decide (l[i].b = (x : Int)) := rfl
           repeat (first | refine aq ?_ | refine ap (by rfl : apartB 0 _ _ = true) ?_ | refine ak ?_ | refine ab ?_ | refine al ?_ | ((first | refine ar ?_ | refine ad ty_mix (by kernel_rfl) ?_ | refine ac ?_ | refine ae ?_ | with_reducible refine Later.mk ?_); simp only [evD, evL, iteL, aX, St.said, St.asked, evStep, evOp, evP, St.init, St.app, srcStep, kill, setMany, loadS, fieldS, buildS, toks, Fin, upd_app, Array.isEmpty, reduceLT, reduceAdd, reduceMul, reduceLeDiff, reduceSub, reduceEqDiff, reduceCtorEq, reduceIte, ↓Opt.is, ↓Opt.no, ↓Asks.yes, ↓Asks.no, tyL, encL, getE h, encE, z3, b2, b3, hw, asB]))
           refine ⟨h, ?_⟩
           ((first | refine Le.mk rfl ?_ ?_ | refine LeTo.mk rfl ?_ ?_) <;> simp only [evD, evL, iteL, aX, St.said, St.asked, evStep, evOp, evP, St.init, St.app, srcStep, kill, setMany, loadS, fieldS, buildS, toks, Fin, upd_app, Array.isEmpty, reduceLT, reduceAdd, reduceMul, reduceLeDiff, reduceSub, reduceEqDiff, reduceCtorEq, reduceIte, ↓Opt.is, ↓Opt.no, ↓Asks.yes, ↓Asks.no, tyL, encL, leL, leD, ne_eq, hst, frL, wfI])
     · have h : i = l.length := by have := of_decide_eq_false h; omega
       subst h
       have hmt : (l.any fun e => decide (e.a = (x : Int)) || decide (e.b = (x : Int))) = metL l (x : Int) := rfl
       rw [List.take_length, hmt]
       by_cases c2 : metL l (x : Int) = true
       · rw [if_pos c2, c2]
         repeat (first | refine aq ?_ | refine ap (by rfl : apartB 0 _ _ = true) ?_ | refine ak ?_ | refine ab ?_ | refine al ?_ | ((first | refine ar ?_ | refine ad ty_mix (by kernel_rfl) ?_ | refine ac ?_ | refine ae ?_ | with_reducible refine Later.mk ?_); simp only [evD, evL, iteL, aX, St.said, St.asked, evStep, evOp, evP, St.init, St.app, srcStep, kill, setMany, loadS, fieldS, buildS, toks, Fin, upd_app, Array.isEmpty, reduceLT, reduceAdd, reduceMul, reduceLeDiff, reduceSub, reduceEqDiff, reduceCtorEq, reduceIte, ↓Opt.is, ↓Opt.no, ↓Asks.yes, ↓Asks.no, tyL, encL, hwn, asB]))
         refine Kw.aw ⟨_, _, _, _, hw3, ?_⟩; simp only [evD, evL, iteL, aX, St.said, St.asked, evStep, evOp, evP, St.init, St.app, srcStep, kill, setMany, loadS, fieldS, buildS, toks, Fin, upd_app, Array.isEmpty, reduceLT, reduceAdd, reduceMul, reduceLeDiff, reduceSub, reduceEqDiff, reduceCtorEq, reduceIte, ↓Opt.is, ↓Opt.no, ↓Asks.yes, ↓Asks.no, tyL, encL, leL, leD, ne_eq, frL, preM, postM, keysM, B.okM, List.mem_cons, List.not_mem_nil, or_false, false_or, true_or, or_true, hwn]; repeat (first | refine aq ?_ | refine ap (by rfl : apartB 0 _ _ = true) ?_ | refine ak ?_ | refine ab ?_ | refine al ?_ | ((first | refine ar ?_ | refine ad ty_mix (by kernel_rfl) ?_ | refine ac ?_ | refine ae ?_ | with_reducible refine Later.mk ?_); simp only [evD, evL, iteL, aX, St.said, St.asked, evStep, evOp, evP, St.init, St.app, srcStep, kill, setMany, loadS, fieldS, buildS, toks, Fin, upd_app, Array.isEmpty, reduceLT, reduceAdd, reduceMul, reduceLeDiff, reduceSub, reduceEqDiff, reduceCtorEq, reduceIte, ↓Opt.is, ↓Opt.no, ↓Asks.yes, ↓Asks.no, tyL, encL, hwn, asB]))
         refine ⟨encB_len _, false, (fun h => by cases h), Later.mk ?_⟩
         simp only [evD, evL, iteL, aX, St.said, St.asked, evStep, evOp, evP, St.init, St.app, srcStep, kill, setMany, loadS, fieldS, buildS, toks, Fin, upd_app, Array.isEmpty, reduceLT, reduceAdd, reduceMul, reduceLeDiff, reduceSub, reduceEqDiff, reduceCtorEq, reduceIte, ↓Opt.is, ↓Opt.no, ↓Asks.yes, ↓Asks.no, tyL, encL]
         refine ⟨by simp only [maxLen]; omega, by omega, ?_⟩
         repeat (first | refine aq ?_ | refine ap (by rfl : apartB 0 _ _ = true) ?_ | refine ak ?_ | refine ab ?_ | refine al ?_ | ((first | refine ar ?_ | refine ad ty_mix (by kernel_rfl) ?_ | refine ac ?_ | refine ae ?_ | with_reducible refine Later.mk ?_); simp only [evD, evL, iteL, aX, St.said, St.asked, evStep, evOp, evP, St.init, St.app, srcStep, kill, setMany, loadS, fieldS, buildS, toks, Fin, upd_app, Array.isEmpty, reduceLT, reduceAdd, reduceMul, reduceLeDiff, reduceSub, reduceEqDiff, reduceCtorEq, reduceIte, ↓Opt.is, ↓Opt.no, ↓Asks.yes, ↓Asks.no, tyL, encL, asB]))
         refine Ab.ret ?_; simp only [evD, evL, iteL, aX, St.said, St.asked, evStep, evOp, evP, St.init, St.app, srcStep, kill, setMany, loadS, fieldS, buildS, toks, Fin, upd_app, Array.isEmpty, reduceLT, reduceAdd, reduceMul, reduceLeDiff, reduceSub, reduceEqDiff, reduceCtorEq, reduceIte, ↓Opt.is, ↓Opt.no, ↓Asks.yes, ↓Asks.no, tyL, encL, leL, leD, ne_eq, frL, preM, postM, keysM, B.okM, List.mem_cons, List.not_mem_nil, or_false, false_or, true_or, or_true, EndsW, FinW, LeR, oneOf, fM, updl, allM, List.nodup_cons, Tryz.f70, List.map_append]
       · rw [if_neg c2, List.append_nil]
         have c2 : metL l (x : Int) = false := by simpa using c2
         rw [c2]
         repeat (first | refine aq ?_ | refine ap (by rfl : apartB 0 _ _ = true) ?_ | refine ak ?_ | refine ab ?_ | refine al ?_ | ((first | refine ar ?_ | refine ad ty_mix (by kernel_rfl) ?_ | refine ac ?_ | refine ae ?_ | with_reducible refine Later.mk ?_); simp only [evD, evL, iteL, aX, St.said, St.asked, evStep, evOp, evP, St.init, St.app, srcStep, kill, setMany, loadS, fieldS, buildS, toks, Fin, upd_app, Array.isEmpty, reduceLT, reduceAdd, reduceMul, reduceLeDiff, reduceSub, reduceEqDiff, reduceCtorEq, reduceIte, ↓Opt.is, ↓Opt.no, ↓Asks.yes, ↓Asks.no, tyL, encL, asB]))
         refine Ab.ret ?_; simp only [evD, evL, iteL, aX, St.said, St.asked, evStep, evOp, evP, St.init, St.app, srcStep, kill, setMany, loadS, fieldS, buildS, toks, Fin, upd_app, Array.isEmpty, reduceLT, reduceAdd, reduceMul, reduceLeDiff, reduceSub, reduceEqDiff, reduceCtorEq, reduceIte, ↓Opt.is, ↓Opt.no, ↓Asks.yes, ↓Asks.no, tyL, encL, leL, leD, ne_eq, frL, preM, postM, keysM, B.okM, List.mem_cons, List.not_mem_nil, or_false, false_or, true_or, or_true, EndsW, FinW, LeR, oneOf, fM, updl, allM, List.nodup_cons, Tryz.f70]
   · rw [if_neg c1, List.nil_append]
     have c1 : fitsL l s (x : Int) = false := by simpa using c1
     rw [c1] at hf
     generalize walkS n l d s = W2 at *
     refine AW.ren (i := 80) (by decide) (by decide) ?_
     refine AW.intro 16 Tryz.func70 rfl (by decide) ⟨by simp [keysM], by simp [keysM], by simp [S.wfs, S.wf, updl, upd], by simp [wfM, wfB, wfI, S.wfs, S.wf, updl, upd], by simp [S.wf, S.wfs, updl, upd], by simp [wfM, wfB, wfI, S.wfs, S.wf, updl, upd]⟩ (by simp [keysM]) (by simp [Tryz.f70]) ?_; rw [Tryz.ntmps70]; simp only [St.initW, fM, keysM, updl, List.map_cons, List.map_nil]
     repeat (first | refine aq ?_ | refine ap (by rfl : apartB 0 _ _ = true) ?_ | refine ak ?_ | refine ab ?_ | refine al ?_ | ((first | refine ar ?_ | refine ad ty_mix (by kernel_rfl) ?_ | refine ac ?_ | refine ae ?_ | with_reducible refine Later.mk ?_); simp only [evD, evL, iteL, aX, St.said, St.asked, evStep, evOp, evP, St.init, St.app, srcStep, kill, setMany, loadS, fieldS, buildS, toks, Fin, upd_app, Array.isEmpty, reduceLT, reduceAdd, reduceMul, reduceLeDiff, reduceSub, reduceEqDiff, reduceCtorEq, reduceIte, ↓Opt.is, ↓Opt.no, ↓Asks.yes, ↓Asks.no, tyL, encL, hbe, asB]))
     refine Kw.ac ?_; simp only [evD, evL, iteL, aX, St.said, St.asked, evStep, evOp, evP, St.init, St.app, srcStep, kill, setMany, loadS, fieldS, buildS, toks, Fin, upd_app, Array.isEmpty, reduceLT, reduceAdd, reduceMul, reduceLeDiff, reduceSub, reduceEqDiff, reduceCtorEq, reduceIte, ↓Opt.is, ↓Opt.no, ↓Asks.yes, ↓Asks.no, tyL, encL]
     refine ⟨_, hf, ?_⟩; (repeat (first | refine ap (by rfl : apartB 0 _ _ = true) ?_ | refine ap (by simp [osL, D.flat]) ?_)); repeat (first | refine aq ?_ | refine ap (by rfl : apartB 0 _ _ = true) ?_ | refine ak ?_ | refine ab ?_ | refine al ?_ | ((first | refine ar ?_ | refine ad ty_mix (by kernel_rfl) ?_ | refine ac ?_ | refine ae ?_ | with_reducible refine Later.mk ?_); simp only [evD, evL, iteL, aX, St.said, St.asked, evStep, evOp, evP, St.init, St.app, srcStep, kill, setMany, loadS, fieldS, buildS, toks, Fin, upd_app, Array.isEmpty, reduceLT, reduceAdd, reduceMul, reduceLeDiff, reduceSub, reduceEqDiff, reduceCtorEq, reduceIte, ↓Opt.is, ↓Opt.no, ↓Asks.yes, ↓Asks.no, tyL, encL, asB]))
     refine Ab.loopI l.length (fun _ => True) (fun i => mkS 75 [(0, .d (.v (.int .i64 (n : Int)))), (1, .d (.sl (List.map encE l))), (2, .d (.sl (List.map encI s))), (3, .d (.v (.int .i64 (x : Int)))), (9, .g 80 []), (10, .d (.v (.bool ((l.take i).any fun e => decide (e.a = (x : Int)) || decide (e.b = (x : Int)))))), (11, .d (.v (.int .i64 (i : Int))))] [(80, .tip true 55 1 []), (9, .frm []), (11, .dead)] 208) trivial ?_ ?_
     · ((first | refine Le.mk rfl ?_ ?_ | refine LeTo.mk rfl ?_ ?_) <;> simp only [evD, evL, iteL, aX, St.said, St.asked, evStep, evOp, evP, St.init, St.app, srcStep, kill, setMany, loadS, fieldS, buildS, toks, Fin, upd_app, Array.isEmpty, reduceLT, reduceAdd, reduceMul, reduceLeDiff, reduceSub, reduceEqDiff, reduceCtorEq, reduceIte, ↓Opt.is, ↓Opt.no, ↓Asks.yes, ↓Asks.no, tyL, encL, leL, leD, ne_eq, List.take_zero, List.any_nil, frL, wfI])
     intro i hi _
     repeat (first | refine aq ?_ | refine ap (by rfl : apartB 0 _ _ = true) ?_ | refine ak ?_ | refine ab ?_ | refine al ?_ | ((first | refine ar ?_ | refine ad ty_mix (by kernel_rfl) ?_ | refine ac ?_ | refine ae ?_ | with_reducible refine Later.mk ?_); simp only [evD, evL, iteL, aX, St.said, St.asked, evStep, evOp, evP, St.init, St.app, srcStep, kill, setMany, loadS, fieldS, buildS, toks, Fin, upd_app, Array.isEmpty, reduceLT, reduceAdd, reduceMul, reduceLeDiff, reduceSub, reduceEqDiff, reduceCtorEq, reduceIte, ↓Opt.is, ↓Opt.no, ↓Asks.yes, ↓Asks.no, tyL, encL, mkS, updl, asB]))
     refine ⟨fun h => ?_, fun h => ?_⟩
     · have h : i < l.length := by simpa using h
       have hw := wrapN h (by omega)
       have z3 : ∀ x : Nat, (0 ≤ (x : Int)) = True := fun x => eq_true (by omega)
       have hst := any_sn l (fun e => decide (e.a = (x : Int)) || decide (e.b = (x : Int))) h
       rcases Bool.eq_false_or_eq_true ((l.take i).any fun e => decide (e.a = (x : Int)) || decide (e.b = (x : Int))) with m1 | m1 <;> rw [m1] at hst ⊢
       · rw [Bool.true_or] at hst
         repeat (first | refine aq ?_ | refine ap (by rfl : apartB 0 _ _ = true) ?_ | refine ak ?_ | refine ab ?_ | refine al ?_ | ((first | refine ar ?_ | refine ad ty_mix (by kernel_rfl) ?_ | refine ac ?_ | refine ae ?_ | with_reducible refine Later.mk ?_); simp only [evD, evL, iteL, aX, St.said, St.asked, evStep, evOp, evP, St.init, St.app, srcStep, kill, setMany, loadS, fieldS, buildS, toks, Fin, upd_app, Array.isEmpty, reduceLT, reduceAdd, reduceMul, reduceLeDiff, reduceSub, reduceEqDiff, reduceCtorEq, reduceIte, ↓Opt.is, ↓Opt.no, ↓Asks.yes, ↓Asks.no, tyL, encL, getE h, encE, z3, hw, asB]))
         refine ⟨h, ?_⟩
         ((first | refine Le.mk rfl ?_ ?_ | refine LeTo.mk rfl ?_ ?_) <;> simp only [evD, evL, iteL, aX, St.said, St.asked, evStep, evOp, evP, St.init, St.app, srcStep, kill, setMany, loadS, fieldS, buildS, toks, Fin, upd_app, Array.isEmpty, reduceLT, reduceAdd, reduceMul, reduceLeDiff, reduceSub, reduceEqDiff, reduceCtorEq, reduceIte, ↓Opt.is, ↓Opt.no, ↓Asks.yes, ↓Asks.no, tyL, encL, leL, leD, ne_eq, hst, frL, wfI])
       · rw [Bool.false_or] at hst
         by_cases m2 : l[i].a = (x : Int)
         · have b2 : (l[i].a == (x : Int)) = true := beq_iff_eq.2 m2
           rw [decide_eq_true m2, Bool.true_or] at hst
           repeat (first | refine aq ?_ | refine ap (by rfl : apartB 0 _ _ = true) ?_ | refine ak ?_ | refine ab ?_ | refine al ?_ | ((first | refine ar ?_ | refine ad ty_mix (by kernel_rfl) ?_ | refine ac ?_ | refine ae ?_ | with_reducible refine Later.mk ?_); simp only [evD, evL, iteL, aX, St.said, St.asked, evStep, evOp, evP, St.init, St.app, srcStep, kill, setMany, loadS, fieldS, buildS, toks, Fin, upd_app, Array.isEmpty, reduceLT, reduceAdd, reduceMul, reduceLeDiff, reduceSub, reduceEqDiff, reduceCtorEq, reduceIte, ↓Opt.is, ↓Opt.no, ↓Asks.yes, ↓Asks.no, tyL, encL, getE h, encE, z3, b2, hw, asB]))
           refine ⟨h, ?_⟩
           ((first | refine Le.mk rfl ?_ ?_ | refine LeTo.mk rfl ?_ ?_) <;> simp only [evD, evL, iteL, aX, St.said, St.asked, evStep, evOp, evP, St.init, St.app, srcStep, kill, setMany, loadS, fieldS, buildS, toks, Fin, upd_app, Array.isEmpty, reduceLT, reduceAdd, reduceMul, reduceLeDiff, reduceSub, reduceEqDiff, reduceCtorEq, reduceIte, ↓Opt.is, ↓Opt.no, ↓Asks.yes, ↓Asks.no, tyL, encL, leL, leD, ne_eq, hst, frL, wfI])
         · have b2 : (l[i].a == (x : Int)) = false := beq_eq_false_iff_ne.2 m2
           rw [decide_eq_false m2, Bool.false_or] at hst
           have b3 : (l[i].b == (x : Int)) = decide (l[i].b = (x : Int)) := rfl
           repeat (first | refine aq ?_ | refine ap (by rfl : apartB 0 _ _ = true) ?_ | refine ak ?_ | refine ab ?_ | refine al ?_ | ((first | refine ar ?_ | refine ad ty_mix (by kernel_rfl) ?_ | refine ac ?_ | refine ae ?_ | with_reducible refine Later.mk ?_); simp only [evD, evL, iteL, aX, St.said, St.asked, evStep, evOp, evP, St.init, St.app, srcStep, kill, setMany, loadS, fieldS, buildS, toks, Fin, upd_app, Array.isEmpty, reduceLT, reduceAdd, reduceMul, reduceLeDiff, reduceSub, reduceEqDiff, reduceCtorEq, reduceIte, ↓Opt.is, ↓Opt.no, ↓Asks.yes, ↓Asks.no, tyL, encL, getE h, encE, z3, b2, b3, hw, asB]))
           refine ⟨h, ?_⟩
           ((first | refine Le.mk rfl ?_ ?_ | refine LeTo.mk rfl ?_ ?_) <;> simp only [evD, evL, iteL, aX, St.said, St.asked, evStep, evOp, evP, St.init, St.app, srcStep, kill, setMany, loadS, fieldS, buildS, toks, Fin, upd_app, Array.isEmpty, reduceLT, reduceAdd, reduceMul, reduceLeDiff, reduceSub, reduceEqDiff, reduceCtorEq, reduceIte, ↓Opt.is, ↓Opt.no, ↓Asks.yes, ↓Asks.no, tyL, encL, leL, leD, ne_eq, hst, frL, wfI])
     · have h : i = l.length := by have := of_decide_eq_false h; omega
       subst h
       have hmt : (l.any fun e => decide (e.a = (x : Int)) || decide (e.b = (x : Int))) = metL l (x : Int) := rfl
       rw [List.take_length, hmt]
       by_cases c2 : metL l (x : Int) = true
       · rw [if_pos c2, c2]
         repeat (first | refine aq ?_ | refine ap (by rfl : apartB 0 _ _ = true) ?_ | refine ak ?_ | refine ab ?_ | refine al ?_ | ((first | refine ar ?_ | refine ad ty_mix (by kernel_rfl) ?_ | refine ac ?_ | refine ae ?_ | with_reducible refine Later.mk ?_); simp only [evD, evL, iteL, aX, St.said, St.asked, evStep, evOp, evP, St.init, St.app, srcStep, kill, setMany, loadS, fieldS, buildS, toks, Fin, upd_app, Array.isEmpty, reduceLT, reduceAdd, reduceMul, reduceLeDiff, reduceSub, reduceEqDiff, reduceCtorEq, reduceIte, ↓Opt.is, ↓Opt.no, ↓Asks.yes, ↓Asks.no, tyL, encL, hwn, asB]))
         refine Kw.aw ⟨_, _, _, _, hw2, ?_⟩; simp only [evD, evL, iteL, aX, St.said, St.asked, evStep, evOp, evP, St.init, St.app, srcStep, kill, setMany, loadS, fieldS, buildS, toks, Fin, upd_app, Array.isEmpty, reduceLT, reduceAdd, reduceMul, reduceLeDiff, reduceSub, reduceEqDiff, reduceCtorEq, reduceIte, ↓Opt.is, ↓Opt.no, ↓Asks.yes, ↓Asks.no, tyL, encL, leL, leD, ne_eq, frL, preM, postM, keysM, B.okM, List.mem_cons, List.not_mem_nil, or_false, false_or, true_or, or_true, hwn]; repeat (first | refine aq ?_ | refine ap (by rfl : apartB 0 _ _ = true) ?_ | refine ak ?_ | refine ab ?_ | refine al ?_ | ((first | refine ar ?_ | refine ad ty_mix (by kernel_rfl) ?_ | refine ac ?_ | refine ae ?_ | with_reducible refine Later.mk ?_); simp only [evD, evL, iteL, aX, St.said, St.asked, evStep, evOp, evP, St.init, St.app, srcStep, kill, setMany, loadS, fieldS, buildS, toks, Fin, upd_app, Array.isEmpty, reduceLT, reduceAdd, reduceMul, reduceLeDiff, reduceSub, reduceEqDiff, reduceCtorEq, reduceIte, ↓Opt.is, ↓Opt.no, ↓Asks.yes, ↓Asks.no, tyL, encL, hwn, asB]))
         refine ⟨encB_len _, false, (fun h => by cases h), Later.mk ?_⟩
         simp only [evD, evL, iteL, aX, St.said, St.asked, evStep, evOp, evP, St.init, St.app, srcStep, kill, setMany, loadS, fieldS, buildS, toks, Fin, upd_app, Array.isEmpty, reduceLT, reduceAdd, reduceMul, reduceLeDiff, reduceSub, reduceEqDiff, reduceCtorEq, reduceIte, ↓Opt.is, ↓Opt.no, ↓Asks.yes, ↓Asks.no, tyL, encL]
         refine ⟨by simp only [maxLen, List.length_nil]; omega, by first | omega | (simp only [List.length_nil]; omega), ?_⟩
         repeat (first | refine aq ?_ | refine ap (by rfl : apartB 0 _ _ = true) ?_ | refine ak ?_ | refine ab ?_ | refine al ?_ | ((first | refine ar ?_ | refine ad ty_mix (by kernel_rfl) ?_ | refine ac ?_ | refine ae ?_ | with_reducible refine Later.mk ?_); simp only [evD, evL, iteL, aX, St.said, St.asked, evStep, evOp, evP, St.init, St.app, srcStep, kill, setMany, loadS, fieldS, buildS, toks, Fin, upd_app, Array.isEmpty, reduceLT, reduceAdd, reduceMul, reduceLeDiff, reduceSub, reduceEqDiff, reduceCtorEq, reduceIte, ↓Opt.is, ↓Opt.no, ↓Asks.yes, ↓Asks.no, tyL, encL, asB]))
         refine Ab.ret ?_; simp only [evD, evL, iteL, aX, St.said, St.asked, evStep, evOp, evP, St.init, St.app, srcStep, kill, setMany, loadS, fieldS, buildS, toks, Fin, upd_app, Array.isEmpty, reduceLT, reduceAdd, reduceMul, reduceLeDiff, reduceSub, reduceEqDiff, reduceCtorEq, reduceIte, ↓Opt.is, ↓Opt.no, ↓Asks.yes, ↓Asks.no, tyL, encL, leL, leD, ne_eq, frL, preM, postM, keysM, B.okM, List.mem_cons, List.not_mem_nil, or_false, false_or, true_or, or_true, EndsW, FinW, LeR, oneOf, fM, updl, allM, List.nodup_cons, Tryz.f70]
       · rw [if_neg c2]
         have c2 : metL l (x : Int) = false := by simpa using c2
         rw [c2]
         repeat (first | refine aq ?_ | refine ap (by rfl : apartB 0 _ _ = true) ?_ | refine ak ?_ | refine ab ?_ | refine al ?_ | ((first | refine ar ?_ | refine ad ty_mix (by kernel_rfl) ?_ | refine ac ?_ | refine ae ?_ | with_reducible refine Later.mk ?_); simp only [evD, evL, iteL, aX, St.said, St.asked, evStep, evOp, evP, St.init, St.app, srcStep, kill, setMany, loadS, fieldS, buildS, toks, Fin, upd_app, Array.isEmpty, reduceLT, reduceAdd, reduceMul, reduceLeDiff, reduceSub, reduceEqDiff, reduceCtorEq, reduceIte, ↓Opt.is, ↓Opt.no, ↓Asks.yes, ↓Asks.no, tyL, encL, asB]))
         refine Ab.ret ?_; simp only [evD, evL, iteL, aX, St.said, St.asked, evStep, evOp, evP, St.init, St.app, srcStep, kill, setMany, loadS, fieldS, buildS, toks, Fin, upd_app, Array.isEmpty, reduceLT, reduceAdd, reduceMul, reduceLeDiff, reduceSub, reduceEqDiff, reduceCtorEq, reduceIte, ↓Opt.is, ↓Opt.no, ↓Asks.yes, ↓Asks.no, tyL, encL, leL, leD, ne_eq, frL, preM, postM, keysM, B.okM, List.mem_cons, List.not_mem_nil, or_false, false_or, true_or, or_true, EndsW, FinW, LeR, oneOf, fM, updl, allM, List.nodup_cons, Tryz.f70]
end Ab
/- Chapter 8: all maximal independent sets and the size of the largest, both sides. -/
open Go Go.Proofs Go.RowKit
namespace Ab
theorem specMaximalIndependentSets_a {n : Int} {l : List Edg} (gE : (eSlice eEdg).good l) (hl : l.length ≤ 1048576) : AC Tryz.prog 50 [.d (.v (.int .i64 n)), .d (encEs l)] (.d (encIss (miL n l))) := by
 have hc1 := specAreValidEdges_a (n := n) gE
 unfold miL
 rcases Bool.eq_false_or_eq_true (validE n l) with hd | hd
 · obtain ⟨m, rfl, hm, hok⟩ := miE_ok hd
   have hw := l8Walk_w gE hl hm m 0 [] (by omega) ⟨by simp [maxLen], by simp⟩ (by simp)
   rw [walk_top hm hok hd] at hw
   rw [hd] at hc1 ⊢
   rw [if_pos rfl, Int.toNat_natCast]
   generalize List.map (elemsN 64) (walkB (grf m l) m m 0) = W at *
   refine AC.intro Tryz.func50 rfl (by decide) (by simp [S.res, S.ress]) (by simp [S.os, S.oss]) (by simp [S.wfs, S.wf, dbS]) (by simp [Tryz.f50]) ?_; rw [Tryz.ntmps50]
   refine Ab.weaken (Le.flag (by simp only [evD, evL, iteL, aX, St.said, St.asked, evStep, evOp, evP, St.init, St.app, srcStep, kill, setMany, loadS, fieldS, buildS, toks, Fin, upd_app, Array.isEmpty, reduceLT, reduceAdd, reduceMul, reduceLeDiff, reduceSub, reduceEqDiff, reduceCtorEq, reduceIte, ↓Opt.is, ↓Opt.no, ↓Asks.yes, ↓Asks.no, tyL, encL])) ?_
   simp only [evD, evL, iteL, aX, St.said, St.asked, evStep, evOp, evP, St.init, St.app, srcStep, kill, setMany, loadS, fieldS, buildS, toks, Fin, upd_app, Array.isEmpty, reduceLT, reduceAdd, reduceMul, reduceLeDiff, reduceSub, reduceEqDiff, reduceCtorEq, reduceIte, ↓Opt.is, ↓Opt.no, ↓Asks.yes, ↓Asks.no, tyL, encL]
   repeat (first | refine aq ?_ | refine ap (by rfl : apartB 0 _ _ = true) ?_ | refine ak ?_ | refine ab ?_ | refine al ?_ | ((first | refine ar ?_ | refine ad ty_mix (by kernel_rfl) ?_ | refine ac ?_ | refine ae ?_ | with_reducible refine Later.mk ?_); simp only [evD, evL, iteL, aX, St.said, St.asked, evStep, evOp, evP, St.init, St.app, srcStep, kill, setMany, loadS, fieldS, buildS, toks, Fin, upd_app, Array.isEmpty, reduceLT, reduceAdd, reduceMul, reduceLeDiff, reduceSub, reduceEqDiff, reduceCtorEq, reduceIte, ↓Opt.is, ↓Opt.no, ↓Asks.yes, ↓Asks.no, tyL, encL, asB]))
   refine Kw.ac ?_; simp only [evD, evL, iteL, aX, St.said, St.asked, evStep, evOp, evP, St.init, St.app, srcStep, kill, setMany, loadS, fieldS, buildS, toks, Fin, upd_app, Array.isEmpty, reduceLT, reduceAdd, reduceMul, reduceLeDiff, reduceSub, reduceEqDiff, reduceCtorEq, reduceIte, ↓Opt.is, ↓Opt.no, ↓Asks.yes, ↓Asks.no, tyL, encL]
   refine ⟨_, hc1, ?_⟩; (repeat (first | refine ap (by rfl : apartB 0 _ _ = true) ?_ | refine ap (by simp [osL, D.flat]) ?_)); repeat (first | refine aq ?_ | refine ap (by rfl : apartB 0 _ _ = true) ?_ | refine ak ?_ | refine ab ?_ | refine al ?_ | ((first | refine ar ?_ | refine ad ty_mix (by kernel_rfl) ?_ | refine ac ?_ | refine ae ?_ | with_reducible refine Later.mk ?_); simp only [evD, evL, iteL, aX, St.said, St.asked, evStep, evOp, evP, St.init, St.app, srcStep, kill, setMany, loadS, fieldS, buildS, toks, Fin, upd_app, Array.isEmpty, reduceLT, reduceAdd, reduceMul, reduceLeDiff, reduceSub, reduceEqDiff, reduceCtorEq, reduceIte, ↓Opt.is, ↓Opt.no, ↓Asks.yes, ↓Asks.no, tyL, encL, asB]))
   refine Kw.aw ⟨_, _, _, _, hw, ?_⟩; simp only [evD, evL, iteL, aX, St.said, St.asked, evStep, evOp, evP, St.init, St.app, srcStep, kill, setMany, loadS, fieldS, buildS, toks, Fin, upd_app, Array.isEmpty, reduceLT, reduceAdd, reduceMul, reduceLeDiff, reduceSub, reduceEqDiff, reduceCtorEq, reduceIte, ↓Opt.is, ↓Opt.no, ↓Asks.yes, ↓Asks.no, tyL, encL, leL, leD, ne_eq, frL, preM, postM, keysM, B.okM, List.mem_cons, List.not_mem_nil, or_false, false_or, true_or, or_true]; repeat (first | refine aq ?_ | refine ap (by rfl : apartB 0 _ _ = true) ?_ | refine ak ?_ | refine ab ?_ | refine al ?_ | ((first | refine ar ?_ | refine ad ty_mix (by kernel_rfl) ?_ | refine ac ?_ | refine ae ?_ | with_reducible refine Later.mk ?_); simp only [evD, evL, iteL, aX, St.said, St.asked, evStep, evOp, evP, St.init, St.app, srcStep, kill, setMany, loadS, fieldS, buildS, toks, Fin, upd_app, Array.isEmpty, reduceLT, reduceAdd, reduceMul, reduceLeDiff, reduceSub, reduceEqDiff, reduceCtorEq, reduceIte, ↓Opt.is, ↓Opt.no, ↓Asks.yes, ↓Asks.no, tyL, encL, asB]))
   refine Ab.ret ?_; simp only [evD, evL, iteL, aX, St.said, St.asked, evStep, evOp, evP, St.init, St.app, srcStep, kill, setMany, loadS, fieldS, buildS, toks, Fin, upd_app, Array.isEmpty, reduceLT, reduceAdd, reduceMul, reduceLeDiff, reduceSub, reduceEqDiff, reduceCtorEq, reduceIte, ↓Opt.is, ↓Opt.no, ↓Asks.yes, ↓Asks.no, tyL, List.nodup_cons, encL, Tryz.f50]
 · rw [hd] at hc1 ⊢
   rw [if_neg (by simp)]
   refine AC.intro Tryz.func50 rfl (by decide) (by simp [S.res, S.ress]) (by simp [S.os, S.oss]) (by simp [S.wfs, S.wf, dbS]) (by simp [Tryz.f50]) ?_; rw [Tryz.ntmps50]
   repeat (first | refine aq ?_ | refine ap (by rfl : apartB 0 _ _ = true) ?_ | refine ak ?_ | refine ab ?_ | refine al ?_ | ((first | refine ar ?_ | refine ad ty_mix (by kernel_rfl) ?_ | refine ac ?_ | refine ae ?_ | with_reducible refine Later.mk ?_); simp only [evD, evL, iteL, aX, St.said, St.asked, evStep, evOp, evP, St.init, St.app, srcStep, kill, setMany, loadS, fieldS, buildS, toks, Fin, upd_app, Array.isEmpty, reduceLT, reduceAdd, reduceMul, reduceLeDiff, reduceSub, reduceEqDiff, reduceCtorEq, reduceIte, ↓Opt.is, ↓Opt.no, ↓Asks.yes, ↓Asks.no, tyL, encL, asB]))
   refine ⟨_, hc1, ?_⟩; (repeat (first | refine ap (by rfl : apartB 0 _ _ = true) ?_ | refine ap (by simp [osL, D.flat]) ?_)); repeat (first | refine aq ?_ | refine ap (by rfl : apartB 0 _ _ = true) ?_ | refine ak ?_ | refine ab ?_ | refine al ?_ | ((first | refine ar ?_ | refine ad ty_mix (by kernel_rfl) ?_ | refine ac ?_ | refine ae ?_ | with_reducible refine Later.mk ?_); simp only [evD, evL, iteL, aX, St.said, St.asked, evStep, evOp, evP, St.init, St.app, srcStep, kill, setMany, loadS, fieldS, buildS, toks, Fin, upd_app, Array.isEmpty, reduceLT, reduceAdd, reduceMul, reduceLeDiff, reduceSub, reduceEqDiff, reduceCtorEq, reduceIte, ↓Opt.is, ↓Opt.no, ↓Asks.yes, ↓Asks.no, tyL, encL, asB]))
   refine Ab.ret ?_; simp only [evD, evL, iteL, aX, St.said, St.asked, evStep, evOp, evP, St.init, St.app, srcStep, kill, setMany, loadS, fieldS, buildS, toks, Fin, upd_app, Array.isEmpty, reduceLT, reduceAdd, reduceMul, reduceLeDiff, reduceSub, reduceEqDiff, reduceCtorEq, reduceIte, ↓Opt.is, ↓Opt.no, ↓Asks.yes, ↓Asks.no, tyL, List.nodup_cons, encL, Tryz.f50]
theorem miL_len (n : Int) (l : List Edg) : (miL n l).length ≤ 16384 := by
 unfold miL
 split
 · rename_i h
   obtain ⟨m, rfl, hm, hok⟩ := miE_ok h
   rw [List.length_map, Int.toNat_natCast]
   exact Nat.le_trans (walkB_len _ _ _ _) (Nat.pow_le_pow_right (n := 2) (by omega) hm)
 · simp
theorem miL_mem {n : Int} {l : List Edg} {s : List Int} (h : s ∈ miL n l) : s.length ≤ 64 ∧ (eSlice eInt).good s := by
 unfold miL at h
 split at h
 · obtain ⟨b, _, rfl⟩ := List.mem_map.1 h
   refine ⟨elems_len 64 b, by have := elems_len 64 b; simp only [maxLen]; omega, fun y hy => ?_⟩
   obtain ⟨v, h1, _, rfl⟩ := elems_mem.1 hy
   exact ⟨by omega, by omega⟩
 · simp at h
def mxP (L : List (List Int)) : Nat → Nat
 | 0 => 0
 | i + 1 => max (mxP L i) (L.getD i []).length
def miN (n : Int) (l : List Edg) : Int := (mxP (miL n l) (miL n l).length : Nat)
end Ab
/- How large the marks in all maximal independent sets can be. -/
open Go Go.Proofs Go.RowKit
namespace Ab
theorem lvs_each (L : List (List Int)) (h : ∀ s, s ∈ L → s.length ≤ 64) : lvs List.length L ≤ L.length * 64 := by
 induction L with
 | nil => exact Nat.le_refl 0
 | cons x L ih =>
   have h1 := ih (fun s hs => h s (List.mem_cons_of_mem _ hs))
   have h2 := h x (by simp)
   unfold lvs at *
   rw [List.map_cons, List.sum_cons, List.length_cons]
   omega
end Ab
end
end Go.Proofs.YtgipcnofonejcaaGreatDoor

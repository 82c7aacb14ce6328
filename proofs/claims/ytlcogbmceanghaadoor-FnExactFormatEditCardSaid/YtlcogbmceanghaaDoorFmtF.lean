/- Facts as text. -/
import Derived.Test.YtlcogbmceanghaaDoorBldS
import Derived.Test.YtlcogbmceanghaaDoorFmtK
import Derived.Test.YtlcogbmceanghaaDoorRelOne
import Derived.Test.YtlcogbmceanghaaDoorKeyOne
open Go Go.Proofs Go.RowKit
namespace Go.Proofs.YtlcogbmceanghaaDoor.Ab
set_option linter.unusedSimpArgs false
set_option linter.unusedVariables false
set_option maxRecDepth 100000
theorem formatRow_a {g : FuncId} {F : Int → ByteArray} {r : Rel} {l : List Int} (gl : (eSlice eInt).good l) (hr : r.name.size ≤ 1048576) (hl : l.length ≤ 1048576) (hs : ∀ x, x ∈ l → (F x).size ≤ 21) (he : ∀ args ww, (callFunc g args).run Tryd.prog ww = .ok (.enter g args) ww)
    (hF : ∀ x, x ∈ l → AC Tryd.prog g [.d (.v (.int .i64 x))] (.d (.v (.string (F x))))) :
    AC Tryd.prog 106 [relS r, .d (encIs l), .f (.func g) [] []] (.d (.v (.string (rowB F r l)))) :=
  AC.plainG Tryd.func106 rfl (by decide) rfl (fun w K cs ov hg hK hr' => by
    simp only [RdSs] at hr'
    obtain ⟨v0, _, rfl, q0, v1, _, rfl, q1, v2, _, rfl, q2, rfl⟩ := hr'
    simp only [relS, RdS, RdSs, RdD] at q0
    obtain ⟨_, rfl, ⟨_, _, rfl, ⟨rfl, _⟩, _, _, rfl, ⟨rfl, _⟩, _, _, rfl, ⟨rfl, _⟩, rfl⟩, _⟩ := q0
    obtain ⟨a, c, rfl, h⟩ := ints_cut gl hK q1
    simp only [RdS, RdSs] at q2
    obtain ⟨_, _, rfl, rfl, rfl⟩ := q2
    exact formatRow_c hg h hr hl hs he (fun x hx ww hgw => by
      refine Calls.mono ((hF x hx).call (cs := [_]) ?_ hgw) ?_
      · simp only [RdSs]
        exact ⟨_, _, rfl, RdS.ofVal _ _ rfl, rfl⟩
      · rintro e w' ⟨c, rfl, q1, q2⟩
        exact ⟨by rw [q1.d], q2⟩))
theorem implIsValidFact_a {l : List Rel} {x : Fct} (gl : (eSlice eRel).good l) (gx : eFct.good x) : AC Tryd.prog 111 [.d (encRs l), factS x] (.d (.v (.bool (validFact l x)))) :=
  AC.plain Tryd.func111 rfl (by decide) rfl (fun w K cs ov hK hr => by
    simp only [RdSs] at hr
    obtain ⟨v0, _, rfl, q0, v1, _, rfl, q1, rfl⟩ := hr
    obtain ⟨a0, c0, rfl, h0⟩ := rels_cut gl hK q0
    obtain ⟨a1, c1, rfl, h1⟩ := fact_cut gx hK q1
    exact implIsValidFact_c h0 h1)
theorem specIsValidFact_a {l : List Rel} {x : Fct} (gl : (eSlice eRel).good l) (gx : eFct.good x) : AC Tryd.prog 110 [.d (encRs l), factS x] (.d (.v (.bool (validFact l x)))) :=
  AC.plain Tryd.func110 rfl (by decide) rfl (fun w K cs ov hK hr => by
    simp only [RdSs] at hr
    obtain ⟨v0, _, rfl, q0, v1, _, rfl, q1, rfl⟩ := hr
    obtain ⟨a0, c0, rfl, h0⟩ := rels_cut gl hK q0
    obtain ⟨a1, c1, rfl, h1⟩ := fact_cut gx hK q1
    exact specIsValidFact_c h0 h1)
/-- A fact's text. -/
def relAtN (l : List Rel) (r : Int) : Rel := l.getD r.toNat ⟨⟨#[]⟩, 0, 0⟩
def factB (l : List Rel) (x : Fct) : ByteArray := if validFact l x = true then rowB itoaB (relAtN l x.rel) x.vals else ⟨#[]⟩
theorem fact_facts {l : List Rel} {x : Fct} (h : validFact l x = true) : ∃ (k : Nat) (hk : k < l.length), x.rel = (k : Int) ∧ relAtN l x.rel = l[k] ∧ l[k].name.size = 1 ∧ x.vals.length ≤ 3 := by
  obtain ⟨k, p, hk, h1, h2, h3, h4, h5, h6⟩ := validFact_key h
  refine ⟨k, hk, h1, ?_, ?_, h4⟩
  · unfold relAtN
    rw [h1, Int.toNat_natCast, List.getD_eq_getElem?_getD, List.getElem?_eq_getElem hk]
    rfl
  · unfold validFact validRels at h
    simp only [Bool.and_eq_true] at h
    exact (validRel_facts (ascFrom_all _ none h.1.1 _ (List.getElem_mem hk))).1
theorem enterI : ∀ args ww, (callFunc 109 args).run Tryd.prog ww = .ok (.enter 109 args) ww := enters_of Tryd.func109 (by kernel_rfl) rfl
theorem implFormatFact_a {l : List Rel} {x : Fct} (gl : (eSlice eRel).good l) (gx : eFct.good x) : AC Tryd.prog 70 [.d (encRs l), factS x] (.d (.v (.string (factB l x)))) := by
  have hc := implIsValidFact_a gl gx
  have gv : (eSlice eInt).good x.vals := gx.2
  unfold factB
  rcases Bool.eq_false_or_eq_true (validFact l x) with hd | hd
  · obtain ⟨k, hk, h1, h2, h3, h4⟩ := fact_facts hd
    have hc2 := formatRow_a (g := 109) (F := itoaB) (r := l[k]) gv (by omega) (by omega) (fun y hy => itoaB_size (gv.2 y hy)) enterI (fun y hy => implFormatInt_a (gv.2 y hy))
    rw [hd] at hc ⊢
    rw [if_pos rfl, h2]
    have y1 := getR hk
    have z3 : ∀ x : Nat, (0 ≤ (x : Int)) = True := fun x => eq_true (by omega)
    unfold factS at hc ⊢
    unfold relS at hc2
    rw [h1] at hc ⊢
    refine AC.intro Tryd.func70 rfl (by decide) (by simp [S.res, S.ress]) (by simp [S.os, S.oss]) (by simp [S.wfs, S.wf, dbS]) (by simp [Tryd.f70]) ?_; rw [Tryd.ntmps70]
    repeat (first | refine aq ?_ | refine ap (by rfl : apartB 0 _ _ = true) ?_ | refine ak ?_ | refine ab ?_ | refine al ?_ | ((first | refine ar ?_ | refine ad ty_mix (by kernel_rfl) ?_ | refine ac ?_ | refine ae ?_ | with_reducible refine Later.mk ?_); simp only [evD, evL, iteL, S.arg.eq_12, S.asL.eq_6, St.said, St.asked, evStep, evOp, evP, St.init, St.app, srcStep, kill, setMany, loadS, fieldS, buildS, toks, Fin, upd_app, Array.isEmpty, Nat.reduceLT, Nat.reduceAdd, Nat.reduceMul, Nat.reduceLeDiff, Nat.reduceSub, Nat.reduceEqDiff, reduceCtorEq, reduceIte, ↓Opt.is, ↓Opt.no, ↓Asks.yes, ↓Asks.no, tyL, encL, asB]))
    refine ⟨_, hc, ?_⟩; (repeat (first | refine ap (by rfl : apartB 0 _ _ = true) ?_ | refine ap (by simp [osL, D.flat]) ?_)); repeat (first | refine aq ?_ | refine ap (by rfl : apartB 0 _ _ = true) ?_ | refine ak ?_ | refine ab ?_ | refine al ?_ | ((first | refine ar ?_ | refine ad ty_mix (by kernel_rfl) ?_ | refine ac ?_ | refine ae ?_ | with_reducible refine Later.mk ?_); simp only [evD, evL, iteL, S.arg.eq_12, S.asL.eq_6, St.said, St.asked, evStep, evOp, evP, St.init, St.app, srcStep, kill, setMany, loadS, fieldS, buildS, toks, Fin, upd_app, Array.isEmpty, Nat.reduceLT, Nat.reduceAdd, Nat.reduceMul, Nat.reduceLeDiff, Nat.reduceSub, Nat.reduceEqDiff, reduceCtorEq, reduceIte, ↓Opt.is, ↓Opt.no, ↓Asks.yes, ↓Asks.no, tyL, encL, y1, z3, Int.toNat_natCast, encR, asB]))
    refine ⟨_, hc2, ?_⟩; (repeat (first | refine ap (by rfl : apartB 0 _ _ = true) ?_ | refine ap (by simp [osL, D.flat]) ?_)); repeat (first | refine aq ?_ | refine ap (by rfl : apartB 0 _ _ = true) ?_ | refine ak ?_ | refine ab ?_ | refine al ?_ | ((first | refine ar ?_ | refine ad ty_mix (by kernel_rfl) ?_ | refine ac ?_ | refine ae ?_ | with_reducible refine Later.mk ?_); simp only [evD, evL, iteL, S.arg.eq_12, S.asL.eq_6, St.said, St.asked, evStep, evOp, evP, St.init, St.app, srcStep, kill, setMany, loadS, fieldS, buildS, toks, Fin, upd_app, Array.isEmpty, Nat.reduceLT, Nat.reduceAdd, Nat.reduceMul, Nat.reduceLeDiff, Nat.reduceSub, Nat.reduceEqDiff, reduceCtorEq, reduceIte, ↓Opt.is, ↓Opt.no, ↓Asks.yes, ↓Asks.no, tyL, encL, asB]))
    refine Ab.ret ?_; simp only [evD, evL, iteL, S.arg.eq_12, S.asL.eq_6, St.said, St.asked, evStep, evOp, evP, St.init, St.app, srcStep, kill, setMany, loadS, fieldS, buildS, toks, Fin, upd_app, Array.isEmpty, Nat.reduceLT, Nat.reduceAdd, Nat.reduceMul, Nat.reduceLeDiff, Nat.reduceSub, Nat.reduceEqDiff, reduceCtorEq, reduceIte, ↓Opt.is, ↓Opt.no, ↓Asks.yes, ↓Asks.no, tyL, List.nodup_cons, encL, Tryd.f70]
  · rw [hd] at hc ⊢
    rw [if_neg (by simp)]
    unfold factS at hc ⊢
    refine AC.intro Tryd.func70 rfl (by decide) (by simp [S.res, S.ress]) (by simp [S.os, S.oss]) (by simp [S.wfs, S.wf, dbS]) (by simp [Tryd.f70]) ?_; rw [Tryd.ntmps70]
    repeat (first | refine aq ?_ | refine ap (by rfl : apartB 0 _ _ = true) ?_ | refine ak ?_ | refine ab ?_ | refine al ?_ | ((first | refine ar ?_ | refine ad ty_mix (by kernel_rfl) ?_ | refine ac ?_ | refine ae ?_ | with_reducible refine Later.mk ?_); simp only [evD, evL, iteL, S.arg.eq_12, S.asL.eq_6, St.said, St.asked, evStep, evOp, evP, St.init, St.app, srcStep, kill, setMany, loadS, fieldS, buildS, toks, Fin, upd_app, Array.isEmpty, Nat.reduceLT, Nat.reduceAdd, Nat.reduceMul, Nat.reduceLeDiff, Nat.reduceSub, Nat.reduceEqDiff, reduceCtorEq, reduceIte, ↓Opt.is, ↓Opt.no, ↓Asks.yes, ↓Asks.no, tyL, encL, asB]))
    refine ⟨_, hc, ?_⟩; (repeat (first | refine ap (by rfl : apartB 0 _ _ = true) ?_ | refine ap (by simp [osL, D.flat]) ?_)); repeat (first | refine aq ?_ | refine ap (by rfl : apartB 0 _ _ = true) ?_ | refine ak ?_ | refine ab ?_ | refine al ?_ | ((first | refine ar ?_ | refine ad ty_mix (by kernel_rfl) ?_ | refine ac ?_ | refine ae ?_ | with_reducible refine Later.mk ?_); simp only [evD, evL, iteL, S.arg.eq_12, S.asL.eq_6, St.said, St.asked, evStep, evOp, evP, St.init, St.app, srcStep, kill, setMany, loadS, fieldS, buildS, toks, Fin, upd_app, Array.isEmpty, Nat.reduceLT, Nat.reduceAdd, Nat.reduceMul, Nat.reduceLeDiff, Nat.reduceSub, Nat.reduceEqDiff, reduceCtorEq, reduceIte, ↓Opt.is, ↓Opt.no, ↓Asks.yes, ↓Asks.no, tyL, encL, asB]))
    refine Ab.ret ?_; simp only [evD, evL, iteL, S.arg.eq_12, S.asL.eq_6, St.said, St.asked, evStep, evOp, evP, St.init, St.app, srcStep, kill, setMany, loadS, fieldS, buildS, toks, Fin, upd_app, Array.isEmpty, Nat.reduceLT, Nat.reduceAdd, Nat.reduceMul, Nat.reduceLeDiff, Nat.reduceSub, Nat.reduceEqDiff, reduceCtorEq, reduceIte, ↓Opt.is, ↓Opt.no, ↓Asks.yes, ↓Asks.no, tyL, List.nodup_cons, encL, Tryd.f70]
theorem rowTo_first (F : Int → ByteArray) (k : Int) (name : ByteArray) (l : List Int) : str (rowTo F k name l 0) = name := (str_of name).symm
theorem rowTo_eq {F : Int → ByteArray} {k : Int} {name : ByteArray} {l : List Int} {i : Nat} (h : i < l.length) (hk : (i : Int) = k) : str (rowTo F k name l (i + 1)) = str (rowTo F k name l i) ++ ⟨#[124]⟩ ++ F l[i] := by
  rw [rowTo, if_pos hk, List.getD_eq_getElem?_getD, List.getElem?_eq_getElem h, ← str_append, ← str_append]
  rfl
theorem rowTo_ne {F : Int → ByteArray} {k : Int} {name : ByteArray} {l : List Int} {i : Nat} (h : i < l.length) (hk : (i : Int) ≠ k) : str (rowTo F k name l (i + 1)) = str (rowTo F k name l i) ++ F l[i] := by
  rw [rowTo, if_neg hk, List.getD_eq_getElem?_getD, List.getElem?_eq_getElem h, List.append_nil, ← str_append]
  rfl
theorem specFormatFact_a {l : List Rel} {x : Fct} (gl : (eSlice eRel).good l) (gx : eFct.good x) : AC Tryd.prog 66 [.d (encRs l), factS x] (.d (.v (.string (factB l x)))) := by
  have hc := specIsValidFact_a gl gx
  have gv : (eSlice eInt).good x.vals := gx.2
  unfold factB
  rcases Bool.eq_false_or_eq_true (validFact l x) with hd | hd
  · obtain ⟨k, hk, h1, h2, h3, h4⟩ := fact_facts hd
    rw [hd] at hc ⊢
    rw [if_pos rfl, h2]
    have y1 := getR hk
    have hlen := fun i hi => rowTo_len (F := itoaB) (k := l[k].key) (name := l[k].name) (l := x.vals) (fun y hy => itoaB_size (gv.2 y hy)) i hi
    have z3 : ∀ x : Nat, (0 ≤ (x : Int)) = True := fun x => eq_true (by omega)
    have hf := rowTo_first itoaB l[k].key l[k].name x.vals
    unfold factS at hc ⊢
    rw [h1] at hc ⊢
    unfold rowB
    refine AC.intro Tryd.func66 rfl (by decide) (by simp [S.res, S.ress]) (by simp [S.os, S.oss]) (by simp [S.wfs, S.wf, dbS]) (by simp [Tryd.f66]) ?_; rw [Tryd.ntmps66]
    repeat (first | refine aq ?_ | refine ap (by rfl : apartB 0 _ _ = true) ?_ | refine ak ?_ | refine ab ?_ | refine al ?_ | ((first | refine ar ?_ | refine ad ty_mix (by kernel_rfl) ?_ | refine ac ?_ | refine ae ?_ | with_reducible refine Later.mk ?_); simp only [evD, evL, iteL, S.arg.eq_12, S.asL.eq_6, St.said, St.asked, evStep, evOp, evP, St.init, St.app, srcStep, kill, setMany, loadS, fieldS, buildS, toks, Fin, upd_app, Array.isEmpty, Nat.reduceLT, Nat.reduceAdd, Nat.reduceMul, Nat.reduceLeDiff, Nat.reduceSub, Nat.reduceEqDiff, reduceCtorEq, reduceIte, ↓Opt.is, ↓Opt.no, ↓Asks.yes, ↓Asks.no, tyL, encL, asB]))
    refine ⟨_, hc, ?_⟩; (repeat (first | refine ap (by rfl : apartB 0 _ _ = true) ?_ | refine ap (by simp [osL, D.flat]) ?_)); repeat (first | refine aq ?_ | refine ap (by rfl : apartB 0 _ _ = true) ?_ | refine ak ?_ | refine ab ?_ | refine al ?_ | ((first | refine ar ?_ | refine ad ty_mix (by kernel_rfl) ?_ | refine ac ?_ | refine ae ?_ | with_reducible refine Later.mk ?_); simp only [evD, evL, iteL, S.arg.eq_12, S.asL.eq_6, St.said, St.asked, evStep, evOp, evP, St.init, St.app, srcStep, kill, setMany, loadS, fieldS, buildS, toks, Fin, upd_app, Array.isEmpty, Nat.reduceLT, Nat.reduceAdd, Nat.reduceMul, Nat.reduceLeDiff, Nat.reduceSub, Nat.reduceEqDiff, reduceCtorEq, reduceIte, ↓Opt.is, ↓Opt.no, ↓Asks.yes, ↓Asks.no, tyL, encL, y1, z3, Int.toNat_natCast, encR, asB]))
    refine Ab.loopI x.vals.length (fun _ => True) (fun i => mkS 43 [(0, .d (.sl (List.map encR l))), (3, .p 0 0), (5, .d (.v (.string (str (rowTo itoaB l[k].key l[k].name x.vals i))))), (6, .d (.v (.int .i64 (i : Int))))] [(0, .box [.d (.v (.int .i64 (k : Int))), .d (.sl (List.map encI x.vals))])] 400) trivial ?_ ?_
    · ((first | refine Le.mk rfl ?_ ?_ | refine LeTo.mk rfl ?_ ?_) <;> simp only [evD, evL, iteL, S.arg.eq_12, S.asL.eq_6, St.said, St.asked, evStep, evOp, evP, St.init, St.app, srcStep, kill, setMany, loadS, fieldS, buildS, toks, Fin, upd_app, Array.isEmpty, Nat.reduceLT, Nat.reduceAdd, Nat.reduceMul, Nat.reduceLeDiff, Nat.reduceSub, Nat.reduceEqDiff, reduceCtorEq, reduceIte, ↓Opt.is, ↓Opt.no, ↓Asks.yes, ↓Asks.no, tyL, encL, leL, leD, ne_eq, hf])
    intro i hi _
    repeat (first | refine aq ?_ | refine ap (by rfl : apartB 0 _ _ = true) ?_ | refine ak ?_ | refine ab ?_ | refine al ?_ | ((first | refine ar ?_ | refine ad ty_mix (by kernel_rfl) ?_ | refine ac ?_ | refine ae ?_ | with_reducible refine Later.mk ?_); simp only [evD, evL, iteL, S.arg.eq_12, S.asL.eq_6, St.said, St.asked, evStep, evOp, evP, St.init, St.app, srcStep, kill, setMany, loadS, fieldS, buildS, toks, Fin, upd_app, Array.isEmpty, Nat.reduceLT, Nat.reduceAdd, Nat.reduceMul, Nat.reduceLeDiff, Nat.reduceSub, Nat.reduceEqDiff, reduceCtorEq, reduceIte, ↓Opt.is, ↓Opt.no, ↓Asks.yes, ↓Asks.no, tyL, encL, mkS, updl, asB]))
    refine ⟨fun h => ?_, fun h => ?_⟩
    · have h : i < x.vals.length := by simpa using h
      have hw := wrapN h (by omega)
      have hcf := specFormatInt_a (gv.2 _ (List.getElem_mem h))
      have hs2 := itoaB_size (gv.2 _ (List.getElem_mem h))
      have hsi := hlen i hi
      rw [← str_size] at hsi
      by_cases hkk : (i : Int) = l[k].key
      · have hst := rowTo_eq (F := itoaB) (name := l[k].name) h hkk
        have hbe : ((i : Int) == l[k].key) = true := beq_iff_eq.2 hkk
        generalize str (rowTo itoaB l[k].key l[k].name x.vals i) = A at *
        have e1 : (⟨#[124]⟩ : ByteArray).size = 1 := rfl
        have a1 := addOk A ⟨#[124]⟩ (by omega)
        have a2 := addOk (A ++ ⟨#[124]⟩) (itoaB x.vals[i]) (by rw [ByteArray.size_append]; omega)
        repeat (first | refine aq ?_ | refine ap (by rfl : apartB 0 _ _ = true) ?_ | refine ak ?_ | refine ab ?_ | refine al ?_ | ((first | refine ar ?_ | refine ad ty_mix (by kernel_rfl) ?_ | refine ac ?_ | refine ae ?_ | with_reducible refine Later.mk ?_); simp only [evD, evL, iteL, S.arg.eq_12, S.asL.eq_6, St.said, St.asked, evStep, evOp, evP, St.init, St.app, srcStep, kill, setMany, loadS, fieldS, buildS, toks, Fin, upd_app, Array.isEmpty, Nat.reduceLT, Nat.reduceAdd, Nat.reduceMul, Nat.reduceLeDiff, Nat.reduceSub, Nat.reduceEqDiff, reduceCtorEq, reduceIte, ↓Opt.is, ↓Opt.no, ↓Asks.yes, ↓Asks.no, tyL, encL, y1, z3, Int.toNat_natCast, encR, hbe, a1, getI h, asB]))
        refine ⟨_, hcf, ?_⟩; (repeat (first | refine ap (by rfl : apartB 0 _ _ = true) ?_ | refine ap (by simp [osL, D.flat]) ?_)); repeat (first | refine aq ?_ | refine ap (by rfl : apartB 0 _ _ = true) ?_ | refine ak ?_ | refine ab ?_ | refine al ?_ | ((first | refine ar ?_ | refine ad ty_mix (by kernel_rfl) ?_ | refine ac ?_ | refine ae ?_ | with_reducible refine Later.mk ?_); simp only [evD, evL, iteL, S.arg.eq_12, S.asL.eq_6, St.said, St.asked, evStep, evOp, evP, St.init, St.app, srcStep, kill, setMany, loadS, fieldS, buildS, toks, Fin, upd_app, Array.isEmpty, Nat.reduceLT, Nat.reduceAdd, Nat.reduceMul, Nat.reduceLeDiff, Nat.reduceSub, Nat.reduceEqDiff, reduceCtorEq, reduceIte, ↓Opt.is, ↓Opt.no, ↓Asks.yes, ↓Asks.no, tyL, encL, y1, z3, Int.toNat_natCast, encR, hbe, a2, hw, asB]))
        refine ⟨h, ?_⟩
        ((first | refine Le.mk rfl ?_ ?_ | refine LeTo.mk rfl ?_ ?_) <;> simp only [evD, evL, iteL, S.arg.eq_12, S.asL.eq_6, St.said, St.asked, evStep, evOp, evP, St.init, St.app, srcStep, kill, setMany, loadS, fieldS, buildS, toks, Fin, upd_app, Array.isEmpty, Nat.reduceLT, Nat.reduceAdd, Nat.reduceMul, Nat.reduceLeDiff, Nat.reduceSub, Nat.reduceEqDiff, reduceCtorEq, reduceIte, ↓Opt.is, ↓Opt.no, ↓Asks.yes, ↓Asks.no, tyL, encL, leL, leD, ne_eq, hst])
      · have hst := rowTo_ne (F := itoaB) (name := l[k].name) h hkk
        have hbe : ((i : Int) == l[k].key) = false := beq_eq_false_iff_ne.2 hkk
        generalize str (rowTo itoaB l[k].key l[k].name x.vals i) = A at *
        have a2 := addOk A (itoaB x.vals[i]) (by omega)
        repeat (first | refine aq ?_ | refine ap (by rfl : apartB 0 _ _ = true) ?_ | refine ak ?_ | refine ab ?_ | refine al ?_ | ((first | refine ar ?_ | refine ad ty_mix (by kernel_rfl) ?_ | refine ac ?_ | refine ae ?_ | with_reducible refine Later.mk ?_); simp only [evD, evL, iteL, S.arg.eq_12, S.asL.eq_6, St.said, St.asked, evStep, evOp, evP, St.init, St.app, srcStep, kill, setMany, loadS, fieldS, buildS, toks, Fin, upd_app, Array.isEmpty, Nat.reduceLT, Nat.reduceAdd, Nat.reduceMul, Nat.reduceLeDiff, Nat.reduceSub, Nat.reduceEqDiff, reduceCtorEq, reduceIte, ↓Opt.is, ↓Opt.no, ↓Asks.yes, ↓Asks.no, tyL, encL, y1, z3, Int.toNat_natCast, encR, hbe, getI h, asB]))
        refine ⟨_, hcf, ?_⟩; (repeat (first | refine ap (by rfl : apartB 0 _ _ = true) ?_ | refine ap (by simp [osL, D.flat]) ?_)); repeat (first | refine aq ?_ | refine ap (by rfl : apartB 0 _ _ = true) ?_ | refine ak ?_ | refine ab ?_ | refine al ?_ | ((first | refine ar ?_ | refine ad ty_mix (by kernel_rfl) ?_ | refine ac ?_ | refine ae ?_ | with_reducible refine Later.mk ?_); simp only [evD, evL, iteL, S.arg.eq_12, S.asL.eq_6, St.said, St.asked, evStep, evOp, evP, St.init, St.app, srcStep, kill, setMany, loadS, fieldS, buildS, toks, Fin, upd_app, Array.isEmpty, Nat.reduceLT, Nat.reduceAdd, Nat.reduceMul, Nat.reduceLeDiff, Nat.reduceSub, Nat.reduceEqDiff, reduceCtorEq, reduceIte, ↓Opt.is, ↓Opt.no, ↓Asks.yes, ↓Asks.no, tyL, encL, y1, z3, Int.toNat_natCast, encR, hbe, a2, hw, asB]))
        refine ⟨h, ?_⟩
        ((first | refine Le.mk rfl ?_ ?_ | refine LeTo.mk rfl ?_ ?_) <;> simp only [evD, evL, iteL, S.arg.eq_12, S.asL.eq_6, St.said, St.asked, evStep, evOp, evP, St.init, St.app, srcStep, kill, setMany, loadS, fieldS, buildS, toks, Fin, upd_app, Array.isEmpty, Nat.reduceLT, Nat.reduceAdd, Nat.reduceMul, Nat.reduceLeDiff, Nat.reduceSub, Nat.reduceEqDiff, reduceCtorEq, reduceIte, ↓Opt.is, ↓Opt.no, ↓Asks.yes, ↓Asks.no, tyL, encL, leL, leD, ne_eq, hst])
    · have h : i = x.vals.length := by have := of_decide_eq_false h; omega
      subst h
      repeat (first | refine aq ?_ | refine ap (by rfl : apartB 0 _ _ = true) ?_ | refine ak ?_ | refine ab ?_ | refine al ?_ | ((first | refine ar ?_ | refine ad ty_mix (by kernel_rfl) ?_ | refine ac ?_ | refine ae ?_ | with_reducible refine Later.mk ?_); simp only [evD, evL, iteL, S.arg.eq_12, S.asL.eq_6, St.said, St.asked, evStep, evOp, evP, St.init, St.app, srcStep, kill, setMany, loadS, fieldS, buildS, toks, Fin, upd_app, Array.isEmpty, Nat.reduceLT, Nat.reduceAdd, Nat.reduceMul, Nat.reduceLeDiff, Nat.reduceSub, Nat.reduceEqDiff, reduceCtorEq, reduceIte, ↓Opt.is, ↓Opt.no, ↓Asks.yes, ↓Asks.no, tyL, encL, asB]))
      refine Ab.ret ?_; simp only [evD, evL, iteL, S.arg.eq_12, S.asL.eq_6, St.said, St.asked, evStep, evOp, evP, St.init, St.app, srcStep, kill, setMany, loadS, fieldS, buildS, toks, Fin, upd_app, Array.isEmpty, Nat.reduceLT, Nat.reduceAdd, Nat.reduceMul, Nat.reduceLeDiff, Nat.reduceSub, Nat.reduceEqDiff, reduceCtorEq, reduceIte, ↓Opt.is, ↓Opt.no, ↓Asks.yes, ↓Asks.no, tyL, List.nodup_cons, encL, Tryd.f66]
  · rw [hd] at hc ⊢
    rw [if_neg (by simp)]
    unfold factS at hc ⊢
    refine AC.intro Tryd.func66 rfl (by decide) (by simp [S.res, S.ress]) (by simp [S.os, S.oss]) (by simp [S.wfs, S.wf, dbS]) (by simp [Tryd.f66]) ?_; rw [Tryd.ntmps66]
    repeat (first | refine aq ?_ | refine ap (by rfl : apartB 0 _ _ = true) ?_ | refine ak ?_ | refine ab ?_ | refine al ?_ | ((first | refine ar ?_ | refine ad ty_mix (by kernel_rfl) ?_ | refine ac ?_ | refine ae ?_ | with_reducible refine Later.mk ?_); simp only [evD, evL, iteL, S.arg.eq_12, S.asL.eq_6, St.said, St.asked, evStep, evOp, evP, St.init, St.app, srcStep, kill, setMany, loadS, fieldS, buildS, toks, Fin, upd_app, Array.isEmpty, Nat.reduceLT, Nat.reduceAdd, Nat.reduceMul, Nat.reduceLeDiff, Nat.reduceSub, Nat.reduceEqDiff, reduceCtorEq, reduceIte, ↓Opt.is, ↓Opt.no, ↓Asks.yes, ↓Asks.no, tyL, encL, asB]))
    refine ⟨_, hc, ?_⟩; (repeat (first | refine ap (by rfl : apartB 0 _ _ = true) ?_ | refine ap (by simp [osL, D.flat]) ?_)); repeat (first | refine aq ?_ | refine ap (by rfl : apartB 0 _ _ = true) ?_ | refine ak ?_ | refine ab ?_ | refine al ?_ | ((first | refine ar ?_ | refine ad ty_mix (by kernel_rfl) ?_ | refine ac ?_ | refine ae ?_ | with_reducible refine Later.mk ?_); simp only [evD, evL, iteL, S.arg.eq_12, S.asL.eq_6, St.said, St.asked, evStep, evOp, evP, St.init, St.app, srcStep, kill, setMany, loadS, fieldS, buildS, toks, Fin, upd_app, Array.isEmpty, Nat.reduceLT, Nat.reduceAdd, Nat.reduceMul, Nat.reduceLeDiff, Nat.reduceSub, Nat.reduceEqDiff, reduceCtorEq, reduceIte, ↓Opt.is, ↓Opt.no, ↓Asks.yes, ↓Asks.no, tyL, encL, asB]))
    refine Ab.ret ?_; simp only [evD, evL, iteL, S.arg.eq_12, S.asL.eq_6, St.said, St.asked, evStep, evOp, evP, St.init, St.app, srcStep, kill, setMany, loadS, fieldS, buildS, toks, Fin, upd_app, Array.isEmpty, Nat.reduceLT, Nat.reduceAdd, Nat.reduceMul, Nat.reduceLeDiff, Nat.reduceSub, Nat.reduceEqDiff, reduceCtorEq, reduceIte, ↓Opt.is, ↓Opt.no, ↓Asks.yes, ↓Asks.no, tyL, List.nodup_cons, encL, Tryd.f66]
end Go.Proofs.YtlcogbmceanghaaDoor.Ab


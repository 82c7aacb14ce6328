/- Groups as text. -/
import Derived.Test.YtlcogbmceanghaaDoorAbGenGr
import Derived.Test.YtlcogbmceanghaaDoorStr
import Derived.Test.YtlcogbmceanghaaDoorSlGr
open Go Go.Proofs Go.RowKit
namespace Go.Proofs.YtlcogbmceanghaaDoor.Ab
set_option linter.unusedSimpArgs false
set_option linter.unusedVariables false
set_option maxRecDepth 100000
def bangB (b : Bool) : ByteArray := if b = true then ⟨#[33]⟩ else ⟨#[]⟩
def grpB (x : Grp) : ByteArray := itoaB x.val ++ ⟨#[61]⟩ ++ itoaB x.lo ++ ⟨#[46, 46]⟩ ++ itoaB x.hi ++ bangB x.all
theorem bangB_size (b : Bool) : (bangB b).size ≤ 1 := by cases b <;> decide
theorem grpB_size {x : Grp} (g : eGrp.good x) : (grpB x).size ≤ 67 := by
  have h1 := itoaB_size (n := x.val) g.1
  have h2 := itoaB_size (n := x.lo) g.2.1
  have h3 := itoaB_size (n := x.hi) g.2.2.1
  have h4 := bangB_size x.all
  have e1 : (⟨#[61]⟩ : ByteArray).size = 1 := rfl
  have e2 : (⟨#[46, 46]⟩ : ByteArray).size = 2 := rfl
  unfold grpB
  simp only [ByteArray.size_append]
  omega
theorem formatGroup_a {x : Grp} (g : eGrp.good x) : AC Tryd.prog 62 [grpS x] (.d (.v (.string (grpB x)))) := by
  have h1 := itoaB_size (n := x.val) g.1
  have h2 := itoaB_size (n := x.lo) g.2.1
  have h3 := itoaB_size (n := x.hi) g.2.2.1
  have f1 := implFormatInt_a (n := x.val) g.1
  have f2 := implFormatInt_a (n := x.lo) g.2.1
  have f3 := implFormatInt_a (n := x.hi) g.2.2.1
  have e1 : (⟨#[61]⟩ : ByteArray).size = 1 := rfl
  have e2 : (⟨#[46, 46]⟩ : ByteArray).size = 2 := rfl
  have e3 : (⟨#[33]⟩ : ByteArray).size = 1 := rfl
  obtain ⟨val, lo, hi, all⟩ := x
  unfold grpB grpS
  simp only at *
  have a1 := addOk (itoaB val) ⟨#[61]⟩ (by omega)
  have a2 := addOk (itoaB val ++ ⟨#[61]⟩) (itoaB lo) (by rw [ByteArray.size_append]; omega)
  have a3 := addOk (itoaB val ++ ⟨#[61]⟩ ++ itoaB lo) ⟨#[46, 46]⟩ (by simp only [ByteArray.size_append]; omega)
  have a4 := addOk (itoaB val ++ ⟨#[61]⟩ ++ itoaB lo ++ ⟨#[46, 46]⟩) (itoaB hi) (by simp only [ByteArray.size_append]; omega)
  have a5 := addOk (itoaB val ++ ⟨#[61]⟩ ++ itoaB lo ++ ⟨#[46, 46]⟩ ++ itoaB hi) ⟨#[33]⟩ (by simp only [ByteArray.size_append]; omega)
  cases all
  · rw [show bangB false = (⟨#[]⟩ : ByteArray) from rfl, bApp_nil]
    refine AC.intro Tryd.func62 rfl (by decide) (by simp [S.res, S.ress]) (by simp [S.os, S.oss]) (by simp [S.wfs, S.wf, dbS]) (by simp [Tryd.f62]) ?_; rw [Tryd.ntmps62]
    repeat (first | refine aq ?_ | refine ap (by rfl : apartB 0 _ _ = true) ?_ | refine ak ?_ | refine ab ?_ | refine al ?_ | ((first | refine ar ?_ | refine ad ty_mix (by kernel_rfl) ?_ | refine ac ?_ | refine ae ?_ | with_reducible refine Later.mk ?_); simp only [evD, evL, iteL, S.arg.eq_12, S.asL.eq_6, St.said, St.asked, evStep, evOp, evP, St.init, St.app, srcStep, kill, setMany, loadS, fieldS, buildS, toks, Fin, upd_app, Array.isEmpty, Nat.reduceLT, Nat.reduceAdd, Nat.reduceMul, Nat.reduceLeDiff, Nat.reduceSub, Nat.reduceEqDiff, reduceCtorEq, reduceIte, ↓Opt.is, ↓Opt.no, ↓Asks.yes, ↓Asks.no, tyL, encL, asB]))
    refine ⟨_, f1, ?_⟩; (repeat (first | refine ap (by rfl : apartB 0 _ _ = true) ?_ | refine ap (by simp [osL, D.flat]) ?_)); repeat (first | refine aq ?_ | refine ap (by rfl : apartB 0 _ _ = true) ?_ | refine ak ?_ | refine ab ?_ | refine al ?_ | ((first | refine ar ?_ | refine ad ty_mix (by kernel_rfl) ?_ | refine ac ?_ | refine ae ?_ | with_reducible refine Later.mk ?_); simp only [evD, evL, iteL, S.arg.eq_12, S.asL.eq_6, St.said, St.asked, evStep, evOp, evP, St.init, St.app, srcStep, kill, setMany, loadS, fieldS, buildS, toks, Fin, upd_app, Array.isEmpty, Nat.reduceLT, Nat.reduceAdd, Nat.reduceMul, Nat.reduceLeDiff, Nat.reduceSub, Nat.reduceEqDiff, reduceCtorEq, reduceIte, ↓Opt.is, ↓Opt.no, ↓Asks.yes, ↓Asks.no, tyL, encL, a1, a2, a3, a4, asB]))
    refine ⟨_, f2, ?_⟩; (repeat (first | refine ap (by rfl : apartB 0 _ _ = true) ?_ | refine ap (by simp [osL, D.flat]) ?_)); repeat (first | refine aq ?_ | refine ap (by rfl : apartB 0 _ _ = true) ?_ | refine ak ?_ | refine ab ?_ | refine al ?_ | ((first | refine ar ?_ | refine ad ty_mix (by kernel_rfl) ?_ | refine ac ?_ | refine ae ?_ | with_reducible refine Later.mk ?_); simp only [evD, evL, iteL, S.arg.eq_12, S.asL.eq_6, St.said, St.asked, evStep, evOp, evP, St.init, St.app, srcStep, kill, setMany, loadS, fieldS, buildS, toks, Fin, upd_app, Array.isEmpty, Nat.reduceLT, Nat.reduceAdd, Nat.reduceMul, Nat.reduceLeDiff, Nat.reduceSub, Nat.reduceEqDiff, reduceCtorEq, reduceIte, ↓Opt.is, ↓Opt.no, ↓Asks.yes, ↓Asks.no, tyL, encL, a1, a2, a3, a4, asB]))
    refine ⟨_, f3, ?_⟩; (repeat (first | refine ap (by rfl : apartB 0 _ _ = true) ?_ | refine ap (by simp [osL, D.flat]) ?_)); repeat (first | refine aq ?_ | refine ap (by rfl : apartB 0 _ _ = true) ?_ | refine ak ?_ | refine ab ?_ | refine al ?_ | ((first | refine ar ?_ | refine ad ty_mix (by kernel_rfl) ?_ | refine ac ?_ | refine ae ?_ | with_reducible refine Later.mk ?_); simp only [evD, evL, iteL, S.arg.eq_12, S.asL.eq_6, St.said, St.asked, evStep, evOp, evP, St.init, St.app, srcStep, kill, setMany, loadS, fieldS, buildS, toks, Fin, upd_app, Array.isEmpty, Nat.reduceLT, Nat.reduceAdd, Nat.reduceMul, Nat.reduceLeDiff, Nat.reduceSub, Nat.reduceEqDiff, reduceCtorEq, reduceIte, ↓Opt.is, ↓Opt.no, ↓Asks.yes, ↓Asks.no, tyL, encL, a1, a2, a3, a4, asB]))
    refine Ab.ret ?_; simp only [evD, evL, iteL, S.arg.eq_12, S.asL.eq_6, St.said, St.asked, evStep, evOp, evP, St.init, St.app, srcStep, kill, setMany, loadS, fieldS, buildS, toks, Fin, upd_app, Array.isEmpty, Nat.reduceLT, Nat.reduceAdd, Nat.reduceMul, Nat.reduceLeDiff, Nat.reduceSub, Nat.reduceEqDiff, reduceCtorEq, reduceIte, ↓Opt.is, ↓Opt.no, ↓Asks.yes, ↓Asks.no, tyL, List.nodup_cons, encL, Tryd.f62]
  · rw [show bangB true = (⟨#[33]⟩ : ByteArray) from rfl]
    refine AC.intro Tryd.func62 rfl (by decide) (by simp [S.res, S.ress]) (by simp [S.os, S.oss]) (by simp [S.wfs, S.wf, dbS]) (by simp [Tryd.f62]) ?_; rw [Tryd.ntmps62]
    repeat (first | refine aq ?_ | refine ap (by rfl : apartB 0 _ _ = true) ?_ | refine ak ?_ | refine ab ?_ | refine al ?_ | ((first | refine ar ?_ | refine ad ty_mix (by kernel_rfl) ?_ | refine ac ?_ | refine ae ?_ | with_reducible refine Later.mk ?_); simp only [evD, evL, iteL, S.arg.eq_12, S.asL.eq_6, St.said, St.asked, evStep, evOp, evP, St.init, St.app, srcStep, kill, setMany, loadS, fieldS, buildS, toks, Fin, upd_app, Array.isEmpty, Nat.reduceLT, Nat.reduceAdd, Nat.reduceMul, Nat.reduceLeDiff, Nat.reduceSub, Nat.reduceEqDiff, reduceCtorEq, reduceIte, ↓Opt.is, ↓Opt.no, ↓Asks.yes, ↓Asks.no, tyL, encL, asB]))
    refine ⟨_, f1, ?_⟩; (repeat (first | refine ap (by rfl : apartB 0 _ _ = true) ?_ | refine ap (by simp [osL, D.flat]) ?_)); repeat (first | refine aq ?_ | refine ap (by rfl : apartB 0 _ _ = true) ?_ | refine ak ?_ | refine ab ?_ | refine al ?_ | ((first | refine ar ?_ | refine ad ty_mix (by kernel_rfl) ?_ | refine ac ?_ | refine ae ?_ | with_reducible refine Later.mk ?_); simp only [evD, evL, iteL, S.arg.eq_12, S.asL.eq_6, St.said, St.asked, evStep, evOp, evP, St.init, St.app, srcStep, kill, setMany, loadS, fieldS, buildS, toks, Fin, upd_app, Array.isEmpty, Nat.reduceLT, Nat.reduceAdd, Nat.reduceMul, Nat.reduceLeDiff, Nat.reduceSub, Nat.reduceEqDiff, reduceCtorEq, reduceIte, ↓Opt.is, ↓Opt.no, ↓Asks.yes, ↓Asks.no, tyL, encL, a1, a2, a3, a4, asB]))
    refine ⟨_, f2, ?_⟩; (repeat (first | refine ap (by rfl : apartB 0 _ _ = true) ?_ | refine ap (by simp [osL, D.flat]) ?_)); repeat (first | refine aq ?_ | refine ap (by rfl : apartB 0 _ _ = true) ?_ | refine ak ?_ | refine ab ?_ | refine al ?_ | ((first | refine ar ?_ | refine ad ty_mix (by kernel_rfl) ?_ | refine ac ?_ | refine ae ?_ | with_reducible refine Later.mk ?_); simp only [evD, evL, iteL, S.arg.eq_12, S.asL.eq_6, St.said, St.asked, evStep, evOp, evP, St.init, St.app, srcStep, kill, setMany, loadS, fieldS, buildS, toks, Fin, upd_app, Array.isEmpty, Nat.reduceLT, Nat.reduceAdd, Nat.reduceMul, Nat.reduceLeDiff, Nat.reduceSub, Nat.reduceEqDiff, reduceCtorEq, reduceIte, ↓Opt.is, ↓Opt.no, ↓Asks.yes, ↓Asks.no, tyL, encL, a1, a2, a3, a4, asB]))
    refine ⟨_, f3, ?_⟩; (repeat (first | refine ap (by rfl : apartB 0 _ _ = true) ?_ | refine ap (by simp [osL, D.flat]) ?_)); repeat (first | refine aq ?_ | refine ap (by rfl : apartB 0 _ _ = true) ?_ | refine ak ?_ | refine ab ?_ | refine al ?_ | ((first | refine ar ?_ | refine ad ty_mix (by kernel_rfl) ?_ | refine ac ?_ | refine ae ?_ | with_reducible refine Later.mk ?_); simp only [evD, evL, iteL, S.arg.eq_12, S.asL.eq_6, St.said, St.asked, evStep, evOp, evP, St.init, St.app, srcStep, kill, setMany, loadS, fieldS, buildS, toks, Fin, upd_app, Array.isEmpty, Nat.reduceLT, Nat.reduceAdd, Nat.reduceMul, Nat.reduceLeDiff, Nat.reduceSub, Nat.reduceEqDiff, reduceCtorEq, reduceIte, ↓Opt.is, ↓Opt.no, ↓Asks.yes, ↓Asks.no, tyL, encL, a1, a2, a3, a4, a5, asB]))
    refine Ab.ret ?_; simp only [evD, evL, iteL, S.arg.eq_12, S.asL.eq_6, St.said, St.asked, evStep, evOp, evP, St.init, St.app, srcStep, kill, setMany, loadS, fieldS, buildS, toks, Fin, upd_app, Array.isEmpty, Nat.reduceLT, Nat.reduceAdd, Nat.reduceMul, Nat.reduceLeDiff, Nat.reduceSub, Nat.reduceEqDiff, reduceCtorEq, reduceIte, ↓Opt.is, ↓Opt.no, ↓Asks.yes, ↓Asks.no, tyL, List.nodup_cons, encL, Tryd.f62]
def grpsB (l : List Grp) : ByteArray := jn ⟨#[32]⟩ (l.map grpB)
theorem implFormatGroups_a {l : List Grp} (g : (eSlice eGrp).good l) (hl : l.length ≤ 1048576) : AC Tryd.prog 20 [.d (encGrs l)] (.d (.v (.string (grpsB l)))) := by
  have hz := jn_size (sep := ⟨#[32]⟩) (m := 67) (l.map grpB) (fun x hx => by
    obtain ⟨y, hy, rfl⟩ := List.mem_map.1 hx
    exact grpB_size (g.2 y hy))
  rw [List.length_map, show (⟨#[32]⟩ : ByteArray).size = 1 from rfl] at hz
  have hj := joinAll_GroupRange (g := 62) caps_nil grpB l hl (by omega) (fun x hx => by
    have := formatGroup_a (g.2 x hx)
    unfold grpS at this
    exact this)
  unfold grpsB encGrs
  refine AC.intro Tryd.func20 rfl (by decide) (by simp [S.res, S.ress]) (by simp [S.os, S.oss]) (by simp [S.wfs, S.wf, dbS]) (by simp [Tryd.f20]) ?_; rw [Tryd.ntmps20]
  repeat (first | refine aq ?_ | refine ap (by rfl : apartB 0 _ _ = true) ?_ | refine ak ?_ | refine ab ?_ | refine al ?_ | ((first | refine ar ?_ | refine ad ty_mix (by kernel_rfl) ?_ | refine ac ?_ | refine ae ?_ | with_reducible refine Later.mk ?_); simp only [evD, evL, iteL, S.arg.eq_12, S.asL.eq_6, St.said, St.asked, evStep, evOp, evP, St.init, St.app, srcStep, kill, setMany, loadS, fieldS, buildS, toks, Fin, upd_app, Array.isEmpty, Nat.reduceLT, Nat.reduceAdd, Nat.reduceMul, Nat.reduceLeDiff, Nat.reduceSub, Nat.reduceEqDiff, reduceCtorEq, reduceIte, ↓Opt.is, ↓Opt.no, ↓Asks.yes, ↓Asks.no, tyL, encL, asB]))
  refine ⟨_, hj, ?_⟩; (repeat (first | refine ap (by rfl : apartB 0 _ _ = true) ?_ | refine ap (by simp [osL, D.flat]) ?_)); repeat (first | refine aq ?_ | refine ap (by rfl : apartB 0 _ _ = true) ?_ | refine ak ?_ | refine ab ?_ | refine al ?_ | ((first | refine ar ?_ | refine ad ty_mix (by kernel_rfl) ?_ | refine ac ?_ | refine ae ?_ | with_reducible refine Later.mk ?_); simp only [evD, evL, iteL, S.arg.eq_12, S.asL.eq_6, St.said, St.asked, evStep, evOp, evP, St.init, St.app, srcStep, kill, setMany, loadS, fieldS, buildS, toks, Fin, upd_app, Array.isEmpty, Nat.reduceLT, Nat.reduceAdd, Nat.reduceMul, Nat.reduceLeDiff, Nat.reduceSub, Nat.reduceEqDiff, reduceCtorEq, reduceIte, ↓Opt.is, ↓Opt.no, ↓Asks.yes, ↓Asks.no, tyL, encL, asB]))
  refine Ab.ret ?_; simp only [evD, evL, iteL, S.arg.eq_12, S.asL.eq_6, St.said, St.asked, evStep, evOp, evP, St.init, St.app, srcStep, kill, setMany, loadS, fieldS, buildS, toks, Fin, upd_app, Array.isEmpty, Nat.reduceLT, Nat.reduceAdd, Nat.reduceMul, Nat.reduceLeDiff, Nat.reduceSub, Nat.reduceEqDiff, reduceCtorEq, reduceIte, ↓Opt.is, ↓Opt.no, ↓Asks.yes, ↓Asks.no, tyL, List.nodup_cons, encL, Tryd.f20]
theorem specFormatGroups_a {l : List Grp} (g : (eSlice eGrp).good l) (hl : l.length ≤ 1048576) : AC Tryd.prog 18 [.d (encGrs l)] (.d (.v (.string (grpsB l)))) := by
  have e0 : (⟨#[]⟩ : ByteArray).size = 0 := rfl
  have es : (⟨#[32]⟩ : ByteArray).size = 1 := rfl
  have e1 : (⟨#[61]⟩ : ByteArray).size = 1 := rfl
  have e2 : (⟨#[46, 46]⟩ : ByteArray).size = 2 := rfl
  have e3 : (⟨#[33]⟩ : ByteArray).size = 1 := rfl
  have hfz : ∀ x, x ∈ l → (grpB x).size ≤ 67 := fun x hx => grpB_size (g.2 x hx)
  have hsz : ∀ i, i ≤ l.length → (accB ⟨#[]⟩ ⟨#[32]⟩ grpB l i).size ≤ i * 68 := fun i hi => by
    have := accB_size ⟨#[]⟩ ⟨#[32]⟩ grpB l i (m := 67) hi hfz
    rw [e0, es] at this
    omega
  unfold grpsB encGrs
  rw [← bNap (jn _ _), ← accB_end]
  refine AC.intro Tryd.func18 rfl (by decide) (by simp [S.res, S.ress]) (by simp [S.os, S.oss]) (by simp [S.wfs, S.wf, dbS]) (by simp [Tryd.f18]) ?_; rw [Tryd.ntmps18]
  repeat (first | refine aq ?_ | refine ap (by rfl : apartB 0 _ _ = true) ?_ | refine ak ?_ | refine ab ?_ | refine al ?_ | ((first | refine ar ?_ | refine ad ty_mix (by kernel_rfl) ?_ | refine ac ?_ | refine ae ?_ | with_reducible refine Later.mk ?_); simp only [evD, evL, iteL, S.arg.eq_12, S.asL.eq_6, St.said, St.asked, evStep, evOp, evP, St.init, St.app, srcStep, kill, setMany, loadS, fieldS, buildS, toks, Fin, upd_app, Array.isEmpty, Nat.reduceLT, Nat.reduceAdd, Nat.reduceMul, Nat.reduceLeDiff, Nat.reduceSub, Nat.reduceEqDiff, reduceCtorEq, reduceIte, ↓Opt.is, ↓Opt.no, ↓Asks.yes, ↓Asks.no, tyL, encL, asB]))
  refine Ab.loopI l.length (fun _ => True) (fun i => mkS 47 [(0, .d (.sl (List.map encGr l))), (3, .d (.v (.string (accB ⟨#[]⟩ ⟨#[32]⟩ grpB l i)))), (4, .d (.v (.int .i64 (i : Int))))] [] 48) trivial ?_ ?_
  · ((first | refine Le.mk rfl ?_ ?_ | refine LeTo.mk rfl ?_ ?_) <;> simp only [evD, evL, iteL, S.arg.eq_12, S.asL.eq_6, St.said, St.asked, evStep, evOp, evP, St.init, St.app, srcStep, kill, setMany, loadS, fieldS, buildS, toks, Fin, upd_app, Array.isEmpty, Nat.reduceLT, Nat.reduceAdd, Nat.reduceMul, Nat.reduceLeDiff, Nat.reduceSub, Nat.reduceEqDiff, reduceCtorEq, reduceIte, ↓Opt.is, ↓Opt.no, ↓Asks.yes, ↓Asks.no, tyL, encL, leL, leD, ne_eq, accB_zero])
  intro i hi _
  have hsi := hsz i hi
  by_cases h : i < l.length
  · have hdl : decide ((i : Int) < (l.length : Int)) = true := decide_eq_true (by omega)
    have hw := wrapN h (by omega)
    have z3 : ∀ x : Nat, (0 ≤ (x : Int)) = True := fun x => eq_true (by omega)
    have gx := g.2 _ (List.getElem_mem h)
    have h1 := itoaB_size (n := l[i].val) gx.1
    have h2 := itoaB_size (n := l[i].lo) gx.2.1
    have h3 := itoaB_size (n := l[i].hi) gx.2.2.1
    have f1 := specFormatInt_a (n := l[i].val) gx.1
    have f2 := specFormatInt_a (n := l[i].lo) gx.2.1
    have f3 := specFormatInt_a (n := l[i].hi) gx.2.2.1
    have hgt := getGr h
    have hst : accB ⟨#[]⟩ ⟨#[32]⟩ grpB l (i + 1) = (if i = 0 then accB ⟨#[]⟩ ⟨#[32]⟩ grpB l i else accB ⟨#[]⟩ ⟨#[32]⟩ grpB l i ++ ⟨#[32]⟩) ++ itoaB l[i].val ++ ⟨#[61]⟩ ++ itoaB l[i].lo ++ ⟨#[46, 46]⟩ ++ itoaB l[i].hi ++ bangB l[i].all := by
      by_cases h0 : i = 0
      · subst h0
        rw [accB_one _ _ _ _ h, accB_zero, if_pos rfl, bNap]
        rfl
      · rw [accB_step _ _ _ _ h h0, if_neg h0]
        unfold grpB
        simp only [ByteArray.append_assoc]
    generalize accB ⟨#[]⟩ ⟨#[32]⟩ grpB l i = A at *
    generalize accB ⟨#[]⟩ ⟨#[32]⟩ grpB l (i + 1) = A' at *
    generalize l[i] = x at *
    obtain ⟨val, lo, hi', all⟩ := x
    simp only at *
    have key : ∀ A0 : ByteArray, A0.size ≤ A.size + 1 → _ := fun A0 hA0 => And.intro (addOk A0 (itoaB val) (by omega)) (And.intro (addOk (A0 ++ itoaB val) ⟨#[61]⟩ (by simp only [ByteArray.size_append]; omega)) (And.intro (addOk (A0 ++ itoaB val ++ ⟨#[61]⟩) (itoaB lo) (by simp only [ByteArray.size_append]; omega)) (And.intro (addOk (A0 ++ itoaB val ++ ⟨#[61]⟩ ++ itoaB lo) ⟨#[46, 46]⟩ (by simp only [ByteArray.size_append]; omega)) (And.intro (addOk (A0 ++ itoaB val ++ ⟨#[61]⟩ ++ itoaB lo ++ ⟨#[46, 46]⟩) (itoaB hi') (by simp only [ByteArray.size_append]; omega)) (addOk (A0 ++ itoaB val ++ ⟨#[61]⟩ ++ itoaB lo ++ ⟨#[46, 46]⟩ ++ itoaB hi') ⟨#[33]⟩ (by simp only [ByteArray.size_append]; omega))))))
    have b1 := addOk A ⟨#[32]⟩ (by omega)
    repeat (first | refine aq ?_ | refine ap (by rfl : apartB 0 _ _ = true) ?_ | refine ak ?_ | refine ab ?_ | refine al ?_ | ((first | refine ar ?_ | refine ad ty_mix (by kernel_rfl) ?_ | refine ac ?_ | refine ae ?_ | with_reducible refine Later.mk ?_); simp only [evD, evL, iteL, S.arg.eq_12, S.asL.eq_6, St.said, St.asked, evStep, evOp, evP, St.init, St.app, srcStep, kill, setMany, loadS, fieldS, buildS, toks, Fin, upd_app, Array.isEmpty, Nat.reduceLT, Nat.reduceAdd, Nat.reduceMul, Nat.reduceLeDiff, Nat.reduceSub, Nat.reduceEqDiff, reduceCtorEq, reduceIte, ↓Opt.is, ↓Opt.no, ↓Asks.yes, ↓Asks.no, tyL, encL, mkS, updl, hdl, asB]))
    refine ⟨fun hg => ?_, fun hg => ?_⟩
    · have h0 : i ≠ 0 := by have := of_decide_eq_true hg; omega
      rw [if_neg h0] at hst
      obtain ⟨a1, a2, a3, a4, a5, a6⟩ := key (A ++ ⟨#[32]⟩) (by rw [ByteArray.size_append]; omega)
      repeat (first | refine aq ?_ | refine ap (by rfl : apartB 0 _ _ = true) ?_ | refine ak ?_ | refine ab ?_ | refine al ?_ | ((first | refine ar ?_ | refine ad ty_mix (by kernel_rfl) ?_ | refine ac ?_ | refine ae ?_ | with_reducible refine Later.mk ?_); simp only [evD, evL, iteL, S.arg.eq_12, S.asL.eq_6, St.said, St.asked, evStep, evOp, evP, St.init, St.app, srcStep, kill, setMany, loadS, fieldS, buildS, toks, Fin, upd_app, Array.isEmpty, Nat.reduceLT, Nat.reduceAdd, Nat.reduceMul, Nat.reduceLeDiff, Nat.reduceSub, Nat.reduceEqDiff, reduceCtorEq, reduceIte, ↓Opt.is, ↓Opt.no, ↓Asks.yes, ↓Asks.no, tyL, encL, b1, hgt, z3, asB]))
      refine ⟨_, f1, ?_⟩; (repeat (first | refine ap (by rfl : apartB 0 _ _ = true) ?_ | refine ap (by simp [osL, D.flat]) ?_)); repeat (first | refine aq ?_ | refine ap (by rfl : apartB 0 _ _ = true) ?_ | refine ak ?_ | refine ab ?_ | refine al ?_ | ((first | refine ar ?_ | refine ad ty_mix (by kernel_rfl) ?_ | refine ac ?_ | refine ae ?_ | with_reducible refine Later.mk ?_); simp only [evD, evL, iteL, S.arg.eq_12, S.asL.eq_6, St.said, St.asked, evStep, evOp, evP, St.init, St.app, srcStep, kill, setMany, loadS, fieldS, buildS, toks, Fin, upd_app, Array.isEmpty, Nat.reduceLT, Nat.reduceAdd, Nat.reduceMul, Nat.reduceLeDiff, Nat.reduceSub, Nat.reduceEqDiff, reduceCtorEq, reduceIte, ↓Opt.is, ↓Opt.no, ↓Asks.yes, ↓Asks.no, tyL, encL, a1, a2, a3, a4, a5, hgt, z3, asB]))
      refine ⟨_, f2, ?_⟩; (repeat (first | refine ap (by rfl : apartB 0 _ _ = true) ?_ | refine ap (by simp [osL, D.flat]) ?_)); repeat (first | refine aq ?_ | refine ap (by rfl : apartB 0 _ _ = true) ?_ | refine ak ?_ | refine ab ?_ | refine al ?_ | ((first | refine ar ?_ | refine ad ty_mix (by kernel_rfl) ?_ | refine ac ?_ | refine ae ?_ | with_reducible refine Later.mk ?_); simp only [evD, evL, iteL, S.arg.eq_12, S.asL.eq_6, St.said, St.asked, evStep, evOp, evP, St.init, St.app, srcStep, kill, setMany, loadS, fieldS, buildS, toks, Fin, upd_app, Array.isEmpty, Nat.reduceLT, Nat.reduceAdd, Nat.reduceMul, Nat.reduceLeDiff, Nat.reduceSub, Nat.reduceEqDiff, reduceCtorEq, reduceIte, ↓Opt.is, ↓Opt.no, ↓Asks.yes, ↓Asks.no, tyL, encL, a1, a2, a3, a4, a5, hgt, z3, asB]))
      cases all
      · refine ⟨_, f3, ?_⟩; (repeat (first | refine ap (by rfl : apartB 0 _ _ = true) ?_ | refine ap (by simp [osL, D.flat]) ?_)); repeat (first | refine aq ?_ | refine ap (by rfl : apartB 0 _ _ = true) ?_ | refine ak ?_ | refine ab ?_ | refine al ?_ | ((first | refine ar ?_ | refine ad ty_mix (by kernel_rfl) ?_ | refine ac ?_ | refine ae ?_ | with_reducible refine Later.mk ?_); simp only [evD, evL, iteL, S.arg.eq_12, S.asL.eq_6, St.said, St.asked, evStep, evOp, evP, St.init, St.app, srcStep, kill, setMany, loadS, fieldS, buildS, toks, Fin, upd_app, Array.isEmpty, Nat.reduceLT, Nat.reduceAdd, Nat.reduceMul, Nat.reduceLeDiff, Nat.reduceSub, Nat.reduceEqDiff, reduceCtorEq, reduceIte, ↓Opt.is, ↓Opt.no, ↓Asks.yes, ↓Asks.no, tyL, encL, a1, a2, a3, a4, a5, a6, hgt, z3, hw, asB]))
        rw [show bangB false = (⟨#[]⟩ : ByteArray) from rfl, bApp_nil] at hst
        refine ⟨h, ?_⟩
        ((first | refine Le.mk rfl ?_ ?_ | refine LeTo.mk rfl ?_ ?_) <;> simp only [evD, evL, iteL, S.arg.eq_12, S.asL.eq_6, St.said, St.asked, evStep, evOp, evP, St.init, St.app, srcStep, kill, setMany, loadS, fieldS, buildS, toks, Fin, upd_app, Array.isEmpty, Nat.reduceLT, Nat.reduceAdd, Nat.reduceMul, Nat.reduceLeDiff, Nat.reduceSub, Nat.reduceEqDiff, reduceCtorEq, reduceIte, ↓Opt.is, ↓Opt.no, ↓Asks.yes, ↓Asks.no, tyL, encL, leL, leD, ne_eq, hst])
      · refine ⟨_, f3, ?_⟩; (repeat (first | refine ap (by rfl : apartB 0 _ _ = true) ?_ | refine ap (by simp [osL, D.flat]) ?_)); repeat (first | refine aq ?_ | refine ap (by rfl : apartB 0 _ _ = true) ?_ | refine ak ?_ | refine ab ?_ | refine al ?_ | ((first | refine ar ?_ | refine ad ty_mix (by kernel_rfl) ?_ | refine ac ?_ | refine ae ?_ | with_reducible refine Later.mk ?_); simp only [evD, evL, iteL, S.arg.eq_12, S.asL.eq_6, St.said, St.asked, evStep, evOp, evP, St.init, St.app, srcStep, kill, setMany, loadS, fieldS, buildS, toks, Fin, upd_app, Array.isEmpty, Nat.reduceLT, Nat.reduceAdd, Nat.reduceMul, Nat.reduceLeDiff, Nat.reduceSub, Nat.reduceEqDiff, reduceCtorEq, reduceIte, ↓Opt.is, ↓Opt.no, ↓Asks.yes, ↓Asks.no, tyL, encL, a1, a2, a3, a4, a5, a6, hgt, z3, hw, asB]))
        rw [show bangB true = (⟨#[33]⟩ : ByteArray) from rfl] at hst
        refine ⟨h, ?_⟩
        ((first | refine Le.mk rfl ?_ ?_ | refine LeTo.mk rfl ?_ ?_) <;> simp only [evD, evL, iteL, S.arg.eq_12, S.asL.eq_6, St.said, St.asked, evStep, evOp, evP, St.init, St.app, srcStep, kill, setMany, loadS, fieldS, buildS, toks, Fin, upd_app, Array.isEmpty, Nat.reduceLT, Nat.reduceAdd, Nat.reduceMul, Nat.reduceLeDiff, Nat.reduceSub, Nat.reduceEqDiff, reduceCtorEq, reduceIte, ↓Opt.is, ↓Opt.no, ↓Asks.yes, ↓Asks.no, tyL, encL, leL, leD, ne_eq, hst])
    · have h0 : i = 0 := by have := of_decide_eq_false hg; omega
      rw [if_pos h0] at hst
      obtain ⟨a1, a2, a3, a4, a5, a6⟩ := key A (by omega)
      repeat (first | refine aq ?_ | refine ap (by rfl : apartB 0 _ _ = true) ?_ | refine ak ?_ | refine ab ?_ | refine al ?_ | ((first | refine ar ?_ | refine ad ty_mix (by kernel_rfl) ?_ | refine ac ?_ | refine ae ?_ | with_reducible refine Later.mk ?_); simp only [evD, evL, iteL, S.arg.eq_12, S.asL.eq_6, St.said, St.asked, evStep, evOp, evP, St.init, St.app, srcStep, kill, setMany, loadS, fieldS, buildS, toks, Fin, upd_app, Array.isEmpty, Nat.reduceLT, Nat.reduceAdd, Nat.reduceMul, Nat.reduceLeDiff, Nat.reduceSub, Nat.reduceEqDiff, reduceCtorEq, reduceIte, ↓Opt.is, ↓Opt.no, ↓Asks.yes, ↓Asks.no, tyL, encL, hgt, z3, asB]))
      refine ⟨_, f1, ?_⟩; (repeat (first | refine ap (by rfl : apartB 0 _ _ = true) ?_ | refine ap (by simp [osL, D.flat]) ?_)); repeat (first | refine aq ?_ | refine ap (by rfl : apartB 0 _ _ = true) ?_ | refine ak ?_ | refine ab ?_ | refine al ?_ | ((first | refine ar ?_ | refine ad ty_mix (by kernel_rfl) ?_ | refine ac ?_ | refine ae ?_ | with_reducible refine Later.mk ?_); simp only [evD, evL, iteL, S.arg.eq_12, S.asL.eq_6, St.said, St.asked, evStep, evOp, evP, St.init, St.app, srcStep, kill, setMany, loadS, fieldS, buildS, toks, Fin, upd_app, Array.isEmpty, Nat.reduceLT, Nat.reduceAdd, Nat.reduceMul, Nat.reduceLeDiff, Nat.reduceSub, Nat.reduceEqDiff, reduceCtorEq, reduceIte, ↓Opt.is, ↓Opt.no, ↓Asks.yes, ↓Asks.no, tyL, encL, a1, a2, a3, a4, a5, hgt, z3, asB]))
      refine ⟨_, f2, ?_⟩; (repeat (first | refine ap (by rfl : apartB 0 _ _ = true) ?_ | refine ap (by simp [osL, D.flat]) ?_)); repeat (first | refine aq ?_ | refine ap (by rfl : apartB 0 _ _ = true) ?_ | refine ak ?_ | refine ab ?_ | refine al ?_ | ((first | refine ar ?_ | refine ad ty_mix (by kernel_rfl) ?_ | refine ac ?_ | refine ae ?_ | with_reducible refine Later.mk ?_); simp only [evD, evL, iteL, S.arg.eq_12, S.asL.eq_6, St.said, St.asked, evStep, evOp, evP, St.init, St.app, srcStep, kill, setMany, loadS, fieldS, buildS, toks, Fin, upd_app, Array.isEmpty, Nat.reduceLT, Nat.reduceAdd, Nat.reduceMul, Nat.reduceLeDiff, Nat.reduceSub, Nat.reduceEqDiff, reduceCtorEq, reduceIte, ↓Opt.is, ↓Opt.no, ↓Asks.yes, ↓Asks.no, tyL, encL, a1, a2, a3, a4, a5, hgt, z3, asB]))
      cases all
      · refine ⟨_, f3, ?_⟩; (repeat (first | refine ap (by rfl : apartB 0 _ _ = true) ?_ | refine ap (by simp [osL, D.flat]) ?_)); repeat (first | refine aq ?_ | refine ap (by rfl : apartB 0 _ _ = true) ?_ | refine ak ?_ | refine ab ?_ | refine al ?_ | ((first | refine ar ?_ | refine ad ty_mix (by kernel_rfl) ?_ | refine ac ?_ | refine ae ?_ | with_reducible refine Later.mk ?_); simp only [evD, evL, iteL, S.arg.eq_12, S.asL.eq_6, St.said, St.asked, evStep, evOp, evP, St.init, St.app, srcStep, kill, setMany, loadS, fieldS, buildS, toks, Fin, upd_app, Array.isEmpty, Nat.reduceLT, Nat.reduceAdd, Nat.reduceMul, Nat.reduceLeDiff, Nat.reduceSub, Nat.reduceEqDiff, reduceCtorEq, reduceIte, ↓Opt.is, ↓Opt.no, ↓Asks.yes, ↓Asks.no, tyL, encL, a1, a2, a3, a4, a5, a6, hgt, z3, hw, asB]))
        rw [show bangB false = (⟨#[]⟩ : ByteArray) from rfl, bApp_nil] at hst
        refine ⟨h, ?_⟩
        ((first | refine Le.mk rfl ?_ ?_ | refine LeTo.mk rfl ?_ ?_) <;> simp only [evD, evL, iteL, S.arg.eq_12, S.asL.eq_6, St.said, St.asked, evStep, evOp, evP, St.init, St.app, srcStep, kill, setMany, loadS, fieldS, buildS, toks, Fin, upd_app, Array.isEmpty, Nat.reduceLT, Nat.reduceAdd, Nat.reduceMul, Nat.reduceLeDiff, Nat.reduceSub, Nat.reduceEqDiff, reduceCtorEq, reduceIte, ↓Opt.is, ↓Opt.no, ↓Asks.yes, ↓Asks.no, tyL, encL, leL, leD, ne_eq, hst])
      · refine ⟨_, f3, ?_⟩; (repeat (first | refine ap (by rfl : apartB 0 _ _ = true) ?_ | refine ap (by simp [osL, D.flat]) ?_)); repeat (first | refine aq ?_ | refine ap (by rfl : apartB 0 _ _ = true) ?_ | refine ak ?_ | refine ab ?_ | refine al ?_ | ((first | refine ar ?_ | refine ad ty_mix (by kernel_rfl) ?_ | refine ac ?_ | refine ae ?_ | with_reducible refine Later.mk ?_); simp only [evD, evL, iteL, S.arg.eq_12, S.asL.eq_6, St.said, St.asked, evStep, evOp, evP, St.init, St.app, srcStep, kill, setMany, loadS, fieldS, buildS, toks, Fin, upd_app, Array.isEmpty, Nat.reduceLT, Nat.reduceAdd, Nat.reduceMul, Nat.reduceLeDiff, Nat.reduceSub, Nat.reduceEqDiff, reduceCtorEq, reduceIte, ↓Opt.is, ↓Opt.no, ↓Asks.yes, ↓Asks.no, tyL, encL, a1, a2, a3, a4, a5, a6, hgt, z3, hw, asB]))
        rw [show bangB true = (⟨#[33]⟩ : ByteArray) from rfl] at hst
        refine ⟨h, ?_⟩
        ((first | refine Le.mk rfl ?_ ?_ | refine LeTo.mk rfl ?_ ?_) <;> simp only [evD, evL, iteL, S.arg.eq_12, S.asL.eq_6, St.said, St.asked, evStep, evOp, evP, St.init, St.app, srcStep, kill, setMany, loadS, fieldS, buildS, toks, Fin, upd_app, Array.isEmpty, Nat.reduceLT, Nat.reduceAdd, Nat.reduceMul, Nat.reduceLeDiff, Nat.reduceSub, Nat.reduceEqDiff, reduceCtorEq, reduceIte, ↓Opt.is, ↓Opt.no, ↓Asks.yes, ↓Asks.no, tyL, encL, leL, leD, ne_eq, hst])
  · have h : i = l.length := by omega
    subst h
    have hdl : decide ((l.length : Int) < (l.length : Int)) = false := decide_eq_false (by omega)
    generalize accB ⟨#[]⟩ ⟨#[32]⟩ grpB l l.length = A at *
    repeat (first | refine aq ?_ | refine ap (by rfl : apartB 0 _ _ = true) ?_ | refine ak ?_ | refine ab ?_ | refine al ?_ | ((first | refine ar ?_ | refine ad ty_mix (by kernel_rfl) ?_ | refine ac ?_ | refine ae ?_ | with_reducible refine Later.mk ?_); simp only [evD, evL, iteL, S.arg.eq_12, S.asL.eq_6, St.said, St.asked, evStep, evOp, evP, St.init, St.app, srcStep, kill, setMany, loadS, fieldS, buildS, toks, Fin, upd_app, Array.isEmpty, Nat.reduceLT, Nat.reduceAdd, Nat.reduceMul, Nat.reduceLeDiff, Nat.reduceSub, Nat.reduceEqDiff, reduceCtorEq, reduceIte, ↓Opt.is, ↓Opt.no, ↓Asks.yes, ↓Asks.no, tyL, encL, mkS, updl, hdl, asB]))
    refine Ab.ret ?_; simp only [evD, evL, iteL, S.arg.eq_12, S.asL.eq_6, St.said, St.asked, evStep, evOp, evP, St.init, St.app, srcStep, kill, setMany, loadS, fieldS, buildS, toks, Fin, upd_app, Array.isEmpty, Nat.reduceLT, Nat.reduceAdd, Nat.reduceMul, Nat.reduceLeDiff, Nat.reduceSub, Nat.reduceEqDiff, reduceCtorEq, reduceIte, ↓Opt.is, ↓Opt.no, ↓Asks.yes, ↓Asks.no, tyL, List.nodup_cons, encL, Tryd.f18]
end Go.Proofs.YtlcogbmceanghaaDoor.Ab


/- Texts behind FnExactFormatRewriting, put together. -/
import Derived.Test.YtlcogbmceanghaaDoorMgFnExactFormatRewritingD
set_option linter.unusedSimpArgs false
set_option linter.unusedVariables false
set_option linter.unusedSectionVars false
set_option linter.constructorNameAsVariable false
set_option maxRecDepth 100000
open Nat (reduceLT reduceAdd reduceMul reduceLeDiff reduceSub reduceEqDiff)
namespace Go.Proofs.YtlcogbmceanghaaDoor
section
/- A query as text. -/
open Go Go.Proofs Go.RowKit
namespace Ab
theorem termB_size {t : Int} (h : inR t) : (termB t).size ≤ 21 := by
 unfold termB
 split
 · rename_i hd
   exact itoaB_size (termOk_in hd)
 · split
   · rename_i h1
     have : t = 0 ∨ t = 1 ∨ t = 2 ∨ t = 3 := by omega
     rcases this with rfl | rfl | rfl | rfl <;> decide
   · show (0 : Nat) ≤ 21
     omega
theorem ascFrom_allQ : ∀ (l : List Rel) (p : Option ByteArray), ascFrom p l = true → ∀ r, r ∈ l → validRel r = true
 | [], _, _, r, h => by simp at h
 | x :: l, p, h, r, hr => by
   simp only [ascFrom, Bool.and_eq_true] at h
   rcases List.mem_cons.1 hr with rfl | hr
   · exact h.1
   · exact ascFrom_allQ l _ h.2.2 r hr
def atomB (l : List Rel) (a : Atm) : ByteArray := rowB termB (relAtN l a.rel) a.terms
theorem atomB_size {l : List Rel} {a : Atm} {k : Nat} {hk : k < l.length} (hr : relAtN l a.rel = l[k]) (hn : l[k].name.size = 1) (ht : a.terms.length ≤ 3) (hi : ∀ x, x ∈ a.terms → inR x) : (atomB l a).size ≤ 67 := by
 unfold atomB rowB
 rw [str_size, hr]
 have := rowTo_len (F := termB) (k := l[k].key) (name := l[k].name) (l := a.terms) (fun y hy => termB_size (hi y hy)) a.terms.length (Nat.le_refl _)
 omega
def qryB (l : List Rel) (q : Qry) : ByteArray := if validQ l q = true then jn ⟨#[]⟩ (q.free.map termB) ++ ⟨#[63]⟩ ++ jn ⟨#[32]⟩ (q.atoms.map (atomB l)) else ⟨#[]⟩
theorem enterT : ∀ args ww, (callFunc 104 args).run Tryd.prog ww = .ok (.enter 104 args) ww := enters_of Tryd.func104 (by kernel_rfl) rfl
theorem formatAtom_a {l : List Rel} {a : Atm} (ga : eAtm.good a) {k : Nat} {hk : k < l.length} (h1 : a.rel = (k : Int)) (h2 : relAtN l a.rel = l[k]) (h3 : l[k].name.size = 1) (h4 : a.terms.length ≤ 3) : AC Tryd.prog 56 [.d (encRs l), atmS a] (.d (.v (.string (atomB l a)))) := by
 have gv : (eSlice eInt).good a.terms := ga.2
 have hc2 := formatRow_a (g := 104) (F := termB) (r := l[k]) gv (by omega) (by omega) (fun y hy => termB_size (gv.2 y hy)) enterT (fun y hy => implFormatTerm_a (gv.2 y hy))
 have y1 := getR hk
 have z3 : ∀ x : Nat, (0 ≤ (x : Int)) = True := fun x => eq_true (by omega)
 unfold atomB
 rw [h2]
 unfold relS at hc2
 unfold atmS
 rw [h1]
 refine AC.intro Tryd.func56 rfl (by decide) (by simp [S.res, S.ress]) (by simp [S.os, S.oss]) (by simp [S.wfs, S.wf, dbS]) (by simp [Tryd.f56]) ?_; rw [Tryd.ntmps56]
 repeat (first | refine aq ?_ | refine ap (by rfl : apartB 0 _ _ = true) ?_ | refine ak ?_ | refine ab ?_ | refine al ?_ | ((first | refine ar ?_ | refine ad ty_mix (by kernel_rfl) ?_ | refine ac ?_ | refine ae ?_ | with_reducible refine Later.mk ?_); simp only [evD, evL, iteL, aX, St.said, St.asked, evStep, evOp, evP, St.init, St.app, srcStep, kill, setMany, loadS, fieldS, buildS, toks, Fin, upd_app, Array.isEmpty, reduceLT, reduceAdd, reduceMul, reduceLeDiff, reduceSub, reduceEqDiff, reduceCtorEq, reduceIte, ↓Opt.is, ↓Opt.no, ↓Asks.yes, ↓Asks.no, tyL, encL, y1, z3, Int.toNat_natCast, encR, asB]))
 refine ⟨_, hc2, ?_⟩; (repeat (first | refine ap (by rfl : apartB 0 _ _ = true) ?_ | refine ap (by simp [osL, D.flat]) ?_)); repeat (first | refine aq ?_ | refine ap (by rfl : apartB 0 _ _ = true) ?_ | refine ak ?_ | refine ab ?_ | refine al ?_ | ((first | refine ar ?_ | refine ad ty_mix (by kernel_rfl) ?_ | refine ac ?_ | refine ae ?_ | with_reducible refine Later.mk ?_); simp only [evD, evL, iteL, aX, St.said, St.asked, evStep, evOp, evP, St.init, St.app, srcStep, kill, setMany, loadS, fieldS, buildS, toks, Fin, upd_app, Array.isEmpty, reduceLT, reduceAdd, reduceMul, reduceLeDiff, reduceSub, reduceEqDiff, reduceCtorEq, reduceIte, ↓Opt.is, ↓Opt.no, ↓Asks.yes, ↓Asks.no, tyL, encL, asB]))
 refine Ab.ret ?_; simp only [evD, evL, iteL, aX, St.said, St.asked, evStep, evOp, evP, St.init, St.app, srcStep, kill, setMany, loadS, fieldS, buildS, toks, Fin, upd_app, Array.isEmpty, reduceLT, reduceAdd, reduceMul, reduceLeDiff, reduceSub, reduceEqDiff, reduceCtorEq, reduceIte, ↓Opt.is, ↓Opt.no, ↓Asks.yes, ↓Asks.no, tyL, List.nodup_cons, encL, Tryd.f56]
theorem joinTerms_a {l : List Int} (gl : (eSlice eInt).good l) (hl : l.length ≤ 1048576) : AC Tryd.prog 53 [.d (encIs l)] (.d (.v (.string (jn ⟨#[]⟩ (l.map termB))))) := by
 have hcv := convertAll_int_string (g := 104) caps_nil termB l hl (fun x hx => implFormatTerm_a (gl.2 x hx))
 have hz := jn_size (sep := ⟨#[]⟩) (m := 21) (l.map termB) (fun x hx => by
   obtain ⟨y, hy, rfl⟩ := List.mem_map.1 hx
   exact termB_size (gl.2 y hy))
 rw [List.length_map] at hz
 have e1 : (⟨#[]⟩ : ByteArray).size = 0 := rfl
 rw [e1] at hz
 have hj := join_a (l.map termB) ⟨#[]⟩ (by rw [List.length_map]; exact hl) (by omega)
 refine AC.intro Tryd.func53 rfl (by decide) (by simp [S.res, S.ress]) (by simp [S.os, S.oss]) (by simp [S.wfs, S.wf, dbS]) (by simp [Tryd.f53]) ?_; rw [Tryd.ntmps53]
 repeat (first | refine aq ?_ | refine ap (by rfl : apartB 0 _ _ = true) ?_ | refine ak ?_ | refine ab ?_ | refine al ?_ | ((first | refine ar ?_ | refine ad ty_mix (by kernel_rfl) ?_ | refine ac ?_ | refine ae ?_ | with_reducible refine Later.mk ?_); simp only [evD, evL, iteL, aX, St.said, St.asked, evStep, evOp, evP, St.init, St.app, srcStep, kill, setMany, loadS, fieldS, buildS, toks, Fin, upd_app, Array.isEmpty, reduceLT, reduceAdd, reduceMul, reduceLeDiff, reduceSub, reduceEqDiff, reduceCtorEq, reduceIte, ↓Opt.is, ↓Opt.no, ↓Asks.yes, ↓Asks.no, tyL, encL, asB]))
 refine ⟨_, hcv, ?_⟩; (repeat (first | refine ap (by rfl : apartB 0 _ _ = true) ?_ | refine ap (by simp [osL, D.flat]) ?_)); repeat (first | refine aq ?_ | refine ap (by rfl : apartB 0 _ _ = true) ?_ | refine ak ?_ | refine ab ?_ | refine al ?_ | ((first | refine ar ?_ | refine ad ty_mix (by kernel_rfl) ?_ | refine ac ?_ | refine ae ?_ | with_reducible refine Later.mk ?_); simp only [evD, evL, iteL, aX, St.said, St.asked, evStep, evOp, evP, St.init, St.app, srcStep, kill, setMany, loadS, fieldS, buildS, toks, Fin, upd_app, Array.isEmpty, reduceLT, reduceAdd, reduceMul, reduceLeDiff, reduceSub, reduceEqDiff, reduceCtorEq, reduceIte, ↓Opt.is, ↓Opt.no, ↓Asks.yes, ↓Asks.no, tyL, encL, asB]))
 refine ⟨_, hj, ?_⟩; (repeat (first | refine ap (by rfl : apartB 0 _ _ = true) ?_ | refine ap (by simp [osL, D.flat]) ?_)); repeat (first | refine aq ?_ | refine ap (by rfl : apartB 0 _ _ = true) ?_ | refine ak ?_ | refine ab ?_ | refine al ?_ | ((first | refine ar ?_ | refine ad ty_mix (by kernel_rfl) ?_ | refine ac ?_ | refine ae ?_ | with_reducible refine Later.mk ?_); simp only [evD, evL, iteL, aX, St.said, St.asked, evStep, evOp, evP, St.init, St.app, srcStep, kill, setMany, loadS, fieldS, buildS, toks, Fin, upd_app, Array.isEmpty, reduceLT, reduceAdd, reduceMul, reduceLeDiff, reduceSub, reduceEqDiff, reduceCtorEq, reduceIte, ↓Opt.is, ↓Opt.no, ↓Asks.yes, ↓Asks.no, tyL, encL, asB]))
 refine Ab.ret ?_; simp only [evD, evL, iteL, aX, St.said, St.asked, evStep, evOp, evP, St.init, St.app, srcStep, kill, setMany, loadS, fieldS, buildS, toks, Fin, upd_app, Array.isEmpty, reduceLT, reduceAdd, reduceMul, reduceLeDiff, reduceSub, reduceEqDiff, reduceCtorEq, reduceIte, ↓Opt.is, ↓Opt.no, ↓Asks.yes, ↓Asks.no, tyL, List.nodup_cons, encL, Tryd.f53]
theorem l11Atom_a {l : List Rel} {a : Atm} (ga : eAtm.good a) {k : Nat} {hk : k < l.length} (h1 : a.rel = (k : Int)) (h2 : relAtN l a.rel = l[k]) (h3 : l[k].name.size = 1) (h4 : a.terms.length ≤ 3) : AC Tryd.prog 48 [.d (encRs l), atmS a] (.d (.v (.string (atomB l a)))) := by
 have gv : (eSlice eInt).good a.terms := ga.2
 have y1 := getR hk
 have hlen := fun i hi => rowTo_len (F := termB) (k := l[k].key) (name := l[k].name) (l := a.terms) (fun y hy => termB_size (gv.2 y hy)) i hi
 have z3 : ∀ x : Nat, (0 ≤ (x : Int)) = True := fun x => eq_true (by omega)
 have hf := rowTo_first termB l[k].key l[k].name a.terms
 unfold atomB
 rw [h2]
 unfold atmS
 rw [h1]
 unfold rowB
 refine AC.intro Tryd.func48 rfl (by decide) (by simp [S.res, S.ress]) (by simp [S.os, S.oss]) (by simp [S.wfs, S.wf, dbS]) (by simp [Tryd.f48]) ?_; rw [Tryd.ntmps48]
 repeat (first | refine aq ?_ | refine ap (by rfl : apartB 0 _ _ = true) ?_ | refine ak ?_ | refine ab ?_ | refine al ?_ | ((first | refine ar ?_ | refine ad ty_mix (by kernel_rfl) ?_ | refine ac ?_ | refine ae ?_ | with_reducible refine Later.mk ?_); simp only [evD, evL, iteL, aX, St.said, St.asked, evStep, evOp, evP, St.init, St.app, srcStep, kill, setMany, loadS, fieldS, buildS, toks, Fin, upd_app, Array.isEmpty, reduceLT, reduceAdd, reduceMul, reduceLeDiff, reduceSub, reduceEqDiff, reduceCtorEq, reduceIte, ↓Opt.is, ↓Opt.no, ↓Asks.yes, ↓Asks.no, tyL, encL, y1, z3, Int.toNat_natCast, encR, asB]))
 refine Ab.loopI a.terms.length (fun _ => True) (fun i => mkS 39 [(0, .d (.sl (List.map encR l))), (3, .p 0 0), (5, .d (.v (.string (str (rowTo termB l[k].key l[k].name a.terms i))))), (6, .d (.v (.int .i64 (i : Int))))] [(0, .box [.d (.v (.int .i64 (k : Int))), .d (.sl (List.map encI a.terms))])] 160) trivial ?_ ?_
 · ((first | refine Le.mk rfl ?_ ?_ | refine LeTo.mk rfl ?_ ?_) <;> simp only [evD, evL, iteL, aX, St.said, St.asked, evStep, evOp, evP, St.init, St.app, srcStep, kill, setMany, loadS, fieldS, buildS, toks, Fin, upd_app, Array.isEmpty, reduceLT, reduceAdd, reduceMul, reduceLeDiff, reduceSub, reduceEqDiff, reduceCtorEq, reduceIte, ↓Opt.is, ↓Opt.no, ↓Asks.yes, ↓Asks.no, tyL, encL, leL, leD, ne_eq, hf])
 intro i hi _
 repeat (first | refine aq ?_ | refine ap (by rfl : apartB 0 _ _ = true) ?_ | refine ak ?_ | refine ab ?_ | refine al ?_ | ((first | refine ar ?_ | refine ad ty_mix (by kernel_rfl) ?_ | refine ac ?_ | refine ae ?_ | with_reducible refine Later.mk ?_); simp only [evD, evL, iteL, aX, St.said, St.asked, evStep, evOp, evP, St.init, St.app, srcStep, kill, setMany, loadS, fieldS, buildS, toks, Fin, upd_app, Array.isEmpty, reduceLT, reduceAdd, reduceMul, reduceLeDiff, reduceSub, reduceEqDiff, reduceCtorEq, reduceIte, ↓Opt.is, ↓Opt.no, ↓Asks.yes, ↓Asks.no, tyL, encL, mkS, updl, asB]))
 refine ⟨fun h => ?_, fun h => ?_⟩
 · have h : i < a.terms.length := by simpa using h
   have hw := wrapN h (by omega)
   have hcf := specFormatTerm_a (gv.2 _ (List.getElem_mem h))
   have hs2 := termB_size (gv.2 _ (List.getElem_mem h))
   have hsi := hlen i hi
   rw [← str_size] at hsi
   by_cases hkk : (i : Int) = l[k].key
   · have hst := rowTo_eq (F := termB) (name := l[k].name) h hkk
     have hbe : ((i : Int) == l[k].key) = true := beq_iff_eq.2 hkk
     generalize str (rowTo termB l[k].key l[k].name a.terms i) = A at *
     have e1 : (⟨#[124]⟩ : ByteArray).size = 1 := rfl
     have a1 := addOk A ⟨#[124]⟩ (by omega)
     have a2 := addOk (A ++ ⟨#[124]⟩) (termB a.terms[i]) (by rw [ByteArray.size_append]; omega)
     repeat (first | refine aq ?_ | refine ap (by rfl : apartB 0 _ _ = true) ?_ | refine ak ?_ | refine ab ?_ | refine al ?_ | ((first | refine ar ?_ | refine ad ty_mix (by kernel_rfl) ?_ | refine ac ?_ | refine ae ?_ | with_reducible refine Later.mk ?_); simp only [evD, evL, iteL, aX, St.said, St.asked, evStep, evOp, evP, St.init, St.app, srcStep, kill, setMany, loadS, fieldS, buildS, toks, Fin, upd_app, Array.isEmpty, reduceLT, reduceAdd, reduceMul, reduceLeDiff, reduceSub, reduceEqDiff, reduceCtorEq, reduceIte, ↓Opt.is, ↓Opt.no, ↓Asks.yes, ↓Asks.no, tyL, encL, y1, z3, Int.toNat_natCast, encR, hbe, a1, getI h, asB]))
     refine ⟨_, hcf, ?_⟩; (repeat (first | refine ap (by rfl : apartB 0 _ _ = true) ?_ | refine ap (by simp [osL, D.flat]) ?_)); repeat (first | refine aq ?_ | refine ap (by rfl : apartB 0 _ _ = true) ?_ | refine ak ?_ | refine ab ?_ | refine al ?_ | ((first | refine ar ?_ | refine ad ty_mix (by kernel_rfl) ?_ | refine ac ?_ | refine ae ?_ | with_reducible refine Later.mk ?_); simp only [evD, evL, iteL, aX, St.said, St.asked, evStep, evOp, evP, St.init, St.app, srcStep, kill, setMany, loadS, fieldS, buildS, toks, Fin, upd_app, Array.isEmpty, reduceLT, reduceAdd, reduceMul, reduceLeDiff, reduceSub, reduceEqDiff, reduceCtorEq, reduceIte, ↓Opt.is, ↓Opt.no, ↓Asks.yes, ↓Asks.no, tyL, encL, y1, z3, Int.toNat_natCast, encR, hbe, a2, hw, asB]))
     refine ⟨h, ?_⟩
     ((first | refine Le.mk rfl ?_ ?_ | refine LeTo.mk rfl ?_ ?_) <;> simp only [evD, evL, iteL, aX, St.said, St.asked, evStep, evOp, evP, St.init, St.app, srcStep, kill, setMany, loadS, fieldS, buildS, toks, Fin, upd_app, Array.isEmpty, reduceLT, reduceAdd, reduceMul, reduceLeDiff, reduceSub, reduceEqDiff, reduceCtorEq, reduceIte, ↓Opt.is, ↓Opt.no, ↓Asks.yes, ↓Asks.no, tyL, encL, leL, leD, ne_eq, hst])
   · have hst := rowTo_ne (F := termB) (name := l[k].name) h hkk
     have hbe : ((i : Int) == l[k].key) = false := beq_eq_false_iff_ne.2 hkk
     generalize str (rowTo termB l[k].key l[k].name a.terms i) = A at *
     have a2 := addOk A (termB a.terms[i]) (by omega)
     repeat (first | refine aq ?_ | refine ap (by rfl : apartB 0 _ _ = true) ?_ | refine ak ?_ | refine ab ?_ | refine al ?_ | ((first | refine ar ?_ | refine ad ty_mix (by kernel_rfl) ?_ | refine ac ?_ | refine ae ?_ | with_reducible refine Later.mk ?_); simp only [evD, evL, iteL, aX, St.said, St.asked, evStep, evOp, evP, St.init, St.app, srcStep, kill, setMany, loadS, fieldS, buildS, toks, Fin, upd_app, Array.isEmpty, reduceLT, reduceAdd, reduceMul, reduceLeDiff, reduceSub, reduceEqDiff, reduceCtorEq, reduceIte, ↓Opt.is, ↓Opt.no, ↓Asks.yes, ↓Asks.no, tyL, encL, y1, z3, Int.toNat_natCast, encR, hbe, getI h, asB]))
     refine ⟨_, hcf, ?_⟩; (repeat (first | refine ap (by rfl : apartB 0 _ _ = true) ?_ | refine ap (by simp [osL, D.flat]) ?_)); repeat (first | refine aq ?_ | refine ap (by rfl : apartB 0 _ _ = true) ?_ | refine ak ?_ | refine ab ?_ | refine al ?_ | ((first | refine ar ?_ | refine ad ty_mix (by kernel_rfl) ?_ | refine ac ?_ | refine ae ?_ | with_reducible refine Later.mk ?_); simp only [evD, evL, iteL, aX, St.said, St.asked, evStep, evOp, evP, St.init, St.app, srcStep, kill, setMany, loadS, fieldS, buildS, toks, Fin, upd_app, Array.isEmpty, reduceLT, reduceAdd, reduceMul, reduceLeDiff, reduceSub, reduceEqDiff, reduceCtorEq, reduceIte, ↓Opt.is, ↓Opt.no, ↓Asks.yes, ↓Asks.no, tyL, encL, y1, z3, Int.toNat_natCast, encR, hbe, a2, hw, asB]))
     refine ⟨h, ?_⟩
     ((first | refine Le.mk rfl ?_ ?_ | refine LeTo.mk rfl ?_ ?_) <;> simp only [evD, evL, iteL, aX, St.said, St.asked, evStep, evOp, evP, St.init, St.app, srcStep, kill, setMany, loadS, fieldS, buildS, toks, Fin, upd_app, Array.isEmpty, reduceLT, reduceAdd, reduceMul, reduceLeDiff, reduceSub, reduceEqDiff, reduceCtorEq, reduceIte, ↓Opt.is, ↓Opt.no, ↓Asks.yes, ↓Asks.no, tyL, encL, leL, leD, ne_eq, hst])
 · have h : i = a.terms.length := by have := of_decide_eq_false h; omega
   subst h
   repeat (first | refine aq ?_ | refine ap (by rfl : apartB 0 _ _ = true) ?_ | refine ak ?_ | refine ab ?_ | refine al ?_ | ((first | refine ar ?_ | refine ad ty_mix (by kernel_rfl) ?_ | refine ac ?_ | refine ae ?_ | with_reducible refine Later.mk ?_); simp only [evD, evL, iteL, aX, St.said, St.asked, evStep, evOp, evP, St.init, St.app, srcStep, kill, setMany, loadS, fieldS, buildS, toks, Fin, upd_app, Array.isEmpty, reduceLT, reduceAdd, reduceMul, reduceLeDiff, reduceSub, reduceEqDiff, reduceCtorEq, reduceIte, ↓Opt.is, ↓Opt.no, ↓Asks.yes, ↓Asks.no, tyL, encL, asB]))
   refine Ab.ret ?_; simp only [evD, evL, iteL, aX, St.said, St.asked, evStep, evOp, evP, St.init, St.app, srcStep, kill, setMany, loadS, fieldS, buildS, toks, Fin, upd_app, Array.isEmpty, reduceLT, reduceAdd, reduceMul, reduceLeDiff, reduceSub, reduceEqDiff, reduceCtorEq, reduceIte, ↓Opt.is, ↓Opt.no, ↓Asks.yes, ↓Asks.no, tyL, List.nodup_cons, encL, Tryd.f48]
def termsB (l : List Int) (i : Nat) : ByteArray := jn ⟨#[]⟩ ((l.take i).map termB)
theorem termsB_step {l : List Int} {i : Nat} (h : i < l.length) : termsB l (i + 1) = termsB l i ++ termB l[i] := by
 unfold termsB
 rw [jn_step _ _ _ h]
 split
 · rename_i h0
   subst h0
   rw [List.take_zero]
   exact (bNap _).symm
 · rw [bApp_nil]
theorem termsB_size {l : List Int} (h : ∀ x, x ∈ l → inR x) (i : Nat) (hi : i ≤ l.length) : (termsB l i).size ≤ i * 21 := by
 unfold termsB
 have := jn_size (sep := ⟨#[]⟩) (m := 21) ((l.take i).map termB) (fun x hx => by
   obtain ⟨y, hy, rfl⟩ := List.mem_map.1 hx
   exact termB_size (h y (List.mem_of_mem_take hy)))
 rw [List.length_map, List.length_take, show (⟨#[]⟩ : ByteArray).size = 0 from rfl, Nat.min_eq_left hi] at this
 omega
end Ab
end

section
/- convertAll to texts, joinAll, at further types. Written by gen/abgenv.py. -/
open Go Go.Proofs Go.RowKit
namespace Ab
theorem convertAll_RewritingStep_string {g : FuncId} {caps : List S} (hc : Caps caps) (G : Rst → ByteArray) (l : List Rst) (hl : l.length ≤ 1048576) (hp : ∀ x, x ∈ l → AC Tryd.prog g (.a [.d (.v (.int .i64 (x).atom.rel)), .d (encIs (x).atom.terms), .d (encIs (x).ex), .d (encIs (x).un)] :: caps) (.d (.v (.string (G x))))) :
   AC Tryd.prog 124 [.d (.sl (l.map encSt)), .f (.func g) [] caps] (.o 0 (.sl ((l.map G).map encT))) := by
 refine AC.intro Tryd.func124 rfl (by decide) (by simp [S.res, S.ress]) (by simp [S.os, S.oss]) (by simp [S.wfs, S.wf, hc.wfs]) (by simp [Tryd.f124]) ?_; rw [Tryd.ntmps124]
 repeat (first | refine aq ?_ | refine ap (by rfl : apartB 0 _ _ = true) ?_ | refine ak ?_ | refine ab ?_ | refine al ?_ | ((first | refine ar ?_ | refine ad ty_mix (by kernel_rfl) ?_ | refine ac ?_ | refine ae ?_ | with_reducible refine Later.mk ?_); simp only [evD, evL, iteL, aX, St.said, St.asked, evStep, evOp, evP, St.init, St.app, srcStep, kill, setMany, loadS, fieldS, buildS, toks, Fin, upd_app, Array.isEmpty, reduceLT, reduceAdd, reduceMul, reduceLeDiff, reduceSub, reduceEqDiff, reduceCtorEq, reduceIte, ↓Opt.is, ↓Opt.no, ↓Asks.yes, ↓Asks.no, tyL, encL, asB]))
 refine ⟨by simp [D.flat], by omega, by simp only [maxLen]; omega, ?_⟩
 repeat (first | refine aq ?_ | refine ap (by rfl : apartB 0 _ _ = true) ?_ | refine ak ?_ | refine ab ?_ | refine al ?_ | ((first | refine ar ?_ | refine ad ty_mix (by kernel_rfl) ?_ | refine ac ?_ | refine ae ?_ | with_reducible refine Later.mk ?_); simp only [evD, evL, iteL, aX, St.said, St.asked, evStep, evOp, evP, St.init, St.app, srcStep, kill, setMany, loadS, fieldS, buildS, toks, Fin, upd_app, Array.isEmpty, reduceLT, reduceAdd, reduceMul, reduceLeDiff, reduceSub, reduceEqDiff, reduceCtorEq, reduceIte, ↓Opt.is, ↓Opt.no, ↓Asks.yes, ↓Asks.no, tyL, encL, asB]))
 refine Ab.loopI l.length (fun _ => True) (fun i => mkS 26 [(1, .f (.func g) [] caps), (5, .m 48), (11, .d (.sl (l.map encSt))), (12, .d (.v (.int .i64 (l.length : Int)))), (13, .d (.v (.int .i64 (i : Int))))] [(48, .arr true 9 1 (((l.take i).map G).map encT ++ List.replicate (l.length - i) [.v (.string ⟨#[]⟩)]))] 160) trivial ?_ ?_
 · ((first | refine Le.mk rfl ?_ ?_ | refine LeTo.mk rfl ?_ ?_) <;> simp only [evD, evL, iteL, aX, St.said, St.asked, evStep, evOp, evP, St.init, St.app, srcStep, kill, setMany, loadS, fieldS, buildS, toks, Fin, upd_app, Array.isEmpty, reduceLT, reduceAdd, reduceMul, reduceLeDiff, reduceSub, reduceEqDiff, reduceCtorEq, reduceIte, ↓Opt.is, ↓Opt.no, ↓Asks.yes, ↓Asks.no, tyL, encL, leL, leD, ne_eq, hc.wfs, List.take_zero, List.map_nil, List.nil_append, Nat.sub_zero])
 intro i hi _
 repeat (first | refine aq ?_ | refine ap (by rfl : apartB 0 _ _ = true) ?_ | refine ak ?_ | refine ab ?_ | refine al ?_ | ((first | refine ar ?_ | refine ad ty_mix (by kernel_rfl) ?_ | refine ac ?_ | refine ae ?_ | with_reducible refine Later.mk ?_); simp only [evD, evL, iteL, aX, St.said, St.asked, evStep, evOp, evP, St.init, St.app, srcStep, kill, setMany, loadS, fieldS, buildS, toks, Fin, upd_app, Array.isEmpty, reduceLT, reduceAdd, reduceMul, reduceLeDiff, reduceSub, reduceEqDiff, reduceCtorEq, reduceIte, ↓Opt.is, ↓Opt.no, ↓Asks.yes, ↓Asks.no, tyL, encL, mkS, updl, asB]))
 refine ⟨fun h => ?_, fun h => ?_⟩
 · have h : i < l.length := by simpa using h
   have hw := wrapN h (by omega)
   have he := mkA encT G l i [.v (.string ⟨#[]⟩)] h
   have hs := mkA_set encT G l i [.v (.string ⟨#[]⟩)] h
   have hn := mkA_len encT G l i [.v (.string ⟨#[]⟩)] hi
   repeat (first | refine aq ?_ | refine ap (by rfl : apartB 0 _ _ = true) ?_ | refine ak ?_ | refine ab ?_ | refine al ?_ | ((first | refine ar ?_ | refine ad ty_mix (by kernel_rfl) ?_ | refine ac ?_ | refine ae ?_ | with_reducible refine Later.mk ?_); simp only [evD, evL, iteL, aX, St.said, St.asked, evStep, evOp, evP, St.init, St.app, srcStep, kill, setMany, loadS, fieldS, buildS, toks, Fin, upd_app, Array.isEmpty, reduceLT, reduceAdd, reduceMul, reduceLeDiff, reduceSub, reduceEqDiff, reduceCtorEq, reduceIte, ↓Opt.is, ↓Opt.no, ↓Asks.yes, ↓Asks.no, tyL, encL, getSt h, hc.argl, hc.readsl, asB]))
   refine ⟨_, hp l[i] (List.getElem_mem h), ?_⟩
   try simp only [evD, evL, iteL, aX, St.said, St.asked, evStep, evOp, evP, St.init, St.app, srcStep, kill, setMany, loadS, fieldS, buildS, toks, Fin, upd_app, Array.isEmpty, reduceLT, reduceAdd, reduceMul, reduceLeDiff, reduceSub, reduceEqDiff, reduceCtorEq, reduceIte, ↓Opt.is, ↓Opt.no, ↓Asks.yes, ↓Asks.no, tyL, encL, hc.readsl]
   refine Later.mk ?_
   simp only [evD, evL, iteL, aX, St.said, St.asked, evStep, evOp, evP, St.init, St.app, srcStep, kill, setMany, loadS, fieldS, buildS, toks, Fin, upd_app, Array.isEmpty, reduceLT, reduceAdd, reduceMul, reduceLeDiff, reduceSub, reduceEqDiff, reduceCtorEq, reduceIte, ↓Opt.is, ↓Opt.no, ↓Asks.yes, ↓Asks.no, tyL, encL, he, hn, h, Int.ofNat_lt, mkA_len encT G l i [.v (.string ⟨#[]⟩)] hi, List.set_cons_zero]
   repeat (first | refine aq ?_ | refine ap (by rfl : apartB 0 _ _ = true) ?_ | refine ak ?_ | refine ab ?_ | refine al ?_ | ((first | refine ar ?_ | refine ad ty_mix (by kernel_rfl) ?_ | refine ac ?_ | refine ae ?_ | with_reducible refine Later.mk ?_); simp only [evD, evL, iteL, aX, St.said, St.asked, evStep, evOp, evP, St.init, St.app, srcStep, kill, setMany, loadS, fieldS, buildS, toks, Fin, upd_app, Array.isEmpty, reduceLT, reduceAdd, reduceMul, reduceLeDiff, reduceSub, reduceEqDiff, reduceCtorEq, reduceIte, ↓Opt.is, ↓Opt.no, ↓Asks.yes, ↓Asks.no, tyL, encL, hw, asB]))
   try refine ⟨h, ?_⟩
   ((first | refine Le.mk rfl ?_ ?_ | refine LeTo.mk rfl ?_ ?_) <;> simp only [evD, evL, iteL, aX, St.said, St.asked, evStep, evOp, evP, St.init, St.app, srcStep, kill, setMany, loadS, fieldS, buildS, toks, Fin, upd_app, Array.isEmpty, reduceLT, reduceAdd, reduceMul, reduceLeDiff, reduceSub, reduceEqDiff, reduceCtorEq, reduceIte, ↓Opt.is, ↓Opt.no, ↓Asks.yes, ↓Asks.no, tyL, encL, leL, leD, ne_eq, hc.wfs])
   exact hs.symm
 · have h : i = l.length := by have := of_decide_eq_false h; omega
   subst h
   repeat (first | refine aq ?_ | refine ap (by rfl : apartB 0 _ _ = true) ?_ | refine ak ?_ | refine ab ?_ | refine al ?_ | ((first | refine ar ?_ | refine ad ty_mix (by kernel_rfl) ?_ | refine ac ?_ | refine ae ?_ | with_reducible refine Later.mk ?_); simp only [evD, evL, iteL, aX, St.said, St.asked, evStep, evOp, evP, St.init, St.app, srcStep, kill, setMany, loadS, fieldS, buildS, toks, Fin, upd_app, Array.isEmpty, reduceLT, reduceAdd, reduceMul, reduceLeDiff, reduceSub, reduceEqDiff, reduceCtorEq, reduceIte, ↓Opt.is, ↓Opt.no, ↓Asks.yes, ↓Asks.no, tyL, encL, asB]))
   refine Ab.ret ?_
   simp only [evD, evL, iteL, aX, St.said, St.asked, evStep, evOp, evP, St.init, St.app, srcStep, kill, setMany, loadS, fieldS, buildS, toks, Fin, upd_app, Array.isEmpty, reduceLT, reduceAdd, reduceMul, reduceLeDiff, reduceSub, reduceEqDiff, reduceCtorEq, reduceIte, ↓Opt.is, ↓Opt.no, ↓Asks.yes, ↓Asks.no, tyL, Tryd.f124]
   exact ⟨⟨_, _, _, rfl, by simp⟩, by simp⟩
theorem joinAll_RewritingStep {g : FuncId} {caps : List S} (hc : Caps caps) (G : Rst → ByteArray) (l : List Rst) (hl : l.length ≤ 1048576) (hz : (jn ⟨#[32]⟩ (l.map G)).size ≤ 140737488355328) (hp : ∀ x, x ∈ l → AC Tryd.prog g (.a [.d (.v (.int .i64 (x).atom.rel)), .d (encIs (x).atom.terms), .d (encIs (x).ex), .d (encIs (x).un)] :: caps) (.d (.v (.string (G x))))) :
   AC Tryd.prog 90 [.d (.sl (l.map encSt)), .f (.func g) [] caps] (.d (.v (.string (jn ⟨#[32]⟩ (l.map G))))) := by
 refine AC.intro Tryd.func90 rfl (by decide) (by simp [S.res, S.ress]) (by simp [S.os, S.oss]) (by simp [S.wfs, S.wf, hc.wfs]) (by simp [Tryd.f90]) ?_; rw [Tryd.ntmps90]
 have hj := join_a (l.map G) ⟨#[32]⟩ (by rw [List.length_map]; omega) hz
 repeat (first | refine aq ?_ | refine ap (by rfl : apartB 0 _ _ = true) ?_ | refine ak ?_ | refine ab ?_ | refine al ?_ | ((first | refine ar ?_ | refine ad ty_mix (by kernel_rfl) ?_ | refine ac ?_ | refine ae ?_ | with_reducible refine Later.mk ?_); simp only [evD, evL, iteL, aX, St.said, St.asked, evStep, evOp, evP, St.init, St.app, srcStep, kill, setMany, loadS, fieldS, buildS, toks, Fin, upd_app, Array.isEmpty, reduceLT, reduceAdd, reduceMul, reduceLeDiff, reduceSub, reduceEqDiff, reduceCtorEq, reduceIte, ↓Opt.is, ↓Opt.no, ↓Asks.yes, ↓Asks.no, tyL, encL, hc.argl, hc.readsl, asB]))
 refine ⟨_, convertAll_RewritingStep_string hc G l hl hp, ?_⟩
 try simp only [evD, evL, iteL, aX, St.said, St.asked, evStep, evOp, evP, St.init, St.app, srcStep, kill, setMany, loadS, fieldS, buildS, toks, Fin, upd_app, Array.isEmpty, reduceLT, reduceAdd, reduceMul, reduceLeDiff, reduceSub, reduceEqDiff, reduceCtorEq, reduceIte, ↓Opt.is, ↓Opt.no, ↓Asks.yes, ↓Asks.no, tyL, encL, hc.readsl]
 try refine ⟨by simp [S.os, S.oss], ?_⟩
 refine Later.mk ?_
 simp only [evD, evL, iteL, aX, St.said, St.asked, evStep, evOp, evP, St.init, St.app, srcStep, kill, setMany, loadS, fieldS, buildS, toks, Fin, upd_app, Array.isEmpty, reduceLT, reduceAdd, reduceMul, reduceLeDiff, reduceSub, reduceEqDiff, reduceCtorEq, reduceIte, ↓Opt.is, ↓Opt.no, ↓Asks.yes, ↓Asks.no, tyL, encL]
 refine ⟨_, hj, ?_⟩; (repeat (first | refine ap (by rfl : apartB 0 _ _ = true) ?_ | refine ap (by simp [osL, D.flat]) ?_)); repeat (first | refine aq ?_ | refine ap (by rfl : apartB 0 _ _ = true) ?_ | refine ak ?_ | refine ab ?_ | refine al ?_ | ((first | refine ar ?_ | refine ad ty_mix (by kernel_rfl) ?_ | refine ac ?_ | refine ae ?_ | with_reducible refine Later.mk ?_); simp only [evD, evL, iteL, aX, St.said, St.asked, evStep, evOp, evP, St.init, St.app, srcStep, kill, setMany, loadS, fieldS, buildS, toks, Fin, upd_app, Array.isEmpty, reduceLT, reduceAdd, reduceMul, reduceLeDiff, reduceSub, reduceEqDiff, reduceCtorEq, reduceIte, ↓Opt.is, ↓Opt.no, ↓Asks.yes, ↓Asks.no, tyL, encL, asB]))
 refine Ab.ret ?_
 simp only [evD, evL, iteL, aX, St.said, St.asked, evStep, evOp, evP, St.init, St.app, srcStep, kill, setMany, loadS, fieldS, buildS, toks, Fin, upd_app, Array.isEmpty, reduceLT, reduceAdd, reduceMul, reduceLeDiff, reduceSub, reduceEqDiff, reduceCtorEq, reduceIte, ↓Opt.is, ↓Opt.no, ↓Asks.yes, ↓Asks.no, tyL, Tryd.f90]
end Ab
end

section
/- Rewritings as text. -/
open Go Go.Proofs Go.RowKit
namespace Ab
theorem step_facts {l : List Rel} {x : Rst} (h : stOk l x = true) : ∃ (k : Nat) (hk : k < l.length), x.atom.rel = (k : Int) ∧ relAtN l x.atom.rel = l[k] ∧ l[k].name.size = 1 ∧ x.atom.terms.length ≤ 3 := by
 unfold stOk at h
 simp only [Bool.and_eq_true] at h
 obtain ⟨h1, h2, h3⟩ := h
 unfold validRels at h1
 rw [Bool.and_eq_true] at h1
 unfold atomOk inB at h2
 simp only [Bool.and_eq_true, decide_eq_true_eq] at h2
 have hk : x.atom.rel.toNat < l.length := by omega
 have hr : relAtN l x.atom.rel = l[x.atom.rel.toNat] := by
   unfold relAtN
   rw [List.getD_eq_getElem?_getD, List.getElem?_eq_getElem hk]
   rfl
 have hv := ascFrom_allQ _ none h1.1 _ (List.getElem_mem hk)
 have hf := validRel_facts hv
 have ha3 : x.atom.terms.length ≤ 3 := by
   have h8 := h2.2.1
   unfold arityAt at h8
   unfold validRel inB at hv
   simp only [Bool.and_eq_true, decide_eq_true_eq] at hv
   rw [List.getElem?_eq_getElem hk] at h8
   simp at h8
   omega
 exact ⟨x.atom.rel.toNat, hk, by omega, hr, hf.1, ha3⟩
def nmsB (l : List Int) : ByteArray := jn ⟨#[]⟩ (l.map termB)
def rstB (l : List Rel) (x : Rst) : ByteArray := ⟨#[69]⟩ ++ nmsB x.ex ++ ⟨#[32, 65]⟩ ++ nmsB x.un ++ ⟨#[32]⟩ ++ atomB l x.atom
def rwB (l : List Rel) (f : List Rst) : ByteArray := if rwV l f = true then jn ⟨#[32]⟩ (f.map (rstB l)) else ⟨#[]⟩
theorem nmsB_size {l : List Int} (gl : (eSlice eInt).good l) (hl : l.length ≤ 1048576) : (nmsB l).size ≤ 22020096 := by
 have hz := jn_size (sep := ⟨#[]⟩) (m := 21) (l.map termB) (fun x hx => by
   obtain ⟨y, hy, rfl⟩ := List.mem_map.1 hx
   exact termB_size (gl.2 y hy))
 rw [List.length_map, show (⟨#[]⟩ : ByteArray).size = 0 from rfl] at hz
 unfold nmsB
 omega
theorem rstB_size {l : List Rel} {x : Rst} (gx : eRst.good x) (hx : x.ex.length ≤ 1048576 ∧ x.un.length ≤ 1048576) (h : stOk l x = true) : (rstB l x).size ≤ 44040270 := by
 obtain ⟨k, hk, h1, h2, h3, h4⟩ := step_facts h
 have z1 := nmsB_size (l := x.ex) gx.2.1 hx.1
 have z2 := nmsB_size (l := x.un) gx.2.2 hx.2
 have z3 := atomB_size h2 h3 h4 (gx.1.2.2)
 have e1 : (⟨#[69]⟩ : ByteArray).size = 1 := rfl
 have e2 : (⟨#[32, 65]⟩ : ByteArray).size = 2 := rfl
 have e3 : (⟨#[32]⟩ : ByteArray).size = 1 := rfl
 unfold rstB
 simp only [ByteArray.size_append]
 omega
theorem rwV_each {l : List Rel} {f : List Rst} (h : rwV l f = true) : f.length ≤ 3 ∧ ∀ x, x ∈ f → stOk l x = true := by
 unfold rwV at h
 simp only [Bool.and_eq_true, decide_eq_true_eq] at h
 exact ⟨h.2, fun x hx => List.all_eq_true.1 h.1 x hx⟩
theorem implFormatRewriting_a {l : List Rel} (gl : (eSlice eRel).good l) {f : List Rst} (gf : (eSlice eRst).good f) (hf : f.length ≤ 1048576) (h1 : ∀ x, x ∈ f → x.ex.length ≤ 1048576 ∧ x.un.length ≤ 1048576) : AC Tryd.prog 41 [.d (encRs l), .d (encSts f)] (.d (.v (.string (rwB l f)))) := by
 have hv := implIsValidRewriting_a gl gf hf h1
 unfold rwB
 rcases Bool.eq_false_or_eq_true (rwV l f) with hd | hd <;> rw [hd] at hv ⊢
 · obtain ⟨h3, hall⟩ := rwV_each hd
   have hz := jn_size (sep := ⟨#[32]⟩) (m := 44040270) (f.map (rstB l)) (fun x hx => by
     obtain ⟨y, hy, rfl⟩ := List.mem_map.1 hx
     exact rstB_size (gf.2 y hy) (h1 y hy) (hall y hy))
   rw [List.length_map, show (⟨#[32]⟩ : ByteArray).size = 1 from rfl] at hz
   have hj := joinAll_RewritingStep (g := 91) (caps_one [encRs l] 0) (rstB l) f hf (by omega) (fun x hx => by
     have gx := gf.2 x hx
     obtain ⟨k, hk, b1, b2, b3, b4⟩ := step_facts (hall x hx)
     have c1 := joinTerms_a (l := x.ex) gx.2.1 (h1 x hx).1
     have c2 := joinTerms_a (l := x.un) gx.2.2 (h1 x hx).2
     have c3 := formatAtom_a (a := x.atom) gx.1 b1 b2 b3 b4
     have z1 := nmsB_size (l := x.ex) gx.2.1 (h1 x hx).1
     have z2 := nmsB_size (l := x.un) gx.2.2 (h1 x hx).2
     have z3 := atomB_size b2 b3 b4 (gx.1.2.2)
     have e1 : (⟨#[69]⟩ : ByteArray).size = 1 := rfl
     have e2 : (⟨#[32, 65]⟩ : ByteArray).size = 2 := rfl
     have e3 : (⟨#[32]⟩ : ByteArray).size = 1 := rfl
     unfold rstB
     unfold nmsB at *
     unfold atmS at c3
     generalize jn ⟨#[]⟩ (x.ex.map termB) = E at *
     generalize jn ⟨#[]⟩ (x.un.map termB) = U at *
     generalize atomB l x.atom = T at *
     have a1 := addOk ⟨#[69]⟩ E (by omega)
     have a2 := addOk (⟨#[69]⟩ ++ E) ⟨#[32, 65]⟩ (by simp only [ByteArray.size_append]; omega)
     have a3 := addOk (⟨#[69]⟩ ++ E ++ ⟨#[32, 65]⟩) U (by simp only [ByteArray.size_append]; omega)
     have a4 := addOk (⟨#[69]⟩ ++ E ++ ⟨#[32, 65]⟩ ++ U) ⟨#[32]⟩ (by simp only [ByteArray.size_append]; omega)
     have a5 := addOk (⟨#[69]⟩ ++ E ++ ⟨#[32, 65]⟩ ++ U ++ ⟨#[32]⟩) T (by simp only [ByteArray.size_append]; omega)
     refine AC.intro Tryd.func91 rfl (by decide) (by simp [S.res, S.ress]) (by simp [S.os, S.oss]) (by simp [S.wfs, S.wf, dbS]) (by simp [Tryd.f91]) ?_; rw [Tryd.ntmps91]
     repeat (first | refine aq ?_ | refine ap (by rfl : apartB 0 _ _ = true) ?_ | refine ak ?_ | refine ab ?_ | refine al ?_ | ((first | refine ar ?_ | refine ad ty_mix (by kernel_rfl) ?_ | refine ac ?_ | refine ae ?_ | with_reducible refine Later.mk ?_); simp only [evD, evL, iteL, aX, St.said, St.asked, evStep, evOp, evP, St.init, St.app, srcStep, kill, setMany, loadS, fieldS, buildS, toks, Fin, upd_app, Array.isEmpty, reduceLT, reduceAdd, reduceMul, reduceLeDiff, reduceSub, reduceEqDiff, reduceCtorEq, reduceIte, ↓Opt.is, ↓Opt.no, ↓Asks.yes, ↓Asks.no, tyL, encL, asB]))
     refine ⟨_, c1, ?_⟩; (repeat (first | refine ap (by rfl : apartB 0 _ _ = true) ?_ | refine ap (by simp [osL, D.flat]) ?_)); repeat (first | refine aq ?_ | refine ap (by rfl : apartB 0 _ _ = true) ?_ | refine ak ?_ | refine ab ?_ | refine al ?_ | ((first | refine ar ?_ | refine ad ty_mix (by kernel_rfl) ?_ | refine ac ?_ | refine ae ?_ | with_reducible refine Later.mk ?_); simp only [evD, evL, iteL, aX, St.said, St.asked, evStep, evOp, evP, St.init, St.app, srcStep, kill, setMany, loadS, fieldS, buildS, toks, Fin, upd_app, Array.isEmpty, reduceLT, reduceAdd, reduceMul, reduceLeDiff, reduceSub, reduceEqDiff, reduceCtorEq, reduceIte, ↓Opt.is, ↓Opt.no, ↓Asks.yes, ↓Asks.no, tyL, encL, a1, a2, asB]))
     refine ⟨_, c2, ?_⟩; (repeat (first | refine ap (by rfl : apartB 0 _ _ = true) ?_ | refine ap (by simp [osL, D.flat]) ?_)); repeat (first | refine aq ?_ | refine ap (by rfl : apartB 0 _ _ = true) ?_ | refine ak ?_ | refine ab ?_ | refine al ?_ | ((first | refine ar ?_ | refine ad ty_mix (by kernel_rfl) ?_ | refine ac ?_ | refine ae ?_ | with_reducible refine Later.mk ?_); simp only [evD, evL, iteL, aX, St.said, St.asked, evStep, evOp, evP, St.init, St.app, srcStep, kill, setMany, loadS, fieldS, buildS, toks, Fin, upd_app, Array.isEmpty, reduceLT, reduceAdd, reduceMul, reduceLeDiff, reduceSub, reduceEqDiff, reduceCtorEq, reduceIte, ↓Opt.is, ↓Opt.no, ↓Asks.yes, ↓Asks.no, tyL, encL, a1, a2, a3, a4, asB]))
     refine ⟨_, c3, ?_⟩; (repeat (first | refine ap (by rfl : apartB 0 _ _ = true) ?_ | refine ap (by simp [osL, D.flat]) ?_)); repeat (first | refine aq ?_ | refine ap (by rfl : apartB 0 _ _ = true) ?_ | refine ak ?_ | refine ab ?_ | refine al ?_ | ((first | refine ar ?_ | refine ad ty_mix (by kernel_rfl) ?_ | refine ac ?_ | refine ae ?_ | with_reducible refine Later.mk ?_); simp only [evD, evL, iteL, aX, St.said, St.asked, evStep, evOp, evP, St.init, St.app, srcStep, kill, setMany, loadS, fieldS, buildS, toks, Fin, upd_app, Array.isEmpty, reduceLT, reduceAdd, reduceMul, reduceLeDiff, reduceSub, reduceEqDiff, reduceCtorEq, reduceIte, ↓Opt.is, ↓Opt.no, ↓Asks.yes, ↓Asks.no, tyL, encL, a1, a2, a3, a4, a5, asB]))
     refine Ab.ret ?_; simp only [evD, evL, iteL, aX, St.said, St.asked, evStep, evOp, evP, St.init, St.app, srcStep, kill, setMany, loadS, fieldS, buildS, toks, Fin, upd_app, Array.isEmpty, reduceLT, reduceAdd, reduceMul, reduceLeDiff, reduceSub, reduceEqDiff, reduceCtorEq, reduceIte, ↓Opt.is, ↓Opt.no, ↓Asks.yes, ↓Asks.no, tyL, List.nodup_cons, encL, Tryd.f91])
   unfold encSts at hv ⊢
   refine AC.intro Tryd.func41 rfl (by decide) (by simp [S.res, S.ress]) (by simp [S.os, S.oss]) (by simp [S.wfs, S.wf, dbS]) (by simp [Tryd.f41]) ?_; rw [Tryd.ntmps41]
   repeat (first | refine aq ?_ | refine ap (by rfl : apartB 0 _ _ = true) ?_ | refine ak ?_ | refine ab ?_ | refine al ?_ | ((first | refine ar ?_ | refine ad ty_mix (by kernel_rfl) ?_ | refine ac ?_ | refine ae ?_ | with_reducible refine Later.mk ?_); simp only [evD, evL, iteL, aX, St.said, St.asked, evStep, evOp, evP, St.init, St.app, srcStep, kill, setMany, loadS, fieldS, buildS, toks, Fin, upd_app, Array.isEmpty, reduceLT, reduceAdd, reduceMul, reduceLeDiff, reduceSub, reduceEqDiff, reduceCtorEq, reduceIte, ↓Opt.is, ↓Opt.no, ↓Asks.yes, ↓Asks.no, tyL, encL, asB]))
   refine ⟨_, hv, ?_⟩; (repeat (first | refine ap (by rfl : apartB 0 _ _ = true) ?_ | refine ap (by simp [osL, D.flat]) ?_)); repeat (first | refine aq ?_ | refine ap (by rfl : apartB 0 _ _ = true) ?_ | refine ak ?_ | refine ab ?_ | refine al ?_ | ((first | refine ar ?_ | refine ad ty_mix (by kernel_rfl) ?_ | refine ac ?_ | refine ae ?_ | with_reducible refine Later.mk ?_); simp only [evD, evL, iteL, aX, St.said, St.asked, evStep, evOp, evP, St.init, St.app, srcStep, kill, setMany, loadS, fieldS, buildS, toks, Fin, upd_app, Array.isEmpty, reduceLT, reduceAdd, reduceMul, reduceLeDiff, reduceSub, reduceEqDiff, reduceCtorEq, reduceIte, ↓Opt.is, ↓Opt.no, ↓Asks.yes, ↓Asks.no, tyL, encL, asB]))
   refine ⟨_, hj, ?_⟩; (repeat (first | refine ap (by rfl : apartB 0 _ _ = true) ?_ | refine ap (by simp [osL, D.flat]) ?_)); repeat (first | refine aq ?_ | refine ap (by rfl : apartB 0 _ _ = true) ?_ | refine ak ?_ | refine ab ?_ | refine al ?_ | ((first | refine ar ?_ | refine ad ty_mix (by kernel_rfl) ?_ | refine ac ?_ | refine ae ?_ | with_reducible refine Later.mk ?_); simp only [evD, evL, iteL, aX, St.said, St.asked, evStep, evOp, evP, St.init, St.app, srcStep, kill, setMany, loadS, fieldS, buildS, toks, Fin, upd_app, Array.isEmpty, reduceLT, reduceAdd, reduceMul, reduceLeDiff, reduceSub, reduceEqDiff, reduceCtorEq, reduceIte, ↓Opt.is, ↓Opt.no, ↓Asks.yes, ↓Asks.no, tyL, encL, asB]))
   refine Ab.ret ?_; simp only [evD, evL, iteL, aX, St.said, St.asked, evStep, evOp, evP, St.init, St.app, srcStep, kill, setMany, loadS, fieldS, buildS, toks, Fin, upd_app, Array.isEmpty, reduceLT, reduceAdd, reduceMul, reduceLeDiff, reduceSub, reduceEqDiff, reduceCtorEq, reduceIte, ↓Opt.is, ↓Opt.no, ↓Asks.yes, ↓Asks.no, tyL, List.nodup_cons, encL, Tryd.f41]
 · rw [if_neg (by simp)]
   unfold encSts at hv ⊢
   refine AC.intro Tryd.func41 rfl (by decide) (by simp [S.res, S.ress]) (by simp [S.os, S.oss]) (by simp [S.wfs, S.wf, dbS]) (by simp [Tryd.f41]) ?_; rw [Tryd.ntmps41]
   repeat (first | refine aq ?_ | refine ap (by rfl : apartB 0 _ _ = true) ?_ | refine ak ?_ | refine ab ?_ | refine al ?_ | ((first | refine ar ?_ | refine ad ty_mix (by kernel_rfl) ?_ | refine ac ?_ | refine ae ?_ | with_reducible refine Later.mk ?_); simp only [evD, evL, iteL, aX, St.said, St.asked, evStep, evOp, evP, St.init, St.app, srcStep, kill, setMany, loadS, fieldS, buildS, toks, Fin, upd_app, Array.isEmpty, reduceLT, reduceAdd, reduceMul, reduceLeDiff, reduceSub, reduceEqDiff, reduceCtorEq, reduceIte, ↓Opt.is, ↓Opt.no, ↓Asks.yes, ↓Asks.no, tyL, encL, asB]))
   refine ⟨_, hv, ?_⟩; (repeat (first | refine ap (by rfl : apartB 0 _ _ = true) ?_ | refine ap (by simp [osL, D.flat]) ?_)); repeat (first | refine aq ?_ | refine ap (by rfl : apartB 0 _ _ = true) ?_ | refine ak ?_ | refine ab ?_ | refine al ?_ | ((first | refine ar ?_ | refine ad ty_mix (by kernel_rfl) ?_ | refine ac ?_ | refine ae ?_ | with_reducible refine Later.mk ?_); simp only [evD, evL, iteL, aX, St.said, St.asked, evStep, evOp, evP, St.init, St.app, srcStep, kill, setMany, loadS, fieldS, buildS, toks, Fin, upd_app, Array.isEmpty, reduceLT, reduceAdd, reduceMul, reduceLeDiff, reduceSub, reduceEqDiff, reduceCtorEq, reduceIte, ↓Opt.is, ↓Opt.no, ↓Asks.yes, ↓Asks.no, tyL, encL, asB]))
   refine Ab.ret ?_; simp only [evD, evL, iteL, aX, St.said, St.asked, evStep, evOp, evP, St.init, St.app, srcStep, kill, setMany, loadS, fieldS, buildS, toks, Fin, upd_app, Array.isEmpty, reduceLT, reduceAdd, reduceMul, reduceLeDiff, reduceSub, reduceEqDiff, reduceCtorEq, reduceIte, ↓Opt.is, ↓Opt.no, ↓Asks.yes, ↓Asks.no, tyL, List.nodup_cons, encL, Tryd.f41]
theorem l17Names_a {l : List Int} (gl : (eSlice eInt).good l) (hl : l.length ≤ 1048576) : AC Tryd.prog 87 [.d (encIs l)] (.d (.v (.string (nmsB l)))) := by
 have hts := termsB_size gl.2
 have ht0 : termsB l 0 = ⟨#[]⟩ := rfl
 have ht2 : nmsB l = termsB l l.length := by unfold nmsB termsB; rw [List.take_length]
 have z3 : ∀ x : Nat, (0 ≤ (x : Int)) = True := fun x => eq_true (by omega)
 rw [ht2]
 refine AC.intro Tryd.func87 rfl (by decide) (by simp [S.res, S.ress]) (by simp [S.os, S.oss]) (by simp [S.wfs, S.wf, dbS]) (by simp [Tryd.f87]) ?_; rw [Tryd.ntmps87]
 repeat (first | refine aq ?_ | refine ap (by rfl : apartB 0 _ _ = true) ?_ | refine ak ?_ | refine ab ?_ | refine al ?_ | ((first | refine ar ?_ | refine ad ty_mix (by kernel_rfl) ?_ | refine ac ?_ | refine ae ?_ | with_reducible refine Later.mk ?_); simp only [evD, evL, iteL, aX, St.said, St.asked, evStep, evOp, evP, St.init, St.app, srcStep, kill, setMany, loadS, fieldS, buildS, toks, Fin, upd_app, Array.isEmpty, reduceLT, reduceAdd, reduceMul, reduceLeDiff, reduceSub, reduceEqDiff, reduceCtorEq, reduceIte, ↓Opt.is, ↓Opt.no, ↓Asks.yes, ↓Asks.no, tyL, encL, asB]))
 refine Ab.loopI l.length (fun _ => True) (fun i => mkS 19 [(0, .d (.sl (List.map encI l))), (3, .d (.v (.string (termsB l i)))), (4, .d (.v (.int .i64 (i : Int))))] [] 100) trivial ?_ ?_
 · ((first | refine Le.mk rfl ?_ ?_ | refine LeTo.mk rfl ?_ ?_) <;> simp only [evD, evL, iteL, aX, St.said, St.asked, evStep, evOp, evP, St.init, St.app, srcStep, kill, setMany, loadS, fieldS, buildS, toks, Fin, upd_app, Array.isEmpty, reduceLT, reduceAdd, reduceMul, reduceLeDiff, reduceSub, reduceEqDiff, reduceCtorEq, reduceIte, ↓Opt.is, ↓Opt.no, ↓Asks.yes, ↓Asks.no, tyL, encL, leL, leD, ne_eq, ht0])
 intro i hi _
 repeat (first | refine aq ?_ | refine ap (by rfl : apartB 0 _ _ = true) ?_ | refine ak ?_ | refine ab ?_ | refine al ?_ | ((first | refine ar ?_ | refine ad ty_mix (by kernel_rfl) ?_ | refine ac ?_ | refine ae ?_ | with_reducible refine Later.mk ?_); simp only [evD, evL, iteL, aX, St.said, St.asked, evStep, evOp, evP, St.init, St.app, srcStep, kill, setMany, loadS, fieldS, buildS, toks, Fin, upd_app, Array.isEmpty, reduceLT, reduceAdd, reduceMul, reduceLeDiff, reduceSub, reduceEqDiff, reduceCtorEq, reduceIte, ↓Opt.is, ↓Opt.no, ↓Asks.yes, ↓Asks.no, tyL, encL, mkS, updl, asB]))
 refine ⟨fun h => ?_, fun h => ?_⟩
 · have h : i < l.length := by simpa using h
   have hw := wrapN h (by omega)
   have hcf := specFormatTerm_a (gl.2 _ (List.getElem_mem h))
   have hs2 := termB_size (gl.2 _ (List.getElem_mem h))
   have hsi := hts i hi
   have hst := termsB_step h
   generalize termsB l i = A at *
   have a2 := addOk A (termB l[i]) (by omega)
   repeat (first | refine aq ?_ | refine ap (by rfl : apartB 0 _ _ = true) ?_ | refine ak ?_ | refine ab ?_ | refine al ?_ | ((first | refine ar ?_ | refine ad ty_mix (by kernel_rfl) ?_ | refine ac ?_ | refine ae ?_ | with_reducible refine Later.mk ?_); simp only [evD, evL, iteL, aX, St.said, St.asked, evStep, evOp, evP, St.init, St.app, srcStep, kill, setMany, loadS, fieldS, buildS, toks, Fin, upd_app, Array.isEmpty, reduceLT, reduceAdd, reduceMul, reduceLeDiff, reduceSub, reduceEqDiff, reduceCtorEq, reduceIte, ↓Opt.is, ↓Opt.no, ↓Asks.yes, ↓Asks.no, tyL, encL, z3, getI h, asB]))
   refine ⟨_, hcf, ?_⟩; (repeat (first | refine ap (by rfl : apartB 0 _ _ = true) ?_ | refine ap (by simp [osL, D.flat]) ?_)); repeat (first | refine aq ?_ | refine ap (by rfl : apartB 0 _ _ = true) ?_ | refine ak ?_ | refine ab ?_ | refine al ?_ | ((first | refine ar ?_ | refine ad ty_mix (by kernel_rfl) ?_ | refine ac ?_ | refine ae ?_ | with_reducible refine Later.mk ?_); simp only [evD, evL, iteL, aX, St.said, St.asked, evStep, evOp, evP, St.init, St.app, srcStep, kill, setMany, loadS, fieldS, buildS, toks, Fin, upd_app, Array.isEmpty, reduceLT, reduceAdd, reduceMul, reduceLeDiff, reduceSub, reduceEqDiff, reduceCtorEq, reduceIte, ↓Opt.is, ↓Opt.no, ↓Asks.yes, ↓Asks.no, tyL, encL, z3, a2, hw, asB]))
   refine ⟨h, ?_⟩
   ((first | refine Le.mk rfl ?_ ?_ | refine LeTo.mk rfl ?_ ?_) <;> simp only [evD, evL, iteL, aX, St.said, St.asked, evStep, evOp, evP, St.init, St.app, srcStep, kill, setMany, loadS, fieldS, buildS, toks, Fin, upd_app, Array.isEmpty, reduceLT, reduceAdd, reduceMul, reduceLeDiff, reduceSub, reduceEqDiff, reduceCtorEq, reduceIte, ↓Opt.is, ↓Opt.no, ↓Asks.yes, ↓Asks.no, tyL, encL, leL, leD, ne_eq, hst])
 · have h : i = l.length := by have := of_decide_eq_false h; omega
   subst h
   repeat (first | refine aq ?_ | refine ap (by rfl : apartB 0 _ _ = true) ?_ | refine ak ?_ | refine ab ?_ | refine al ?_ | ((first | refine ar ?_ | refine ad ty_mix (by kernel_rfl) ?_ | refine ac ?_ | refine ae ?_ | with_reducible refine Later.mk ?_); simp only [evD, evL, iteL, aX, St.said, St.asked, evStep, evOp, evP, St.init, St.app, srcStep, kill, setMany, loadS, fieldS, buildS, toks, Fin, upd_app, Array.isEmpty, reduceLT, reduceAdd, reduceMul, reduceLeDiff, reduceSub, reduceEqDiff, reduceCtorEq, reduceIte, ↓Opt.is, ↓Opt.no, ↓Asks.yes, ↓Asks.no, tyL, encL, asB]))
   refine Ab.ret ?_; simp only [evD, evL, iteL, aX, St.said, St.asked, evStep, evOp, evP, St.init, St.app, srcStep, kill, setMany, loadS, fieldS, buildS, toks, Fin, upd_app, Array.isEmpty, reduceLT, reduceAdd, reduceMul, reduceLeDiff, reduceSub, reduceEqDiff, reduceCtorEq, reduceIte, ↓Opt.is, ↓Opt.no, ↓Asks.yes, ↓Asks.no, tyL, List.nodup_cons, encL, Tryd.f87]
theorem specFormatRewriting_a {l : List Rel} (gl : (eSlice eRel).good l) {f : List Rst} (gf : (eSlice eRst).good f) (hf : f.length ≤ 1048576) (h1 : ∀ x, x ∈ f → x.ex.length ≤ 1048576 ∧ x.un.length ≤ 1048576) : AC Tryd.prog 39 [.d (encRs l), .d (encSts f)] (.d (.v (.string (rwB l f)))) := by
 have hv := specIsValidRewriting_a gl gf hf h1
 have e0 : (⟨#[]⟩ : ByteArray).size = 0 := rfl
 have es : (⟨#[32]⟩ : ByteArray).size = 1 := rfl
 have e1 : (⟨#[69]⟩ : ByteArray).size = 1 := rfl
 have e2 : (⟨#[32, 65]⟩ : ByteArray).size = 2 := rfl
 unfold rwB
 rcases Bool.eq_false_or_eq_true (rwV l f) with hd | hd <;> rw [hd] at hv ⊢
 · obtain ⟨h3, hall⟩ := rwV_each hd
   rw [if_pos rfl, ← bNap (jn _ _), ← accB_end]
   have hfz : ∀ x, x ∈ f → (rstB l x).size ≤ 44040270 := fun x hx => rstB_size (gf.2 x hx) (h1 x hx) (hall x hx)
   have hsz : ∀ i, i ≤ f.length → (accB ⟨#[]⟩ ⟨#[32]⟩ (rstB l) f i).size ≤ i * 44040271 := fun i hi => by
     have := accB_size ⟨#[]⟩ ⟨#[32]⟩ (rstB l) f i (m := 44040270) hi hfz
     rw [e0, es] at this
     omega
   unfold encSts at hv ⊢
   refine AC.intro Tryd.func39 rfl (by decide) (by simp [S.res, S.ress]) (by simp [S.os, S.oss]) (by simp [S.wfs, S.wf, dbS]) (by simp [Tryd.f39]) ?_; rw [Tryd.ntmps39]
   repeat (first | refine aq ?_ | refine ap (by rfl : apartB 0 _ _ = true) ?_ | refine ak ?_ | refine ab ?_ | refine al ?_ | ((first | refine ar ?_ | refine ad ty_mix (by kernel_rfl) ?_ | refine ac ?_ | refine ae ?_ | with_reducible refine Later.mk ?_); simp only [evD, evL, iteL, aX, St.said, St.asked, evStep, evOp, evP, St.init, St.app, srcStep, kill, setMany, loadS, fieldS, buildS, toks, Fin, upd_app, Array.isEmpty, reduceLT, reduceAdd, reduceMul, reduceLeDiff, reduceSub, reduceEqDiff, reduceCtorEq, reduceIte, ↓Opt.is, ↓Opt.no, ↓Asks.yes, ↓Asks.no, tyL, encL, asB]))
   refine Ab.loopI f.length (fun _ => True) (fun i => mkS 49 [(0, .d (.sl (List.map encR l))), (1, .d (.sl (List.map encSt f))), (5, .d (.v (.string (accB ⟨#[]⟩ ⟨#[32]⟩ (rstB l) f i)))), (6, .d (.v (.int .i64 (i : Int))))] [] 100) trivial ?_ ?_
   · ((first | refine Le.mk rfl ?_ ?_ | refine LeTo.mk rfl ?_ ?_) <;> simp only [evD, evL, iteL, aX, St.said, St.asked, evStep, evOp, evP, St.init, St.app, srcStep, kill, setMany, loadS, fieldS, buildS, toks, Fin, upd_app, Array.isEmpty, reduceLT, reduceAdd, reduceMul, reduceLeDiff, reduceSub, reduceEqDiff, reduceCtorEq, reduceIte, ↓Opt.is, ↓Opt.no, ↓Asks.yes, ↓Asks.no, tyL, encL, leL, leD, ne_eq, accB_zero])
   intro i hi _
   have hsi := hsz i hi
   by_cases h : i < f.length
   · have hdl : decide ((i : Int) < (f.length : Int)) = true := decide_eq_true (by omega)
     have hw := wrapN h (by omega)
     have z3 : ∀ x : Nat, (0 ≤ (x : Int)) = True := fun x => eq_true (by omega)
     have gx := gf.2 _ (List.getElem_mem h)
     have hxl := h1 _ (List.getElem_mem h)
     have hgt := getSt h
     obtain ⟨k, hk, b1, b2, b3, b4⟩ := step_facts (hall _ (List.getElem_mem h))
     have c1 := l17Names_a (l := f[i].ex) gx.2.1 hxl.1
     have c2 := l17Names_a (l := f[i].un) gx.2.2 hxl.2
     have c3 := l11Atom_a (a := f[i].atom) gx.1 b1 b2 b3 b4
     have s1 := nmsB_size (l := f[i].ex) gx.2.1 hxl.1
     have s2 := nmsB_size (l := f[i].un) gx.2.2 hxl.2
     have s3 := atomB_size b2 b3 b4 (gx.1.2.2)
     have hst : accB ⟨#[]⟩ ⟨#[32]⟩ (rstB l) f (i + 1) = (if i = 0 then accB ⟨#[]⟩ ⟨#[32]⟩ (rstB l) f i else accB ⟨#[]⟩ ⟨#[32]⟩ (rstB l) f i ++ ⟨#[32]⟩) ++ ⟨#[69]⟩ ++ nmsB f[i].ex ++ ⟨#[32, 65]⟩ ++ nmsB f[i].un ++ ⟨#[32]⟩ ++ atomB l f[i].atom := by
       by_cases h0 : i = 0
       · subst h0
         rw [accB_one _ _ _ _ h, accB_zero, if_pos rfl, bNap, bNap]
         rfl
       · rw [accB_step _ _ _ _ h h0, if_neg h0]
         unfold rstB
         simp only [ByteArray.append_assoc]
     unfold atmS at c3
     generalize accB ⟨#[]⟩ ⟨#[32]⟩ (rstB l) f i = A at *
     generalize accB ⟨#[]⟩ ⟨#[32]⟩ (rstB l) f (i + 1) = A' at *
     generalize f[i] = x at *
     generalize nmsB x.ex = E at *
     generalize nmsB x.un = U at *
     generalize atomB l x.atom = T at *
     have key : ∀ A0 : ByteArray, A0.size ≤ A.size + 1 → _ := fun A0 hA0 => And.intro (addOk A0 ⟨#[69]⟩ (by omega)) (And.intro (addOk (A0 ++ ⟨#[69]⟩) E (by simp only [ByteArray.size_append]; omega)) (And.intro (addOk (A0 ++ ⟨#[69]⟩ ++ E) ⟨#[32, 65]⟩ (by simp only [ByteArray.size_append]; omega)) (And.intro (addOk (A0 ++ ⟨#[69]⟩ ++ E ++ ⟨#[32, 65]⟩) U (by simp only [ByteArray.size_append]; omega)) (And.intro (addOk (A0 ++ ⟨#[69]⟩ ++ E ++ ⟨#[32, 65]⟩ ++ U) ⟨#[32]⟩ (by simp only [ByteArray.size_append]; omega)) (addOk (A0 ++ ⟨#[69]⟩ ++ E ++ ⟨#[32, 65]⟩ ++ U ++ ⟨#[32]⟩) T (by simp only [ByteArray.size_append]; omega))))))
     have bq := addOk A ⟨#[32]⟩ (by omega)
     repeat (first | refine aq ?_ | refine ap (by rfl : apartB 0 _ _ = true) ?_ | refine ak ?_ | refine ab ?_ | refine al ?_ | ((first | refine ar ?_ | refine ad ty_mix (by kernel_rfl) ?_ | refine ac ?_ | refine ae ?_ | with_reducible refine Later.mk ?_); simp only [evD, evL, iteL, aX, St.said, St.asked, evStep, evOp, evP, St.init, St.app, srcStep, kill, setMany, loadS, fieldS, buildS, toks, Fin, upd_app, Array.isEmpty, reduceLT, reduceAdd, reduceMul, reduceLeDiff, reduceSub, reduceEqDiff, reduceCtorEq, reduceIte, ↓Opt.is, ↓Opt.no, ↓Asks.yes, ↓Asks.no, tyL, encL, mkS, updl, hdl, asB]))
     refine ⟨_, hv, ?_⟩; (repeat (first | refine ap (by rfl : apartB 0 _ _ = true) ?_ | refine ap (by simp [osL, D.flat]) ?_)); repeat (first | refine aq ?_ | refine ap (by rfl : apartB 0 _ _ = true) ?_ | refine ak ?_ | refine ab ?_ | refine al ?_ | ((first | refine ar ?_ | refine ad ty_mix (by kernel_rfl) ?_ | refine ac ?_ | refine ae ?_ | with_reducible refine Later.mk ?_); simp only [evD, evL, iteL, aX, St.said, St.asked, evStep, evOp, evP, St.init, St.app, srcStep, kill, setMany, loadS, fieldS, buildS, toks, Fin, upd_app, Array.isEmpty, reduceLT, reduceAdd, reduceMul, reduceLeDiff, reduceSub, reduceEqDiff, reduceCtorEq, reduceIte, ↓Opt.is, ↓Opt.no, ↓Asks.yes, ↓Asks.no, tyL, encL, hdl, asB]))
     refine ⟨fun hg => ?_, fun hg => ?_⟩
     · have h0 : i ≠ 0 := by have := of_decide_eq_true hg; omega
       rw [if_neg h0] at hst
       obtain ⟨a1, a2, a3, a4, a5, a6⟩ := key (A ++ ⟨#[32]⟩) (by rw [ByteArray.size_append]; omega)
       repeat (first | refine aq ?_ | refine ap (by rfl : apartB 0 _ _ = true) ?_ | refine ak ?_ | refine ab ?_ | refine al ?_ | ((first | refine ar ?_ | refine ad ty_mix (by kernel_rfl) ?_ | refine ac ?_ | refine ae ?_ | with_reducible refine Later.mk ?_); simp only [evD, evL, iteL, aX, St.said, St.asked, evStep, evOp, evP, St.init, St.app, srcStep, kill, setMany, loadS, fieldS, buildS, toks, Fin, upd_app, Array.isEmpty, reduceLT, reduceAdd, reduceMul, reduceLeDiff, reduceSub, reduceEqDiff, reduceCtorEq, reduceIte, ↓Opt.is, ↓Opt.no, ↓Asks.yes, ↓Asks.no, tyL, encL, bq, hgt, z3, a1, asB]))
       refine ⟨_, c1, ?_⟩; (repeat (first | refine ap (by rfl : apartB 0 _ _ = true) ?_ | refine ap (by simp [osL, D.flat]) ?_)); repeat (first | refine aq ?_ | refine ap (by rfl : apartB 0 _ _ = true) ?_ | refine ak ?_ | refine ab ?_ | refine al ?_ | ((first | refine ar ?_ | refine ad ty_mix (by kernel_rfl) ?_ | refine ac ?_ | refine ae ?_ | with_reducible refine Later.mk ?_); simp only [evD, evL, iteL, aX, St.said, St.asked, evStep, evOp, evP, St.init, St.app, srcStep, kill, setMany, loadS, fieldS, buildS, toks, Fin, upd_app, Array.isEmpty, reduceLT, reduceAdd, reduceMul, reduceLeDiff, reduceSub, reduceEqDiff, reduceCtorEq, reduceIte, ↓Opt.is, ↓Opt.no, ↓Asks.yes, ↓Asks.no, tyL, encL, a1, a2, a3, a4, a5, a6, hgt, z3, asB]))
       refine ⟨_, c2, ?_⟩; (repeat (first | refine ap (by rfl : apartB 0 _ _ = true) ?_ | refine ap (by simp [osL, D.flat]) ?_)); repeat (first | refine aq ?_ | refine ap (by rfl : apartB 0 _ _ = true) ?_ | refine ak ?_ | refine ab ?_ | refine al ?_ | ((first | refine ar ?_ | refine ad ty_mix (by kernel_rfl) ?_ | refine ac ?_ | refine ae ?_ | with_reducible refine Later.mk ?_); simp only [evD, evL, iteL, aX, St.said, St.asked, evStep, evOp, evP, St.init, St.app, srcStep, kill, setMany, loadS, fieldS, buildS, toks, Fin, upd_app, Array.isEmpty, reduceLT, reduceAdd, reduceMul, reduceLeDiff, reduceSub, reduceEqDiff, reduceCtorEq, reduceIte, ↓Opt.is, ↓Opt.no, ↓Asks.yes, ↓Asks.no, tyL, encL, a1, a2, a3, a4, a5, a6, hgt, z3, asB]))
       refine ⟨_, c3, ?_⟩; (repeat (first | refine ap (by rfl : apartB 0 _ _ = true) ?_ | refine ap (by simp [osL, D.flat]) ?_)); repeat (first | refine aq ?_ | refine ap (by rfl : apartB 0 _ _ = true) ?_ | refine ak ?_ | refine ab ?_ | refine al ?_ | ((first | refine ar ?_ | refine ad ty_mix (by kernel_rfl) ?_ | refine ac ?_ | refine ae ?_ | with_reducible refine Later.mk ?_); simp only [evD, evL, iteL, aX, St.said, St.asked, evStep, evOp, evP, St.init, St.app, srcStep, kill, setMany, loadS, fieldS, buildS, toks, Fin, upd_app, Array.isEmpty, reduceLT, reduceAdd, reduceMul, reduceLeDiff, reduceSub, reduceEqDiff, reduceCtorEq, reduceIte, ↓Opt.is, ↓Opt.no, ↓Asks.yes, ↓Asks.no, tyL, encL, a1, a2, a3, a4, a5, a6, hgt, z3, hw, asB]))
       refine ⟨h, ?_⟩
       ((first | refine Le.mk rfl ?_ ?_ | refine LeTo.mk rfl ?_ ?_) <;> simp only [evD, evL, iteL, aX, St.said, St.asked, evStep, evOp, evP, St.init, St.app, srcStep, kill, setMany, loadS, fieldS, buildS, toks, Fin, upd_app, Array.isEmpty, reduceLT, reduceAdd, reduceMul, reduceLeDiff, reduceSub, reduceEqDiff, reduceCtorEq, reduceIte, ↓Opt.is, ↓Opt.no, ↓Asks.yes, ↓Asks.no, tyL, encL, leL, leD, ne_eq, hst])
     · have h0 : i = 0 := by have := of_decide_eq_false hg; omega
       rw [if_pos h0] at hst
       obtain ⟨a1, a2, a3, a4, a5, a6⟩ := key A (by omega)
       repeat (first | refine aq ?_ | refine ap (by rfl : apartB 0 _ _ = true) ?_ | refine ak ?_ | refine ab ?_ | refine al ?_ | ((first | refine ar ?_ | refine ad ty_mix (by kernel_rfl) ?_ | refine ac ?_ | refine ae ?_ | with_reducible refine Later.mk ?_); simp only [evD, evL, iteL, aX, St.said, St.asked, evStep, evOp, evP, St.init, St.app, srcStep, kill, setMany, loadS, fieldS, buildS, toks, Fin, upd_app, Array.isEmpty, reduceLT, reduceAdd, reduceMul, reduceLeDiff, reduceSub, reduceEqDiff, reduceCtorEq, reduceIte, ↓Opt.is, ↓Opt.no, ↓Asks.yes, ↓Asks.no, tyL, encL, hgt, z3, a1, asB]))
       refine ⟨_, c1, ?_⟩; (repeat (first | refine ap (by rfl : apartB 0 _ _ = true) ?_ | refine ap (by simp [osL, D.flat]) ?_)); repeat (first | refine aq ?_ | refine ap (by rfl : apartB 0 _ _ = true) ?_ | refine ak ?_ | refine ab ?_ | refine al ?_ | ((first | refine ar ?_ | refine ad ty_mix (by kernel_rfl) ?_ | refine ac ?_ | refine ae ?_ | with_reducible refine Later.mk ?_); simp only [evD, evL, iteL, aX, St.said, St.asked, evStep, evOp, evP, St.init, St.app, srcStep, kill, setMany, loadS, fieldS, buildS, toks, Fin, upd_app, Array.isEmpty, reduceLT, reduceAdd, reduceMul, reduceLeDiff, reduceSub, reduceEqDiff, reduceCtorEq, reduceIte, ↓Opt.is, ↓Opt.no, ↓Asks.yes, ↓Asks.no, tyL, encL, a1, a2, a3, a4, a5, a6, hgt, z3, asB]))
       refine ⟨_, c2, ?_⟩; (repeat (first | refine ap (by rfl : apartB 0 _ _ = true) ?_ | refine ap (by simp [osL, D.flat]) ?_)); repeat (first | refine aq ?_ | refine ap (by rfl : apartB 0 _ _ = true) ?_ | refine ak ?_ | refine ab ?_ | refine al ?_ | ((first | refine ar ?_ | refine ad ty_mix (by kernel_rfl) ?_ | refine ac ?_ | refine ae ?_ | with_reducible refine Later.mk ?_); simp only [evD, evL, iteL, aX, St.said, St.asked, evStep, evOp, evP, St.init, St.app, srcStep, kill, setMany, loadS, fieldS, buildS, toks, Fin, upd_app, Array.isEmpty, reduceLT, reduceAdd, reduceMul, reduceLeDiff, reduceSub, reduceEqDiff, reduceCtorEq, reduceIte, ↓Opt.is, ↓Opt.no, ↓Asks.yes, ↓Asks.no, tyL, encL, a1, a2, a3, a4, a5, a6, hgt, z3, asB]))
       refine ⟨_, c3, ?_⟩; (repeat (first | refine ap (by rfl : apartB 0 _ _ = true) ?_ | refine ap (by simp [osL, D.flat]) ?_)); repeat (first | refine aq ?_ | refine ap (by rfl : apartB 0 _ _ = true) ?_ | refine ak ?_ | refine ab ?_ | refine al ?_ | ((first | refine ar ?_ | refine ad ty_mix (by kernel_rfl) ?_ | refine ac ?_ | refine ae ?_ | with_reducible refine Later.mk ?_); simp only [evD, evL, iteL, aX, St.said, St.asked, evStep, evOp, evP, St.init, St.app, srcStep, kill, setMany, loadS, fieldS, buildS, toks, Fin, upd_app, Array.isEmpty, reduceLT, reduceAdd, reduceMul, reduceLeDiff, reduceSub, reduceEqDiff, reduceCtorEq, reduceIte, ↓Opt.is, ↓Opt.no, ↓Asks.yes, ↓Asks.no, tyL, encL, a1, a2, a3, a4, a5, a6, hgt, z3, hw, asB]))
       refine ⟨h, ?_⟩
       ((first | refine Le.mk rfl ?_ ?_ | refine LeTo.mk rfl ?_ ?_) <;> simp only [evD, evL, iteL, aX, St.said, St.asked, evStep, evOp, evP, St.init, St.app, srcStep, kill, setMany, loadS, fieldS, buildS, toks, Fin, upd_app, Array.isEmpty, reduceLT, reduceAdd, reduceMul, reduceLeDiff, reduceSub, reduceEqDiff, reduceCtorEq, reduceIte, ↓Opt.is, ↓Opt.no, ↓Asks.yes, ↓Asks.no, tyL, encL, leL, leD, ne_eq, hst])
   · have h : i = f.length := by omega
     subst h
     have hdl : decide ((f.length : Int) < (f.length : Int)) = false := decide_eq_false (by omega)
     generalize accB ⟨#[]⟩ ⟨#[32]⟩ (rstB l) f f.length = A at *
     repeat (first | refine aq ?_ | refine ap (by rfl : apartB 0 _ _ = true) ?_ | refine ak ?_ | refine ab ?_ | refine al ?_ | ((first | refine ar ?_ | refine ad ty_mix (by kernel_rfl) ?_ | refine ac ?_ | refine ae ?_ | with_reducible refine Later.mk ?_); simp only [evD, evL, iteL, aX, St.said, St.asked, evStep, evOp, evP, St.init, St.app, srcStep, kill, setMany, loadS, fieldS, buildS, toks, Fin, upd_app, Array.isEmpty, reduceLT, reduceAdd, reduceMul, reduceLeDiff, reduceSub, reduceEqDiff, reduceCtorEq, reduceIte, ↓Opt.is, ↓Opt.no, ↓Asks.yes, ↓Asks.no, tyL, encL, mkS, updl, hdl, asB]))
     refine Ab.ret ?_; simp only [evD, evL, iteL, aX, St.said, St.asked, evStep, evOp, evP, St.init, St.app, srcStep, kill, setMany, loadS, fieldS, buildS, toks, Fin, upd_app, Array.isEmpty, reduceLT, reduceAdd, reduceMul, reduceLeDiff, reduceSub, reduceEqDiff, reduceCtorEq, reduceIte, ↓Opt.is, ↓Opt.no, ↓Asks.yes, ↓Asks.no, tyL, List.nodup_cons, encL, Tryd.f39]
 · rw [if_neg (by simp)]
   unfold encSts at hv ⊢
   refine AC.intro Tryd.func39 rfl (by decide) (by simp [S.res, S.ress]) (by simp [S.os, S.oss]) (by simp [S.wfs, S.wf, dbS]) (by simp [Tryd.f39]) ?_; rw [Tryd.ntmps39]
   repeat (first | refine aq ?_ | refine ap (by rfl : apartB 0 _ _ = true) ?_ | refine ak ?_ | refine ab ?_ | refine al ?_ | ((first | refine ar ?_ | refine ad ty_mix (by kernel_rfl) ?_ | refine ac ?_ | refine ae ?_ | with_reducible refine Later.mk ?_); simp only [evD, evL, iteL, aX, St.said, St.asked, evStep, evOp, evP, St.init, St.app, srcStep, kill, setMany, loadS, fieldS, buildS, toks, Fin, upd_app, Array.isEmpty, reduceLT, reduceAdd, reduceMul, reduceLeDiff, reduceSub, reduceEqDiff, reduceCtorEq, reduceIte, ↓Opt.is, ↓Opt.no, ↓Asks.yes, ↓Asks.no, tyL, encL, asB]))
   refine Ab.loopI 0 (fun _ => True) (fun i => mkS 49 [(0, .d (.sl (List.map encR l))), (1, .d (.sl (List.map encSt f))), (5, .d (.v (.string ⟨#[]⟩))), (6, .d (.v (.int .i64 0)))] [] 100) trivial ?_ ?_
   · ((first | refine Le.mk rfl ?_ ?_ | refine LeTo.mk rfl ?_ ?_) <;> simp only [evD, evL, iteL, aX, St.said, St.asked, evStep, evOp, evP, St.init, St.app, srcStep, kill, setMany, loadS, fieldS, buildS, toks, Fin, upd_app, Array.isEmpty, reduceLT, reduceAdd, reduceMul, reduceLeDiff, reduceSub, reduceEqDiff, reduceCtorEq, reduceIte, ↓Opt.is, ↓Opt.no, ↓Asks.yes, ↓Asks.no, tyL, encL, leL, leD, ne_eq])
   intro i hi _
   rcases Nat.eq_zero_or_pos f.length with h0 | h0
   · have hdl : decide ((0 : Int) < (f.length : Int)) = false := decide_eq_false (by omega)
     repeat (first | refine aq ?_ | refine ap (by rfl : apartB 0 _ _ = true) ?_ | refine ak ?_ | refine ab ?_ | refine al ?_ | ((first | refine ar ?_ | refine ad ty_mix (by kernel_rfl) ?_ | refine ac ?_ | refine ae ?_ | with_reducible refine Later.mk ?_); simp only [evD, evL, iteL, aX, St.said, St.asked, evStep, evOp, evP, St.init, St.app, srcStep, kill, setMany, loadS, fieldS, buildS, toks, Fin, upd_app, Array.isEmpty, reduceLT, reduceAdd, reduceMul, reduceLeDiff, reduceSub, reduceEqDiff, reduceCtorEq, reduceIte, ↓Opt.is, ↓Opt.no, ↓Asks.yes, ↓Asks.no, tyL, encL, mkS, updl, hdl, asB]))
     refine Ab.ret ?_; simp only [evD, evL, iteL, aX, St.said, St.asked, evStep, evOp, evP, St.init, St.app, srcStep, kill, setMany, loadS, fieldS, buildS, toks, Fin, upd_app, Array.isEmpty, reduceLT, reduceAdd, reduceMul, reduceLeDiff, reduceSub, reduceEqDiff, reduceCtorEq, reduceIte, ↓Opt.is, ↓Opt.no, ↓Asks.yes, ↓Asks.no, tyL, List.nodup_cons, encL, Tryd.f39]
   · have hdl : decide ((0 : Int) < (f.length : Int)) = true := decide_eq_true (by omega)
     repeat (first | refine aq ?_ | refine ap (by rfl : apartB 0 _ _ = true) ?_ | refine ak ?_ | refine ab ?_ | refine al ?_ | ((first | refine ar ?_ | refine ad ty_mix (by kernel_rfl) ?_ | refine ac ?_ | refine ae ?_ | with_reducible refine Later.mk ?_); simp only [evD, evL, iteL, aX, St.said, St.asked, evStep, evOp, evP, St.init, St.app, srcStep, kill, setMany, loadS, fieldS, buildS, toks, Fin, upd_app, Array.isEmpty, reduceLT, reduceAdd, reduceMul, reduceLeDiff, reduceSub, reduceEqDiff, reduceCtorEq, reduceIte, ↓Opt.is, ↓Opt.no, ↓Asks.yes, ↓Asks.no, tyL, encL, mkS, updl, hdl, asB]))
     refine ⟨_, hv, ?_⟩; (repeat (first | refine ap (by rfl : apartB 0 _ _ = true) ?_ | refine ap (by simp [osL, D.flat]) ?_)); repeat (first | refine aq ?_ | refine ap (by rfl : apartB 0 _ _ = true) ?_ | refine ak ?_ | refine ab ?_ | refine al ?_ | ((first | refine ar ?_ | refine ad ty_mix (by kernel_rfl) ?_ | refine ac ?_ | refine ae ?_ | with_reducible refine Later.mk ?_); simp only [evD, evL, iteL, aX, St.said, St.asked, evStep, evOp, evP, St.init, St.app, srcStep, kill, setMany, loadS, fieldS, buildS, toks, Fin, upd_app, Array.isEmpty, reduceLT, reduceAdd, reduceMul, reduceLeDiff, reduceSub, reduceEqDiff, reduceCtorEq, reduceIte, ↓Opt.is, ↓Opt.no, ↓Asks.yes, ↓Asks.no, tyL, encL, hdl, asB]))
     refine Ab.ret ?_; simp only [evD, evL, iteL, aX, St.said, St.asked, evStep, evOp, evP, St.init, St.app, srcStep, kill, setMany, loadS, fieldS, buildS, toks, Fin, upd_app, Array.isEmpty, reduceLT, reduceAdd, reduceMul, reduceLeDiff, reduceSub, reduceEqDiff, reduceCtorEq, reduceIte, ↓Opt.is, ↓Opt.no, ↓Asks.yes, ↓Asks.no, tyL, List.nodup_cons, encL, Tryd.f39]
end Ab
end

section
/- FormatRewriting: the contracts of the layer for the law. Written by gen/backc.py. -/
open Go Go.Proofs Go.RowKit
namespace Ab
theorem _root_.Go.Proofs.YtlcogbmceanghaaDoor.implFormatRewriting_c {a0 : Option Addr} {cap0 : Nat} {l0 : List Rel} {a1 : Option Addr} {cap1 : Nat} {l1 : List Rst} {w : World} (hz0 : sizeRelationS l0 ≤ 1048576) (hz1 : sizeRewritingStepS l1 ≤ 1048576) (h0 : At (cSlice cRel) w l0 [.slice a0 l0.length cap0]) (h1 : At (cSlice cRst) w l1 [.slice a1 l1.length cap1]) (hg : Glob w := by exact trivial) :
   Calls Tryd.prog 41 #[.slice a0 l0.length cap0, .slice a1 l1.length cap1] w fun e w' => e = .returned (.string (Ab.rwB l0 l1)) ∧ Below w.heap.size w w' := by
 refine Calls.mono (((implFormatRewriting_a ((eSlice eRel).gd h0) ((eSlice eRst).gd h1) (sizeRst_len hz1) (sizeRst_each hz1))).call (cs := [_, _]) ?_) ?_
 · simp only [RdSs]
   exact ⟨_, _, rfl, ((eSlice eRel).arg1 (x := l0) rfl h0), ⟨_, _, rfl, ((eSlice eRst).arg1 (x := l1) rfl h1), rfl⟩⟩
 · rintro e w' ⟨c, rfl, q1, q2⟩
   exact ⟨by rw [q1.d], q2⟩
theorem _root_.Go.Proofs.YtlcogbmceanghaaDoor.specFormatRewriting_c {a0 : Option Addr} {cap0 : Nat} {l0 : List Rel} {a1 : Option Addr} {cap1 : Nat} {l1 : List Rst} {w : World} (hz0 : sizeRelationS l0 ≤ 1048576) (hz1 : sizeRewritingStepS l1 ≤ 1048576) (h0 : At (cSlice cRel) w l0 [.slice a0 l0.length cap0]) (h1 : At (cSlice cRst) w l1 [.slice a1 l1.length cap1]) (hg : Glob w := by exact trivial) :
   Calls Tryd.prog 39 #[.slice a0 l0.length cap0, .slice a1 l1.length cap1] w fun e w' => e = .returned (.string (Ab.rwB l0 l1)) ∧ Below w.heap.size w w' := by
 refine Calls.mono (((specFormatRewriting_a ((eSlice eRel).gd h0) ((eSlice eRst).gd h1) (sizeRst_len hz1) (sizeRst_each hz1))).call (cs := [_, _]) ?_) ?_
 · simp only [RdSs]
   exact ⟨_, _, rfl, ((eSlice eRel).arg1 (x := l0) rfl h0), ⟨_, _, rfl, ((eSlice eRst).arg1 (x := l1) rfl h1), rfl⟩⟩
 · rintro e w' ⟨c, rfl, q1, q2⟩
   exact ⟨by rw [q1.d], q2⟩
end Ab
end
end Go.Proofs.YtlcogbmceanghaaDoor

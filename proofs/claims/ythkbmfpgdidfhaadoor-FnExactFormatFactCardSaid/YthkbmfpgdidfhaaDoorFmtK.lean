/- Constraints as text. -/
import Derived.Test.YthkbmfpgdidfhaaDoorFmtT
import Derived.Test.YthkbmfpgdidfhaaDoorCEdg
open Go Go.Proofs Go.RowKit
namespace Go.Proofs.YthkbmfpgdidfhaaDoor.Ab
set_option linter.unusedSimpArgs false
set_option linter.unusedVariables false
set_option maxRecDepth 100000
theorem ascFrom_all : ∀ (l : List Rel) (p : Option ByteArray), ascFrom p l = true → ∀ r, r ∈ l → validRel r = true
  | [], _, _, r, h => by simp at h
  | x :: l, p, h, r, hr => by
    simp only [ascFrom, Bool.and_eq_true] at h
    rcases List.mem_cons.1 hr with rfl | hr
    · exact h.1
    · exact ascFrom_all l _ h.2.2 r hr
def nameAt (d : Dbs) (r : Int) : ByteArray := (d.rels.map Rel.name).getD r.toNat ⟨#[]⟩
def signB (c : Dcn) : ByteArray := if c.cmp = 2 then ⟨#[60]⟩ else ⟨#[61]⟩
def conB (d : Dbs) (c : Dcn) : ByteArray := if validCon d c = true then ((⟨#[110, 111, 116, 32]⟩ : ByteArray) ++ nameAt d c.r1 ++ itoaB c.j1 ++ ⟨#[61]⟩ ++ nameAt d c.r2 ++ itoaB c.j2 ++ ⟨#[32]⟩ ++ itoaB c.c1 ++ signB c ++ itoaB c.c2) else ⟨#[]⟩
theorem validDb_rels {d : Dbs} (h : validDb d = true) : ∀ r, r ∈ d.rels → validRel r = true := by
  unfold validDb validRels at h
  simp only [Bool.and_eq_true] at h
  exact ascFrom_all _ none h.2.1.1
theorem con_facts {d : Dbs} {c : Dcn} (h : validCon d c = true) : ∃ p q : Nat, c.r1 = (p : Int) ∧ c.r2 = (q : Int) ∧ ∃ (hp : p < d.rels.length) (hq : q < d.rels.length), nameAt d c.r1 = d.rels[p].name ∧ nameAt d c.r2 = d.rels[q].name ∧ d.rels[p].name.size = 1 ∧ d.rels[q].name.size = 1 := by
  unfold validCon at h
  rw [Bool.and_eq_true] at h
  obtain ⟨h1, h2⟩ := h
  have hv := validDb_rels h1
  unfold fits colOk inB at h2
  simp only [Bool.and_eq_true, decide_eq_true_eq] at h2
  have hn : ∀ p : Nat, ∀ hp : p < d.rels.length, nameAt d (p : Int) = d.rels[p].name ∧ d.rels[p].name.size = 1 := fun p hp => by
    refine ⟨?_, (validRel_facts (hv _ (List.getElem_mem hp))).1⟩
    unfold nameAt
    rw [Int.toNat_natCast, List.getD_eq_getElem?_getD, List.getElem?_map, List.getElem?_eq_getElem hp]
    rfl
  refine ⟨c.r1.toNat, c.r2.toNat, by omega, by omega, by omega, by omega, ?_⟩
  have e1 : (c.r1.toNat : Int) = c.r1 := by omega
  have e2 : (c.r2.toNat : Int) = c.r2 := by omega
  have a1 := hn c.r1.toNat (by omega)
  have a2 := hn c.r2.toNat (by omega)
  rw [e1] at a1
  rw [e2] at a2
  exact ⟨a1.1, a2.1, a1.2, a2.2⟩
theorem implIsValidConstraint_a {d : Dbs} {c : Dcn} (g : eDbs.good d) (gc : eDcn.good c) : AC Tryd.prog 80 [dbS d, dcS c] (.d (.v (.bool (validCon d c)))) :=
  AC.plain Tryd.func80 rfl (by decide) rfl (fun w K cs ov hK hr => by
    simp only [RdSs] at hr
    obtain ⟨v0, _, rfl, q0, v1, _, rfl, q1, rfl⟩ := hr
    obtain ⟨a0, c0, a1, c1, rfl, h0⟩ := db_cut g hK q0
    obtain ⟨rfl, h1⟩ := dc_cut gc hK q1
    exact implIsValidConstraint_c h0 h1)
theorem specIsValidConstraint_a {d : Dbs} {c : Dcn} (g : eDbs.good d) (gc : eDcn.good c) : AC Tryd.prog 78 [dbS d, dcS c] (.d (.v (.bool (validCon d c)))) :=
  AC.plain Tryd.func78 rfl (by decide) rfl (fun w K cs ov hK hr => by
    simp only [RdSs] at hr
    obtain ⟨v0, _, rfl, q0, v1, _, rfl, q1, rfl⟩ := hr
    obtain ⟨a0, c0, a1, c1, rfl, h0⟩ := db_cut g hK q0
    obtain ⟨rfl, h1⟩ := dc_cut gc hK q1
    exact specIsValidConstraint_c h0 h1)
theorem comparisonSign_a {c : Dcn} : AC Tryd.prog 81 [.d (.v (.int .i64 c.cmp))] (.d (.v (.string (signB c)))) := by
  unfold signB
  by_cases h : c.cmp = 2
  · rw [if_pos h, h]
    refine AC.intro Tryd.func81 rfl (by decide) (by simp [S.res, S.ress]) (by simp [S.os, S.oss]) (by simp [S.wfs, S.wf, dbS]) (by simp [Tryd.f81]) ?_; rw [Tryd.ntmps81]
    repeat (first | refine aq ?_ | refine ap (by rfl : apartB 0 _ _ = true) ?_ | refine ak ?_ | refine ab ?_ | refine al ?_ | ((first | refine ar ?_ | refine ad ty_mix (by kernel_rfl) ?_ | refine ac ?_ | refine ae ?_ | with_reducible refine Later.mk ?_); simp only [evD, evL, iteL, St.said, St.asked, evStep, evOp, evP, St.init, St.app, srcStep, kill, setMany, loadS, fieldS, buildS, toks, Fin, upd_app, Array.isEmpty, Nat.reduceLT, Nat.reduceAdd, Nat.reduceMul, Nat.reduceLeDiff, Nat.reduceSub, Nat.reduceEqDiff, reduceCtorEq, reduceIte, ↓Opt.is, ↓Opt.no, ↓Asks.yes, ↓Asks.no, tyL, encL, asB]))
    refine Ab.ret ?_; simp only [evD, evL, iteL, St.said, St.asked, evStep, evOp, evP, St.init, St.app, srcStep, kill, setMany, loadS, fieldS, buildS, toks, Fin, upd_app, Array.isEmpty, Nat.reduceLT, Nat.reduceAdd, Nat.reduceMul, Nat.reduceLeDiff, Nat.reduceSub, Nat.reduceEqDiff, reduceCtorEq, reduceIte, ↓Opt.is, ↓Opt.no, ↓Asks.yes, ↓Asks.no, tyL, List.nodup_cons, encL, Tryd.f81]
  · rw [if_neg h]
    have h2 : (c.cmp == 2) = false := beq_eq_false_iff_ne.2 h
    refine AC.intro Tryd.func81 rfl (by decide) (by simp [S.res, S.ress]) (by simp [S.os, S.oss]) (by simp [S.wfs, S.wf, dbS]) (by simp [Tryd.f81]) ?_; rw [Tryd.ntmps81]
    repeat (first | refine aq ?_ | refine ap (by rfl : apartB 0 _ _ = true) ?_ | refine ak ?_ | refine ab ?_ | refine al ?_ | ((first | refine ar ?_ | refine ad ty_mix (by kernel_rfl) ?_ | refine ac ?_ | refine ae ?_ | with_reducible refine Later.mk ?_); simp only [evD, evL, iteL, St.said, St.asked, evStep, evOp, evP, St.init, St.app, srcStep, kill, setMany, loadS, fieldS, buildS, toks, Fin, upd_app, Array.isEmpty, Nat.reduceLT, Nat.reduceAdd, Nat.reduceMul, Nat.reduceLeDiff, Nat.reduceSub, Nat.reduceEqDiff, reduceCtorEq, reduceIte, ↓Opt.is, ↓Opt.no, ↓Asks.yes, ↓Asks.no, tyL, encL, h2, asB]))
    refine Ab.ret ?_; simp only [evD, evL, iteL, St.said, St.asked, evStep, evOp, evP, St.init, St.app, srcStep, kill, setMany, loadS, fieldS, buildS, toks, Fin, upd_app, Array.isEmpty, Nat.reduceLT, Nat.reduceAdd, Nat.reduceMul, Nat.reduceLeDiff, Nat.reduceSub, Nat.reduceEqDiff, reduceCtorEq, reduceIte, ↓Opt.is, ↓Opt.no, ↓Asks.yes, ↓Asks.no, tyL, List.nodup_cons, encL, Tryd.f81]
theorem implFormatConstraint_a {d : Dbs} {c : Dcn} (g : eDbs.good d) (gc : eDcn.good c) : AC Tryd.prog 37 [dbS d, dcS c] (.d (.v (.string (conB d c)))) := by
  have hc := implIsValidConstraint_a g gc
  obtain ⟨g1, g2, g3, g4, g5, g6, g7⟩ := id gc
  unfold conB
  rcases Bool.eq_false_or_eq_true (validCon d c) with hd | hd
  · obtain ⟨p, q, hp, hq, hpl, hql, hn1, hn2, z1, z2⟩ := con_facts hd
    rw [hd] at hc ⊢
    rw [if_pos rfl, hn1, hn2]
    have k1 := itoaB_size (n := c.j1) g3
    have k2 := itoaB_size (n := c.j2) g4
    have k3 := itoaB_size (n := c.c1) g5
    have k4 := itoaB_size (n := c.c2) g6
    have f1 := implFormatInt_a (n := c.j1) g3
    have f2 := implFormatInt_a (n := c.j2) g4
    have f3 := implFormatInt_a (n := c.c1) g5
    have f4 := implFormatInt_a (n := c.c2) g6
    have e1 : (⟨#[110, 111, 116, 32]⟩ : ByteArray).size = 4 := rfl
    have e2 : (⟨#[61]⟩ : ByteArray).size = 1 := rfl
    have e3 : (⟨#[32]⟩ : ByteArray).size = 1 := rfl
    have e4 : (⟨#[60]⟩ : ByteArray).size = 1 := rfl
    have hs := comparisonSign_a (c := c)
    have y1 := getR hpl
    have y2 := getR hql
    obtain ⟨N1, hN1⟩ : ∃ N, d.rels[p].name = N := ⟨_, rfl⟩
    obtain ⟨N2, hN2⟩ : ∃ N, d.rels[q].name = N := ⟨_, rfl⟩
    rw [hN1] at z1 ⊢
    rw [hN2] at z2 ⊢
    have z3 : ∀ x : Nat, (0 ≤ (x : Int)) = True := fun x => eq_true (by omega)
    unfold dbS dcS at hc ⊢
    rw [hp, hq] at hc ⊢
    generalize itoaB c.j1 = J1 at *
    generalize itoaB c.j2 = J2 at *
    generalize itoaB c.c1 = C1 at *
    generalize itoaB c.c2 = C2 at *
    have k5 : (signB c).size = 1 := by unfold signB; split <;> rfl
    generalize signB c = SG at *
    have a0 := addOk (⟨#[110, 111, 116, 32]⟩) (N1) (by (try simp only [ByteArray.size_append]); omega)
    have a1 := addOk ((⟨#[110, 111, 116, 32]⟩ : ByteArray) ++ N1) (J1) (by (try simp only [ByteArray.size_append]); omega)
    have a2 := addOk ((⟨#[110, 111, 116, 32]⟩ : ByteArray) ++ N1 ++ J1) (⟨#[61]⟩) (by (try simp only [ByteArray.size_append]); omega)
    have a3 := addOk ((⟨#[110, 111, 116, 32]⟩ : ByteArray) ++ N1 ++ J1 ++ ⟨#[61]⟩) (N2) (by (try simp only [ByteArray.size_append]); omega)
    have a4 := addOk ((⟨#[110, 111, 116, 32]⟩ : ByteArray) ++ N1 ++ J1 ++ ⟨#[61]⟩ ++ N2) (J2) (by (try simp only [ByteArray.size_append]); omega)
    have a5 := addOk ((⟨#[110, 111, 116, 32]⟩ : ByteArray) ++ N1 ++ J1 ++ ⟨#[61]⟩ ++ N2 ++ J2) (⟨#[32]⟩) (by (try simp only [ByteArray.size_append]); omega)
    have a6 := addOk ((⟨#[110, 111, 116, 32]⟩ : ByteArray) ++ N1 ++ J1 ++ ⟨#[61]⟩ ++ N2 ++ J2 ++ ⟨#[32]⟩) (C1) (by (try simp only [ByteArray.size_append]); omega)
    have a7 := addOk ((⟨#[110, 111, 116, 32]⟩ : ByteArray) ++ N1 ++ J1 ++ ⟨#[61]⟩ ++ N2 ++ J2 ++ ⟨#[32]⟩ ++ C1) (SG) (by (try simp only [ByteArray.size_append]); omega)
    have a8 := addOk ((⟨#[110, 111, 116, 32]⟩ : ByteArray) ++ N1 ++ J1 ++ ⟨#[61]⟩ ++ N2 ++ J2 ++ ⟨#[32]⟩ ++ C1 ++ SG) (C2) (by (try simp only [ByteArray.size_append]); omega)
    refine AC.intro Tryd.func37 rfl (by decide) (by simp [S.res, S.ress]) (by simp [S.os, S.oss]) (by simp [S.wfs, S.wf, dbS]) (by simp [Tryd.f37]) ?_; rw [Tryd.ntmps37]
    repeat (first | refine aq ?_ | refine ap (by rfl : apartB 0 _ _ = true) ?_ | refine ak ?_ | refine ab ?_ | refine al ?_ | ((first | refine ar ?_ | refine ad ty_mix (by kernel_rfl) ?_ | refine ac ?_ | refine ae ?_ | with_reducible refine Later.mk ?_); simp only [evD, evL, iteL, St.said, St.asked, evStep, evOp, evP, St.init, St.app, srcStep, kill, setMany, loadS, fieldS, buildS, toks, Fin, upd_app, Array.isEmpty, Nat.reduceLT, Nat.reduceAdd, Nat.reduceMul, Nat.reduceLeDiff, Nat.reduceSub, Nat.reduceEqDiff, reduceCtorEq, reduceIte, ↓Opt.is, ↓Opt.no, ↓Asks.yes, ↓Asks.no, tyL, encL, asB]))
    refine ⟨_, hc, ?_⟩; (repeat (first | refine ap (by rfl : apartB 0 _ _ = true) ?_ | refine ap (by simp [osL, D.flat]) ?_)); repeat (first | refine aq ?_ | refine ap (by rfl : apartB 0 _ _ = true) ?_ | refine ak ?_ | refine ab ?_ | refine al ?_ | ((first | refine ar ?_ | refine ad ty_mix (by kernel_rfl) ?_ | refine ac ?_ | refine ae ?_ | with_reducible refine Later.mk ?_); simp only [evD, evL, iteL, St.said, St.asked, evStep, evOp, evP, St.init, St.app, srcStep, kill, setMany, loadS, fieldS, buildS, toks, Fin, upd_app, Array.isEmpty, Nat.reduceLT, Nat.reduceAdd, Nat.reduceMul, Nat.reduceLeDiff, Nat.reduceSub, Nat.reduceEqDiff, reduceCtorEq, reduceIte, ↓Opt.is, ↓Opt.no, ↓Asks.yes, ↓Asks.no, tyL, encL, y1, y2, z3, Int.toNat_natCast, encR, hN1, hN2, a0, a1, a2, a3, a4, a5, a6, a7, a8, asB]))
    refine ⟨_, f1, ?_⟩; (repeat (first | refine ap (by rfl : apartB 0 _ _ = true) ?_ | refine ap (by simp [osL, D.flat]) ?_)); repeat (first | refine aq ?_ | refine ap (by rfl : apartB 0 _ _ = true) ?_ | refine ak ?_ | refine ab ?_ | refine al ?_ | ((first | refine ar ?_ | refine ad ty_mix (by kernel_rfl) ?_ | refine ac ?_ | refine ae ?_ | with_reducible refine Later.mk ?_); simp only [evD, evL, iteL, St.said, St.asked, evStep, evOp, evP, St.init, St.app, srcStep, kill, setMany, loadS, fieldS, buildS, toks, Fin, upd_app, Array.isEmpty, Nat.reduceLT, Nat.reduceAdd, Nat.reduceMul, Nat.reduceLeDiff, Nat.reduceSub, Nat.reduceEqDiff, reduceCtorEq, reduceIte, ↓Opt.is, ↓Opt.no, ↓Asks.yes, ↓Asks.no, tyL, encL, y1, y2, z3, Int.toNat_natCast, encR, hN1, hN2, a0, a1, a2, a3, a4, a5, a6, a7, a8, asB]))
    refine ⟨_, f2, ?_⟩; (repeat (first | refine ap (by rfl : apartB 0 _ _ = true) ?_ | refine ap (by simp [osL, D.flat]) ?_)); repeat (first | refine aq ?_ | refine ap (by rfl : apartB 0 _ _ = true) ?_ | refine ak ?_ | refine ab ?_ | refine al ?_ | ((first | refine ar ?_ | refine ad ty_mix (by kernel_rfl) ?_ | refine ac ?_ | refine ae ?_ | with_reducible refine Later.mk ?_); simp only [evD, evL, iteL, St.said, St.asked, evStep, evOp, evP, St.init, St.app, srcStep, kill, setMany, loadS, fieldS, buildS, toks, Fin, upd_app, Array.isEmpty, Nat.reduceLT, Nat.reduceAdd, Nat.reduceMul, Nat.reduceLeDiff, Nat.reduceSub, Nat.reduceEqDiff, reduceCtorEq, reduceIte, ↓Opt.is, ↓Opt.no, ↓Asks.yes, ↓Asks.no, tyL, encL, y1, y2, z3, Int.toNat_natCast, encR, hN1, hN2, a0, a1, a2, a3, a4, a5, a6, a7, a8, asB]))
    refine ⟨_, f3, ?_⟩; (repeat (first | refine ap (by rfl : apartB 0 _ _ = true) ?_ | refine ap (by simp [osL, D.flat]) ?_)); repeat (first | refine aq ?_ | refine ap (by rfl : apartB 0 _ _ = true) ?_ | refine ak ?_ | refine ab ?_ | refine al ?_ | ((first | refine ar ?_ | refine ad ty_mix (by kernel_rfl) ?_ | refine ac ?_ | refine ae ?_ | with_reducible refine Later.mk ?_); simp only [evD, evL, iteL, St.said, St.asked, evStep, evOp, evP, St.init, St.app, srcStep, kill, setMany, loadS, fieldS, buildS, toks, Fin, upd_app, Array.isEmpty, Nat.reduceLT, Nat.reduceAdd, Nat.reduceMul, Nat.reduceLeDiff, Nat.reduceSub, Nat.reduceEqDiff, reduceCtorEq, reduceIte, ↓Opt.is, ↓Opt.no, ↓Asks.yes, ↓Asks.no, tyL, encL, y1, y2, z3, Int.toNat_natCast, encR, hN1, hN2, a0, a1, a2, a3, a4, a5, a6, a7, a8, asB]))
    refine ⟨_, hs, ?_⟩; (repeat (first | refine ap (by rfl : apartB 0 _ _ = true) ?_ | refine ap (by simp [osL, D.flat]) ?_)); repeat (first | refine aq ?_ | refine ap (by rfl : apartB 0 _ _ = true) ?_ | refine ak ?_ | refine ab ?_ | refine al ?_ | ((first | refine ar ?_ | refine ad ty_mix (by kernel_rfl) ?_ | refine ac ?_ | refine ae ?_ | with_reducible refine Later.mk ?_); simp only [evD, evL, iteL, St.said, St.asked, evStep, evOp, evP, St.init, St.app, srcStep, kill, setMany, loadS, fieldS, buildS, toks, Fin, upd_app, Array.isEmpty, Nat.reduceLT, Nat.reduceAdd, Nat.reduceMul, Nat.reduceLeDiff, Nat.reduceSub, Nat.reduceEqDiff, reduceCtorEq, reduceIte, ↓Opt.is, ↓Opt.no, ↓Asks.yes, ↓Asks.no, tyL, encL, y1, y2, z3, Int.toNat_natCast, encR, hN1, hN2, a0, a1, a2, a3, a4, a5, a6, a7, a8, asB]))
    refine ⟨_, f4, ?_⟩; (repeat (first | refine ap (by rfl : apartB 0 _ _ = true) ?_ | refine ap (by simp [osL, D.flat]) ?_)); repeat (first | refine aq ?_ | refine ap (by rfl : apartB 0 _ _ = true) ?_ | refine ak ?_ | refine ab ?_ | refine al ?_ | ((first | refine ar ?_ | refine ad ty_mix (by kernel_rfl) ?_ | refine ac ?_ | refine ae ?_ | with_reducible refine Later.mk ?_); simp only [evD, evL, iteL, St.said, St.asked, evStep, evOp, evP, St.init, St.app, srcStep, kill, setMany, loadS, fieldS, buildS, toks, Fin, upd_app, Array.isEmpty, Nat.reduceLT, Nat.reduceAdd, Nat.reduceMul, Nat.reduceLeDiff, Nat.reduceSub, Nat.reduceEqDiff, reduceCtorEq, reduceIte, ↓Opt.is, ↓Opt.no, ↓Asks.yes, ↓Asks.no, tyL, encL, y1, y2, z3, Int.toNat_natCast, encR, hN1, hN2, a0, a1, a2, a3, a4, a5, a6, a7, a8, asB]))
    refine Ab.ret ?_; simp only [evD, evL, iteL, St.said, St.asked, evStep, evOp, evP, St.init, St.app, srcStep, kill, setMany, loadS, fieldS, buildS, toks, Fin, upd_app, Array.isEmpty, Nat.reduceLT, Nat.reduceAdd, Nat.reduceMul, Nat.reduceLeDiff, Nat.reduceSub, Nat.reduceEqDiff, reduceCtorEq, reduceIte, ↓Opt.is, ↓Opt.no, ↓Asks.yes, ↓Asks.no, tyL, List.nodup_cons, encL, Tryd.f37]
  · rw [hd] at hc ⊢
    rw [if_neg (by simp)]
    unfold dbS dcS at hc ⊢
    refine AC.intro Tryd.func37 rfl (by decide) (by simp [S.res, S.ress]) (by simp [S.os, S.oss]) (by simp [S.wfs, S.wf, dbS]) (by simp [Tryd.f37]) ?_; rw [Tryd.ntmps37]
    repeat (first | refine aq ?_ | refine ap (by rfl : apartB 0 _ _ = true) ?_ | refine ak ?_ | refine ab ?_ | refine al ?_ | ((first | refine ar ?_ | refine ad ty_mix (by kernel_rfl) ?_ | refine ac ?_ | refine ae ?_ | with_reducible refine Later.mk ?_); simp only [evD, evL, iteL, St.said, St.asked, evStep, evOp, evP, St.init, St.app, srcStep, kill, setMany, loadS, fieldS, buildS, toks, Fin, upd_app, Array.isEmpty, Nat.reduceLT, Nat.reduceAdd, Nat.reduceMul, Nat.reduceLeDiff, Nat.reduceSub, Nat.reduceEqDiff, reduceCtorEq, reduceIte, ↓Opt.is, ↓Opt.no, ↓Asks.yes, ↓Asks.no, tyL, encL, asB]))
    refine ⟨_, hc, ?_⟩; (repeat (first | refine ap (by rfl : apartB 0 _ _ = true) ?_ | refine ap (by simp [osL, D.flat]) ?_)); repeat (first | refine aq ?_ | refine ap (by rfl : apartB 0 _ _ = true) ?_ | refine ak ?_ | refine ab ?_ | refine al ?_ | ((first | refine ar ?_ | refine ad ty_mix (by kernel_rfl) ?_ | refine ac ?_ | refine ae ?_ | with_reducible refine Later.mk ?_); simp only [evD, evL, iteL, St.said, St.asked, evStep, evOp, evP, St.init, St.app, srcStep, kill, setMany, loadS, fieldS, buildS, toks, Fin, upd_app, Array.isEmpty, Nat.reduceLT, Nat.reduceAdd, Nat.reduceMul, Nat.reduceLeDiff, Nat.reduceSub, Nat.reduceEqDiff, reduceCtorEq, reduceIte, ↓Opt.is, ↓Opt.no, ↓Asks.yes, ↓Asks.no, tyL, encL, asB]))
    refine Ab.ret ?_; simp only [evD, evL, iteL, St.said, St.asked, evStep, evOp, evP, St.init, St.app, srcStep, kill, setMany, loadS, fieldS, buildS, toks, Fin, upd_app, Array.isEmpty, Nat.reduceLT, Nat.reduceAdd, Nat.reduceMul, Nat.reduceLeDiff, Nat.reduceSub, Nat.reduceEqDiff, reduceCtorEq, reduceIte, ↓Opt.is, ↓Opt.no, ↓Asks.yes, ↓Asks.no, tyL, List.nodup_cons, encL, Tryd.f37]
theorem specFormatConstraint_a {d : Dbs} {c : Dcn} (g : eDbs.good d) (gc : eDcn.good c) : AC Tryd.prog 34 [dbS d, dcS c] (.d (.v (.string (conB d c)))) := by
  have hc := specIsValidConstraint_a g gc
  obtain ⟨g1, g2, g3, g4, g5, g6, g7⟩ := id gc
  unfold conB
  rcases Bool.eq_false_or_eq_true (validCon d c) with hd | hd
  · obtain ⟨p, q, hp, hq, hpl, hql, hn1, hn2, z1, z2⟩ := con_facts hd
    rw [hd] at hc ⊢
    rw [if_pos rfl, hn1, hn2]
    have k1 := itoaB_size (n := c.j1) g3
    have k2 := itoaB_size (n := c.j2) g4
    have k3 := itoaB_size (n := c.c1) g5
    have k4 := itoaB_size (n := c.c2) g6
    have f1 := specFormatInt_a (n := c.j1) g3
    have f2 := specFormatInt_a (n := c.j2) g4
    have f3 := specFormatInt_a (n := c.c1) g5
    have f4 := specFormatInt_a (n := c.c2) g6
    have e1 : (⟨#[110, 111, 116, 32]⟩ : ByteArray).size = 4 := rfl
    have e2 : (⟨#[61]⟩ : ByteArray).size = 1 := rfl
    have e3 : (⟨#[32]⟩ : ByteArray).size = 1 := rfl
    have e4 : (⟨#[60]⟩ : ByteArray).size = 1 := rfl
    have hs := comparisonSign_a (c := c)
    have y1 := getR hpl
    have y2 := getR hql
    obtain ⟨N1, hN1⟩ : ∃ N, d.rels[p].name = N := ⟨_, rfl⟩
    obtain ⟨N2, hN2⟩ : ∃ N, d.rels[q].name = N := ⟨_, rfl⟩
    rw [hN1] at z1 ⊢
    rw [hN2] at z2 ⊢
    have z3 : ∀ x : Nat, (0 ≤ (x : Int)) = True := fun x => eq_true (by omega)
    unfold dbS dcS at hc ⊢
    rw [hp, hq] at hc ⊢
    generalize itoaB c.j1 = J1 at *
    generalize itoaB c.j2 = J2 at *
    generalize itoaB c.c1 = C1 at *
    generalize itoaB c.c2 = C2 at *
    by_cases h2 : c.cmp = 2
    · have hb : (c.cmp == 2) = true := beq_iff_eq.2 h2
      have hSG : signB c = ⟨#[60]⟩ := by unfold signB; rw [if_pos h2]
      rw [hSG]
      have a0 := addOk (⟨#[110, 111, 116, 32]⟩) (N1) (by (try simp only [ByteArray.size_append]); omega)
      have a1 := addOk ((⟨#[110, 111, 116, 32]⟩ : ByteArray) ++ N1) (J1) (by (try simp only [ByteArray.size_append]); omega)
      have a2 := addOk ((⟨#[110, 111, 116, 32]⟩ : ByteArray) ++ N1 ++ J1) (⟨#[61]⟩) (by (try simp only [ByteArray.size_append]); omega)
      have a3 := addOk ((⟨#[110, 111, 116, 32]⟩ : ByteArray) ++ N1 ++ J1 ++ ⟨#[61]⟩) (N2) (by (try simp only [ByteArray.size_append]); omega)
      have a4 := addOk ((⟨#[110, 111, 116, 32]⟩ : ByteArray) ++ N1 ++ J1 ++ ⟨#[61]⟩ ++ N2) (J2) (by (try simp only [ByteArray.size_append]); omega)
      have a5 := addOk ((⟨#[110, 111, 116, 32]⟩ : ByteArray) ++ N1 ++ J1 ++ ⟨#[61]⟩ ++ N2 ++ J2) (⟨#[32]⟩) (by (try simp only [ByteArray.size_append]); omega)
      have a6 := addOk ((⟨#[110, 111, 116, 32]⟩ : ByteArray) ++ N1 ++ J1 ++ ⟨#[61]⟩ ++ N2 ++ J2 ++ ⟨#[32]⟩) (C1) (by (try simp only [ByteArray.size_append]); omega)
      have a7 := addOk ((⟨#[110, 111, 116, 32]⟩ : ByteArray) ++ N1 ++ J1 ++ ⟨#[61]⟩ ++ N2 ++ J2 ++ ⟨#[32]⟩ ++ C1) (⟨#[60]⟩) (by (try simp only [ByteArray.size_append]); omega)
      have a8 := addOk ((⟨#[110, 111, 116, 32]⟩ : ByteArray) ++ N1 ++ J1 ++ ⟨#[61]⟩ ++ N2 ++ J2 ++ ⟨#[32]⟩ ++ C1 ++ ⟨#[60]⟩) (C2) (by (try simp only [ByteArray.size_append]); omega)
      refine AC.intro Tryd.func34 rfl (by decide) (by simp [S.res, S.ress]) (by simp [S.os, S.oss]) (by simp [S.wfs, S.wf, dbS]) (by simp [Tryd.f34]) ?_; rw [Tryd.ntmps34]
      repeat (first | refine aq ?_ | refine ap (by rfl : apartB 0 _ _ = true) ?_ | refine ak ?_ | refine ab ?_ | refine al ?_ | ((first | refine ar ?_ | refine ad ty_mix (by kernel_rfl) ?_ | refine ac ?_ | refine ae ?_ | with_reducible refine Later.mk ?_); simp only [evD, evL, iteL, St.said, St.asked, evStep, evOp, evP, St.init, St.app, srcStep, kill, setMany, loadS, fieldS, buildS, toks, Fin, upd_app, Array.isEmpty, Nat.reduceLT, Nat.reduceAdd, Nat.reduceMul, Nat.reduceLeDiff, Nat.reduceSub, Nat.reduceEqDiff, reduceCtorEq, reduceIte, ↓Opt.is, ↓Opt.no, ↓Asks.yes, ↓Asks.no, tyL, encL, asB]))
      refine ⟨_, hc, ?_⟩; (repeat (first | refine ap (by rfl : apartB 0 _ _ = true) ?_ | refine ap (by simp [osL, D.flat]) ?_)); repeat (first | refine aq ?_ | refine ap (by rfl : apartB 0 _ _ = true) ?_ | refine ak ?_ | refine ab ?_ | refine al ?_ | ((first | refine ar ?_ | refine ad ty_mix (by kernel_rfl) ?_ | refine ac ?_ | refine ae ?_ | with_reducible refine Later.mk ?_); simp only [evD, evL, iteL, St.said, St.asked, evStep, evOp, evP, St.init, St.app, srcStep, kill, setMany, loadS, fieldS, buildS, toks, Fin, upd_app, Array.isEmpty, Nat.reduceLT, Nat.reduceAdd, Nat.reduceMul, Nat.reduceLeDiff, Nat.reduceSub, Nat.reduceEqDiff, reduceCtorEq, reduceIte, ↓Opt.is, ↓Opt.no, ↓Asks.yes, ↓Asks.no, tyL, encL, hb, y1, y2, z3, Int.toNat_natCast, encR, hN1, hN2, a0, a1, a2, a3, a4, a5, a6, a7, a8, asB]))
      refine ⟨_, f1, ?_⟩; (repeat (first | refine ap (by rfl : apartB 0 _ _ = true) ?_ | refine ap (by simp [osL, D.flat]) ?_)); repeat (first | refine aq ?_ | refine ap (by rfl : apartB 0 _ _ = true) ?_ | refine ak ?_ | refine ab ?_ | refine al ?_ | ((first | refine ar ?_ | refine ad ty_mix (by kernel_rfl) ?_ | refine ac ?_ | refine ae ?_ | with_reducible refine Later.mk ?_); simp only [evD, evL, iteL, St.said, St.asked, evStep, evOp, evP, St.init, St.app, srcStep, kill, setMany, loadS, fieldS, buildS, toks, Fin, upd_app, Array.isEmpty, Nat.reduceLT, Nat.reduceAdd, Nat.reduceMul, Nat.reduceLeDiff, Nat.reduceSub, Nat.reduceEqDiff, reduceCtorEq, reduceIte, ↓Opt.is, ↓Opt.no, ↓Asks.yes, ↓Asks.no, tyL, encL, y1, y2, z3, Int.toNat_natCast, encR, hN1, hN2, a0, a1, a2, a3, a4, a5, a6, a7, a8, asB]))
      refine ⟨_, f2, ?_⟩; (repeat (first | refine ap (by rfl : apartB 0 _ _ = true) ?_ | refine ap (by simp [osL, D.flat]) ?_)); repeat (first | refine aq ?_ | refine ap (by rfl : apartB 0 _ _ = true) ?_ | refine ak ?_ | refine ab ?_ | refine al ?_ | ((first | refine ar ?_ | refine ad ty_mix (by kernel_rfl) ?_ | refine ac ?_ | refine ae ?_ | with_reducible refine Later.mk ?_); simp only [evD, evL, iteL, St.said, St.asked, evStep, evOp, evP, St.init, St.app, srcStep, kill, setMany, loadS, fieldS, buildS, toks, Fin, upd_app, Array.isEmpty, Nat.reduceLT, Nat.reduceAdd, Nat.reduceMul, Nat.reduceLeDiff, Nat.reduceSub, Nat.reduceEqDiff, reduceCtorEq, reduceIte, ↓Opt.is, ↓Opt.no, ↓Asks.yes, ↓Asks.no, tyL, encL, y1, y2, z3, Int.toNat_natCast, encR, hN1, hN2, a0, a1, a2, a3, a4, a5, a6, a7, a8, asB]))
      refine ⟨_, f3, ?_⟩; (repeat (first | refine ap (by rfl : apartB 0 _ _ = true) ?_ | refine ap (by simp [osL, D.flat]) ?_)); repeat (first | refine aq ?_ | refine ap (by rfl : apartB 0 _ _ = true) ?_ | refine ak ?_ | refine ab ?_ | refine al ?_ | ((first | refine ar ?_ | refine ad ty_mix (by kernel_rfl) ?_ | refine ac ?_ | refine ae ?_ | with_reducible refine Later.mk ?_); simp only [evD, evL, iteL, St.said, St.asked, evStep, evOp, evP, St.init, St.app, srcStep, kill, setMany, loadS, fieldS, buildS, toks, Fin, upd_app, Array.isEmpty, Nat.reduceLT, Nat.reduceAdd, Nat.reduceMul, Nat.reduceLeDiff, Nat.reduceSub, Nat.reduceEqDiff, reduceCtorEq, reduceIte, ↓Opt.is, ↓Opt.no, ↓Asks.yes, ↓Asks.no, tyL, encL, y1, y2, z3, Int.toNat_natCast, encR, hN1, hN2, a0, a1, a2, a3, a4, a5, a6, a7, a8, asB]))
      refine ⟨_, f4, ?_⟩; (repeat (first | refine ap (by rfl : apartB 0 _ _ = true) ?_ | refine ap (by simp [osL, D.flat]) ?_)); repeat (first | refine aq ?_ | refine ap (by rfl : apartB 0 _ _ = true) ?_ | refine ak ?_ | refine ab ?_ | refine al ?_ | ((first | refine ar ?_ | refine ad ty_mix (by kernel_rfl) ?_ | refine ac ?_ | refine ae ?_ | with_reducible refine Later.mk ?_); simp only [evD, evL, iteL, St.said, St.asked, evStep, evOp, evP, St.init, St.app, srcStep, kill, setMany, loadS, fieldS, buildS, toks, Fin, upd_app, Array.isEmpty, Nat.reduceLT, Nat.reduceAdd, Nat.reduceMul, Nat.reduceLeDiff, Nat.reduceSub, Nat.reduceEqDiff, reduceCtorEq, reduceIte, ↓Opt.is, ↓Opt.no, ↓Asks.yes, ↓Asks.no, tyL, encL, y1, y2, z3, Int.toNat_natCast, encR, hN1, hN2, a0, a1, a2, a3, a4, a5, a6, a7, a8, asB]))
      refine Ab.ret ?_; simp only [evD, evL, iteL, St.said, St.asked, evStep, evOp, evP, St.init, St.app, srcStep, kill, setMany, loadS, fieldS, buildS, toks, Fin, upd_app, Array.isEmpty, Nat.reduceLT, Nat.reduceAdd, Nat.reduceMul, Nat.reduceLeDiff, Nat.reduceSub, Nat.reduceEqDiff, reduceCtorEq, reduceIte, ↓Opt.is, ↓Opt.no, ↓Asks.yes, ↓Asks.no, tyL, List.nodup_cons, encL, Tryd.f34]
    · have hb : (c.cmp == 2) = false := beq_eq_false_iff_ne.2 h2
      have hSG : signB c = ⟨#[61]⟩ := by unfold signB; rw [if_neg h2]
      rw [hSG]
      have a0 := addOk (⟨#[110, 111, 116, 32]⟩) (N1) (by (try simp only [ByteArray.size_append]); omega)
      have a1 := addOk ((⟨#[110, 111, 116, 32]⟩ : ByteArray) ++ N1) (J1) (by (try simp only [ByteArray.size_append]); omega)
      have a2 := addOk ((⟨#[110, 111, 116, 32]⟩ : ByteArray) ++ N1 ++ J1) (⟨#[61]⟩) (by (try simp only [ByteArray.size_append]); omega)
      have a3 := addOk ((⟨#[110, 111, 116, 32]⟩ : ByteArray) ++ N1 ++ J1 ++ ⟨#[61]⟩) (N2) (by (try simp only [ByteArray.size_append]); omega)
      have a4 := addOk ((⟨#[110, 111, 116, 32]⟩ : ByteArray) ++ N1 ++ J1 ++ ⟨#[61]⟩ ++ N2) (J2) (by (try simp only [ByteArray.size_append]); omega)
      have a5 := addOk ((⟨#[110, 111, 116, 32]⟩ : ByteArray) ++ N1 ++ J1 ++ ⟨#[61]⟩ ++ N2 ++ J2) (⟨#[32]⟩) (by (try simp only [ByteArray.size_append]); omega)
      have a6 := addOk ((⟨#[110, 111, 116, 32]⟩ : ByteArray) ++ N1 ++ J1 ++ ⟨#[61]⟩ ++ N2 ++ J2 ++ ⟨#[32]⟩) (C1) (by (try simp only [ByteArray.size_append]); omega)
      have a7 := addOk ((⟨#[110, 111, 116, 32]⟩ : ByteArray) ++ N1 ++ J1 ++ ⟨#[61]⟩ ++ N2 ++ J2 ++ ⟨#[32]⟩ ++ C1) (⟨#[61]⟩) (by (try simp only [ByteArray.size_append]); omega)
      have a8 := addOk ((⟨#[110, 111, 116, 32]⟩ : ByteArray) ++ N1 ++ J1 ++ ⟨#[61]⟩ ++ N2 ++ J2 ++ ⟨#[32]⟩ ++ C1 ++ ⟨#[61]⟩) (C2) (by (try simp only [ByteArray.size_append]); omega)
      refine AC.intro Tryd.func34 rfl (by decide) (by simp [S.res, S.ress]) (by simp [S.os, S.oss]) (by simp [S.wfs, S.wf, dbS]) (by simp [Tryd.f34]) ?_; rw [Tryd.ntmps34]
      repeat (first | refine aq ?_ | refine ap (by rfl : apartB 0 _ _ = true) ?_ | refine ak ?_ | refine ab ?_ | refine al ?_ | ((first | refine ar ?_ | refine ad ty_mix (by kernel_rfl) ?_ | refine ac ?_ | refine ae ?_ | with_reducible refine Later.mk ?_); simp only [evD, evL, iteL, St.said, St.asked, evStep, evOp, evP, St.init, St.app, srcStep, kill, setMany, loadS, fieldS, buildS, toks, Fin, upd_app, Array.isEmpty, Nat.reduceLT, Nat.reduceAdd, Nat.reduceMul, Nat.reduceLeDiff, Nat.reduceSub, Nat.reduceEqDiff, reduceCtorEq, reduceIte, ↓Opt.is, ↓Opt.no, ↓Asks.yes, ↓Asks.no, tyL, encL, asB]))
      refine ⟨_, hc, ?_⟩; (repeat (first | refine ap (by rfl : apartB 0 _ _ = true) ?_ | refine ap (by simp [osL, D.flat]) ?_)); repeat (first | refine aq ?_ | refine ap (by rfl : apartB 0 _ _ = true) ?_ | refine ak ?_ | refine ab ?_ | refine al ?_ | ((first | refine ar ?_ | refine ad ty_mix (by kernel_rfl) ?_ | refine ac ?_ | refine ae ?_ | with_reducible refine Later.mk ?_); simp only [evD, evL, iteL, St.said, St.asked, evStep, evOp, evP, St.init, St.app, srcStep, kill, setMany, loadS, fieldS, buildS, toks, Fin, upd_app, Array.isEmpty, Nat.reduceLT, Nat.reduceAdd, Nat.reduceMul, Nat.reduceLeDiff, Nat.reduceSub, Nat.reduceEqDiff, reduceCtorEq, reduceIte, ↓Opt.is, ↓Opt.no, ↓Asks.yes, ↓Asks.no, tyL, encL, hb, y1, y2, z3, Int.toNat_natCast, encR, hN1, hN2, a0, a1, a2, a3, a4, a5, a6, a7, a8, asB]))
      refine ⟨_, f1, ?_⟩; (repeat (first | refine ap (by rfl : apartB 0 _ _ = true) ?_ | refine ap (by simp [osL, D.flat]) ?_)); repeat (first | refine aq ?_ | refine ap (by rfl : apartB 0 _ _ = true) ?_ | refine ak ?_ | refine ab ?_ | refine al ?_ | ((first | refine ar ?_ | refine ad ty_mix (by kernel_rfl) ?_ | refine ac ?_ | refine ae ?_ | with_reducible refine Later.mk ?_); simp only [evD, evL, iteL, St.said, St.asked, evStep, evOp, evP, St.init, St.app, srcStep, kill, setMany, loadS, fieldS, buildS, toks, Fin, upd_app, Array.isEmpty, Nat.reduceLT, Nat.reduceAdd, Nat.reduceMul, Nat.reduceLeDiff, Nat.reduceSub, Nat.reduceEqDiff, reduceCtorEq, reduceIte, ↓Opt.is, ↓Opt.no, ↓Asks.yes, ↓Asks.no, tyL, encL, y1, y2, z3, Int.toNat_natCast, encR, hN1, hN2, a0, a1, a2, a3, a4, a5, a6, a7, a8, asB]))
      refine ⟨_, f2, ?_⟩; (repeat (first | refine ap (by rfl : apartB 0 _ _ = true) ?_ | refine ap (by simp [osL, D.flat]) ?_)); repeat (first | refine aq ?_ | refine ap (by rfl : apartB 0 _ _ = true) ?_ | refine ak ?_ | refine ab ?_ | refine al ?_ | ((first | refine ar ?_ | refine ad ty_mix (by kernel_rfl) ?_ | refine ac ?_ | refine ae ?_ | with_reducible refine Later.mk ?_); simp only [evD, evL, iteL, St.said, St.asked, evStep, evOp, evP, St.init, St.app, srcStep, kill, setMany, loadS, fieldS, buildS, toks, Fin, upd_app, Array.isEmpty, Nat.reduceLT, Nat.reduceAdd, Nat.reduceMul, Nat.reduceLeDiff, Nat.reduceSub, Nat.reduceEqDiff, reduceCtorEq, reduceIte, ↓Opt.is, ↓Opt.no, ↓Asks.yes, ↓Asks.no, tyL, encL, y1, y2, z3, Int.toNat_natCast, encR, hN1, hN2, a0, a1, a2, a3, a4, a5, a6, a7, a8, asB]))
      refine ⟨_, f3, ?_⟩; (repeat (first | refine ap (by rfl : apartB 0 _ _ = true) ?_ | refine ap (by simp [osL, D.flat]) ?_)); repeat (first | refine aq ?_ | refine ap (by rfl : apartB 0 _ _ = true) ?_ | refine ak ?_ | refine ab ?_ | refine al ?_ | ((first | refine ar ?_ | refine ad ty_mix (by kernel_rfl) ?_ | refine ac ?_ | refine ae ?_ | with_reducible refine Later.mk ?_); simp only [evD, evL, iteL, St.said, St.asked, evStep, evOp, evP, St.init, St.app, srcStep, kill, setMany, loadS, fieldS, buildS, toks, Fin, upd_app, Array.isEmpty, Nat.reduceLT, Nat.reduceAdd, Nat.reduceMul, Nat.reduceLeDiff, Nat.reduceSub, Nat.reduceEqDiff, reduceCtorEq, reduceIte, ↓Opt.is, ↓Opt.no, ↓Asks.yes, ↓Asks.no, tyL, encL, y1, y2, z3, Int.toNat_natCast, encR, hN1, hN2, a0, a1, a2, a3, a4, a5, a6, a7, a8, asB]))
      refine ⟨_, f4, ?_⟩; (repeat (first | refine ap (by rfl : apartB 0 _ _ = true) ?_ | refine ap (by simp [osL, D.flat]) ?_)); repeat (first | refine aq ?_ | refine ap (by rfl : apartB 0 _ _ = true) ?_ | refine ak ?_ | refine ab ?_ | refine al ?_ | ((first | refine ar ?_ | refine ad ty_mix (by kernel_rfl) ?_ | refine ac ?_ | refine ae ?_ | with_reducible refine Later.mk ?_); simp only [evD, evL, iteL, St.said, St.asked, evStep, evOp, evP, St.init, St.app, srcStep, kill, setMany, loadS, fieldS, buildS, toks, Fin, upd_app, Array.isEmpty, Nat.reduceLT, Nat.reduceAdd, Nat.reduceMul, Nat.reduceLeDiff, Nat.reduceSub, Nat.reduceEqDiff, reduceCtorEq, reduceIte, ↓Opt.is, ↓Opt.no, ↓Asks.yes, ↓Asks.no, tyL, encL, y1, y2, z3, Int.toNat_natCast, encR, hN1, hN2, a0, a1, a2, a3, a4, a5, a6, a7, a8, asB]))
      refine Ab.ret ?_; simp only [evD, evL, iteL, St.said, St.asked, evStep, evOp, evP, St.init, St.app, srcStep, kill, setMany, loadS, fieldS, buildS, toks, Fin, upd_app, Array.isEmpty, Nat.reduceLT, Nat.reduceAdd, Nat.reduceMul, Nat.reduceLeDiff, Nat.reduceSub, Nat.reduceEqDiff, reduceCtorEq, reduceIte, ↓Opt.is, ↓Opt.no, ↓Asks.yes, ↓Asks.no, tyL, List.nodup_cons, encL, Tryd.f34]
  · rw [hd] at hc ⊢
    rw [if_neg (by simp)]
    unfold dbS dcS at hc ⊢
    refine AC.intro Tryd.func34 rfl (by decide) (by simp [S.res, S.ress]) (by simp [S.os, S.oss]) (by simp [S.wfs, S.wf, dbS]) (by simp [Tryd.f34]) ?_; rw [Tryd.ntmps34]
    repeat (first | refine aq ?_ | refine ap (by rfl : apartB 0 _ _ = true) ?_ | refine ak ?_ | refine ab ?_ | refine al ?_ | ((first | refine ar ?_ | refine ad ty_mix (by kernel_rfl) ?_ | refine ac ?_ | refine ae ?_ | with_reducible refine Later.mk ?_); simp only [evD, evL, iteL, St.said, St.asked, evStep, evOp, evP, St.init, St.app, srcStep, kill, setMany, loadS, fieldS, buildS, toks, Fin, upd_app, Array.isEmpty, Nat.reduceLT, Nat.reduceAdd, Nat.reduceMul, Nat.reduceLeDiff, Nat.reduceSub, Nat.reduceEqDiff, reduceCtorEq, reduceIte, ↓Opt.is, ↓Opt.no, ↓Asks.yes, ↓Asks.no, tyL, encL, asB]))
    refine ⟨_, hc, ?_⟩; (repeat (first | refine ap (by rfl : apartB 0 _ _ = true) ?_ | refine ap (by simp [osL, D.flat]) ?_)); repeat (first | refine aq ?_ | refine ap (by rfl : apartB 0 _ _ = true) ?_ | refine ak ?_ | refine ab ?_ | refine al ?_ | ((first | refine ar ?_ | refine ad ty_mix (by kernel_rfl) ?_ | refine ac ?_ | refine ae ?_ | with_reducible refine Later.mk ?_); simp only [evD, evL, iteL, St.said, St.asked, evStep, evOp, evP, St.init, St.app, srcStep, kill, setMany, loadS, fieldS, buildS, toks, Fin, upd_app, Array.isEmpty, Nat.reduceLT, Nat.reduceAdd, Nat.reduceMul, Nat.reduceLeDiff, Nat.reduceSub, Nat.reduceEqDiff, reduceCtorEq, reduceIte, ↓Opt.is, ↓Opt.no, ↓Asks.yes, ↓Asks.no, tyL, encL, asB]))
    refine Ab.ret ?_; simp only [evD, evL, iteL, St.said, St.asked, evStep, evOp, evP, St.init, St.app, srcStep, kill, setMany, loadS, fieldS, buildS, toks, Fin, upd_app, Array.isEmpty, Nat.reduceLT, Nat.reduceAdd, Nat.reduceMul, Nat.reduceLeDiff, Nat.reduceSub, Nat.reduceEqDiff, reduceCtorEq, reduceIte, ↓Opt.is, ↓Opt.no, ↓Asks.yes, ↓Asks.no, tyL, List.nodup_cons, encL, Tryd.f34]
end Go.Proofs.YthkbmfpgdidfhaaDoor.Ab


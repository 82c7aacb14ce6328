/- The chapters' data in the layer: numbers, relations, facts, databases, edges, atoms, queries. -/
import Derived.Test.YtpcjhnbifgjleaaAbTy
import Derived.Test.YtpcjhnbifgjleaaAbTwo
import Derived.Test.YtpcjhnbifgjleaaAbBr
import Derived.Test.YtpcjhnbifgjleaaTyTre
open Go Go.Proofs Go.RowKit
namespace Go.Proofs.Ytpcjhnbifgjleaa.Ab
set_option linter.unusedSimpArgs false
set_option linter.unusedVariables false
set_option maxRecDepth 100000
def encI (x : Int) : List D := [.v (.int .i64 x)]
def encIs (l : List Int) : D := .sl (l.map encI)
def encB (l : List Int) : List D := [encIs l]
def encIss (l : List (List Int)) : D := .sl (l.map encB)
def encR (x : Rel) : List D := [.v (.string x.name), .v (.int .i64 x.arity), .v (.int .i64 x.key)]
def encRs (l : List Rel) : D := .sl (l.map encR)
def encF (x : Fct) : List D := [.v (.int .i64 x.rel), encIs x.vals]
def encFs (l : List Fct) : D := .sl (l.map encF)
def encE (x : Edg) : List D := [.v (.int .i64 x.a), .v (.int .i64 x.b)]
def encEs (l : List Edg) : D := .sl (l.map encE)
def encA (x : Atm) : List D := [.v (.int .i64 x.rel), encIs x.terms]
def encAs (l : List Atm) : D := .sl (l.map encA)
def encC (x : Dcn) : List D := [.v (.int .i64 x.r1), .v (.int .i64 x.r2), .v (.int .i64 x.j1), .v (.int .i64 x.j2), .v (.int .i64 x.c1), .v (.int .i64 x.c2), .v (.int .i64 x.cmp)]
def encCs (l : List Dcn) : D := .sl (l.map encC)
/-- A database that is handed over. -/
def dbS (d : Dbs) : S := .a [.d (encRs d.rels), .d (encFs d.facts)]
theorem encL : ((((type_of% @encIs.eq_1) ∧ ((type_of% @encIss.eq_1) ∧ (type_of% @encRs.eq_1))) ∧ (((type_of% @encFs.eq_1) ∧ (type_of% @encEs.eq_1)) ∧ ((type_of% @encAs.eq_1) ∧ (type_of% @encCs.eq_1)))) ∧ (((type_of% @encB.eq_1) ∧ ((type_of% @encR.eq_1) ∧ (type_of% @encF.eq_1))) ∧ (((type_of% @encE.eq_1) ∧ (type_of% @encA.eq_1)) ∧ ((type_of% @encC.eq_1) ∧ (type_of% @dbS.eq_1))))) :=
  ⟨⟨⟨@encIs.eq_1, ⟨@encIss.eq_1, @encRs.eq_1⟩⟩, ⟨⟨@encFs.eq_1, @encEs.eq_1⟩, ⟨@encAs.eq_1, @encCs.eq_1⟩⟩⟩, ⟨⟨@encB.eq_1, ⟨@encR.eq_1, @encF.eq_1⟩⟩, ⟨⟨@encE.eq_1, @encA.eq_1⟩, ⟨@encC.eq_1, @dbS.eq_1⟩⟩⟩⟩
/-- A struct by its data. -/
def sA (l : List D) : S := .a (l.map S.d)
def eRel : Enc cRel := eMap _ (ePair eStr (ePair eInt eInt))
def eFct : Enc cFct := eMap _ (ePair eInt (eSlice eInt))
def eDbs : Enc cDbs := eMap _ (ePair (eSlice eRel) (eSlice eFct))
def eEdg : Enc cEdg := eMap _ (ePair eInt eInt)
def eAtm : Enc cAtm := eMap _ (ePair eInt (eSlice eInt))
def eQry : Enc cQry := eMap _ (ePair eInt (ePair (eSlice eAtm) (eSlice eInt)))
theorem eIs_e (l : List Int) : (eSlice eInt).e l = [encIs l] := rfl
theorem eIss_e (l : List (List Int)) : (eSlice (eSlice eInt)).e l = [encIss l] := rfl
theorem eRels_e (l : List Rel) : (eSlice eRel).e l = [encRs l] := rfl
theorem eFcts_e (l : List Fct) : (eSlice eFct).e l = [encFs l] := rfl
theorem eEdgs_e (l : List Edg) : (eSlice eEdg).e l = [encEs l] := rfl
theorem eAtms_e (l : List Atm) : (eSlice eAtm).e l = [encAs l] := rfl
theorem eFct_e (x : Fct) : eFct.e x = encF x := rfl
theorem eDbs_e (x : Dbs) : eDbs.e x = [encRs x.rels, encFs x.facts] := rfl
theorem eQry_e (x : Qry) : eQry.e x = [.v (.int .i64 x.vars), encAs x.atoms, encIs x.free] := rfl
theorem encIs_len (l : List Int) : ∀ e, e ∈ l.map encI → e.length = 1 := by
  intro e he
  obtain ⟨x, _, rfl⟩ := List.mem_map.1 he
  rfl
theorem encIs_flat (l : List Int) : ∀ e, e ∈ l.map encI → ∀ d, d ∈ e → d.flat := by
  intro e he d hd
  obtain ⟨x, _, rfl⟩ := List.mem_map.1 he
  simp [encI] at hd
  subst hd
  trivial
theorem encIss_len (l : List (List Int)) : ∀ e, e ∈ l.map encB → e.length = 1 := by
  intro e he
  obtain ⟨x, _, rfl⟩ := List.mem_map.1 he
  rfl
theorem getI {l : List Int} {i : Nat} (h : i < l.length) : (l.map encI)[i]? = some [.v (.int .i64 l[i])] := by simp [h, encI]
theorem getB {l : List (List Int)} {i : Nat} (h : i < l.length) : (l.map encB)[i]? = some [encIs l[i]] := by simp [h, encB]
theorem getR {l : List Rel} {i : Nat} (h : i < l.length) : (l.map encR)[i]? = some (encR l[i]) := by simp [h]
theorem getF {l : List Fct} {i : Nat} (h : i < l.length) : (l.map encF)[i]? = some (encF l[i]) := by simp [h]
theorem getE {l : List Edg} {i : Nat} (h : i < l.length) : (l.map encE)[i]? = some (encE l[i]) := by simp [h]
theorem getA {l : List Atm} {i : Nat} (h : i < l.length) : (l.map encA)[i]? = some (encA l[i]) := by simp [h]
theorem wrapN {i n : Nat} (h : i < n) (hn : n ≤ 4611686018427387904) : IntKind.i64.wrap ((i : Int) + 1) = ((i + 1 : Nat) : Int) := by rw [IntKind.wrap_i64]; omega
theorem ltN (i n : Nat) : decide ((i : Int) < (n : Int)) = decide (i < n) := by simp
theorem int_cut {k : IntKind} {x : Int} {w : World} {G : Gh} {v : Value} (h : RdS w G (.d (.v (.int k x))) v) : v = .int k x := h.int
theorem ints_cut {l : List Int} (g : (eSlice eInt).good l) {w : World} {K : Nat → Nat → Prop} {ov : Nat → Value} {v : Value} (hK : ∀ b o, K b o → b < w.heap.size) (hr : RdS w (ghA K ov) (.d (encIs l)) v) :
    ∃ a cap, v = .slice a l.length cap ∧ At (cSlice cInt) w l [.slice a l.length cap] := by
  have h := (eSlice eInt).at1 (x := l) rfl g hK hr
  obtain ⟨a, cap, e, _⟩ := id h
  injection e with e
  subst e
  exact ⟨a, cap, rfl, h⟩
theorem RdV.t2 {w w' : World} {K : Nat → Nat → Prop} {x y v : Value} (h : RdV w K w' (.t [.d (.v x), .d (.v y)]) v) : v = .tuple #[x, y] := by
  obtain ⟨F, ov, h1, _⟩ := h
  simp only [RdS, RdSs, RdD] at h1
  obtain ⟨cs, rfl, c1, c2, rfl, ⟨rfl, _⟩, c3, c4, rfl, ⟨rfl, _⟩, rfl⟩ := h1
  rfl
end Go.Proofs.Ytpcjhnbifgjleaa.Ab


/- Constraints as text. -/
import Derived.Test.YtlcogbmceanghaaDoorFmtT
import Derived.Test.YtlcogbmceanghaaDoorCEdg
open Go Go.Proofs Go.RowKit
namespace Go.Proofs.YtlcogbmceanghaaDoor.Ab
set_option linter.unusedSimpArgs false
set_option linter.unusedVariables false
set_option maxRecDepth 100000
theorem ascFrom_all : ∀ (l : List Rel) (p : Option ByteArray), ascFrom p l = true → ∀ r, r ∈ l → validRel r = true
  | [], _, _, r, h => by simp at h
  | x :: l, p, h, r, hr => by
    simp only [ascFrom, Bool.and_eq_true] at h
    rcases List.mem_cons.1 hr with rfl | hr
    · exact h.1
    · exact ascFrom_all l _ h.2.2 r hr
def nameAt (d : Dbs) (r : Int) : ByteArray := (d.rels.map Rel.name).getD r.toNat ⟨#[]⟩
def signB (c : Dcn) : ByteArray := if c.cmp = 2 then ⟨#[60]⟩ else ⟨#[61]⟩
def conB (d : Dbs) (c : Dcn) : ByteArray := if validCon d c = true then ((⟨#[110, 111, 116, 32]⟩ : ByteArray) ++ nameAt d c.r1 ++ itoaB c.j1 ++ ⟨#[61]⟩ ++ nameAt d c.r2 ++ itoaB c.j2 ++ ⟨#[32]⟩ ++ itoaB c.c1 ++ signB c ++ itoaB c.c2) else ⟨#[]⟩
theorem validDb_rels {d : Dbs} (h : validDb d = true) : ∀ r, r ∈ d.rels → validRel r = true := by
  unfold validDb validRels at h
  simp only [Bool.and_eq_true] at h
  exact ascFrom_all _ none h.2.1.1
theorem con_facts {d : Dbs} {c : Dcn} (h : validCon d c = true) : ∃ p q : Nat, c.r1 = (p : Int) ∧ c.r2 = (q : Int) ∧ ∃ (hp : p < d.rels.length) (hq : q < d.rels.length), nameAt d c.r1 = d.rels[p].name ∧ nameAt d c.r2 = d.rels[q].name ∧ d.rels[p].name.size = 1 ∧ d.rels[q].name.size = 1 := by
  unfold validCon at h
  rw [Bool.and_eq_true] at h
  obtain ⟨h1, h2⟩ := h
  have hv := validDb_rels h1
  unfold fits colOk inB at h2
  simp only [Bool.and_eq_true, decide_eq_true_eq] at h2
  have hn : ∀ p : Nat, ∀ hp : p < d.rels.length, nameAt d (p : Int) = d.rels[p].name ∧ d.rels[p].name.size = 1 := fun p hp => by
    refine ⟨?_, (validRel_facts (hv _ (List.getElem_mem hp))).1⟩
    unfold nameAt
    rw [Int.toNat_natCast, List.getD_eq_getElem?_getD, List.getElem?_map, List.getElem?_eq_getElem hp]
    rfl
  refine ⟨c.r1.toNat, c.r2.toNat, by omega, by omega, by omega, by omega, ?_⟩
  have e1 : (c.r1.toNat : Int) = c.r1 := by omega
  have e2 : (c.r2.toNat : Int) = c.r2 := by omega
  have a1 := hn c.r1.toNat (by omega)
  have a2 := hn c.r2.toNat (by omega)
  rw [e1] at a1
  rw [e2] at a2
  exact ⟨a1.1, a2.1, a1.2, a2.2⟩
end Go.Proofs.YtlcogbmceanghaaDoor.Ab

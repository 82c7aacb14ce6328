/- RnkOne: In4 RepP AbSel Rank. -/
import Derived.Test.YtlcogbmceanghaaAbDb
import Derived.Test.YtlcogbmceanghaaAbGen
import Derived.Test.YtlcogbmceanghaaIsx
import Derived.Test.YtlcogbmceanghaaBlockTwo
import Derived.Test.YtlcogbmceanghaaIxP
/- The model's l1In and l4Set. -/
open Go Go.Proofs Go.RowKit
namespace Go.Proofs.Ytlcogbmceanghaa.Ab
set_option linter.unusedSimpArgs false
set_option linter.unusedVariables false
set_option maxRecDepth 100000
end Go.Proofs.Ytlcogbmceanghaa.Ab
namespace Go.Proofs.Ytlcogbmceanghaa
open Go.RowKit
set_option linter.unusedVariables false
set_option maxRecDepth 100000
/-- The facts at these places. -/
def selF (d : Dbs) (l : List Int) : List Fct := l.filterMap fun i => d.facts[i.toNat]?
def selOk (d : Dbs) (l : List Int) : Bool := validDb d && setIx d.facts.length l
/-- What SelectFacts hands back. -/
def selD (d : Dbs) (l : List Int) : Dbs := if selOk d l then ⟨d.rels, selF d l⟩ else ⟨[], []⟩
def partialR (d : Dbs) (l : List Int) : Bool := selOk d l && consistent (selD d l)
def isRepair (d : Dbs) (l : List Int) : Bool := partialR d l && decide (l.length = (blocksL d).length)
theorem selF_nil (d : Dbs) : selF d [] = [] := rfl
theorem selF_snoc (d : Dbs) (l : List Int) (k : Nat) (hk : k < l.length) (p : Nat) (hp : p < d.facts.length) (e : l[k] = (p : Int)) : selF d (l.take (k + 1)) = selF d (l.take k) ++ [d.facts[p]] := by
  unfold selF
  rw [List.take_succ_eq_append_getElem hk, List.filterMap_append, e]
  simp [hp]
theorem selF_len (d : Dbs) (l : List Int) (h : ∀ x, x ∈ l → 0 ≤ x ∧ x < (d.facts.length : Int)) : (selF d l).length = l.length := by
  induction l with
  | nil => rfl
  | cons x t ih =>
    have hx := h x (by simp)
    have := ih (fun y hy => h y (by simp [hy]))
    unfold selF at *
    rw [List.filterMap_cons, List.getElem?_eq_getElem (by omega : x.toNat < d.facts.length)]
    simp only [List.length_cons]
    omega
theorem selF_get (d : Dbs) (l : List Int) (h : ∀ x, x ∈ l → 0 ≤ x ∧ x < (d.facts.length : Int)) : ∀ k : Nat, (selF d l)[k]? = (l[k]?).bind fun i : Int => d.facts[i.toNat]? := by
  induction l with
  | nil => intro k; simp [selF]
  | cons x t ih =>
    intro k
    have hx := h x (by simp)
    have h2 := ih (fun y hy => h y (by simp [hy]))
    unfold selF at *
    have hg : d.facts[x.toNat]? = some d.facts[x.toNat] := List.getElem?_eq_getElem (by omega)
    rw [List.filterMap_cons, hg]
    cases k with
    | zero => simp [hg]
    | succ k => simpa using h2 k

/-- One of each. -/
def picks : List (List Nat) → List Nat → Prop
  | [], [] => True
  | b :: bs, x :: L => x ∈ b ∧ picks bs L
  | _, _ => False
theorem picks_of : ∀ (bs : List (List Nat)) (L : List Nat), bs.flatten.Pairwise (· < ·) → L.Pairwise (· < ·) → (∀ x, x ∈ L → x ∈ bs.flatten) → (∀ b, b ∈ bs → ∀ x y, x ∈ L → y ∈ L → x ∈ b → y ∈ b → x = y) → L.length ≤ bs.length ∧ (L.length = bs.length → picks bs L)
  | [], L, _, _, h3, _ => by
    cases L with
    | nil => exact ⟨Nat.le_refl _, fun _ => trivial⟩
    | cons x t => have := h3 x (by simp); simp at this
  | b :: bs, [], _, _, _, _ => ⟨Nat.zero_le _, fun h => by simp at h⟩
  | b :: bs, x :: t, h1, h2, h3, h4 => by
    rw [List.flatten_cons] at h1 h3
    obtain ⟨_, hbs, hc⟩ := List.pairwise_append.1 h1
    obtain ⟨hx, ht⟩ := List.pairwise_cons.1 h2
    by_cases hb : x ∈ b
    · have hsub : ∀ y, y ∈ t → y ∈ bs.flatten := by
        intro y hy
        rcases List.mem_append.1 (h3 y (by simp [hy])) with h | h
        · have := h4 b (by simp) x y (by simp) (by simp [hy]) hb h
          have := hx y hy
          omega
        · exact h
      obtain ⟨i1, i2⟩ := picks_of bs t hbs ht hsub (fun c hc x' y' hx' hy' => h4 c (by simp [hc]) x' y' (by simp [hx']) (by simp [hy']))
      exact ⟨by simp; omega, fun h => ⟨hb, i2 (by simpa using h)⟩⟩
    · have hsub : ∀ y, y ∈ x :: t → y ∈ bs.flatten := by
        have hxf : x ∈ bs.flatten := by
          rcases List.mem_append.1 (h3 x (by simp)) with h | h
          · exact absurd h hb
          · exact h
        intro y hy
        rcases List.mem_append.1 (h3 y hy) with h | h
        · have h5 := hc y h x hxf
          rcases List.mem_cons.1 hy with rfl | hy
          · exact hxf
          · have := hx y hy; omega
        · exact h
      obtain ⟨i1, i2⟩ := picks_of bs (x :: t) hbs h2 hsub (fun c hc => h4 c (by simp [hc]))
      refine ⟨by simp at *; omega, fun h => ?_⟩
      simp at h i1
      omega
theorem range_pw (n : Nat) : (List.range n).Pairwise (· < ·) := List.pairwise_lt_range
/-- A consistent selection takes no two facts of one block. -/
theorem sel_apart {d : Dbs} {l : List Int} (h : partialR d l = true) : ∀ i k (hi : i < l.length) (hk : k < l.length), keyR d l[i].toNat l[k].toNat = true → l[i] = l[k] := by
  unfold partialR at h
  simp only [Bool.and_eq_true] at h
  obtain ⟨hs, hc⟩ := h
  have hs0 := hs
  unfold selOk at hs
  simp only [Bool.and_eq_true] at hs
  have hin := setIx_in hs.2
  unfold selD at hc
  rw [if_pos hs0] at hc
  unfold consistent at hc
  simp only [Bool.and_eq_true, decide_eq_true_eq] at hc
  obtain ⟨hv, hcl⟩ := hc
  have hlen := selF_len d l hin
  have hD : ∀ a b, a < l.length → b < l.length → keyR ⟨d.rels, selF d l⟩ a b = true → a = b := by
    have hC := conv_db hv
    unfold blocksL at hcl
    rw [if_pos hv, List.length_map] at hcl
    have hcs := consist_eq hC (selF d l).length (Nat.le_refl _)
    rw [decide_eq_true hcl] at hcs
    have h0 := of_decide_eq_true hcs
    have hce := conf_eq hC (selF d l).length (Nat.le_refl _)
    rw [List.eq_nil_of_length_eq_zero h0] at hce
    intro a b ha hb hab
    have ha' : a < (selF d l).length := by omega
    have hb' : b < (selF d l).length := by omega
    have hsm : ¬ 1 < (blk (keyR ⟨d.rels, selF d l⟩) (selF d l).length a).length := by
      have hf := List.filter_eq_nil_iff.1 hce.symm a (List.mem_range.2 ha')
      simpa using hf
    have haa : a ∈ blk (keyR ⟨d.rels, selF d l⟩) (selF d l).length a := List.mem_filter.2 ⟨List.mem_range.2 ha', hC.refl a ha'⟩
    have hba : b ∈ blk (keyR ⟨d.rels, selF d l⟩) (selF d l).length a := List.mem_filter.2 ⟨List.mem_range.2 hb', hab⟩
    generalize blk (keyR ⟨d.rels, selF d l⟩) (selF d l).length a = B at *
    match B, hsm, haa, hba with
    | [z], _, h1, h2 => simp at h1 h2; omega
    | z :: z2 :: t, hn, _, _ => exact absurd (by simp) hn
  intro i k hi hk hR
  have g : ∀ j (hj : j < l.length), (selF d l)[j]? = d.facts[l[j].toNat]? := by
    intro j hj
    rw [selF_get d l hin j, List.getElem?_eq_getElem hj]; rfl
  have : i = k := by
    apply hD i k hi hk
    unfold keyR at hR ⊢
    rw [g i hi, g k hk]
    exact hR
  subst this
  rfl
theorem ints_toNat {l : List Int} (h : ∀ x, x ∈ l → 0 ≤ x) : ints (l.map Int.toNat) = l := by
  unfold ints
  rw [List.map_map]
  conv => rhs; rw [← List.map_id l]
  apply List.map_congr_left
  intro x hx
  have := h x hx
  simp; omega
/-- A repair takes one fact of each block, in the order of the blocks. -/
theorem repair_picks {d : Dbs} {l : List Int} (h : isRepair d l = true) : picks (blksI (keyR d) d.facts.length) (l.map Int.toNat) := by
  unfold isRepair at h
  simp only [Bool.and_eq_true, decide_eq_true_eq] at h
  obtain ⟨hp, hl⟩ := h
  have hap := sel_apart hp
  have hs := hp
  unfold partialR selOk at hs
  simp only [Bool.and_eq_true] at hs
  obtain ⟨⟨hv, hset⟩, _⟩ := hs
  have hin := setIx_in hset
  have hpw := setIx_pw hset
  unfold blocksL at hl
  rw [if_pos hv, List.length_map] at hl
  have hC := conv_db hv
  refine (picks_of _ _ (by rw [blksI_flatten]; exact range_pw _) ?_ ?_ ?_).2 (by rw [List.length_map]; exact hl)
  · rw [List.pairwise_map]
    refine List.Pairwise.imp_of_mem ?_ hpw
    intro a b ha hb hab
    have := hin a ha
    have := hin b hb
    omega
  · intro x hx
    obtain ⟨y, hy, rfl⟩ := List.mem_map.1 hx
    have := hin y hy
    rw [blksI_flatten]
    exact List.mem_range.2 (by omega)
  · intro b hb x y hx hy hxb hyb
    obtain ⟨x', hx', rfl⟩ := List.mem_map.1 hx
    obtain ⟨y', hy', rfl⟩ := List.mem_map.1 hy
    obtain ⟨i, hi, rfl⟩ := List.getElem_of_mem hx'
    obtain ⟨k, hk, rfl⟩ := List.getElem_of_mem hy'
    have hbs : b ∈ blksS (keyR d) d.facts.length := by rw [← blks_eq hC _ (Nat.le_refl _)]; exact hb
    obtain ⟨h1, h2⟩ := blk_of_mem hC (Nat.le_refl _) hbs hxb
    rw [← h2] at hyb
    have hR := (List.mem_filter.1 hyb).2
    rw [hap i k hi hk hR]
end Go.Proofs.Ytlcogbmceanghaa

/- Chapters 4, 5, 7: copies, SelectFacts, partial repairs, repairs. -/
open Go Go.Proofs Go.RowKit
namespace Go.Proofs.Ytlcogbmceanghaa.Ab
set_option linter.unusedSimpArgs false
set_option linter.unusedVariables false
set_option maxRecDepth 100000
theorem encRs_len (l : List Rel) : ∀ e, e ∈ l.map encR → e.length = 3 := by
  intro e he
  obtain ⟨x, _, rfl⟩ := List.mem_map.1 he
  rfl
theorem encRs_flat (l : List Rel) : ∀ e, e ∈ l.map encR → ∀ d, d ∈ e → d.flat := by
  intro e he d hd
  obtain ⟨x, _, rfl⟩ := List.mem_map.1 he
  simp [encR] at hd
  rcases hd with rfl | rfl | rfl <;> trivial
theorem vld_vals {d : Dbs} (h : validDb d = true) (k : Nat) (hk : k < d.facts.length) : d.facts[k].vals.length ≤ 3 := by
  obtain ⟨_, _, _, _, _, _, h3, _⟩ := validFact_key (dbValid_fact h k hk)
  exact h3
theorem vld_rels {d : Dbs} (h : validDb d = true) : d.rels.length ≤ 4 := by
  unfold validDb at h
  simp only [Bool.and_eq_true] at h
  exact validRels_len h.2.1
theorem vld_facts {d : Dbs} (h : validDb d = true) : d.facts.length ≤ 14 := dbValid_len h
theorem selD_good {d : Dbs} (g : eDbs.good d) (l : List Int) : eDbs.good (selD d l) := by
  unfold selD
  split
  · rename_i h
    unfold selOk at h
    simp only [Bool.and_eq_true] at h
    refine ⟨g.1, ?_, fun x hx => ?_⟩
    · have h1 := selF_len d l (setIx_in h.2)
      have h2 := setIx_len h.2
      have h3 := vld_facts h.1
      show (selF d l).length ≤ maxLen
      rw [h1]
      simp only [maxLen]
      omega
    · obtain ⟨i, hi, hxi⟩ := List.mem_filterMap.1 hx
      exact g.2.2 x (List.mem_of_getElem? hxi)
  · exact ⟨⟨Nat.zero_le _, by simp⟩, ⟨Nat.zero_le _, by simp⟩⟩
end Go.Proofs.Ytlcogbmceanghaa.Ab
open Go Go.Proofs Go.RowKit
namespace Go.Proofs.Ytlcogbmceanghaa.Ab
set_option linter.unusedSimpArgs false
set_option linter.unusedVariables false
set_option maxRecDepth 100000
theorem picks_at : ∀ {bs : List (List Nat)} {L : List Nat}, picks bs L → ∀ i (h : i < bs.length), ∃ h' : i < L.length, L[i] ∈ bs[i]
  | [], [], _, i, h => by simp at h
  | b :: bs, x :: L, hp, 0, h => ⟨by simp, hp.1⟩
  | b :: bs, x :: L, hp, i + 1, h => by
    obtain ⟨h1, h2⟩ := picks_at hp.2 i (by simpa using h)
    exact ⟨by simpa using h1, by simpa using h2⟩
  | [], _ :: _, hp, _, _ => hp.elim
  | _ :: _, [], hp, _, _ => hp.elim
theorem pw_at : ∀ {bs : List (List Nat)}, bs.flatten.Pairwise (· < ·) → ∀ b, b ∈ bs → b.Pairwise (· < ·)
  | [], _, b, hb => by cases hb
  | c :: bs, h, b, hb => by
    rw [List.flatten_cons] at h
    obtain ⟨h1, h2, _⟩ := List.pairwise_append.1 h
    rcases List.mem_cons.1 hb with rfl | hb
    · exact h1
    · exact pw_at h2 b hb
theorem rep_at {d : Dbs} {l : List Int} (h : isRepair d l = true) (i : Nat) (hi : i < (blocksL d).length) :
    ∃ hl : i < l.length, ∃ k, ∃ hk : k < ((blocksL d)[i]).length, ((blocksL d)[i])[k] = l[i] ∧ ∀ j (hj : j < ((blocksL d)[i]).length), l.contains (((blocksL d)[i])[j]) = decide (j = k) := by
  have hp := repair_picks h
  have h0 := h
  unfold isRepair at h0
  simp only [Bool.and_eq_true, decide_eq_true_eq] at h0
  obtain ⟨hpr, hll⟩ := h0
  have hap := sel_apart hpr
  have hs := hpr
  unfold partialR selOk at hs
  simp only [Bool.and_eq_true] at hs
  obtain ⟨⟨hv, hset⟩, _⟩ := hs
  have hin := setIx_in hset
  have hC := conv_db hv
  have hpw := pw_at (bs := blksI (keyR d) d.facts.length) (by rw [blksI_flatten]; exact range_pw _)
  have hbe : blocksL d = (blksI (keyR d) d.facts.length).map ints := by unfold blocksL; rw [if_pos hv]
  have hi' : i < (blksI (keyR d) d.facts.length).length := by rw [hbe, List.length_map] at hi; exact hi
  obtain ⟨h1, h2⟩ := picks_at hp i hi'
  have h1' : i < l.length := by simpa using h1
  have hbi : (blocksL d)[i] = ints ((blksI (keyR d) d.facts.length)[i]) := by
    have : (blocksL d)[i]? = ((blksI (keyR d) d.facts.length).map ints)[i]? := by rw [hbe]
    rw [List.getElem?_eq_getElem hi, List.getElem?_map, List.getElem?_eq_getElem hi'] at this
    exact Option.some.inj this
  have hb := List.getElem_mem hi'
  have hpb := hpw _ hb
  have hsame : ∀ x y, x ∈ (blksI (keyR d) d.facts.length)[i] → y ∈ (blksI (keyR d) d.facts.length)[i] → keyR d x y = true := by
    intro x y hx hy
    have hbs : (blksI (keyR d) d.facts.length)[i] ∈ blksS (keyR d) d.facts.length := by rw [← blks_eq hC _ (Nat.le_refl _)]; exact hb
    obtain ⟨_, h4⟩ := blk_of_mem hC (Nat.le_refl _) hbs hx
    rw [← h4] at hy
    exact (List.mem_filter.1 hy).2
  generalize (blksI (keyR d) d.facts.length)[i] = b at *
  rw [hbi]
  simp only [List.getElem_map] at h2
  obtain ⟨k, hk, hke⟩ := List.getElem_of_mem h2
  have hli := hin l[i] (List.getElem_mem h1')
  refine ⟨h1', k, by unfold ints; rw [List.length_map]; exact hk, ?_, fun j hj => ?_⟩
  · have he : (ints b)[k]'(by unfold ints; rw [List.length_map]; exact hk) = (b[k] : Int) := by unfold ints; simp
    rw [he, hke]
    omega
  · have hj' : j < b.length := by unfold ints at hj; rw [List.length_map] at hj; exact hj
    have he : (ints b)[j] = (b[j] : Int) := by
      have h9 : (ints b)[j]? = some (b[j] : Int) := by unfold ints; rw [List.getElem?_map, List.getElem?_eq_getElem hj']; rfl
      rw [List.getElem?_eq_getElem hj] at h9
      exact Option.some.inj h9
    rw [he, Bool.eq_iff_iff, List.contains_iff_mem, decide_eq_true_eq]
    constructor
    · intro hm
      obtain ⟨m, hm', hme⟩ := List.getElem_of_mem hm
      have h5 := hap m i hm' h1' (by
        rw [hme, Int.toNat_natCast]
        exact hsame _ _ (List.getElem_mem hj') h2)
      have h6 : b[j] = b[k] := by
        rw [hke, ← h5, hme, Int.toNat_natCast]
      rcases Nat.lt_trichotomy j k with h7 | h7 | h7
      · have := List.pairwise_iff_getElem.1 hpb j k hj' hk h7
        omega
      · exact h7
      · have := List.pairwise_iff_getElem.1 hpb k j hk hj' h7
        omega
    · rintro rfl
      have : (b[j] : Int) = l[i] := by rw [hke]; omega
      rw [this]
      exact List.getElem_mem h1'
theorem blocks_in {d : Dbs} : ∀ b, b ∈ blocksL d → b.length ≤ 14 ∧ ∀ x, x ∈ b → 0 ≤ x ∧ x < (d.facts.length : Int) := by
  intro b hb
  refine ⟨blocksL_each d b hb, fun x hx => ?_⟩
  unfold blocksL at hb
  split at hb
  · obtain ⟨c, hc, rfl⟩ := List.mem_map.1 hb
    unfold ints at hx
    obtain ⟨n, hn, rfl⟩ := List.mem_map.1 hx
    have := blksI_lt hc hn
    omega
  · cases hb
def rankP (L : List (List Int)) (l : List Int) : Nat → Int
  | 0 => 0
  | i + 1 => IntKind.i64.wrap (IntKind.i64.wrap (rankP L l i * ((L.getD i []).length : Int)) + idxOf (fun y => l.getD i 0 == y) (L.getD i []))
def rankL (d : Dbs) (l : List Int) : Int := if isRepair d l then rankP (blocksL d) l (blocksL d).length else 0
theorem has_a (l : List Int) (hl : l.length ≤ 1048576) (x : Int) : AC Try.prog 27 [.d (encIs l), .d (.v (.int .i64 x))] (.d (.v (.bool (l.contains x)))) := by
  refine AC.intro Try.func27 rfl (by decide) (by simp [S.res, S.ress]) (by simp [S.os, S.oss]) (by simp [S.wfs, S.wf, dbS]) (by simp [Try.f27]) ?_; rw [Try.ntmps27]
  repeat (first | refine aq ?_ | refine ap (by rfl : apartB 0 _ _ = true) ?_ | refine ak ?_ | refine ab ?_ | refine al ?_ | ((first | refine ar ?_ | refine ad ty_mix (by kernel_rfl) ?_ | refine ac ?_ | refine ae ?_ | with_reducible refine Later.mk ?_); simp only [evD, evL, iteL, S.arg.eq_12, S.asL.eq_6, St.said, St.asked, evStep, evOp, evP, St.init, St.app, srcStep, kill, setMany, loadS, fieldS, buildS, toks, Fin, upd_app, Array.isEmpty, Nat.reduceLT, Nat.reduceAdd, Nat.reduceMul, Nat.reduceLeDiff, Nat.reduceSub, Nat.reduceEqDiff, reduceCtorEq, reduceIte, ↓Opt.is, ↓Opt.no, ↓Asks.yes, ↓Asks.no, tyL, encL, asB]))
  refine Ab.loopI l.length (fun i => ∀ j (hj : j < l.length), j < i → (l[j] == x) = false) (fun i => mkS 18 [(0, .d (.sl (List.map encI l))), (1, .d (.v (.int .i64 x))), (5, .d (.v (.int .i64 (i : Int))))] [] 32) (fun j _ h => by omega) ?_ ?_
  · ((first | refine Le.mk rfl ?_ ?_ | refine LeTo.mk rfl ?_ ?_) <;> simp only [evD, evL, iteL, S.arg.eq_12, S.asL.eq_6, St.said, St.asked, evStep, evOp, evP, St.init, St.app, srcStep, kill, setMany, loadS, fieldS, buildS, toks, Fin, upd_app, Array.isEmpty, Nat.reduceLT, Nat.reduceAdd, Nat.reduceMul, Nat.reduceLeDiff, Nat.reduceSub, Nat.reduceEqDiff, reduceCtorEq, reduceIte, ↓Opt.is, ↓Opt.no, ↓Asks.yes, ↓Asks.no, tyL, encL, leL, leD, ne_eq])
  intro i hi hI
  repeat (first | refine aq ?_ | refine ap (by rfl : apartB 0 _ _ = true) ?_ | refine ak ?_ | refine ab ?_ | refine al ?_ | ((first | refine ar ?_ | refine ad ty_mix (by kernel_rfl) ?_ | refine ac ?_ | refine ae ?_ | with_reducible refine Later.mk ?_); simp only [evD, evL, iteL, S.arg.eq_12, S.asL.eq_6, St.said, St.asked, evStep, evOp, evP, St.init, St.app, srcStep, kill, setMany, loadS, fieldS, buildS, toks, Fin, upd_app, Array.isEmpty, Nat.reduceLT, Nat.reduceAdd, Nat.reduceMul, Nat.reduceLeDiff, Nat.reduceSub, Nat.reduceEqDiff, reduceCtorEq, reduceIte, ↓Opt.is, ↓Opt.no, ↓Asks.yes, ↓Asks.no, tyL, encL, mkS, updl, asB]))
  refine ⟨fun h => ?_, fun h => ?_⟩
  · have h : i < l.length := by simpa using h
    have hw := wrapN h (by omega)
    repeat (first | refine aq ?_ | refine ap (by rfl : apartB 0 _ _ = true) ?_ | refine ak ?_ | refine ab ?_ | refine al ?_ | ((first | refine ar ?_ | refine ad ty_mix (by kernel_rfl) ?_ | refine ac ?_ | refine ae ?_ | with_reducible refine Later.mk ?_); simp only [evD, evL, iteL, S.arg.eq_12, S.asL.eq_6, St.said, St.asked, evStep, evOp, evP, St.init, St.app, srcStep, kill, setMany, loadS, fieldS, buildS, toks, Fin, upd_app, Array.isEmpty, Nat.reduceLT, Nat.reduceAdd, Nat.reduceMul, Nat.reduceLeDiff, Nat.reduceSub, Nat.reduceEqDiff, reduceCtorEq, reduceIte, ↓Opt.is, ↓Opt.no, ↓Asks.yes, ↓Asks.no, tyL, encL, getI h, asB]))
    refine ⟨fun h3 => ?_, fun h3 => ?_⟩
    · have e : l.contains x = true := by
        rw [List.contains_iff_mem, ← eq_of_beq h3]
        exact List.getElem_mem h
      repeat (first | refine aq ?_ | refine ap (by rfl : apartB 0 _ _ = true) ?_ | refine ak ?_ | refine ab ?_ | refine al ?_ | ((first | refine ar ?_ | refine ad ty_mix (by kernel_rfl) ?_ | refine ac ?_ | refine ae ?_ | with_reducible refine Later.mk ?_); simp only [evD, evL, iteL, S.arg.eq_12, S.asL.eq_6, St.said, St.asked, evStep, evOp, evP, St.init, St.app, srcStep, kill, setMany, loadS, fieldS, buildS, toks, Fin, upd_app, Array.isEmpty, Nat.reduceLT, Nat.reduceAdd, Nat.reduceMul, Nat.reduceLeDiff, Nat.reduceSub, Nat.reduceEqDiff, reduceCtorEq, reduceIte, ↓Opt.is, ↓Opt.no, ↓Asks.yes, ↓Asks.no, tyL, encL, asB]))
      refine Ab.ret ?_; simp only [evD, evL, iteL, S.arg.eq_12, S.asL.eq_6, St.said, St.asked, evStep, evOp, evP, St.init, St.app, srcStep, kill, setMany, loadS, fieldS, buildS, toks, Fin, upd_app, Array.isEmpty, Nat.reduceLT, Nat.reduceAdd, Nat.reduceMul, Nat.reduceLeDiff, Nat.reduceSub, Nat.reduceEqDiff, reduceCtorEq, reduceIte, ↓Opt.is, ↓Opt.no, ↓Asks.yes, ↓Asks.no, tyL, List.nodup_cons, encL, Try.f27, e]
    · repeat (first | refine aq ?_ | refine ap (by rfl : apartB 0 _ _ = true) ?_ | refine ak ?_ | refine ab ?_ | refine al ?_ | ((first | refine ar ?_ | refine ad ty_mix (by kernel_rfl) ?_ | refine ac ?_ | refine ae ?_ | with_reducible refine Later.mk ?_); simp only [evD, evL, iteL, S.arg.eq_12, S.asL.eq_6, St.said, St.asked, evStep, evOp, evP, St.init, St.app, srcStep, kill, setMany, loadS, fieldS, buildS, toks, Fin, upd_app, Array.isEmpty, Nat.reduceLT, Nat.reduceAdd, Nat.reduceMul, Nat.reduceLeDiff, Nat.reduceSub, Nat.reduceEqDiff, reduceCtorEq, reduceIte, ↓Opt.is, ↓Opt.no, ↓Asks.yes, ↓Asks.no, tyL, encL, hw, asB]))
      refine ⟨h, fun j hj hji => ?_, ?_⟩
      · by_cases e : j = i
        · subst e; exact h3
        · exact hI j hj (by omega)
      · ((first | refine Le.mk rfl ?_ ?_ | refine LeTo.mk rfl ?_ ?_) <;> simp only [evD, evL, iteL, S.arg.eq_12, S.asL.eq_6, St.said, St.asked, evStep, evOp, evP, St.init, St.app, srcStep, kill, setMany, loadS, fieldS, buildS, toks, Fin, upd_app, Array.isEmpty, Nat.reduceLT, Nat.reduceAdd, Nat.reduceMul, Nat.reduceLeDiff, Nat.reduceSub, Nat.reduceEqDiff, reduceCtorEq, reduceIte, ↓Opt.is, ↓Opt.no, ↓Asks.yes, ↓Asks.no, tyL, encL, leL, leD, ne_eq])
  · have h : i = l.length := by have := of_decide_eq_false h; omega
    subst h
    have e : l.contains x = false := by
      rw [← Bool.not_eq_true, List.contains_iff_mem]
      intro hm
      obtain ⟨j, hj, e⟩ := List.getElem_of_mem hm
      have := hI j hj hj
      rw [e] at this
      simp at this
    repeat (first | refine aq ?_ | refine ap (by rfl : apartB 0 _ _ = true) ?_ | refine ak ?_ | refine ab ?_ | refine al ?_ | ((first | refine ar ?_ | refine ad ty_mix (by kernel_rfl) ?_ | refine ac ?_ | refine ae ?_ | with_reducible refine Later.mk ?_); simp only [evD, evL, iteL, S.arg.eq_12, S.asL.eq_6, St.said, St.asked, evStep, evOp, evP, St.init, St.app, srcStep, kill, setMany, loadS, fieldS, buildS, toks, Fin, upd_app, Array.isEmpty, Nat.reduceLT, Nat.reduceAdd, Nat.reduceMul, Nat.reduceLeDiff, Nat.reduceSub, Nat.reduceEqDiff, reduceCtorEq, reduceIte, ↓Opt.is, ↓Opt.no, ↓Asks.yes, ↓Asks.no, tyL, encL, asB]))
    refine Ab.ret ?_; simp only [evD, evL, iteL, S.arg.eq_12, S.asL.eq_6, St.said, St.asked, evStep, evOp, evP, St.init, St.app, srcStep, kill, setMany, loadS, fieldS, buildS, toks, Fin, upd_app, Array.isEmpty, Nat.reduceLT, Nat.reduceAdd, Nat.reduceMul, Nat.reduceLeDiff, Nat.reduceSub, Nat.reduceEqDiff, reduceCtorEq, reduceIte, ↓Opt.is, ↓Opt.no, ↓Asks.yes, ↓Asks.no, tyL, List.nodup_cons, encL, Try.f27, e]
theorem index_a (l : List Int) (hl : l.length ≤ 1048576) (x : Int) : AC Try.prog 48 [.d (encIs l), .d (.v (.int .i64 x))] (.d (.v (.int .i64 (idxOf (fun y => x == y) l)))) := by
  refine AC.intro Try.func48 rfl (by decide) (by simp [S.res, S.ress]) (by simp [S.os, S.oss]) (by simp [S.wfs, S.wf]) (by simp [Try.f48]) ?_; rw [Try.ntmps48]
  repeat (first | refine aq ?_ | refine ap (by rfl : apartB 0 _ _ = true) ?_ | refine ak ?_ | refine ab ?_ | refine al ?_ | ((first | refine ar ?_ | refine ad ty_mix (by kernel_rfl) ?_ | refine ac ?_ | refine ae ?_ | with_reducible refine Later.mk ?_); simp only [evD, evL, iteL, S.arg.eq_12, S.asL.eq_6, St.said, St.asked, evStep, evOp, evP, St.init, St.app, srcStep, kill, setMany, loadS, fieldS, buildS, toks, Fin, upd_app, Array.isEmpty, Nat.reduceLT, Nat.reduceAdd, Nat.reduceMul, Nat.reduceLeDiff, Nat.reduceSub, Nat.reduceEqDiff, reduceCtorEq, reduceIte, ↓Opt.is, ↓Opt.no, ↓Asks.yes, ↓Asks.no, tyL, encL, asB]))
  refine Ab.loopI l.length (fun i => ∀ j (hj : j < l.length), j < i → (x == l[j]) = false) (fun i => mkS 19 [(0, .d (.sl (List.map encI l))), (1, .d (.v (.int .i64 x))), (7, .d (.v (.int .i64 (l.length : Int)))), (8, .d (.v (.int .i64 (i : Int))))] [] 64) (fun j _ h => by omega) ?_ ?_
  · ((first | refine Le.mk rfl ?_ ?_ | refine LeTo.mk rfl ?_ ?_) <;> simp only [evD, evL, iteL, S.arg.eq_12, S.asL.eq_6, St.said, St.asked, evStep, evOp, evP, St.init, St.app, srcStep, kill, setMany, loadS, fieldS, buildS, toks, Fin, upd_app, Array.isEmpty, Nat.reduceLT, Nat.reduceAdd, Nat.reduceMul, Nat.reduceLeDiff, Nat.reduceSub, Nat.reduceEqDiff, reduceCtorEq, reduceIte, ↓Opt.is, ↓Opt.no, ↓Asks.yes, ↓Asks.no, tyL, encL, leL, leD, ne_eq])
  intro i hi hI
  repeat (first | refine aq ?_ | refine ap (by rfl : apartB 0 _ _ = true) ?_ | refine ak ?_ | refine ab ?_ | refine al ?_ | ((first | refine ar ?_ | refine ad ty_mix (by kernel_rfl) ?_ | refine ac ?_ | refine ae ?_ | with_reducible refine Later.mk ?_); simp only [evD, evL, iteL, S.arg.eq_12, S.asL.eq_6, St.said, St.asked, evStep, evOp, evP, St.init, St.app, srcStep, kill, setMany, loadS, fieldS, buildS, toks, Fin, upd_app, Array.isEmpty, Nat.reduceLT, Nat.reduceAdd, Nat.reduceMul, Nat.reduceLeDiff, Nat.reduceSub, Nat.reduceEqDiff, reduceCtorEq, reduceIte, ↓Opt.is, ↓Opt.no, ↓Asks.yes, ↓Asks.no, tyL, encL, mkS, updl, asB]))
  refine ⟨fun h => ?_, fun h => ?_⟩
  · have h : i < l.length := by simpa using h
    have hw := wrapN h (by omega)
    repeat (first | refine aq ?_ | refine ap (by rfl : apartB 0 _ _ = true) ?_ | refine ak ?_ | refine ab ?_ | refine al ?_ | ((first | refine ar ?_ | refine ad ty_mix (by kernel_rfl) ?_ | refine ac ?_ | refine ae ?_ | with_reducible refine Later.mk ?_); simp only [evD, evL, iteL, S.arg.eq_12, S.asL.eq_6, St.said, St.asked, evStep, evOp, evP, St.init, St.app, srcStep, kill, setMany, loadS, fieldS, buildS, toks, Fin, upd_app, Array.isEmpty, Nat.reduceLT, Nat.reduceAdd, Nat.reduceMul, Nat.reduceLeDiff, Nat.reduceSub, Nat.reduceEqDiff, reduceCtorEq, reduceIte, ↓Opt.is, ↓Opt.no, ↓Asks.yes, ↓Asks.no, tyL, encL, getI h, asB]))
    refine ⟨fun h3 => ?_, fun h3 => ?_⟩
    · repeat (first | refine aq ?_ | refine ap (by rfl : apartB 0 _ _ = true) ?_ | refine ak ?_ | refine ab ?_ | refine al ?_ | ((first | refine ar ?_ | refine ad ty_mix (by kernel_rfl) ?_ | refine ac ?_ | refine ae ?_ | with_reducible refine Later.mk ?_); simp only [evD, evL, iteL, S.arg.eq_12, S.asL.eq_6, St.said, St.asked, evStep, evOp, evP, St.init, St.app, srcStep, kill, setMany, loadS, fieldS, buildS, toks, Fin, upd_app, Array.isEmpty, Nat.reduceLT, Nat.reduceAdd, Nat.reduceMul, Nat.reduceLeDiff, Nat.reduceSub, Nat.reduceEqDiff, reduceCtorEq, reduceIte, ↓Opt.is, ↓Opt.no, ↓Asks.yes, ↓Asks.no, tyL, encL, asB]))
      refine Ab.ret ?_
      simp only [evD, evL, iteL, S.arg.eq_12, S.asL.eq_6, St.said, St.asked, evStep, evOp, evP, St.init, St.app, srcStep, kill, setMany, loadS, fieldS, buildS, toks, Fin, upd_app, Array.isEmpty, Nat.reduceLT, Nat.reduceAdd, Nat.reduceMul, Nat.reduceLeDiff, Nat.reduceSub, Nat.reduceEqDiff, reduceCtorEq, reduceIte, ↓Opt.is, ↓Opt.no, ↓Asks.yes, ↓Asks.no, tyL, Try.f48]
      rw [idxOf_at h (fun j hj => hI j (by omega) hj) h3]
    · repeat (first | refine aq ?_ | refine ap (by rfl : apartB 0 _ _ = true) ?_ | refine ak ?_ | refine ab ?_ | refine al ?_ | ((first | refine ar ?_ | refine ad ty_mix (by kernel_rfl) ?_ | refine ac ?_ | refine ae ?_ | with_reducible refine Later.mk ?_); simp only [evD, evL, iteL, S.arg.eq_12, S.asL.eq_6, St.said, St.asked, evStep, evOp, evP, St.init, St.app, srcStep, kill, setMany, loadS, fieldS, buildS, toks, Fin, upd_app, Array.isEmpty, Nat.reduceLT, Nat.reduceAdd, Nat.reduceMul, Nat.reduceLeDiff, Nat.reduceSub, Nat.reduceEqDiff, reduceCtorEq, reduceIte, ↓Opt.is, ↓Opt.no, ↓Asks.yes, ↓Asks.no, tyL, encL, hw, asB]))
      refine ⟨h, fun j hj hji => ?_, ?_⟩
      · by_cases e : j = i
        · subst e; exact h3
        · exact hI j hj (by omega)
      · ((first | refine Le.mk rfl ?_ ?_ | refine LeTo.mk rfl ?_ ?_) <;> simp only [evD, evL, iteL, S.arg.eq_12, S.asL.eq_6, St.said, St.asked, evStep, evOp, evP, St.init, St.app, srcStep, kill, setMany, loadS, fieldS, buildS, toks, Fin, upd_app, Array.isEmpty, Nat.reduceLT, Nat.reduceAdd, Nat.reduceMul, Nat.reduceLeDiff, Nat.reduceSub, Nat.reduceEqDiff, reduceCtorEq, reduceIte, ↓Opt.is, ↓Opt.no, ↓Asks.yes, ↓Asks.no, tyL, encL, leL, leD, ne_eq])
  · have h : i = l.length := by have := of_decide_eq_false h; omega
    subst h
    repeat (first | refine aq ?_ | refine ap (by rfl : apartB 0 _ _ = true) ?_ | refine ak ?_ | refine ab ?_ | refine al ?_ | ((first | refine ar ?_ | refine ad ty_mix (by kernel_rfl) ?_ | refine ac ?_ | refine ae ?_ | with_reducible refine Later.mk ?_); simp only [evD, evL, iteL, S.arg.eq_12, S.asL.eq_6, St.said, St.asked, evStep, evOp, evP, St.init, St.app, srcStep, kill, setMany, loadS, fieldS, buildS, toks, Fin, upd_app, Array.isEmpty, Nat.reduceLT, Nat.reduceAdd, Nat.reduceMul, Nat.reduceLeDiff, Nat.reduceSub, Nat.reduceEqDiff, reduceCtorEq, reduceIte, ↓Opt.is, ↓Opt.no, ↓Asks.yes, ↓Asks.no, tyL, encL, asB]))
    refine Ab.ret ?_
    simp only [evD, evL, iteL, S.arg.eq_12, S.asL.eq_6, St.said, St.asked, evStep, evOp, evP, St.init, St.app, srcStep, kill, setMany, loadS, fieldS, buildS, toks, Fin, upd_app, Array.isEmpty, Nat.reduceLT, Nat.reduceAdd, Nat.reduceMul, Nat.reduceLeDiff, Nat.reduceSub, Nat.reduceEqDiff, reduceCtorEq, reduceIte, ↓Opt.is, ↓Opt.no, ↓Asks.yes, ↓Asks.no, tyL, Try.f48]
    rw [idxOf_no (fun j hj => hI j hj hj)]
theorem rankP_step {L : List (List Int)} {l : List Int} {i : Nat} (h : i < L.length) (h' : i < l.length) : rankP L l (i + 1) = IntKind.i64.wrap (IntKind.i64.wrap (rankP L l i * ((L[i]).length : Int)) + idxOf (fun y => l[i] == y) L[i]) := by
  rw [rankP, List.getD_eq_getElem?_getD, List.getElem?_eq_getElem h, List.getD_eq_getElem?_getD, List.getElem?_eq_getElem h']
  rfl
end Go.Proofs.Ytlcogbmceanghaa.Ab
